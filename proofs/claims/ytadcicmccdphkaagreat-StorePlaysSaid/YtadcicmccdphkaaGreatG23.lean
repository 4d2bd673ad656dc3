/-
  The contract of the reference's ReadNetwork. No statement is proved here; no conditions.
-/
import Derived.Test.YtadcicmccdphkaaGreatG20
import Derived.Test.YtadcicmccdphkaaGreatG22
namespace Go.Proofs.YtadcicmccdphkaaGreat
open Go.RowKit Go.Joins
open List (getElem_toArray getElem_cons_zero getElem_cons_succ setIfInBounds_toArray set_cons_zero set_cons_succ)

theorem nums_getD (k q : Nat) (l : List Int) (i : Nat) (hi : i < q) : (nums k q l).getD i 0 = num (sub l (i * k) k) := by
 induction q with
 | zero => omega
 | succ q ih =>
  rw [nums]
  rcases Nat.lt_or_ge i q with h | h
  ·simp only [List.getD]
   rw [List.getElem?_append_left (by rw [nums_length]; exact h)]
   exact ih h
  ·obtain rfl : i = q := by omega
   simp only [List.getD]
   rw [List.getElem?_append_right (by rw [nums_length]; exact Nat.le_refl _), nums_length]
   simp [sub]
set_option maxRecDepth 100000 in
set_option maxHeartbeats 8000000 in
theorem rreadnetwork_any (A : Option Addr) (n c : Nat) (l : List Int) (w : World) (hn : l.length = n) (hb : Bt w A l) (hy : Byt l) (hc : n ≤ c) (hl : n ≤ 5000) :
  Calls Tryz.prog 63 #[.slice A n c] w fun e w' => ∃ A' m' c', m' = (rdNL l).length ∧ e = .returned (.tuple #[.agg #[.int .u32 (rdNM l), .slice A' m' c'], .int .i64 (rdNE l)]) ∧ Bs .u32 w' w'.heap.size A' (rdNL l) ∧ Below w.heap.size w w' := by
 obtain ⟨W0, hW0⟩ : ∃ V, w.alloc (.cells #[Value.int .u32 0, .slice none 0 0] 108) = V := ⟨_, rfl⟩
 have bW0 : Below w.heap.size w W0 := by rw [← hW0]; exact below_alloc1 _ _
 have sW0 : W0.heap.size = w.heap.size + 1 := by rw [← hW0]; simp
 have KZ : Hid (∀ V, Below W0.heap.size W0 V → V.heap[w.heap.size]? = some (.cells #[Value.int .u32 0, .slice none 0 0] 108)) :=
  Lib.hid (fun V hV => by rw [hV.block _ (by omega), ← hW0]; exact alloc_at _ _ _ (by omega))
 have HB : Hid (Below w.heap.size w W0) := Lib.hid bW0
 have sh2 : shN l → rdNE l = 2 ∧ rdNM l = 0 ∧ rdNL l = [] := fun h => by
  have e : rdNE l = 2 := by unfold rdNE; rw [if_pos h]
  refine ⟨e, ?_, ?_⟩
  ·unfold rdNM; rw [e]; rfl
  ·unfold rdNL; rw [e]; rfl
 have bad3 : ¬ shN l → okN l = false → rdNE l = 3 ∧ rdNM l = 0 ∧ rdNL l = [] := fun h h2 => by
  have e : rdNE l = 3 := by unfold rdNE; rw [if_neg h, if_neg (by rw [h2]; simp)]
  refine ⟨e, ?_, ?_⟩
  ·unfold rdNM; rw [e]; rfl
  ·unfold rdNL; rw [e]; rfl
 have CR := rrows_any A c l W0.heap.size 4 W0 (hb.step bW0) hy (by omega) (Nat.le_refl _) (by omega)
 have HW0 := Lib.hid sW0
 by_cases hm : n % 4 = 0
 case neg =>
  obtain ⟨e1, e2, e3⟩ := sh2 (by unfold shN; omega)
  have r1 : rowsE l 4 = 2 := by
   unfold rowsE
   rw [if_neg (by omega), if_pos]
   rw [hn]
   simp
   omega
  have r2 : rowsL l 4 = [] := by simp [rowsL, r1]
  rw [r1, r2, hn] at CR
  rw [e1, e2, e3]
  clear r1 r2 e1 e2 e3 hb hy bW0 hn sh2 bad3 hm
  go_enter Tryz.func63, Tryz.ntmps63
  go_wp2_with fail
  refine CR.mono ?_
  rintro e Y1 ⟨A1, c1, rfl, -, u1⟩
  have z1 := KZ.out _ u1
  obtain ⟨a0, a1, f0, f1, hzl⟩ := kz2_at z1
  have KR := Lib.hid <| kz2_get z1 (Value.int .u32 0) (.slice none 0 0)
  have TF := Lib.hid <| below_st2 (HB.out.trans (u1.mono HB.out.size)) (Nat.le_refl _) (Value.int .u32 0) (.slice none 0 0)
  clear z1 KZ u1 CR
  go_wp2
  obtain ⟨r0, r1⟩ := KR.out
  refine bodyPost_ret (v := .tuple #[.agg #[.int .u32 0, .slice none 0 0], .int .i64 2]) (by simp [results, Tryz.results63, go_sem, r0, r1]) rfl ⟨none, 0, 0, rfl, rfl, Bs.nil _, TF.out⟩
 obtain ⟨q, hq⟩ : ∃ q, n / 4 = q := ⟨_, rfl⟩
 have r1 : rowsE l 4 = 0 := by
  unfold rowsE
  rw [if_neg (by omega), if_neg]
  rw [hn]
  simp
  omega
 have r2 : rowsL l 4 = nums 4 q l := by
  simp only [rowsL, r1, if_true]
  rw [hn, ← hq]
  rfl
 rw [r1, r2, nums_length, hn] at CR
 clear r1 r2
 by_cases hq2 : q < 2
 ·obtain ⟨e1, e2, e3⟩ := sh2 (by unfold shN; omega)
  have hq' : (q : Int) < 2 := by omega
  rw [e1, e2, e3]
  clear e1 e2 e3 hb hy bW0 hn sh2 bad3 hm hq
  go_enter Tryz.func63, Tryz.ntmps63
  go_wp2_with fail
  refine CR.mono ?_
  rintro e Y1 ⟨A1, c1, rfl, -, u1⟩
  have z1 := KZ.out _ u1
  obtain ⟨a0, a1, f0, f1, hzl⟩ := kz2_at z1
  have KR := Lib.hid <| kz2_get z1 (Value.int .u32 0) (.slice none 0 0)
  have TF := Lib.hid <| below_st2 (HB.out.trans (u1.mono HB.out.size)) (Nat.le_refl _) (Value.int .u32 0) (.slice none 0 0)
  clear z1 KZ u1 CR
  go_wp2
  obtain ⟨r0, r1⟩ := KR.out
  refine bodyPost_ret (v := .tuple #[.agg #[.int .u32 0, .slice none 0 0], .int .i64 2]) (by simp [results, Tryz.results63, go_sem, r0, r1]) rfl ⟨none, 0, 0, rfl, rfl, Bs.nil _, TF.out⟩
 have hsh : ¬ shN l := by unfold shN; omega
 have hq' : ¬ ((q : Int) < 2) := by omega
 have hq'' : (0 : Int) < (q : Int) := by omega
 have hq3 : 0 < q := by omega
 have hi := okN_iff hy hsh
 have hcn : cN l = q - 1 := by unfold cN; omega
 have v0 := rM_bd4 hy (by omega)
 have G0 : (nums 4 q l).getD 0 0 = rM l := by rw [nums_getD 4 q l 0 hq3]; rfl
 have GD : (nums 4 q l).drop 1 = rN l := by
  have := nums_drop 4 1 (q - 1) l
  rw [show 1 + (q - 1) = q by omega] at this
  rw [this, rN, hcn]
 have GL : (nums 4 q l).length = q := nums_length _ _ _
 have bad4 := bad3 hsh
 rw [hcn] at hi
 have RL : (rN l).length = q - 1 := by rw [rN_length, hcn]
 have good : okN l = true → rdNE l = 0 ∧ rdNM l = rM l ∧ rdNL l = rN l := fun h => by
  have e : rdNE l = 0 := by unfold rdNE; rw [if_neg hsh, if_pos h]
  exact ⟨e, by unfold rdNM; rw [if_pos e], by unfold rdNL; rw [if_pos e]⟩
 have HRL := Lib.hid RL
 generalize nums 4 q l = R0 at *
 clear hb hy bW0 hn sh2 bad3 hm hq hsh hcn RL
 have HGL := Lib.hid GL
 have HGD := Lib.hid GD
 have HG0 := Lib.hid G0
 clear GL GD G0
 have cM := fun V => risMask_any (rM l) V v0.1
 by_cases hM : isM (rM l) = true
 case neg =>
  obtain ⟨e1, e2, e3⟩ := bad4 (Bool.eq_false_iff.2 fun h => hM (hi.1 h).1)
  have hM2 : isM (rM l) = false := by simpa using hM
  rw [e1, e2, e3]
  rw [hM2] at cM
  generalize rM l = M at *
  generalize rN l = R at *
  clear e1 e2 e3 hi bad4 good hM hM2
  go_enter Tryz.func63, Tryz.ntmps63
  go_wp2_with fail
  refine CR.mono ?_
  rintro e Y1 ⟨A1, c1, rfl, o1, u1⟩
  obtain ⟨g, rfl, _, hg⟩ := own_some o1 (by rw [HGL.out]; exact hq3)
  have g0 := own_cellAt o1 (i := 0) (by rw [HGL.out]; exact hq3)
  rw [HG0.out] at g0
  have z1 := KZ.out _ u1
  obtain ⟨a0, a1, f0, f1, hzl⟩ := kz2_at z1
  have KR := Lib.hid <| kz2_get z1 (Value.int .u32 0) (.slice none 0 0)
  have TF := Lib.hid <| below_st2 (HB.out.trans (u1.mono HB.out.size)) (Nat.le_refl _) (Value.int .u32 0) (.slice none 0 0)
  clear CR o1 u1 KZ z1
  go_wp2_with fail
  refine (cM _).mono ?_
  rintro e _ ⟨rfl, rfl⟩
  go_wp2
  obtain ⟨r0, r1⟩ := KR.out
  refine bodyPost_ret (v := .tuple #[.agg #[.int .u32 0, .slice none 0 0], .int .i64 3]) (by simp [results, Tryz.results63, go_sem, r0, r1]) rfl ⟨none, 0, 0, rfl, rfl, Bs.nil _, TF.out⟩
 rw [hM] at cM
 by_cases h2 : 201 < q
 ·obtain ⟨e1, e2, e3⟩ := bad4 (Bool.eq_false_iff.2 fun h => by have := (hi.1 h).2; omega)
  have h2' : (q : Int) > 201 := by omega
  rw [e1, e2, e3]
  generalize rM l = M at *
  generalize rN l = R at *
  clear e1 e2 e3 hi bad4 good hM
  go_enter Tryz.func63, Tryz.ntmps63
  go_wp2_with fail
  refine CR.mono ?_
  rintro e Y1 ⟨A1, c1, rfl, o1, u1⟩
  obtain ⟨g, rfl, _, hg⟩ := own_some o1 (by rw [HGL.out]; exact hq3)
  have g0 := own_cellAt o1 (i := 0) (by rw [HGL.out]; exact hq3)
  rw [HG0.out] at g0
  have z1 := KZ.out _ u1
  obtain ⟨a0, a1, f0, f1, hzl⟩ := kz2_at z1
  have KR := Lib.hid <| kz2_get z1 (Value.int .u32 0) (.slice none 0 0)
  have TF := Lib.hid <| below_st2 (HB.out.trans (u1.mono HB.out.size)) (Nat.le_refl _) (Value.int .u32 0) (.slice none 0 0)
  clear CR o1 u1 KZ z1
  go_wp2_with fail
  refine (cM _).mono ?_
  rintro e _ ⟨rfl, rfl⟩
  go_wp2
  obtain ⟨r0, r1⟩ := KR.out
  refine bodyPost_ret (v := .tuple #[.agg #[.int .u32 0, .slice none 0 0], .int .i64 3]) (by simp [results, Tryz.results63, go_sem, r0, r1]) rfl ⟨none, 0, 0, rfl, rfl, Bs.nil _, TF.out⟩
 have h2' : ¬ ((q : Int) > 201) := by omega
 obtain ⟨e1, e2, e3⟩ := good (hi.2 ⟨hM, by omega⟩)
 rw [e1, e2, e3]
 generalize rM l = M at *
 generalize rN l = R at *
 clear e1 e2 e3 hi bad4 good hM h2
 go_enter Tryz.func63, Tryz.ntmps63
 go_wp2_with fail
 refine CR.mono ?_
 rintro e Y1 ⟨A1, c1, rfl, o1, u1⟩
 have hc1 := o1.cap_le
 rw [HGL.out] at hc1
 obtain ⟨g, rfl, hg0, hg⟩ := own_some o1 (by rw [HGL.out]; exact hq3)
 have g0 := own_cellAt o1 (i := 0) (by rw [HGL.out]; exact hq3)
 rw [HG0.out] at g0
 have KS : Hid (∀ V, Below Y1.heap.size Y1 V → V.cell? ⟨g, 0, none⟩ = some (.int .u32 M)) := Lib.hid (fun V hV => (hV.cell (p := ⟨g, 0, none⟩) hg).trans g0)
 have HO := Lib.hid o1
 have HU := Lib.hid u1
 have hne : g ≠ w.heap.size := by omega
 have n1 : ¬ (c1 = 1) := by omega
 have i1 : (1 : Int) ≤ (q : Int) := by omega
 have i2 : (1 : Int) ≤ (c1 : Int) := by omega
 have tt : Below Y1.heap.size Y1 Y1 := Below.refl _ _
 clear CR o1 u1 hg hg0 sW0
 go_wp2_with fail
 refine (cM _).mono ?_
 rintro e _ ⟨rfl, rfl⟩
 clear g0
 go_wp2_with fail
 refine wp_region_held_drew (S := fun V => V.cell? ⟨g, 0, none⟩ = some (.int .u32 M)) (by kernel_rfl) (KS.out _ tt.drew) (fun hHeld => ?_)
 replace tt : Below Y1.heap.size Y1 Y1.drew := tt.drew
 generalize hX0 : Y1.drew = X0 at tt hHeld ⊢
 clear hX0
 refine wpAnyH_take (i := 0) (v := ?_) rfl (by kernel_rfl) (by kernel_rfl) (by kernel_rfl) (fun _ _ _ h => h) (Or.inl ⟨by rfl, ?_⟩) (by assumption) ?_
 rotate_left
 ·(intro w' hSw; (try dsimp only at hSw); go_simp; try with_reducible rfl)
 simp only [Act.put, getElem_toArray, getElem_cons_zero, setIfInBounds_toArray, set_cons_zero, set_cons_succ]
 refine wpAnyH_take (i := 1) (v := ?_) rfl (by kernel_rfl) (by kernel_rfl) (by kernel_rfl) (fun _ _ _ h => h) (Or.inl ⟨by rfl, ?_⟩) (by assumption) ?_
 rotate_left
 ·(intro w' hSw; (try dsimp only at hSw); go_simp; try with_reducible rfl)
 simp only [Act.put, getElem_toArray, getElem_cons_zero, getElem_cons_succ, setIfInBounds_toArray, set_cons_zero, set_cons_succ]
 refine wpAnyH_take (i := 2) (v := ?_) rfl (by kernel_rfl) (by kernel_rfl) (by kernel_rfl) (fun _ _ _ h => h) (Or.inl ⟨by rfl, ?_⟩) (by assumption) ?_
 rotate_left
 ·(intro w' hSw; (try dsimp only at hSw); go_simp; try with_reducible rfl)
 simp only [Act.put, getElem_toArray, getElem_cons_zero, getElem_cons_succ, setIfInBounds_toArray, set_cons_zero, set_cons_succ]
 refine wpAnyH_take (i := 3) (v := ?_) rfl (by kernel_rfl) (by kernel_rfl) (by kernel_rfl) (fun _ _ _ h => h) (Or.inl ⟨by rfl, ?_⟩) (by assumption) ?_
 rotate_left
 ·(intro w' hSw; (try dsimp only at hSw); go_simp; try with_reducible rfl)
 simp only [Act.put, getElem_toArray, getElem_cons_zero, getElem_cons_succ, setIfInBounds_toArray, set_cons_zero, set_cons_succ]
 refine wpAnyH_take (i := 4) (v := .slice (some ⟨g, 1, none⟩) (q - 1) (c1 - 1)) rfl (by kernel_rfl) (by kernel_rfl) (by kernel_rfl) (fun _ _ _ h => h) (Or.inl ⟨by rfl, ?_⟩) (by assumption) ?_
 ·(intro w' hSw; (try dsimp only at hSw); go_simp; try rfl)
 simp only [Act.put, getElem_toArray, getElem_cons_zero, getElem_cons_succ, setIfInBounds_toArray, set_cons_zero, set_cons_succ]
 refine wpAnyH_take (i := 5) (v := .agg #[.int .u32 M, .slice (some ⟨g, 1, none⟩) (q - 1) (c1 - 1)]) rfl (by kernel_rfl) (by kernel_rfl) (by kernel_rfl) (fun _ _ _ h => h) (Or.inl ⟨by rfl, ?_⟩) (by assumption) ?_
 ·(intro w' hSw; (try dsimp only at hSw); go_simp; try rfl)
 simp only [Act.put, getElem_toArray, getElem_cons_zero, getElem_cons_succ, setIfInBounds_toArray, set_cons_zero, set_cons_succ]
 refine wpAnyH_ready (rs := [6]) (by kernel_rfl) (by simp) ?_
 refine AllReadyH.cons rfl (fun K hK => ?_) AllReadyH.nil
 have z1 := KZ.out _ (HU.out.trans (tt.mono HU.out.size))
 obtain ⟨a0, a1, f0, f1, hzl⟩ := kz2_at z1
 have KR := Lib.hid <| kz2_get z1 (Value.int .u32 M) (.slice (some ⟨g, 1, none⟩) (q - 1) (c1 - 1))
 have TF : Hid (Below w.heap.size w (st2 X0 w.heap.size (Value.int .u32 M) (.slice (some ⟨g, 1, none⟩) (q - 1) (c1 - 1)))) := Lib.hid (below_st2 (HB.out.trans ((HU.out.trans (tt.mono HU.out.size)).mono HB.out.size)) (Nat.le_refl _) _ _)
 have KF : Hid ((st2 X0 w.heap.size (Value.int .u32 M) (.slice (some ⟨g, 1, none⟩) (q - 1) (c1 - 1))).cell? ⟨g, 0, none⟩ = some (.int .u32 M)) := Lib.hid ((cell_st2 (p := ⟨g, 0, none⟩) hne _ _).trans (KS.out _ tt))
 have PF : Hid (Bs .u32 (st2 X0 w.heap.size (Value.int .u32 M) (.slice (some ⟨g, 1, none⟩) (q - 1) (c1 - 1))) (st2 X0 w.heap.size (Value.int .u32 M) (.slice (some ⟨g, 1, none⟩) (q - 1) (c1 - 1))).heap.size (some ⟨g, 1, none⟩) R) := Lib.hid (by
  have q3 := ((HO.out.step' tt).far2 (b := w.heap.size) (by have := HW0.out; omega) (Value.int .u32 M) (.slice (some ⟨g, 1, none⟩) (q - 1) (c1 - 1))).bs
  rw [← HGD.out]
  exact q3.drop 1 _ (fun _ => by simp [addr_add]))
 clear hHeld z1
 go_simp
 refine hK.out _ _ KF.out (fun _ => ?_)
 clear hK K
 refine wpAnyH_ready (rs := [7]) (by kernel_rfl) (by simp) ?_
 refine AllReadyH.cons rfl (fun K hK => ?_) AllReadyH.nil
 go_simp
 refine hK.out _ _ KF.out (fun _ => ?_)
 clear hK K
 refine wpAnyH_done (by kernel_rfl) ?_ _
 go_wp2
 obtain ⟨r0, r1⟩ := KR.out
 refine bodyPost_ret (v := .tuple #[.agg #[.int .u32 M, .slice (some ⟨g, 1, none⟩) (q - 1) (c1 - 1)], .int .i64 0]) (by simp [results, Tryz.results63, go_sem, r0, r1]) rfl ⟨_, _, _, HRL.out.symm, rfl, PF.out, TF.out⟩
end Go.Proofs.YtadcicmccdphkaaGreat
