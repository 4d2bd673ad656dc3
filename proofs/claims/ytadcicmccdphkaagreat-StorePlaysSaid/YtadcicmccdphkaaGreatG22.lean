/-
  Contracts of the reference's ReadSummary and ReadExternal. No statement is proved here; no conditions.
-/
import Derived.Test.YtadcicmccdphkaaGreatG19
import Derived.Test.YtadcicmccdphkaaGreatG21
namespace Go.Proofs.YtadcicmccdphkaaGreat
open Go.RowKit Go.Joins
open List (getElem_toArray getElem_cons_zero getElem_cons_succ setIfInBounds_toArray set_cons_zero set_cons_succ)

theorem own_some {k : IntKind} {e : TypeId} {w : World} {base c : Nat} {A : Option Addr} {l : List Int} (h : Own k e w base A c l) (hl : 0 < l.length) : ∃ g, A = some ⟨g, 0, none⟩ ∧ base ≤ g ∧ g < w.heap.size := by
 rcases h.form with ⟨_, _, rfl⟩ | ⟨g, _, h1, h2, h3, _⟩
 ·simp at hl
 ·exact ⟨g, h1, h2, h3⟩
theorem own_cellAt {k : IntKind} {e : TypeId} {w : World} {base g c : Nat} {l : List Int} (h : Own k e w base (some ⟨g, 0, none⟩) c l) {i : Nat} (hi : i < l.length) : w.cell? ⟨g, i, none⟩ = some (.int k (l.getD i 0)) := by
 obtain ⟨b, off, hA, -, hc⟩ := h.bs.at_ hi
 injection hA with hA
 injection hA with h1 h2
 subst h1 h2
 rwa [Nat.zero_add] at hc
set_option maxRecDepth 100000 in
set_option maxHeartbeats 8000000 in
theorem rreadsummary_any (A : Option Addr) (n c : Nat) (l : List Int) (w : World) (hn : l.length = n) (hb : Bt w A l) (hy : Byt l) (hc : n ≤ c) (hl : n ≤ 5000) :
  Calls Tryz.prog 64 #[.slice A n c] w fun e w' => e = .returned (.tuple #[.agg #[.int .u32 (rdSM l), .int .i64 (rdSC l)], .int .i64 (rdSE l)]) ∧ Below w.heap.size w w' := by
 obtain ⟨W0, hW0⟩ : ∃ V, w.alloc (.cells #[Value.int .u32 0, .int .i64 0] 112) = V := ⟨_, rfl⟩
 have bW0 : Below w.heap.size w W0 := by rw [← hW0]; exact below_alloc1 _ _
 have sW0 : W0.heap.size = w.heap.size + 1 := by rw [← hW0]; simp
 have KZ : Hid (∀ V, Below W0.heap.size W0 V → V.heap[w.heap.size]? = some (.cells #[Value.int .u32 0, .int .i64 0] 112)) :=
  Lib.hid (fun V hV => by rw [hV.block _ (by omega), ← hW0]; exact alloc_at _ _ _ (by omega))
 have HB : Hid (Below w.heap.size w W0) := Lib.hid bW0
 by_cases h8 : n < 8
 ·have e4 : rdSE l = 2 := by unfold rdSE; rw [if_pos (by omega)]
  have e5 : rdSM l = 0 := by unfold rdSM; rw [e4]; rfl
  have e6 : rdSC l = 0 := by unfold rdSC; rw [e4]; rfl
  rw [e4, e5, e6]
  clear e5 e6
  have h8' : (n : Int) < 8 := by omega
  have z1 := KZ.out _ (Below.refl _ _)
  clear e4 hb hy bW0 hn KZ
  obtain ⟨a0, a1, f0, f1, hzl⟩ := kz2_at z1
  have KR := Lib.hid <| kz2_get z1 (Value.int .u32 0) (.int .i64 0)
  have TF := Lib.hid <| below_st2 HB.out (Nat.le_refl _) (Value.int .u32 0) (.int .i64 0)
  clear z1
  go_enter Tryz.func64, Tryz.ntmps64
  go_wp2
  obtain ⟨r0, r1⟩ := KR.out
  refine bodyPost_ret (v := .tuple #[.agg #[.int .u32 0, .int .i64 0], .int .i64 2]) (by simp [results, Tryz.results64, go_sem, r0, r1]) rfl ⟨rfl, TF.out⟩
 obtain ⟨b, off, rfl, hbl, -⟩ := hb (by rintro rfl; simp at hn; omega)
 have hb0 := hb.step bW0
 have hi := okS_iff hy (show 8 ≤ l.length by omega)
 have bad : okS l = false → rdSE l = 3 := fun q => by unfold rdSE; rw [if_neg (by omega), if_neg (by rw [q]; simp)]
 have good : okS l = true → rdSE l = 0 := fun q => by unfold rdSE; rw [if_neg (by omega), if_pos q]
 have h8' : ¬ ((n : Int) < 8) := by omega
 by_cases h9 : n = 8
 case neg =>
  have e4 : rdSE l = 3 := bad (Bool.eq_false_iff.2 fun q => by have := (hi.1 q).1; omega)
  have e5 : rdSM l = 0 := by unfold rdSM; rw [e4]; rfl
  have e6 : rdSC l = 0 := by unfold rdSC; rw [e4]; rfl
  rw [e4, e5, e6]
  clear e5 e6
  have h9' : (n : Int) > 8 := by omega
  have z1 := KZ.out _ (Below.refl _ _)
  clear e4 hb hy bW0 hn KZ hi bad good hb0 h9 hbl h8
  obtain ⟨a0, a1, f0, f1, hzl⟩ := kz2_at z1
  have KR := Lib.hid <| kz2_get z1 (Value.int .u32 0) (.int .i64 0)
  have TF := Lib.hid <| below_st2 HB.out (Nat.le_refl _) (Value.int .u32 0) (.int .i64 0)
  clear z1
  go_enter Tryz.func64, Tryz.ntmps64
  go_wp2
  obtain ⟨r0, r1⟩ := KR.out
  refine bodyPost_ret (v := .tuple #[.agg #[.int .u32 0, .int .i64 0], .int .i64 3]) (by simp [results, Tryz.results64, go_sem, r0, r1]) rfl ⟨rfl, TF.out⟩
 have h9' : ¬ ((n : Int) > 8) := by omega
 have HLN : Hid (l.length = 8) := Lib.hid (by omega)
 have g4 := hb0.get (i := 4) (by omega)
 have j4 : (4 : Int) < (n : Int) := by omega
 have j4' : 4 < n := by omega
 have CR := rrows_any (some ⟨b, off, none⟩) c l W0.heap.size 4 W0 hb0 hy (by omega) (Nat.le_refl _) (by omega)
 have r1 : rowsE l 4 = 0 := by
  unfold rowsE
  rw [if_neg (by omega), if_neg]
  rw [hn, h9]
  decide
 have r2 : rowsL l 4 = [num (sub l 0 4), num (sub l 4 4)] := by
  simp only [rowsL, r1, if_true]
  rw [hn, h9]
  rfl
 rw [r1, r2, hn] at CR
 have v0 := rM_bd hy (by omega)
 have w4 := byt_getD hy 4
 have hbk := hb0.blk (by rintro rfl; simp at hn; omega)
 have v5 := rC_bd hy (by omega)
 have hc4 := rC_four hy (show 8 ≤ l.length by omega)
 have e0 : num (sub l 0 4) = rM l := rfl
 rw [e0] at CR
 clear e0
 clear r1 r2 hb bW0 hbl hb0 hy hn
 obtain ⟨x4, hx4⟩ : ∃ x4, l.getD 4 0 = x4 := ⟨_, rfl⟩
 rw [hx4] at g4 w4 hi hc4
 clear hx4
 by_cases hx : x4 = 0
 case neg =>
  have e4 : rdSE l = 3 := bad (Bool.eq_false_iff.2 fun q => by exact hx (hi.1 q).2.1)
  have e5 : rdSM l = 0 := by unfold rdSM; rw [e4]; rfl
  have e6 : rdSC l = 0 := by unfold rdSC; rw [e4]; rfl
  rw [e4, e5, e6]
  clear e5 e6
  have d : (x4 == 0) = false := by simpa using hx
  have d2 : (x4 != 0) = true := by simp [bne, d]
  have z1 := KZ.out _ (Below.refl _ _)
  clear e4 KZ hi bad good h9 hx hc4 v5 v0 CR hbk
  obtain ⟨a0, a1, f0, f1, hzl⟩ := kz2_at z1
  have KR := Lib.hid <| kz2_get z1 (Value.int .u32 0) (.int .i64 0)
  have TF := Lib.hid <| below_st2 HB.out (Nat.le_refl _) (Value.int .u32 0) (.int .i64 0)
  clear z1
  go_enter Tryz.func64, Tryz.ntmps64
  go_wp2
  obtain ⟨r0, r1⟩ := KR.out
  refine bodyPost_ret (v := .tuple #[.agg #[.int .u32 0, .int .i64 0], .int .i64 3]) (by simp [results, Tryz.results64, go_sem, r0, r1]) rfl ⟨rfl, TF.out⟩
 have d : (x4 == 0) = true := by simpa using hx
 have d2 : (x4 != 0) = false := by simp [bne, d]
 have HX := Lib.hid hx
 rw [hx] at hc4
 have hc5 : num (sub l 4 4) = rC l := by omega
 rw [hc5] at CR
 clear hx hc4 hc5 hbk
 by_cases hM : isM (rM l) = true
 case neg =>
  have e4 : rdSE l = 3 := bad (Bool.eq_false_iff.2 fun q => by exact hM (hi.1 q).2.2)
  have e5 : rdSM l = 0 := by unfold rdSM; rw [e4]; rfl
  have e6 : rdSC l = 0 := by unfold rdSC; rw [e4]; rfl
  rw [e4, e5, e6]
  clear e5 e6
  have hM2 : isM (rM l) = false := by simpa using hM
  have cM := fun V => risMask_any (rM l) V v0.1
  rw [hM2] at cM
  generalize rM l = M at *
  clear e4 hi bad good h9 h8 hM hM2 v0 w4
  go_enter Tryz.func64, Tryz.ntmps64
  go_wp2_with fail
  refine CR.mono ?_
  rintro e Y1 ⟨A1, c1, rfl, o1, u1⟩
  obtain ⟨g, rfl, _, hg⟩ := own_some o1 (by simp)
  have g0 := own_cellAt o1 (i := 0) (by simp)
  simp only [List.getD_cons_zero] at g0
  have z1 := KZ.out _ u1
  obtain ⟨a0, a1, f0, f1, hzl⟩ := kz2_at z1
  have KR := Lib.hid <| kz2_get z1 (Value.int .u32 0) (.int .i64 0)
  have TF := Lib.hid <| below_st2 (HB.out.trans (u1.mono HB.out.size)) (Nat.le_refl _) (Value.int .u32 0) (.int .i64 0)
  clear z1
  clear CR o1 u1 KZ
  go_wp2_with fail
  refine (cM _).mono ?_
  rintro e _ ⟨rfl, rfl⟩
  go_wp2
  obtain ⟨r0, r1⟩ := KR.out
  refine bodyPost_ret (v := .tuple #[.agg #[.int .u32 0, .int .i64 0], .int .i64 3]) (by simp [results, Tryz.results64, go_sem, r0, r1]) rfl ⟨rfl, TF.out⟩
 have e4 : rdSE l = 0 := good (hi.2 ⟨HLN.out, HX.out, hM⟩)
 have e5 : rdSM l = rM l := by unfold rdSM; rw [if_pos e4]
 have e6 : rdSC l = rC l := by unfold rdSC; rw [if_pos e4]
 rw [e4, e5, e6]
 have cM := fun V => risMask_any (rM l) V v0.1
 rw [hM] at cM
 generalize rM l = M at *
 generalize rC l = C at *
 clear e4 e5 e6 hi bad good h9 h8 hM w4 HX
 go_enter Tryz.func64, Tryz.ntmps64
 go_wp2_with fail
 refine CR.mono ?_
 rintro e Y1 ⟨A1, c1, rfl, o1, u1⟩
 obtain ⟨g, rfl, hg0, hg⟩ := own_some o1 (by simp)
 have g0 := own_cellAt o1 (i := 0) (by simp)
 have g1 := own_cellAt o1 (i := 1) (by simp)
 simp only [List.getD_cons_zero, List.getD_cons_succ] at g0 g1
 have KS : Hid (∀ V, Below Y1.heap.size Y1 V → V.cell? ⟨g, 0, none⟩ = some (.int .u32 M) ∧ V.cell? ⟨g, 1, none⟩ = some (.int .u32 C)) := Lib.hid (fun V hV => ⟨(hV.cell (p := ⟨g, 0, none⟩) hg).trans g0, (hV.cell (p := ⟨g, 1, none⟩) hg).trans g1⟩)
 have HU := Lib.hid u1
 have hne : g ≠ w.heap.size := by omega
 have tt : Below Y1.heap.size Y1 Y1 := Below.refl _ _
 clear CR o1 u1 hg g1 hg0 sW0
 go_wp2_with fail
 refine (cM _).mono ?_
 rintro e _ ⟨rfl, rfl⟩
 clear g0
 go_wp2_with fail
 refine wp_region_held_drew (S := fun V => V.cell? ⟨g, 0, none⟩ = some (.int .u32 M) ∧ V.cell? ⟨g, 1, none⟩ = some (.int .u32 C)) (by kernel_rfl) (KS.out _ tt.drew) (fun hHeld => ?_)
 replace tt : Below Y1.heap.size Y1 Y1.drew := tt.drew
 generalize hX0 : Y1.drew = X0 at tt hHeld ⊢
 clear hX0
 refine wpAnyH_take (i := 0) (v := ?_) rfl (by kernel_rfl) (by kernel_rfl) (by kernel_rfl) (fun _ _ _ h => h) (Or.inl ⟨by rfl, ?_⟩) (by assumption) ?_
 rotate_left
 ·(intro w' hSw; (try dsimp only at hSw); go_simp; try with_reducible rfl)
 simp only [Act.put, getElem_toArray, getElem_cons_zero, setIfInBounds_toArray, set_cons_zero, set_cons_succ]
 refine wpAnyH_take (i := 1) (v := ?_) rfl (by kernel_rfl) (by kernel_rfl) (by kernel_rfl) (fun _ _ _ h => h) (Or.inl ⟨by rfl, ?_⟩) (by assumption) ?_
 rotate_left
 ·(intro w' hSw; (try dsimp only at hSw); go_simp; try with_reducible rfl)
 simp only [Act.put, getElem_toArray, getElem_cons_zero, getElem_cons_succ, setIfInBounds_toArray, set_cons_zero, set_cons_succ]
 refine wpAnyH_take (i := 2) (v := ?_) rfl (by kernel_rfl) (by kernel_rfl) (by kernel_rfl) (fun _ _ _ h => h) (Or.inl ⟨by rfl, ?_⟩) (by assumption) ?_
 rotate_left
 ·(intro w' hSw; (try dsimp only at hSw); go_simp; try with_reducible rfl)
 simp only [Act.put, getElem_toArray, getElem_cons_zero, getElem_cons_succ, setIfInBounds_toArray, set_cons_zero, set_cons_succ]
 refine wpAnyH_take (i := 3) (v := ?_) rfl (by kernel_rfl) (by kernel_rfl) (by kernel_rfl) (fun _ _ _ h => h) (Or.inl ⟨by rfl, ?_⟩) (by assumption) ?_
 rotate_left
 ·(intro w' hSw; (try dsimp only at hSw); go_simp; try with_reducible rfl)
 simp only [Act.put, getElem_toArray, getElem_cons_zero, getElem_cons_succ, setIfInBounds_toArray, set_cons_zero, set_cons_succ]
 refine wpAnyH_take (i := 4) (v := ?_) rfl (by kernel_rfl) (by kernel_rfl) (by kernel_rfl) (fun _ _ _ h => h) (Or.inl ⟨by rfl, ?_⟩) (by assumption) ?_
 rotate_left
 ·(intro w' hSw; (try dsimp only at hSw); go_simp; try with_reducible rfl)
 simp only [Act.put, getElem_toArray, getElem_cons_zero, getElem_cons_succ, setIfInBounds_toArray, set_cons_zero, set_cons_succ]
 refine wpAnyH_take (i := 5) (v := ?_) rfl (by kernel_rfl) (by kernel_rfl) (by kernel_rfl) (fun _ _ _ h => h) (Or.inl ⟨by rfl, ?_⟩) (by assumption) ?_
 rotate_left
 ·(intro w' hSw; (try dsimp only at hSw); go_simp; try with_reducible rfl)
 simp only [Act.put, getElem_toArray, getElem_cons_zero, getElem_cons_succ, setIfInBounds_toArray, set_cons_zero, set_cons_succ]
 refine wpAnyH_take (i := 6) (v := .int .i64 C) rfl (by kernel_rfl) (by kernel_rfl) (by kernel_rfl) (fun _ _ _ h => h) (Or.inl ⟨by rfl, ?_⟩) (by assumption) ?_
 ·(intro w' hSw; (try dsimp only at hSw); go_simp; rw [wrap_i64 (by omega) (by omega)])
 simp only [Act.put, getElem_toArray, getElem_cons_zero, getElem_cons_succ, setIfInBounds_toArray, set_cons_zero, set_cons_succ]
 refine wpAnyH_take (i := 7) (v := .agg #[.int .u32 M, .int .i64 C]) rfl (by kernel_rfl) (by kernel_rfl) (by kernel_rfl) (fun _ _ _ h => h) (Or.inl ⟨by rfl, ?_⟩) (by assumption) ?_
 ·(intro w' hSw; (try dsimp only at hSw); go_simp; try rfl)
 simp only [Act.put, getElem_toArray, getElem_cons_zero, getElem_cons_succ, setIfInBounds_toArray, set_cons_zero, set_cons_succ]
 refine wpAnyH_ready (rs := [8]) (by kernel_rfl) (by simp) ?_
 refine AllReadyH.cons rfl (fun K hK => ?_) AllReadyH.nil
 have z1 := KZ.out _ (HU.out.trans (tt.mono HU.out.size))
 obtain ⟨a0, a1, f0, f1, hzl⟩ := kz2_at z1
 have KR := Lib.hid <| kz2_get z1 (Value.int .u32 M) (.int .i64 C)
 have TF : Hid (Below w.heap.size w (st2 X0 w.heap.size (Value.int .u32 M) (.int .i64 C))) := Lib.hid (below_st2 (HB.out.trans ((HU.out.trans (tt.mono HU.out.size)).mono HB.out.size)) (Nat.le_refl _) _ _)
 have KF : Hid ((st2 X0 w.heap.size (Value.int .u32 M) (.int .i64 C)).cell? ⟨g, 0, none⟩ = some (.int .u32 M) ∧ (st2 X0 w.heap.size (Value.int .u32 M) (.int .i64 C)).cell? ⟨g, 1, none⟩ = some (.int .u32 C)) := Lib.hid (by
  obtain ⟨y0, y1⟩ := KS.out _ tt
  exact ⟨(cell_st2 (p := ⟨g, 0, none⟩) hne _ _).trans y0, (cell_st2 (p := ⟨g, 1, none⟩) hne _ _).trans y1⟩)
 clear hHeld z1
 go_simp
 refine hK.out _ _ KF.out (fun _ => ?_)
 clear hK K
 refine wpAnyH_ready (rs := [9]) (by kernel_rfl) (by simp) ?_
 refine AllReadyH.cons rfl (fun K hK => ?_) AllReadyH.nil
 go_simp
 refine hK.out _ _ KF.out (fun _ => ?_)
 clear hK K
 refine wpAnyH_done (by kernel_rfl) ?_ _
 go_wp2
 obtain ⟨r0, r1⟩ := KR.out
 refine bodyPost_ret (v := .tuple #[.agg #[.int .u32 M, .int .i64 C], .int .i64 0]) (by simp [results, Tryz.results64, go_sem, r0, r1]) rfl ⟨rfl, TF.out⟩

set_option maxRecDepth 100000 in
set_option maxHeartbeats 8000000 in
theorem rreadexternal_any (A : Option Addr) (n c : Nat) (l : List Int) (w : World) (hn : l.length = n) (hb : Bt w A l) (hy : Byt l) (hc : n ≤ c) (hl : n ≤ 5000) :
  Calls Tryz.prog 65 #[.slice A n c] w fun e w' => e = .returned (.tuple #[.agg #[.int .u32 (rdX l).m, .bool (rdX l).s, .int .i64 (rdX l).c, .int .u32 (rdX l).f, .int .u32 (rdX l).t], .int .i64 (rdXE l)]) ∧ Below w.heap.size w w' := by
 obtain ⟨W0, hW0⟩ : ∃ V, w.alloc (.cells #[Value.int .u32 0, .bool false, .int .i64 0, .int .u32 0, .int .u32 0] 116) = V := ⟨_, rfl⟩
 have bW0 : Below w.heap.size w W0 := by rw [← hW0]; exact below_alloc1 _ _
 have sW0 : W0.heap.size = w.heap.size + 1 := by rw [← hW0]; simp
 have KZ : Hid (∀ V, Below W0.heap.size W0 V → V.heap[w.heap.size]? = some (.cells #[Value.int .u32 0, .bool false, .int .i64 0, .int .u32 0, .int .u32 0] 116)) :=
  Lib.hid (fun V hV => by rw [hV.block _ (by omega), ← hW0]; exact alloc_at _ _ _ (by omega))
 have HB : Hid (Below w.heap.size w W0) := Lib.hid bW0
 by_cases h8 : n < 16
 ·have e4 : rdXE l = 2 := by unfold rdXE; rw [if_pos (by omega)]
  have e5 : rdX l = zX := by unfold rdX; rw [e4]; rfl
  rw [e4, e5]
  clear e5
  have h8' : (n : Int) < 16 := by omega
  have z1 := KZ.out _ (Below.refl _ _)
  clear e4 hb hy bW0 hn KZ
  obtain ⟨a0, a1, a2, a3, a4, f0, f1, f2, f3, f4, hzl⟩ := kz5_at z1
  have KR := Lib.hid <| kz5_get z1 (Value.int .u32 0) (.bool false) (.int .i64 0) (.int .u32 0) (.int .u32 0)
  have TF := Lib.hid <| below_st5 HB.out (Nat.le_refl _) (Value.int .u32 0) (.bool false) (.int .i64 0) (.int .u32 0) (.int .u32 0)
  clear z1
  go_enter Tryz.func65, Tryz.ntmps65
  go_wp2
  obtain ⟨r0, r1, r2, r3, r4⟩ := KR.out
  refine bodyPost_ret (v := .tuple #[.agg #[.int .u32 0, .bool false, .int .i64 0, .int .u32 0, .int .u32 0], .int .i64 2]) (by simp [results, Tryz.results65, go_sem, r0, r1, r2, r3, r4]) rfl ⟨rfl, TF.out⟩
 obtain ⟨b, off, rfl, hbl, -⟩ := hb (by rintro rfl; simp at hn; omega)
 have hb0 := hb.step bW0
 have hi := okX_iff hy (show 16 ≤ l.length by omega)
 have bad : okX l = false → rdXE l = 3 := fun q => by unfold rdXE; rw [if_neg (by omega), if_neg (by rw [q]; simp)]
 have good : okX l = true → rdXE l = 0 := fun q => by unfold rdXE; rw [if_neg (by omega), if_pos q]
 have h8' : ¬ ((n : Int) < 16) := by omega
 by_cases h9 : n = 16
 case neg =>
  have e4 : rdXE l = 3 := bad (Bool.eq_false_iff.2 fun q => by have := (hi.1 q).1; omega)
  have e5 : rdX l = zX := by unfold rdX; rw [e4]; rfl
  rw [e4, e5]
  clear e5
  have h9' : (n : Int) > 16 := by omega
  have z1 := KZ.out _ (Below.refl _ _)
  clear e4 hb hy bW0 hn KZ hi bad good hb0 h9 hbl h8
  obtain ⟨a0, a1, a2, a3, a4, f0, f1, f2, f3, f4, hzl⟩ := kz5_at z1
  have KR := Lib.hid <| kz5_get z1 (Value.int .u32 0) (.bool false) (.int .i64 0) (.int .u32 0) (.int .u32 0)
  have TF := Lib.hid <| below_st5 HB.out (Nat.le_refl _) (Value.int .u32 0) (.bool false) (.int .i64 0) (.int .u32 0) (.int .u32 0)
  clear z1
  go_enter Tryz.func65, Tryz.ntmps65
  go_wp2
  obtain ⟨r0, r1, r2, r3, r4⟩ := KR.out
  refine bodyPost_ret (v := .tuple #[.agg #[.int .u32 0, .bool false, .int .i64 0, .int .u32 0, .int .u32 0], .int .i64 3]) (by simp [results, Tryz.results65, go_sem, r0, r1, r2, r3, r4]) rfl ⟨rfl, TF.out⟩
 have h9' : ¬ ((n : Int) > 16) := by omega
 have HLN : Hid (l.length = 16) := Lib.hid (by omega)
 have g4 := hb0.get (i := 4) (by omega)
 have j4 : (4 : Int) < (n : Int) := by omega
 have j4' : 4 < n := by omega
 have CR := rrows_any (some ⟨b, off, none⟩) c l W0.heap.size 4 W0 hb0 hy (by omega) (Nat.le_refl _) (by omega)
 have r1 : rowsE l 4 = 0 := by
  unfold rowsE
  rw [if_neg (by omega), if_neg]
  rw [hn, h9]
  decide
 have r2 : rowsL l 4 = [num (sub l 0 4), num (sub l 4 4), num (sub l 8 4), num (sub l 12 4)] := by
  simp only [rowsL, r1, if_true]
  rw [hn, h9]
  rfl
 rw [r1, r2, hn] at CR
 have v0 := rM_bd hy (by omega)
 have w4 := byt_getD hy 4
 have hbk := hb0.blk (by rintro rfl; simp at hn; omega)
 have v5 := rC_bd hy (by omega)
 have hc4 := rC_four hy (show 8 ≤ l.length by omega)
 have e0 : num (sub l 0 4) = rM l := rfl
 rw [e0] at CR
 have hbn : b ≠ w.heap.size := by omega
 clear e0
 clear r1 r2 hb bW0 hbl hb0 hy hn
 obtain ⟨x4, hx4⟩ : ∃ x4, l.getD 4 0 = x4 := ⟨_, rfl⟩
 rw [hx4] at g4 w4 hi hc4
 have HX4 := Lib.hid hx4
 clear hx4
 by_cases hx : x4 = 0
 ·have d : (x4 == 0) = true := by simpa using hx
  have d2 : (x4 != 0) = false := by simp [bne, d]
  have HX : Hid (x4 = 0 ∨ x4 = 128) := Lib.hid (.inl hx)
  clear hx
  by_cases hM : isM (rM l) = true
  case neg =>
   have e4 : rdXE l = 3 := bad (Bool.eq_false_iff.2 fun q => by exact hM (hi.1 q).2.2)
   have e5 : rdX l = zX := by unfold rdX; rw [e4]; rfl
   rw [e4, e5]
   clear e5
   have hM2 : isM (rM l) = false := by simpa using hM
   have cM := fun V => risMask_any (rM l) V v0.1
   rw [hM2] at cM
   generalize rM l = M at *
   clear e4 hi bad good h9 h8 hM hM2 v0 w4
   go_enter Tryz.func65, Tryz.ntmps65
   go_wp2_with fail
   refine CR.mono ?_
   rintro e Y1 ⟨A1, c1, rfl, o1, u1⟩
   obtain ⟨g, rfl, _, hg⟩ := own_some o1 (by simp)
   have g0 := own_cellAt o1 (i := 0) (by simp)
   simp only [List.getD_cons_zero] at g0
   have z1 := KZ.out _ u1
   obtain ⟨a0, a1, a2, a3, a4, f0, f1, f2, f3, f4, hzl⟩ := kz5_at z1
   have KR := Lib.hid <| kz5_get z1 (Value.int .u32 0) (.bool false) (.int .i64 0) (.int .u32 0) (.int .u32 0)
   have TF := Lib.hid <| below_st5 (HB.out.trans (u1.mono HB.out.size)) (Nat.le_refl _) (Value.int .u32 0) (.bool false) (.int .i64 0) (.int .u32 0) (.int .u32 0)
   clear z1
   clear CR o1 u1 KZ
   go_wp2_with fail
   refine (cM _).mono ?_
   rintro e _ ⟨rfl, rfl⟩
   go_wp2
   obtain ⟨r0, r1, r2, r3, r4⟩ := KR.out
   refine bodyPost_ret (v := .tuple #[.agg #[.int .u32 0, .bool false, .int .i64 0, .int .u32 0, .int .u32 0], .int .i64 3]) (by simp [results, Tryz.results65, go_sem, r0, r1, r2, r3, r4]) rfl ⟨rfl, TF.out⟩
  have e4 : rdXE l = 0 := good (hi.2 ⟨HLN.out, HX.out, hM⟩)
  have e5 : rdX l = ⟨rM l, (x4 == 128), rC l, num (sub l 8 4), num (sub l 12 4)⟩ := by
   have e : decide (l.getD 4 0 = 128) = (l.getD 4 0 == 128) := by rw [Bool.eq_iff_iff]; simp
   unfold rdX
   rw [if_pos e4, rX, e, HX4.out]
  rw [e4, e5]
  have cM := fun V => risMask_any (rM l) V v0.1
  rw [hM] at cM
  generalize rM l = M at *
  generalize rC l = C at *
  generalize num (sub l 4 4) = C4 at *
  generalize num (sub l 8 4) = L8 at *
  generalize num (sub l 12 4) = L12 at *
  have hcm : C4 % 16777216 = C := by omega
  have HCM := Lib.hid hcm
  have hc40 : 0 ≤ C4 := by omega
  clear e4 e5 hi bad good h9 h8 hM HX hc4 hcm
  go_enter Tryz.func65, Tryz.ntmps65
  go_wp2_with fail
  refine CR.mono ?_
  rintro e Y1 ⟨A1, c1, rfl, o1, u1⟩
  obtain ⟨g, rfl, hg0, hg⟩ := own_some o1 (by simp)
  have g0 := own_cellAt o1 (i := 0) (by simp)
  have g1 := own_cellAt o1 (i := 1) (by simp)
  have g2 := own_cellAt o1 (i := 2) (by simp)
  have g3 := own_cellAt o1 (i := 3) (by simp)
  have p4 := (u1.cell (p := ⟨b, off + 4, none⟩) hbk).trans g4
  simp only [List.getD_cons_zero, List.getD_cons_succ] at g0 g1 g2 g3
  have hbk1 : b < Y1.heap.size := Nat.lt_of_lt_of_le hbk u1.size
  have KS : Hid (∀ V, Below Y1.heap.size Y1 V → V.cell? ⟨g, 0, none⟩ = some (.int .u32 M) ∧ V.cell? ⟨g, 1, none⟩ = some (.int .u32 C4) ∧ V.cell? ⟨g, 2, none⟩ = some (.int .u32 L8) ∧ V.cell? ⟨g, 3, none⟩ = some (.int .u32 L12) ∧ V.cell? ⟨b, off + 4, none⟩ = some (.int .u8 x4)) := Lib.hid (fun V hV => ⟨(hV.cell (p := ⟨g, 0, none⟩) hg).trans g0, (hV.cell (p := ⟨g, 1, none⟩) hg).trans g1, (hV.cell (p := ⟨g, 2, none⟩) hg).trans g2, (hV.cell (p := ⟨g, 3, none⟩) hg).trans g3, (hV.cell (p := ⟨b, off + 4, none⟩) hbk1).trans p4⟩)
  have HU := Lib.hid u1
  have hne : g ≠ w.heap.size := by omega
  have tt : Below Y1.heap.size Y1 Y1 := Below.refl _ _
  clear CR o1 u1 hg g1 g2 g3 p4 hg0 sW0 hbk1 g4 hbk
  go_wp2_with fail
  refine (cM _).mono ?_
  rintro e _ ⟨rfl, rfl⟩
  clear g0
  go_wp2_with fail
  refine wp_region_held_drew (S := fun V => V.cell? ⟨g, 0, none⟩ = some (.int .u32 M) ∧ V.cell? ⟨g, 1, none⟩ = some (.int .u32 C4) ∧ V.cell? ⟨g, 2, none⟩ = some (.int .u32 L8) ∧ V.cell? ⟨g, 3, none⟩ = some (.int .u32 L12) ∧ V.cell? ⟨b, off + 4, none⟩ = some (.int .u8 x4)) (by kernel_rfl) (KS.out _ tt.drew) (fun hHeld => ?_)
  replace tt : Below Y1.heap.size Y1 Y1.drew := tt.drew
  generalize hX0 : Y1.drew = X0 at tt hHeld ⊢
  clear hX0
  refine wpAnyH_take (i := 0) (v := ?_) rfl (by kernel_rfl) (by kernel_rfl) (by kernel_rfl) (fun _ _ _ h => h) (Or.inl ⟨by rfl, ?_⟩) (by assumption) ?_
  rotate_left
  ·(intro w' hSw; (try dsimp only at hSw); go_simp; try with_reducible rfl)
  simp only [Act.put, getElem_toArray, getElem_cons_zero, setIfInBounds_toArray, set_cons_zero, set_cons_succ]
  refine wpAnyH_take (i := 1) (v := ?_) rfl (by kernel_rfl) (by kernel_rfl) (by kernel_rfl) (fun _ _ _ h => h) (Or.inl ⟨by rfl, ?_⟩) (by assumption) ?_
  rotate_left
  ·(intro w' hSw; (try dsimp only at hSw); go_simp; try with_reducible rfl)
  simp only [Act.put, getElem_toArray, getElem_cons_zero, getElem_cons_succ, setIfInBounds_toArray, set_cons_zero, set_cons_succ]
  refine wpAnyH_take (i := 2) (v := ?_) rfl (by kernel_rfl) (by kernel_rfl) (by kernel_rfl) (fun _ _ _ h => h) (Or.inl ⟨by rfl, ?_⟩) (by assumption) ?_
  rotate_left
  ·(intro w' hSw; (try dsimp only at hSw); go_simp; try with_reducible rfl)
  simp only [Act.put, getElem_toArray, getElem_cons_zero, getElem_cons_succ, setIfInBounds_toArray, set_cons_zero, set_cons_succ]
  refine wpAnyH_take (i := 3) (v := ?_) rfl (by kernel_rfl) (by kernel_rfl) (by kernel_rfl) (fun _ _ _ h => h) (Or.inl ⟨by rfl, ?_⟩) (by assumption) ?_
  rotate_left
  ·(intro w' hSw; (try dsimp only at hSw); go_simp; try with_reducible rfl)
  simp only [Act.put, getElem_toArray, getElem_cons_zero, getElem_cons_succ, setIfInBounds_toArray, set_cons_zero, set_cons_succ]
  refine wpAnyH_take (i := 4) (v := ?_) rfl (by kernel_rfl) (by kernel_rfl) (by kernel_rfl) (fun _ _ _ h => h) (Or.inl ⟨by rfl, ?_⟩) (by assumption) ?_
  rotate_left
  ·(intro w' hSw; (try dsimp only at hSw); go_simp; try with_reducible rfl)
  simp only [Act.put, getElem_toArray, getElem_cons_zero, getElem_cons_succ, setIfInBounds_toArray, set_cons_zero, set_cons_succ]
  refine wpAnyH_take (i := 5) (v := ?_) rfl (by kernel_rfl) (by kernel_rfl) (by kernel_rfl) (fun _ _ _ h => h) (Or.inl ⟨by rfl, ?_⟩) (by assumption) ?_
  rotate_left
  ·(intro w' hSw; (try dsimp only at hSw); go_simp; try with_reducible rfl)
  simp only [Act.put, getElem_toArray, getElem_cons_zero, getElem_cons_succ, setIfInBounds_toArray, set_cons_zero, set_cons_succ]
  refine wpAnyH_take (i := 6) (v := ?_) rfl (by kernel_rfl) (by kernel_rfl) (by kernel_rfl) (fun _ _ _ h => h) (Or.inl ⟨by rfl, ?_⟩) (by assumption) ?_
  rotate_left
  ·(intro w' hSw; (try dsimp only at hSw); go_simp; try with_reducible rfl)
  simp only [Act.put, getElem_toArray, getElem_cons_zero, getElem_cons_succ, setIfInBounds_toArray, set_cons_zero, set_cons_succ]
  refine wpAnyH_take (i := 7) (v := ?_) rfl (by kernel_rfl) (by kernel_rfl) (by kernel_rfl) (fun _ _ _ h => h) (Or.inl ⟨by rfl, ?_⟩) (by assumption) ?_
  rotate_left
  ·(intro w' hSw; (try dsimp only at hSw); go_simp; try with_reducible rfl)
  simp only [Act.put, getElem_toArray, getElem_cons_zero, getElem_cons_succ, setIfInBounds_toArray, set_cons_zero, set_cons_succ]
  refine wpAnyH_take (i := 8) (v := ?_) rfl (by kernel_rfl) (by kernel_rfl) (by kernel_rfl) (fun _ _ _ h => h) (Or.inl ⟨by rfl, ?_⟩) (by assumption) ?_
  rotate_left
  ·(intro w' hSw; (try dsimp only at hSw); go_simp; try with_reducible rfl)
  simp only [Act.put, getElem_toArray, getElem_cons_zero, getElem_cons_succ, setIfInBounds_toArray, set_cons_zero, set_cons_succ]
  refine wpAnyH_take (i := 9) (v := ?_) rfl (by kernel_rfl) (by kernel_rfl) (by kernel_rfl) (fun _ _ _ h => h) (Or.inl ⟨by rfl, ?_⟩) (by assumption) ?_
  rotate_left
  ·(intro w' hSw; (try dsimp only at hSw); go_simp; try with_reducible rfl)
  simp only [Act.put, getElem_toArray, getElem_cons_zero, getElem_cons_succ, setIfInBounds_toArray, set_cons_zero, set_cons_succ]
  refine wpAnyH_take (i := 10) (v := .int .u32 C) rfl (by kernel_rfl) (by kernel_rfl) (by kernel_rfl) (fun _ _ _ h => h) (Or.inl ⟨by rfl, ?_⟩) (by assumption) ?_
  ·(intro w' hSw; (try dsimp only at hSw); go_simp; rw [Int.tmod_eq_emod_of_nonneg hc40, HCM.out])
  simp only [Act.put, getElem_toArray, getElem_cons_zero, getElem_cons_succ, setIfInBounds_toArray, set_cons_zero, set_cons_succ]
  refine wpAnyH_take (i := 11) (v := .int .i64 C) rfl (by kernel_rfl) (by kernel_rfl) (by kernel_rfl) (fun _ _ _ h => h) (Or.inl ⟨by rfl, ?_⟩) (by assumption) ?_
  ·(intro w' hSw; (try dsimp only at hSw); go_simp; rw [wrap_i64 (by omega) (by omega)])
  simp only [Act.put, getElem_toArray, getElem_cons_zero, getElem_cons_succ, setIfInBounds_toArray, set_cons_zero, set_cons_succ]
  refine wpAnyH_take (i := 12) (v := ?_) rfl (by kernel_rfl) (by kernel_rfl) (by kernel_rfl) (fun _ _ _ h => h) (Or.inl ⟨by rfl, ?_⟩) (by assumption) ?_
  rotate_left
  ·(intro w' hSw; (try dsimp only at hSw); go_simp; try with_reducible rfl)
  simp only [Act.put, getElem_toArray, getElem_cons_zero, getElem_cons_succ, setIfInBounds_toArray, set_cons_zero, set_cons_succ]
  refine wpAnyH_take (i := 13) (v := ?_) rfl (by kernel_rfl) (by kernel_rfl) (by kernel_rfl) (fun _ _ _ h => h) (Or.inl ⟨by rfl, ?_⟩) (by assumption) ?_
  rotate_left
  ·(intro w' hSw; (try dsimp only at hSw); go_simp; try with_reducible rfl)
  simp only [Act.put, getElem_toArray, getElem_cons_zero, getElem_cons_succ, setIfInBounds_toArray, set_cons_zero, set_cons_succ]
  refine wpAnyH_take (i := 14) (v := ?_) rfl (by kernel_rfl) (by kernel_rfl) (by kernel_rfl) (fun _ _ _ h => h) (Or.inl ⟨by rfl, ?_⟩) (by assumption) ?_
  rotate_left
  ·(intro w' hSw; (try dsimp only at hSw); go_simp; try with_reducible rfl)
  simp only [Act.put, getElem_toArray, getElem_cons_zero, getElem_cons_succ, setIfInBounds_toArray, set_cons_zero, set_cons_succ]
  refine wpAnyH_take (i := 15) (v := ?_) rfl (by kernel_rfl) (by kernel_rfl) (by kernel_rfl) (fun _ _ _ h => h) (Or.inl ⟨by rfl, ?_⟩) (by assumption) ?_
  rotate_left
  ·(intro w' hSw; (try dsimp only at hSw); go_simp; try with_reducible rfl)
  simp only [Act.put, getElem_toArray, getElem_cons_zero, getElem_cons_succ, setIfInBounds_toArray, set_cons_zero, set_cons_succ]
  refine wpAnyH_take (i := 16) (v := ?_) rfl (by kernel_rfl) (by kernel_rfl) (by kernel_rfl) (fun _ _ _ h => h) (Or.inl ⟨by rfl, ?_⟩) (by assumption) ?_
  rotate_left
  ·(intro w' hSw; (try dsimp only at hSw); go_simp; try with_reducible rfl)
  simp only [Act.put, getElem_toArray, getElem_cons_zero, getElem_cons_succ, setIfInBounds_toArray, set_cons_zero, set_cons_succ]
  refine wpAnyH_take (i := 17) (v := ?_) rfl (by kernel_rfl) (by kernel_rfl) (by kernel_rfl) (fun _ _ _ h => h) (Or.inl ⟨by rfl, ?_⟩) (by assumption) ?_
  rotate_left
  ·(intro w' hSw; (try dsimp only at hSw); go_simp; try with_reducible rfl)
  simp only [Act.put, getElem_toArray, getElem_cons_zero, getElem_cons_succ, setIfInBounds_toArray, set_cons_zero, set_cons_succ]
  refine wpAnyH_take (i := 18) (v := .agg #[.int .u32 M, .bool (x4 == 128), .int .i64 C, .int .u32 L8, .int .u32 L12]) rfl (by kernel_rfl) (by kernel_rfl) (by kernel_rfl) (fun _ _ _ h => h) (Or.inl ⟨by rfl, ?_⟩) (by assumption) ?_
  ·(intro w' hSw; (try dsimp only at hSw); go_simp; try rfl)
  simp only [Act.put, getElem_toArray, getElem_cons_zero, getElem_cons_succ, setIfInBounds_toArray, set_cons_zero, set_cons_succ]
  refine wpAnyH_ready (rs := [19]) (by kernel_rfl) (by simp) ?_
  refine AllReadyH.cons rfl (fun K hK => ?_) AllReadyH.nil
  have z1 := KZ.out _ (HU.out.trans (tt.mono HU.out.size))
  obtain ⟨a0, a1, a2, a3, a4, f0, f1, f2, f3, f4, hzl⟩ := kz5_at z1
  have KR := Lib.hid <| kz5_get z1 (Value.int .u32 M) (.bool (x4 == 128)) (.int .i64 C) (.int .u32 L8) (.int .u32 L12)
  have TF : Hid (Below w.heap.size w (st5 X0 w.heap.size (Value.int .u32 M) (.bool (x4 == 128)) (.int .i64 C) (.int .u32 L8) (.int .u32 L12))) := Lib.hid (below_st5 (HB.out.trans ((HU.out.trans (tt.mono HU.out.size)).mono HB.out.size)) (Nat.le_refl _) _ _ _ _ _)
  have KF : Hid ((st5 X0 w.heap.size (Value.int .u32 M) (.bool (x4 == 128)) (.int .i64 C) (.int .u32 L8) (.int .u32 L12)).cell? ⟨g, 0, none⟩ = some (.int .u32 M) ∧ (st5 X0 w.heap.size (Value.int .u32 M) (.bool (x4 == 128)) (.int .i64 C) (.int .u32 L8) (.int .u32 L12)).cell? ⟨g, 1, none⟩ = some (.int .u32 C4) ∧ (st5 X0 w.heap.size (Value.int .u32 M) (.bool (x4 == 128)) (.int .i64 C) (.int .u32 L8) (.int .u32 L12)).cell? ⟨g, 2, none⟩ = some (.int .u32 L8) ∧ (st5 X0 w.heap.size (Value.int .u32 M) (.bool (x4 == 128)) (.int .i64 C) (.int .u32 L8) (.int .u32 L12)).cell? ⟨g, 3, none⟩ = some (.int .u32 L12) ∧ (st5 X0 w.heap.size (Value.int .u32 M) (.bool (x4 == 128)) (.int .i64 C) (.int .u32 L8) (.int .u32 L12)).cell? ⟨b, off + 4, none⟩ = some (.int .u8 x4)) := Lib.hid (by
   obtain ⟨y0, y1, y2, y3, y4⟩ := KS.out _ tt
   exact ⟨(cell_st5 (p := ⟨g, 0, none⟩) hne _ _ _ _ _).trans y0, (cell_st5 (p := ⟨g, 1, none⟩) hne _ _ _ _ _).trans y1, (cell_st5 (p := ⟨g, 2, none⟩) hne _ _ _ _ _).trans y2, (cell_st5 (p := ⟨g, 3, none⟩) hne _ _ _ _ _).trans y3, (cell_st5 (p := ⟨b, off + 4, none⟩) hbn _ _ _ _ _).trans y4⟩)
  clear hHeld z1
  go_simp
  refine hK.out _ _ KF.out (fun _ => ?_)
  clear hK K
  refine wpAnyH_ready (rs := [20]) (by kernel_rfl) (by simp) ?_
  refine AllReadyH.cons rfl (fun K hK => ?_) AllReadyH.nil
  go_simp
  refine hK.out _ _ KF.out (fun _ => ?_)
  clear hK K
  refine wpAnyH_done (by kernel_rfl) ?_ _
  go_wp2
  obtain ⟨r0, r1, r2, r3, r4⟩ := KR.out
  refine bodyPost_ret (v := .tuple #[.agg #[.int .u32 M, .bool (x4 == 128), .int .i64 C, .int .u32 L8, .int .u32 L12], .int .i64 0]) (by simp [results, Tryz.results65, go_sem, r0, r1, r2, r3, r4]) rfl ⟨rfl, TF.out⟩
 have d : (x4 == 0) = false := by simpa using hx
 have d2 : (x4 != 0) = true := by simp [bne, d]
 by_cases hx8 : x4 = 128
 case neg =>
  have e4 : rdXE l = 3 := bad (Bool.eq_false_iff.2 fun q => by rcases (hi.1 q).2.1 with h | h; exact hx h; exact hx8 h)
  have e5 : rdX l = zX := by unfold rdX; rw [e4]; rfl
  rw [e4, e5]
  clear e5
  have d8 : (x4 == 128) = false := by simpa using hx8
  have d9 : (x4 != 128) = true := by simp [bne, d8]
  have z1 := KZ.out _ (Below.refl _ _)
  clear e4 KZ hi bad good h9 hx hx8 hc4 v5 v0 CR hbk
  obtain ⟨a0, a1, a2, a3, a4, f0, f1, f2, f3, f4, hzl⟩ := kz5_at z1
  have KR := Lib.hid <| kz5_get z1 (Value.int .u32 0) (.bool false) (.int .i64 0) (.int .u32 0) (.int .u32 0)
  have TF := Lib.hid <| below_st5 HB.out (Nat.le_refl _) (Value.int .u32 0) (.bool false) (.int .i64 0) (.int .u32 0) (.int .u32 0)
  clear z1
  go_enter Tryz.func65, Tryz.ntmps65
  go_wp2
  obtain ⟨r0, r1, r2, r3, r4⟩ := KR.out
  refine bodyPost_ret (v := .tuple #[.agg #[.int .u32 0, .bool false, .int .i64 0, .int .u32 0, .int .u32 0], .int .i64 3]) (by simp [results, Tryz.results65, go_sem, r0, r1, r2, r3, r4]) rfl ⟨rfl, TF.out⟩
 have d8 : (x4 == 128) = true := by simpa using hx8
 have d9 : (x4 != 128) = false := by simp [bne, d8]
 have HX : Hid (x4 = 0 ∨ x4 = 128) := Lib.hid (.inr hx8)
 clear hx hx8
 by_cases hM : isM (rM l) = true
 case neg =>
  have e4 : rdXE l = 3 := bad (Bool.eq_false_iff.2 fun q => by exact hM (hi.1 q).2.2)
  have e5 : rdX l = zX := by unfold rdX; rw [e4]; rfl
  rw [e4, e5]
  clear e5
  have hM2 : isM (rM l) = false := by simpa using hM
  have cM := fun V => risMask_any (rM l) V v0.1
  rw [hM2] at cM
  generalize rM l = M at *
  clear e4 hi bad good h9 h8 hM hM2 v0 w4
  go_enter Tryz.func65, Tryz.ntmps65
  go_wp2_with fail
  refine CR.mono ?_
  rintro e Y1 ⟨A1, c1, rfl, o1, u1⟩
  obtain ⟨g, rfl, _, hg⟩ := own_some o1 (by simp)
  have g0 := own_cellAt o1 (i := 0) (by simp)
  simp only [List.getD_cons_zero] at g0
  have z1 := KZ.out _ u1
  obtain ⟨a0, a1, a2, a3, a4, f0, f1, f2, f3, f4, hzl⟩ := kz5_at z1
  have KR := Lib.hid <| kz5_get z1 (Value.int .u32 0) (.bool false) (.int .i64 0) (.int .u32 0) (.int .u32 0)
  have TF := Lib.hid <| below_st5 (HB.out.trans (u1.mono HB.out.size)) (Nat.le_refl _) (Value.int .u32 0) (.bool false) (.int .i64 0) (.int .u32 0) (.int .u32 0)
  clear z1
  clear CR o1 u1 KZ
  go_wp2_with fail
  refine (cM _).mono ?_
  rintro e _ ⟨rfl, rfl⟩
  go_wp2
  obtain ⟨r0, r1, r2, r3, r4⟩ := KR.out
  refine bodyPost_ret (v := .tuple #[.agg #[.int .u32 0, .bool false, .int .i64 0, .int .u32 0, .int .u32 0], .int .i64 3]) (by simp [results, Tryz.results65, go_sem, r0, r1, r2, r3, r4]) rfl ⟨rfl, TF.out⟩
 have e4 : rdXE l = 0 := good (hi.2 ⟨HLN.out, HX.out, hM⟩)
 have e5 : rdX l = ⟨rM l, true, rC l, num (sub l 8 4), num (sub l 12 4)⟩ := by
  have e : decide (l.getD 4 0 = 128) = (l.getD 4 0 == 128) := by rw [Bool.eq_iff_iff]; simp
  unfold rdX
  rw [if_pos e4, rX, e, HX4.out, d8]
 rw [e4, e5]
 have cM := fun V => risMask_any (rM l) V v0.1
 rw [hM] at cM
 generalize rM l = M at *
 generalize rC l = C at *
 generalize num (sub l 4 4) = C4 at *
 generalize num (sub l 8 4) = L8 at *
 generalize num (sub l 12 4) = L12 at *
 have hcm : C4 % 16777216 = C := by omega
 have HCM := Lib.hid hcm
 have hc40 : 0 ≤ C4 := by omega
 clear e4 e5 hi bad good h9 h8 hM HX hc4 hcm
 go_enter Tryz.func65, Tryz.ntmps65
 go_wp2_with fail
 refine CR.mono ?_
 rintro e Y1 ⟨A1, c1, rfl, o1, u1⟩
 obtain ⟨g, rfl, hg0, hg⟩ := own_some o1 (by simp)
 have g0 := own_cellAt o1 (i := 0) (by simp)
 have g1 := own_cellAt o1 (i := 1) (by simp)
 have g2 := own_cellAt o1 (i := 2) (by simp)
 have g3 := own_cellAt o1 (i := 3) (by simp)
 have p4 := (u1.cell (p := ⟨b, off + 4, none⟩) hbk).trans g4
 simp only [List.getD_cons_zero, List.getD_cons_succ] at g0 g1 g2 g3
 have hbk1 : b < Y1.heap.size := Nat.lt_of_lt_of_le hbk u1.size
 have KS : Hid (∀ V, Below Y1.heap.size Y1 V → V.cell? ⟨g, 0, none⟩ = some (.int .u32 M) ∧ V.cell? ⟨g, 1, none⟩ = some (.int .u32 C4) ∧ V.cell? ⟨g, 2, none⟩ = some (.int .u32 L8) ∧ V.cell? ⟨g, 3, none⟩ = some (.int .u32 L12) ∧ V.cell? ⟨b, off + 4, none⟩ = some (.int .u8 x4)) := Lib.hid (fun V hV => ⟨(hV.cell (p := ⟨g, 0, none⟩) hg).trans g0, (hV.cell (p := ⟨g, 1, none⟩) hg).trans g1, (hV.cell (p := ⟨g, 2, none⟩) hg).trans g2, (hV.cell (p := ⟨g, 3, none⟩) hg).trans g3, (hV.cell (p := ⟨b, off + 4, none⟩) hbk1).trans p4⟩)
 have HU := Lib.hid u1
 have hne : g ≠ w.heap.size := by omega
 have tt : Below Y1.heap.size Y1 Y1 := Below.refl _ _
 clear CR o1 u1 hg g1 g2 g3 p4 hg0 sW0 hbk1 g4 hbk
 go_wp2_with fail
 refine (cM _).mono ?_
 rintro e _ ⟨rfl, rfl⟩
 clear g0
 go_wp2_with fail
 refine wp_region_held_drew (S := fun V => V.cell? ⟨g, 0, none⟩ = some (.int .u32 M) ∧ V.cell? ⟨g, 1, none⟩ = some (.int .u32 C4) ∧ V.cell? ⟨g, 2, none⟩ = some (.int .u32 L8) ∧ V.cell? ⟨g, 3, none⟩ = some (.int .u32 L12) ∧ V.cell? ⟨b, off + 4, none⟩ = some (.int .u8 x4)) (by kernel_rfl) (KS.out _ tt.drew) (fun hHeld => ?_)
 replace tt : Below Y1.heap.size Y1 Y1.drew := tt.drew
 generalize hX0 : Y1.drew = X0 at tt hHeld ⊢
 clear hX0
 refine wpAnyH_take (i := 0) (v := ?_) rfl (by kernel_rfl) (by kernel_rfl) (by kernel_rfl) (fun _ _ _ h => h) (Or.inl ⟨by rfl, ?_⟩) (by assumption) ?_
 rotate_left
 ·(intro w' hSw; (try dsimp only at hSw); go_simp; try with_reducible rfl)
 simp only [Act.put, getElem_toArray, getElem_cons_zero, setIfInBounds_toArray, set_cons_zero, set_cons_succ]
 refine wpAnyH_take (i := 1) (v := ?_) rfl (by kernel_rfl) (by kernel_rfl) (by kernel_rfl) (fun _ _ _ h => h) (Or.inl ⟨by rfl, ?_⟩) (by assumption) ?_
 rotate_left
 ·(intro w' hSw; (try dsimp only at hSw); go_simp; try with_reducible rfl)
 simp only [Act.put, getElem_toArray, getElem_cons_zero, getElem_cons_succ, setIfInBounds_toArray, set_cons_zero, set_cons_succ]
 refine wpAnyH_take (i := 2) (v := ?_) rfl (by kernel_rfl) (by kernel_rfl) (by kernel_rfl) (fun _ _ _ h => h) (Or.inl ⟨by rfl, ?_⟩) (by assumption) ?_
 rotate_left
 ·(intro w' hSw; (try dsimp only at hSw); go_simp; try with_reducible rfl)
 simp only [Act.put, getElem_toArray, getElem_cons_zero, getElem_cons_succ, setIfInBounds_toArray, set_cons_zero, set_cons_succ]
 refine wpAnyH_take (i := 3) (v := ?_) rfl (by kernel_rfl) (by kernel_rfl) (by kernel_rfl) (fun _ _ _ h => h) (Or.inl ⟨by rfl, ?_⟩) (by assumption) ?_
 rotate_left
 ·(intro w' hSw; (try dsimp only at hSw); go_simp; try with_reducible rfl)
 simp only [Act.put, getElem_toArray, getElem_cons_zero, getElem_cons_succ, setIfInBounds_toArray, set_cons_zero, set_cons_succ]
 refine wpAnyH_take (i := 4) (v := ?_) rfl (by kernel_rfl) (by kernel_rfl) (by kernel_rfl) (fun _ _ _ h => h) (Or.inl ⟨by rfl, ?_⟩) (by assumption) ?_
 rotate_left
 ·(intro w' hSw; (try dsimp only at hSw); go_simp; try with_reducible rfl)
 simp only [Act.put, getElem_toArray, getElem_cons_zero, getElem_cons_succ, setIfInBounds_toArray, set_cons_zero, set_cons_succ]
 refine wpAnyH_take (i := 5) (v := ?_) rfl (by kernel_rfl) (by kernel_rfl) (by kernel_rfl) (fun _ _ _ h => h) (Or.inl ⟨by rfl, ?_⟩) (by assumption) ?_
 rotate_left
 ·(intro w' hSw; (try dsimp only at hSw); go_simp; try with_reducible rfl)
 simp only [Act.put, getElem_toArray, getElem_cons_zero, getElem_cons_succ, setIfInBounds_toArray, set_cons_zero, set_cons_succ]
 refine wpAnyH_take (i := 6) (v := ?_) rfl (by kernel_rfl) (by kernel_rfl) (by kernel_rfl) (fun _ _ _ h => h) (Or.inl ⟨by rfl, ?_⟩) (by assumption) ?_
 rotate_left
 ·(intro w' hSw; (try dsimp only at hSw); go_simp; try with_reducible rfl)
 simp only [Act.put, getElem_toArray, getElem_cons_zero, getElem_cons_succ, setIfInBounds_toArray, set_cons_zero, set_cons_succ]
 refine wpAnyH_take (i := 7) (v := ?_) rfl (by kernel_rfl) (by kernel_rfl) (by kernel_rfl) (fun _ _ _ h => h) (Or.inl ⟨by rfl, ?_⟩) (by assumption) ?_
 rotate_left
 ·(intro w' hSw; (try dsimp only at hSw); go_simp; try with_reducible rfl)
 simp only [Act.put, getElem_toArray, getElem_cons_zero, getElem_cons_succ, setIfInBounds_toArray, set_cons_zero, set_cons_succ]
 refine wpAnyH_take (i := 8) (v := ?_) rfl (by kernel_rfl) (by kernel_rfl) (by kernel_rfl) (fun _ _ _ h => h) (Or.inl ⟨by rfl, ?_⟩) (by assumption) ?_
 rotate_left
 ·(intro w' hSw; (try dsimp only at hSw); go_simp; try with_reducible rfl)
 simp only [Act.put, getElem_toArray, getElem_cons_zero, getElem_cons_succ, setIfInBounds_toArray, set_cons_zero, set_cons_succ]
 refine wpAnyH_take (i := 9) (v := ?_) rfl (by kernel_rfl) (by kernel_rfl) (by kernel_rfl) (fun _ _ _ h => h) (Or.inl ⟨by rfl, ?_⟩) (by assumption) ?_
 rotate_left
 ·(intro w' hSw; (try dsimp only at hSw); go_simp; try with_reducible rfl)
 simp only [Act.put, getElem_toArray, getElem_cons_zero, getElem_cons_succ, setIfInBounds_toArray, set_cons_zero, set_cons_succ]
 refine wpAnyH_take (i := 10) (v := .int .u32 C) rfl (by kernel_rfl) (by kernel_rfl) (by kernel_rfl) (fun _ _ _ h => h) (Or.inl ⟨by rfl, ?_⟩) (by assumption) ?_
 ·(intro w' hSw; (try dsimp only at hSw); go_simp; rw [Int.tmod_eq_emod_of_nonneg hc40, HCM.out])
 simp only [Act.put, getElem_toArray, getElem_cons_zero, getElem_cons_succ, setIfInBounds_toArray, set_cons_zero, set_cons_succ]
 refine wpAnyH_take (i := 11) (v := .int .i64 C) rfl (by kernel_rfl) (by kernel_rfl) (by kernel_rfl) (fun _ _ _ h => h) (Or.inl ⟨by rfl, ?_⟩) (by assumption) ?_
 ·(intro w' hSw; (try dsimp only at hSw); go_simp; rw [wrap_i64 (by omega) (by omega)])
 simp only [Act.put, getElem_toArray, getElem_cons_zero, getElem_cons_succ, setIfInBounds_toArray, set_cons_zero, set_cons_succ]
 refine wpAnyH_take (i := 12) (v := ?_) rfl (by kernel_rfl) (by kernel_rfl) (by kernel_rfl) (fun _ _ _ h => h) (Or.inl ⟨by rfl, ?_⟩) (by assumption) ?_
 rotate_left
 ·(intro w' hSw; (try dsimp only at hSw); go_simp; try with_reducible rfl)
 simp only [Act.put, getElem_toArray, getElem_cons_zero, getElem_cons_succ, setIfInBounds_toArray, set_cons_zero, set_cons_succ]
 refine wpAnyH_take (i := 13) (v := ?_) rfl (by kernel_rfl) (by kernel_rfl) (by kernel_rfl) (fun _ _ _ h => h) (Or.inl ⟨by rfl, ?_⟩) (by assumption) ?_
 rotate_left
 ·(intro w' hSw; (try dsimp only at hSw); go_simp; try with_reducible rfl)
 simp only [Act.put, getElem_toArray, getElem_cons_zero, getElem_cons_succ, setIfInBounds_toArray, set_cons_zero, set_cons_succ]
 refine wpAnyH_take (i := 14) (v := ?_) rfl (by kernel_rfl) (by kernel_rfl) (by kernel_rfl) (fun _ _ _ h => h) (Or.inl ⟨by rfl, ?_⟩) (by assumption) ?_
 rotate_left
 ·(intro w' hSw; (try dsimp only at hSw); go_simp; try with_reducible rfl)
 simp only [Act.put, getElem_toArray, getElem_cons_zero, getElem_cons_succ, setIfInBounds_toArray, set_cons_zero, set_cons_succ]
 refine wpAnyH_take (i := 15) (v := ?_) rfl (by kernel_rfl) (by kernel_rfl) (by kernel_rfl) (fun _ _ _ h => h) (Or.inl ⟨by rfl, ?_⟩) (by assumption) ?_
 rotate_left
 ·(intro w' hSw; (try dsimp only at hSw); go_simp; try with_reducible rfl)
 simp only [Act.put, getElem_toArray, getElem_cons_zero, getElem_cons_succ, setIfInBounds_toArray, set_cons_zero, set_cons_succ]
 refine wpAnyH_take (i := 16) (v := ?_) rfl (by kernel_rfl) (by kernel_rfl) (by kernel_rfl) (fun _ _ _ h => h) (Or.inl ⟨by rfl, ?_⟩) (by assumption) ?_
 rotate_left
 ·(intro w' hSw; (try dsimp only at hSw); go_simp; try with_reducible rfl)
 simp only [Act.put, getElem_toArray, getElem_cons_zero, getElem_cons_succ, setIfInBounds_toArray, set_cons_zero, set_cons_succ]
 refine wpAnyH_take (i := 17) (v := ?_) rfl (by kernel_rfl) (by kernel_rfl) (by kernel_rfl) (fun _ _ _ h => h) (Or.inl ⟨by rfl, ?_⟩) (by assumption) ?_
 rotate_left
 ·(intro w' hSw; (try dsimp only at hSw); go_simp; try with_reducible rfl)
 simp only [Act.put, getElem_toArray, getElem_cons_zero, getElem_cons_succ, setIfInBounds_toArray, set_cons_zero, set_cons_succ]
 refine wpAnyH_take (i := 18) (v := .agg #[.int .u32 M, .bool true, .int .i64 C, .int .u32 L8, .int .u32 L12]) rfl (by kernel_rfl) (by kernel_rfl) (by kernel_rfl) (fun _ _ _ h => h) (Or.inl ⟨by rfl, ?_⟩) (by assumption) ?_
 ·(intro w' hSw; (try dsimp only at hSw); go_simp; try rfl)
 simp only [Act.put, getElem_toArray, getElem_cons_zero, getElem_cons_succ, setIfInBounds_toArray, set_cons_zero, set_cons_succ]
 refine wpAnyH_ready (rs := [19]) (by kernel_rfl) (by simp) ?_
 refine AllReadyH.cons rfl (fun K hK => ?_) AllReadyH.nil
 have z1 := KZ.out _ (HU.out.trans (tt.mono HU.out.size))
 obtain ⟨a0, a1, a2, a3, a4, f0, f1, f2, f3, f4, hzl⟩ := kz5_at z1
 have KR := Lib.hid <| kz5_get z1 (Value.int .u32 M) (.bool true) (.int .i64 C) (.int .u32 L8) (.int .u32 L12)
 have TF : Hid (Below w.heap.size w (st5 X0 w.heap.size (Value.int .u32 M) (.bool true) (.int .i64 C) (.int .u32 L8) (.int .u32 L12))) := Lib.hid (below_st5 (HB.out.trans ((HU.out.trans (tt.mono HU.out.size)).mono HB.out.size)) (Nat.le_refl _) _ _ _ _ _)
 have KF : Hid ((st5 X0 w.heap.size (Value.int .u32 M) (.bool true) (.int .i64 C) (.int .u32 L8) (.int .u32 L12)).cell? ⟨g, 0, none⟩ = some (.int .u32 M) ∧ (st5 X0 w.heap.size (Value.int .u32 M) (.bool true) (.int .i64 C) (.int .u32 L8) (.int .u32 L12)).cell? ⟨g, 1, none⟩ = some (.int .u32 C4) ∧ (st5 X0 w.heap.size (Value.int .u32 M) (.bool true) (.int .i64 C) (.int .u32 L8) (.int .u32 L12)).cell? ⟨g, 2, none⟩ = some (.int .u32 L8) ∧ (st5 X0 w.heap.size (Value.int .u32 M) (.bool true) (.int .i64 C) (.int .u32 L8) (.int .u32 L12)).cell? ⟨g, 3, none⟩ = some (.int .u32 L12) ∧ (st5 X0 w.heap.size (Value.int .u32 M) (.bool true) (.int .i64 C) (.int .u32 L8) (.int .u32 L12)).cell? ⟨b, off + 4, none⟩ = some (.int .u8 x4)) := Lib.hid (by
  obtain ⟨y0, y1, y2, y3, y4⟩ := KS.out _ tt
  exact ⟨(cell_st5 (p := ⟨g, 0, none⟩) hne _ _ _ _ _).trans y0, (cell_st5 (p := ⟨g, 1, none⟩) hne _ _ _ _ _).trans y1, (cell_st5 (p := ⟨g, 2, none⟩) hne _ _ _ _ _).trans y2, (cell_st5 (p := ⟨g, 3, none⟩) hne _ _ _ _ _).trans y3, (cell_st5 (p := ⟨b, off + 4, none⟩) hbn _ _ _ _ _).trans y4⟩)
 clear hHeld z1
 go_simp
 refine hK.out _ _ KF.out (fun _ => ?_)
 clear hK K
 refine wpAnyH_ready (rs := [20]) (by kernel_rfl) (by simp) ?_
 refine AllReadyH.cons rfl (fun K hK => ?_) AllReadyH.nil
 go_simp
 refine hK.out _ _ KF.out (fun _ => ?_)
 clear hK K
 refine wpAnyH_done (by kernel_rfl) ?_ _
 go_wp2
 obtain ⟨r0, r1, r2, r3, r4⟩ := KR.out
 refine bodyPost_ret (v := .tuple #[.agg #[.int .u32 M, .bool true, .int .i64 C, .int .u32 L8, .int .u32 L12], .int .i64 0]) (by simp [results, Tryz.results65, go_sem, r0, r1, r2, r3, r4]) rfl ⟨rfl, TF.out⟩

end Go.Proofs.YtadcicmccdphkaaGreat
