/-
  The contract of body.ReadNetwork. No statement is proved here; no conditions.
-/
import Derived.Test.YtadcicmccdphkaaRk2
namespace Go.Proofs.Ytadcicmccdphkaa
open Go.RowKit Go.Joins

theorem Own.step' {k : IntKind} {e : TypeId} {w w' : World} {base : Nat} {A : Option Addr} {c : Nat} {l : List Int} (h : Own k e w base A c l) (hb : Below w.heap.size w w') : Own k e w' base A c l := h.below hb (Nat.le_refl _)
theorem onlyN {l : List Int} (h : ¬ shN l) (A : Option Addr) (k c : Nat) (hk : k = (rN l).length) : ∃ A2 m2 c2, m2 = (rdNL l).length ∧ (if encNE (rM l) (rN l) = 0 ∧ encNL (rM l) (rN l) = l then Value.tuple #[.agg #[.int .u32 (rM l), .slice A k c], .int .i64 0] else .tuple #[.agg #[.int .u32 0, .slice none 0 0], .int .i64 3]) = .tuple #[.agg #[.int .u32 (rdNM l), .slice A2 m2 c2], .int .i64 (rdNE l)] ∧ ((A2 = A ∧ rdNL l = rN l) ∨ rdNL l = []) := by
  have e : rdNE l = if okN l = true then 0 else 3 := by unfold rdNE; rw [if_neg h]
  by_cases hc : encNE (rM l) (rN l) = 0 ∧ encNL (rM l) (rN l) = l
  · have hm : mayN (rM l) (rN l) = true := by
      have := hc.1
      unfold encNE at this
      by_cases q : mayN (rM l) (rN l) = true
      · exact q
      · rw [if_neg q] at this; omega
    have hl : enN (rM l) (rN l) = l := by
      have := hc.2
      unfold encNL at this
      rwa [if_pos hm] at this
    have ok : okN l = true := by unfold okN; rw [hm, decide_eq_true hl]; rfl
    rw [if_pos ok] at e
    have e2 : rdNM l = rM l := by unfold rdNM; rw [if_pos e]
    have e3 : rdNL l = rN l := by unfold rdNL; rw [if_pos e]
    rw [if_pos hc, e, e2, e3]
    exact ⟨A, k, c, hk, rfl, .inl ⟨rfl, rfl⟩⟩
  · have ok : ¬ okN l = true := fun q => by
      simp only [okN, Bool.and_eq_true, decide_eq_true_eq] at q
      exact hc ⟨by unfold encNE; rw [if_pos q.1], by unfold encNL; rw [if_pos q.1]; exact q.2⟩
    rw [if_neg ok] at e
    have e2 : rdNM l = 0 := by unfold rdNM; rw [if_neg (by omega)]
    have e3 : rdNL l = [] := by unfold rdNL; rw [if_neg (by omega)]
    rw [if_neg hc, e, e2, e3]
    exact ⟨none, 0, 0, rfl, rfl, .inr rfl⟩
set_option maxRecDepth 100000 in
set_option maxHeartbeats 4000000 in
theorem readnetwork_any (A : Option Addr) (n c : Nat) (l : List Int) (w : World) (hn : l.length = n) (hb : Bt w A l) (hy : Byt l) (hc : n ≤ c) (hl : n ≤ 5000) :
    Calls Try.prog 41 #[.slice A n c] w fun e w' => ∃ A' m' c', m' = (rdNL l).length ∧ e = .returned (.tuple #[.agg #[.int .u32 (rdNM l), .slice A' m' c'], .int .i64 (rdNE l)]) ∧ Bs .u32 w' w'.heap.size A' (rdNL l) ∧ Below w.heap.size w w' := by
  obtain ⟨W0, hW0⟩ : ∃ V, w.alloc (.cells #[Value.int .u32 0, .slice none 0 0] 81) = V := ⟨_, rfl⟩
  have bW0 : Below w.heap.size w W0 := by rw [← hW0]; exact below_alloc1 _ _
  have sW0 : W0.heap.size = w.heap.size + 1 := by rw [← hW0]; simp
  have KZ : Hid (∀ V, Below W0.heap.size W0 V → V.heap[w.heap.size]? = some (.cells #[Value.int .u32 0, .slice none 0 0] 81)) :=
    Lib.hid (fun V hV => by rw [hV.block _ (by omega), ← hW0]; exact alloc_at _ _ _ (by omega))
  have HB : Hid (Below w.heap.size w W0) := Lib.hid bW0
  have sh2 : shN l → rdNE l = 2 ∧ rdNM l = 0 ∧ rdNL l = [] := fun h => by
    have e : rdNE l = 2 := by unfold rdNE; rw [if_pos h]
    refine ⟨e, ?_, ?_⟩
    · unfold rdNM; rw [e]; rfl
    · unfold rdNL; rw [e]; rfl
  by_cases h4 : n ≤ 4
  · obtain ⟨e1, e2, e3⟩ := sh2 (by unfold shN; omega)
    rw [e1, e2, e3]
    have h4' : (n : Int) ≤ 4 := by omega
    have z1 := KZ.out _ (Below.refl _ _)
    obtain ⟨a0, a1, f0, f1, hzl⟩ := kz2_at z1
    have KR := Lib.hid <| kz2_get z1 (Value.int .u32 0) (.slice none 0 0)
    have TF := Lib.hid <| below_st2 HB.out (Nat.le_refl _) (Value.int .u32 0) (.slice none 0 0)
    clear z1 KZ e1 e2 e3 hb hy bW0 hn sh2
    go_enter Try.func41, Try.ntmps41
    go_wp2
    obtain ⟨r0, r1⟩ := KR.out
    refine bodyPost_ret (v := .tuple #[.agg #[.int .u32 0, .slice none 0 0], .int .i64 2]) (by simp [results, Try.results41, go_sem, r0, r1]) rfl ⟨none, 0, 0, rfl, rfl, Bs.nil _, TF.out⟩
  obtain ⟨b, off, rfl, hbl, -⟩ := hb (by rintro rfl; simp at hn; omega)
  have hb0 := hb.step bW0
  have HW0 := Lib.hid sW0
  have q0 : Bt W0 (some ⟨b, off, none⟩) (sub l 0 4) := bs_sub0 hb0 4
  have q4 : Bt W0 (some ⟨b, off + 4, none⟩) (l.drop 4) := hb0.drop 4 _ (fun _ => by simp [addr_add])
  have hd : (l.drop 4).length = n - 4 := by rw [List.length_drop, hn]
  have CR := rows_any (some ⟨b, off + 4, none⟩) (c - 4) (l.drop 4) W0.heap.size 4 W0 q4 (hy.drop 4) (by omega) (Nat.le_refl _) (by omega)
  rw [hd] at CR
  have h4' : ¬ ((n : Int) ≤ 4) := by omega
  have h4'' : ¬ (n ≤ 4) := h4
  have n4 : ¬ (c = 4) := by omega
  have i4 : (4 : Int) ≤ (c : Int) := by omega
  have i4' : (4 : Int) ≤ (n : Int) := by omega
  by_cases hm : (n - 4) % 4 = 0
  case neg =>
    obtain ⟨e1, e2, e3⟩ := sh2 (by unfold shN; omega)
    have r1 : rowsE (l.drop 4) 4 = 2 := by
      unfold rowsE
      rw [if_neg (by omega), if_pos]
      rw [hd]
      simp
      omega
    have r2 : rowsL (l.drop 4) 4 = [] := by simp [rowsL, r1]
    rw [r1, r2] at CR
    rw [e1, e2, e3]
    clear r1 r2 e1 e2 e3 hb hy bW0 hn sh2 hb0 q0 q4 hd hm h4 hbl
    go_enter Try.func41, Try.ntmps41
    go_wp2_with fail
    refine CR.mono ?_
    rintro e Y1 ⟨A1, c1, rfl, -, u1⟩
    have z1 := KZ.out _ u1
    obtain ⟨a0, a1, f0, f1, hzl⟩ := kz2_at z1
    have KR := Lib.hid <| kz2_get z1 (Value.int .u32 0) (.slice none 0 0)
    have TF := Lib.hid <| below_st2 (HB.out.trans (u1.mono HB.out.size)) (Nat.le_refl _) (Value.int .u32 0) (.slice none 0 0)
    clear z1 KZ u1 CR
    go_wp2
    obtain ⟨r0, r1⟩ := KR.out
    refine bodyPost_ret (v := .tuple #[.agg #[.int .u32 0, .slice none 0 0], .int .i64 2]) (by simp [results, Try.results41, go_sem, r0, r1]) rfl ⟨none, 0, 0, rfl, rfl, Bs.nil _, TF.out⟩
  have hsh : ¬ shN l := by unfold shN; omega
  have r1 : rowsE (l.drop 4) 4 = 0 := by
    unfold rowsE
    rw [if_neg (by omega), if_neg]
    rw [hd]
    simp
    omega
  have r2 : rowsL (l.drop 4) 4 = rN l := by
    simp only [rowsL, r1, if_true]
    unfold rN cN
    rw [hd, hn]
    rfl
  rw [r1, r2] at CR
  have v0 := rM_bd4 hy (by omega)
  have l0 : (sub l 0 4).length = 4 := sub_len (by omega)
  have z0 := sub_byt hy 0 4
  have RW := rN_wrd hy
  have RL : (rN l).length ≤ 2000 := by rw [rN_length]; unfold cN; omega
  obtain ⟨mr, hmr⟩ : ∃ mr, (rN l).length = mr := ⟨_, rfl⟩
  rw [hmr] at CR RL
  have HO := fun A' c' => onlyN (l := l) hsh A' mr c' hmr.symm
  have HMR := Lib.hid hmr
  have HRW := Lib.hid RW
  have HH := Lib.hid HO
  have HLN := Lib.hid hn
  have HY := Lib.hid hy
  have eM : rM l = num (sub l 0 4) := rfl
  rw [eM] at v0 HH
  generalize sub l 0 4 = L0 at *
  generalize rN l = R at *
  generalize rdNM l = om at *
  generalize rdNL l = oL at *
  generalize rdNE l = oe at *
  clear hb bW0 hn hy sh2 q4 hd hm h4 hsh r1 r2 RW hmr HO eM hbl
  go_enter Try.func41, Try.ntmps41
  go_wp2_with fail
  refine CR.mono ?_
  rintro e Y1 ⟨A1, c1, rfl, o1, u1⟩
  have cN := ynumber_any (some ⟨b, off, none⟩) 4 c L0 Y1 (q0.step u1) z0 l0 (by omega) (by decide) (by decide)
  clear CR
  go_wp2_with fail
  refine cN.mono ?_
  rintro e Y2 ⟨rfl, u2⟩
  have t2 : Below W0.heap.size W0 Y2 := u1.trans (u2.mono u1.size)
  have p2 := Bs.step o1.bs u2
  obtain ⟨A2, m2, c2, hm2, hv, hbs⟩ := HH.out A1 c1
  have CC : Calls Try.prog 63 #[.agg #[.int .u32 (num L0), .slice A1 mr c1], .func (.func 64) #[] #[], .slice (some ⟨b, off, none⟩) n c] Y2 fun e w' => e = .returned (.tuple #[.agg #[.int .u32 om, .slice A2 m2 c2], .int .i64 oe]) ∧ Below Y2.heap.size Y2 w' := by
    have q := only_n (num L0) A1 mr c1 R (some ⟨b, off, none⟩) n c l Y2 v0.1 v0.2 HMR.out p2 HRW.out (by omega) HLN.out (hb0.step t2) HY.out
    rwa [hv] at q
  have HM2 := Lib.hid hm2
  have HBS := Lib.hid hbs
  have HP := Lib.hid (o1.step' u2)
  have HT := Lib.hid t2
  clear cN u1 u2 o1 p2 hm2 hv hbs q0 t2
  go_wp2_with fail
  refine CC.mono ?_
  rintro e V2 ⟨rfl, u7⟩
  have T7 : Below W0.heap.size W0 V2 := HT.out.trans (u7.mono HT.out.size)
  have z1 := KZ.out _ T7
  obtain ⟨a0, a1, f0, f1, hzl⟩ := kz2_at z1
  have KR := Lib.hid <| kz2_get z1 (Value.int .u32 om) (.slice A2 m2 c2)
  have TF := Lib.hid <| below_st2 (HB.out.trans (T7.mono HB.out.size)) (Nat.le_refl _) (Value.int .u32 om) (.slice A2 m2 c2)
  have PF : Hid (Bs .u32 (st2 V2 w.heap.size (Value.int .u32 om) (.slice A2 m2 c2)) (st2 V2 w.heap.size (Value.int .u32 om) (.slice A2 m2 c2)).heap.size A2 oL) := Lib.hid (by
    rw [size_st2]
    rcases HBS.out with ⟨q1, q2⟩ | q
    · subst q1
      rw [q2]
      have q3 := ((HP.out.step' u7).far2 (b := w.heap.size) (by have := HW0.out; omega) (Value.int .u32 om) (.slice A2 m2 c2)).bs
      rwa [size_st2] at q3
    · rw [q]
      exact Bs.nil _)
  clear CC u7 z1 T7 hb0 HBS HP HT
  go_wp2
  obtain ⟨r0, r1⟩ := KR.out
  refine bodyPost_ret (v := .tuple #[.agg #[.int .u32 om, .slice A2 m2 c2], .int .i64 oe]) (by simp [results, Try.results41, go_sem, r0, r1]) rfl ⟨A2, m2, c2, HM2.out, rfl, PF.out, TF.out⟩
end Go.Proofs.Ytadcicmccdphkaa
