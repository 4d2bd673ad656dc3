/-
  The contract of body.ReadNetwork. The contract of body.ReadRouter. Contracts of the reference's Same, Put and Take. No statement is proved here; no conditions.
-/
import Derived.Test.YtadcicmccdphkaaGreatG18
import Derived.Test.YtadcicmccdphkaaGreatG17
import Derived.Test.YtadcicmccdphkaaGreatG03
import Derived.Test.YtadcicmccdphkaaGreatG08
namespace Go.Proofs.YtadcicmccdphkaaGreat
open Go.RowKit Go.Joins

theorem Own.step' {k : IntKind} {e : TypeId} {w w' : World} {base : Nat} {A : Option Addr} {c : Nat} {l : List Int} (h : Own k e w base A c l) (hb : Below w.heap.size w w') : Own k e w' base A c l := h.below hb (Nat.le_refl _)
theorem onlyN {l : List Int} (h : ¬ shN l) (A : Option Addr) (k c : Nat) (hk : k = (rN l).length) : ∃ A2 m2 c2, m2 = (rdNL l).length ∧ (if encNE (rM l) (rN l) = 0 ∧ encNL (rM l) (rN l) = l then Value.tuple #[.agg #[.int .u32 (rM l), .slice A k c], .int .i64 0] else .tuple #[.agg #[.int .u32 0, .slice none 0 0], .int .i64 3]) = .tuple #[.agg #[.int .u32 (rdNM l), .slice A2 m2 c2], .int .i64 (rdNE l)] ∧ ((A2 = A ∧ rdNL l = rN l) ∨ rdNL l = []) := by
 have e : rdNE l = if okN l = true then 0 else 3 := by unfold rdNE; rw [if_neg h]
 by_cases hc : encNE (rM l) (rN l) = 0 ∧ encNL (rM l) (rN l) = l
 ·have hm : mayN (rM l) (rN l) = true := by
   have := hc.1
   unfold encNE at this
   by_cases q : mayN (rM l) (rN l) = true
   ·exact q
   ·rw [if_neg q] at this; omega
  have hl : enN (rM l) (rN l) = l := by
   have := hc.2
   unfold encNL at this
   rwa [if_pos hm] at this
  have ok : okN l = true := by unfold okN; rw [hm, decide_eq_true hl]; rfl
  rw [if_pos ok] at e
  have e2 : rdNM l = rM l := by unfold rdNM; rw [if_pos e]
  have e3 : rdNL l = rN l := by unfold rdNL; rw [if_pos e]
  rw [if_pos hc, e, e2, e3]
  exact ⟨A, k, c, hk, rfl, .inl ⟨rfl, rfl⟩⟩
 ·have ok : ¬ okN l = true := fun q => by
   simp only [okN, Bool.and_eq_true, decide_eq_true_eq] at q
   exact hc ⟨by unfold encNE; rw [if_pos q.1], by unfold encNL; rw [if_pos q.1]; exact q.2⟩
  rw [if_neg ok] at e
  have e2 : rdNM l = 0 := by unfold rdNM; rw [if_neg (by omega)]
  have e3 : rdNL l = [] := by unfold rdNL; rw [if_neg (by omega)]
  rw [if_neg hc, e, e2, e3]
  exact ⟨none, 0, 0, rfl, rfl, .inr rfl⟩
set_option maxRecDepth 100000 in
set_option maxHeartbeats 4000000 in
theorem readnetwork_any (A : Option Addr) (n c : Nat) (l : List Int) (w : World) (hn : l.length = n) (hb : Bt w A l) (hy : Byt l) (hc : n ≤ c) (hl : n ≤ 5000) :
  Calls Tryz.prog 74 #[.slice A n c] w fun e w' => ∃ A' m' c', m' = (rdNL l).length ∧ e = .returned (.tuple #[.agg #[.int .u32 (rdNM l), .slice A' m' c'], .int .i64 (rdNE l)]) ∧ Bs .u32 w' w'.heap.size A' (rdNL l) ∧ Below w.heap.size w w' := by
 obtain ⟨W0, hW0⟩ : ∃ V, w.alloc (.cells #[Value.int .u32 0, .slice none 0 0] 127) = V := ⟨_, rfl⟩
 have bW0 : Below w.heap.size w W0 := by rw [← hW0]; exact below_alloc1 _ _
 have sW0 : W0.heap.size = w.heap.size + 1 := by rw [← hW0]; simp
 have KZ : Hid (∀ V, Below W0.heap.size W0 V → V.heap[w.heap.size]? = some (.cells #[Value.int .u32 0, .slice none 0 0] 127)) :=
  Lib.hid (fun V hV => by rw [hV.block _ (by omega), ← hW0]; exact alloc_at _ _ _ (by omega))
 have HB : Hid (Below w.heap.size w W0) := Lib.hid bW0
 have sh2 : shN l → rdNE l = 2 ∧ rdNM l = 0 ∧ rdNL l = [] := fun h => by
  have e : rdNE l = 2 := by unfold rdNE; rw [if_pos h]
  refine ⟨e, ?_, ?_⟩
  ·unfold rdNM; rw [e]; rfl
  ·unfold rdNL; rw [e]; rfl
 by_cases h4 : n ≤ 4
 ·obtain ⟨e1, e2, e3⟩ := sh2 (by unfold shN; omega)
  rw [e1, e2, e3]
  have h4' : (n : Int) ≤ 4 := by omega
  have z1 := KZ.out _ (Below.refl _ _)
  obtain ⟨a0, a1, f0, f1, hzl⟩ := kz2_at z1
  have KR := Lib.hid <| kz2_get z1 (Value.int .u32 0) (.slice none 0 0)
  have TF := Lib.hid <| below_st2 HB.out (Nat.le_refl _) (Value.int .u32 0) (.slice none 0 0)
  clear z1 KZ e1 e2 e3 hb hy bW0 hn sh2
  go_enter Tryz.func74, Tryz.ntmps74
  go_wp2
  obtain ⟨r0, r1⟩ := KR.out
  refine bodyPost_ret (v := .tuple #[.agg #[.int .u32 0, .slice none 0 0], .int .i64 2]) (by simp [results, Tryz.results74, go_sem, r0, r1]) rfl ⟨none, 0, 0, rfl, rfl, Bs.nil _, TF.out⟩
 obtain ⟨b, off, rfl, hbl, -⟩ := hb (by rintro rfl; simp at hn; omega)
 have hb0 := hb.step bW0
 have HW0 := Lib.hid sW0
 have q0 : Bt W0 (some ⟨b, off, none⟩) (sub l 0 4) := bs_sub0 hb0 4
 have q4 : Bt W0 (some ⟨b, off + 4, none⟩) (l.drop 4) := hb0.drop 4 _ (fun _ => by simp [addr_add])
 have hd : (l.drop 4).length = n - 4 := by rw [List.length_drop, hn]
 have CR := rows_any (some ⟨b, off + 4, none⟩) (c - 4) (l.drop 4) W0.heap.size 4 W0 q4 (hy.drop 4) (by omega) (Nat.le_refl _) (by omega)
 rw [hd] at CR
 have h4' : ¬ ((n : Int) ≤ 4) := by omega
 have h4'' : ¬ (n ≤ 4) := h4
 have n4 : ¬ (c = 4) := by omega
 have i4 : (4 : Int) ≤ (c : Int) := by omega
 have i4' : (4 : Int) ≤ (n : Int) := by omega
 by_cases hm : (n - 4) % 4 = 0
 case neg =>
  obtain ⟨e1, e2, e3⟩ := sh2 (by unfold shN; omega)
  have r1 : rowsE (l.drop 4) 4 = 2 := by
   unfold rowsE
   rw [if_neg (by omega), if_pos]
   rw [hd]
   simp
   omega
  have r2 : rowsL (l.drop 4) 4 = [] := by simp [rowsL, r1]
  rw [r1, r2] at CR
  rw [e1, e2, e3]
  clear r1 r2 e1 e2 e3 hb hy bW0 hn sh2 hb0 q0 q4 hd hm h4 hbl
  go_enter Tryz.func74, Tryz.ntmps74
  go_wp2_with fail
  refine CR.mono ?_
  rintro e Y1 ⟨A1, c1, rfl, -, u1⟩
  have z1 := KZ.out _ u1
  obtain ⟨a0, a1, f0, f1, hzl⟩ := kz2_at z1
  have KR := Lib.hid <| kz2_get z1 (Value.int .u32 0) (.slice none 0 0)
  have TF := Lib.hid <| below_st2 (HB.out.trans (u1.mono HB.out.size)) (Nat.le_refl _) (Value.int .u32 0) (.slice none 0 0)
  clear z1 KZ u1 CR
  go_wp2
  obtain ⟨r0, r1⟩ := KR.out
  refine bodyPost_ret (v := .tuple #[.agg #[.int .u32 0, .slice none 0 0], .int .i64 2]) (by simp [results, Tryz.results74, go_sem, r0, r1]) rfl ⟨none, 0, 0, rfl, rfl, Bs.nil _, TF.out⟩
 have hsh : ¬ shN l := by unfold shN; omega
 have r1 : rowsE (l.drop 4) 4 = 0 := by
  unfold rowsE
  rw [if_neg (by omega), if_neg]
  rw [hd]
  simp
  omega
 have r2 : rowsL (l.drop 4) 4 = rN l := by
  simp only [rowsL, r1, if_true]
  unfold rN cN
  rw [hd, hn]
  rfl
 rw [r1, r2] at CR
 have v0 := rM_bd4 hy (by omega)
 have l0 : (sub l 0 4).length = 4 := sub_len (by omega)
 have z0 := sub_byt hy 0 4
 have RW := rN_wrd hy
 have RL : (rN l).length ≤ 2000 := by rw [rN_length]; unfold cN; omega
 obtain ⟨mr, hmr⟩ : ∃ mr, (rN l).length = mr := ⟨_, rfl⟩
 rw [hmr] at CR RL
 have HO := fun A' c' => onlyN (l := l) hsh A' mr c' hmr.symm
 have HMR := Lib.hid hmr
 have HRW := Lib.hid RW
 have HH := Lib.hid HO
 have HLN := Lib.hid hn
 have HY := Lib.hid hy
 have eM : rM l = num (sub l 0 4) := rfl
 rw [eM] at v0 HH
 generalize sub l 0 4 = L0 at *
 generalize rN l = R at *
 generalize rdNM l = om at *
 generalize rdNL l = oL at *
 generalize rdNE l = oe at *
 clear hb bW0 hn hy sh2 q4 hd hm h4 hsh r1 r2 RW hmr HO eM hbl
 go_enter Tryz.func74, Tryz.ntmps74
 go_wp2_with fail
 refine CR.mono ?_
 rintro e Y1 ⟨A1, c1, rfl, o1, u1⟩
 have cN := ynumber_any (some ⟨b, off, none⟩) 4 c L0 Y1 (q0.step u1) z0 l0 (by omega) (by decide) (by decide)
 clear CR
 go_wp2_with fail
 refine cN.mono ?_
 rintro e Y2 ⟨rfl, u2⟩
 have t2 : Below W0.heap.size W0 Y2 := u1.trans (u2.mono u1.size)
 have p2 := Bs.step o1.bs u2
 obtain ⟨A2, m2, c2, hm2, hv, hbs⟩ := HH.out A1 c1
 have CC : Calls Tryz.prog 102 #[.agg #[.int .u32 (num L0), .slice A1 mr c1], .func (.func 103) #[] #[], .slice (some ⟨b, off, none⟩) n c] Y2 fun e w' => e = .returned (.tuple #[.agg #[.int .u32 om, .slice A2 m2 c2], .int .i64 oe]) ∧ Below Y2.heap.size Y2 w' := by
  have q := only_n (num L0) A1 mr c1 R (some ⟨b, off, none⟩) n c l Y2 v0.1 v0.2 HMR.out p2 HRW.out (by omega) HLN.out (hb0.step t2) HY.out
  rwa [hv] at q
 have HM2 := Lib.hid hm2
 have HBS := Lib.hid hbs
 have HP := Lib.hid (o1.step' u2)
 have HT := Lib.hid t2
 clear cN u1 u2 o1 p2 hm2 hv hbs q0 t2
 go_wp2_with fail
 refine CC.mono ?_
 rintro e V2 ⟨rfl, u7⟩
 have T7 : Below W0.heap.size W0 V2 := HT.out.trans (u7.mono HT.out.size)
 have z1 := KZ.out _ T7
 obtain ⟨a0, a1, f0, f1, hzl⟩ := kz2_at z1
 have KR := Lib.hid <| kz2_get z1 (Value.int .u32 om) (.slice A2 m2 c2)
 have TF := Lib.hid <| below_st2 (HB.out.trans (T7.mono HB.out.size)) (Nat.le_refl _) (Value.int .u32 om) (.slice A2 m2 c2)
 have PF : Hid (Bs .u32 (st2 V2 w.heap.size (Value.int .u32 om) (.slice A2 m2 c2)) (st2 V2 w.heap.size (Value.int .u32 om) (.slice A2 m2 c2)).heap.size A2 oL) := Lib.hid (by
  rw [size_st2]
  rcases HBS.out with ⟨q1, q2⟩ | q
  ·subst q1
   rw [q2]
   have q3 := ((HP.out.step' u7).far2 (b := w.heap.size) (by have := HW0.out; omega) (Value.int .u32 om) (.slice A2 m2 c2)).bs
   rwa [size_st2] at q3
  ·rw [q]
   exact Bs.nil _)
 clear CC u7 z1 T7 hb0 HBS HP HT
 go_wp2
 obtain ⟨r0, r1⟩ := KR.out
 refine bodyPost_ret (v := .tuple #[.agg #[.int .u32 om, .slice A2 m2 c2], .int .i64 oe]) (by simp [results, Tryz.results74, go_sem, r0, r1]) rfl ⟨A2, m2, c2, HM2.out, rfl, PF.out, TF.out⟩
end Go.Proofs.YtadcicmccdphkaaGreat
namespace Go.Proofs.YtadcicmccdphkaaGreat
open Go.RowKit Go.Joins
open List (getElem_toArray getElem_cons_zero getElem_cons_succ setIfInBounds_toArray set_cons_zero set_cons_succ)

theorem infoL : (Tryz.prog.info? 149).map (fun i => (i.zero, i.size, i.bytes)) = some (some (.agg #[.int .i64 0, .int .u32 0, .int .u32 0, .int .i64 0]), 4, 24) := by kernel_rfl
theorem onlyR {l : List Int} (h : ¬ shR l) (A : Option Addr) (k c : Nat) (hk : k = (rdL l).length) : ∃ A2 m2 c2, m2 = (rdRL l).length ∧ (if encRE (l.getD 0 0) (rdL l) = 0 ∧ encRL (l.getD 0 0) (rdL l) = l then Value.tuple #[.agg #[.int .i64 (l.getD 0 0), .slice A k c], .int .i64 0] else .tuple #[.agg #[.int .i64 0, .slice none 0 0], .int .i64 3]) = .tuple #[.agg #[.int .i64 (rdRF l), .slice A2 m2 c2], .int .i64 (rdRE l)] ∧ ((A2 = A ∧ rdRL l = rdL l) ∨ rdRL l = []) := by
 have e : rdRE l = if okR l = true then 0 else 3 := by unfold rdRE; rw [if_neg h]
 by_cases hc : encRE (l.getD 0 0) (rdL l) = 0 ∧ encRL (l.getD 0 0) (rdL l) = l
 ·have hm : mayR (l.getD 0 0) (rdL l) = true := by
   have := hc.1
   unfold encRE at this
   by_cases q : mayR (l.getD 0 0) (rdL l) = true
   ·exact q
   ·rw [if_neg q] at this; omega
  have hl : enR (l.getD 0 0) (rdL l) = l := by
   have := hc.2
   unfold encRL at this
   rwa [if_pos hm] at this
  have ok : okR l = true := by unfold okR; rw [hm, decide_eq_true hl]; rfl
  rw [if_pos ok] at e
  have e2 : rdRF l = l.getD 0 0 := by unfold rdRF; rw [if_pos e]
  have e3 : rdRL l = rdL l := by unfold rdRL; rw [if_pos e]
  rw [if_pos hc, e, e2, e3]
  exact ⟨A, k, c, hk, rfl, .inl ⟨rfl, rfl⟩⟩
 ·have ok : ¬ okR l = true := fun q => by
   simp only [okR, Bool.and_eq_true, decide_eq_true_eq] at q
   exact hc ⟨by unfold encRE; rw [if_pos q.1], by unfold encRL; rw [if_pos q.1]; exact q.2⟩
  rw [if_neg ok] at e
  have e2 : rdRF l = 0 := by unfold rdRF; rw [if_neg (by omega)]
  have e3 : rdRL l = [] := by unfold rdRL; rw [if_neg (by omega)]
  rw [if_neg hc, e, e2, e3]
  exact ⟨none, 0, 0, rfl, rfl, .inr rfl⟩
def Lo (S : Nat → Prop) (w : World) (A : Option Addr) (c : Nat) (L : List Lk) : Prop := Ob 149 4 S w A c (lflat L)
theorem Lo.lr {S : Nat → Prop} {w : World} {A : Option Addr} {c : Nat} {L : List Lk} (h : Lo S w A c L) : Lr w A L := Ob.rd h
theorem Lo.step {S : Nat → Prop} {w w' : World} {A : Option Addr} {c : Nat} {L : List Lk} (h : Lo S w A c L) (hb : Below w.heap.size w w') : Lo S w' A c L := Ob.below h hb
theorem Lo.far {S : Nat → Prop} {w : World} {A : Option Addr} {c b : Nat} {L : List Lk} (h : Lo S w A c L) (hS : ∀ j, S j → j ≠ b) (u0 u1 : Value) : Lo S (st2 w b u0 u1) A c L := Ob.keep h fun j hj _ => far_st2 (hS j hj) _ _
theorem row_laid {w w' : World} {kx g c : Nat} {a v v' : Value} {t : TypeId} {L : List Lk} (hk : w.heap[kx]? = some (.cells #[a, v] t)) (hg : Rg 149 4 w g c (lflat L)) (hkg : kx < g) (hw : w' = w.setCell ⟨kx, 1, none⟩ v') :
  w'.heap[kx]? = some (.cells #[a, v'] t) ∧ Lo (kx < ·) w' (some ⟨g, 0, none⟩) c L := by
 subst hw
 refine ⟨?_, .inr ⟨g, hkg, rfl, hg.keep (Below.heap_setCell _ _ _ _ (fun e => by simp at e; omega))⟩⟩
 rw [block_setCell (i := 1) hk v']
 simp only [List.setIfInBounds_toArray, List.set_cons_zero, List.set_cons_succ]
set_option maxRecDepth 100000 in
set_option maxHeartbeats 8000000 in
theorem readrouter_any (A : Option Addr) (n c : Nat) (l : List Int) (w : World) (hn : l.length = n) (hb : Bt w A l) (hy : Byt l) (hc : n ≤ c) (hl : n ≤ 5000) :
  Calls Tryz.prog 73 #[.slice A n c] w fun e w' => ∃ A' m' c', m' = (rdRL l).length ∧ e = .returned (.tuple #[.agg #[.int .i64 (rdRF l), .slice A' m' c'], .int .i64 (rdRE l)]) ∧ Lr w' A' (rdRL l) ∧ Below w.heap.size w w' := by
 obtain ⟨W0, hW0⟩ : ∃ V, w.alloc (.cells #[Value.int .i64 0, .slice none 0 0] 124) = V := ⟨_, rfl⟩
 have bW0 : Below w.heap.size w W0 := by rw [← hW0]; exact below_alloc1 _ _
 have sW0 : W0.heap.size = w.heap.size + 1 := by rw [← hW0]; simp
 have KZ : Hid (∀ V, Below W0.heap.size W0 V → V.heap[w.heap.size]? = some (.cells #[Value.int .i64 0, .slice none 0 0] 124)) :=
  Lib.hid (fun V hV => by rw [hV.block _ (by omega), ← hW0]; exact alloc_at _ _ _ (by omega))
 have HB : Hid (Below w.heap.size w W0) := Lib.hid bW0
 have sh2 : shR l → rdRE l = 2 ∧ rdRF l = 0 ∧ rdRL l = [] := fun h => by
  have e : rdRE l = 2 := by unfold rdRE; rw [if_pos h]
  refine ⟨e, ?_, ?_⟩
  ·unfold rdRF; rw [e]; rfl
  ·unfold rdRL; rw [e]; rfl
 by_cases h4 : n < 4
 ·obtain ⟨e1, e2, e3⟩ := sh2 (by unfold shR; omega)
  rw [e1, e2, e3]
  have h4' : (n : Int) < 4 := by omega
  have z1 := KZ.out _ (Below.refl _ _)
  obtain ⟨a0, a1, f0, f1, hzl⟩ := kz2_at z1
  have KR := Lib.hid <| kz2_get z1 (Value.int .i64 0) (.slice none 0 0)
  have TF := Lib.hid <| below_st2 HB.out (Nat.le_refl _) (Value.int .i64 0) (.slice none 0 0)
  clear z1 KZ e1 e2 e3 hb hy bW0 hn sh2
  go_enter Tryz.func73, Tryz.ntmps73
  go_wp2
  obtain ⟨r0, r1⟩ := KR.out
  refine bodyPost_ret (v := .tuple #[.agg #[.int .i64 0, .slice none 0 0], .int .i64 2]) (by simp [results, Tryz.results73, go_sem, r0, r1]) rfl ⟨none, 0, 0, rfl, rfl, Lr.nil _ _, TF.out⟩
 obtain ⟨b, off, rfl, hbl, -⟩ := hb (by rintro rfl; simp at hn; omega)
 have hb0 := hb.step bW0
 have HW0 := Lib.hid sW0
 have q2 : Bt W0 (some ⟨b, off + 2, none⟩) (sub l 2 2) := hb0.sub 2 2
 have l2 : (sub l 2 2).length = 2 := sub_len (by omega)
 have z2 := sub_byt hy 2 2
 obtain ⟨hm, hm1⟩ := nl_eq hy (show 4 ≤ l.length by omega)
 have cN := ynumber_any (some ⟨b, off + 2, none⟩) 2 (c - 2) (sub l 2 2) W0 q2 z2 l2 (by omega) (by decide) (by decide)
 rw [← hm] at cN
 have hrl : (rdL l).length = nl l := rdL_length l
 have hrk : rdL l = rdk l (nl l) := rfl
 have hsh : ¬ shR l ↔ 4 + nl l * 12 ≤ n := by unfold shR; omega
 clear hm q2 l2 z2
 generalize hM : nl l = m at *
 clear hM
 have hm2 : (m : Int) < 65536 := by omega
 have hm3 : IntKind.i64.wrap (m : Int) = (m : Int) := wrap_i64 (by omega) (by omega)
 have h4' : ¬ ((n : Int) < 4) := by omega
 have n2 : ¬ (c = 2) := by omega
 have i4 : (4 : Int) ≤ (c : Int) := by omega
 have i4' : (4 : Int) ≤ (n : Int) := by omega
 by_cases hs : n < 4 + m * 12
 ·obtain ⟨e1, e2, e3⟩ := sh2 (Classical.byContradiction fun q => by have := hsh.1 q; omega)
  have hs' : (n : Int) < 4 + (m : Int) * 12 := by omega
  rw [e1, e2, e3]
  clear e1 e2 e3 hb hy bW0 hn sh2 hb0 hs hbl hsh hrl hrk sW0
  go_enter Tryz.func73, Tryz.ntmps73
  go_wp2_with fail
  refine cN.mono ?_
  rintro e Y1 ⟨rfl, u1⟩
  have z1 := KZ.out _ u1
  obtain ⟨a0, a1, f0, f1, hzl⟩ := kz2_at z1
  have KR := Lib.hid <| kz2_get z1 (Value.int .i64 0) (.slice none 0 0)
  have TF := Lib.hid <| below_st2 (HB.out.trans (u1.mono HB.out.size)) (Nat.le_refl _) (Value.int .i64 0) (.slice none 0 0)
  clear z1 KZ u1 cN
  go_wp2
  obtain ⟨r0, r1⟩ := KR.out
  refine bodyPost_ret (v := .tuple #[.agg #[.int .i64 0, .slice none 0 0], .int .i64 2]) (by simp [results, Tryz.results73, go_sem, r0, r1]) rfl ⟨none, 0, 0, rfl, rfl, Lr.nil _ _, TF.out⟩
 have hs2 : 4 + m * 12 ≤ n := by omega
 have hs' : ¬ ((n : Int) < 4 + (m : Int) * 12) := by omega
 have g0 : W0.cell? ⟨b, off, none⟩ = some (.int .u8 (l.getD 0 0)) := by simpa using hb0.get (i := 0) (by omega)
 have w0 := byt_getD hy 0
 have hbk := hb0.blk (by rintro rfl; simp at hn; omega)
 have OK := rdk_ok hy m (by omega)
 have HO := fun A' c' => onlyR (l := l) (hsh.2 hs2) A' m c' hrl.symm
 rw [hrk] at HO
 have HRK := Lib.hid (rdk_length l m)
 have HOK := Lib.hid OK
 have HH := Lib.hid HO
 have HLN := Lib.hid hn
 have HY := Lib.hid hy
 have HB0 := Lib.hid hb0
 have HBK := Lib.hid hbk
 have hwx : IntKind.i64.wrap (l.getD 0 0) = l.getD 0 0 := wrap_i64 (by omega) (by omega)
 generalize l.getD 0 0 = x0 at *
 generalize rdRF l = of at *
 generalize rdRL l = oL at *
 generalize rdRE l = oe at *
 have hj0 : (0 : Int) < (n : Int) := by omega
 have hj1 : 0 < n := by omega
 have hm416 : m ≤ 416 := by omega
 clear hm1 hm2 hb bW0 hn hy sh2 hs hsh hrl hrk OK HO hbl hb0 hbk sW0
 go_enter Tryz.func73, Tryz.ntmps73
 go_wp2_with fail
 refine cN.mono ?_
 rintro e Y1 ⟨rfl, u1⟩
 have c0 := (u1.cell (p := ⟨b, off, none⟩) HBK.out).trans g0
 obtain ⟨W1, hW1⟩ : ∃ V, Y1.alloc (.cells #[Value.int .i64 x0, .slice none 0 0] 124) = V := ⟨_, rfl⟩
 have b1 : Below Y1.heap.size Y1 W1 := by rw [← hW1]; exact below_alloc1 _ _
 have KA : Hid (At W1 Y1.heap.size (.cells #[Value.int .i64 x0, .slice none 0 0] 124)) := Lib.hid (At.mk hW1)
 have B1 : Hid (Below W0.heap.size W0 W1) := Lib.hid (u1.trans (b1.mono u1.size))
 have HS : Hid (W0.heap.size ≤ Y1.heap.size) := Lib.hid u1.size
 have HX1 := Lib.hid hW1
 clear cN u1 g0 hW1
 go_wp2_with fail
 rw [HX1.out]
 clear b1 c0
 obtain ⟨kx, hkx⟩ : ∃ kx, Y1.heap.size = kx := ⟨_, rfl⟩
 rw [hkx] at KA HS ⊢
 clear hkx HX1
 go_loopg [28] m (fun gf v28 wx => ∃ (j : Nat) (A' : Option Addr) (c' : Nat), v28 = .int .i64 (j : Int) ∧ Hid (gf + j = m) ∧ Hid (At wx kx (.cells #[Value.int .i64 x0, .slice A' j c'] 124)) ∧ Hid (Lo (kx < ·) wx A' c' (rdk l j)) ∧ Hid (Below W0.heap.size W0 wx))
 case atStart => exact ⟨0, none, 0, rfl, Lib.hid (by omega), KA, Lib.hid (.inl ⟨rfl, rfl, rfl⟩), B1⟩
 case round =>
  obtain ⟨j, A', c', rfl, hj, hA, ho, hb⟩ := hrel
  have hj' := hj.out
  clear KA B1
  cases gk with
  | zero =>
   have e9 : j = m := by omega
   subst e9
   have lt0 : decide ((j : Int) < (j : Int)) = false := by simp
   have lt1 : decide (j < j) = false := by simp
   obtain ⟨k0, k1, h0, h1, hkl⟩ := kz2_at hA.out
   obtain ⟨A2, m2, c2, hm2, hv, hbs⟩ := HH.out A' c'
   have CC : Calls Tryz.prog 99 #[.agg #[.int .i64 x0, .slice A' j c'], .func (.func 100) #[] #[], .slice (some ⟨b, off, none⟩) n c] wr fun e w' => e = .returned (.tuple #[.agg #[.int .i64 of, .slice A2 m2 c2], .int .i64 oe]) ∧ Below wr.heap.size wr w' := by
    have q := only_r x0 A' j c' (rdk l j) (some ⟨b, off, none⟩) n c l wr HRK.out HOK.out ho.out.lr (by omega) HLN.out (HB0.out.step hb.out) HY.out
    rwa [hv] at q
   have HM2 := Lib.hid hm2
   have HBS := Lib.hid hbs
   clear hm2 hv hbs
   go_wp2_with fail
   refine CC.mono ?_
   rintro e V2 ⟨rfl, u7⟩
   have T7 : Below W0.heap.size W0 V2 := hb.out.trans (u7.mono hb.out.size)
   have z1 := KZ.out _ T7
   obtain ⟨a0, a1, f0, f1, hzl⟩ := kz2_at z1
   have KR := Lib.hid <| kz2_get z1 (Value.int .i64 of) (.slice A2 m2 c2)
   have TF := Lib.hid <| below_st2 (HB.out.trans (T7.mono HB.out.size)) (Nat.le_refl _) (Value.int .i64 of) (.slice A2 m2 c2)
   have PF : Hid (Lr (st2 V2 w.heap.size (Value.int .i64 of) (.slice A2 m2 c2)) A2 oL) := Lib.hid (by
    rcases HBS.out with ⟨q1, q2⟩ | q
    ·subst q1
     rw [q2]
     exact ((ho.out.step u7).far (b := w.heap.size) (fun i hi => by have := HW0.out; have := HS.out; omega) (Value.int .i64 of) (.slice A2 m2 c2)).lr
    ·rw [q]
     exact Lr.nil _ _)
   clear CC u7 z1 T7 HBS k0 k1 h0 h1
   go_wp2
   obtain ⟨r0, r1⟩ := KR.out
   refine bodyPost_ret (v := .tuple #[.agg #[.int .i64 of, .slice A2 m2 c2], .int .i64 oe]) (by simp [results, Tryz.results73, go_sem, r0, r1]) rfl ⟨A2, m2, c2, HM2.out, rfl, PF.out, TF.out⟩
  | succ gf =>
   have lt0 : (j : Int) < (m : Int) := by omega
   have hw1 : (j : Int) + 1 ≤ 10000 := by omega
   obtain ⟨p, hp⟩ : ∃ p, 4 + j * 12 = p := ⟨_, rfl⟩
   have hp1 : p + 12 ≤ n := by omega
   have hpI : (4 : Int) + (j : Int) * 12 = (p : Int) := by omega
   have hkl : kx < wr.heap.size := lt_of_block hA.out
   have KC : Hid (∀ V, Below wr.heap.size wr V → At V kx (.cells #[Value.int .i64 x0, .slice A' j c'] 124)) := Lib.hid (fun V hV => hA.out.step hV)
   have q0 : Bt wr (some ⟨b, off + p, none⟩) (l.drop p) := (HB0.out.step hb.out).drop p _ (fun _ => by simp [addr_add])
   have hd : (l.drop p).length = n - p := by rw [List.length_drop, HLN.out]
   have HRS : Hid (rdk l (j + 1) = rdk l j ++ [lk0 (l.drop p)]) := Lib.hid (by rw [rdk_succ, hp])
   have HDP := Lib.hid (HY.out.drop p)
   have HD := Lib.hid hd
   have HPI := Lib.hid hpI
   generalize l.drop p = D at *
   obtain ⟨i0, hi0, hz0, hz1, hz2⟩ := info_of infoL
   have n1 : ¬ (c = p) := by omega
   have i1 : (p : Int) ≤ (n : Int) := by omega
   have i2 : (p : Int) ≤ (c : Int) := by omega
   have tt : Below wr.heap.size wr wr := Below.refl _ _
   clear hd hpI hp
   go_wp2_with fail
   refine wp_region_held_drew (S := fun V => True) (by kernel_rfl) trivial (fun hHeld => ?_)
   replace tt : Below wr.heap.size wr wr.drew := tt.drew
   replace q0 : Bt wr.drew (some ⟨b, off + p, none⟩) D := q0
   generalize hX0 : wr.drew = X0 at tt q0 hHeld ⊢
   clear hX0
   refine wpAnyH_take (i := 0) (v := ?_) rfl (by kernel_rfl) (by kernel_rfl) (by kernel_rfl) (fun _ _ _ h => h) (Or.inl ⟨by rfl, ?_⟩) (by assumption) ?_
   rotate_left
   ·(intro w' hSw; (try dsimp only at hSw); go_simp; try with_reducible rfl)
   simp only [Act.put, getElem_toArray, getElem_cons_zero, setIfInBounds_toArray, set_cons_zero, set_cons_succ]
   refine wpAnyH_take (i := 2) (v := ?_) rfl (by kernel_rfl) (by kernel_rfl) (by kernel_rfl) (fun _ _ _ h => h) (Or.inl ⟨by rfl, ?_⟩) (by assumption) ?_
   rotate_left
   ·(intro w' hSw; (try dsimp only at hSw); go_simp; try with_reducible rfl)
   simp only [Act.put, getElem_toArray, getElem_cons_zero, getElem_cons_succ, setIfInBounds_toArray, set_cons_zero, set_cons_succ]
   refine wpAnyH_take (i := 3) (v := ?_) rfl (by kernel_rfl) (by kernel_rfl) (by kernel_rfl) (fun _ _ _ h => h) (Or.inl ⟨by rfl, ?_⟩) (by assumption) ?_
   rotate_left
   ·(intro w' hSw; (try dsimp only at hSw); go_simp; try with_reducible rfl)
   simp only [Act.put, getElem_toArray, getElem_cons_zero, getElem_cons_succ, setIfInBounds_toArray, set_cons_zero, set_cons_succ]
   refine wpAnyH_take (i := 4) (v := .int .i64 ((j : Int) * 12)) rfl (by kernel_rfl) (by kernel_rfl) (by kernel_rfl) (fun _ _ _ h => h) (Or.inl ⟨by rfl, ?_⟩) (by assumption) ?_
   ·(intro w' hSw; (try dsimp only at hSw); go_simp; rw [wrap_i64 (by omega) (by omega)])
   simp only [Act.put, getElem_toArray, getElem_cons_zero, getElem_cons_succ, setIfInBounds_toArray, set_cons_zero, set_cons_succ]
   refine wpAnyH_take (i := 5) (v := .int .i64 (p : Int)) rfl (by kernel_rfl) (by kernel_rfl) (by kernel_rfl) (fun _ _ _ h => h) (Or.inl ⟨by rfl, ?_⟩) (by assumption) ?_
   ·(intro w' hSw; (try dsimp only at hSw); go_simp; rw [HPI.out, wrap_i64 (by omega) (by omega)])
   simp only [Act.put, getElem_toArray, getElem_cons_zero, getElem_cons_succ, setIfInBounds_toArray, set_cons_zero, set_cons_succ]
   refine wpAnyH_take (i := 6) (v := .slice (some ⟨b, off + p, none⟩) (n - p) (c - p)) rfl (by kernel_rfl) (by kernel_rfl) (by kernel_rfl) (fun _ _ _ h => h) (Or.inl ⟨by rfl, ?_⟩) (by assumption) ?_
   ·(intro w' hSw; (try dsimp only at hSw); go_simp; try rfl)
   simp only [Act.put, getElem_toArray, getElem_cons_zero, getElem_cons_succ, setIfInBounds_toArray, set_cons_zero, set_cons_succ]
   refine wpAnyH_ready (rs := [1, 7]) (by kernel_rfl) (by simp) ?_
   refine AllReadyH.cons rfl (fun K hK => ?_) ?_
   ·obtain ⟨k0, k1, h0, h1, hkl2⟩ := kz2_at (KC.out _ tt)
    go_simp
    clear k0 k1 h0 h1 hkl2
    refine hK.out _ _ trivial (fun _ => ?_)
    clear hK K
    refine wpAnyH_ready (rs := [7]) (by kernel_rfl) (by simp) ?_
    refine AllReadyH.cons rfl (fun K hK => ?_) AllReadyH.nil
    go_simp
    go_at_call 98
    refine (readlink_any (some ⟨b, off + p, none⟩) (n - p) (c - p) D X0 HD.out q0 HDP.out (by omega) (by omega) (by omega)).mono ?_
    rintro e Y11 ⟨rfl, u11⟩
    have t_Y11 : Below wr.heap.size wr Y11 := tt.trans (u11.mono tt.size)
    replace q0 := q0.step u11
    obtain ⟨y, hy⟩ : ∃ y, lk0 D = y := ⟨_, rfl⟩
    rw [hy] at HRS ⊢
    clear hy
    refine hK.out _ _ trivial (fun _ => ?_)
    clear hK K
    refine wpAnyH_ready (rs := [8]) (by kernel_rfl) (by simp) ?_
    refine AllReadyH.cons rfl (fun K hK => ?_) AllReadyH.nil
    go_simp
    obtain ⟨Y12, hY12⟩ : ∃ V, Y11.alloc (.cells #[.int .i64 y.k, .int .u32 y.i, .int .u32 y.d, .int .i64 y.c] 149) = V := ⟨_, rfl⟩
    have u12 : Below Y11.heap.size Y11 Y12 := by rw [← hY12]; exact below_alloc1 _ _
    have t_Y12 : Below wr.heap.size wr Y12 := t_Y11.trans (u12.mono t_Y11.size)
    replace q0 := q0.step u12
    obtain ⟨k12, hk12⟩ : ∃ k, Y11.heap.size = k := ⟨_, rfl⟩
    try rw [hY12]
    try rw [hk12]
    refine hK.out _ _ trivial (fun _ => ?_)
    clear hK K
    refine wpAnyH_ready (rs := [9]) (by kernel_rfl) (by simp) ?_
    refine AllReadyH.cons rfl (fun K hK => ?_) AllReadyH.nil
    have AX := KC.out _ t_Y11
    have oX := ho.out.step t_Y11
    obtain ⟨g9, c9, Z9, r9, rg9, kp9, hg9⟩ := app_one (P := Tryz.prog) (S := (kx < ·)) Tryz.underlying101 hi0 hz0 hz1 hz2 rfl (by decide) (by decide) oX (by rw [lflat_length, rdk_length]) (lkc y) rfl (lkc_one y) (by omega) k12 hk12
    rw [show (lkc y).toArray = #[.int .i64 y.k, .int .u32 y.i, .int .u32 y.d, .int .i64 y.c] from rfl, hY12] at r9
    have A9 : Hid (At Z9 kx (.cells #[Value.int .i64 x0, .slice A' j c'] 124)) := Lib.hid ((kp9.block kx AX.lt (by omega)).trans AX)
    have G9 : Hid (kx < g9) := Lib.hid (by rcases hg9 with q | q; exact q; have := AX.lt; omega)
    have RG9 := Lib.hid rg9
    have B9 : Hid (Below W0.heap.size W0 Z9) := Lib.hid (by
     have t9 := hb.out.trans (t_Y11.mono hb.out.size)
     exact t9.trans (kp9.below (fun i hi => by have := HS.out; omega) t9.size))
    clear AX oX rg9 kp9 hg9
    refine step_runb _ rfl (.tmp 32) (.tmp 39) 101 rfl rfl rfl r9 ?_
    refine hK.out _ _ trivial (fun _ => ?_)
    clear hK K
    refine wpAnyH_take (i := 10) (v := ?_) rfl (by kernel_rfl) (by kernel_rfl) (by kernel_rfl) (fun _ _ _ h => h) (Or.inl ⟨by rfl, ?_⟩) (by assumption) ?_
    rotate_left
    ·(intro w' hSw; (try dsimp only at hSw); go_simp; try with_reducible rfl)
    simp only [Act.put, getElem_toArray, getElem_cons_zero, getElem_cons_succ, setIfInBounds_toArray, set_cons_zero, set_cons_succ]
    refine wpAnyH_ready (rs := [11]) (by kernel_rfl) (by simp) ?_
    refine AllReadyH.cons rfl (fun K hK => ?_) AllReadyH.nil
    obtain ⟨k0, k1, h0, h1, hkl2⟩ := kz2_at A9.out
    have FN := Lib.hid (row_laid (v' := .slice (some ⟨g9, 0, none⟩) (j + 1) c9) A9.out (L := rdk l (j + 1)) (by rw [HRS.out, lflat_snoc]; exact RG9.out) G9.out rfl)
    have BN : Hid (Below W0.heap.size W0 (Z9.setCell ⟨kx, 1, none⟩ (.slice (some ⟨g9, 0, none⟩) (j + 1) c9))) := Lib.hid (B9.out.setCell (p := ⟨kx, 1, none⟩) HS.out _)
    clear hHeld
    go_simp
    refine hK.out _ _ trivial (fun _ => ?_)
    clear hK K
    refine wpAnyH_done (by kernel_rfl) ?_ _
    go_wp2
    go_roundg gf
    case measure => omega
    case rel => exact ⟨j + 1, _, _, by go_num, Lib.hid (by omega), Lib.hid FN.out.1, Lib.hid FN.out.2, BN⟩
   refine AllReadyH.cons rfl (fun K hK => ?_) AllReadyH.nil
   go_simp
   go_at_call 98
   refine (readlink_any (some ⟨b, off + p, none⟩) (n - p) (c - p) D X0 HD.out q0 HDP.out (by omega) (by omega) (by omega)).mono ?_
   rintro e Y11 ⟨rfl, u11⟩
   have t_Y11 : Below wr.heap.size wr Y11 := tt.trans (u11.mono tt.size)
   replace q0 := q0.step u11
   obtain ⟨y, hy⟩ : ∃ y, lk0 D = y := ⟨_, rfl⟩
   rw [hy] at HRS ⊢
   clear hy
   refine hK.out _ _ trivial (fun _ => ?_)
   clear hK K
   refine wpAnyH_ready (rs := [1, 8]) (by kernel_rfl) (by simp) ?_
   refine AllReadyH.cons rfl (fun K hK => ?_) ?_
   ·obtain ⟨k0, k1, h0, h1, hkl2⟩ := kz2_at (KC.out _ t_Y11)
    go_simp
    clear k0 k1 h0 h1 hkl2
    refine hK.out _ _ trivial (fun _ => ?_)
    clear hK K
    refine wpAnyH_ready (rs := [8]) (by kernel_rfl) (by simp) ?_
    refine AllReadyH.cons rfl (fun K hK => ?_) AllReadyH.nil
    go_simp
    obtain ⟨Y12, hY12⟩ : ∃ V, Y11.alloc (.cells #[.int .i64 y.k, .int .u32 y.i, .int .u32 y.d, .int .i64 y.c] 149) = V := ⟨_, rfl⟩
    have u12 : Below Y11.heap.size Y11 Y12 := by rw [← hY12]; exact below_alloc1 _ _
    have t_Y12 : Below wr.heap.size wr Y12 := t_Y11.trans (u12.mono t_Y11.size)
    replace q0 := q0.step u12
    obtain ⟨k12, hk12⟩ : ∃ k, Y11.heap.size = k := ⟨_, rfl⟩
    try rw [hY12]
    try rw [hk12]
    refine hK.out _ _ trivial (fun _ => ?_)
    clear hK K
    refine wpAnyH_ready (rs := [9]) (by kernel_rfl) (by simp) ?_
    refine AllReadyH.cons rfl (fun K hK => ?_) AllReadyH.nil
    have AX := KC.out _ t_Y11
    have oX := ho.out.step t_Y11
    obtain ⟨g9, c9, Z9, r9, rg9, kp9, hg9⟩ := app_one (P := Tryz.prog) (S := (kx < ·)) Tryz.underlying101 hi0 hz0 hz1 hz2 rfl (by decide) (by decide) oX (by rw [lflat_length, rdk_length]) (lkc y) rfl (lkc_one y) (by omega) k12 hk12
    rw [show (lkc y).toArray = #[.int .i64 y.k, .int .u32 y.i, .int .u32 y.d, .int .i64 y.c] from rfl, hY12] at r9
    have A9 : Hid (At Z9 kx (.cells #[Value.int .i64 x0, .slice A' j c'] 124)) := Lib.hid ((kp9.block kx AX.lt (by omega)).trans AX)
    have G9 : Hid (kx < g9) := Lib.hid (by rcases hg9 with q | q; exact q; have := AX.lt; omega)
    have RG9 := Lib.hid rg9
    have B9 : Hid (Below W0.heap.size W0 Z9) := Lib.hid (by
     have t9 := hb.out.trans (t_Y11.mono hb.out.size)
     exact t9.trans (kp9.below (fun i hi => by have := HS.out; omega) t9.size))
    clear AX oX rg9 kp9 hg9
    refine step_runb _ rfl (.tmp 32) (.tmp 39) 101 rfl rfl rfl r9 ?_
    refine hK.out _ _ trivial (fun _ => ?_)
    clear hK K
    refine wpAnyH_take (i := 10) (v := ?_) rfl (by kernel_rfl) (by kernel_rfl) (by kernel_rfl) (fun _ _ _ h => h) (Or.inl ⟨by rfl, ?_⟩) (by assumption) ?_
    rotate_left
    ·(intro w' hSw; (try dsimp only at hSw); go_simp; try with_reducible rfl)
    simp only [Act.put, getElem_toArray, getElem_cons_zero, getElem_cons_succ, setIfInBounds_toArray, set_cons_zero, set_cons_succ]
    refine wpAnyH_ready (rs := [11]) (by kernel_rfl) (by simp) ?_
    refine AllReadyH.cons rfl (fun K hK => ?_) AllReadyH.nil
    obtain ⟨k0, k1, h0, h1, hkl2⟩ := kz2_at A9.out
    have FN := Lib.hid (row_laid (v' := .slice (some ⟨g9, 0, none⟩) (j + 1) c9) A9.out (L := rdk l (j + 1)) (by rw [HRS.out, lflat_snoc]; exact RG9.out) G9.out rfl)
    have BN : Hid (Below W0.heap.size W0 (Z9.setCell ⟨kx, 1, none⟩ (.slice (some ⟨g9, 0, none⟩) (j + 1) c9))) := Lib.hid (B9.out.setCell (p := ⟨kx, 1, none⟩) HS.out _)
    clear hHeld
    go_simp
    refine hK.out _ _ trivial (fun _ => ?_)
    clear hK K
    refine wpAnyH_done (by kernel_rfl) ?_ _
    go_wp2
    go_roundg gf
    case measure => omega
    case rel => exact ⟨j + 1, _, _, by go_num, Lib.hid (by omega), Lib.hid FN.out.1, Lib.hid FN.out.2, BN⟩
   refine AllReadyH.cons rfl (fun K hK => ?_) AllReadyH.nil
   go_simp
   obtain ⟨Y12, hY12⟩ : ∃ V, Y11.alloc (.cells #[.int .i64 y.k, .int .u32 y.i, .int .u32 y.d, .int .i64 y.c] 149) = V := ⟨_, rfl⟩
   have u12 : Below Y11.heap.size Y11 Y12 := by rw [← hY12]; exact below_alloc1 _ _
   have t_Y12 : Below wr.heap.size wr Y12 := t_Y11.trans (u12.mono t_Y11.size)
   replace q0 := q0.step u12
   obtain ⟨k12, hk12⟩ : ∃ k, Y11.heap.size = k := ⟨_, rfl⟩
   try rw [hY12]
   try rw [hk12]
   refine hK.out _ _ trivial (fun _ => ?_)
   clear hK K
   refine wpAnyH_ready (rs := [1]) (by kernel_rfl) (by simp) ?_
   refine AllReadyH.cons rfl (fun K hK => ?_) AllReadyH.nil
   obtain ⟨k0, k1, h0, h1, hkl2⟩ := kz2_at (KC.out _ t_Y12)
   go_simp
   clear k0 k1 h0 h1 hkl2
   refine hK.out _ _ trivial (fun _ => ?_)
   clear hK K
   refine wpAnyH_ready (rs := [9]) (by kernel_rfl) (by simp) ?_
   refine AllReadyH.cons rfl (fun K hK => ?_) AllReadyH.nil
   have AX := KC.out _ t_Y11
   have oX := ho.out.step t_Y11
   obtain ⟨g9, c9, Z9, r9, rg9, kp9, hg9⟩ := app_one (P := Tryz.prog) (S := (kx < ·)) Tryz.underlying101 hi0 hz0 hz1 hz2 rfl (by decide) (by decide) oX (by rw [lflat_length, rdk_length]) (lkc y) rfl (lkc_one y) (by omega) k12 hk12
   rw [show (lkc y).toArray = #[.int .i64 y.k, .int .u32 y.i, .int .u32 y.d, .int .i64 y.c] from rfl, hY12] at r9
   have A9 : Hid (At Z9 kx (.cells #[Value.int .i64 x0, .slice A' j c'] 124)) := Lib.hid ((kp9.block kx AX.lt (by omega)).trans AX)
   have G9 : Hid (kx < g9) := Lib.hid (by rcases hg9 with q | q; exact q; have := AX.lt; omega)
   have RG9 := Lib.hid rg9
   have B9 : Hid (Below W0.heap.size W0 Z9) := Lib.hid (by
    have t9 := hb.out.trans (t_Y11.mono hb.out.size)
    exact t9.trans (kp9.below (fun i hi => by have := HS.out; omega) t9.size))
   clear AX oX rg9 kp9 hg9
   refine step_runb _ rfl (.tmp 32) (.tmp 39) 101 rfl rfl rfl r9 ?_
   refine hK.out _ _ trivial (fun _ => ?_)
   clear hK K
   refine wpAnyH_take (i := 10) (v := ?_) rfl (by kernel_rfl) (by kernel_rfl) (by kernel_rfl) (fun _ _ _ h => h) (Or.inl ⟨by rfl, ?_⟩) (by assumption) ?_
   rotate_left
   ·(intro w' hSw; (try dsimp only at hSw); go_simp; try with_reducible rfl)
   simp only [Act.put, getElem_toArray, getElem_cons_zero, getElem_cons_succ, setIfInBounds_toArray, set_cons_zero, set_cons_succ]
   refine wpAnyH_ready (rs := [11]) (by kernel_rfl) (by simp) ?_
   refine AllReadyH.cons rfl (fun K hK => ?_) AllReadyH.nil
   obtain ⟨k0, k1, h0, h1, hkl2⟩ := kz2_at A9.out
   have FN := Lib.hid (row_laid (v' := .slice (some ⟨g9, 0, none⟩) (j + 1) c9) A9.out (L := rdk l (j + 1)) (by rw [HRS.out, lflat_snoc]; exact RG9.out) G9.out rfl)
   have BN : Hid (Below W0.heap.size W0 (Z9.setCell ⟨kx, 1, none⟩ (.slice (some ⟨g9, 0, none⟩) (j + 1) c9))) := Lib.hid (B9.out.setCell (p := ⟨kx, 1, none⟩) HS.out _)
   clear hHeld
   go_simp
   refine hK.out _ _ trivial (fun _ => ?_)
   clear hK K
   refine wpAnyH_done (by kernel_rfl) ?_ _
   go_wp2
   go_roundg gf
   case measure => omega
   case rel => exact ⟨j + 1, _, _, by go_num, Lib.hid (by omega), Lib.hid FN.out.1, Lib.hid FN.out.2, BN⟩
end Go.Proofs.YtadcicmccdphkaaGreat
namespace Go.Proofs.YtadcicmccdphkaaGreat
open Go.RowKit

/-! ### Same, of two rows that are the same -/
/-! ### Put -/
/-! ### Take -/
theorem num_step' (l : List Int) (hy : Byt l) (j : Nat) (hj : j < l.length) (h3 : j ≤ 3) : 0 ≤ num (l.take j) ∧ num (l.take j) < 16777216 ∧ 0 ≤ l[j] ∧ l[j] < 256 ∧ num (l.take j) * 256 + l[j] = num (l.take (j + 1)) := by
 have hb := num_take (l.take (j + 1)) (hy.take _) j (by simp; omega) (by simp; omega)
 rw [List.take_take, Nat.min_eq_left (by omega)] at hb
 have hx := hy l[j] (List.getElem_mem hj)
 exact ⟨hb.1, hb.2, hx.1, hx.2, by rw [List.take_succ_eq_append_getElem hj, num_snoc]⟩
set_option maxRecDepth 100000 in
set_option maxHeartbeats 1000000 in
theorem rtake_any (A : Option Addr) (c : Nat) (l : List Int) (B : Nat) (m : Int) (w : World) (hb : Bs .u8 w B A l) (hy : Byt l) (hc : l.length ≤ c) (hB : B ≤ w.heap.size) (hl : l.length ≤ 100000) :
  Calls Tryz.prog 114 #[.slice A l.length c, .int .i64 m] w fun e w' => ∃ A' c', e = .returned (.tuple #[.int .u32 (takeN l m), .slice A' (takeL l m).length c', .int .i64 (takeE l m)]) ∧ Own .u8 5 w' w.heap.size A' c' (takeL l m) ∧ Below w.heap.size w w' := by
 by_cases hm : m < 1 ∨ 4 < m
 ·have e1 : takeE l m = 1 := by simp [takeE, hm]
  have e2 : takeL l m = [] := by simp [takeL, e1]
  have e3 : takeN l m = 0 := by simp [takeN, e1]
  rw [e1, e2, e3]
  clear e1 e2 e3
  rcases hm with hm | hm
  ·go_enter Tryz.func114, Tryz.ntmps114
   go_wp2
   go_ret3
   exact ⟨none, 0, rfl, Own.nil _ _, Below.refl _ _⟩
  ·have hm1 : ¬ m < 1 := by omega
   go_enter Tryz.func114, Tryz.ntmps114
   go_wp2
   go_ret3
   exact ⟨none, 0, rfl, Own.nil _ _, Below.refl _ _⟩
 have h1 : 1 ≤ m := by omega
 have h2 : m ≤ 4 := by omega
 have h1' : ¬ m < 1 := by omega
 have h2' : ¬ 4 < m := by omega
 have h0 : 0 ≤ m := by omega
 by_cases hf : (l.length : Int) < m
 ·have e1 : takeE l m = 2 := by simp [takeE, hm, hf]
  have e2 : takeL l m = [] := by simp [takeL, e1]
  have e3 : takeN l m = 0 := by simp [takeN, e1]
  rw [e1, e2, e3]
  clear hm e1 e2 e3
  go_enter Tryz.func114, Tryz.ntmps114
  go_wp2
  go_ret3
  exact ⟨none, 0, rfl, Own.nil _ _, Below.refl _ _⟩
 have e1 : takeE l m = 0 := by simp [takeE, hm, hf]
 have e2 : takeL l m = l.drop m.toNat := by simp [takeL, e1]
 have e3 : takeN l m = num (l.take m.toNat) := by simp [takeN, e1]
 rw [e1, e3]
 have E2 := Lib.hid e2
 have hf' : m ≤ (l.length : Int) := by omega
 clear hm e1 e2 e3 hf
 obtain ⟨i0, hi, hz0, hz1, hz2⟩ := info_parts info5
 obtain ⟨b, off, rfl, hbB, -⟩ := hb (by rintro rfl; simp at hf'; omega)
 go_enter Tryz.func114, Tryz.ntmps114
 go_wp2
 go_loop [7, 8] (fun n i => ∃ j : Nat, j ≤ m.toNat ∧ i = .int .i64 (j : Int) ∧ n = .int .u32 (num (l.take j))) (fun _ i => m.toNat - (intOf i).toNat)
 case atStart => exact ⟨0, Nat.zero_le _, rfl, rfl⟩
 case round =>
  obtain ⟨j, hj, rfl, rfl⟩ := hrel
  by_cases hlt : (j : Int) < m
  ·have hjl : j < l.length := by omega
   obtain ⟨b', off', hbb, -, hc0⟩ := hb.at_ hjl
   obtain ⟨rfl, rfl⟩ : b = b' ∧ off = off' := by injection hbb with h; injection h with h1 h2; exact ⟨h1, h2⟩
   have hst := num_step' l hy j hjl (by omega)
   obtain ⟨g1, g2, g3, g4, g5⟩ := hst
   have HS := Lib.hid g5
   clear g5 hbb
   go_wp2
   go_round
   case rel => exact ⟨j + 1, by omega, by go_num, val_int HS.out⟩
   case measure => simp [intOf]; omega
  ·obtain rfl : j = m.toNat := by omega
   have hcm : m ≤ (c : Int) := by omega
   by_cases hcc : c = m.toNat
   ·subst hcc
    have hd : Bs .u8 w B (some ⟨b, off, none⟩) (l.drop m.toNat) := hb.drop _ _ (fun h => by omega)
    go_wp2_with (at_builtin; refine wpList_appn _ rfl (.tmp 33) (.tmp 36) 38 rfl w.heap.size 5 .u8 i0 _ 1 Tryz.underlying38 hi hz0 hz1 hz2 rfl _ _ [] rfl (Own.empty w w.heap.size (Nat.le_refl _) .u8 5) B _ _ _ (l.drop m.toNat) rfl ?_ (hd.alloc hB _) ?_ ?_ ?_ ?_; (simp only [List.length_drop] <;> omega); (simp [maxLen] <;> omega); (simp <;> omega); (simp <;> omega); intro l3 A3 c3 w3 hl3 ho3 hb3)
    go_ret3
    rw [E2.out, show l.drop m.toNat = l3 by rw [hl3.out, List.nil_append]]
    exact ⟨_, _, rfl, ho3, ((Below.refl _ w).alloc (Nat.le_refl _) _).trans hb3⟩
   ·have hcc' : ¬ (m.toNat = c) := fun h => hcc h.symm
    have hd : Bs .u8 w B (some ⟨b, off + m.toNat, none⟩) (l.drop m.toNat) := hb.drop _ _ (fun h => by simp [addr_add])
    go_wp2_with (at_builtin; refine wpList_appn _ rfl (.tmp 33) (.tmp 36) 38 rfl w.heap.size 5 .u8 i0 _ 1 Tryz.underlying38 hi hz0 hz1 hz2 rfl _ _ [] rfl (Own.empty w w.heap.size (Nat.le_refl _) .u8 5) B _ _ _ (l.drop m.toNat) rfl ?_ (hd.alloc hB _) ?_ ?_ ?_ ?_; (simp only [List.length_drop] <;> omega); (simp [maxLen] <;> omega); (simp <;> omega); (simp <;> omega); intro l3 A3 c3 w3 hl3 ho3 hb3)
    go_ret3
    rw [E2.out, show l.drop m.toNat = l3 by rw [hl3.out, List.nil_append]]
    exact ⟨_, _, rfl, ho3, ((Below.refl _ w).alloc (Nat.le_refl _) _).trans hb3⟩
end Go.Proofs.YtadcicmccdphkaaGreat
