/-
  store.New and store.Find. No statement is proved here; no conditions.
-/
import Derived.Test.YtadcicmccdphkaaFh
namespace Go.Proofs.Ytadcicmccdphkaa
open Go.RowKit Go.Joins

theorem smayMax_any (m : Int) (w : World) : Calls Try.prog 15 #[.int .i64 m] w fun e w' => e = .returned (.bool (win m 1 2000)) ∧ w = w' := by
  by_cases h1 : 1 ≤ m
  · have d1 : decide (m ≥ 1) = true := by simpa using h1
    go_enter Try.func15, Try.ntmps15
    go_wp2
    go_ret
    exact ⟨ret_bool (by simp [win, h1]), rfl⟩
  · have d1 : decide (m ≥ 1) = false := by simpa using h1
    go_enter Try.func15, Try.ntmps15
    go_wp2
    go_ret
    exact ⟨ret_bool (by rw [win, show decide (1 ≤ m) = false by simpa using h1]; rfl), rfl⟩
/-- The greatest number of a new store, and its error. -/
def nwM (m : Int) : Int := if win m 1 2000 = true then m else 0
def nwE (m : Int) : Int := if win m 1 2000 = true then 0 else 1
set_option maxRecDepth 100000 in
theorem snew_any (m : Int) (w : World) : Calls Try.prog 5 #[.int .i64 m] w fun e w' => e = .returned (.tuple #[.agg #[.int .i64 (nwM m), .slice none 0 0, .bool false], .int .i64 (nwE m)]) ∧ Below w.heap.size w w' := by
  obtain ⟨W0, hW0⟩ : ∃ V, w.alloc (.cells #[Value.int .i64 0, .slice none 0 0, .bool false] 24) = V := ⟨_, rfl⟩
  have bW0 : Below w.heap.size w W0 := by rw [← hW0]; exact below_alloc1 _ _
  have G := Bk.mk hW0
  obtain ⟨y0, y1, y2, f0, f1, f2, hlt⟩ := kz3_at G
  have HM : Hid (nwM m = if win m 1 2000 = true then m else 0) := Lib.hid rfl
  have HE : Hid (nwE m = if win m 1 2000 = true then 0 else 1) := Lib.hid rfl
  rw [HM.out, HE.out]
  have CM := smayMax_any m W0
  clear HM HE
  cases hw : win m 1 2000
  · rw [hw] at CM
    obtain ⟨r0, r1, r2⟩ := kz3_get G (Value.int .i64 0) (.slice none 0 0) (.bool false)
    have HF : Hid (Below w.heap.size w (st3 W0 w.heap.size (Value.int .i64 0) (.slice none 0 0) (.bool false))) := Lib.hid (below_st3 bW0 (Nat.le_refl _) _ _ _)
    clear bW0 hw G
    go_enter Try.func5, Try.ntmps5
    go_wp2_with fail
    refine CM.mono ?_
    rintro e _ ⟨rfl, rfl⟩
    go_wp2
    refine bodyPost_ret (v := .tuple #[.agg #[.int .i64 0, .slice none 0 0, .bool false], .int .i64 1]) (by simp [results, Try.results5, go_sem, r0, r1, r2]) rfl ⟨by simp, HF.out⟩
  · rw [hw] at CM
    obtain ⟨r0, r1, r2⟩ := kz3_get G (Value.int .i64 m) (.slice none 0 0) (.bool false)
    have HF : Hid (Below w.heap.size w (st3 W0 w.heap.size (Value.int .i64 m) (.slice none 0 0) (.bool false))) := Lib.hid (below_st3 bW0 (Nat.le_refl _) _ _ _)
    clear bW0 hw G
    go_enter Try.func5, Try.ntmps5
    go_wp2_with fail
    refine CM.mono ?_
    rintro e _ ⟨rfl, rfl⟩
    go_wp2
    refine bodyPost_ret (v := .tuple #[.agg #[.int .i64 m, .slice none 0 0, .bool false], .int .i64 0]) (by simp [results, Try.results5, go_sem, r0, r1, r2]) rfl ⟨by simp, HF.out⟩
/-- The place of the first one with the key of y. -/
def idx (L : List Ae) (y : Hd) : Nat := L.findIdx fun x => kq y x.h
/-- The one that is found, or nothing. -/
def fnd (L : List Ct) (y : Hd) : Ct := L.getD (L.findIdx fun x => kq y x.1) (⟨0, 0, 0, 0, 0, 0, 0, 0⟩, [])
def isin (L : List Ct) (y : Hd) : Bool := decide ((L.findIdx fun x => kq y x.1) < L.length)
theorem idx_cons (L : List Ae) (y : Hd) : (cons L).findIdx (fun x => kq y x.1) = idx L y := by
  rw [idx, cons, List.findIdx_map]
  rfl
/-- What Find returns. -/
def FP (L : List Ae) (y : Hd) (w : World) (e : Ending) (w' : World) : Prop := ∃ A' c', e = .returned (.tuple #[.agg #[.int .i64 (fnd (cons L) y).1.a, .int .i64 (fnd (cons L) y).1.o, .int .i64 (fnd (cons L) y).1.t, .int .u32 (fnd (cons L) y).1.i, .int .u32 (fnd (cons L) y).1.v, .int .u32 (fnd (cons L) y).1.q, .int .i64 (fnd (cons L) y).1.s, .int .i64 (fnd (cons L) y).1.n, .slice A' (fnd (cons L) y).2.length c'], .bool (isin (cons L) y)]) ∧ Own .u8 5 w' w.heap.size A' c' (fnd (cons L) y).2 ∧ Below w.heap.size w w'
set_option maxRecDepth 100000 in
set_option maxHeartbeats 4000000 in
theorem sfind_any (y : Hd) (m : Int) (A : Option Addr) (n c : Nat) (o : Bool) (L : List Ae) (w : World) (hn : L.length = n) (hl : Arr w A L) (hll : n ≤ 10000) (hsm : ∀ x ∈ L, x.l.length ≤ 100000) :
    Calls Try.prog 8 #[.agg #[.int .i64 m, .slice A n c, .bool o], .agg #[.int .i64 y.t, .int .u32 y.i, .int .u32 y.v]] w fun e w' => FP L y w e w' := by
  obtain ⟨W0, hW0⟩ : ∃ V, w.alloc (.cells #[.int .i64 m, .slice A n c, .bool o] 24) = V := ⟨_, rfl⟩
  have bW0 : Below w.heap.size w W0 := by rw [← hW0]; exact below_alloc1 _ _
  have sW0 : W0.heap.size = w.heap.size + 1 := by rw [← hW0]; simp
  have KX : Hid (∀ V, Below W0.heap.size W0 V → V.cell? ⟨w.heap.size, 0, none⟩ = some (.int .i64 m) ∧ V.cell? ⟨w.heap.size, 1, none⟩ = some (.slice A n c) ∧ V.cell? ⟨w.heap.size, 2, none⟩ = some (.bool o)) := Lib.hid (fun V hV => kb3_new hW0 hV)
  obtain ⟨W1, hW1⟩ : ∃ V, W0.alloc (.cells #[.int .i64 y.t, .int .u32 y.i, .int .u32 y.v] 40) = V := ⟨_, rfl⟩
  have bW1 : Below W0.heap.size W0 W1 := by rw [← hW1]; exact below_alloc1 _ _
  have sW1 : W1.heap.size = W0.heap.size + 1 := by rw [← hW1]; simp
  have KY : Hid (∀ V, Below W1.heap.size W1 V → V.cell? ⟨W0.heap.size, 0, none⟩ = some (.int .i64 y.t) ∧ V.cell? ⟨W0.heap.size, 1, none⟩ = some (.int .u32 y.i) ∧ V.cell? ⟨W0.heap.size, 2, none⟩ = some (.int .u32 y.v)) := Lib.hid (fun V hV => kb3_new hW1 hV)
  obtain ⟨W2, hW2⟩ : ∃ V, W1.alloc (.cells #[Value.int .i64 0, .int .i64 0, .int .i64 0, .int .u32 0, .int .u32 0, .int .u32 0, .int .i64 0, .int .i64 0, .slice none 0 0] 34) = V := ⟨_, rfl⟩
  have bW2 : Below W1.heap.size W1 W2 := by rw [← hW2]; exact below_alloc1 _ _
  have sW2 : W2.heap.size = w.heap.size + 3 := by rw [← hW2]; simp; omega
  have b02 : Below W0.heap.size W0 W2 := bW1.trans (bW2.mono bW1.size)
  have HB : Hid (Below w.heap.size w W2) := Lib.hid (bW0.trans (b02.mono bW0.size))
  have KS : Hid (∀ V, Below W2.heap.size W2 V → (V.cell? ⟨w.heap.size, 0, none⟩ = some (.int .i64 m) ∧ V.cell? ⟨w.heap.size, 1, none⟩ = some (.slice A n c) ∧ V.cell? ⟨w.heap.size, 2, none⟩ = some (.bool o)) ∧ (V.cell? ⟨w.heap.size + 1, 0, none⟩ = some (.int .i64 y.t) ∧ V.cell? ⟨w.heap.size + 1, 1, none⟩ = some (.int .u32 y.i) ∧ V.cell? ⟨w.heap.size + 1, 2, none⟩ = some (.int .u32 y.v))) := Lib.hid (fun V hV => ⟨KX.out V (b02.trans (hV.mono b02.size)), by have := KY.out V (bW2.trans (hV.mono bW2.size)); rwa [sW0] at this⟩)
  have KZ : Hid (∀ V, Below W2.heap.size W2 V → Bk V (w.heap.size + 2) (.cells #[Value.int .i64 0, .int .i64 0, .int .i64 0, .int .u32 0, .int .u32 0, .int .u32 0, .int .i64 0, .int .i64 0, .slice none 0 0] 34)) := Lib.hid (fun V hV => (show Bk W2 _ _ by have := Bk.mk hW2; rwa [show W1.heap.size = w.heap.size + 2 by omega] at this).step hV)
  have tt : Below W2.heap.size W2 W2 := Below.refl _ _
  have HN := Lib.hid hn
  have HL := Lib.hid hl
  have HS := Lib.hid hsm
  have HI : Hid (fix (fun x : Ae => kq y x.h) L = if idx L y < n then (idx L y : Int) else -1) := Lib.hid (by rw [fix, hn]; rfl)
  have HQ1 := Lib.hid sW2
  have HQ0 := Lib.hid sW0
  clear hl hn hsm KX KY bW0 bW1 bW2 b02
  go_enter Try.func8, Try.ntmps8
  go_upto_region 1 with fail
  refine wp_region_held_drew (S := fun V => (V.cell? ⟨w.heap.size, 0, none⟩ = some (.int .i64 m) ∧ V.cell? ⟨w.heap.size, 1, none⟩ = some (.slice A n c) ∧ V.cell? ⟨w.heap.size, 2, none⟩ = some (.bool o)) ∧ (V.cell? ⟨w.heap.size + 1, 0, none⟩ = some (.int .i64 y.t) ∧ V.cell? ⟨w.heap.size + 1, 1, none⟩ = some (.int .u32 y.i) ∧ V.cell? ⟨w.heap.size + 1, 2, none⟩ = some (.int .u32 y.v))) (by kernel_rfl) (KS.out _ tt.drew) (fun hHeld => ?_)
  replace tt : Below W2.heap.size W2 W2.drew := tt.drew
  generalize hX0 : W2.drew = Y0 at tt hHeld ⊢
  clear hX0
  refine wpAnyH_take (i := 0) (v := ?_) rfl (by kernel_rfl) (by kernel_rfl) (by kernel_rfl) (fun _ _ _ h => h) (Or.inl ⟨by rfl, ?_⟩) (by assumption) ?_
  rotate_left
  · (intro w' hSw; (try dsimp only at hSw); go_simp; try with_reducible rfl)
  simp only [Act.put, List.getElem_toArray, List.getElem_cons_zero, List.setIfInBounds_toArray, List.set_cons_zero, List.set_cons_succ]
  refine wpAnyH_take (i := 1) (v := ?_) rfl (by kernel_rfl) (by kernel_rfl) (by kernel_rfl) (fun _ _ _ h => h) (Or.inl ⟨by rfl, ?_⟩) (by assumption) ?_
  rotate_left
  · (intro w' hSw; (try dsimp only at hSw); go_simp; try with_reducible rfl)
  simp only [Act.put, List.getElem_toArray, List.getElem_cons_zero, List.getElem_cons_succ, List.setIfInBounds_toArray, List.set_cons_zero, List.set_cons_succ]
  refine wpAnyH_take (i := 2) (v := ?_) rfl (by kernel_rfl) (by kernel_rfl) (by kernel_rfl) (fun _ _ _ h => h) (Or.inl ⟨by rfl, ?_⟩) (by assumption) ?_
  rotate_left
  · (intro w' hSw; (try dsimp only at hSw); go_simp; try with_reducible rfl)
  simp only [Act.put, List.getElem_toArray, List.getElem_cons_zero, List.getElem_cons_succ, List.setIfInBounds_toArray, List.set_cons_zero, List.set_cons_succ]
  refine wpAnyH_ready (rs := [3]) (by kernel_rfl) (by simp) ?_
  refine AllReadyH.cons rfl (fun K hK => ?_) AllReadyH.nil
  obtain ⟨hb0, hhb0⟩ : ∃ q, Y0.heap.size = q := ⟨_, rfl⟩
  have CH := has_any y Y0
  rw [hhb0] at CH
  go_simp
  go_at_call 27
  refine CH.mono ?_
  rintro e Y1 ⟨rfl, hbk, u1⟩
  rw [← hhb0] at u1
  have t_Y1 : Below W2.heap.size W2 Y1 := tt.trans (u1.mono tt.size)
  refine hK.out _ _ (KS.out _ t_Y1) (fun _ => ?_)
  clear hK K
  refine wpAnyH_ready (rs := [4]) (by kernel_rfl) (by simp) ?_
  refine AllReadyH.cons rfl (fun K hK => ?_) AllReadyH.nil
  go_simp
  go_at_call 26
  refine (aix_any A n c L 49 (.pointer (some ⟨hb0, 0, none⟩)) (fun x => kq y x.h) Y1 HN.out (HL.out.step (HB.out.trans (t_Y1.mono HB.out.size))) hll enters_has1 (fun V x hx hV => has1_any y hb0 x V (hbk.step hV))).mono ?_
  rintro e Y2 ⟨rfl, u2⟩
  have t_Y2 : Below W2.heap.size W2 Y2 := t_Y1.trans (u2.mono t_Y1.size)
  replace hbk := hbk.step u2
  refine hK.out _ _ (KS.out _ t_Y2) (fun _ => ?_)
  clear hK K
  refine wpAnyH_ready (rs := [5]) (by kernel_rfl) (by simp) ?_
  refine AllReadyH.cons rfl (fun K hK => ?_) AllReadyH.nil
  go_simp
  refine hK.out _ _ (KS.out _ t_Y2) (fun _ => ?_)
  clear hK K
  refine wpAnyH_done (by kernel_rfl) ?_ _
  rw [HI.out]
  have T := Lib.hid (HB.out.trans (t_Y2.mono HB.out.size))
  obtain ⟨⟨k0, k1, k2⟩, -⟩ := KS.out _ t_Y2
  have GZ := KZ.out _ t_Y2
  have HH : Hid (w.heap.size + 2 < Y2.heap.size) := Lib.hid GZ.lt
  clear hbk hhb0 CH
  by_cases hq : idx L y < n
  · rw [if_pos hq]
    have g0 : ¬ ((idx L y : Int) < 0) := by omega
    have hkl : idx L y < L.length := by rw [HN.out]; exact hq
    have HF : Hid (fnd (cons L) y = con (ag L (idx L y)) ∧ isin (cons L) y = true) := Lib.hid ⟨by rw [fnd, idx_cons, ag_eq hkl, cons, List.getD, List.getElem?_map, List.getElem?_eq_getElem hkl]; rfl, by rw [isin, idx_cons, cons_length]; simpa using hkl⟩
    have har := Arr.step HL.out T.out
    obtain ⟨b, off, hA, _, e0, e1, e2, e3, e4, e5, e6, e7, e8⟩ := ard_at har.1 hkl
    have HBT := Lib.hid (har.2 _ (ag_mem hkl))
    have hm1 := HS.out _ (ag_mem hkl)
    obtain ⟨x, hx⟩ : ∃ x, ag L (idx L y) = x := ⟨_, rfl⟩
    rw [hx] at e0 e1 e2 e3 e4 e5 e6 e7 e8 HF HBT hm1
    generalize idx L y = j at *
    obtain ⟨h, hh⟩ : ∃ h, x.h = h := ⟨_, rfl⟩
    obtain ⟨B, hB⟩ : ∃ B, x.l = B := ⟨_, rfl⟩
    obtain ⟨mB, hmB⟩ : ∃ mB, B.length = mB := ⟨_, rfl⟩
    have HC : Hid (con x = (h, B)) := Lib.hid (by rw [con, hh, hB])
    rw [hh] at e0 e1 e2 e3 e4 e5 e6 e7
    rw [hB, hmB] at e8 hm1
    rw [hB] at HBT
    generalize x.A = Ab at *
    generalize x.c = d at *
    have CF := fad_any h Ab mB d B Y2 hmB HBT.out hm1
    subst hA
    have HMB := Lib.hid hmB
    have hqi : (j : Int) < (n : Int) := by omega
    clear hh hB hmB hx hkl har HI KS KZ HL HS HBT
    go_wp2_with fail
    refine CF.mono ?_
    rintro e W8 ⟨A8, c8, rfl, o8, u8⟩
    have G8 := GZ.step u8
    have T8 := Lib.hid (T.out.trans (u8.mono T.out.size))
    have O8 := Lib.hid o8
    obtain ⟨z0, z1, z2, z3, z4, z5, z6, z7, z8, f0, f1, f2, f3, f4, f5, f6, f7, f8, hzl⟩ := kz9_at G8
    have HG8 := Lib.hid G8
    have KR := Lib.hid (And.intro (below_st9 T8.out (show w.heap.size ≤ w.heap.size + 2 by omega) (Value.int .i64 h.a) (.int .i64 h.o) (.int .i64 h.t) (.int .u32 h.i) (.int .u32 h.v) (.int .u32 h.q) (.int .i64 h.s) (.int .i64 h.n) (.slice A8 mB c8)) ((O8.out.far9 HH.out (Value.int .i64 h.a) (.int .i64 h.o) (.int .i64 h.t) (.int .u32 h.i) (.int .u32 h.v) (.int .u32 h.q) (.int .i64 h.s) (.int .i64 h.n) (.slice A8 mB c8)).lower (T.out.size)))
    clear GZ o8 u8 CF G8 e0 e1 e2 e3 e4 e5 e6 e7 e8 k0 k1 k2
    go_wp2
    obtain ⟨r0, r1, r2, r3, r4, r5, r6, r7, r8⟩ := kz9_get HG8.out (Value.int .i64 h.a) (.int .i64 h.o) (.int .i64 h.t) (.int .u32 h.i) (.int .u32 h.v) (.int .u32 h.q) (.int .i64 h.s) (.int .i64 h.n) (.slice A8 mB c8)
    refine bodyPost_ret (v := .tuple #[.agg #[.int .i64 h.a, .int .i64 h.o, .int .i64 h.t, .int .u32 h.i, .int .u32 h.v, .int .u32 h.q, .int .i64 h.s, .int .i64 h.n, .slice A8 mB c8], .bool true]) (by simp [results, Try.results8, go_sem, r0, r1, r2, r3, r4, r5, r6, r7, r8]) rfl ⟨A8, c8, by rw [HF.out.1, HF.out.2, HC.out]; simp only [HMB.out], ?_⟩
    rw [HF.out.1, HC.out]
    exact ⟨KR.out.2, KR.out.1⟩
  · rw [if_neg hq]
    have HF : Hid (fnd (cons L) y = (⟨0, 0, 0, 0, 0, 0, 0, 0⟩, []) ∧ isin (cons L) y = false) := Lib.hid ⟨by rw [fnd, idx_cons, List.getD, List.getElem?_eq_none (by rw [cons_length, HN.out]; omega)]; rfl, by rw [isin, idx_cons, cons_length, HN.out]; simpa using hq⟩
    obtain ⟨z0, z1, z2, z3, z4, z5, z6, z7, z8, f0, f1, f2, f3, f4, f5, f6, f7, f8, hzl⟩ := kz9_at GZ
    have HGZ := Lib.hid GZ
    have KR := Lib.hid (below_st9 T.out (show w.heap.size ≤ w.heap.size + 2 by omega) (Value.int .i64 0) (.int .i64 0) (.int .i64 0) (.int .u32 0) (.int .u32 0) (.int .u32 0) (.int .i64 0) (.int .i64 0) (.slice none 0 0))
    clear GZ KS KZ hq HI
    go_wp2
    obtain ⟨r0, r1, r2, r3, r4, r5, r6, r7, r8⟩ := kz9_get HGZ.out (Value.int .i64 0) (.int .i64 0) (.int .i64 0) (.int .u32 0) (.int .u32 0) (.int .u32 0) (.int .i64 0) (.int .i64 0) (.slice none 0 0)
    refine bodyPost_ret (v := .tuple #[.agg #[Value.int .i64 0, .int .i64 0, .int .i64 0, .int .u32 0, .int .u32 0, .int .u32 0, .int .i64 0, .int .i64 0, .slice none 0 0], .bool false]) (by simp [results, Try.results8, go_sem, r0, r1, r2, r3, r4, r5, r6, r7, r8]) rfl ⟨none, 0, by rw [HF.out.1, HF.out.2]; rfl, ?_⟩
    rw [HF.out.1]
    exact ⟨Own.nil _ _, KR.out⟩
end Go.Proofs.Ytadcicmccdphkaa
