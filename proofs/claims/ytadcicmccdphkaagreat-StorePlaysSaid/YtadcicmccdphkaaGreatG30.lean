/-
  New, Find and Drop of the reference. Drop of the reference. into, of the reference. No statement is proved here; no conditions.
-/
import Derived.Test.YtadcicmccdphkaaGreatG27
import Derived.Test.YtadcicmccdphkaaGreatG29
import Derived.Test.YtadcicmccdphkaaGreatG14
namespace Go.Proofs.YtadcicmccdphkaaGreat
open Go.RowKit Go.Joins

set_option maxRecDepth 100000 in
theorem rnew_any (m : Int) (w : World) : Calls Tryz.prog 5 #[.int .i64 m] w fun e w' => e = .returned (.tuple #[.agg #[.int .i64 (nwM m), .slice none 0 0, .bool false], .int .i64 (nwE m)]) ∧ Below w.heap.size w w' := by
 obtain ⟨W0, hW0⟩ : ∃ V, w.alloc (.cells #[Value.int .i64 0, .slice none 0 0, .bool false] 32) = V := ⟨_, rfl⟩
 have bW0 : Below w.heap.size w W0 := by rw [← hW0]; exact below_alloc1 _ _
 have G := Bk.mk hW0
 obtain ⟨y0, y1, y2, f0, f1, f2, hlt⟩ := kz3_at G
 have HM : Hid (nwM m = if win m 1 2000 = true then m else 0) := Lib.hid rfl
 have HE : Hid (nwE m = if win m 1 2000 = true then 0 else 1) := Lib.hid rfl
 rw [HM.out, HE.out]
 clear HM HE
 obtain ⟨r0, r1, r2⟩ := kz3_get G (Value.int .i64 0) (.slice none 0 0) (.bool false)
 obtain ⟨q0, q1, q2⟩ := kz3_get G (Value.int .i64 m) (.slice none 0 0) (.bool false)
 have HF : Hid (Below w.heap.size w (st3 W0 w.heap.size (Value.int .i64 0) (.slice none 0 0) (.bool false))) := Lib.hid (below_st3 bW0 (Nat.le_refl _) _ _ _)
 have HF2 : Hid (Below w.heap.size w (st3 W0 w.heap.size (Value.int .i64 m) (.slice none 0 0) (.bool false))) := Lib.hid (below_st3 bW0 (Nat.le_refl _) _ _ _)
 clear bW0 G
 by_cases h1 : m < 1
 ·have hw : win m 1 2000 = false := by rw [win, show decide (1 ≤ m) = false by simpa using h1]; rfl
  rw [hw]
  go_enter Tryz.func5, Tryz.ntmps5
  go_wp2
  refine bodyPost_ret (v := .tuple #[.agg #[.int .i64 0, .slice none 0 0, .bool false], .int .i64 1]) (by simp [results, Tryz.results5, go_sem, r0, r1, r2]) rfl ⟨by simp, HF.out⟩
 ·by_cases h2 : m > 2000
  ·have hw : win m 1 2000 = false := by rw [win, show decide (m ≤ 2000) = false by simpa using h2]; simp
   rw [hw]
   go_enter Tryz.func5, Tryz.ntmps5
   go_wp2
   refine bodyPost_ret (v := .tuple #[.agg #[.int .i64 0, .slice none 0 0, .bool false], .int .i64 1]) (by simp [results, Tryz.results5, go_sem, r0, r1, r2]) rfl ⟨by simp, HF.out⟩
  ·have hw : win m 1 2000 = true := (win_iff _ _ _).2 (by omega)
   rw [hw]
   go_enter Tryz.func5, Tryz.ntmps5
   go_wp2
   refine bodyPost_ret (v := .tuple #[.agg #[.int .i64 m, .slice none 0 0, .bool false], .int .i64 0]) (by simp [results, Tryz.results5, go_sem, q0, q1, q2]) rfl ⟨by simp, HF2.out⟩
def RFP (L : List Ae) (y : Hd) (w : World) (e : Ending) (w' : World) : Prop := ∃ A' c', e = .returned (.tuple #[.agg #[.int .i64 (fnd (cons L) y).1.a, .int .i64 (fnd (cons L) y).1.o, .int .i64 (fnd (cons L) y).1.t, .int .u32 (fnd (cons L) y).1.i, .int .u32 (fnd (cons L) y).1.v, .int .u32 (fnd (cons L) y).1.q, .int .i64 (fnd (cons L) y).1.s, .int .i64 (fnd (cons L) y).1.n, .slice A' (fnd (cons L) y).2.length c'], .bool (isin (cons L) y)]) ∧ (Bt w' A' (fnd (cons L) y).2 ∧ ((∀ x ∈ L, x.l.length ≤ x.c) → (fnd (cons L) y).2.length ≤ c')) ∧ Below w.heap.size w w'
set_option maxRecDepth 100000 in
set_option maxHeartbeats 4000000 in
theorem rfind_any (y : Hd) (m : Int) (A : Option Addr) (n c : Nat) (o : Bool) (L : List Ae) (w : World) (hn : L.length = n) (hl : Arr w A L) (hll : n ≤ 9000) :
  Calls Tryz.prog 11 #[.agg #[.int .i64 m, .slice A n c, .bool o], .agg #[.int .i64 y.t, .int .u32 y.i, .int .u32 y.v]] w fun e w' => RFP L y w e w' := by
 obtain ⟨W0, hW0⟩ : ∃ V, w.alloc (.cells #[.int .i64 m, .slice A n c, .bool o] 32) = V := ⟨_, rfl⟩
 have bW0 : Below w.heap.size w W0 := by rw [← hW0]; exact below_alloc1 _ _
 have sW0 : W0.heap.size = w.heap.size + 1 := by rw [← hW0]; simp
 have KX : Hid (∀ V, Below W0.heap.size W0 V → V.cell? ⟨w.heap.size, 0, none⟩ = some (.int .i64 m) ∧ V.cell? ⟨w.heap.size, 1, none⟩ = some (.slice A n c) ∧ V.cell? ⟨w.heap.size, 2, none⟩ = some (.bool o)) := Lib.hid (fun V hV => kb3_new hW0 hV)
 obtain ⟨W1, hW1⟩ : ∃ V, W0.alloc (.cells #[.int .i64 y.t, .int .u32 y.i, .int .u32 y.v] 25) = V := ⟨_, rfl⟩
 have bW1 : Below W0.heap.size W0 W1 := by rw [← hW1]; exact below_alloc1 _ _
 have sW1 : W1.heap.size = W0.heap.size + 1 := by rw [← hW1]; simp
 have KY : Hid (∀ V, Below W1.heap.size W1 V → V.cell? ⟨W0.heap.size, 0, none⟩ = some (.int .i64 y.t) ∧ V.cell? ⟨W0.heap.size, 1, none⟩ = some (.int .u32 y.i) ∧ V.cell? ⟨W0.heap.size, 2, none⟩ = some (.int .u32 y.v)) := Lib.hid (fun V hV => kb3_new hW1 hV)
 obtain ⟨W2, hW2⟩ : ∃ V, W1.alloc (.cells #[Value.int .i64 0, .int .i64 0, .int .i64 0, .int .u32 0, .int .u32 0, .int .u32 0, .int .i64 0, .int .i64 0, .slice none 0 0] 40) = V := ⟨_, rfl⟩
 have bW2 : Below W1.heap.size W1 W2 := by rw [← hW2]; exact below_alloc1 _ _
 have sW2 : W2.heap.size = w.heap.size + 3 := by rw [← hW2]; simp; omega
 have b02 : Below W0.heap.size W0 W2 := bW1.trans (bW2.mono bW1.size)
 have HB0 : Hid (Below w.heap.size w W2) := Lib.hid (bW0.trans (b02.mono bW0.size))
 have KS : Hid (∀ V, Below W2.heap.size W2 V → (V.cell? ⟨w.heap.size, 0, none⟩ = some (.int .i64 m) ∧ V.cell? ⟨w.heap.size, 1, none⟩ = some (.slice A n c) ∧ V.cell? ⟨w.heap.size, 2, none⟩ = some (.bool o)) ∧ (V.cell? ⟨w.heap.size + 1, 0, none⟩ = some (.int .i64 y.t) ∧ V.cell? ⟨w.heap.size + 1, 1, none⟩ = some (.int .u32 y.i) ∧ V.cell? ⟨w.heap.size + 1, 2, none⟩ = some (.int .u32 y.v))) := Lib.hid (fun V hV => ⟨KX.out V (b02.trans (hV.mono b02.size)), by have := KY.out V (bW2.trans (hV.mono bW2.size)); rwa [sW0] at this⟩)
 have KZ : Hid (∀ V, Below W2.heap.size W2 V → Bk V (w.heap.size + 2) (.cells #[Value.int .i64 0, .int .i64 0, .int .i64 0, .int .u32 0, .int .u32 0, .int .u32 0, .int .i64 0, .int .i64 0, .slice none 0 0] 40)) := Lib.hid (fun V hV => (show Bk W2 _ _ by have := Bk.mk hW2; rwa [show W1.heap.size = w.heap.size + 2 by omega] at this).step hV)
 have HN := Lib.hid hn
 have HL := Lib.hid hl
 clear hl hn KX KY bW0 bW1 bW2 b02
 go_enter Tryz.func11, Tryz.ntmps11
 go_wp2_with fail
 go_loopg [6] n (fun gf v6 wx => ∃ (k : Nat), v6 = .int .i64 (k : Int) ∧ Hid (gf + k = n) ∧ Hid (Below W2.heap.size W2 wx) ∧ Hid (∀ i (hi : i < L.length), i < k → kq y (L[i]).h = false))
 case atStart => exact ⟨0, rfl, Lib.hid (by omega), Lib.hid (Below.refl _ _), Lib.hid (fun i hi h => absurd h (by omega))⟩
 case round =>
  obtain ⟨k, rfl, hk, hb, hno⟩ := hrel
  have hk' := hk.out
  have HB := Lib.hid (HB0.out.trans (hb.out.mono HB0.out.size))
  obtain ⟨⟨k0, k1, k2⟩, ⟨j0, j1, j2⟩⟩ := KS.out _ hb.out
  cases gk with
  | zero =>
   obtain rfl : k = n := by omega
   have lt0 : decide ((k : Int) < (k : Int)) = false := by simp
   have lt1 : decide (k < k) = false := by simp
   have HF : Hid (fnd (cons L) y = (⟨0, 0, 0, 0, 0, 0, 0, 0⟩, []) ∧ isin (cons L) y = false) := Lib.hid (fnd_none fun z hz => by
    obtain ⟨x, hx, rfl⟩ := List.mem_map.1 hz
    obtain ⟨i, hi, rfl⟩ := List.getElem_of_mem hx
    exact hno.out i hi (by have := HN.out; omega))
   have GZ := KZ.out _ hb.out
   obtain ⟨z0, z1, z2, z3, z4, z5, z6, z7, z8, f0, f1, f2, f3, f4, f5, f6, f7, f8, hzl⟩ := kz9_at GZ
   have HGZ := Lib.hid GZ
   have KR := Lib.hid (below_st9 HB.out (show w.heap.size ≤ w.heap.size + 2 by omega) (Value.int .i64 0) (.int .i64 0) (.int .i64 0) (.int .u32 0) (.int .u32 0) (.int .u32 0) (.int .i64 0) (.int .i64 0) (.slice none 0 0))
   clear GZ KS KZ
   go_wp2
   obtain ⟨r0, r1, r2, r3, r4, r5, r6, r7, r8⟩ := kz9_get HGZ.out (Value.int .i64 0) (.int .i64 0) (.int .i64 0) (.int .u32 0) (.int .u32 0) (.int .u32 0) (.int .i64 0) (.int .i64 0) (.slice none 0 0)
   refine bodyPost_ret (v := .tuple #[.agg #[Value.int .i64 0, .int .i64 0, .int .i64 0, .int .u32 0, .int .u32 0, .int .u32 0, .int .i64 0, .int .i64 0, .slice none 0 0], .bool false]) (by simp [results, Tryz.results11, go_sem, r0, r1, r2, r3, r4, r5, r6, r7, r8]) rfl ⟨none, 0, by rw [HF.out.1, HF.out.2]; rfl, ?_⟩
   rw [HF.out.1]
   exact ⟨⟨Bs.nil _, fun _ => Nat.zero_le _⟩, KR.out⟩
  | succ gf =>
   have hkl : k < L.length := by rw [HN.out]; omega
   have lt0 : (k : Int) < (n : Int) := by omega
   have hw1 : (k : Int) + 1 ≤ 10000 := by omega
   have har := Arr.step HL.out HB.out
   obtain ⟨b, off, hA, _, e0, e1, e2, e3, e4, e5, e6, e7, e8⟩ := ard_at har.1 hkl
   have HBT := Lib.hid (HL.out.2 _ (ag_mem hkl))
   have HCP : Hid ((∀ x ∈ L, x.l.length ≤ x.c) → (ag L k).l.length ≤ (ag L k).c) := Lib.hid (fun h => h _ (ag_mem hkl))
   have hagk : ag L k = L[k] := ag_eq hkl
   have HFI : Hid (kq y (ag L k).h = true → fnd (cons L) y = con (ag L k) ∧ isin (cons L) y = true) := Lib.hid (fun h => by
    have hi : (cons L).findIdx (fun x => kq y x.1) = k := by
     rw [idx_cons]
     refine (List.findIdx_eq hkl).2 ⟨by rw [← hagk]; exact h, fun i hi => by simpa using hno.out i (by omega) hi⟩
    exact ⟨by rw [fnd, hi, List.getD, cons, List.getElem?_map, List.getElem?_eq_getElem hkl, hagk]; rfl, by rw [isin, hi, cons_length]; simpa using hkl⟩)
   have HNX : Hid (kq y (ag L k).h = false → ∀ i (hi : i < L.length), i < k + 1 → kq y (L[i]).h = false) := Lib.hid (fun h i hi hik => by
    rcases Nat.lt_or_ge i k with q | q
    ·exact hno.out i hi q
    ·obtain rfl : i = k := by omega
     rw [← hagk]; exact h)
   obtain ⟨h, hh⟩ : ∃ h, (ag L k).h = h := ⟨_, rfl⟩
   obtain ⟨B, hB⟩ : ∃ B, (ag L k).l = B := ⟨_, rfl⟩
   obtain ⟨mB, hmB⟩ : ∃ mB, B.length = mB := ⟨_, rfl⟩
   have hcon : con (ag L k) = (h, B) := by rw [con, hh, hB]
   rw [hcon] at HFI
   rw [hh] at e0 e1 e2 e3 e4 e5 e6 e7 HFI HNX
   rw [hB, hmB] at e8
   rw [hB] at HBT HCP
   have HAR : Hid (∀ V, Below w.heap.size w V → V.cell? ⟨b, off + k * 9, none⟩ = some (.int .i64 h.a) ∧ V.cell? ⟨b, off + k * 9 + 1, none⟩ = some (.int .i64 h.o) ∧ V.cell? ⟨b, off + k * 9 + 2, none⟩ = some (.int .i64 h.t) ∧ V.cell? ⟨b, off + k * 9 + 3, none⟩ = some (.int .u32 h.i) ∧ V.cell? ⟨b, off + k * 9 + 4, none⟩ = some (.int .u32 h.v) ∧ V.cell? ⟨b, off + k * 9 + 5, none⟩ = some (.int .u32 h.q) ∧ V.cell? ⟨b, off + k * 9 + 6, none⟩ = some (.int .i64 h.s) ∧ V.cell? ⟨b, off + k * 9 + 7, none⟩ = some (.int .i64 h.n) ∧ V.cell? ⟨b, off + k * 9 + 8, none⟩ = some (.slice (ag L k).A mB (ag L k).c)) := Lib.hid (fun V hV => by
    obtain ⟨b2, off2, hA2, _, q0, q1, q2, q3, q4, q5, q6, q7, q8⟩ := ard_at (Arr.step HL.out hV).1 hkl
    rw [hh] at q0 q1 q2 q3 q4 q5 q6 q7
    rw [hB, hmB] at q8
    rw [hA] at hA2
    injection hA2 with hA2
    injection hA2 with h1 h2
    subst h1 h2
    exact ⟨q0, q1, q2, q3, q4, q5, q6, q7, q8⟩)
   generalize (ag L k).A = Ab at *
   generalize (ag L k).c = d at *
   subst hA
   have HMB := Lib.hid hmB
   have hq := fun W => eqK W h.t h.i h.v y.t y.i y.v
   have hkq : kq y h = (decide (h.t = y.t) && (decide (h.i = y.i) && decide (h.v = y.v))) := rfl
   rw [← hkq] at hq
   clear hkl har hagk hh hB hmB hcon hkq hno
   go_upto_region 4 with fail
   refine wp_region_quiet_below (by kernel_rfl) (by kernel_rfl) ?_
   have gg0 := cell_regrown k0
   have gg1 := cell_regrown k1
   have gg2 := cell_regrown k2
   have gg3 := cell_regrown j0
   have gg4 := cell_regrown j1
   have gg5 := cell_regrown j2
   have gg6 := cell_regrown e0
   have gg7 := cell_regrown e1
   have gg8 := cell_regrown e2
   have gg9 := cell_regrown e3
   have gg10 := cell_regrown e4
   have gg11 := cell_regrown e5
   have gg12 := cell_regrown e6
   have gg13 := cell_regrown e7
   have gg14 := cell_regrown e8
   have zz0 : ∀ d os, _ := fun d os => Calls.regrown_of (w := wr) (d := d) (os := os) (rkey_any h _)
   repeat (first | go_big_quiet_step (with_reducible exact zz0 _ _) | go_big_quiet_step (fail) | go_big_quiet_skip)
   refine wpQuiet_nil ?_
   intro W9 hw'
   obtain ⟨⟨dq, osq⟩, hw''⟩ := hw'
   have hbz := below_regrown wr dq osq
   rw [← hw''] at hbz
   clear hw'' gg0 gg1 gg2 gg3 gg4 gg5 gg6 gg7 gg8 gg9 gg10 gg11 gg12 gg13 gg14 zz0 
   have H9 := Lib.hid (hb.out.trans (hbz.mono hb.out.size))
   cases hkk : kq y h with
   | false =>
    have HNo := Lib.hid (HNX.out hkk)
    clear hkk hq HFI HNX k0 k1 k2 j0 j1 j2 e0 e1 e2 e3 e4 e5 e6 e7 e8 hbz
    go_wp2
    go_roundg gf
    case measure => omega
    case rel => exact ⟨k + 1, by go_num, Lib.hid (by omega), H9, HNo⟩
   | true =>
    have HFF := Lib.hid (HFI.out hkk)
    obtain ⟨⟨p0, p1, p2⟩, -⟩ := KS.out _ H9.out
    have HB9 := Lib.hid (HB0.out.trans (H9.out.mono HB0.out.size))
    have lti : (k : Int) < (n : Int) := lt0
    obtain ⟨q0, q1, q2, q3, q4, q5, q6, q7, q8⟩ := HAR.out _ HB9.out
    have GZ := KZ.out _ H9.out
    obtain ⟨z0, z1, z2, z3, z4, z5, z6, z7, z8, f0, f1, f2, f3, f4, f5, f6, f7, f8, hzl⟩ := kz9_at GZ
    have HGZ := Lib.hid GZ
    have HH : Hid (w.heap.size + 2 < W9.heap.size) := Lib.hid GZ.lt
    have KR := Lib.hid (below_st9 HB9.out (show w.heap.size ≤ w.heap.size + 2 by omega) (Value.int .i64 h.a) (.int .i64 h.o) (.int .i64 h.t) (.int .u32 h.i) (.int .u32 h.v) (.int .u32 h.q) (.int .i64 h.s) (.int .i64 h.n) (.slice Ab mB d))
    have KB : Hid (Bt ((((((((((W9).setCell ⟨(w.heap.size + 2), 0, none⟩ (.int .i64 h.a)).setCell ⟨(w.heap.size + 2), 1, none⟩ (.int .i64 h.o)).setCell ⟨(w.heap.size + 2), 2, none⟩ (.int .i64 h.t)).setCell ⟨(w.heap.size + 2), 3, none⟩ (.int .u32 h.i)).setCell ⟨(w.heap.size + 2), 4, none⟩ (.int .u32 h.v)).setCell ⟨(w.heap.size + 2), 5, none⟩ (.int .u32 h.q)).setCell ⟨(w.heap.size + 2), 6, none⟩ (.int .i64 h.s)).setCell ⟨(w.heap.size + 2), 7, none⟩ (.int .i64 h.n)).setCell ⟨(w.heap.size + 2), 8, none⟩ (.slice Ab mB d)) Ab B) := Lib.hid (HBT.out.step KR.out)
    clear GZ KS KZ hkk hq HFI HNX k0 k1 k2 j0 j1 j2 e0 e1 e2 e3 e4 e5 e6 e7 e8 hbz HAR HBT
    go_wp2
    obtain ⟨r0, r1, r2, r3, r4, r5, r6, r7, r8⟩ := kz9_get HGZ.out (Value.int .i64 h.a) (.int .i64 h.o) (.int .i64 h.t) (.int .u32 h.i) (.int .u32 h.v) (.int .u32 h.q) (.int .i64 h.s) (.int .i64 h.n) (.slice Ab mB d)
    refine bodyPost_ret (v := .tuple #[.agg #[.int .i64 h.a, .int .i64 h.o, .int .i64 h.t, .int .u32 h.i, .int .u32 h.v, .int .u32 h.q, .int .i64 h.s, .int .i64 h.n, .slice Ab mB d], .bool true]) (by simp [results, Tryz.results11, go_sem, r0, r1, r2, r3, r4, r5, r6, r7, r8]) rfl ⟨Ab, d, by rw [HFF.out.1, HFF.out.2]; simp only [HMB.out], ?_⟩
    rw [HFF.out.1]
    exact ⟨⟨KB.out, HCP.out⟩, KR.out⟩
end Go.Proofs.YtadcicmccdphkaaGreat
namespace Go.Proofs.YtadcicmccdphkaaGreat
open Go.RowKit Go.Joins

theorem filt_tk {L : List Ae} {p : Ae → Bool} {k : Nat} {x : Ae} (h : L.take (k + 1) = L.take k ++ [x]) : (L.take (k + 1)).filter p = (L.take k).filter p ++ if p x = true then [x] else [] := by
 rw [h, List.filter_append]
 congr 1
 by_cases hp : p x = true <;> simp [hp]
def RDP (m : Int) (o : Bool) (n : Nat) (C : List Ct) (L : List Ae) (w : World) (e : Ending) (w' : World) : Prop := ∃ A' c' n' L', e = .returned (.tuple #[.agg #[.int .i64 m, .slice A' n' c', .bool o], .bool (decide (n' < n))]) ∧ L'.length = n' ∧ cons L' = C ∧ (∀ z ∈ L', z ∈ L) ∧ Arr w' A' L' ∧ Below w.heap.size w w'
set_option maxRecDepth 100000 in
set_option maxHeartbeats 4000000 in
theorem rdrop_any (y : Hd) (m : Int) (A : Option Addr) (n c : Nat) (o : Bool) (L : List Ae) (w : World) (hn : L.length = n) (hl : Arr w A L) (hll : n ≤ 9000) :
  Calls Tryz.prog 28 #[.agg #[.int .i64 m, .slice A n c, .bool o], .agg #[.int .i64 y.t, .int .u32 y.i, .int .u32 y.v]] w fun e w' => RDP m o n ((cons L).filter fun x => !kq y x.1) L w e w' := by
 obtain ⟨W0, hW0⟩ : ∃ V, w.alloc (.cells #[.int .i64 m, .slice A n c, .bool o] 32) = V := ⟨_, rfl⟩
 have bW0 : Below w.heap.size w W0 := by rw [← hW0]; exact below_alloc1 _ _
 have sW0 : W0.heap.size = w.heap.size + 1 := by rw [← hW0]; simp
 have KX : Hid (∀ V, Below W0.heap.size W0 V → V.cell? ⟨w.heap.size, 0, none⟩ = some (.int .i64 m) ∧ V.cell? ⟨w.heap.size, 1, none⟩ = some (.slice A n c) ∧ V.cell? ⟨w.heap.size, 2, none⟩ = some (.bool o)) := Lib.hid (fun V hV => kb3_new hW0 hV)
 obtain ⟨W1, hW1⟩ : ∃ V, W0.alloc (.cells #[.int .i64 y.t, .int .u32 y.i, .int .u32 y.v] 25) = V := ⟨_, rfl⟩
 have bW1 : Below W0.heap.size W0 W1 := by rw [← hW1]; exact below_alloc1 _ _
 have sW1 : W1.heap.size = W0.heap.size + 1 := by rw [← hW1]; simp
 have KY : Hid (∀ V, Below W1.heap.size W1 V → V.cell? ⟨W0.heap.size, 0, none⟩ = some (.int .i64 y.t) ∧ V.cell? ⟨W0.heap.size, 1, none⟩ = some (.int .u32 y.i) ∧ V.cell? ⟨W0.heap.size, 2, none⟩ = some (.int .u32 y.v)) := Lib.hid (fun V hV => kb3_new hW1 hV)
 obtain ⟨W2, hW2⟩ : ∃ V, W1.alloc (.cells #[Value.int .i64 0, .slice none 0 0, .bool false] 32) = V := ⟨_, rfl⟩
 have bW2 : Below W1.heap.size W1 W2 := by rw [← hW2]; exact below_alloc1 _ _
 have sW2 : W2.heap.size = w.heap.size + 3 := by rw [← hW2]; simp; omega
 have b02 : Below W0.heap.size W0 W2 := bW1.trans (bW2.mono bW1.size)
 have HB0 : Hid (Below w.heap.size w W2) := Lib.hid (bW0.trans (b02.mono bW0.size))
 have KS : Hid (∀ V, Below W2.heap.size W2 V → Bk V w.heap.size (.cells #[.int .i64 m, .slice A n c, .bool o] 32) ∧ Bk V (w.heap.size + 1) (.cells #[.int .i64 y.t, .int .u32 y.i, .int .u32 y.v] 25) ∧ Bk V (w.heap.size + 2) (.cells #[Value.int .i64 0, .slice none 0 0, .bool false] 32)) := Lib.hid (fun V hV => ⟨((Bk.mk hW0).step b02).step hV, (show Bk W2 _ _ by have := (Bk.mk hW1).step bW2; rwa [sW0] at this).step hV, (show Bk W2 _ _ by have := Bk.mk hW2; rwa [show W1.heap.size = w.heap.size + 2 by omega] at this).step hV⟩)
 obtain ⟨W3, hW3⟩ : ∃ V, W2.alloc (.cells #[] 40) = V := ⟨_, rfl⟩
 have u3 : Below W2.heap.size W2 W3 := by rw [← hW3]; exact below_alloc1 _ _
 have O1 := ob_lit W2 40 9 W2.heap.size (Nat.le_refl _)
 rw [hW3] at O1
 obtain ⟨N1, hN1⟩ : ∃ q, W2.heap.size = q := ⟨_, rfl⟩
 have O2 : Hid (Ob 40 9 (W2.heap.size ≤ ·) W3 (some ⟨N1, 0, none⟩) 0 (aflat ((L.take 0).filter fun x => !kq y x.h))) := Lib.hid (by rw [hN1] at O1 ⊢; exact O1)
 have J0 : Hid (Below W2.heap.size W2 W3) := Lib.hid u3
 have HN := Lib.hid hn
 have HL := Lib.hid hl
 have HN1 := Lib.hid hN1
 rw [sW2] at hN1
 have S2 := Lib.hid sW2
 clear hl hn KX KY bW0 bW1 bW2 b02 u3 O1 sW2 hN1
 go_enter Tryz.func28, Tryz.ntmps28
 go_wp2_with fail
 go_loopg [6, 7] n (fun gf v6 v7 wx => ∃ (k q : Nat) (Ao : Option Addr) (co : Nat), v6 = .slice Ao q co ∧ v7 = .int .i64 (k : Int) ∧ Hid (gf + k = n) ∧ Hid (Below W2.heap.size W2 wx) ∧ Hid (((L.take k).filter fun x => !kq y x.h).length = q) ∧ Hid (Ob 40 9 (W2.heap.size ≤ ·) wx Ao co (aflat ((L.take k).filter fun x => !kq y x.h))))
 case atStart => exact ⟨0, 0, some ⟨N1, 0, none⟩, 0, by have := HN1.out; have := S2.out; simp, rfl, Lib.hid (by omega), J0, Lib.hid rfl, O2⟩
 case round =>
  obtain ⟨k, q, Ao, co, rfl, rfl, hk, hb, hq, hO⟩ := hrel
  have hk' := hk.out
  have HB := Lib.hid (HB0.out.trans (hb.out.mono HB0.out.size))
  obtain ⟨ks, kk, kz⟩ := KS.out _ hb.out
  obtain ⟨k0, k1, k2, g0, g1, g2, hgl⟩ := kz3_at ks
  obtain ⟨j0, j1, j2, -⟩ := kz3_at kk
  clear hW0 hW1 hW2 hW3 J0 O2
  cases gk with
  | zero =>
   obtain rfl : k = n := by omega
   have lt0 : decide ((k : Int) < (k : Int)) = false := by simp
   have lt1 : decide (k < k) = false := by simp
   have ht : L.take k = L := List.take_of_length_le (by rw [HN.out]; omega)
   rw [ht] at hO hq
   obtain ⟨Wx, hWx⟩ : ∃ V, wr.setCell ⟨w.heap.size, 1, none⟩ (.slice Ao q co) = V := ⟨_, rfl⟩
   have ks2 : Bk Wx w.heap.size (.cells #[.int .i64 m, .slice Ao q co, .bool o] 32) := by rw [← hWx]; exact Bk.set3 (i := 1) ks
   have kz2 : Bk Wx (w.heap.size + 2) (.cells #[Value.int .i64 0, .slice none 0 0, .bool false] 32) := by rw [← hWx]; exact (Below.heap_setCell _ _ _ _ (by show w.heap.size + 2 ≠ w.heap.size; omega)).trans kz
   have T2 : Below w.heap.size w Wx := by rw [← hWx]; exact HB.out.setCell (p := ⟨w.heap.size, 1, none⟩) (Nat.le_refl _) _
   obtain ⟨p0, p1, p2, -⟩ := kz3_at ks2
   obtain ⟨z0, z1, z2, f0, f1, f2, hzl⟩ := kz3_at kz2
   have HKZ := Lib.hid kz2
   have OX : Hid (Ob 40 9 (W2.heap.size ≤ ·) Wx Ao co (aflat ((L).filter fun x => !kq y x.h))) := Lib.hid (by
    rw [← hWx]
    exact hO.out.keep fun j hj hlt => Below.heap_setCell _ _ _ _ (by show j ≠ w.heap.size; have := S2.out; have h1 : W2.heap.size ≤ j := hj; omega))
   have HR : Hid (Below w.heap.size w (st3 Wx (w.heap.size + 2) (Value.int .i64 m) (.slice Ao q co) (.bool o))) := Lib.hid (below_st3 T2 (by omega) _ _ _)
   have OY : Hid (Ob 40 9 (W2.heap.size ≤ ·) (st3 Wx (w.heap.size + 2) (Value.int .i64 m) (.slice Ao q co) (.bool o)) Ao co (aflat ((L).filter fun x => !kq y x.h))) := Lib.hid (OX.out.keep fun j hj hlt => far_st3 (by have := S2.out; have h1 : W2.heap.size ≤ j := hj; omega) _ _ _)
   clear ks kk kz ks2 kz2 T2 ht KS
   go_wp2
   obtain ⟨r0, r1, r2⟩ := kz3_get HKZ.out (Value.int .i64 m) (.slice Ao q co) (.bool o)
   refine bodyPost_ret (v := .tuple #[.agg #[.int .i64 m, .slice Ao q co, .bool o], .bool (decide ((q : Int) < (k : Int)))]) (by simp [results, Tryz.results28, go_sem, r0, r1, r2]) rfl ⟨Ao, co, q, ((L).filter fun x => !kq y x.h), by simp, hq.out, by rw [cons_filter], fun z hz => (List.mem_filter.1 hz).1, ⟨Ob.rd OY.out, fun z hz => (HL.out.2 z (List.mem_filter.1 hz).1).step HR.out⟩, HR.out⟩
  | succ gf =>
   have hqk : q ≤ k := by have h2 := hq.out; have h1 := List.length_filter_le (fun x : Ae => !kq y x.h) (L.take k); rw [List.length_take] at h1; omega
   have hkl : k < L.length := by rw [HN.out]; omega
   have lt0 : (k : Int) < (n : Int) := by omega
   have hw1 : (k : Int) + 1 ≤ 10000 := by omega
   have har := Arr.step HL.out HB.out
   obtain ⟨b, off, hA, _, e0, e1, e2, e3, e4, e5, e6, e7, e8⟩ := ard_at har.1 hkl
   have HTK : Hid (L.take (k + 1) = L.take k ++ [ag L k]) := Lib.hid (atake hkl)
   obtain ⟨x, hx⟩ : ∃ x, ag L k = x := ⟨_, rfl⟩
   rw [hx] at e0 e1 e2 e3 e4 e5 e6 e7 e8 HTK
   have HAR : Hid (∀ V, Below w.heap.size w V → V.cell? ⟨b, off + k * 9, none⟩ = some (.int .i64 x.h.a) ∧ V.cell? ⟨b, off + k * 9 + 1, none⟩ = some (.int .i64 x.h.o) ∧ V.cell? ⟨b, off + k * 9 + 2, none⟩ = some (.int .i64 x.h.t) ∧ V.cell? ⟨b, off + k * 9 + 3, none⟩ = some (.int .u32 x.h.i) ∧ V.cell? ⟨b, off + k * 9 + 4, none⟩ = some (.int .u32 x.h.v) ∧ V.cell? ⟨b, off + k * 9 + 5, none⟩ = some (.int .u32 x.h.q) ∧ V.cell? ⟨b, off + k * 9 + 6, none⟩ = some (.int .i64 x.h.s) ∧ V.cell? ⟨b, off + k * 9 + 7, none⟩ = some (.int .i64 x.h.n) ∧ V.cell? ⟨b, off + k * 9 + 8, none⟩ = some (.slice x.A x.l.length x.c)) := Lib.hid (fun V hV => by
    obtain ⟨b2, off2, hA2, _, q0, q1, q2, q3, q4, q5, q6, q7, q8⟩ := ard_at (Arr.step HL.out hV).1 hkl
    rw [hx] at q0 q1 q2 q3 q4 q5 q6 q7 q8
    rw [hA] at hA2
    injection hA2 with hA2
    injection hA2 with h1 h2
    subst h1 h2
    exact ⟨q0, q1, q2, q3, q4, q5, q6, q7, q8⟩)
   subst hA
   clear hkl har hx
   have HFT : Hid (((L.take (k + 1)).filter fun x => !kq y x.h) = ((L.take k).filter fun x => !kq y x.h) ++ if (!kq y x.h) = true then [x] else []) := Lib.hid (filt_tk HTK.out)
   have hqe := fun W => neK W x.h.t x.h.i x.h.v y.t y.i y.v
   have hkq : kq y x.h = (decide (x.h.t = y.t) && (decide (x.h.i = y.i) && decide (x.h.v = y.v))) := rfl
   rw [← hkq] at hqe
   clear hkq
   go_upto_region 5 with fail
   refine wp_region_quiet_below (by kernel_rfl) (by kernel_rfl) ?_
   have gg0 := cell_regrown k0
   have gg1 := cell_regrown k1
   have gg2 := cell_regrown k2
   have gg3 := cell_regrown j0
   have gg4 := cell_regrown j1
   have gg5 := cell_regrown j2
   have gg6 := cell_regrown e0
   have gg7 := cell_regrown e1
   have gg8 := cell_regrown e2
   have gg9 := cell_regrown e3
   have gg10 := cell_regrown e4
   have gg11 := cell_regrown e5
   have gg12 := cell_regrown e6
   have gg13 := cell_regrown e7
   have gg14 := cell_regrown e8
   have zz0 : ∀ d os, _ := fun d os => Calls.regrown_of (w := wr) (d := d) (os := os) (rkey_any x.h _)
   repeat (first | go_big_quiet_step (with_reducible exact zz0 _ _) | go_big_quiet_step (fail) | go_big_quiet_skip)
   refine wpQuiet_nil ?_
   intro W9 hw'
   obtain ⟨⟨dq, osq⟩, hw''⟩ := hw'
   have hbz := below_regrown wr dq osq
   rw [← hw''] at hbz
   clear hw'' gg0 gg1 gg2 gg3 gg4 gg5 gg6 gg7 gg8 gg9 gg10 gg11 gg12 gg13 gg14 zz0 
   have H9 := Lib.hid (hb.out.trans (hbz.mono hb.out.size))
   have O9 := Lib.hid (hO.out.below hbz)
   clear ks kk kz k0 k1 k2 g0 g1 g2 hgl j0 j1 j2 e0 e1 e2 e3 e4 e5 e6 e7 e8 hbz hqe
   cases hkk : kq y x.h with
   | true =>
    have HD1 : Hid (((L.take (k + 1)).filter fun x => !kq y x.h) = ((L.take k).filter fun x => !kq y x.h)) := Lib.hid (by rw [HFT.out, hkk]; simp)
    have Q9 : Hid (((L.take (k + 1)).filter fun x => !kq y x.h).length = q) := Lib.hid (by rw [HD1.out, hq.out])
    have OO : Hid (Ob 40 9 (W2.heap.size ≤ ·) W9 Ao co (aflat ((L.take (k + 1)).filter fun x => !kq y x.h))) := Lib.hid (by rw [HD1.out]; exact O9.out)
    clear hkk
    go_wp2
    go_roundg gf
    case measure => omega
    case rel => exact ⟨k + 1, q, Ao, co, rfl, by go_num, Lib.hid (by omega), H9, Q9, OO⟩
   | false =>
    have HD1 : Hid (((L.take (k + 1)).filter fun x => !kq y x.h) = ((L.take k).filter fun x => !kq y x.h) ++ [x]) := Lib.hid (by rw [HFT.out, hkk]; simp)
    obtain ⟨i0, hi0, hz0, hz1, hz2⟩ := info_of infoA
    obtain ⟨n0, hn0⟩ : ∃ q, W9.heap.size = q := ⟨_, rfl⟩
    obtain ⟨g9, c9, Z9, r9, rg9, kp9, hg9⟩ := app_one (P := Tryz.prog) (S := fun j => W2.heap.size ≤ j) Tryz.underlying26 hi0 hz0 hz1 hz2 rfl (by decide) (by decide) O9.out (n := q) (by rw [aflat_length, hq.out]) (acs x) rfl (acs_one x) (by omega) n0 hn0
    have TZ : Hid (Below W2.heap.size W2 Z9) := Lib.hid (H9.out.trans (kp9.below (fun j hj => hj) H9.out.size))
    have OZ : Hid (Ob 40 9 (W2.heap.size ≤ ·) Z9 (some ⟨g9, 0, none⟩) c9 (aflat ((L.take (k + 1)).filter fun x => !kq y x.h))) := Lib.hid (.inr ⟨g9, (by rcases hg9 with q | q; exact q; have h1 := H9.out.size; show W2.heap.size ≤ g9; omega), rfl, by rw [HD1.out, aflat_snoc]; exact rg9⟩)
    have QZ : Hid (((L.take (k + 1)).filter fun x => !kq y x.h).length = q + 1) := Lib.hid (by rw [HD1.out, List.length_append, hq.out]; rfl)
    rw [show (acs x).toArray = #[Value.int .i64 x.h.a, .int .i64 x.h.o, .int .i64 x.h.t, .int .u32 x.h.i, .int .u32 x.h.v, .int .u32 x.h.q, .int .i64 x.h.s, .int .i64 x.h.n, .slice x.A x.l.length x.c] from rfl] at r9
    obtain ⟨e0, e1, e2, e3, e4, e5, e6, e7, e8⟩ := HAR.out _ (HB0.out.trans (H9.out.mono HB0.out.size))
    obtain ⟨ks, -, -⟩ := KS.out _ H9.out
    obtain ⟨k0, k1, k2, -⟩ := kz3_at ks
    have lti : (k : Int) < (n : Int) := lt0
    clear hkk rg9 kp9 hg9 ks
    go_wp2_with (at_builtin; refine wpList_runb _ rfl (.tmp 26) (.tmp 32) 26 rfl rfl rfl r9 ?_)
    go_roundg gf
    case measure => omega
    case rel => exact ⟨k + 1, q + 1, some ⟨g9, 0, none⟩, c9, rfl, by go_num, Lib.hid (by omega), TZ, QZ, OZ⟩
end Go.Proofs.YtadcicmccdphkaaGreat
namespace Go.Proofs.YtadcicmccdphkaaGreat
open Go.RowKit Go.Joins

def ipl (M : List Ae) (h : Hd) : Nat := M.findIdx fun z => lessK h z.h
theorem ipl_le (M : List Ae) (h : Hd) : ipl M h ≤ M.length := List.findIdx_le_length
def itk (M : List Ae) (x : Ae) (k : Nat) : List Ae := if ipl M x.h < k then (insA M (ipl M x.h) x).take (k + 1) else M.take k
theorem itk_put {M : List Ae} {x : Ae} {k : Nat} (hk : k < M.length) (h : ipl M x.h = k) : itk M x (k + 1) = (itk M x k ++ [x]) ++ [ag M k] := by
 have e : insA M k x = M.take k ++ x :: M.drop k := rfl
 rw [itk, itk, h, if_pos (by omega), if_neg (by omega), e, ag_eq hk]
 have h1 : (M.take k).length = k := by rw [List.length_take]; omega
 rw [List.take_append, h1, List.take_of_length_le (by omega), show k + 1 + 1 - k = 2 by omega, List.drop_eq_getElem_cons hk]
 simp only [List.take_succ_cons, List.take_zero, List.append_assoc, List.cons_append, List.nil_append]
theorem itk_past {M : List Ae} {x : Ae} {k : Nat} (hk : k < M.length) (h : ipl M x.h < k) : itk M x (k + 1) = itk M x k ++ [ag M k] := by
 have hl : k + 1 < (insA M (ipl M x.h) x).length := by rw [insA_length (ipl_le M x.h)]; omega
 have h1 : (M.take (ipl M x.h)).length = ipl M x.h := by rw [List.length_take]; have := ipl_le M x.h; omega
 have hg : (insA M (ipl M x.h) x)[k + 1]? = M[k]? := by
  show (M.take (ipl M x.h) ++ x :: M.drop (ipl M x.h))[k + 1]? = _
  rw [List.getElem?_append_right (by omega), h1, show k + 1 - ipl M x.h = (k - ipl M x.h) + 1 by omega, List.getElem?_cons_succ, List.getElem?_drop, show ipl M x.h + (k - ipl M x.h) = k by omega]
 have hg2 : (insA M (ipl M x.h) x)[k + 1]'hl = ag M k := by
  rw [ag_eq hk]
  rw [List.getElem?_eq_getElem hl, List.getElem?_eq_getElem hk] at hg
  exact Option.some.inj hg
 rw [itk, itk, if_pos (by omega), if_pos h, List.take_succ_eq_append_getElem hl, hg2]
theorem itk_wait {M : List Ae} {x : Ae} {k : Nat} (hk : k < M.length) (h : k < ipl M x.h) : itk M x (k + 1) = itk M x k ++ [ag M k] := by
 rw [itk, itk, if_neg (by omega), if_neg (by omega), atake hk]
theorem itk_end {M : List Ae} {x : Ae} (h : ipl M x.h < M.length) : itk M x M.length = insA M (ipl M x.h) x := by
 rw [itk, if_pos h, List.take_of_length_le (by rw [insA_length (ipl_le M x.h)]; omega)]
theorem itk_none {M : List Ae} {x : Ae} (h : ¬ ipl M x.h < M.length) : itk M x M.length ++ [x] = insA M (ipl M x.h) x := by
 have e : ipl M x.h = M.length := by have := ipl_le M x.h; omega
 rw [itk, if_neg h, insA, e, List.take_length, List.drop_length]
theorem ipl_iff {M : List Ae} {h : Hd} {k : Nat} (hk : k < M.length) (hp : k ≤ ipl M h) : lessK h (ag M k).h = true ↔ ipl M h = k := by
 rw [ag_eq hk]
 constructor
 ·intro h1
  rcases Nat.lt_or_ge k (ipl M h) with q | q
  ·have := List.not_of_lt_findIdx (p := fun z : Ae => lessK h z.h) (xs := M) (i := k) q
   rw [h1] at this
   exact absurd this (by simp)
  ·omega
 ·intro h1
  have hlt : ipl M h < M.length := by omega
  have := List.findIdx_getElem (p := fun z : Ae => lessK h z.h) (xs := M) (w := hlt)
  have e : M[List.findIdx (fun z : Ae => lessK h z.h) M]'hlt = M[k] := by congr 1
  rw [e] at this
  exact this
theorem itk_len {M : List Ae} {x : Ae} {k : Nat} (hk : k ≤ M.length) : (itk M x k).length = k + if ipl M x.h < k then 1 else 0 := by
 rw [itk]
 split
 ·rw [List.length_take, insA_length (ipl_le M x.h)]; omega
 ·rw [List.length_take]; omega
end Go.Proofs.YtadcicmccdphkaaGreat
