/-
  Contracts of small and alive, of the laws. No statement is proved here; no conditions.
-/
import Derived.Test.YtmcjpibahnlmbaaLa
namespace Go.Proofs.Ytmcjpibahnlmbaa
open Go.RowKit Go.Joins

/-- The clauses l are read at A, however long their rows are. -/
structure Cq (w : World) (A : Option Addr) (l : List Cl) : Prop where
  rd : Rd (fun _ => True) w A (cflat l)
  cx : ∀ x ∈ l, Rr w x.LA x.c.L ∧ Tr w x.TA x.c.T ∧ ∀ r ∈ x.c.L, r.A < 4294967296
def sml (l : List Cl) : Bool := decide (l.length ≤ 20) && l.all fun x => decide (x.c.L.length ≤ 20) && decide (x.c.T.length ≤ 20)
theorem Cq.cr {w : World} {A : Option Addr} {l : List Cl} (h : Cq w A l) (hs : sml l = true) : Cr w A l ∧ l.length ≤ 20 := by
  simp only [sml, Bool.and_eq_true, decide_eq_true_eq, List.all_eq_true] at hs
  exact ⟨⟨h.rd, fun x hx => ⟨(h.cx x hx).1, (h.cx x hx).2.1, (h.cx x hx).2.2, (hs.2 x hx).1, (hs.2 x hx).2⟩⟩, hs.1⟩
theorem sml_long {l : List Cl} (h : 20 < l.length) : sml l = false := by
  rw [sml, decide_eq_false (by omega)]; rfl
theorem sml_bad {l : List Cl} {k : Nat} (hk : k < l.length) (h : ¬ ((gc l k).c.L.length ≤ 20 ∧ (gc l k).c.T.length ≤ 20)) : sml l = false := by
  rw [Bool.eq_false_iff]
  intro q
  simp only [sml, Bool.and_eq_true, decide_eq_true_eq, List.all_eq_true] at q
  refine h ?_
  rw [gc_eq hk]
  exact q.2 _ (List.getElem_mem _)
theorem sml_good {l : List Cl} (h0 : l.length ≤ 20) (h : ∀ i, i < l.length → (gc l i).c.L.length ≤ 20 ∧ (gc l i).c.T.length ≤ 20) : sml l = true := by
  simp only [sml, Bool.and_eq_true, decide_eq_true_eq, List.all_eq_true]
  refine ⟨h0, fun x hx => ?_⟩
  obtain ⟨i, hi, rfl⟩ := List.getElem_of_mem hx
  have := h i hi
  rwa [gc_eq hi] at this
set_option maxRecDepth 100000 in
set_option maxHeartbeats 1000000 in
theorem small_any (A0 : Option Addr) (c : Nat) (l : List Cl) (w : World) (hl : Rd (fun _ => True) w A0 (cflat l)) :
    Calls Try.prog 7 #[.slice A0 l.length c] w fun e w' => e = .returned (.bool (sml l)) ∧ w' = w := by
  have HL := Lib.hid hl
  obtain ⟨ln, hln⟩ : ∃ ln, l.length = ln := ⟨_, rfl⟩
  obtain ⟨R, hR⟩ : ∃ R, sml l = R := ⟨_, rfl⟩
  rw [hln, hR]
  have HLN := Lib.hid hln
  have HR := Lib.hid hR
  clear hl hln hR
  go_enter Try.func7, Try.ntmps7
  go_wp2_with fail
  go_loopg [3] 21 (fun gf v wx => ∃ (k : Nat), v = .int .i64 (k : Int) ∧ Hid (gf + k = 21) ∧ Hid (k ≤ ln) ∧ Hid (k ≤ 20) ∧ Hid (∀ i, i < k → (gc l i).c.L.length ≤ 20 ∧ (gc l i).c.T.length ≤ 20) ∧ wx = w)
  case atStart => exact ⟨0, rfl, Lib.hid (by omega), Lib.hid (by omega), Lib.hid (by omega), Lib.hid (fun i hi => by omega), rfl⟩
  case round =>
    obtain ⟨k, rfl, hk, hkn, hk2, hi, rfl⟩ := hrel
    have hk' := hk.out
    have hkn' := hkn.out
    have hk2' := hk2.out
    by_cases hlt : k < ln
    · have hkl : k < l.length := by rw [HLN.out]; exact hlt
      have lt0 : (k : Int) < (ln : Int) := by omega
      have hw1 : (k : Int) + 1 ≤ 10000 := by omega
      by_cases h20 : k = 20
      · have n1 : ((k : Int) == 20) = true := by simp; omega
        have n2 : (k == 20) = true := by simpa using h20
        have E2 : Hid (R = false) := Lib.hid (by rw [← HR.out]; exact sml_long (by omega))
        clear hkl hkn' hk2' hk'
        subst h20
        go_wp2
        go_ret
        exact ⟨ret_bool (by rw [E2.out]), rfl⟩
      · have n1 : ((k : Int) == 20) = false := by simp; omega
        have n2 : (k == 20) = false := by simpa using h20
        obtain ⟨gf, rfl⟩ : ∃ gf, gk = gf + 1 := ⟨gk - 1, by omega⟩
        obtain ⟨b, off, hA, _, hc⟩ := fm_at cc_len (by omega) HL.out hkl
        rw [← gc_eq hkl] at hc
        have e2 := hc 2 _ rfl
        have e6 := hc 6 _ rfl
        have bad : ¬ ((gc l k).c.L.length ≤ 20 ∧ (gc l k).c.T.length ≤ 20) → R = false := fun h => by rw [← HR.out]; exact sml_bad hkl h
        have good := hi.out
        clear hc
        obtain ⟨x, hx⟩ : ∃ x, gc l k = x := ⟨_, rfl⟩
        rw [hx] at e2 e6 bad
        have HX := Lib.hid hx
        obtain ⟨nL, hnL⟩ : ∃ n, x.c.L.length = n := ⟨_, rfl⟩
        obtain ⟨nT, hnT⟩ : ∃ n, x.c.T.length = n := ⟨_, rfl⟩
        rw [hnL] at e2 bad
        rw [hnT] at e6 bad
        have HNL := Lib.hid hnL
        have HNT := Lib.hid hnT
        have BAD := Lib.hid bad
        have GOOD := Lib.hid good
        subst hA
        clear hx hkl hnL hnT bad good
        by_cases h1 : nL ≤ 20
        · have m1 : ¬ ((nL : Int) > 20) := by omega
          by_cases h2 : nT ≤ 20
          · have m2 : ¬ ((nT : Int) > 20) := by omega
            have HN : Hid (∀ i, i < k + 1 → (gc l i).c.L.length ≤ 20 ∧ (gc l i).c.T.length ≤ 20) := Lib.hid (fun i hi => by
              rcases Nat.lt_or_ge i k with q | q
              · exact GOOD.out i q
              · obtain rfl : i = k := by omega
                rw [HX.out, HNL.out, HNT.out]; exact ⟨h1, h2⟩)
            go_wp2
            go_roundg gf
            case measure => omega
            case rel => exact ⟨k + 1, by go_num, Lib.hid (by omega), Lib.hid (by omega), Lib.hid (by omega), HN, rfl⟩
          · have m2 : ((nT : Int) > 20) := by omega
            have E2 : Hid (R = false) := Lib.hid (BAD.out (by omega))
            go_wp2
            go_ret
            exact ⟨ret_bool (by rw [E2.out]), rfl⟩
        · have m1 : ((nL : Int) > 20) := by omega
          have E2 : Hid (R = false) := Lib.hid (BAD.out (by omega))
          go_wp2
          go_ret
          exact ⟨ret_bool (by rw [E2.out]), rfl⟩
    · have e1 : k = ln := by omega
      have lt0 : decide ((k : Int) < (ln : Int)) = false := by simp; omega
      have lt1 : ¬ ((k : Int) < (ln : Int)) := by omega
      have E2 : Hid (R = true) := Lib.hid (by rw [← HR.out]; exact sml_good (by rw [HLN.out]; omega) (fun i h => hi.out i (by rw [HLN.out] at h; omega)))
      clear e1 hkn' hk2'
      go_wp2
      go_ret
      exact ⟨ret_bool (by rw [E2.out]), rfl⟩
set_option maxRecDepth 100000 in
set_option maxHeartbeats 1000000 in
theorem alive_any (w : World) : Calls Try.prog 8 #[] w fun e w' => e = .returned (.bool true) ∧ Below w.heap.size w w' := by
  obtain ⟨W0, hW0⟩ : ∃ W0, w.alloc (.cells #[Value.int .i64 1, Value.bool true, Value.slice none 0 0, Value.int .i64 (-1), Value.int .i64 0, Value.int .i64 10, Value.slice none 0 0, Value.int .i64 (-1), Value.int .i64 2, Value.int .i64 3, Value.bool true, Value.int .u32 9] 37) = W0 := ⟨_, rfl⟩
  have s0 : W0.heap.size = w.heap.size + 1 := by rw [← hW0]; simp
  obtain ⟨W1, hW1⟩ : ∃ W1, W0.alloc (.cells #[Value.int .i64 1, Value.bool true, Value.slice none 0 0, Value.int .i64 (-1), Value.int .i64 0, Value.int .i64 10, Value.slice none 0 0, Value.int .i64 (-1), Value.int .i64 2, Value.int .i64 3, Value.bool true, Value.int .u32 9] 37) = W1 := ⟨_, rfl⟩
  have b0 : Below w.heap.size w W0 := by rw [← hW0]; exact below_alloc1 _ _
  have b1 : Below W0.heap.size W0 W1 := by rw [← hW1]; exact below_alloc1 _ _
  have HB : Hid (Below w.heap.size w W1) := Lib.hid (b0.trans (b1.mono (by omega)))
  have KX : Hid (∀ V, Below W1.heap.size W1 V → V.cell? ⟨w.heap.size, 0, none⟩ = some (Value.int .i64 1) ∧ V.cell? ⟨w.heap.size, 1, none⟩ = some (Value.bool true) ∧ V.cell? ⟨w.heap.size, 2, none⟩ = some (Value.slice none 0 0) ∧ V.cell? ⟨w.heap.size, 3, none⟩ = some (Value.int .i64 (-1)) ∧ V.cell? ⟨w.heap.size, 4, none⟩ = some (Value.int .i64 0) ∧ V.cell? ⟨w.heap.size, 5, none⟩ = some (Value.int .i64 10) ∧ V.cell? ⟨w.heap.size, 6, none⟩ = some (Value.slice none 0 0) ∧ V.cell? ⟨w.heap.size, 7, none⟩ = some (Value.int .i64 (-1)) ∧ V.cell? ⟨w.heap.size, 8, none⟩ = some (Value.int .i64 2) ∧ V.cell? ⟨w.heap.size, 9, none⟩ = some (Value.int .i64 3) ∧ V.cell? ⟨w.heap.size, 10, none⟩ = some (Value.bool true) ∧ V.cell? ⟨w.heap.size, 11, none⟩ = some (Value.int .u32 9)) := Lib.hid (fun V hV => cb_new hW0 (b1.trans (hV.mono b1.size)))
  have hcx : ∀ V, Cx V ⟨⟨1, true, [], -1, 0, 10, [], -1, 2, 3, true, 9⟩, none, 0, none, 0⟩ := fun V => ⟨Rr.nil _ _, Rd.nil _, (fun r hr => by cases hr), by simp, by simp⟩
  have hcr : Cr W1 (some ⟨w.heap.size + 1, 0, none⟩) [⟨⟨1, true, [], -1, 0, 10, [], -1, 2, 3, true, 9⟩, none, 0, none, 0⟩] := by
    refine ⟨?_, fun x hx => by rw [List.mem_singleton.1 hx]; exact hcx _⟩
    have h1 : Rg 37 12 W1 W0.heap.size 1 (cflat [⟨⟨1, true, [], -1, 0, 10, [], -1, 2, 3, true, 9⟩, none, 0, none, 0⟩]) := by rw [← hW1]; exact Rg.lit W0 37 12 1 _ _ rfl rfl (by unfold maxLen; omega)
    rw [s0] at h1
    exact h1.rd.more fun _ _ _ => trivial
  have ce : Calls Try.prog 21 #[.slice (some ⟨w.heap.size + 1, 0, none⟩) 1 1, .agg #[.int .u32 0, .int .i64 0, .int .i64 0, .int .i64 5, .int .u32 0]] W1 fun e w' => e = .returned (.tuple #[.agg #[.int .u32 0, .int .i64 0, .int .i64 3, .int .i64 7, .int .u32 9], .bool true, .int .i64 1]) ∧ Below W1.heap.size W1 w' :=
    eval8_any _ 1 [⟨⟨1, true, [], -1, 0, 10, [], -1, 2, 3, true, 9⟩, none, 0, none, 0⟩] ⟨0, 0, 0, 5, 0⟩ W1 hcr (by simp) (fun x hx => by rw [List.mem_singleton.1 hx]; rfl) rfl (by decide)
  have cn : ∀ V : World, Calls Try.prog 21 #[.slice none 0 0, .agg #[.int .u32 0, .int .i64 0, .int .i64 0, .int .i64 0, .int .u32 0]] V fun e w' => e = .returned (.tuple #[.agg #[.int .u32 0, .int .i64 0, .int .i64 0, .int .i64 0, .int .u32 0], .bool false, .int .i64 0]) ∧ Below V.heap.size V w' := fun V =>
    eval8_any none 0 [] ⟨0, 0, 0, 0, 0⟩ V ⟨Rd.nil _, fun x hx => by cases hx⟩ (by simp) (fun x hx => by cases hx) rfl (by decide)
  have cm : ∀ V : World, Calls Try.prog 12 #[.agg #[Value.int .i64 1, Value.bool true, Value.slice none 0 0, Value.int .i64 (-1), Value.int .i64 0, Value.int .i64 10, Value.slice none 0 0, Value.int .i64 (-1), Value.int .i64 2, Value.int .i64 3, Value.bool true, Value.int .u32 9]] V fun e w' => e = .returned (.bool true) ∧ Below V.heap.size V w' := fun V => may8_any ⟨⟨1, true, [], -1, 0, 10, [], -1, 2, 3, true, 9⟩, none, 0, none, 0⟩ V (hcx V)
  clear b0 b1 hcx hcr
  obtain ⟨k0, k1, k2, k3, k4, k5, k6, k7, k8, k9, k10, k11⟩ := cb_new hW0 (Below.refl _ _)
  go_enter Try.func8, Try.ntmps8
  go_wp2_with fail
  refine ce.mono ?_
  rintro e V1 ⟨rfl, hb1⟩
  clear ce hW0 hW1 s0 k0 k1 k2 k3 k4 k5 k6 k7 k8 k9 k10 k11
  obtain ⟨V2, hV2⟩ : ∃ V2, V1.alloc (.cells #[.int .u32 0, .int .i64 0, .int .i64 3, .int .i64 7, .int .u32 9] 27) = V2 := ⟨_, rfl⟩
  have b2 : Below V1.heap.size V1 V2 := by rw [← hV2]; exact below_alloc1 _ _
  have HB2 := Lib.hid (hb1.trans (b2.mono hb1.size))
  have KQ : Hid (∀ V, Below V2.heap.size V2 V → _) := Lib.hid (fun V hV => tb_new hV2 hV)
  clear hb1 b2
  go_wp2_with fail
  refine (cn _).mono ?_
  rintro e V3 ⟨rfl, hb3⟩
  obtain ⟨mm, hmm⟩ : ∃ mm, V1.heap.size = mm := ⟨_, rfl⟩
  simp only [hmm] at KQ ⊢
  clear hV2 hmm cn
  obtain ⟨V4, hV4⟩ : ∃ V4, V3.alloc (.cells #[.int .u32 0, .int .i64 0, .int .i64 0, .int .i64 0, .int .u32 0] 27) = V4 := ⟨_, rfl⟩
  have b4 : Below V3.heap.size V3 V4 := by rw [← hV4]; exact below_alloc1 _ _
  have hb4 := hb3.trans (b4.mono hb3.size)
  have HB4 := Lib.hid (HB2.out.trans (hb4.mono HB2.out.size))
  have HB24 := Lib.hid hb4
  have HV4 := Lib.hid hV4
  clear hb3 b4 hb4 hV4
  go_upto_region 4 with fail
  rw [HV4.out]
  obtain ⟨k0, k1, k2, k3, k4, k5, k6, k7, k8, k9, k10, k11⟩ := KX.out _ HB4.out
  go_wp2_with fail
  refine (cm _).mono ?_
  rintro e V5 ⟨rfl, hb5⟩
  obtain ⟨q0, q1, q2, q3, q4⟩ := KQ.out _ (HB24.out.trans (hb5.mono HB24.out.size))
  clear k0 k1 k2 k3 k4 k5 k6 k7 k8 k9 k10 k11 HV4
  go_wp2
  go_ret
  exact ⟨rfl, HB.out.trans ((HB4.out.trans (hb5.mono HB4.out.size)).mono HB.out.size)⟩
end Go.Proofs.Ytmcjpibahnlmbaa
