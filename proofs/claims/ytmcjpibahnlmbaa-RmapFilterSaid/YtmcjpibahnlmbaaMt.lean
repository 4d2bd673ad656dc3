/-
  Contracts of the program's permits, of slices.Index and slices.Contains at tags, of Matches. No statement is proved here; no conditions.
-/
import Derived.Test.YtmcjpibahnlmbaaMy
namespace Go.Proofs.Ytmcjpibahnlmbaa
open Go.RowKit Go.Joins

set_option maxRecDepth 100000 in
theorem permits_any (A0 : Option Addr) (c : Nat) (l : List Ru) (B : Nat) (M : Int) (w : World) (hl : Rr w A0 l) (hll : l.length ≤ 10000) (hA : ∀ x ∈ l, x.A < 4294967296) (hB : B < 4294967296) :
    Calls Try.prog 35 #[.slice A0 l.length c, pf B M] w fun e w' => e = .returned (.bool (prm l B M)) ∧ Below w.heap.size w w' := by
  obtain ⟨W0, hW0⟩ : ∃ W0, w.alloc (.cells #[.int .u32 (B : Int), .int .i64 M] 25) = W0 := ⟨_, rfl⟩
  have b0 : Below w.heap.size w W0 := by rw [← hW0]; exact below_alloc1 _ _
  have ce := eval_any A0 c l B M W0 (hl.step b0) hll hA hB
  obtain ⟨q0, q1⟩ := pb_new hW0 (Below.refl _ _)
  have hp : prm l B M = (decide (l.length = 0) || (evl l B M).1) := by
    unfold prm
    cases l <;> simp
  rw [hp]
  generalize evl l B M = E at *
  generalize l.length = ln at *
  have HB0 := Lib.hid b0
  clear hp hl hA b0
  by_cases h0 : ln = 0
  · have n1 : ((ln : Int) == 0) = true := by simpa using h0
    have n2 : (ln == 0) = true := by simpa using h0
    go_enter Try.func35, Try.ntmps35
    go_wp2_with fail
    go_ret
    exact ⟨ret_bool (by simp [h0]), HB0.out⟩
  · have n1 : ((ln : Int) == 0) = false := by simpa using h0
    have n2 : (ln == 0) = false := by simpa using h0
    have n3 : decide (ln = 0) = false := by simpa using h0
    go_enter Try.func35, Try.ntmps35
    go_wp2_with fail
    refine ce.mono ?_
    rintro e W1 ⟨rfl, hb1⟩
    go_wp2
    go_ret
    exact ⟨ret_bool (by simp [h0]), HB0.out.trans (hb1.mono HB0.out.size)⟩
set_option maxRecDepth 100000 in
theorem index_any (A0 : Option Addr) (c : Nat) (T : List Nat) (t : Nat) (w : World) (hl : Tr w A0 T) (hll : T.length ≤ 10000) :
    Calls Try.prog 48 #[.slice A0 T.length c, .int .u32 (t : Int)] w fun e w' => e = .returned (.int .i64 (fix (fun x => decide (t = x)) T)) ∧ w' = w := by
  have HL := Lib.hid hl
  obtain ⟨ln, hln⟩ : ∃ ln, T.length = ln := ⟨_, rfl⟩
  obtain ⟨R, hR⟩ : ∃ R, fix (fun x => decide (t = x)) T = R := ⟨_, rfl⟩
  rw [hln] at hll ⊢
  rw [hR]
  have HLN := Lib.hid hln
  have HR := Lib.hid hR
  clear hl hln hR
  go_enter Try.func48, Try.ntmps48
  go_wp2_with fail
  go_loopg [8] ln (fun gf v wx => ∃ (k : Nat), v = .int .i64 (k : Int) ∧ Hid (gf + k = ln) ∧ Hid (∀ i (hi : i < T.length), i < k → ¬ t = T[i]) ∧ wx = w)
  case atStart => exact ⟨0, rfl, Lib.hid (by omega), Lib.hid (fun i _ hi => by omega), rfl⟩
  case round =>
    obtain ⟨k, rfl, hk, hn, rfl⟩ := hrel
    have hk' := hk.out
    cases gk with
    | zero =>
      have e1 : k = ln := by omega
      have lt0 : decide ((k : Int) < (ln : Int)) = false := by simp; omega
      have lt1 : decide (k < ln) = false := by simp; omega
      go_wp2
      go_ret
      refine ⟨ret_int ?_, rfl⟩
      rw [← HR.out, fix_none]
      intro x hx
      obtain ⟨i, hi, rfl⟩ := List.getElem_of_mem hx
      exact decide_eq_false (hn.out i hi (by have := HLN.out; omega))
    | succ gf =>
      have hkl : k < T.length := by rw [HLN.out]; omega
      have lt0 : (k : Int) < (ln : Int) := by omega
      have hw1 : (k : Int) + 1 ≤ 10000 := by omega
      obtain ⟨b, off, hA, _, e0⟩ := HL.out.at hkl
      obtain ⟨x, hx⟩ : ∃ x, T[k] = x := ⟨_, rfl⟩
      rw [hx] at e0
      have HX := Lib.hid hx
      subst hA
      clear hx
      by_cases hpr : t = x
      · have E9 : Hid (R = (k : Int)) := Lib.hid (by rw [← HR.out, fix_at hkl (fun i hi => decide_eq_false (hn.out i (by omega) hi)) (by rw [HX.out]; exact decide_eq_true hpr)])
        have n1 : ((t : Int) == (x : Int)) = true := by simp; omega
        have n2 : (t == x) = true := by simpa using hpr
        clear HX hkl
        go_wp2_with fail
        go_ret
        exact ⟨ret_int E9.out.symm, rfl⟩
      · have HN : Hid (∀ i (hi : i < T.length), i < k + 1 → ¬ t = T[i]) := Lib.hid (fun i hi hik => by
          rcases Nat.lt_or_ge i k with q | q
          · exact hn.out i hi q
          · obtain rfl : i = k := by omega
            rw [HX.out]; exact hpr)
        have n1 : ((t : Int) == (x : Int)) = false := by simp; omega
        have n2 : (t == x) = false := by simpa using hpr
        clear HX hkl
        go_wp2_with fail
        go_roundg gf
        case measure => omega
        case rel => exact ⟨k + 1, by go_num, Lib.hid (by omega), HN, rfl⟩
theorem contains_any (A0 : Option Addr) (c : Nat) (T : List Nat) (t : Nat) (w : World) (hl : Tr w A0 T) (hll : T.length ≤ 10000) :
    Calls Try.prog 36 #[.slice A0 T.length c, .int .u32 (t : Int)] w fun e w' => e = .returned (.bool (T.contains t)) ∧ w' = w := by
  have cf := index_any A0 c T t w hl hll
  have he : decide (fix (fun x => decide (t = x)) T ≥ 0) = T.contains t := by
    rw [fix_any, List.contains_eq_any_beq]
    rfl
  generalize fix (fun x => decide (t = x)) T = R at *
  generalize T.contains t = E at *
  generalize T.length = ln at *
  have HE := Lib.hid he
  clear hl he
  go_enter Try.func36, Try.ntmps36
  go_wp2_with fail
  refine (cf).mono ?_
  rintro e Wz ⟨rfl, hWz⟩
  rw [hWz]
  clear hWz Wz
  go_wp2
  go_ret
  exact ⟨ret_bool HE.out, rfl⟩
set_option maxRecDepth 100000 in
set_option maxHeartbeats 1000000 in
theorem matches_any (x : Cl) (t : Rt) (w : World) (hx : Cx w x) (hB : t.A < 4294967296) : Calls Try.prog 17 #[cv x, tv t] w fun e w' => e = .returned (.bool (mtc x.c t)) ∧ Below w.heap.size w w' := by
  have cp := fun W (hW : Below w.heap.size w W) => permits_any x.LA x.Lc x.c.L t.A t.N W (hx.L.step hW) (by have := hx.nL; omega) hx.wf hB
  have ct := fun W (hW : Below w.heap.size w W) => contains_any x.TA x.Tc x.c.T t.t W (hx.T.step hW) (by have := hx.nT; omega)
  obtain ⟨⟨s, p, L, k, lo, hi, T, sc, sp, sk, st, tg⟩, LA, Lc, TA, Tc⟩ := x
  obtain ⟨B, M, tk, c, tt⟩ := t
  have cw := fun W => within_any c lo hi W
  have ho : mtc ⟨s, p, L, k, lo, hi, T, sc, sp, sk, st, tg⟩ ⟨B, M, tk, c, tt⟩ = (prm L B M && (decide (k = -1) || decide (k = tk)) && win c lo hi && (decide (T.length = 0) || T.contains tt)) := by
    unfold mtc tgs
    cases T <;> simp
  simp only [cv, tv] at cp ct ⊢
  rw [ho]
  generalize prm L B M = PR at *
  generalize win c lo hi = WN at *
  generalize T.contains tt = CT at *
  obtain ⟨nL, hnL⟩ : ∃ n, L.length = n := ⟨_, rfl⟩
  obtain ⟨nT, hnT⟩ : ∃ n, T.length = n := ⟨_, rfl⟩
  rw [hnL, hnT]
  rw [hnL] at cp
  rw [hnT] at ct
  clear ho hx hnL hnT
  obtain ⟨W0, hW0⟩ : ∃ W0, w.alloc (.cells #[Value.int .i64 s, Value.bool p, Value.slice LA nL Lc, Value.int .i64 k, Value.int .i64 lo, Value.int .i64 hi, Value.slice TA nT Tc, Value.int .i64 sc, Value.int .i64 sp, Value.int .i64 sk, Value.bool st, Value.int .u32 (tg : Int)] 37) = W0 := ⟨_, rfl⟩
  have s0 : W0.heap.size = w.heap.size + 1 := by rw [← hW0]; simp
  obtain ⟨W1, hW1⟩ : ∃ W1, W0.alloc (.cells #[Value.int .u32 (B : Int), Value.int .i64 M, Value.int .i64 tk, Value.int .i64 c, Value.int .u32 (tt : Int)] 27) = W1 := ⟨_, rfl⟩
  have s1 : W1.heap.size = w.heap.size + 2 := by rw [← hW1]; simp [s0]
  have b0 : Below w.heap.size w W0 := by rw [← hW0]; exact below_alloc1 _ _
  have b1 : Below W0.heap.size W0 W1 := by rw [← hW1]; exact below_alloc1 _ _
  have HB : Hid (Below w.heap.size w W1) := Lib.hid (b0.trans (b1.mono (by omega)))
  have KX : Hid (∀ V, Below W1.heap.size W1 V → V.cell? ⟨w.heap.size, 0, none⟩ = some (Value.int .i64 s) ∧ V.cell? ⟨w.heap.size, 1, none⟩ = some (Value.bool p) ∧ V.cell? ⟨w.heap.size, 2, none⟩ = some (Value.slice LA nL Lc) ∧ V.cell? ⟨w.heap.size, 3, none⟩ = some (Value.int .i64 k) ∧ V.cell? ⟨w.heap.size, 4, none⟩ = some (Value.int .i64 lo) ∧ V.cell? ⟨w.heap.size, 5, none⟩ = some (Value.int .i64 hi) ∧ V.cell? ⟨w.heap.size, 6, none⟩ = some (Value.slice TA nT Tc) ∧ V.cell? ⟨w.heap.size, 7, none⟩ = some (Value.int .i64 sc) ∧ V.cell? ⟨w.heap.size, 8, none⟩ = some (Value.int .i64 sp) ∧ V.cell? ⟨w.heap.size, 9, none⟩ = some (Value.int .i64 sk) ∧ V.cell? ⟨w.heap.size, 10, none⟩ = some (Value.bool st) ∧ V.cell? ⟨w.heap.size, 11, none⟩ = some (Value.int .u32 (tg : Int))) :=
    Lib.hid (fun V hV => cb_new hW0 (b1.trans (hV.mono b1.size)))
  have KQ : Hid (∀ V, Below W1.heap.size W1 V → V.cell? ⟨w.heap.size + 1, 0, none⟩ = some (Value.int .u32 (B : Int)) ∧ V.cell? ⟨w.heap.size + 1, 1, none⟩ = some (Value.int .i64 M) ∧ V.cell? ⟨w.heap.size + 1, 2, none⟩ = some (Value.int .i64 tk) ∧ V.cell? ⟨w.heap.size + 1, 3, none⟩ = some (Value.int .i64 c) ∧ V.cell? ⟨w.heap.size + 1, 4, none⟩ = some (Value.int .u32 (tt : Int))) :=
    Lib.hid (fun V hV => by have := tb_new hW1 hV; rwa [s0] at this)
  clear b0 b1
  obtain ⟨k0, k1, k2, k3, k4, k5, k6, k7, k8, k9, k10, k11⟩ := KX.out _ (Below.refl _ _)
  obtain ⟨q0, q1, q2, q3, q4⟩ := KQ.out _ (Below.refl _ _)
  have cp1 := cp W1 HB.out
  clear cp hB
  cases PR
  · go_enter Try.func17, Try.ntmps17
    go_wp2_with fail
    refine cp1.mono ?_
    rintro e V1 ⟨rfl, hb1⟩
    go_wp2
    go_ret
    exact ⟨rfl, HB.out.trans (hb1.mono (by omega))⟩
  · go_enter Try.func17, Try.ntmps17
    go_wp2_with fail
    refine cp1.mono ?_
    rintro e V1 ⟨rfl, hb1⟩
    clear cp1 hW0 hW1 k0 k1 k2 k3 k4 k5 k6 k7 k8 k9 k10 k11 q0 q1 q2 q3 q4
    obtain ⟨k0, k1, k2, k3, k4, k5, k6, k7, k8, k9, k10, k11⟩ := KX.out _ hb1
    obtain ⟨q0, q1, q2, q3, q4⟩ := KQ.out _ hb1
    have HB1 := Lib.hid (HB.out.trans (hb1.mono (by omega)))
    have ct1 := ct V1 HB1.out
    clear ct hb1 KX KQ
    by_cases h1 : k = -1
    · have n1 : (k == -1) = true := by simpa using h1
      cases WN
      · go_wp2_with fail
        refine (cw _).mono ?_
        rintro e Wz ⟨rfl, hWz⟩
        rw [hWz]
        clear hWz Wz
        go_wp2
        go_ret
        exact ⟨ret_bool (by simp), HB1.out⟩
      · by_cases h0 : nT = 0
        · have n5 : ((nT : Int) == 0) = true := by simpa using h0
          have n6 : (nT == 0) = true := by simpa using h0
          go_wp2_with fail
          refine (cw _).mono ?_
          rintro e Wz ⟨rfl, hWz⟩
          rw [hWz]
          clear hWz Wz
          go_wp2
          go_ret
          exact ⟨ret_bool (by simp [h1, h0]), HB1.out⟩
        · have n5 : ((nT : Int) == 0) = false := by simpa using h0
          have n6 : (nT == 0) = false := by simpa using h0
          have n7 : decide (nT = 0) = false := by simpa using h0
          go_wp2_with fail
          refine (cw _).mono ?_
          rintro e Wz ⟨rfl, hWz⟩
          rw [hWz]
          clear hWz Wz
          go_wp2_with fail
          refine (ct1).mono ?_
          rintro e Wz ⟨rfl, hWz⟩
          rw [hWz]
          clear hWz Wz
          go_wp2
          go_ret
          exact ⟨ret_bool (by simp [h1, h0]), HB1.out⟩
    · have n1 : (k == -1) = false := by simpa using h1
      have n2 : decide (k = -1) = false := by simpa using h1
      by_cases h2 : k = tk
      · have n3 : (k == tk) = true := by simpa using h2
        have n4 : decide (k = tk) = true := by simpa using h2
        cases WN
        · go_wp2_with fail
          refine (cw _).mono ?_
          rintro e Wz ⟨rfl, hWz⟩
          rw [hWz]
          clear hWz Wz
          go_wp2
          go_ret
          exact ⟨ret_bool (by simp), HB1.out⟩
        · by_cases h0 : nT = 0
          · have n5 : ((nT : Int) == 0) = true := by simpa using h0
            have n6 : (nT == 0) = true := by simpa using h0
            go_wp2_with fail
            refine (cw _).mono ?_
            rintro e Wz ⟨rfl, hWz⟩
            rw [hWz]
            clear hWz Wz
            go_wp2
            go_ret
            exact ⟨ret_bool (by simp [h2, h0]), HB1.out⟩
          · have n5 : ((nT : Int) == 0) = false := by simpa using h0
            have n6 : (nT == 0) = false := by simpa using h0
            have n7 : decide (nT = 0) = false := by simpa using h0
            go_wp2_with fail
            refine (cw _).mono ?_
            rintro e Wz ⟨rfl, hWz⟩
            rw [hWz]
            clear hWz Wz
            go_wp2_with fail
            refine (ct1).mono ?_
            rintro e Wz ⟨rfl, hWz⟩
            rw [hWz]
            clear hWz Wz
            go_wp2
            go_ret
            exact ⟨ret_bool (by simp [h2, h0]), HB1.out⟩
      · have n3 : (k == tk) = false := by simpa using h2
        have n4 : decide (k = tk) = false := by simpa using h2
        go_wp2
        go_ret
        exact ⟨ret_bool (by simp [h1, h2]), HB1.out⟩
end Go.Proofs.Ytmcjpibahnlmbaa
