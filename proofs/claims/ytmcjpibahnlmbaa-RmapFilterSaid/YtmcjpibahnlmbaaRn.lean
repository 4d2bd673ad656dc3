/-
  The contract of the reference's Matches. No statement is proved here; no conditions.
-/
import Derived.Test.YtmcjpibahnlmbaaMt
namespace Go.Proofs.Ytmcjpibahnlmbaa
open Go.RowKit Go.Joins

set_option maxRecDepth 100000 in
set_option maxHeartbeats 1000000 in
theorem rmatches_any (x : Cl) (t : Rt) (w : World) (hx : Cx w x) (hB : t.A < 4294967296) : Calls Try.prog 18 #[cv x, tv t] w fun e w' => e = .returned (.bool (mtc x.c t)) ∧ Below w.heap.size w w' := by
  have cp := fun W (hW : Below w.heap.size w W) => qeval_any x.LA x.Lc x.c.L t.A t.N W (hx.L.step hW) (by have := hx.nL; omega) hx.wf hB
  have HT : Hid (∀ W, Below w.heap.size w W → Tr W x.TA x.c.T) := Lib.hid (fun W hW => hx.T.step hW)
  have hnT20 := hx.nT
  obtain ⟨⟨s, p, L, k, lo, hi, T, sc, sp, sk, st, tg⟩, LA, Lc, TA, Tc⟩ := x
  obtain ⟨B, M, tk, c, tt⟩ := t
  have cw := fun W => in_any c lo hi W
  have ho : mtc ⟨s, p, L, k, lo, hi, T, sc, sp, sk, st, tg⟩ ⟨B, M, tk, c, tt⟩ = ((decide (L.length = 0) || (evl L B M).1) && (decide (k = -1) || decide (k = tk)) && win c lo hi && (decide (T.length = 0) || T.contains tt)) := by
    unfold mtc tgs prm
    cases T <;> cases L <;> simp
  simp only [cv, tv] at cp HT hnT20 ⊢
  rw [ho]
  generalize win c lo hi = WN at *
  generalize evl L B M = E at *
  obtain ⟨CT, hCT⟩ : ∃ C, (decide (T.length = 0) || T.contains tt) = C := ⟨_, rfl⟩
  rw [hCT]
  have HCT := Lib.hid hCT
  obtain ⟨nL, hnL⟩ : ∃ n, L.length = n := ⟨_, rfl⟩
  obtain ⟨nT, hnT⟩ : ∃ n, T.length = n := ⟨_, rfl⟩
  rw [hnL, hnT]
  rw [hnL] at cp
  rw [hnT] at hnT20
  have HNT := Lib.hid hnT
  clear ho hx hnL hnT hCT
  obtain ⟨W0, hW0⟩ : ∃ W0, w.alloc (.cells #[Value.int .i64 s, Value.bool p, Value.slice LA nL Lc, Value.int .i64 k, Value.int .i64 lo, Value.int .i64 hi, Value.slice TA nT Tc, Value.int .i64 sc, Value.int .i64 sp, Value.int .i64 sk, Value.bool st, Value.int .u32 (tg : Int)] 41) = W0 := ⟨_, rfl⟩
  have s0 : W0.heap.size = w.heap.size + 1 := by rw [← hW0]; simp
  obtain ⟨W1, hW1⟩ : ∃ W1, W0.alloc (.cells #[Value.int .u32 (B : Int), Value.int .i64 M, Value.int .i64 tk, Value.int .i64 c, Value.int .u32 (tt : Int)] 44) = W1 := ⟨_, rfl⟩
  have s1 : W1.heap.size = w.heap.size + 2 := by rw [← hW1]; simp [s0]
  have b0 : Below w.heap.size w W0 := by rw [← hW0]; exact below_alloc1 _ _
  have b1 : Below W0.heap.size W0 W1 := by rw [← hW1]; exact below_alloc1 _ _
  have HB : Hid (Below w.heap.size w W1) := Lib.hid (b0.trans (b1.mono (by omega)))
  have KX : Hid (∀ V, Below W1.heap.size W1 V → V.cell? ⟨w.heap.size, 0, none⟩ = some (Value.int .i64 s) ∧ V.cell? ⟨w.heap.size, 1, none⟩ = some (Value.bool p) ∧ V.cell? ⟨w.heap.size, 2, none⟩ = some (Value.slice LA nL Lc) ∧ V.cell? ⟨w.heap.size, 3, none⟩ = some (Value.int .i64 k) ∧ V.cell? ⟨w.heap.size, 4, none⟩ = some (Value.int .i64 lo) ∧ V.cell? ⟨w.heap.size, 5, none⟩ = some (Value.int .i64 hi) ∧ V.cell? ⟨w.heap.size, 6, none⟩ = some (Value.slice TA nT Tc) ∧ V.cell? ⟨w.heap.size, 7, none⟩ = some (Value.int .i64 sc) ∧ V.cell? ⟨w.heap.size, 8, none⟩ = some (Value.int .i64 sp) ∧ V.cell? ⟨w.heap.size, 9, none⟩ = some (Value.int .i64 sk) ∧ V.cell? ⟨w.heap.size, 10, none⟩ = some (Value.bool st) ∧ V.cell? ⟨w.heap.size, 11, none⟩ = some (Value.int .u32 (tg : Int))) :=
    Lib.hid (fun V hV => cb_new hW0 (b1.trans (hV.mono b1.size)))
  have KQ : Hid (∀ V, Below W1.heap.size W1 V → V.cell? ⟨w.heap.size + 1, 0, none⟩ = some (Value.int .u32 (B : Int)) ∧ V.cell? ⟨w.heap.size + 1, 1, none⟩ = some (Value.int .i64 M) ∧ V.cell? ⟨w.heap.size + 1, 2, none⟩ = some (Value.int .i64 tk) ∧ V.cell? ⟨w.heap.size + 1, 3, none⟩ = some (Value.int .i64 c) ∧ V.cell? ⟨w.heap.size + 1, 4, none⟩ = some (Value.int .u32 (tt : Int))) :=
    Lib.hid (fun V hV => by have := tb_new hW1 hV; rwa [s0] at this)
  clear b0 b1
  obtain ⟨k0, k1, k2, k3, k4, k5, k6, k7, k8, k9, k10, k11⟩ := KX.out _ (Below.refl _ _)
  obtain ⟨q0, q1, q2, q3, q4⟩ := KQ.out _ (Below.refl _ _)
  have cp1 := cp W1 HB.out
  clear cp hB
  go_enter Try.func18, Try.ntmps18
  go_upto_region 1 with fail
  clear hW0 hW1
  by_cases g0 : nL = 0
  · have g1 : ¬ ((nL : Int) > 0) := by omega
    have HV : Hid (Below W1.heap.size W1 W1) := Lib.hid (Below.refl _ _)
    by_cases h1 : k = -1
    · have m1 : (k != -1) = false := by simpa using h1
      have m1' : (k == -1) = true := by simpa using h1
      cases WN
      · go_wp2_with fail
        refine (cw _).mono ?_
        rintro e Wz ⟨rfl, hWz⟩
        rw [hWz]
        clear hWz Wz
        go_wp2
        go_ret
        exact ⟨ret_bool (by simp), HB.out.trans (HV.out.mono (by omega))⟩
      · go_wp2_with fail
        refine (cw _).mono ?_
        rintro e Wz ⟨rfl, hWz⟩
        rw [hWz]
        clear hWz Wz
        go_wp2_with fail
        have T0 : Hid (((nT : Int) == 0) = (decide (nT = 0) || (T.take 0).contains tt)) := Lib.hid (by rw [Bool.eq_iff_iff]; simp)
        go_loopg [7, 8] nT (fun gf v7 v8 wx => ∃ (j : Nat), v7 = .bool (decide (nT = 0) || (T.take j).contains tt) ∧ v8 = .int .i64 (j : Int) ∧ Hid (gf + j = nT) ∧ Hid (Below W1.heap.size W1 wx))
        case atStart => exact ⟨0, congrArg Value.bool T0.out, rfl, Lib.hid (by omega), HV⟩
        case round =>
          obtain ⟨j, rfl, rfl, hj, hb⟩ := hrel
          have hj' := hj.out
          clear k0 k1 k2 k3 k4 k5 k6 k7 k8 k9 k10 k11 q0 q1 q2 q3 q4
          obtain ⟨k0, k1, k2, k3, k4, k5, k6, k7, k8, k9, k10, k11⟩ := KX.out _ hb.out
          obtain ⟨q0, q1, q2, q3, q4⟩ := KQ.out _ hb.out
          cases gk with
          | zero =>
            have e1 : j = nT := by omega
            have lt0 : decide ((j : Int) < (nT : Int)) = false := by simp; omega
            have lt1 : decide (j < nT) = false := by simp; omega
            have EC : Hid (CT = (decide (nT = 0) || (T.take j).contains tt)) := Lib.hid (by rw [← HCT.out, HNT.out, e1, ← HNT.out, List.take_length])
            clear e1
            go_wp2
            go_ret
            exact ⟨ret_bool (by rw [EC.out]; simp [g0, h1]), HB.out.trans (hb.out.mono (by omega))⟩
          | succ gf =>
            have lt0 : (j : Int) < (nT : Int) := by omega
            have hw1 : (j : Int) + 1 ≤ 10000 := by omega
            have z0 : decide (nT = 0) = false := by simp; omega
            have hjl : j < T.length := by rw [HNT.out]; omega
            obtain ⟨b, off, hA, _, e0⟩ := (HT.out _ (HB.out.trans (hb.out.mono (by omega)))).at hjl
            have hst : (T.take (j + 1)).contains tt = ((T.take j).contains tt || (tt == T[j])) := by rw [Bool.eq_iff_iff, Bool.or_eq_true, List.contains_iff_mem, List.contains_iff_mem, List.take_succ_eq_append_getElem hjl, List.mem_append, List.mem_singleton, beq_iff_eq]
            obtain ⟨y, hy⟩ : ∃ y, T[j] = y := ⟨_, rfl⟩
            rw [hy] at e0 hst
            subst hA
            clear hy hjl
            have HST := Lib.hid hst
            clear hst
            rw [z0, Bool.false_or]
            cases hc : (T.take j).contains tt with
            | true =>
              have HN : Hid (true = (decide (nT = 0) || (T.take (j + 1)).contains tt)) := Lib.hid (by rw [HST.out, hc]; simp)
              clear hc HST
              go_wp2_with fail
              go_quiet (fail)
              go_wp2
              go_roundg gf
              case measure => omega
              case rel => exact ⟨j + 1, congrArg Value.bool HN.out, by go_num, Lib.hid (by omega), Lib.hid (hb.out.trans (below_draws _ _ _))⟩
            | false =>
              by_cases hq : y = tt
              · have n1 : ((y : Int) == (tt : Int)) = true := by simp; omega
                have n2 : (y == tt) = true := by simpa using hq
                have HN : Hid (true = (decide (nT = 0) || (T.take (j + 1)).contains tt)) := Lib.hid (by rw [HST.out, hc, hq]; simp)
                clear hc HST hq
                go_wp2_with fail
                go_quiet (fail)
                go_wp2
                go_roundg gf
                case measure => omega
                case rel => exact ⟨j + 1, congrArg Value.bool HN.out, by go_num, Lib.hid (by omega), Lib.hid (hb.out.trans (below_draws _ _ _))⟩
              · have n1 : ((y : Int) == (tt : Int)) = false := by simp; omega
                have n2 : (y == tt) = false := by simpa using hq
                have HN : Hid (false = (decide (nT = 0) || (T.take (j + 1)).contains tt)) := Lib.hid (by rw [HST.out, hc, z0]; simp; omega)
                clear hc HST hq
                go_wp2_with fail
                go_quiet (fail)
                go_wp2
                go_roundg gf
                case measure => omega
                case rel => exact ⟨j + 1, congrArg Value.bool HN.out, by go_num, Lib.hid (by omega), Lib.hid (hb.out.trans (below_draws _ _ _))⟩
    · have m1 : (k != -1) = true := by simpa using h1
      have m1' : (k == -1) = false := by simpa using h1
      by_cases h2 : k = tk
      · have m2 : (k != tk) = false := by simpa using h2
        have m2' : (k == tk) = true := by simpa using h2
        cases WN
        · go_wp2_with fail
          refine (cw _).mono ?_
          rintro e Wz ⟨rfl, hWz⟩
          rw [hWz]
          clear hWz Wz
          go_wp2
          go_ret
          exact ⟨ret_bool (by simp), HB.out.trans (HV.out.mono (by omega))⟩
        · go_wp2_with fail
          refine (cw _).mono ?_
          rintro e Wz ⟨rfl, hWz⟩
          rw [hWz]
          clear hWz Wz
          go_wp2_with fail
          have T0 : Hid (((nT : Int) == 0) = (decide (nT = 0) || (T.take 0).contains tt)) := Lib.hid (by rw [Bool.eq_iff_iff]; simp)
          go_loopg [7, 8] nT (fun gf v7 v8 wx => ∃ (j : Nat), v7 = .bool (decide (nT = 0) || (T.take j).contains tt) ∧ v8 = .int .i64 (j : Int) ∧ Hid (gf + j = nT) ∧ Hid (Below W1.heap.size W1 wx))
          case atStart => exact ⟨0, congrArg Value.bool T0.out, rfl, Lib.hid (by omega), HV⟩
          case round =>
            obtain ⟨j, rfl, rfl, hj, hb⟩ := hrel
            have hj' := hj.out
            clear k0 k1 k2 k3 k4 k5 k6 k7 k8 k9 k10 k11 q0 q1 q2 q3 q4
            obtain ⟨k0, k1, k2, k3, k4, k5, k6, k7, k8, k9, k10, k11⟩ := KX.out _ hb.out
            obtain ⟨q0, q1, q2, q3, q4⟩ := KQ.out _ hb.out
            cases gk with
            | zero =>
              have e1 : j = nT := by omega
              have lt0 : decide ((j : Int) < (nT : Int)) = false := by simp; omega
              have lt1 : decide (j < nT) = false := by simp; omega
              have EC : Hid (CT = (decide (nT = 0) || (T.take j).contains tt)) := Lib.hid (by rw [← HCT.out, HNT.out, e1, ← HNT.out, List.take_length])
              clear e1
              go_wp2
              go_ret
              exact ⟨ret_bool (by rw [EC.out]; simp [g0, h2]), HB.out.trans (hb.out.mono (by omega))⟩
            | succ gf =>
              have lt0 : (j : Int) < (nT : Int) := by omega
              have hw1 : (j : Int) + 1 ≤ 10000 := by omega
              have z0 : decide (nT = 0) = false := by simp; omega
              have hjl : j < T.length := by rw [HNT.out]; omega
              obtain ⟨b, off, hA, _, e0⟩ := (HT.out _ (HB.out.trans (hb.out.mono (by omega)))).at hjl
              have hst : (T.take (j + 1)).contains tt = ((T.take j).contains tt || (tt == T[j])) := by rw [Bool.eq_iff_iff, Bool.or_eq_true, List.contains_iff_mem, List.contains_iff_mem, List.take_succ_eq_append_getElem hjl, List.mem_append, List.mem_singleton, beq_iff_eq]
              obtain ⟨y, hy⟩ : ∃ y, T[j] = y := ⟨_, rfl⟩
              rw [hy] at e0 hst
              subst hA
              clear hy hjl
              have HST := Lib.hid hst
              clear hst
              rw [z0, Bool.false_or]
              cases hc : (T.take j).contains tt with
              | true =>
                have HN : Hid (true = (decide (nT = 0) || (T.take (j + 1)).contains tt)) := Lib.hid (by rw [HST.out, hc]; simp)
                clear hc HST
                go_wp2_with fail
                go_quiet (fail)
                go_wp2
                go_roundg gf
                case measure => omega
                case rel => exact ⟨j + 1, congrArg Value.bool HN.out, by go_num, Lib.hid (by omega), Lib.hid (hb.out.trans (below_draws _ _ _))⟩
              | false =>
                by_cases hq : y = tt
                · have n1 : ((y : Int) == (tt : Int)) = true := by simp; omega
                  have n2 : (y == tt) = true := by simpa using hq
                  have HN : Hid (true = (decide (nT = 0) || (T.take (j + 1)).contains tt)) := Lib.hid (by rw [HST.out, hc, hq]; simp)
                  clear hc HST hq
                  go_wp2_with fail
                  go_quiet (fail)
                  go_wp2
                  go_roundg gf
                  case measure => omega
                  case rel => exact ⟨j + 1, congrArg Value.bool HN.out, by go_num, Lib.hid (by omega), Lib.hid (hb.out.trans (below_draws _ _ _))⟩
                · have n1 : ((y : Int) == (tt : Int)) = false := by simp; omega
                  have n2 : (y == tt) = false := by simpa using hq
                  have HN : Hid (false = (decide (nT = 0) || (T.take (j + 1)).contains tt)) := Lib.hid (by rw [HST.out, hc, z0]; simp; omega)
                  clear hc HST hq
                  go_wp2_with fail
                  go_quiet (fail)
                  go_wp2
                  go_roundg gf
                  case measure => omega
                  case rel => exact ⟨j + 1, congrArg Value.bool HN.out, by go_num, Lib.hid (by omega), Lib.hid (hb.out.trans (below_draws _ _ _))⟩
      · have m2 : (k != tk) = true := by simpa using h2
        have m2' : (k == tk) = false := by simpa using h2
        go_wp2
        go_ret
        exact ⟨ret_bool (by simp), HB.out.trans (HV.out.mono (by omega))⟩
  · have g1 : ((nL : Int) > 0) := by omega
    obtain ⟨E1, E2⟩ := E
    simp only at cp1 ⊢
    cases E1
    · go_wp2_with fail
      refine cp1.mono ?_
      rintro e V1 ⟨rfl, hb1⟩
      go_wp2
      go_ret
      exact ⟨ret_bool (by simp), HB.out.trans (hb1.mono (by omega))⟩
    · go_wp2_with fail
      refine cp1.mono ?_
      rintro e V1 ⟨rfl, hb1⟩
      have HV := Lib.hid hb1
      clear cp1 k0 k1 k2 k3 k4 k5 k6 k7 k8 k9 k10 k11 q0 q1 q2 q3 q4
      obtain ⟨k0, k1, k2, k3, k4, k5, k6, k7, k8, k9, k10, k11⟩ := KX.out _ hb1
      obtain ⟨q0, q1, q2, q3, q4⟩ := KQ.out _ hb1
      clear hb1
      by_cases h1 : k = -1
      · have m1 : (k != -1) = false := by simpa using h1
        have m1' : (k == -1) = true := by simpa using h1
        cases WN
        · go_wp2_with fail
          refine (cw _).mono ?_
          rintro e Wz ⟨rfl, hWz⟩
          rw [hWz]
          clear hWz Wz
          go_wp2
          go_ret
          exact ⟨ret_bool (by simp), HB.out.trans (HV.out.mono (by omega))⟩
        · go_wp2_with fail
          refine (cw _).mono ?_
          rintro e Wz ⟨rfl, hWz⟩
          rw [hWz]
          clear hWz Wz
          go_wp2_with fail
          have T0 : Hid (((nT : Int) == 0) = (decide (nT = 0) || (T.take 0).contains tt)) := Lib.hid (by rw [Bool.eq_iff_iff]; simp)
          go_loopg [7, 8] nT (fun gf v7 v8 wx => ∃ (j : Nat), v7 = .bool (decide (nT = 0) || (T.take j).contains tt) ∧ v8 = .int .i64 (j : Int) ∧ Hid (gf + j = nT) ∧ Hid (Below W1.heap.size W1 wx))
          case atStart => exact ⟨0, congrArg Value.bool T0.out, rfl, Lib.hid (by omega), HV⟩
          case round =>
            obtain ⟨j, rfl, rfl, hj, hb⟩ := hrel
            have hj' := hj.out
            clear k0 k1 k2 k3 k4 k5 k6 k7 k8 k9 k10 k11 q0 q1 q2 q3 q4
            obtain ⟨k0, k1, k2, k3, k4, k5, k6, k7, k8, k9, k10, k11⟩ := KX.out _ hb.out
            obtain ⟨q0, q1, q2, q3, q4⟩ := KQ.out _ hb.out
            cases gk with
            | zero =>
              have e1 : j = nT := by omega
              have lt0 : decide ((j : Int) < (nT : Int)) = false := by simp; omega
              have lt1 : decide (j < nT) = false := by simp; omega
              have EC : Hid (CT = (decide (nT = 0) || (T.take j).contains tt)) := Lib.hid (by rw [← HCT.out, HNT.out, e1, ← HNT.out, List.take_length])
              clear e1
              go_wp2
              go_ret
              exact ⟨ret_bool (by rw [EC.out]; simp), HB.out.trans (hb.out.mono (by omega))⟩
            | succ gf =>
              have lt0 : (j : Int) < (nT : Int) := by omega
              have hw1 : (j : Int) + 1 ≤ 10000 := by omega
              have z0 : decide (nT = 0) = false := by simp; omega
              have hjl : j < T.length := by rw [HNT.out]; omega
              obtain ⟨b, off, hA, _, e0⟩ := (HT.out _ (HB.out.trans (hb.out.mono (by omega)))).at hjl
              have hst : (T.take (j + 1)).contains tt = ((T.take j).contains tt || (tt == T[j])) := by rw [Bool.eq_iff_iff, Bool.or_eq_true, List.contains_iff_mem, List.contains_iff_mem, List.take_succ_eq_append_getElem hjl, List.mem_append, List.mem_singleton, beq_iff_eq]
              obtain ⟨y, hy⟩ : ∃ y, T[j] = y := ⟨_, rfl⟩
              rw [hy] at e0 hst
              subst hA
              clear hy hjl
              have HST := Lib.hid hst
              clear hst
              rw [z0, Bool.false_or]
              cases hc : (T.take j).contains tt with
              | true =>
                have HN : Hid (true = (decide (nT = 0) || (T.take (j + 1)).contains tt)) := Lib.hid (by rw [HST.out, hc]; simp)
                clear hc HST
                go_wp2_with fail
                go_quiet (fail)
                go_wp2
                go_roundg gf
                case measure => omega
                case rel => exact ⟨j + 1, congrArg Value.bool HN.out, by go_num, Lib.hid (by omega), Lib.hid (hb.out.trans (below_draws _ _ _))⟩
              | false =>
                by_cases hq : y = tt
                · have n1 : ((y : Int) == (tt : Int)) = true := by simp; omega
                  have n2 : (y == tt) = true := by simpa using hq
                  have HN : Hid (true = (decide (nT = 0) || (T.take (j + 1)).contains tt)) := Lib.hid (by rw [HST.out, hc, hq]; simp)
                  clear hc HST hq
                  go_wp2_with fail
                  go_quiet (fail)
                  go_wp2
                  go_roundg gf
                  case measure => omega
                  case rel => exact ⟨j + 1, congrArg Value.bool HN.out, by go_num, Lib.hid (by omega), Lib.hid (hb.out.trans (below_draws _ _ _))⟩
                · have n1 : ((y : Int) == (tt : Int)) = false := by simp; omega
                  have n2 : (y == tt) = false := by simpa using hq
                  have HN : Hid (false = (decide (nT = 0) || (T.take (j + 1)).contains tt)) := Lib.hid (by rw [HST.out, hc, z0]; simp; omega)
                  clear hc HST hq
                  go_wp2_with fail
                  go_quiet (fail)
                  go_wp2
                  go_roundg gf
                  case measure => omega
                  case rel => exact ⟨j + 1, congrArg Value.bool HN.out, by go_num, Lib.hid (by omega), Lib.hid (hb.out.trans (below_draws _ _ _))⟩
      · have m1 : (k != -1) = true := by simpa using h1
        have m1' : (k == -1) = false := by simpa using h1
        by_cases h2 : k = tk
        · have m2 : (k != tk) = false := by simpa using h2
          have m2' : (k == tk) = true := by simpa using h2
          cases WN
          · go_wp2_with fail
            refine (cw _).mono ?_
            rintro e Wz ⟨rfl, hWz⟩
            rw [hWz]
            clear hWz Wz
            go_wp2
            go_ret
            exact ⟨ret_bool (by simp), HB.out.trans (HV.out.mono (by omega))⟩
          · go_wp2_with fail
            refine (cw _).mono ?_
            rintro e Wz ⟨rfl, hWz⟩
            rw [hWz]
            clear hWz Wz
            go_wp2_with fail
            have T0 : Hid (((nT : Int) == 0) = (decide (nT = 0) || (T.take 0).contains tt)) := Lib.hid (by rw [Bool.eq_iff_iff]; simp)
            go_loopg [7, 8] nT (fun gf v7 v8 wx => ∃ (j : Nat), v7 = .bool (decide (nT = 0) || (T.take j).contains tt) ∧ v8 = .int .i64 (j : Int) ∧ Hid (gf + j = nT) ∧ Hid (Below W1.heap.size W1 wx))
            case atStart => exact ⟨0, congrArg Value.bool T0.out, rfl, Lib.hid (by omega), HV⟩
            case round =>
              obtain ⟨j, rfl, rfl, hj, hb⟩ := hrel
              have hj' := hj.out
              clear k0 k1 k2 k3 k4 k5 k6 k7 k8 k9 k10 k11 q0 q1 q2 q3 q4
              obtain ⟨k0, k1, k2, k3, k4, k5, k6, k7, k8, k9, k10, k11⟩ := KX.out _ hb.out
              obtain ⟨q0, q1, q2, q3, q4⟩ := KQ.out _ hb.out
              cases gk with
              | zero =>
                have e1 : j = nT := by omega
                have lt0 : decide ((j : Int) < (nT : Int)) = false := by simp; omega
                have lt1 : decide (j < nT) = false := by simp; omega
                have EC : Hid (CT = (decide (nT = 0) || (T.take j).contains tt)) := Lib.hid (by rw [← HCT.out, HNT.out, e1, ← HNT.out, List.take_length])
                clear e1
                go_wp2
                go_ret
                exact ⟨ret_bool (by rw [EC.out]; simp), HB.out.trans (hb.out.mono (by omega))⟩
              | succ gf =>
                have lt0 : (j : Int) < (nT : Int) := by omega
                have hw1 : (j : Int) + 1 ≤ 10000 := by omega
                have z0 : decide (nT = 0) = false := by simp; omega
                have hjl : j < T.length := by rw [HNT.out]; omega
                obtain ⟨b, off, hA, _, e0⟩ := (HT.out _ (HB.out.trans (hb.out.mono (by omega)))).at hjl
                have hst : (T.take (j + 1)).contains tt = ((T.take j).contains tt || (tt == T[j])) := by rw [Bool.eq_iff_iff, Bool.or_eq_true, List.contains_iff_mem, List.contains_iff_mem, List.take_succ_eq_append_getElem hjl, List.mem_append, List.mem_singleton, beq_iff_eq]
                obtain ⟨y, hy⟩ : ∃ y, T[j] = y := ⟨_, rfl⟩
                rw [hy] at e0 hst
                subst hA
                clear hy hjl
                have HST := Lib.hid hst
                clear hst
                rw [z0, Bool.false_or]
                cases hc : (T.take j).contains tt with
                | true =>
                  have HN : Hid (true = (decide (nT = 0) || (T.take (j + 1)).contains tt)) := Lib.hid (by rw [HST.out, hc]; simp)
                  clear hc HST
                  go_wp2_with fail
                  go_quiet (fail)
                  go_wp2
                  go_roundg gf
                  case measure => omega
                  case rel => exact ⟨j + 1, congrArg Value.bool HN.out, by go_num, Lib.hid (by omega), Lib.hid (hb.out.trans (below_draws _ _ _))⟩
                | false =>
                  by_cases hq : y = tt
                  · have n1 : ((y : Int) == (tt : Int)) = true := by simp; omega
                    have n2 : (y == tt) = true := by simpa using hq
                    have HN : Hid (true = (decide (nT = 0) || (T.take (j + 1)).contains tt)) := Lib.hid (by rw [HST.out, hc, hq]; simp)
                    clear hc HST hq
                    go_wp2_with fail
                    go_quiet (fail)
                    go_wp2
                    go_roundg gf
                    case measure => omega
                    case rel => exact ⟨j + 1, congrArg Value.bool HN.out, by go_num, Lib.hid (by omega), Lib.hid (hb.out.trans (below_draws _ _ _))⟩
                  · have n1 : ((y : Int) == (tt : Int)) = false := by simp; omega
                    have n2 : (y == tt) = false := by simpa using hq
                    have HN : Hid (false = (decide (nT = 0) || (T.take (j + 1)).contains tt)) := Lib.hid (by rw [HST.out, hc, z0]; simp; omega)
                    clear hc HST hq
                    go_wp2_with fail
                    go_quiet (fail)
                    go_wp2
                    go_roundg gf
                    case measure => omega
                    case rel => exact ⟨j + 1, congrArg Value.bool HN.out, by go_num, Lib.hid (by omega), Lib.hid (hb.out.trans (below_draws _ _ _))⟩
        · have m2 : (k != tk) = true := by simpa using h2
          have m2' : (k == tk) = false := by simpa using h2
          go_wp2
          go_ret
          exact ⟨ret_bool (by simp), HB.out.trans (HV.out.mono (by omega))⟩
end Go.Proofs.Ytmcjpibahnlmbaa
