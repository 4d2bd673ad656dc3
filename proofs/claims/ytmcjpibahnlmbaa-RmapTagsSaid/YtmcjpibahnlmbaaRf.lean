/-
  Contracts of the reference's May, MayRoute and Matches at clauses and routes. No statement is proved here; no conditions.
-/
import Derived.Test.YtmcjpibahnlmbaaMt
namespace Go.Proofs.Ytmcjpibahnlmbaa
open Go.RowKit Go.Joins

theorem mayRoute_any (t : Rt) (w : World) : Calls Try.prog 15 #[tv t] w fun e w' => e = .returned (.bool (okt t)) ∧ Below w.heap.size w w' := by
  obtain ⟨B, M, tk, c, tt⟩ := t
  have c1 := fun W => in_any tk 0 9 W
  have c2 := fun W => in_any c 0 16777215 W
  have ho : okt ⟨B, M, tk, c, tt⟩ = (win tk 0 9 && win c 0 16777215) := rfl
  rw [ho]
  generalize win tk 0 9 = B1 at *
  generalize win c 0 16777215 = B2 at *
  clear ho
  obtain ⟨W0, hW0⟩ : ∃ W0, w.alloc (.cells #[Value.int .u32 (B : Int), Value.int .i64 M, Value.int .i64 tk, Value.int .i64 c, Value.int .u32 (tt : Int)] 44) = W0 := ⟨_, rfl⟩
  have b0 : Below w.heap.size w W0 := by rw [← hW0]; exact below_alloc1 _ _
  obtain ⟨q0, q1, q2, q3, q4⟩ := tb_new hW0 (Below.refl _ _)
  go_enter Try.func15, Try.ntmps15
  cases B1
  · go_wp2_with fail
    refine (c1 _).mono ?_
    rintro e Wz ⟨rfl, hWz⟩
    rw [hWz]
    clear hWz Wz
    go_wp2
    go_ret
    exact ⟨rfl, b0⟩
  · go_wp2_with fail
    refine (c1 _).mono ?_
    rintro e Wz ⟨rfl, hWz⟩
    rw [hWz]
    clear hWz Wz
    go_wp2_with fail
    refine (c2 _).mono ?_
    rintro e Wz ⟨rfl, hWz⟩
    rw [hWz]
    clear hWz Wz
    go_wp2
    go_ret
    exact ⟨rfl, b0⟩
set_option maxRecDepth 100000 in
set_option maxHeartbeats 1000000 in
theorem rmay8_any (x : Cl) (w : World) (hx : Cx w x) : Calls Try.prog 13 #[cv x] w fun e w' => e = .returned (.bool (okc x.c)) ∧ Below w.heap.size w w' := by
  have cl := fun W (hW : Below w.heap.size w W) => mayall_any x.LA x.Lc x.c.L W (hx.L.step hW) (by have := hx.nL; omega) hx.wf
  obtain ⟨⟨s, p, L, k, lo, hi, T, sc, sp, sk, st, tg⟩, LA, Lc, TA, Tc⟩ := x
  have ho : okc ⟨s, p, L, k, lo, hi, T, sc, sp, sk, st, tg⟩ = (win s 1 65535 && (win k (-1) 9 && win lo 0 hi && decide (hi ≤ 16777215)) && (win sc (-1) 16777215 && win sp 0 16777215 && win sk (-1) 9) && mayl none L) := rfl
  simp only [cv] at cl ⊢
  rw [ho]
  have c1 := fun W => in_any k (-1) 9 W
  have c2 := fun W => in_any lo 0 hi W
  have c3 := fun W => in_any sc (-1) 16777215 W
  have c4 := fun W => in_any sp 0 16777215 W
  have c5 := fun W => in_any sk (-1) 9 W
  have c6 := fun W => in_any s 1 65535 W
  generalize win k (-1) 9 = B1 at *
  generalize win lo 0 hi = B2 at *
  generalize win sc (-1) 16777215 = B3 at *
  generalize win sp 0 16777215 = B4 at *
  generalize win sk (-1) 9 = B5 at *
  generalize win s 1 65535 = B6 at *
  generalize mayl none L = ML at *
  obtain ⟨nL, hnL⟩ : ∃ n, L.length = n := ⟨_, rfl⟩
  obtain ⟨nT, hnT⟩ : ∃ n, T.length = n := ⟨_, rfl⟩
  rw [hnL, hnT]
  rw [hnL] at cl
  clear ho hx hnL hnT
  obtain ⟨W0, hW0⟩ : ∃ W0, w.alloc (.cells #[Value.int .i64 s, Value.bool p, Value.slice LA nL Lc, Value.int .i64 k, Value.int .i64 lo, Value.int .i64 hi, Value.slice TA nT Tc, Value.int .i64 sc, Value.int .i64 sp, Value.int .i64 sk, Value.bool st, Value.int .u32 (tg : Int)] 41) = W0 := ⟨_, rfl⟩
  have b0 : Below w.heap.size w W0 := by rw [← hW0]; exact below_alloc1 _ _
  have HB0 := Lib.hid b0
  have cl0 := cl W0 b0
  have KX : Hid (∀ V, Below W0.heap.size W0 V → V.cell? ⟨w.heap.size, 0, none⟩ = some (Value.int .i64 s) ∧ V.cell? ⟨w.heap.size, 1, none⟩ = some (Value.bool p) ∧ V.cell? ⟨w.heap.size, 2, none⟩ = some (Value.slice LA nL Lc) ∧ V.cell? ⟨w.heap.size, 3, none⟩ = some (Value.int .i64 k) ∧ V.cell? ⟨w.heap.size, 4, none⟩ = some (Value.int .i64 lo) ∧ V.cell? ⟨w.heap.size, 5, none⟩ = some (Value.int .i64 hi) ∧ V.cell? ⟨w.heap.size, 6, none⟩ = some (Value.slice TA nT Tc) ∧ V.cell? ⟨w.heap.size, 7, none⟩ = some (Value.int .i64 sc) ∧ V.cell? ⟨w.heap.size, 8, none⟩ = some (Value.int .i64 sp) ∧ V.cell? ⟨w.heap.size, 9, none⟩ = some (Value.int .i64 sk) ∧ V.cell? ⟨w.heap.size, 10, none⟩ = some (Value.bool st) ∧ V.cell? ⟨w.heap.size, 11, none⟩ = some (Value.int .u32 (tg : Int))) := Lib.hid (fun V hV => cb_new hW0 hV)
  clear cl b0
  obtain ⟨k0, k1, k2, k3, k4, k5, k6, k7, k8, k9, k10, k11⟩ := KX.out _ (Below.refl _ _)
  go_enter Try.func13, Try.ntmps13
  cases B6
  · go_wp2_with fail
    refine (c6 _).mono ?_
    rintro e Wz ⟨rfl, hWz⟩
    rw [hWz]
    clear hWz Wz
    go_wp2
    go_ret
    exact ⟨ret_bool (by simp), HB0.out⟩
  · go_wp2_with fail
    refine (c6 _).mono ?_
    rintro e Wz ⟨rfl, hWz⟩
    rw [hWz]
    clear hWz Wz
    cases ML
    · go_wp2_with fail
      refine cl0.mono ?_
      rintro e V1 ⟨rfl, hb1⟩
      have HB1 := Lib.hid (HB0.out.trans (hb1.mono HB0.out.size))
      clear cl0 k0 k1 k2 k3 k4 k5 k6 k7 k8 k9 k10 k11
      obtain ⟨k0, k1, k2, k3, k4, k5, k6, k7, k8, k9, k10, k11⟩ := KX.out _ hb1
      clear hb1
      go_wp2
      go_ret
      exact ⟨ret_bool (by simp), HB1.out⟩
    · go_wp2_with fail
      refine cl0.mono ?_
      rintro e V1 ⟨rfl, hb1⟩
      have HB1 := Lib.hid (HB0.out.trans (hb1.mono HB0.out.size))
      clear cl0 k0 k1 k2 k3 k4 k5 k6 k7 k8 k9 k10 k11
      obtain ⟨k0, k1, k2, k3, k4, k5, k6, k7, k8, k9, k10, k11⟩ := KX.out _ hb1
      clear hb1
      cases B1
      · go_wp2_with fail
        refine (c1 _).mono ?_
        rintro e Wz ⟨rfl, hWz⟩
        rw [hWz]
        clear hWz Wz
        go_wp2
        go_ret
        exact ⟨ret_bool (by simp), HB1.out⟩
      · go_wp2_with fail
        refine (c1 _).mono ?_
        rintro e Wz ⟨rfl, hWz⟩
        rw [hWz]
        clear hWz Wz
        cases B2
        · go_wp2_with fail
          refine (c2 _).mono ?_
          rintro e Wz ⟨rfl, hWz⟩
          rw [hWz]
          clear hWz Wz
          go_wp2
          go_ret
          exact ⟨ret_bool (by simp), HB1.out⟩
        · go_wp2_with fail
          refine (c2 _).mono ?_
          rintro e Wz ⟨rfl, hWz⟩
          rw [hWz]
          clear hWz Wz
          by_cases hH : hi ≤ 16777215
          · have nH : decide (hi ≤ 16777215) = true := by simpa using hH
            cases B3
            · go_wp2_with fail
              refine (c3 _).mono ?_
              rintro e Wz ⟨rfl, hWz⟩
              rw [hWz]
              clear hWz Wz
              go_wp2
              go_ret
              exact ⟨ret_bool (by simp [hH]), HB1.out⟩
            · go_wp2_with fail
              refine (c3 _).mono ?_
              rintro e Wz ⟨rfl, hWz⟩
              rw [hWz]
              clear hWz Wz
              cases B4
              · go_wp2_with fail
                refine (c4 _).mono ?_
                rintro e Wz ⟨rfl, hWz⟩
                rw [hWz]
                clear hWz Wz
                go_wp2
                go_ret
                exact ⟨ret_bool (by simp [hH]), HB1.out⟩
              · go_wp2_with fail
                refine (c4 _).mono ?_
                rintro e Wz ⟨rfl, hWz⟩
                rw [hWz]
                clear hWz Wz
                go_wp2_with fail
                refine (c5 _).mono ?_
                rintro e Wz ⟨rfl, hWz⟩
                rw [hWz]
                clear hWz Wz
                go_wp2
                go_ret
                exact ⟨ret_bool (by simp [hH]), HB1.out⟩
          · have nH : decide (hi ≤ 16777215) = false := by simpa using hH
            go_wp2
            go_ret
            exact ⟨ret_bool (by simp [nH]), HB1.out⟩
end Go.Proofs.Ytmcjpibahnlmbaa
