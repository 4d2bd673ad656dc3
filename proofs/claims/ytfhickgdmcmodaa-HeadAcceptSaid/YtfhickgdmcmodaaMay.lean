/-
  Contracts of head's May and layout. No statement is proved here; no conditions.
-/
import Derived.Test.YtfhickgdmcmodaaCk
namespace Go.Proofs.Ytfhickgdmcmodaa
open Go.RowKit Go.Joins

set_option maxRecDepth 100000 in
theorem may_any (p : Pk) (A : Option Addr) (c : Nat) (w : World) :
    Calls Try.prog 11 #[pv' p A c] w fun e w' => e = .returned (.bool (mayp p)) ∧ Below w.heap.size w w' := by
  obtain ⟨n, hn⟩ : ∃ n, p.b.length = n := ⟨_, rfl⟩
  have HM : Hid (mayp p = (mayT p.t && (decide (0 ≤ p.u) && decide (p.u ≤ 1)) && decide (n ≤ 1476))) := Lib.hid (by rw [← hn]; rfl)
  unfold pv'
  rw [hn]
  clear hn
  obtain ⟨W0, hW0⟩ : ∃ W0, w.alloc (.cells #[.int .i64 p.t, .int .u32 p.r, .int .u32 p.a, .int .i64 p.u, .int .u8 p.h0, .int .u8 p.h1, .int .u8 p.h2, .int .u8 p.h3, .int .u8 p.h4, .int .u8 p.h5, .int .u8 p.h6, .int .u8 p.h7, .slice A n c] 26) = W0 := ⟨_, rfl⟩
  have b0 : Below w.heap.size w W0 := by rw [← hW0]; exact below_alloc1 _ _
  have s0 : W0.heap.size = w.heap.size + 1 := by rw [← hW0]; simp
  have KX : Hid (∀ V, Below W0.heap.size W0 V → V.cell? ⟨w.heap.size, 0, none⟩ = some (.int .i64 p.t) ∧ V.cell? ⟨w.heap.size, 1, none⟩ = some (.int .u32 p.r) ∧ V.cell? ⟨w.heap.size, 2, none⟩ = some (.int .u32 p.a) ∧ V.cell? ⟨w.heap.size, 3, none⟩ = some (.int .i64 p.u) ∧ V.cell? ⟨w.heap.size, 4, none⟩ = some (.int .u8 p.h0) ∧ V.cell? ⟨w.heap.size, 5, none⟩ = some (.int .u8 p.h1) ∧ V.cell? ⟨w.heap.size, 6, none⟩ = some (.int .u8 p.h2) ∧ V.cell? ⟨w.heap.size, 7, none⟩ = some (.int .u8 p.h3) ∧ V.cell? ⟨w.heap.size, 8, none⟩ = some (.int .u8 p.h4) ∧ V.cell? ⟨w.heap.size, 9, none⟩ = some (.int .u8 p.h5) ∧ V.cell? ⟨w.heap.size, 10, none⟩ = some (.int .u8 p.h6) ∧ V.cell? ⟨w.heap.size, 11, none⟩ = some (.int .u8 p.h7) ∧ V.cell? ⟨w.heap.size, 12, none⟩ = some (.slice A n c)) := Lib.hid (fun V hV => kb_new hW0 hV)
  obtain ⟨k0, k1, k2, k3, k4, k5, k6, k7, k8, k9, k10, k11, k12⟩ := KX.out _ (Below.refl _ _)
  obtain ⟨T, hT⟩ : ∃ T, mayT p.t = T := ⟨_, rfl⟩
  have HT := Lib.hid hT
  clear hT KX
  by_cases h1 : 0 ≤ p.u
  · by_cases h2 : p.u ≤ 1
    · cases T
      · have h3 : p.u ≥ 0 := h1
        go_enter Try.func11, Try.ntmps11
        go_wp2_with fail
        refine (mayT_any _ _).mono ?_
        rintro e w1 ⟨rfl, rfl⟩
        rw [HT.out]
        go_wp2
        go_ret
        exact ⟨ret_bool (by rw [HM.out, HT.out]; simp), b0⟩
      · by_cases h4 : n ≤ 1476
        · have h3 : p.u ≥ 0 := h1
          have h5 : (n : Int) ≤ 1476 := by omega
          go_enter Try.func11, Try.ntmps11
          go_wp2_with fail
          refine (mayT_any _ _).mono ?_
          rintro e w1 ⟨rfl, rfl⟩
          rw [HT.out]
          go_wp2
          go_ret
          exact ⟨ret_bool (by rw [HM.out, HT.out]; simp [h1, h2, h4]), b0⟩
        · have h3 : p.u ≥ 0 := h1
          have h5 : ¬ ((n : Int) ≤ 1476) := by omega
          go_enter Try.func11, Try.ntmps11
          go_wp2_with fail
          refine (mayT_any _ _).mono ?_
          rintro e w1 ⟨rfl, rfl⟩
          rw [HT.out]
          go_wp2
          go_ret
          exact ⟨ret_bool (by rw [HM.out, HT.out]; simp [h1, h2, h4, h5]), b0⟩
    · have h3 : p.u ≥ 0 := h1
      cases T
      all_goals
        go_enter Try.func11, Try.ntmps11
        go_wp2_with fail
        refine (mayT_any _ _).mono ?_
        rintro e w1 ⟨rfl, rfl⟩
        rw [HT.out]
        go_wp2
        go_ret
        exact ⟨ret_bool (by rw [HM.out, HT.out]; (simp <;> omega)), b0⟩
  · have h3 : ¬ (p.u ≥ 0) := h1
    cases T
    all_goals
      go_enter Try.func11, Try.ntmps11
      go_wp2_with fail
      refine (mayT_any _ _).mono ?_
      rintro e w1 ⟨rfl, rfl⟩
      rw [HT.out]
      go_wp2
      go_ret
      exact ⟨ret_bool (by rw [HM.out, HT.out]; (simp <;> omega)), b0⟩
end Go.Proofs.Ytfhickgdmcmodaa
