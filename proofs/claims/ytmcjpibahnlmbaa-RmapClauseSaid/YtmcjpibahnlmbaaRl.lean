/-
  Contracts of the program's May, bounds, Means, hides. No statement is proved here; no conditions.
-/
import Derived.Test.YtmcjpibahnlmbaaMem
import Derived.Deep.DeepCutAuto
import Derived.Deep.RegionHeldLaw
import Derived.Deep.LoopGhost
namespace Go.Proofs.Ytmcjpibahnlmbaa
open Go.RowKit Go.Joins

/-- A rule in a block of its own. -/
theorem rb_at {W : World} {b : Nat} {t : TypeId} {v0 v1 v2 v3 v4 v5 : Value} (h : W.heap[b]? = some (.cells #[v0, v1, v2, v3, v4, v5] t)) :
    W.cell? ⟨b, 0, none⟩ = some v0 ∧ W.cell? ⟨b, 1, none⟩ = some v1 ∧ W.cell? ⟨b, 2, none⟩ = some v2 ∧ W.cell? ⟨b, 3, none⟩ = some v3 ∧ W.cell? ⟨b, 4, none⟩ = some v4 ∧ W.cell? ⟨b, 5, none⟩ = some v5 :=
  ⟨(cell_of_block h 0).trans rfl, (cell_of_block h 1).trans rfl, (cell_of_block h 2).trans rfl, (cell_of_block h 3).trans rfl, (cell_of_block h 4).trans rfl, (cell_of_block h 5).trans rfl⟩
/-- What lies in a new block, in every world behind. -/
theorem rb_new {w W0 W : World} {t : TypeId} {v0 v1 v2 v3 v4 v5 : Value} (h0 : w.alloc (.cells #[v0, v1, v2, v3, v4, v5] t) = W0) (h : Below W0.heap.size W0 W) :
    W.cell? ⟨w.heap.size, 0, none⟩ = some v0 ∧ W.cell? ⟨w.heap.size, 1, none⟩ = some v1 ∧ W.cell? ⟨w.heap.size, 2, none⟩ = some v2 ∧ W.cell? ⟨w.heap.size, 3, none⟩ = some v3 ∧ W.cell? ⟨w.heap.size, 4, none⟩ = some v4 ∧ W.cell? ⟨w.heap.size, 5, none⟩ = some v5 := by
  subst h0
  exact rb_at ((h.block w.heap.size (by simp)).trans (alloc_at _ _ _ rfl))

set_option maxRecDepth 100000 in
theorem pmay_any (x : Ru) (w : World) (hA : x.A < 4294967296) : Calls Try.prog 43 #[rv x] w fun e w' => e = .returned (.bool (okr x)) ∧ Below w.heap.size w w' := by
  obtain ⟨s, p, A, N, g, l⟩ := x
  simp only at hA
  obtain ⟨W0, hW0⟩ : ∃ W0, w.alloc (.cells #[.int .i64 s, .bool p, .int .u32 (A : Int), .int .i64 N, .int .i64 g, .int .i64 l] 75) = W0 := ⟨_, rfl⟩
  have hb0 : Hid (Below w.heap.size w W0) := Lib.hid (by rw [← hW0]; exact below_alloc1 _ _)
  have s0 : W0.heap.size = w.heap.size + 1 := by rw [← hW0]; simp
  obtain ⟨k0, k1, k2, k3, k4, k5⟩ := rb_new hW0 (Below.refl _ _)
  have cm := fun W => may_any A N W hA
  obtain ⟨G, hG⟩ : ∃ G, (decide (g = 0) || decide (N < g) && decide (g ≤ 32)) = G := ⟨_, rfl⟩
  obtain ⟨L, hL⟩ : ∃ L, (decide (l = 0) || decide (max g N ≤ l) && decide (l ≤ 32)) = L := ⟨_, rfl⟩
  have HG := Lib.hid hG
  have HL := Lib.hid hL
  clear hG hL
  go_enter Try.func43, Try.ntmps43
  go_upto_region 1 with fail
  clear hW0
  go_cut [3] (fun v wx => v = .bool G ∧ wx = W0)
  case first =>
    by_cases h1 : g = 0
    · have n1 : (g == 0) = true := by simpa using h1
      go_wp2_with fail
      go_meet
      case rel => exact ⟨by rw [← HG.out]; simp [h1], rfl⟩
    · have n1 : (g == 0) = false := by simpa using h1
      by_cases h2 : N < g
      · go_wp2_with fail
        go_meet
        case rel => exact ⟨by rw [← HG.out]; simp [h1, h2], rfl⟩
      · go_wp2_with fail
        go_meet
        case rel => exact ⟨by rw [← HG.out, decide_eq_false h1, decide_eq_false (show ¬ N < g by omega)]; rfl, rfl⟩
  case rest =>
    obtain ⟨rfl, rfl⟩ := hcut
    go_upto_region 2 with fail
    go_cut [4] (fun v wx => v = .bool L ∧ wx = wc)
    case first =>
      by_cases h1 : l = 0
      · have n1 : (l == 0) = true := by simpa using h1
        go_wp2_with fail
        go_meet
        case rel => exact ⟨by rw [← HL.out]; simp [h1], rfl⟩
      · have n1 : (l == 0) = false := by simpa using h1
        by_cases h2 : max g N ≤ l
        · go_wp2_with fail
          all_goals (
            go_meet
            case rel => exact ⟨by rw [← HL.out, decide_eq_false h1, decide_eq_true (show max g N ≤ l by omega)]; rfl, rfl⟩)
        · go_wp2_with fail
          all_goals (
            go_meet
            case rel => exact ⟨by rw [← HL.out, decide_eq_false h1, decide_eq_false (show ¬ max g N ≤ l by omega)]; rfl, rfl⟩)
    case rest =>
      obtain ⟨rfl, rfl⟩ := hcut
      by_cases h1 : 1 ≤ s
      · by_cases h2 : s ≤ 65535
        · have ek : okr ⟨s, p, A, N, g, l⟩ = (okp A N && G && L) := by
            unfold okr
            rw [← HG.out, ← HL.out]
            simp [h1, h2]
          have EK := Lib.hid ek
          clear ek
          cases hk : okp A N
          · rw [hk] at cm
            go_wp2_with (go_at_call 52; refine (cm _).mono ?_; rintro e W1 ⟨rfl, hb1⟩)
            go_ret
            exact ⟨by rw [EK.out, hk]; rfl, hb0.out.trans (hb1.mono (by omega))⟩
          · rw [hk] at cm
            cases G <;> (
              go_wp2_with (go_at_call 52; refine (cm _).mono ?_; rintro e W1 ⟨rfl, hb1⟩)
              go_ret
              exact ⟨by rw [EK.out, hk]; rfl, hb0.out.trans (hb1.mono (by omega))⟩)
        · go_wp2_with fail
          go_ret
          exact ⟨ret_bool (Bool.eq_false_iff.2 fun h => by have := ((okr_iff _).1 h).1; simp only at this; omega).symm, hb0.out⟩
      · go_wp2_with fail
        go_ret
        exact ⟨ret_bool (Bool.eq_false_iff.2 fun h => by have := ((okr_iff _).1 h).1; simp only at this; omega).symm, hb0.out⟩
/-- cmp.Or at two numbers. -/
theorem or_any (a b : Int) (n : Nat) (w : World) (h0 : w.cell? ⟨n, 0, none⟩ = some (.int .i64 a)) (h1 : w.cell? ⟨n, 1, none⟩ = some (.int .i64 b)) :
    Calls Try.prog 66 #[.slice (some ⟨n, 0, none⟩) 2 2] w fun e w' => e = .returned (.int .i64 (if a = 0 then b else a)) ∧ w' = w := by
  go_enter Try.func66, Try.ntmps66
  go_wp2_with fail
  go_loopg [8] 2 (fun gf v wx => ∃ (k : Nat), v = .int .i64 (k : Int) ∧ Hid (gf + k = 2) ∧ Hid (1 ≤ k → a = 0) ∧ Hid (2 ≤ k → b = 0) ∧ wx = w)
  case atStart => exact ⟨0, rfl, Lib.hid rfl, Lib.hid (by omega), Lib.hid (by omega), rfl⟩
  case round =>
    obtain ⟨k, rfl, hk, ha, hb, rfl⟩ := hrel
    have hk' := hk.out
    have hk2 : k = 0 ∨ k = 1 ∨ k = 2 := by omega
    rcases hk2 with rfl | rfl | rfl
    · by_cases q : a = 0
      · have n1 : (a != 0) = false := by simpa using q
        go_wp2_with fail
        go_roundg 1
        case measure => omega
        case rel => exact ⟨1, by go_num, Lib.hid rfl, Lib.hid fun _ => q, Lib.hid (by omega), rfl⟩
      · have n1 : (a != 0) = true := by simpa using q
        go_wp2_with fail
        go_ret
        exact ⟨rfl, rfl⟩
    · have q := ha.out (Nat.le_refl _)
      by_cases r : b = 0
      · have n1 : (b != 0) = false := by simpa using r
        go_wp2_with fail
        go_roundg 0
        case measure => omega
        case rel => exact ⟨2, by go_num, Lib.hid rfl, Lib.hid fun _ => q, Lib.hid fun _ => r, rfl⟩
      · have n1 : (b != 0) = true := by simpa using r
        go_wp2_with fail
        go_ret
        exact ⟨rfl, rfl⟩
    · have q := ha.out (by omega)
      have r := hb.out (by omega)
      go_wp2_with fail
      go_ret
      exact ⟨rfl, rfl⟩
end Go.Proofs.Ytmcjpibahnlmbaa
