/-
  The contract of the laws' live question. No statement is proved here.
-/
import Derived.Test.YtmljcjpmekildaaOct
import Derived.Test.YtmljcjpmekildaaRow
namespace Go.Proofs.Ytmljcjpmekildaa
open Go.RowKit

theorem alive_put (w : World) : Calls Try.prog 9 #[.slice none 0 0, .int .u32 258, .int .i64 2] w fun e w' => ∃ A' c', e = .returned (.tuple #[.slice A' 2 c', .int .i64 0]) ∧ Own .u8 5 w' w.heap.size A' c' [1, 2] ∧ Below w.heap.size w w' := by
  have h := put_any none 0 [] 0 258 2 w (Bs.nil _) (Nat.zero_le _) (by simp) (by decide) (by decide)
  have e1 : putE 258 2 = 0 := by decide
  have e2 : putL [] 258 2 = [1, 2] := by decide
  rw [e1, e2] at h
  exact h
theorem alive_rows (A : Option Addr) (w : World) (hb : Bs .u8 w w.heap.size A [1, 2, 3]) : Calls Try.prog 17 #[.slice A 3 3, .int .i64 2] w fun e w' => ∃ A' c', e = .returned (.tuple #[.slice A' 0 c', .int .i64 2]) ∧ Below w.heap.size w w' := by
  have h := rows_any A 3 [1, 2, 3] w.heap.size 2 w hb (by intro x hx; simp at hx; omega) (by decide) (Nat.le_refl _) (by decide)
  have e1 : rowsE [1, 2, 3] 2 = 2 := by decide
  have e2 : rowsL [1, 2, 3] 2 = [] := by decide
  rw [e1, e2] at h
  exact h.mono fun e w' ⟨A', c', h1, _, h3⟩ => ⟨A', c', h1, h3⟩
theorem alive_any (w : World) : Calls Try.prog 8 #[] w fun e w' => e = .returned (.bool true) ∧ Below w.heap.size w w' := by
  go_enter Try.func8, Try.ntmps8
  go_wp2_with fail
  refine (alive_put _).mono ?_
  rintro e w1 ⟨A1, c1, rfl, hO1, hB1⟩
  go_wp2_with fail
  refine (alive_rows _ _ ?_).mono ?_
  · simpa using (Own.lit (k := .u8) (e := 5) w1 0 (Nat.zero_le _) [1, 2, 3] (by simp [maxLen])).bs
  rintro e w2 ⟨A2, c2, rfl, hB2⟩
  have hO2 := (hO1.alloc (.cells #[.int .u8 1, .int .u8 2, .int .u8 3] 5)).below hB2 (Nat.le_refl _)
  have hs : (convert 22 9 (.slice A1 2 c1)).run Try.prog w2 = .ok (.string ⟨#[1, 2]⟩) w2 := run_str w2 22 5 9 Try.underlying22 Try.underlying5 Try.underlying9 _ A1 c1 [1, 2] hO2.bs
  go_wp2
  go_ret
  exact ⟨rfl, (hB1.alloc hB1.size _).trans (hB2.mono (by have := hB1.size; simp; omega))⟩
end Go.Proofs.Ytmljcjpmekildaa
