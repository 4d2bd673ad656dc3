/-
  Contracts of the program's all and ascending at rules and at clauses, of mayList, May and MayAll. No statement is proved here; no conditions.
-/
import Derived.Test.YtmcjpibahnlmbaaIx
import Derived.Test.YtmcjpibahnlmbaaRx
namespace Go.Proofs.Ytmcjpibahnlmbaa
open Go.RowKit Go.Joins

theorem enters43 (args : Array Value) (w' : World) : (callFunc 43 args).run Try.prog w' = .ok (.enter 43 args) w' := by simp [callFunc, Try.func43, Try.f43, mark]
theorem enters12 (args : Array Value) (w' : World) : (callFunc 12 args).run Try.prog w' = .ok (.enter 12 args) w' := by simp [callFunc, Try.func12, Try.f12, mark]
theorem enters45 (args : Array Value) (w' : World) : (callFunc 45 args).run Try.prog w' = .ok (.enter 45 args) w' := by simp [callFunc, Try.func45, Try.f45, mark]
theorem enters29 (args : Array Value) (w' : World) : (callFunc 29 args).run Try.prog w' = .ok (.enter 29 args) w' := by simp [callFunc, Try.func29, Try.f29, mark]
theorem enters41 (args : Array Value) (w' : World) : (callFunc 41 args).run Try.prog w' = .ok (.enter 41 args) w' := by simp [callFunc, Try.func41, Try.f41, mark]
theorem enters51' (args : Array Value) (w' : World) : (callFunc 51 args).run Try.prog w' = .ok (.enter 51 args) w' := by simp [callFunc, Try.func51, Try.f51, mark]
theorem enters39 (args : Array Value) (w' : World) : (callFunc 39 args).run Try.prog w' = .ok (.enter 39 args) w' := by simp [callFunc, Try.func39, Try.f39, mark]
theorem rseq_any (x : Ru) (w : World) : Calls Try.prog 45 #[rv x] w fun e w' => e = .returned (.int .i64 x.s) ∧ Below w.heap.size w w' := by
  go_enter Try.func45, Try.ntmps45
  go_wp2
  go_ret
  exact ⟨rfl, below_alloc1 _ _⟩
theorem cseq_any (x : Cl) (w : World) : Calls Try.prog 29 #[cv x] w fun e w' => e = .returned (.int .i64 x.c.s) ∧ Below w.heap.size w w' := by
  go_enter Try.func29, Try.ntmps29
  go_wp2
  go_ret
  exact ⟨rfl, below_alloc1 _ _⟩
/-- Neighbours that do not rise. -/
theorem asc_stop {f : Nat → Int} {n k : Nat} (hk : k + 1 < n) (h : ¬ f k < f (k + 1)) : asc f n = false := by
  rw [Bool.eq_false_iff]
  intro q
  exact h ((asc_iff f n).1 q k hk)
end Go.Proofs.Ytmcjpibahnlmbaa
