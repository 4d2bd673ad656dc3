/-
  The live question of the laws. No statement is proved here; no conditions.
-/
import Derived.Test.YtefbpaebimagaaaTa
import Derived.Test.YtefbpaebimagaaaAk
namespace Go.Proofs.Ytefbpaebimagaaa
open Go.RowKit Go.Joins

theorem live1 (V : World) : Calls Try.prog 26 #[.slice none 0 0] V fun e w' => ∃ A' c', e = .returned (.tuple #[.slice A' 4 c', .int .i64 0]) ∧ Own .u8 5 w' V.heap.size A' c' [0, 0, 0, 0] ∧ Below V.heap.size V w' := by
  have h := putads_any none 0 0 [] V rfl (fun x hx => by cases hx) (Arr.nil _ _) (by omega)
  rw [show puL (cons []) = [0, 0, 0, 0] from by decide, show puE (cons []) = 0 from by decide] at h
  exact h
theorem live2 (V : World) (A : Option Addr) (c : Nat) (h : Bt V A [0, 0, 0, 0]) (hc : 4 ≤ c) : Calls Try.prog 28 #[.slice A 4 c] V fun e w' => ∃ A' c', e = .returned (.tuple #[.slice A' 0 c', .int .i64 0, .int .i64 0]) ∧ Below V.heap.size V w' := by
  have h := takeads_any A 4 c [0, 0, 0, 0] V rfl h (byt_lit _ (by decide)) hc (by omega)
  rw [show taf [0, 0, 0, 0] = (0, [], 0) from by rw [taf, if_neg (by decide), if_neg (by decide)]; rfl] at h
  refine h.mono ?_
  rintro e w' ⟨A', c', m', L, h1, h2, rfl, h3, h4⟩
  have e0 : m' = 0 := by rw [← h2, ← cons_length, h1]; rfl
  subst e0
  exact ⟨A', c', rfl, h4⟩
theorem live3 (V : World) : Calls Try.prog 20 #[.slice none 0 0] V fun e w' => ∃ A' c', e = .returned (.tuple #[.slice A' 0 c', .int .i64 1]) ∧ Below V.heap.size V w' := by
  have h := putack_any none 0 0 [] V rfl (fun x hx => by cases hx) (hRr.nil _ _) (by omega)
  rw [show phL [] 1 70 = [] from by decide, show phE [] 1 70 = 1 from by decide] at h
  exact h.mono fun e w' ⟨A', c', h1, _, h3⟩ => ⟨A', c', h1, h3⟩
set_option maxRecDepth 100000 in
set_option maxHeartbeats 4000000 in
theorem alive_any (w : World) : Calls Try.prog 8 #[] w fun e w' => e = .returned (.bool true) ∧ Below w.heap.size w w' := by
  go_enter Try.func8, Try.ntmps8
  go_wp2_with fail
  refine (live1 _).mono ?_
  rintro e W1 ⟨A1, c1, rfl, o1, u1⟩
  have hc1 := o1.cap_le
  have C2 := live2 W1 A1 c1 o1.bs hc1
  go_wp2_with fail
  refine C2.mono ?_
  rintro e W2 ⟨A2, c2, rfl, u2⟩
  go_wp2_with fail
  refine (live3 W2).mono ?_
  rintro e W3 ⟨A3, c3, rfl, u3⟩
  have t13 : Below W1.heap.size W1 W3 := u2.trans (u3.mono u2.size)
  have T := Lib.hid (u1.trans (t13.mono u1.size))
  have r1 := run_str (P := Try.prog) (w := W3) 26 5 9 Try.underlying26 Try.underlying5 Try.underlying9 _ A1 c1 [0, 0, 0, 0] (Bs.step o1.bs t13)
  have es : strOfNums [0, 0, 0, 0] = ⟨#[0, 0, 0, 0]⟩ := by rfl
  have el : ([0, 0, 0, 0] : List Int).length = 4 := rfl
  rw [es, el] at r1
  clear o1 u1 u2 u3 t13 es el hc1 C2
  go_wp2
  go_ret
  exact ⟨rfl, T.out⟩
end Go.Proofs.Ytefbpaebimagaaa
