/-
  The live question of the laws. No statement is proved here; no conditions.
-/
import Derived.Test.YtodnhihpefhcdaaSw
namespace Go.Proofs.Ytodnhihpefhcdaa
open Go.RowKit Go.Joins

def h1 : Hd := ⟨0, 0, 1, 0, 0, 0, 0, 0⟩
theorem live_seal (V : World) (x : Int) (hx : sck h1 [] 0 = x) : Calls Try.prog 15 #[.agg #[.int .i64 0, .int .i64 0, .int .i64 1, .int .u32 0, .int .u32 0, .int .u32 0, .int .i64 0, .int .i64 0, .slice none 0 0]] V fun e w' => ∃ A' c', e = .returned (.tuple #[.agg #[.int .i64 0, .int .i64 0, .int .i64 1, .int .u32 0, .int .u32 0, .int .u32 0, .int .i64 x, .int .i64 20, .slice A' 0 c'], .int .i64 0]) ∧ Own .u8 5 w' V.heap.size A' c' [] ∧ Below V.heap.size V w' := by
  have q := seal_ok h1 none 0 0 [] V rfl ⟨by decide, by decide, by decide⟩ (Bs.nil _) (fun x hx => by cases hx) (by omega) (by decide)
  rw [hx] at q
  exact q
theorem live_whole (V : World) (A : Option Addr) (c : Nat) (x : Int) (hx : sck h1 [] 0 = x) : Calls Try.prog 19 #[.agg #[.int .i64 0, .int .i64 0, .int .i64 1, .int .u32 0, .int .u32 0, .int .u32 0, .int .i64 x, .int .i64 20, .slice A 0 c]] V fun e w' => e = .returned (.bool true) ∧ Below V.heap.size V w' := by
  have q := whole_any (sl h1 x 20) A 0 c [] V rfl (sl_ok ⟨by decide, by decide, by decide⟩ _ _) (Bs.nil _) (fun x hx => by cases hx) (by omega)
  have hw : whl (sl h1 x 20) [] = true := by
    rw [← hx]
    exact seal_whl (h := h1) (l := []) (n := 0) rfl (by decide)
  rw [hw] at q
  exact q
theorem live_next1 (V : World) : Calls Try.prog 8 #[.int .u32 2147483648] V fun e w' => e = .returned (.tuple #[.int .u32 2147483649, .int .i64 0]) ∧ V = w' := next_any 2147483648 V (by decide) (by decide)
theorem live_next2 (V : World) : Calls Try.prog 8 #[.int .u32 2147483647] V fun e w' => e = .returned (.tuple #[.int .u32 0, .int .i64 5]) ∧ V = w' := next_any 2147483647 V (by decide) (by decide)
set_option maxRecDepth 100000 in
theorem alive_any (w : World) : Calls Try.prog 10 #[] w fun e w' => e = .returned (.bool true) ∧ Below w.heap.size w w' := by
  obtain ⟨x, hx⟩ : ∃ x, sck h1 [] 0 = x := ⟨_, rfl⟩
  have C1 := live_seal w x hx
  have C2 := fun V A c => live_whole V A c x hx
  clear hx
  go_enter Try.func10, Try.ntmps10
  go_wp2_with fail
  refine (live_next1 _).mono ?_
  rintro e _ ⟨rfl, rfl⟩
  go_wp2_with fail
  refine (live_next2 _).mono ?_
  rintro e _ ⟨rfl, rfl⟩
  go_wp2_with fail
  refine C1.mono ?_
  rintro e W1 ⟨A1, c1, rfl, -, u1⟩
  obtain ⟨X1, hX1⟩ : ∃ V, W1.alloc (.cells #[.int .i64 0, .int .i64 0, .int .i64 1, .int .u32 0, .int .u32 0, .int .u32 0, .int .i64 x, .int .i64 20, .slice A1 0 c1] 37) = V := ⟨_, rfl⟩
  have v1 : Below W1.heap.size W1 X1 := by rw [← hX1]; exact below_alloc1 _ _
  have t1 : Below w.heap.size w X1 := u1.trans (v1.mono u1.size)
  obtain ⟨k0, k1, k2, k3, k4, k5, k6, k7, k8⟩ := kb9_new hX1 (Below.refl _ _)
  clear C1 u1 v1
  go_wp2_with fail
  refine (C2 _ _ _).mono ?_
  rintro e W2 ⟨rfl, u2⟩
  go_wp2
  go_ret
  exact ⟨rfl, t1.trans (u2.mono t1.size)⟩
end Go.Proofs.Ytodnhihpefhcdaa
