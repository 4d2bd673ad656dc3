/-
  The law's live question. No statement is proved here; no conditions.
-/
import Derived.Test.YtpfppacmldjioaaAl2
namespace Go.Proofs.Ytpfppacmldjioaa
open Go.RowKit Go.Joins

/-- Its candidates. -/
def two : List Ca := [⟨1, 1, 0, 0⟩, ⟨2, 1, 0, 0⟩]
theorem two_e : eD two 2 = 2 ∧ eB two 2 = 1 := by constructor <;> decide +kernel
theorem two_s : spk two = 2 := by decide +kernel
theorem two_w : wns two 2 = true ∧ wns two 1 = false := by constructor <;> decide +kernel
theorem two_ok : Okws two := by
  intro x hx
  simp only [two, List.mem_cons, List.not_mem_nil, or_false] at hx
  rcases hx with rfl | rfl <;> exact ⟨by decide, by decide, by decide⟩
set_option maxRecDepth 100000 in
set_option maxHeartbeats 4000000 in
theorem alive_any (w : World) : Calls Try.prog 7 #[] w fun e w' => e = .returned (.bool true) ∧ Below w.heap.size w w' := by
  obtain ⟨W0, hW0⟩ : ∃ V, w.alloc (.cells #[.int .u32 1, .int .i64 1, .int .u32 0, .int .u32 0, .int .u32 2, .int .i64 1, .int .u32 0, .int .u32 0] 40) = V := ⟨_, rfl⟩
  have bW0 : Below w.heap.size w W0 := by rw [← hW0]; exact below_alloc1 _ _
  have O0 : Ow4 40 w.heap.size W0 (some ⟨w.heap.size, 0, none⟩) 2 two := by rw [← hW0]; exact Ow4.of (Rg.lit w _ 4 2 _ _ rfl rfl (by decide)) (Nat.le_refl _)
  have HC := Lib.hid O0.cr
  have C1 := elect_any (some ⟨w.heap.size, 0, none⟩) 2 2 two 2 W0 rfl HC.out two_ok
  rw [two_e.1, two_e.2] at C1
  have C2 : Hid (∀ V, Below W0.heap.size W0 V → _) := Lib.hid (fun V hV => speaker_any (some ⟨w.heap.size, 0, none⟩) 2 2 two V rfl (HC.out.step hV) two_ok)
  have C3 : Hid (∀ V, Below W0.heap.size W0 V → _) := Lib.hid (fun V hV => wins_any (some ⟨w.heap.size, 0, none⟩) 2 2 two 2 V rfl (HC.out.step hV) two_ok)
  have C4 : Hid (∀ V, Below W0.heap.size W0 V → _) := Lib.hid (fun V hV => wins_any (some ⟨w.heap.size, 0, none⟩) 2 2 two 1 V rfl (HC.out.step hV) two_ok)
  simp only [two_s] at C2
  simp only [two_w.1] at C3
  simp only [two_w.2] at C4
  have HB := Lib.hid bW0
  clear O0 bW0
  go_enter Try.func7, Try.ntmps7
  go_wp2_with fail
  refine C1.mono ?_
  rintro e W1 ⟨rfl, u1⟩
  have T1 := Lib.hid u1
  have K2 := C2.out _ T1.out
  clear u1
  go_wp2_with fail
  refine K2.mono ?_
  rintro e W2 ⟨rfl, u2⟩
  have T2 := Lib.hid (T1.out.trans (u2.mono T1.out.size))
  have K3 := C3.out _ T2.out
  clear u2 K2
  go_wp2_with fail
  refine K3.mono ?_
  rintro e W3 ⟨rfl, u3⟩
  have T3 := Lib.hid (T2.out.trans (u3.mono T2.out.size))
  have K4 := C4.out _ T3.out
  clear u3 K3
  go_wp2_with fail
  refine K4.mono ?_
  rintro e W4 ⟨rfl, u4⟩
  have T4 := Lib.hid (T3.out.trans (u4.mono T3.out.size))
  clear u4 K4
  go_wp2
  go_ret
  exact ⟨rfl, HB.out.trans (T4.out.mono HB.out.size)⟩
end Go.Proofs.Ytpfppacmldjioaa
