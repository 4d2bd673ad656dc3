/-
  The walk of ElectTold. No statement is proved here; no conditions.
-/
import Derived.Test.YtpfppacmldjioaaAl3
namespace Go.Proofs.Ytpfppacmldjioaa
open Go.RowKit Go.Joins

/-- A whole row appended to an empty one of a new block. -/
theorem copy_run (A0 : Option Addr) (n c : Nat) (L : List Ca) (w W0 : World) (hn : L.length = n) (hl : Cr w A0 L) (hll : n ≤ 10000) (hW0 : w.alloc (.cells #[] 40) = W0) :
    ∃ A' c' W1, (Builtin.append_ #[22, 22] 22 #[.slice (some ⟨w.heap.size, 0, none⟩) 0 0, .slice A0 n c]).run Try.prog W0 = .ok (.slice A' n c') W1 ∧ Ow4 40 w.heap.size W1 A' c' L ∧ Below w.heap.size w W1 := by
  have bW0 : Below w.heap.size w W0 := by rw [← hW0]; exact below_alloc1 _ _
  have O0 : Ow4 40 w.heap.size W0 (some ⟨w.heap.size, 0, none⟩) 0 [] := by rw [← hW0]; exact Ow4.empty _ _
  obtain ⟨i0, hi0, hz0, hz1, hz2⟩ := info_of infoE
  rcases Nat.eq_zero_or_pos n with h | h
  · subst h
    have hL : L = [] := List.eq_nil_of_length_eq_zero hn
    subst hL
    exact ⟨_, 0, W0, app_zero W0 _ _ _ i0 Try.underlying22 hi0 _ 0 0 _ c (Nat.le_refl _) (fun h => by cases h), O0, bW0⟩
  · obtain ⟨g', c', W1, r1, r2, r3, r4⟩ := app_gen (P := Try.prog) (S := (w.heap.size ≤ ·)) Try.underlying22 hi0 hz0 hz1 hz2 rfl (by decide) (by decide) O0 (n := 0) rfl A0 c n (cflat L) (hl.step bW0) (by rw [cflat_length, hn]) (cflat_one L) h (by omega)
    rw [Nat.zero_add] at r1
    refine ⟨_, c', W1, r1, Ow4.of r2 ?_, bW0.trans (r3.below (fun j hj => hj) bW0.size)⟩
    rcases r4 with q | q
    · exact q
    · have := bW0.size; omega
end Go.Proofs.Ytpfppacmldjioaa
