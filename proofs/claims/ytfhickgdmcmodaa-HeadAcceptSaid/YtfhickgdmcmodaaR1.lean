/-
  Contracts of the reference's two, Four, Take, May and ahead. No statement is proved here; no conditions.
-/
import Derived.Test.YtfhickgdmcmodaaDe
import Derived.Test.YtfhickgdmcmodaaRefA
namespace Go.Proofs.Ytfhickgdmcmodaa
open Go.RowKit Go.Joins

theorem num_pair (l : List Int) (h : l.length = 2) : num l = l.getD 0 0 * 256 + l.getD 1 0 := by
  match l, h with
  | [x, y], _ => simp [num]
set_option maxRecDepth 100000 in
theorem two_any (A : Option Addr) (n c : Nat) (l : List Int) (w : World) (hn : n = l.length) (hb : Bt w A l) (hy : Byt l) (h2 : 2 ≤ l.length) :
    Calls Try.prog 26 #[.slice A n c] w fun e w' => e = .returned (.int .i64 (num (l.take 2))) ∧ Below w.heap.size w w' := by
  obtain ⟨b, off, rfl, hlt, -⟩ := hb (by rintro rfl; simp at h2)
  have g0 : w.cell? ⟨b, off, none⟩ = some (.int .u8 (l.getD 0 0)) := hb.get (i := 0) (by omega)
  have g1 := hb.get (i := 1) (by omega)
  have y0 := byt_getD hy 0
  have y1 := byt_getD hy 1
  have e0 : num (l.take 2) = 256 * l.getD 0 0 + l.getD 1 0 := by
    rw [num_pair _ (by simp; omega)]
    match l, h2 with
    | x :: y :: t, _ => simp; omega
  rw [e0]
  generalize l.getD 0 0 = x0 at *
  generalize l.getD 1 0 = x1 at *
  have i0 : (0 : Int) < (n : Int) := by omega
  have i1 : (1 : Int) < (n : Int) := by omega
  have hw0 : IntKind.i64.wrap x0 = x0 := wrap_i64 (by omega) (by omega)
  have hw1 : IntKind.i64.wrap x1 = x1 := wrap_i64 (by omega) (by omega)
  clear hb hy hn e0 h2
  go_enter Try.func26, Try.ntmps26
  go_wp2_with fail
  go_quiet (fail)
  go_wp2
  go_ret
  exact ⟨rfl, below_drewN (Below.refl _ _) _⟩
theorem be4 (n : Int) (h0 : 0 ≤ n) (h1 : n < 4294967296) : be n 4 = [n / 16777216, n / 65536 % 256, n / 256 % 256, n % 256] := by
  simp [be]
  omega
theorem four_any (n : Int) (w : World) (h0 : 0 ≤ n) (h1 : n < 4294967296) :
    Calls Try.prog 30 #[.int .u32 n] w fun e w' => ∃ A' c', e = .returned (.slice A' 4 c') ∧ Own .u8 5 w' w.heap.size A' c' (be n 4) ∧ Below w.heap.size w w' := by
  obtain ⟨W0, hW0⟩ : ∃ W0, w.alloc (.cells #[.int .u8 (n / 16777216), .int .u8 (n / 65536 % 256), .int .u8 (n / 256 % 256), .int .u8 (n % 256)] 5) = W0 := ⟨_, rfl⟩
  have b0 : Below w.heap.size w W0 := by rw [← hW0]; exact below_alloc1 _ _
  have o0 : Own .u8 5 W0 w.heap.size (some ⟨w.heap.size, 0, none⟩) 4 (be n 4) := by
    rw [be4 n h0 h1, ← hW0]
    exact Own.lit w w.heap.size (Nat.le_refl _) [n / 16777216, n / 65536 % 256, n / 256 % 256, n % 256] (by simp [maxLen])
  go_enter Try.func30, Try.ntmps30
  go_wp2
  go_ret
  exact ⟨_, _, rfl, o0, b0⟩
/-- Take at four bytes. -/
theorem rtake4_any (A : Option Addr) (n c : Nat) (l : List Int) (w : World) (hn : n = l.length) (hb : Bt w A l) (hy : Byt l) (hc : l.length ≤ c) (h4 : 4 ≤ l.length) (hl : l.length ≤ 10000) :
    Calls Try.prog 27 #[.slice A n c, .int .i64 4] w fun e w' => ∃ A' n' c', e = .returned (.tuple #[.int .u32 (num (l.take 4)), .slice A' n' c', .int .i64 0]) ∧ Below w.heap.size w w' := by
  subst hn
  have e1 : takeE l 4 = 0 := by
    unfold takeE
    rw [if_neg (by omega), if_neg (by omega)]
  have e2 : takeN l 4 = num (l.take 4) := by simp [takeN, e1]
  refine (rtake_any A c l w.heap.size 4 w hb hy hc (Nat.le_refl _) (by omega)).mono ?_
  rintro e w' ⟨A', c', rfl, ho, hb'⟩
  rw [e1, e2]
  exact ⟨A', _, c', rfl, hb'⟩
end Go.Proofs.Ytfhickgdmcmodaa
