/-
  Contracts of the small functions of package sum, and of the reference's sums. No statement is proved here.
-/
import Derived.Test.YtadcicmccdphkaaProg
import Derived.Test.YtadcicmccdphkaaLeaf
import Derived.Test.YtadcicmccdphkaaSums
import Derived.KernelRfl
import Derived.Deep.QuietTactic
import Derived.BigQuiet
namespace Go.Proofs.Ytadcicmccdphkaa
open Go.RowKit

/-! ### below -/
theorem fl_order (n : Nat) (h : n < 255) : (FloatKind.f64.format.order (fl n) 4643176031446892544 == some .gt) = false ∧ (FloatKind.f64.format.order (fl n) 4643176031446892544 == some .eq) = false := by
  have h2 := fl_lt ⟨n, h⟩
  exact Bool.or_eq_false_iff.1 h2
theorem below_any (n : Nat) (w : World) (h : n < 510) : Calls Try.prog 74 #[.float .f64 (fl n)] w fun e w' => e = .returned (.float .f64 (fl (n % 255))) ∧ w = w' := by
  by_cases h1 : 255 ≤ n
  · have h2 : (FloatKind.f64.format.order (fl n) 4643176031446892544 == some .gt || FloatKind.f64.format.order (fl n) 4643176031446892544 == some .eq) = true := fl_ge ⟨n, h⟩ h1
    have h3 : (binOp .sub 124 (.float .f64 (fl n)) (.float .f64 4643176031446892544)).run Try.prog w = .ok (.float .f64 (fl (n % 255))) w := by
      refine run_float_arith w .sub 124 .f64 _ _ _ ?_
      have h4 := fl_sub ⟨n - 255, by omega⟩
      rw [show n % 255 = n - 255 by omega]
      simpa [Nat.sub_add_cancel h1] using h4
    go_enter Try.func74, Try.ntmps74
    go_wp2
    go_ret
    exact ⟨rfl, rfl⟩
  · obtain ⟨h2, h3⟩ := fl_order n (by omega)
    have h4 : (FloatKind.f64.format.order (fl n) 4643176031446892544 == some .gt || FloatKind.f64.format.order (fl n) 4643176031446892544 == some .eq) = false := by rw [h2, h3]; rfl
    rw [show n % 255 = n by omega]
    clear h1 h2 h3
    go_enter Try.func74, Try.ntmps74
    go_wp2
    go_ret
    exact ⟨rfl, rfl⟩

/-! ### nonzero -/
/-- The byte from 1 to 255 that n is modulo 255. -/
def nz (n : Int) : Int := (n - 1) % 255 + 1
theorem nz_bd (n : Int) : 1 ≤ nz n ∧ nz n ≤ 255 := by unfold nz; omega
theorem tmod255 (n : Int) : ∃ q, n = 255 * q + n.tmod 255 ∧ -255 < n.tmod 255 ∧ n.tmod 255 < 255 :=
  ⟨n.tdiv 255, (Int.mul_tdiv_add_tmod n 255).symm, Int.lt_tmod_of_pos n (by decide), Int.tmod_lt_of_pos n (by decide)⟩
theorem nonzero_any (n : Int) (w : World) (__h : -100000000 < n) (_h1 : n < 100000000) : Calls Try.prog 56 #[.int .i64 n] w fun e w' => e = .returned (.int .u8 (nz n)) ∧ w = w' := by
  obtain ⟨q, hq, hr1, hr2⟩ := tmod255 n
  have HQ := Lib.hid hq
  clear hq
  by_cases h2 : n.tmod 255 ≤ 0
  · go_enter Try.func56, Try.ntmps56
    go_wp2
    go_ret
    exact ⟨ret_int (by have := HQ.out; unfold nz; omega), rfl⟩
  · go_enter Try.func56, Try.ntmps56
    go_wp2
    go_ret
    exact ⟨ret_int (by have := HQ.out; unfold nz; omega), rfl⟩

/-! ### fold -/
end Go.Proofs.Ytadcicmccdphkaa
