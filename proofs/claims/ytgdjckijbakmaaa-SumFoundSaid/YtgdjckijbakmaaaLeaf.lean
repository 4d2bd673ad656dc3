/-
  Contracts of the small functions of package sum, and of the reference's sums. No statement is proved here.
-/
import Derived.Test.YtgdjckijbakmaaaProg
import Derived.Test.YtgdjckijbakmaaaMem
import Derived.Test.YtgdjckijbakmaaaSums
import Derived.KernelRfl
import Derived.Deep.QuietTactic
import Derived.BigQuiet
namespace Go.Proofs.Ytgdjckijbakmaaa
open Go.RowKit

theorem info5 : (Try.prog.info? 5).map (fun i => (i.zero, i.size, i.bytes)) = some (some (.int .u8 0), 1, 1) := by kernel_rfl
theorem val_int {k : IntKind} {a b : Int} (h : a = b) : Value.int k a = .int k b := by rw [h]
theorem ret_int {k : IntKind} {a b : Int} (h : a = b) : Ending.returned (.int k a) = .returned (.int k b) := by rw [h]

/-! ### below -/
theorem fl_order (n : Nat) (h : n < 255) : (FloatKind.f64.format.order (fl n) 4643176031446892544 == some .gt) = false ∧ (FloatKind.f64.format.order (fl n) 4643176031446892544 == some .eq) = false := by
  have h2 := fl_lt ⟨n, h⟩
  exact Bool.or_eq_false_iff.1 h2
theorem below_any (n : Nat) (w : World) (h : n < 510) : Calls Try.prog 19 #[.float .f64 (fl n)] w fun e w' => e = .returned (.float .f64 (fl (n % 255))) ∧ w = w' := by
  by_cases h1 : 255 ≤ n
  · have h2 : (FloatKind.f64.format.order (fl n) 4643176031446892544 == some .gt || FloatKind.f64.format.order (fl n) 4643176031446892544 == some .eq) = true := fl_ge ⟨n, h⟩ h1
    have h3 : (binOp .sub 37 (.float .f64 (fl n)) (.float .f64 4643176031446892544)).run Try.prog w = .ok (.float .f64 (fl (n % 255))) w := by
      refine run_float_arith w .sub 37 .f64 _ _ _ ?_
      have h4 := fl_sub ⟨n - 255, by omega⟩
      rw [show n % 255 = n - 255 by omega]
      simpa [Nat.sub_add_cancel h1] using h4
    go_enter Try.func19, Try.ntmps19
    go_wp2
    go_ret
    exact ⟨rfl, rfl⟩
  · obtain ⟨h2, h3⟩ := fl_order n (by omega)
    have h4 : (FloatKind.f64.format.order (fl n) 4643176031446892544 == some .gt || FloatKind.f64.format.order (fl n) 4643176031446892544 == some .eq) = false := by rw [h2, h3]; rfl
    rw [show n % 255 = n by omega]
    clear h1 h2 h3
    go_enter Try.func19, Try.ntmps19
    go_wp2
    go_ret
    exact ⟨rfl, rfl⟩

/-! ### nonzero -/
/-- The byte from 1 to 255 that n is modulo 255. -/
def nz (n : Int) : Int := (n - 1) % 255 + 1
theorem nz_bd (n : Int) : 1 ≤ nz n ∧ nz n ≤ 255 := by unfold nz; omega
theorem tmod255 (n : Int) : ∃ q, n = 255 * q + n.tmod 255 ∧ -255 < n.tmod 255 ∧ n.tmod 255 < 255 :=
  ⟨n.tdiv 255, (Int.mul_tdiv_add_tmod n 255).symm, Int.lt_tmod_of_pos n (by decide), Int.tmod_lt_of_pos n (by decide)⟩
theorem nonzero_any (n : Int) (w : World) (__h : -100000000 < n) (_h1 : n < 100000000) : Calls Try.prog 21 #[.int .i64 n] w fun e w' => e = .returned (.int .u8 (nz n)) ∧ w = w' := by
  obtain ⟨q, hq, hr1, hr2⟩ := tmod255 n
  have HQ := Lib.hid hq
  clear hq
  by_cases h2 : n.tmod 255 ≤ 0
  · go_enter Try.func21, Try.ntmps21
    go_wp2
    go_ret
    exact ⟨ret_int (by have := HQ.out; unfold nz; omega), rfl⟩
  · go_enter Try.func21, Try.ntmps21
    go_wp2
    go_ret
    exact ⟨ret_int (by have := HQ.out; unfold nz; omega), rfl⟩

/-! ### fold -/
theorem ofInt_u64 (a : Nat) (ha : a < 18446744073709551616) : (BitVec.ofInt 64 (a : Int)).toNat = a := by
  rw [BitVec.ofInt_natCast, BitVec.toNat_ofNat]; exact Nat.mod_eq_of_lt (by omega)
theorem and_low (n : Int) (h : 0 ≤ n) (h1 : n < 18446744073709551616) : bits .and .u64 n 65535 = n % 65536 := by
  obtain ⟨m, rfl⟩ := Int.eq_ofNat_of_zero_le h
  show IntKind.u64.wrap ((BitVec.ofInt 64 (m : Int) &&& BitVec.ofInt 64 ((65535 : Nat) : Int)).toNat : Int) = _
  rw [BitVec.toNat_and, ofInt_u64 _ (by omega), ofInt_u64 _ (by omega), show (65535 : Nat) = 2 ^ 16 - 1 by rfl, Nat.and_two_pow_sub_one_eq_mod]
  simp [IntKind.wrap, IntKind.bits, IntKind.signed]
  omega
theorem fold_any (n : Int) (w : World) (h : 0 ≤ n) (h1 : n < 1000000000000) : Calls Try.prog 20 #[.int .u64 n] w fun e w' => e = .returned (.int .u64 (fold n)) ∧ w = w' := by
  go_enter Try.func20, Try.ntmps20
  go_wp2
  go_loop [0] (fun v => ∃ m : Int, v = .int .u64 m ∧ 0 ≤ m ∧ m < 1000000000000 ∧ Hid (fold m = fold n)) (fun v => (intOf v).toNat)
  case atStart => exact ⟨n, rfl, h, h1, rfl⟩
  case round =>
    obtain ⟨m, rfl, hm0, hm1, hm⟩ := hrel
    by_cases hlt : 65535 < m
    · have ha := and_low m hm0 (by omega)
      go_wp2
      go_round
      case rel => exact ⟨m / 65536 + m % 65536, val_int (by go_num), by omega, by omega, (by show _ = _; rw [fold_step m hlt, hm.out])⟩
      case measure => simp [intOf]; omega
    · go_wp2
      go_ret
      exact ⟨ret_int (by rw [← hm.out, fold_low m hm0 (by omega)]), rfl⟩
end Go.Proofs.Ytgdjckijbakmaaa
