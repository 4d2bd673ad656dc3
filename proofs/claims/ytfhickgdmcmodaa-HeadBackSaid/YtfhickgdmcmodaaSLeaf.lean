/-
  The contract of sum's fold. No statement is proved here.
-/
import Derived.Test.YtfhickgdmcmodaaProg
import Derived.Test.YtfhickgdmcmodaaLeaf
import Derived.Test.YtfhickgdmcmodaaSums
import Derived.KernelRfl
import Derived.Deep.QuietTactic
import Derived.BigQuiet
namespace Go.Proofs.Ytfhickgdmcmodaa
open Go.RowKit

/-! ### fold -/
theorem ofInt_u64 (a : Nat) (ha : a < 18446744073709551616) : (BitVec.ofInt 64 (a : Int)).toNat = a := by
  rw [BitVec.ofInt_natCast, BitVec.toNat_ofNat]; exact Nat.mod_eq_of_lt (by omega)
theorem and_low (n : Int) (h : 0 ≤ n) (h1 : n < 18446744073709551616) : bits .and .u64 n 65535 = n % 65536 := by
  obtain ⟨m, rfl⟩ := Int.eq_ofNat_of_zero_le h
  show IntKind.u64.wrap ((BitVec.ofInt 64 (m : Int) &&& BitVec.ofInt 64 ((65535 : Nat) : Int)).toNat : Int) = _
  rw [BitVec.toNat_and, ofInt_u64 _ (by omega), ofInt_u64 _ (by omega), show (65535 : Nat) = 2 ^ 16 - 1 by rfl, Nat.and_two_pow_sub_one_eq_mod]
  simp [IntKind.wrap, IntKind.bits, IntKind.signed]
  omega
theorem fold_any (n : Int) (w : World) (h : 0 ≤ n) (h1 : n < 1000000000000) : Calls Try.prog 34 #[.int .u64 n] w fun e w' => e = .returned (.int .u64 (fold n)) ∧ w = w' := by
  go_enter Try.func34, Try.ntmps34
  go_wp2
  go_loop [0] (fun v => ∃ m : Int, v = .int .u64 m ∧ 0 ≤ m ∧ m < 1000000000000 ∧ Hid (fold m = fold n)) (fun v => (intOf v).toNat)
  case atStart => exact ⟨n, rfl, h, h1, rfl⟩
  case round =>
    obtain ⟨m, rfl, hm0, hm1, hm⟩ := hrel
    by_cases hlt : 65535 < m
    · have ha := and_low m hm0 (by omega)
      go_wp2
      go_round
      case rel => exact ⟨m / 65536 + m % 65536, val_int (by go_num), by omega, by omega, (by show _ = _; rw [fold_step m hlt, hm.out])⟩
      case measure => simp [intOf]; omega
    · go_wp2
      go_ret
      exact ⟨ret_int (by rw [← hm.out, fold_low m hm0 (by omega)]), rfl⟩
end Go.Proofs.Ytfhickgdmcmodaa
