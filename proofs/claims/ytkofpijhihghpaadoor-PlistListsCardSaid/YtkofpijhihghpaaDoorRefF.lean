/-
  The contract of the seventh reference's Decimal. No statement is proved here; no conditions.
-/
import Derived.Test.YtkofpijhihghpaaDoorRefC
namespace Go.Proofs.YtkofpijhihghpaaDoor
open Go.RowKit Go.Joins

theorem decimal7_pos (u : Nat) (w : World) (h1 : u ≤ 9223372036854775807) : Calls Tryd.prog 42 #[.int .i64 (u : Int)] w fun e w' => e = .returned (.string (st (Lib.decDigits u))) ∧ Below w.heap.size w w' := by
  have hlen : (Lib.decDigits u).length ≤ 21 := by
    have := Lib.itoa_length_le (u : Int) (by omega) (by omega)
    rwa [Lib.itoa_nonneg] at this
  have hc := conv1 w w.heap.size u (48 + (u : Int) % 10) rfl rfl
  generalize hD : Lib.decDigits u = D at *
  have HD := Lib.hid hD
  clear hD
  have hn : decide ((u : Int) < 0) = false := decide_eq_false (by omega)
  go_enter Tryd.func42, Tryd.ntmps42
  go_wp2
  have hbw := below_alloc1 w (.cells #[.int .u8 (48 + (u : Int) % 10)] 5)
  generalize w.alloc (.cells #[.int .u8 (48 + (u : Int) % 10)] 5) = W1 at *
  go_loopg [4, 5] u (fun gf v4 v5 wx => ∃ (v : Nat) (t : List UInt8), v4 = .int .u64 (v : Int) ∧ v5 = .string (st (ld v :: t)) ∧ v ≤ gf ∧ v ≤ u ∧ Hid (D = rst v ++ (ld v :: t)) ∧ Below w.heap.size w wx)
  case atStart => exact ⟨u, [], rfl, rfl, Nat.le_refl _, Nat.le_refl _, Lib.hid (by rw [← HD.out]; exact dec_rst u), hbw⟩
  case round =>
    clear hbw hc
    obtain ⟨v, t, rfl, rfl, hv, hv2, he, hbw⟩ := hrel
    have htl : t.length ≤ 21 := by
      have := congrArg List.length he.out
      simp at this
      omega
    by_cases hlt : v < 10
    · have hlt' : decide (10 ≤ (v : Int)) = false := decide_eq_false (by omega)
      have he2 := he.out
      rw [rst_small hlt, List.nil_append] at he2
      generalize hS : ld v :: t = S at *
      clear hS
      subst he2
      go_wp2
      go_ret
      exact ⟨rfl, hbw⟩
    · have hlt' : 10 ≤ (v : Int) := by omega
      have hc := conv1 wr wr.heap.size (v / 10) (48 + (v : Int) / 10 % 10) (by omega) rfl
      have he2 := he.out
      rw [rst_big hlt] at he2
      have HE := Lib.hid he2
      have hz : (ld v :: t).length ≤ 22 := by simp; omega
      generalize ld v :: t = S at *
      clear he he2
      go_wp2
      go_roundg (gk - 1)
      case measure => omega
      case rel => exact ⟨v / 10, S, val_int (by omega), by apply congrArg Value.string; apply ByteArray.ext; simp, by omega, by omega, Lib.hid (by rw [HE.out]; simp), hbw.trans ((below_alloc1 wr _).mono hbw.size)⟩
set_option maxRecDepth 100000 in
theorem decimal7_neg (u : Nat) (w : World) (h0 : 1 ≤ u) (h1 : u ≤ 9223372036854775808) : Calls Tryd.prog 42 #[.int .i64 (-(u : Int))] w fun e w' => e = .returned (.string (st (45 :: Lib.decDigits u))) ∧ Below w.heap.size w w' := by
  have hlen : (Lib.decDigits u).length ≤ 21 := by
    have := Lib.itoa_length_le (-(u : Int)) (by omega) (by omega)
    rw [Lib.itoa_neg u h0] at this
    simp at this
    omega
  have hc := conv1 w w.heap.size u (48 + (u : Int) % 10) rfl rfl
  generalize hD : Lib.decDigits u = D at *
  have HD := Lib.hid hD
  clear hD
  have hn : -(u : Int) < 0 := by omega
  have w1 : IntKind.u64.wrap (-(u : Int)) = 18446744073709551616 - (u : Int) := by
    simp [IntKind.wrap, IntKind.bits, IntKind.signed]
    omega
  have w2 : IntKind.u64.wrap (-(18446744073709551616 - (u : Int))) = (u : Int) := by
    simp [IntKind.wrap, IntKind.bits, IntKind.signed]
    omega
  generalize 18446744073709551616 - (u : Int) = V at *
  go_enter Tryd.func42, Tryd.ntmps42
  go_wp2
  have hbw := below_alloc1 w (.cells #[.int .u8 (48 + (u : Int) % 10)] 5)
  generalize w.alloc (.cells #[.int .u8 (48 + (u : Int) % 10)] 5) = W1 at *
  go_loopg [4, 5] u (fun gf v4 v5 wx => ∃ (v : Nat) (t : List UInt8), v4 = .int .u64 (v : Int) ∧ v5 = .string (st (ld v :: t)) ∧ v ≤ gf ∧ v ≤ u ∧ Hid (D = rst v ++ (ld v :: t)) ∧ Below w.heap.size w wx)
  case atStart => exact ⟨u, [], rfl, rfl, Nat.le_refl _, Nat.le_refl _, Lib.hid (by rw [← HD.out]; exact dec_rst u), hbw⟩
  case round =>
    clear hbw hc
    obtain ⟨v, t, rfl, rfl, hv, hv2, he, hbw⟩ := hrel
    have htl : t.length ≤ 21 := by
      have := congrArg List.length he.out
      simp at this
      omega
    by_cases hlt : v < 10
    · have hlt' : decide (10 ≤ (v : Int)) = false := decide_eq_false (by omega)
      have he2 := he.out
      rw [rst_small hlt, List.nil_append] at he2
      generalize hS : ld v :: t = S at *
      clear hS
      subst he2
      go_wp2
      go_ret
      exact ⟨congrArg (fun s => Ending.returned (.string s)) (ByteArray.ext (by simp)), hbw⟩
    · have hlt' : 10 ≤ (v : Int) := by omega
      have hc := conv1 wr wr.heap.size (v / 10) (48 + (v : Int) / 10 % 10) (by omega) rfl
      have he2 := he.out
      rw [rst_big hlt] at he2
      have HE := Lib.hid he2
      have hz : (ld v :: t).length ≤ 22 := by simp; omega
      generalize ld v :: t = S at *
      clear he he2
      go_wp2
      go_roundg (gk - 1)
      case measure => omega
      case rel => exact ⟨v / 10, S, val_int (by omega), by apply congrArg Value.string; apply ByteArray.ext; simp, by omega, by omega, Lib.hid (by rw [HE.out]; simp), hbw.trans ((below_alloc1 wr _).mono hbw.size)⟩
theorem decimal7_any (n : Int) (w : World) (h0 : -9223372036854775808 ≤ n) (h1 : n ≤ 9223372036854775807) : Calls Tryd.prog 42 #[.int .i64 n] w fun e w' => e = .returned (.string (st (Lib.itoa n))) ∧ Below w.heap.size w w' := by
  by_cases h : 0 ≤ n
  · obtain ⟨u, rfl⟩ : ∃ u : Nat, n = (u : Int) := ⟨n.toNat, by omega⟩
    rw [Lib.itoa_nonneg]
    exact decimal7_pos u w (by omega)
  · obtain ⟨u, rfl⟩ : ∃ u : Nat, n = -(u : Int) := ⟨(-n).toNat, by omega⟩
    rw [Lib.itoa_neg u (by omega)]
    exact decimal7_neg u w (by omega) (by omega)
end Go.Proofs.YtkofpijhihghpaaDoor
