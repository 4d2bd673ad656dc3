/-
  Contracts of the small functions of package octet. No statement is proved here.
-/
import Derived.Test.YtadcicmccdphkaaProg
import Derived.Test.YtadcicmccdphkaaMem
import Derived.KernelRfl
import Derived.Deep.QuietTactic
import Derived.BigQuiet
namespace Go.Proofs.Ytadcicmccdphkaa
open Go.RowKit

theorem info5 : (Try.prog.info? 5).map (fun i => (i.zero, i.size, i.bytes)) = some (some (.int .u8 0), 1, 1) := by kernel_rfl
theorem info23 : (Try.prog.info? 29).map (fun i => (i.zero, i.size, i.bytes)) = some (some (.int .u32 0), 1, 4) := by kernel_rfl

theorem isWidth_yes (m : Int) (w : World) (h1 : 1 ≤ m) (h2 : m ≤ 4) : Calls Try.prog 75 #[.int .i64 m] w fun e w' => e = .returned (.bool true) ∧ w = w' := by
  go_enter Try.func75, Try.ntmps75
  go_wp2
  go_ret
  exact ⟨rfl, rfl⟩
theorem isWidth_no (m : Int) (w : World) (h : m < 1 ∨ 4 < m) : Calls Try.prog 75 #[.int .i64 m] w fun e w' => e = .returned (.bool false) ∧ w = w' := by
  rcases h with h | h
  · go_enter Try.func75, Try.ntmps75
    go_wp2
    go_ret
    exact ⟨rfl, rfl⟩
  · have h1 : 1 ≤ m := by omega
    have h2 : decide (m ≤ 4) = false := by simp; omega
    go_enter Try.func75, Try.ntmps75
    go_wp2
    go_ret
    exact ⟨rfl, rfl⟩

theorem pow8 (m : Int) : (2 : Int) ^ (8 * m).toNat = 256 ^ m.toNat := by
  rw [show (8 * m).toNat = 8 * m.toNat by omega, Int.pow_mul]; rfl
theorem pow_pos' (k : Nat) : (0 : Int) < 256 ^ k := Int.pow_pos (by decide)
theorem fits_yes (n m : Int) (w : World) (h1 : 1 ≤ m) (h2 : m ≤ 4) (h3 : 0 ≤ n) (__h4 : n < 4294967296) (h5 : n < 256 ^ m.toNat) : Calls Try.prog 94 #[.int .u32 n, .int .i64 m] w fun e w' => e = .returned (.bool true) ∧ w = w' := by
  have hd : (n / 2 ^ (8 * m).toNat == 0) = true := by rw [pow8]; simp; exact Int.ediv_eq_zero_of_lt h3 h5
  clear h5
  go_enter Try.func94, Try.ntmps94
  go_wp2
  go_ret
  exact ⟨rfl, rfl⟩
theorem fits_no (n m : Int) (w : World) (h1 : 1 ≤ m) (h2 : m ≤ 4) (_h3 : 0 ≤ n) (_h4 : n < 4294967296) (h5 : 256 ^ m.toNat ≤ n) : Calls Try.prog 94 #[.int .u32 n, .int .i64 m] w fun e w' => e = .returned (.bool false) ∧ w = w' := by
  have hd : (n / 2 ^ (8 * m).toNat == 0) = false := by
    rw [pow8]; simp
    have := Int.le_ediv_of_mul_le (c := 256 ^ m.toNat) (a := 1) (b := n) (pow_pos' _) (by omega)
    omega
  clear h5
  go_enter Try.func94, Try.ntmps94
  go_wp2
  go_ret
  exact ⟨rfl, rfl⟩

theorem ofInt_u32 (a : Nat) (ha : a < 4294967296) : (BitVec.ofInt 32 (a : Int)).toNat = a := by
  rw [BitVec.ofInt_natCast, BitVec.toNat_ofNat]; exact Nat.mod_eq_of_lt (by omega)
theorem or_byte (a x : Int) (ha : 0 ≤ a) (ha2 : a < 16777216) (hx : 0 ≤ x) (hx2 : x < 256) : bits .or .u32 (a * 256 % 4294967296) (x % 4294967296) = a * 256 + x := by
  obtain ⟨m, rfl⟩ := Int.eq_ofNat_of_zero_le ha
  obtain ⟨y, rfl⟩ := Int.eq_ofNat_of_zero_le hx
  rw [show (m : Int) * 256 % 4294967296 = ((m * 256 : Nat) : Int) by omega, show (y : Int) % 4294967296 = (y : Int) by omega]
  show IntKind.u32.wrap ((BitVec.ofInt 32 ((m * 256 : Nat) : Int) ||| BitVec.ofInt 32 (y : Int)).toNat : Int) = _
  rw [BitVec.toNat_or, ofInt_u32 _ (by omega), ofInt_u32 _ (by omega)]
  have h := Nat.shiftLeft_add_eq_or_of_lt (i := 8) (b := y) (by omega) m
  rw [Nat.shiftLeft_eq] at h
  rw [show m * 256 = m * 2 ^ 8 by rfl, ← h]
  simp [IntKind.wrap, IntKind.bits, IntKind.signed]
  omega
theorem num_take (l : List Int) (hy : Byt l) (j : Nat) (hj : j < l.length) (hl : l.length ≤ 4) : 0 ≤ num (l.take j) ∧ num (l.take j) < 16777216 := by
  have h := num_bd (l.take j) (hy.take j)
  have hj' : (l.take j).length = j := by simp; omega
  rw [hj'] at h
  have : (256 : Int) ^ j ≤ 16777216 := by
    have : j = 0 ∨ j = 1 ∨ j = 2 ∨ j = 3 := by omega
    rcases this with rfl | rfl | rfl | rfl <;> decide
  omega
theorem num_step (l : List Int) (hy : Byt l) (j : Nat) (hj : j < l.length) (hl : l.length ≤ 4) : bits .or .u32 (num (l.take j) * 256 % 4294967296) (l[j] % 4294967296) = num (l.take (j + 1)) := by
  have hb := num_take l hy j hj hl
  have hx := hy l[j] (List.getElem_mem hj)
  rw [or_byte _ _ hb.1 hb.2 hx.1 hx.2, List.take_succ_eq_append_getElem hj, num_snoc]

theorem val_int {k : IntKind} {a b : Int} (h : a = b) : Value.int k a = .int k b := by rw [h]
theorem ret_int {k : IntKind} {a b : Int} (h : a = b) : Ending.returned (.int k a) = .returned (.int k b) := by rw [h]

theorem num_any (A : Option Addr) (c : Nat) (l : List Int) (B : Nat) (w : World) (hb : Bs .u8 w B A l) (hl : l.length ≤ 4) (hy : Byt l) :
    Calls Try.prog 76 #[.slice A l.length c] w fun e w' => e = .returned (.int .u32 (num l)) ∧ w = w' := by
  go_enter Try.func76, Try.ntmps76
  go_wp2
  go_loop [3, 8, 5] (fun n i _ => ∃ j : Nat, j ≤ l.length ∧ i = .int .i64 j ∧ n = .int .u32 (num (l.take j))) (fun _ i _ => l.length - (intOf i).toNat)
  case atStart => exact ⟨0, Nat.zero_le _, rfl, rfl⟩
  case round =>
    obtain ⟨j, hj, rfl, rfl⟩ := hrel
    by_cases hlt : j < l.length
    · obtain ⟨b, off, rfl, _, hc⟩ := hb.at_ hlt
      go_wp2
      go_round
      case rel => exact ⟨j + 1, by omega, by go_num, val_int (num_step l hy j hlt hl)⟩
      case measure => simp [intOf]; omega
    · go_wp2
      go_ret
      exact ⟨ret_int (by rw [List.take_of_length_le (by omega)]), rfl⟩

theorem be_step (n : Int) (m j : Nat) (hj : j < m) : be (n / 256 ^ (j + 1)) (m - (j + 1)) ++ [n / 256 ^ j % 256] = be (n / 256 ^ j) (m - j) := by
  rw [show m - j = (m - (j + 1)) + 1 by omega, be, Int.pow_succ, Int.ediv_ediv_of_nonneg (by exact Int.le_of_lt (pow_pos' j))]

theorem app_any (A : Option Addr) (c : Nat) (l : List Int) (base : Nat) (n m : Int) (w : World) (ho : Own .u8 5 w base A c l) (h1 : 1 ≤ m) (h2 : m ≤ 4) (_h3 : 0 ≤ n) (_h4 : n < 4294967296) (hB : base ≤ w.heap.size) (hl : l.length ≤ 1000000) :
    Calls Try.prog 95 #[.slice A l.length c, .int .u32 n, .int .i64 m] w fun e w' => ∃ A' c' L, Hid (L = l ++ be n m.toNat) ∧ e = .returned (.slice A' L.length c') ∧ Own .u8 5 w' base A' c' L ∧ Below base w w' := by
  obtain ⟨i0, hi, hz0, hz1, hz2⟩ := info_parts info5
  go_enter Try.func95, Try.ntmps95
  go_wp2
  go_loopw [0, 7] (fun v i wr => ∃ (j : Nat) (A' : Option Addr) (c' : Nat) (l' : List Int), j ≤ m.toNat ∧ i = .int .i64 ((j : Int) - 1) ∧ v = .slice A' l'.length c' ∧ Hid (l' = l ++ be (n / 256 ^ j) (m.toNat - j)) ∧ Own .u8 5 wr base A' c' l' ∧ Below base w wr) (fun _ i _ => (intOf i + 1).toNat)
  case atStart => exact ⟨m.toNat, A, c, l, by omega, by rw [Int.toNat_of_nonneg (by omega)], rfl, (by show _ = _; simp [be]), ho, Below.refl _ _⟩
  case round =>
    obtain ⟨j, A', c', l', hj, rfl, rfl, hl', ho', hbw⟩ := hrel
    cases j with
    | zero =>
      have hE : Hid (l' = l ++ be n m.toNat) := by show _ = _; rw [hl'.out]; simp
      go_wp2
      go_ret
      exact ⟨A', c', l', hE, rfl, ho', hbw⟩
    | succ j =>
      rw [show (((j + 1 : Nat) : Int) - 1) = (j : Int) from by omega]
      have hlen : l'.length ≤ 1000004 := by rw [hl'.out]; simp [be_length]; omega
      have hsz := hbw.size
      go_wp2_with (at_builtin; refine wpList_app _ rfl (.tmp 14) (.tmp 20) 32 rfl base 5 .u8 i0 _ 1 Try.underlying32 hi hz0 hz1 hz2 rfl A' c' l' rfl (ho'.alloc _) _ _ 1 [_] rfl (Bs.one _ _ _ _) (by simp [maxLen]; omega) (by simp; omega) (by simp; omega) ?_; intro l3 A3 c3 w3 hl3 ho3 hb3)
      go_roundw
      case rel => exact ⟨j, A3, c3, l3, by omega, by go_num, rfl, (by show _ = _; rw [hl3.out, hl'.out, List.append_assoc, show (2 : Int) ^ (8 * j) = 256 ^ j by rw [Int.pow_mul]; rfl, be_step _ _ _ (by omega)]), ho3, (hbw.alloc (by omega) _).trans hb3⟩
      case measure => simp [intOf]
theorem fresh_any (A : Option Addr) (c : Nat) (l : List Int) (B : Nat) (w : World) (hb : Bs .u8 w B A l) (hB : B ≤ w.heap.size) (hl : l.length ≤ 1000000) :
    Calls Try.prog 77 #[.slice A l.length c] w fun e w' => e = .returned (.slice (some ⟨w.heap.size, 0, none⟩) l.length l.length) ∧ Own .u8 5 w' w.heap.size (some ⟨w.heap.size, 0, none⟩) l.length l ∧ Below w.heap.size w w' := by
  obtain ⟨i0, hi, hz0, hz1, hz2⟩ := info_parts info5
  obtain ⟨z, w1, hz, hmk, hO, hB1⟩ := mk_own (P := Try.prog) w 32 5 .u8 i0 Try.underlying32 hi hz0 hz1 .i64 .i64 l.length l.length l.length l.length rfl rfl (Nat.le_refl _) (by rw [hz2]; omega) (by unfold maxLen; omega)
  have hb1 := hb.below (hB1.mono hB)
  have HR := Lib.hid hz
  clear hz
  go_enter Try.func77, Try.ntmps77
  go_wp2_with (with_reducible refine wpList_cp (o := ⟨some 9, _, _, _, _, _⟩) _ rfl (.tmp 7) (.tmp 8) 32 32 rfl w.heap.size 5 .u8 Try.underlying32 (by kernel_rfl) _ l.length z rfl hO B A c l rfl hb1 (by rw [HR.out]; exact Nat.le_refl _) ?_; intro w2 hO2 hB2)
  go_ret
  rw [List.drop_eq_nil_of_le (by rw [HR.out]; exact Nat.le_refl _), List.append_nil] at hO2
  refine ⟨?_, hO2, hB1.trans hB2⟩
  show Ending.returned (.slice _ z.length _) = _
  rw [HR.out]

/-! ### Put -/
def putE (n m : Int) : Int := if m < 1 ∨ 4 < m then 1 else if 256 ^ m.toNat ≤ n then 5 else 0
def putL (l : List Int) (n m : Int) : List Int := if putE n m = 0 then l ++ be n m.toNat else []
theorem put_any (A : Option Addr) (c : Nat) (l : List Int) (B : Nat) (n m : Int) (w : World) (hb : Bs .u8 w B A l) (hB : B ≤ w.heap.size) (hl : l.length ≤ 100000) (h3 : 0 ≤ n) (h4 : n < 4294967296) :
    Calls Try.prog 89 #[.slice A l.length c, .int .u32 n, .int .i64 m] w fun e w' => ∃ A' c', e = .returned (.tuple #[.slice A' (putL l n m).length c', .int .i64 (putE n m)]) ∧ Own .u8 5 w' w.heap.size A' c' (putL l n m) ∧ Below w.heap.size w w' := by
  by_cases hm : m < 1 ∨ 4 < m
  · have e1 : putE n m = 1 := by simp [putE, hm]
    have e2 : putL l n m = [] := by simp [putL, e1]
    rw [e1, e2]
    have HM := Lib.hid hm
    clear hm e1 e2
    go_enter Try.func89, Try.ntmps89
    go_wp2_with (go_at_call 75; refine (isWidth_no _ _ HM.out).mono ?_; rintro e w' ⟨rfl, rfl⟩)
    go_ret2
    exact ⟨none, 0, rfl, Own.nil _ _, Below.refl _ _⟩
  · have h1 : 1 ≤ m := by omega
    have h2 : m ≤ 4 := by omega
    by_cases hf : 256 ^ m.toNat ≤ n
    · have e1 : putE n m = 5 := by simp [putE, hm, hf]
      have e2 : putL l n m = [] := by simp [putL, e1]
      rw [e1, e2]
      have HF := Lib.hid hf
      clear hm e1 e2 hf
      go_enter Try.func89, Try.ntmps89
      go_wp2_with (first | (go_at_call 75; refine (isWidth_yes _ _ h1 h2).mono ?_; rintro e w' ⟨rfl, rfl⟩) | (go_at_call 94; refine (fits_no _ _ _ h1 h2 h3 h4 HF.out).mono ?_; rintro e w' ⟨rfl, rfl⟩))
      go_ret2
      exact ⟨none, 0, rfl, Own.nil _ _, Below.refl _ _⟩
    · have e1 : putE n m = 0 := by simp [putE, hm, hf]
      have e2 : putL l n m = l ++ be n m.toNat := by simp [putL, e1]
      rw [e1, e2]
      have hf' : n < 256 ^ m.toNat := by omega
      have HF := Lib.hid hf'
      clear hm e1 e2 hf hf'
      obtain ⟨i0, hi, hz0, hz1, hz2⟩ := info_parts info5
      obtain ⟨z, w1, hz, hmk, hO, hB1⟩ := mk_own (P := Try.prog) w 32 5 .u8 i0 Try.underlying32 hi hz0 hz1 .i64 .i64 l.length (l.length + m) l.length (l.length + m.toNat) rfl (by omega) (by omega) (by rw [hz2]; omega) (by unfold maxLen; omega)
      have hb1 := hb.below (hB1.mono hB)
      have HR := Lib.hid hz
      clear hz
      go_enter Try.func89, Try.ntmps89
      go_wp2_with (first | (go_at_call 75; refine (isWidth_yes _ _ h1 h2).mono ?_; rintro e w' ⟨rfl, rfl⟩) | (go_at_call 94; refine (fits_yes _ _ _ h1 h2 h3 h4 HF.out).mono ?_; rintro e w' ⟨rfl, rfl⟩) | (with_reducible refine wpList_cp (o := ⟨some 25, _, _, _, _, _⟩) _ rfl (.tmp 23) (.tmp 24) 32 32 rfl w.heap.size 5 .u8 Try.underlying32 (by kernel_rfl) _ (l.length + m.toNat) z rfl hO B A c l rfl hb1 (by rw [HR.out]; exact Nat.le_refl _) ?_; intro w2 hO2 hB2))
      rw [List.drop_eq_nil_of_le (by rw [HR.out]; exact Nat.le_refl _), List.append_nil] at hO2
      rw [HR.out]
      have hs1 := hB1.size
      have hs2 := hB2.size
      refine (app_any _ _ l w.heap.size n m w2 hO2 h1 h2 h3 h4 (by omega) (by omega)).mono ?_
      rintro e w3 ⟨A', c', L, hL, rfl, hO3, hB3⟩
      go_wp2
      go_ret2
      rw [← hL.out]
      exact ⟨A', c', rfl, hO3, (hB1.trans hB2).trans hB3⟩
end Go.Proofs.Ytadcicmccdphkaa
