/-
  Masks: which numbers are masks, addr.Long and the reference's Long. No statement is proved here; no conditions.
-/
import Derived.Test.YtadcicmccdphkaaNum
import Derived.Test.YtadcicmccdphkaaLeaf
import Derived.Below
import Derived.BigQuiet
import Derived.Deep.QuietTactic
import Derived.KernelRfl
import Derived.Laws.Cover1
import Derived.Lib.Hide
import Derived.Lib.QuietBelow
import Derived.Lib.SmallJoins
import Derived.Lib.Tables
import Derived.StillTailTactics
import Derived.WalkKit
namespace Go.Proofs.Ytadcicmccdphkaa
open Go.RowKit Go.Joins

theorem mask_any (n : Int) (w : World) : Calls Try.prog 98 #[.int .i64 n] w fun e w' => e = .returned (.int .u32 (mk (cl n) : Int)) ∧ w' = w := by
  have h := shl_mk (cl n) (cl_le n)
  rw [← h]
  clear h
  by_cases h0 : n ≤ 0
  · have e : cl n = 0 := by unfold cl; omega
    rw [e]
    have q : ¬ (32 < n) := by omega
    go_enter Try.func98, Try.ntmps98
    go_wp2
    all_goals first | omega | skip
    all_goals go_ret
    all_goals exact ⟨ret_int (by first | rfl | (simp; done) | omega), rfl⟩
  · by_cases h1 : 32 < n
    · have e : cl n = 32 := by unfold cl; omega
      rw [e]
      go_enter Try.func98, Try.ntmps98
      go_wp2
      all_goals first | omega | skip
      all_goals go_ret
      all_goals exact ⟨ret_int (by first | rfl | (simp; done) | omega), rfl⟩
    · have e : (32 - n).toNat = 32 - cl n := by unfold cl; omega
      have q0 : 0 < n := by omega
      have q1 : n ≤ 32 := by omega
      go_enter Try.func98, Try.ntmps98
      go_wp2
      all_goals first | omega | skip
      all_goals go_ret
      all_goals exact ⟨ret_int (by simp), rfl⟩
theorem beq_zero_dec (a b : Nat) : ((a : Int) % (b : Int) == 0) = decide (a % b = 0) := by
  rw [← Int.natCast_emod, Bool.eq_iff_iff]
  simp only [beq_iff_eq, decide_eq_true_eq]
  omega
theorem beq_dec (a b : Nat) : ((a : Int) == (b : Int)) = decide (a = b) := by
  rw [Bool.eq_iff_iff]
  simp only [beq_iff_eq, decide_eq_true_eq]
  omega
theorem pop_bd : ∀ n : Fin 256, 0 ≤ Lib.pop8 n.val ∧ Lib.pop8 n.val ≤ 8 := by decide +kernel
theorem pop_le (y : Nat) (h : y < 256) : 0 ≤ Lib.pop8 (y : Int) ∧ Lib.pop8 (y : Int) ≤ 8 := pop_bd ⟨y, h⟩
/-- How many bits are 1, byte by byte. -/
def oc (x : Nat) : Int := Lib.pop8 ((x / 16777216 : Nat) : Int) + Lib.pop8 ((x / 65536 % 256 : Nat) : Int) + Lib.pop8 ((x / 256 % 256 : Nat) : Int) + Lib.pop8 ((x % 256 : Nat) : Int)
theorem oc_tab : ∀ n : Fin 33, oc (mk n.val) = (n.val : Int) := by decide +kernel
theorem oc_mk (n : Nat) (h : n ≤ 32) : oc (mk n) = (n : Int) := oc_tab ⟨n, by omega⟩
theorem bits_byte (x : Nat) (h : x < 4294967296) : bits .and .u32 (x : Int) 255 = ((x % 256 : Nat) : Int) := by
  have := u32_and_nat x 255 h (by omega)
  rw [show (255 : Nat) = 2 ^ 8 - 1 by rfl, Nat.and_two_pow_sub_one_eq_mod] at this
  exact this
theorem ones_any (x : Nat) (w : World) (hx : x < 4294967296) : Calls Try.prog 97 #[.int .u32 (x : Int)] w fun e w' => e = .returned (.int .i64 (oc x)) ∧ Below w.heap.size w w' := by
  have b2 : bits .and .u32 ((x : Int) / 65536) 255 = ((x / 65536 % 256 : Nat) : Int) := bits_byte (x / 65536) (by omega)
  have b1 : bits .and .u32 ((x : Int) / 256) 255 = ((x / 256 % 256 : Nat) : Int) := bits_byte (x / 256) (by omega)
  have b0 : bits .and .u32 (x : Int) 255 = ((x % 256 : Nat) : Int) := bits_byte x hx
  have b3 : (x : Int) / 16777216 = ((x / 16777216 : Nat) : Int) := by omega
  have h3 : x / 16777216 < 256 := by omega
  have h2 : x / 65536 % 256 < 256 := by omega
  have h1 : x / 256 % 256 < 256 := by omega
  have h0 : x % 256 < 256 := by omega
  unfold oc
  generalize x / 65536 % 256 = y2 at *
  generalize x / 256 % 256 = y1 at *
  generalize x % 256 = y0 at *
  generalize x / 16777216 = y3 at *
  obtain ⟨q3, r3⟩ := pop_le y3 h3
  obtain ⟨q2, r2⟩ := pop_le y2 h2
  obtain ⟨q1, r1⟩ := pop_le y1 h1
  obtain ⟨q0, r0⟩ := pop_le y0 h0
  have i3 : ∀ W, (Instr.index 9 (.string Lib.pop8tab) (.int .u32 (y3 : Int))).run Try.prog W = .ok (.int .u8 (Lib.pop8 (y3 : Int))) W := fun W => Lib.run_index_pop8tab W 9 .u32 _ Try.underlying9 (by omega) (by omega)
  have i2 : ∀ W, (Instr.index 9 (.string Lib.pop8tab) (.int .u32 (y2 : Int))).run Try.prog W = .ok (.int .u8 (Lib.pop8 (y2 : Int))) W := fun W => Lib.run_index_pop8tab W 9 .u32 _ Try.underlying9 (by omega) (by omega)
  have i1 : ∀ W, (Instr.index 9 (.string Lib.pop8tab) (.int .u32 (y1 : Int))).run Try.prog W = .ok (.int .u8 (Lib.pop8 (y1 : Int))) W := fun W => Lib.run_index_pop8tab W 9 .u32 _ Try.underlying9 (by omega) (by omega)
  have i0 : ∀ W, (Instr.index 9 (.string Lib.pop8tab) (.int .u32 (y0 : Int))).run Try.prog W = .ok (.int .u8 (Lib.pop8 (y0 : Int))) W := fun W => Lib.run_index_pop8tab W 9 .u32 _ Try.underlying9 (by omega) (by omega)
  generalize Lib.pop8 (y3 : Int) = p3 at *
  generalize Lib.pop8 (y2 : Int) = p2 at *
  generalize Lib.pop8 (y1 : Int) = p1 at *
  generalize Lib.pop8 (y0 : Int) = p0 at *
  go_enter Try.func97, Try.ntmps97
  go_wp2_with fail
  simp only [List.append_eq, List.cons_append, List.nil_append, Lib.fold_pop8tab]
  go_quiet (fail)
  go_wp2
  go_ret
  exact ⟨ret_int (by omega), below_draws _ _ _⟩
theorem long_any (x : Nat) (w : World) (hx : x < 4294967296) : Calls Try.prog 92 #[.int .u32 (x : Int)] w fun e w' => e = .returned (if x = mk (cl (oc x)) then .tuple #[.int .i64 (oc x), .int .i64 0] else .tuple #[.int .i64 0, .int .i64 3]) ∧ Below w.heap.size w w' := by
  by_cases h : x = mk (cl (oc x))
  · rw [if_pos h]
    have h1 : ((x : Int) != (mk (cl (oc x)) : Int)) = false := by rw [← h]; simp
    clear h
    go_enter Try.func92, Try.ntmps92
    go_wp2_with fail
    refine (ones_any _ _ hx).mono ?_
    rintro e w1 ⟨rfl, hb⟩
    go_wp2_with fail
    refine (mask_any _ _).mono ?_
    rintro e w2 ⟨rfl, rfl⟩
    go_wp2
    go_ret2
    exact ⟨rfl, hb⟩
  · rw [if_neg h]
    have h1 : ((x : Int) != (mk (cl (oc x)) : Int)) = true := by simp; omega
    clear h
    go_enter Try.func92, Try.ntmps92
    go_wp2_with fail
    refine (ones_any _ _ hx).mono ?_
    rintro e w1 ⟨rfl, hb⟩
    go_wp2_with fail
    refine (mask_any _ _).mono ?_
    rintro e w2 ⟨rfl, rfl⟩
    go_wp2
    go_ret2
    exact ⟨rfl, hb⟩
/-- The reference's mask behind i rounds. -/
def rm (c i : Nat) : Nat := (2 ^ (min i c) - 1) * 2 ^ (i - min i c)
theorem rm_lt (c i : Nat) : rm c i < 2 ^ i := by
  unfold rm
  have h1 : 0 < 2 ^ min i c := Nat.two_pow_pos _
  have h2 : 0 < 2 ^ (i - min i c) := Nat.two_pow_pos _
  have h3 : 2 ^ i = 2 ^ min i c * 2 ^ (i - min i c) := by rw [← Nat.pow_add]; congr 1; omega
  rw [h3]
  exact Nat.mul_lt_mul_of_pos_right (by omega) h2
theorem rm_in (c i : Nat) (h : i < c) : rm c (i + 1) = rm c i * 2 + 1 := by
  unfold rm
  rw [show min (i + 1) c = i + 1 by omega, show min i c = i by omega, Nat.sub_self, Nat.sub_self, Nat.pow_succ]
  have : 0 < 2 ^ i := Nat.two_pow_pos _
  omega
theorem rm_out (c i : Nat) (h : c ≤ i) : rm c (i + 1) = rm c i * 2 := by
  unfold rm
  rw [show min (i + 1) c = c by omega, show min i c = c by omega, show i + 1 - c = (i - c) + 1 by omega, Nat.pow_succ, Nat.mul_assoc]
theorem rm_end (c : Nat) (h : c ≤ 32) : rm c 32 = mk c := by
  unfold rm
  rw [show min 32 c = c by omega, mk_eq c h]
/-- What Long tells. -/
def lg (x : Nat) : Value := if x = mk (cl (oc x)) then .tuple #[.int .i64 (oc x), .int .i64 0] else .tuple #[.int .i64 0, .int .i64 3]
theorem lg_mk (n : Nat) (h : n ≤ 32) : lg (mk n) = .tuple #[.int .i64 (n : Int), .int .i64 0] := by
  unfold lg
  rw [oc_mk n h, cl_nat n h, if_pos rfl]
end Go.Proofs.Ytadcicmccdphkaa
