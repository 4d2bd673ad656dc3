/-
  Contracts of the small functions of package addr: Mask, isLength, May, Bit. No statement is proved here.
-/
import Derived.Test.YtlmcgjdenfnkmaaProg
import Derived.Test.YtlmcgjdenfnkmaaNum
import Derived.WalkKit
import Derived.Below
import Derived.Lib.Hide
import Derived.Lib.SmallJoins
import Derived.KernelRfl
import Derived.Deep.QuietTactic
import Derived.BigQuiet
import Derived.Lib.QuietBelow
import Derived.Laws.Cover1
import Derived.StillTailTactics
namespace Go.Proofs.Ytlmcgjdenfnkmaa
open Go.RowKit Go.Joins

theorem val_int {k : IntKind} {a b : Int} (h : a = b) : Value.int k a = .int k b := by rw [h]
theorem ret_int {k : IntKind} {a b : Int} (h : a = b) : Ending.returned (.int k a) = .returned (.int k b) := by rw [h]
theorem ret_bool {a b : Bool} (h : a = b) : Ending.returned (.bool a) = .returned (.bool b) := by rw [h]
/-- A prefix as a value. -/
abbrev pf (A : Nat) (N : Int) : Value := .agg #[.int .u32 (A : Int), .int .i64 N]

theorem mask_any (n : Int) (w : World) : Calls Try.prog 39 #[.int .i64 n] w fun e w' => e = .returned (.int .u32 (mk (cl n) : Int)) ∧ w' = w := by
  have h := shl_mk (cl n) (cl_le n)
  rw [← h]
  clear h
  by_cases h0 : n ≤ 0
  · have e : cl n = 0 := by unfold cl; omega
    rw [e]
    have q : ¬ (32 < n) := by omega
    go_enter Try.func39, Try.ntmps39
    go_wp2
    all_goals first | omega | skip
    all_goals go_ret
    all_goals exact ⟨ret_int (by first | rfl | (simp; done) | omega), rfl⟩
  · by_cases h1 : 32 < n
    · have e : cl n = 32 := by unfold cl; omega
      rw [e]
      go_enter Try.func39, Try.ntmps39
      go_wp2
      all_goals first | omega | skip
      all_goals go_ret
      all_goals exact ⟨ret_int (by first | rfl | (simp; done) | omega), rfl⟩
    · have e : (32 - n).toNat = 32 - cl n := by unfold cl; omega
      have q0 : 0 < n := by omega
      have q1 : n ≤ 32 := by omega
      go_enter Try.func39, Try.ntmps39
      go_wp2
      all_goals first | omega | skip
      all_goals go_ret
      all_goals exact ⟨ret_int (by simp), rfl⟩
theorem beq_zero_dec (a b : Nat) : ((a : Int) % (b : Int) == 0) = decide (a % b = 0) := by
  rw [← Int.natCast_emod, Bool.eq_iff_iff]
  simp only [beq_iff_eq, decide_eq_true_eq]
  omega
theorem beq_dec (a b : Nat) : ((a : Int) == (b : Int)) = decide (a = b) := by
  rw [Bool.eq_iff_iff]
  simp only [beq_iff_eq, decide_eq_true_eq]
  omega
theorem isLength_any (n : Int) (w : World) : Calls Try.prog 38 #[.int .i64 n] w fun e w' => e = .returned (.bool (lenOk n)) ∧ w' = w := by
  by_cases h : 0 ≤ n
  · go_enter Try.func38, Try.ntmps38
    go_wp2
    go_ret
    exact ⟨ret_bool (by simp [lenOk, h]), rfl⟩
  · go_enter Try.func38, Try.ntmps38
    go_wp2
    go_ret
    exact ⟨ret_bool (by unfold lenOk; rw [decide_eq_false (by omega)]), rfl⟩
theorem may_any (A : Nat) (N : Int) (w : World) (hA : A < 4294967296) : Calls Try.prog 32 #[pf A N] w fun e w' => e = .returned (.bool (okp A N)) ∧ Below w.heap.size w w' := by
  have hl : ∀ W, Calls Try.prog 38 #[.int .i64 N] W fun e w' => e = .returned (.bool (lenOk N)) ∧ w' = W := isLength_any N
  by_cases h : lenOk N = true
  · rw [h] at hl
    have hb : bits .andNot .u32 (A : Int) (mk (cl N) : Int) = ((A % wd (cl N) : Nat) : Int) := bits_andNot_mk A (cl N) hA
    go_enter Try.func32, Try.ntmps32
    go_wp2_with fail
    go_quiet (first | (go_at_call 38; exact Calls.quiet_of_same (hl _)) | (go_at_call 39; exact Calls.quiet_of_same (mask_any _ _)))
    go_wp2
    go_ret
    refine ⟨ret_bool ?_, ?_⟩
    · rw [okp, h, Bool.true_and]
      exact beq_zero_dec _ _
    · exact (below_alloc1 _ _).trans (below_draws _ _ _)
  · rw [Bool.not_eq_true] at h
    rw [h] at hl
    go_enter Try.func32, Try.ntmps32
    go_wp2_with fail
    go_quiet (first | (go_at_call 38; exact Calls.quiet_of_same (hl _)))
    go_wp2
    go_ret
    exact ⟨ret_bool (by simp [okp, h]), (below_alloc1 _ _).trans (below_draws _ _ _)⟩
theorem bits_low (a k : Nat) (ha : a < 4294967296) : bits .and .u32 ((a : Int) / 2 ^ k) 1 = ((a / 2 ^ k % 2 : Nat) : Int) := by
  have h1 : a / 2 ^ k < 4294967296 := Nat.lt_of_le_of_lt (Nat.div_le_self _ _) ha
  have := u32_and_nat (a / 2 ^ k) 1 h1 (by omega)
  rw [Nat.and_one_is_mod] at this
  rw [← this]
  congr 1
theorem bit_any (a : Nat) (i : Int) (w : World) (ha : a < 4294967296) : Calls Try.prog 31 #[.int .u32 (a : Int), .int .i64 i] w fun e w' => e = .returned (.int .i64 (bt a i : Int)) ∧ w' = w := by
  by_cases h : 0 ≤ i ∧ i < 32
  · have hb : bits .and .u32 ((a : Int) / 2 ^ (31 - i).toNat) 1 = (bt a i : Int) := by
      rw [bits_low a _ ha, bt, if_pos h, show (31 - i).toNat = 31 - i.toNat by omega]
    have hT : bt a i < 2 := by unfold bt; rw [if_pos h]; omega
    obtain ⟨h0, h1⟩ := h
    generalize bt a i = T at *
    go_enter Try.func31, Try.ntmps31
    go_wp2
    go_ret
    exact ⟨rfl, rfl⟩
  · have h2 : bt a i = 0 := if_neg h
    rw [h2]
    go_enter Try.func31, Try.ntmps31
    go_wp2
    all_goals go_ret
    all_goals exact ⟨rfl, rfl⟩
theorem alloc_at (w : World) (o : Obj) (n : Nat) (h : n = w.heap.size) : (w.alloc o).heap[n]? = some o := by
  subst h
  show (w.heap.push o)[w.heap.size]? = some o
  simp
theorem alloc_lt (w : World) (o : Obj) (n : Nat) (h : n < w.heap.size) : (w.alloc o).heap[n]? = w.heap[n]? := by
  show (w.heap.push o)[n]? = w.heap[n]?
  rw [Array.getElem?_push_lt h, Array.getElem?_eq_getElem h]
end Go.Proofs.Ytlmcgjdenfnkmaa
