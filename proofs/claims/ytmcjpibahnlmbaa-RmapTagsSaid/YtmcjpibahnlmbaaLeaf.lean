/-
  Contracts of the small functions of package addr: Mask, isLength, May, Bit. No statement is proved here.
-/
import Derived.Test.YtmcjpibahnlmbaaProg
import Derived.Test.YtmcjpibahnlmbaaNum
import Derived.WalkKit
import Derived.Below
import Derived.Lib.Hide
import Derived.Lib.SmallJoins
import Derived.KernelRfl
import Derived.Deep.QuietTactic
import Derived.BigQuiet
import Derived.Lib.QuietBelow
import Derived.Laws.Cover1
import Derived.StillTailTactics
namespace Go.Proofs.Ytmcjpibahnlmbaa
open Go.RowKit Go.Joins

theorem val_int {k : IntKind} {a b : Int} (h : a = b) : Value.int k a = .int k b := by rw [h]
theorem ret_int {k : IntKind} {a b : Int} (h : a = b) : Ending.returned (.int k a) = .returned (.int k b) := by rw [h]
theorem ret_bool {a b : Bool} (h : a = b) : Ending.returned (.bool a) = .returned (.bool b) := by rw [h]
/-- A prefix as a value. -/
abbrev pf (A : Nat) (N : Int) : Value := .agg #[.int .u32 (A : Int), .int .i64 N]

theorem mask_any (n : Int) (w : World) : Calls Try.prog 61 #[.int .i64 n] w fun e w' => e = .returned (.int .u32 (mk (cl n) : Int)) ∧ w' = w := by
  have h := shl_mk (cl n) (cl_le n)
  rw [← h]
  clear h
  by_cases h0 : n ≤ 0
  · have e : cl n = 0 := by unfold cl; omega
    rw [e]
    have q : ¬ (32 < n) := by omega
    go_enter Try.func61, Try.ntmps61
    go_wp2
    all_goals first | omega | skip
    all_goals go_ret
    all_goals exact ⟨ret_int (by first | rfl | (simp; done) | omega), rfl⟩
  · by_cases h1 : 32 < n
    · have e : cl n = 32 := by unfold cl; omega
      rw [e]
      go_enter Try.func61, Try.ntmps61
      go_wp2
      all_goals first | omega | skip
      all_goals go_ret
      all_goals exact ⟨ret_int (by first | rfl | (simp; done) | omega), rfl⟩
    · have e : (32 - n).toNat = 32 - cl n := by unfold cl; omega
      have q0 : 0 < n := by omega
      have q1 : n ≤ 32 := by omega
      go_enter Try.func61, Try.ntmps61
      go_wp2
      all_goals first | omega | skip
      all_goals go_ret
      all_goals exact ⟨ret_int (by simp), rfl⟩
theorem beq_zero_dec (a b : Nat) : ((a : Int) % (b : Int) == 0) = decide (a % b = 0) := by
  rw [← Int.natCast_emod, Bool.eq_iff_iff]
  simp only [beq_iff_eq, decide_eq_true_eq]
  omega
theorem beq_dec (a b : Nat) : ((a : Int) == (b : Int)) = decide (a = b) := by
  rw [Bool.eq_iff_iff]
  simp only [beq_iff_eq, decide_eq_true_eq]
  omega
theorem isLength_any (n : Int) (w : World) : Calls Try.prog 60 #[.int .i64 n] w fun e w' => e = .returned (.bool (lenOk n)) ∧ w' = w := by
  by_cases h : 0 ≤ n
  · go_enter Try.func60, Try.ntmps60
    go_wp2
    go_ret
    exact ⟨ret_bool (by simp [lenOk, h]), rfl⟩
  · go_enter Try.func60, Try.ntmps60
    go_wp2
    go_ret
    exact ⟨ret_bool (by unfold lenOk; rw [decide_eq_false (by omega)]), rfl⟩
theorem may_any (A : Nat) (N : Int) (w : World) (hA : A < 4294967296) : Calls Try.prog 52 #[pf A N] w fun e w' => e = .returned (.bool (okp A N)) ∧ Below w.heap.size w w' := by
  have hl : ∀ W, Calls Try.prog 60 #[.int .i64 N] W fun e w' => e = .returned (.bool (lenOk N)) ∧ w' = W := isLength_any N
  by_cases h : lenOk N = true
  · rw [h] at hl
    have hb : bits .andNot .u32 (A : Int) (mk (cl N) : Int) = ((A % wd (cl N) : Nat) : Int) := bits_andNot_mk A (cl N) hA
    go_enter Try.func52, Try.ntmps52
    go_wp2_with fail
    go_quiet (first | (go_at_call 60; exact Calls.quiet_of_same (hl _)) | (go_at_call 61; exact Calls.quiet_of_same (mask_any _ _)))
    go_wp2
    go_ret
    refine ⟨ret_bool ?_, ?_⟩
    · rw [okp, h, Bool.true_and]
      exact beq_zero_dec _ _
    · exact (below_alloc1 _ _).trans (below_draws _ _ _)
  · rw [Bool.not_eq_true] at h
    rw [h] at hl
    go_enter Try.func52, Try.ntmps52
    go_wp2_with fail
    go_quiet (first | (go_at_call 60; exact Calls.quiet_of_same (hl _)))
    go_wp2
    go_ret
    exact ⟨ret_bool (by simp [okp, h]), (below_alloc1 _ _).trans (below_draws _ _ _)⟩
theorem has_any (A : Nat) (N : Int) (a : Nat) (w : World) (hA : A < 4294967296) (ha : a < 4294967296) : Calls Try.prog 67 #[pf A N, .int .u32 (a : Int)] w fun e w' => e = .returned (.bool (hasp A N a)) ∧ Below w.heap.size w w' := by
  have hl : ∀ W, Calls Try.prog 52 #[pf A N] W fun e w' => e = .returned (.bool (okp A N)) ∧ Below W.heap.size W w' := fun W => may_any A N W hA
  by_cases h : okp A N = true
  · rw [h] at hl
    have k0 := cell_regrown (w := w.alloc (.cells #[.int .u32 (A : Int), .int .i64 N] 25)) (a := ⟨w.heap.size, 0, none⟩) (v := .int .u32 (A : Int)) (by simp)
    have k1 := cell_regrown (w := w.alloc (.cells #[.int .u32 (A : Int), .int .i64 N] 25)) (a := ⟨w.heap.size, 1, none⟩) (v := .int .i64 N) (by simp)
    have cM : ∀ d os, Calls Try.prog 61 #[.int .i64 N] (Sort.grow (redrawn (w.alloc (.cells #[.int .u32 (A : Int), .int .i64 N] 25)) d) os) fun e w'' => e = .returned (.int .u32 (mk (cl N) : Int)) ∧ ∃ p : Regrown, w'' = Sort.grow (redrawn (w.alloc (.cells #[.int .u32 (A : Int), .int .i64 N] 25)) p.d) p.os := fun d os => Calls.regrown_of ((mask_any N _).mono fun _ _ ⟨h1, h2⟩ => ⟨h1, h2 ▸ Below.refl _ _⟩)
    have hb : bits .and .u32 (a : Int) (mk (cl N) : Int) = ((a / wd (cl N) * wd (cl N) : Nat) : Int) := bits_and_mk a (cl N) ha (cl_le N)
    have HT : (a / wd (cl N) * wd (cl N) = A) ↔ a / wd (cl N) = A / wd (cl N) := by
      have h1 : A % wd (cl N) = 0 := by simp [okp] at h; exact h.2
      constructor
      · intro h2; rw [← h2, tr_div]
      · intro h2; rw [h2]; exact tr_eq h1
    have hs : hasp A N a = decide (a / wd (cl N) * wd (cl N) = A) := by rw [hasp, h, Bool.true_and]; exact decide_eq_decide.2 HT.symm
    rw [hs]
    clear HT hs
    generalize a / wd (cl N) * wd (cl N) = T at *
    go_enter Try.func67, Try.ntmps67
    go_wp2_with fail
    refine wp_region_quiet_below (by kernel_rfl) (by kernel_rfl) ?_
    repeat (quiet_step (first | exact cM _ _ | exact Calls.regrown_of (hl _)))
    refine wpQuiet_nil ?_
    intro _ hw'
    obtain ⟨⟨dq, osq⟩, hw''⟩ := hw'
    subst hw''
    go_wp2
    go_ret
    exact ⟨ret_bool (beq_dec T A), (below_alloc1 _ _).trans ((below_regrown _ dq osq).mono (by simp))⟩
  · rw [Bool.not_eq_true] at h
    rw [h] at hl
    go_enter Try.func67, Try.ntmps67
    go_wp2_with fail
    refine wp_region_quiet_below (by kernel_rfl) (by kernel_rfl) ?_
    have k0 := cell_regrown (w := w.alloc (.cells #[.int .u32 (A : Int), .int .i64 N] 25)) (a := ⟨w.heap.size, 0, none⟩) (v := .int .u32 (A : Int)) (by simp)
    have k1 := cell_regrown (w := w.alloc (.cells #[.int .u32 (A : Int), .int .i64 N] 25)) (a := ⟨w.heap.size, 1, none⟩) (v := .int .i64 N) (by simp)
    repeat (first | go_big_quiet_skip | quiet_step (first | exact Calls.regrown_of (hl _)))
    refine wpQuiet_nil ?_
    intro _ hw'
    obtain ⟨⟨dq, osq⟩, hw''⟩ := hw'
    subst hw''
    go_wp2
    go_ret
    exact ⟨ret_bool (by simp [hasp, h]), (below_alloc1 _ _).trans ((below_regrown _ dq osq).mono (by simp))⟩
theorem covers_any (A : Nat) (N : Int) (B : Nat) (M : Int) (w : World) (hA : A < 4294967296) (hB : B < 4294967296) : Calls Try.prog 64 #[pf A N, pf B M] w fun e w' => e = .returned (.bool (covp A N B M)) ∧ Below w.heap.size w w' := by
  by_cases h : okp B M = true
  · by_cases h2 : N ≤ M
    · go_enter Try.func64, Try.ntmps64
      go_wp2_with fail
      refine (may_any B M _ hB).mono ?_
      rintro e w1 ⟨rfl, hb⟩
      rw [h]
      have c0 := (hb.cell (p := ⟨w.heap.size, 0, none⟩) (by simp; omega)).trans (show _ = some (.int .u32 (A : Int)) by simp)
      have c1 := (hb.cell (p := ⟨w.heap.size, 1, none⟩) (by simp; omega)).trans (show _ = some (.int .i64 N) by simp)
      have c2 := (hb.cell (p := ⟨w.heap.size + 1, 0, none⟩) (by simp)).trans (show _ = some (.int .u32 (B : Int)) by simp)
      have c3 := (hb.cell (p := ⟨w.heap.size + 1, 1, none⟩) (by simp)).trans (show _ = some (.int .i64 M) by simp)
      go_wp2_with fail
      refine (has_any A N B _ hA hB).mono ?_
      rintro e w2 ⟨rfl, hb2⟩
      go_wp2
      go_ret
      exact ⟨ret_bool (by simp [covp, h, h2]), ((below_alloc2 _ _ _).trans (hb.mono (by simp; omega))).trans (hb2.mono (by have := hb.size; simp at this; omega))⟩
    · have h3 : decide (N ≤ M) = false := decide_eq_false h2
      go_enter Try.func64, Try.ntmps64
      go_wp2_with fail
      refine (may_any B M _ hB).mono ?_
      rintro e w1 ⟨rfl, hb⟩
      rw [h]
      have c0 := (hb.cell (p := ⟨w.heap.size, 0, none⟩) (by simp; omega)).trans (show _ = some (.int .u32 (A : Int)) by simp)
      have c1 := (hb.cell (p := ⟨w.heap.size, 1, none⟩) (by simp; omega)).trans (show _ = some (.int .i64 N) by simp)
      have c2 := (hb.cell (p := ⟨w.heap.size + 1, 0, none⟩) (by simp)).trans (show _ = some (.int .u32 (B : Int)) by simp)
      have c3 := (hb.cell (p := ⟨w.heap.size + 1, 1, none⟩) (by simp)).trans (show _ = some (.int .i64 M) by simp)
      go_wp2
      go_ret
      exact ⟨ret_bool (by simp [covp, h, h3]), (below_alloc2 _ _ _).trans (hb.mono (by simp; omega))⟩
  · rw [Bool.not_eq_true] at h
    go_enter Try.func64, Try.ntmps64
    go_wp2_with fail
    refine (may_any B M _ hB).mono ?_
    rintro e w1 ⟨rfl, hb⟩
    rw [h]
    go_wp2
    go_ret
    exact ⟨ret_bool (by simp [covp, h]), (below_alloc2 _ _ _).trans (hb.mono (by simp; omega))⟩
theorem bits_low (a k : Nat) (ha : a < 4294967296) : bits .and .u32 ((a : Int) / 2 ^ k) 1 = ((a / 2 ^ k % 2 : Nat) : Int) := by
  have h1 : a / 2 ^ k < 4294967296 := Nat.lt_of_le_of_lt (Nat.div_le_self _ _) ha
  have := u32_and_nat (a / 2 ^ k) 1 h1 (by omega)
  rw [Nat.and_one_is_mod] at this
  rw [← this]
  congr 1
theorem alloc_at (w : World) (o : Obj) (n : Nat) (h : n = w.heap.size) : (w.alloc o).heap[n]? = some o := by
  subst h
  show (w.heap.push o)[w.heap.size]? = some o
  simp
theorem alloc_lt (w : World) (o : Obj) (n : Nat) (h : n < w.heap.size) : (w.alloc o).heap[n]? = w.heap[n]? := by
  show (w.heap.push o)[n]? = w.heap[n]?
  rw [Array.getElem?_push_lt h, Array.getElem?_eq_getElem h]
end Go.Proofs.Ytmcjpibahnlmbaa
