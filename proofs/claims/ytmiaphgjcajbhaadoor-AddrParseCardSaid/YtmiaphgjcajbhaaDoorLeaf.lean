/-
  Contracts of the small functions of package addr: Mask, isLength, May, Of, Has, Covers, Bit, Less. No statement is proved here.
-/
import Derived.Test.YtmiaphgjcajbhaaDoorProg
import Derived.Test.YtmiaphgjcajbhaaDoorShelf
import Derived.Test.YtmiaphgjcajbhaaDoorNum
import Derived.WalkKit
import Derived.Below
import Derived.Lib.Hide
import Derived.Lib.SmallJoins
import Derived.KernelRfl
import Derived.Deep.QuietTactic
import Derived.BigQuiet
import Derived.Lib.QuietBelow
import Derived.Lib.Tables
import Derived.Laws.Cover1
import Derived.StillTailTactics
namespace Go.Proofs.YtmiaphgjcajbhaaDoor
open Go.RowKit Go.Joins

theorem val_int {k : IntKind} {a b : Int} (h : a = b) : Value.int k a = .int k b := by rw [h]
theorem ret_int {k : IntKind} {a b : Int} (h : a = b) : Ending.returned (.int k a) = .returned (.int k b) := by rw [h]
theorem ret_bool {a b : Bool} (h : a = b) : Ending.returned (.bool a) = .returned (.bool b) := by rw [h]
/-- A prefix as a value. -/
abbrev pf (A : Nat) (N : Int) : Value := .agg #[.int .u32 (A : Int), .int .i64 N]

theorem mask_any (n : Int) (w : World) : Calls Tryd.prog 20 #[.int .i64 n] w fun e w' => e = .returned (.int .u32 (mk (cl n) : Int)) ∧ w' = w := by
  go_enter Tryd.func20, Tryd.ntmps20
  go_wp2
  go_ret
  refine ⟨ret_int ?_, rfl⟩
  have h := shl_mk (cl n) (cl_le n)
  rw [← h]
  have e : (32 - max 0 (min n 32)).toNat = 32 - cl n := by unfold cl; omega
  simp [e]
theorem beq_zero_dec (a b : Nat) : ((a : Int) % (b : Int) == 0) = decide (a % b = 0) := by
  rw [← Int.natCast_emod, Bool.eq_iff_iff]
  simp only [beq_iff_eq, decide_eq_true_eq]
  omega
theorem beq_dec (a b : Nat) : ((a : Int) == (b : Int)) = decide (a = b) := by
  rw [Bool.eq_iff_iff]
  simp only [beq_iff_eq, decide_eq_true_eq]
  omega
theorem isLength_any (n : Int) (w : World) : Calls Tryd.prog 32 #[.int .i64 n] w fun e w' => e = .returned (.bool (lenOk n)) ∧ w' = w := by
  by_cases h : 0 ≤ n
  · go_enter Tryd.func32, Tryd.ntmps32
    go_wp2
    go_ret
    exact ⟨ret_bool (by simp [lenOk, h]), rfl⟩
  · go_enter Tryd.func32, Tryd.ntmps32
    go_wp2
    go_ret
    exact ⟨ret_bool (by unfold lenOk; rw [decide_eq_false (by omega)]), rfl⟩
theorem may_any (A : Nat) (N : Int) (w : World) (hA : A < 4294967296) : Calls Tryd.prog 14 #[pf A N] w fun e w' => e = .returned (.bool (okp A N)) ∧ Below w.heap.size w w' := by
  have hl : ∀ W, Calls Tryd.prog 32 #[.int .i64 N] W fun e w' => e = .returned (.bool (lenOk N)) ∧ w' = W := isLength_any N
  by_cases h : lenOk N = true
  · rw [h] at hl
    have hb : bits .andNot .u32 (A : Int) (mk (cl N) : Int) = ((A % wd (cl N) : Nat) : Int) := bits_andNot_mk A (cl N) hA
    go_enter Tryd.func14, Tryd.ntmps14
    go_wp2_with fail
    go_quiet (first | (go_at_call 32; exact Calls.quiet_of_same (hl _)) | (go_at_call 20; exact Calls.quiet_of_same (mask_any _ _)))
    go_wp2
    go_ret
    refine ⟨ret_bool ?_, ?_⟩
    · rw [okp, h, Bool.true_and]
      exact beq_zero_dec _ _
    · exact (below_alloc1 _ _).trans (below_draws _ _ _)
  · rw [Bool.not_eq_true] at h
    rw [h] at hl
    go_enter Tryd.func14, Tryd.ntmps14
    go_wp2_with fail
    go_quiet (first | (go_at_call 32; exact Calls.quiet_of_same (hl _)))
    go_wp2
    go_ret
    exact ⟨ret_bool (by simp [okp, h]), (below_alloc1 _ _).trans (below_draws _ _ _)⟩
theorem has_any (A : Nat) (N : Int) (a : Nat) (w : World) (hA : A < 4294967296) (ha : a < 4294967296) : Calls Tryd.prog 16 #[pf A N, .int .u32 (a : Int)] w fun e w' => e = .returned (.bool (hasp A N a)) ∧ Below w.heap.size w w' := by
  have hl : ∀ W, Calls Tryd.prog 14 #[pf A N] W fun e w' => e = .returned (.bool (okp A N)) ∧ Below W.heap.size W w' := fun W => may_any A N W hA
  by_cases h : okp A N = true
  · rw [h] at hl
    have k0 := cell_regrown (w := w.alloc (.cells #[.int .u32 (A : Int), .int .i64 N] 24)) (a := ⟨w.heap.size, 0, none⟩) (v := .int .u32 (A : Int)) (by simp)
    have k1 := cell_regrown (w := w.alloc (.cells #[.int .u32 (A : Int), .int .i64 N] 24)) (a := ⟨w.heap.size, 1, none⟩) (v := .int .i64 N) (by simp)
    have cM : ∀ d os, Calls Tryd.prog 20 #[.int .i64 N] (Sort.grow (redrawn (w.alloc (.cells #[.int .u32 (A : Int), .int .i64 N] 24)) d) os) fun e w'' => e = .returned (.int .u32 (mk (cl N) : Int)) ∧ ∃ p : Regrown, w'' = Sort.grow (redrawn (w.alloc (.cells #[.int .u32 (A : Int), .int .i64 N] 24)) p.d) p.os := fun d os => Calls.regrown_of ((mask_any N _).mono fun _ _ ⟨h1, h2⟩ => ⟨h1, h2 ▸ Below.refl _ _⟩)
    have hb : bits .and .u32 (a : Int) (mk (cl N) : Int) = ((a / wd (cl N) * wd (cl N) : Nat) : Int) := bits_and_mk a (cl N) ha (cl_le N)
    have HT : (a / wd (cl N) * wd (cl N) = A) ↔ a / wd (cl N) = A / wd (cl N) := by
      have h1 : A % wd (cl N) = 0 := by simp [okp] at h; exact h.2
      constructor
      · intro h2; rw [← h2, tr_div]
      · intro h2; rw [h2]; exact tr_eq h1
    have hs : hasp A N a = decide (a / wd (cl N) * wd (cl N) = A) := by rw [hasp, h, Bool.true_and]; exact decide_eq_decide.2 HT.symm
    rw [hs]
    clear HT hs
    generalize a / wd (cl N) * wd (cl N) = T at *
    go_enter Tryd.func16, Tryd.ntmps16
    go_wp2_with fail
    refine wp_region_quiet_below (by kernel_rfl) (by kernel_rfl) ?_
    repeat (quiet_step (first | exact cM _ _ | exact Calls.regrown_of (hl _)))
    refine wpQuiet_nil ?_
    intro _ hw'
    obtain ⟨⟨dq, osq⟩, hw''⟩ := hw'
    subst hw''
    go_wp2
    go_ret
    exact ⟨ret_bool (beq_dec T A), (below_alloc1 _ _).trans ((below_regrown _ dq osq).mono (by simp))⟩
  · rw [Bool.not_eq_true] at h
    rw [h] at hl
    go_enter Tryd.func16, Tryd.ntmps16
    go_wp2_with fail
    refine wp_region_quiet_below (by kernel_rfl) (by kernel_rfl) ?_
    have k0 := cell_regrown (w := w.alloc (.cells #[.int .u32 (A : Int), .int .i64 N] 24)) (a := ⟨w.heap.size, 0, none⟩) (v := .int .u32 (A : Int)) (by simp)
    have k1 := cell_regrown (w := w.alloc (.cells #[.int .u32 (A : Int), .int .i64 N] 24)) (a := ⟨w.heap.size, 1, none⟩) (v := .int .i64 N) (by simp)
    repeat (first | go_big_quiet_skip | quiet_step (first | exact Calls.regrown_of (hl _)))
    refine wpQuiet_nil ?_
    intro _ hw'
    obtain ⟨⟨dq, osq⟩, hw''⟩ := hw'
    subst hw''
    go_wp2
    go_ret
    exact ⟨ret_bool (by simp [hasp, h]), (below_alloc1 _ _).trans ((below_regrown _ dq osq).mono (by simp))⟩
theorem covers_any (A : Nat) (N : Int) (B : Nat) (M : Int) (w : World) (hA : A < 4294967296) (hB : B < 4294967296) : Calls Tryd.prog 24 #[pf A N, pf B M] w fun e w' => e = .returned (.bool (covp A N B M)) ∧ Below w.heap.size w w' := by
  by_cases h : okp B M = true
  · by_cases h2 : N ≤ M
    · go_enter Tryd.func24, Tryd.ntmps24
      go_wp2_with fail
      refine (may_any B M _ hB).mono ?_
      rintro e w1 ⟨rfl, hb⟩
      rw [h]
      have c0 := (hb.cell (p := ⟨w.heap.size, 0, none⟩) (by simp; omega)).trans (show _ = some (.int .u32 (A : Int)) by simp)
      have c1 := (hb.cell (p := ⟨w.heap.size, 1, none⟩) (by simp; omega)).trans (show _ = some (.int .i64 N) by simp)
      have c2 := (hb.cell (p := ⟨w.heap.size + 1, 0, none⟩) (by simp)).trans (show _ = some (.int .u32 (B : Int)) by simp)
      have c3 := (hb.cell (p := ⟨w.heap.size + 1, 1, none⟩) (by simp)).trans (show _ = some (.int .i64 M) by simp)
      go_wp2_with fail
      refine (has_any A N B _ hA hB).mono ?_
      rintro e w2 ⟨rfl, hb2⟩
      go_wp2
      go_ret
      exact ⟨ret_bool (by simp [covp, h, h2]), ((below_alloc2 _ _ _).trans (hb.mono (by simp; omega))).trans (hb2.mono (by have := hb.size; simp at this; omega))⟩
    · have h3 : decide (N ≤ M) = false := decide_eq_false h2
      go_enter Tryd.func24, Tryd.ntmps24
      go_wp2_with fail
      refine (may_any B M _ hB).mono ?_
      rintro e w1 ⟨rfl, hb⟩
      rw [h]
      have c0 := (hb.cell (p := ⟨w.heap.size, 0, none⟩) (by simp; omega)).trans (show _ = some (.int .u32 (A : Int)) by simp)
      have c1 := (hb.cell (p := ⟨w.heap.size, 1, none⟩) (by simp; omega)).trans (show _ = some (.int .i64 N) by simp)
      have c2 := (hb.cell (p := ⟨w.heap.size + 1, 0, none⟩) (by simp)).trans (show _ = some (.int .u32 (B : Int)) by simp)
      have c3 := (hb.cell (p := ⟨w.heap.size + 1, 1, none⟩) (by simp)).trans (show _ = some (.int .i64 M) by simp)
      go_wp2
      go_ret
      exact ⟨ret_bool (by simp [covp, h, h3]), (below_alloc2 _ _ _).trans (hb.mono (by simp; omega))⟩
  · rw [Bool.not_eq_true] at h
    go_enter Tryd.func24, Tryd.ntmps24
    go_wp2_with fail
    refine (may_any B M _ hB).mono ?_
    rintro e w1 ⟨rfl, hb⟩
    rw [h]
    go_wp2
    go_ret
    exact ⟨ret_bool (by simp [covp, h]), (below_alloc2 _ _ _).trans (hb.mono (by simp; omega))⟩
theorem less_any (A B : Nat) (N M : Int) (w : World) : Calls Tryd.prog 28 #[pf A N, pf B M] w fun e w' => e = .returned (.bool (lessp A N B M)) ∧ Below w.heap.size w w' := by
  by_cases h : A = B
  · have h1 : ((A : Int) != (B : Int)) = false := by simp [h]
    go_enter Tryd.func28, Tryd.ntmps28
    go_wp2
    go_ret
    exact ⟨ret_bool (by unfold lessp; exact decide_eq_decide.2 (by omega)), below_alloc2 _ _ _⟩
  · have h1 : ((A : Int) != (B : Int)) = true := by simp; omega
    go_enter Tryd.func28, Tryd.ntmps28
    go_wp2
    go_ret
    exact ⟨ret_bool (by unfold lessp; exact decide_eq_decide.2 (by omega)), below_alloc2 _ _ _⟩
theorem bits_low (a k : Nat) (ha : a < 4294967296) : bits .and .u32 ((a : Int) / 2 ^ k) 1 = ((a / 2 ^ k % 2 : Nat) : Int) := by
  have h1 : a / 2 ^ k < 4294967296 := Nat.lt_of_le_of_lt (Nat.div_le_self _ _) ha
  have := u32_and_nat (a / 2 ^ k) 1 h1 (by omega)
  rw [Nat.and_one_is_mod] at this
  rw [← this]
  congr 1
theorem bit_any (a : Nat) (i : Int) (w : World) (ha : a < 4294967296) : Calls Tryd.prog 18 #[.int .u32 (a : Int), .int .i64 i] w fun e w' => e = .returned (.int .i64 (bt a i : Int)) ∧ w' = w := by
  by_cases h : 0 ≤ i ∧ i < 32
  · have hb : bits .and .u32 ((a : Int) / 2 ^ (31 - i).toNat) 1 = (bt a i : Int) := by
      rw [bits_low a _ ha, bt, if_pos h, show (31 - i).toNat = 31 - i.toNat by omega]
    have hT : bt a i < 2 := by unfold bt; rw [if_pos h]; omega
    obtain ⟨h0, h1⟩ := h
    generalize bt a i = T at *
    go_enter Tryd.func18, Tryd.ntmps18
    go_wp2
    go_ret
    exact ⟨rfl, rfl⟩
  · have h2 : bt a i = 0 := if_neg h
    rw [h2]
    go_enter Tryd.func18, Tryd.ntmps18
    go_wp2
    all_goals go_ret
    all_goals exact ⟨rfl, rfl⟩
theorem of_any (a : Nat) (n : Int) (w : World) (ha : a < 4294967296) : Calls Tryd.prog 9 #[.int .u32 (a : Int), .int .i64 n] w fun e w' => e = .returned (if lenOk n then .tuple #[pf (a / wd (cl n) * wd (cl n)) n, .int .i64 0] else .tuple #[pf 0 0, .int .i64 1]) ∧ Below w.heap.size w w' := by
  by_cases h : lenOk n = true
  · have hb : bits .and .u32 (a : Int) (mk (cl n) : Int) = ((a / wd (cl n) * wd (cl n) : Nat) : Int) := bits_and_mk a (cl n) ha (cl_le n)
    rw [if_pos h]
    go_enter Tryd.func9, Tryd.ntmps9
    go_wp2_with fail
    refine (isLength_any _ _).mono ?_
    rintro e w1 ⟨rfl, rfl⟩
    rw [h]
    go_wp2_with fail
    refine (mask_any _ _).mono ?_
    rintro e w1 ⟨rfl, rfl⟩
    go_wp2
    refine bodyPost_ret (v := .tuple #[pf (a / wd (cl n) * wd (cl n)) n, .int .i64 0]) (by simp [results, Tryd.results9, go_sem]) rfl ⟨rfl, ?_⟩
    exact below_alloc1 _ _
  · rw [if_neg h]
    rw [Bool.not_eq_true] at h
    go_enter Tryd.func9, Tryd.ntmps9
    go_wp2_with fail
    refine (isLength_any _ _).mono ?_
    rintro e w1 ⟨rfl, rfl⟩
    rw [h]
    go_wp2
    refine bodyPost_ret (v := .tuple #[pf 0 0, .int .i64 1]) (by simp [results, Tryd.results9, go_sem]) rfl ⟨rfl, ?_⟩
    exact below_alloc1 _ _
theorem pop_bd : ∀ n : Fin 256, 0 ≤ Lib.pop8 n.val ∧ Lib.pop8 n.val ≤ 8 := by decide +kernel
theorem pop_le (y : Nat) (h : y < 256) : 0 ≤ Lib.pop8 (y : Int) ∧ Lib.pop8 (y : Int) ≤ 8 := pop_bd ⟨y, h⟩
/-- How many bits are 1, byte by byte. -/
def oc (x : Nat) : Int := Lib.pop8 ((x / 16777216 : Nat) : Int) + Lib.pop8 ((x / 65536 % 256 : Nat) : Int) + Lib.pop8 ((x / 256 % 256 : Nat) : Int) + Lib.pop8 ((x % 256 : Nat) : Int)
theorem oc_tab : ∀ n : Fin 33, oc (mk n.val) = (n.val : Int) := by decide +kernel
theorem oc_mk (n : Nat) (h : n ≤ 32) : oc (mk n) = (n : Int) := oc_tab ⟨n, by omega⟩
theorem bits_byte (x : Nat) (h : x < 4294967296) : bits .and .u32 (x : Int) 255 = ((x % 256 : Nat) : Int) := by
  have := u32_and_nat x 255 h (by omega)
  rw [show (255 : Nat) = 2 ^ 8 - 1 by rfl, Nat.and_two_pow_sub_one_eq_mod] at this
  exact this
theorem ones_any (x : Nat) (w : World) (hx : x < 4294967296) : Calls Tryd.prog 33 #[.int .u32 (x : Int)] w fun e w' => e = .returned (.int .i64 (oc x)) ∧ Below w.heap.size w w' := by
  have b2 : bits .and .u32 ((x : Int) / 65536) 255 = ((x / 65536 % 256 : Nat) : Int) := bits_byte (x / 65536) (by omega)
  have b1 : bits .and .u32 ((x : Int) / 256) 255 = ((x / 256 % 256 : Nat) : Int) := bits_byte (x / 256) (by omega)
  have b0 : bits .and .u32 (x : Int) 255 = ((x % 256 : Nat) : Int) := bits_byte x hx
  have b3 : (x : Int) / 16777216 = ((x / 16777216 : Nat) : Int) := by omega
  have h3 : x / 16777216 < 256 := by omega
  have h2 : x / 65536 % 256 < 256 := by omega
  have h1 : x / 256 % 256 < 256 := by omega
  have h0 : x % 256 < 256 := by omega
  unfold oc
  generalize x / 65536 % 256 = y2 at *
  generalize x / 256 % 256 = y1 at *
  generalize x % 256 = y0 at *
  generalize x / 16777216 = y3 at *
  obtain ⟨q3, r3⟩ := pop_le y3 h3
  obtain ⟨q2, r2⟩ := pop_le y2 h2
  obtain ⟨q1, r1⟩ := pop_le y1 h1
  obtain ⟨q0, r0⟩ := pop_le y0 h0
  have i3 : ∀ W, (Instr.index 9 (.string Lib.pop8tab) (.int .u32 (y3 : Int))).run Tryd.prog W = .ok (.int .u8 (Lib.pop8 (y3 : Int))) W := fun W => Lib.run_index_pop8tab W 9 .u32 _ Tryd.underlying9 (by omega) (by omega)
  have i2 : ∀ W, (Instr.index 9 (.string Lib.pop8tab) (.int .u32 (y2 : Int))).run Tryd.prog W = .ok (.int .u8 (Lib.pop8 (y2 : Int))) W := fun W => Lib.run_index_pop8tab W 9 .u32 _ Tryd.underlying9 (by omega) (by omega)
  have i1 : ∀ W, (Instr.index 9 (.string Lib.pop8tab) (.int .u32 (y1 : Int))).run Tryd.prog W = .ok (.int .u8 (Lib.pop8 (y1 : Int))) W := fun W => Lib.run_index_pop8tab W 9 .u32 _ Tryd.underlying9 (by omega) (by omega)
  have i0 : ∀ W, (Instr.index 9 (.string Lib.pop8tab) (.int .u32 (y0 : Int))).run Tryd.prog W = .ok (.int .u8 (Lib.pop8 (y0 : Int))) W := fun W => Lib.run_index_pop8tab W 9 .u32 _ Tryd.underlying9 (by omega) (by omega)
  generalize Lib.pop8 (y3 : Int) = p3 at *
  generalize Lib.pop8 (y2 : Int) = p2 at *
  generalize Lib.pop8 (y1 : Int) = p1 at *
  generalize Lib.pop8 (y0 : Int) = p0 at *
  go_enter Tryd.func33, Tryd.ntmps33
  go_wp2_with fail
  simp only [List.append_eq, List.cons_append, List.nil_append, Lib.fold_pop8tab]
  go_quiet (fail)
  go_wp2
  go_ret
  exact ⟨ret_int (by omega), below_draws _ _ _⟩
theorem long_any (x : Nat) (w : World) (hx : x < 4294967296) : Calls Tryd.prog 11 #[.int .u32 (x : Int)] w fun e w' => e = .returned (if x = mk (cl (oc x)) then .tuple #[.int .i64 (oc x), .int .i64 0] else .tuple #[.int .i64 0, .int .i64 3]) ∧ Below w.heap.size w w' := by
  by_cases h : x = mk (cl (oc x))
  · rw [if_pos h]
    have h1 : ((x : Int) != (mk (cl (oc x)) : Int)) = false := by rw [← h]; simp
    clear h
    go_enter Tryd.func11, Tryd.ntmps11
    go_wp2_with fail
    refine (ones_any _ _ hx).mono ?_
    rintro e w1 ⟨rfl, hb⟩
    go_wp2_with fail
    refine (mask_any _ _).mono ?_
    rintro e w2 ⟨rfl, rfl⟩
    go_wp2
    go_ret2
    exact ⟨rfl, hb⟩
  · rw [if_neg h]
    have h1 : ((x : Int) != (mk (cl (oc x)) : Int)) = true := by simp; omega
    clear h
    go_enter Tryd.func11, Tryd.ntmps11
    go_wp2_with fail
    refine (ones_any _ _ hx).mono ?_
    rintro e w1 ⟨rfl, hb⟩
    go_wp2_with fail
    refine (mask_any _ _).mono ?_
    rintro e w2 ⟨rfl, rfl⟩
    go_wp2
    go_ret2
    exact ⟨rfl, hb⟩
theorem alloc_at (w : World) (o : Obj) (n : Nat) (h : n = w.heap.size) : (w.alloc o).heap[n]? = some o := by
  subst h
  show (w.heap.push o)[w.heap.size]? = some o
  simp
theorem lt2 (w : World) (o1 o2 : Obj) (p : Addr) (h : p.block < w.heap.size) : ((w.alloc o1).alloc o2).cell? p = w.cell? p := by
  rw [World.cell?_alloc_lt _ _ _ (by simp; omega), World.cell?_alloc_lt _ _ _ h]
theorem common_any (A : Nat) (N : Int) (B : Nat) (M : Int) (w : World) (hA : A < 4294967296) (hB : B < 4294967296) (h : (okp A N && okp B M) = true) : Calls Tryd.prog 26 #[pf A N, pf B M] w fun e w' => e = .returned (pf (comA A N B M) (comN A N B M : Int)) ∧ Below w.heap.size w w' := by
  have hp : okp A N = true := by simp at h; exact h.1
  have hq : okp B M = true := by simp at h; exact h.2
  have hx : bits .xor .u32 (A : Int) (B : Int) = ((A ^^^ B : Nat) : Int) := u32_xor_nat A B hA hB
  have hxl := xor_lt32 hA hB
  have hcn : (cn A N B M : Int) = min (min N M) (32 - (Lib.bitLen (A ^^^ B) : Int)) := by
    have h1 := bl_le32 hA hB
    simp only [okp, lenOk, Bool.and_eq_true, decide_eq_true_eq] at hp hq
    unfold cn cl
    omega
  have lz : ∀ W, Calls Tryd.prog 36 #[.int .u32 ((A ^^^ B : Nat) : Int)] W fun e w' => e = .returned (.int .i64 (32 - (Lib.bitLen (A ^^^ B) : Int))) ∧ w' = W := fun W => by
    have := Tryd.bits_LeadingZeros32 ((A ^^^ B : Nat) : Int) W (by omega) (by omega)
    simpa using this
  have mk' : ∀ W, Calls Tryd.prog 20 #[.int .i64 (cn A N B M : Int)] W fun e w' => e = .returned (.int .u32 (mk (cn A N B M) : Int)) ∧ w' = W := fun W => by
    have := mask_any (cn A N B M : Int) W
    rwa [cl_nat _ (cn_le A B N M)] at this
  have hand : bits .and .u32 (A : Int) (mk (cn A N B M) : Int) = (comA A N B M : Int) := by
    rw [bits_and_mk A _ hA (cn_le A B N M), comA, if_pos h]
  have hN : (comN A N B M : Int) = (cn A N B M : Int) := by rw [comN, if_pos h]
  rw [hN]
  clear hN
  generalize comA A N B M = T at *
  generalize hZ : (cn A N B M : Int) = Z at *
  generalize (32 - (Lib.bitLen (A ^^^ B) : Int)) = L at *
  generalize mk (cn A N B M) = K at *
  generalize A ^^^ B = X at *
  clear hZ
  have hmin : ∀ W, (Builtin.min_ #[3, 3, 3] 3 #[.int .i64 N, .int .i64 M, .int .i64 L]).run Tryd.prog W = .ok (.int .i64 Z) W := fun W => by
    rw [run_min_int3]
    have : (if L < (if M < N then M else N) then L else (if M < N then M else N)) = Z := by rw [hcn]; split <;> split <;> omega
    rw [this]
  clear hcn
  go_enter Tryd.func26, Tryd.ntmps26
  go_wp2_with fail
  refine (may_any A N _ hA).mono ?_
  rintro e w1 ⟨rfl, hb⟩
  rw [hp]
  have e0 := fun j => lt2 (w.alloc (.cells #[.int .u32 (A : Int), .int .i64 N] 24)) (.cells #[.int .u32 (B : Int), .int .i64 M] 24) (.cells #[.int .u32 0, .int .i64 0] 24) ⟨w.heap.size, j, none⟩ (by simp)
  have e1 := fun j => World.cell?_alloc_lt ((w.alloc (.cells #[.int .u32 (A : Int), .int .i64 N] 24)).alloc (.cells #[.int .u32 (B : Int), .int .i64 M] 24)) (.cells #[.int .u32 0, .int .i64 0] 24) ⟨w.heap.size + 1, j, none⟩ (by simp)
  have d0 := (e0 0).trans (show _ = some (.int .u32 (A : Int)) by simp)
  have d1 := (e0 1).trans (show _ = some (.int .i64 N) by simp)
  have d2 := (e1 0).trans (show _ = some (.int .u32 (B : Int)) by simp)
  have d3 := (e1 1).trans (show _ = some (.int .i64 M) by simp)
  clear e0 e1
  have c2 := (hb.cell (p := ⟨w.heap.size + 1, 0, none⟩) (by simp)).trans d2
  have c3 := (hb.cell (p := ⟨w.heap.size + 1, 1, none⟩) (by simp)).trans d3
  go_wp2_with fail
  refine (may_any B M _ hB).mono ?_
  rintro e w2 ⟨rfl, hb2⟩
  rw [hq]
  clear c2 c3
  have hb' := hb.trans (hb2.mono hb.size)
  clear hb hb2
  have c0 := (hb'.cell (p := ⟨w.heap.size, 0, none⟩) (by simp; omega)).trans d0
  have c1 := (hb'.cell (p := ⟨w.heap.size, 1, none⟩) (by simp; omega)).trans d1
  have c2 := (hb'.cell (p := ⟨w.heap.size + 1, 0, none⟩) (by simp)).trans d2
  have c3 := (hb'.cell (p := ⟨w.heap.size + 1, 1, none⟩) (by simp)).trans d3
  clear d0 d1 d2 d3
  go_wp2_with fail
  go_quiet (first | (go_at_call 36; exact Calls.quiet_of_same (lz _)))
  clear hmin lz
  have k0 : (w2.drewN nq).cell? ⟨w.heap.size, 0, none⟩ = some (.int .u32 (A : Int)) := c0
  have hb'' := hb'.trans (below_draws _ w2 nq)
  generalize w2.drewN nq = w3 at *
  clear c0 c1 c2 c3
  go_wp2_with fail
  have k1 : w3.drew.cell? ⟨w.heap.size, 0, none⟩ = some (.int .u32 (A : Int)) := k0
  have hb3 := hb''.trans (below_draws _ w3 1)
  change Below _ _ w3.drew at hb3
  have hk := (hb3.block (w.heap.size + 1 + 1) (by simp)).trans (alloc_at _ _ _ (by simp))
  refine wp_region_still_tail 7 (by kernel_rfl) (by kernel_rfl) ?_
  simp only [List.take_succ_cons, List.take_zero, List.drop_succ_cons, List.drop_zero]
  change wpStill _ _ w3.drew (fun a' => wpList _ _ _ _ a' w3.drew) _ _
  clear k0 hb'' hb'
  generalize w3.drew = w4 at *
  have o0 : w4.cell? ⟨w.heap.size + 1 + 1, 0, none⟩ = some (.int .u32 0) := (cell_of_block hk 0).trans rfl
  have o1 : w4.cell? ⟨w.heap.size + 1 + 1, 1, none⟩ = some (.int .i64 0) := (cell_of_block hk 1).trans rfl
  have f0 := unfrozen_of_block hk 0
  have f1 := unfrozen_of_block hk 1
  have hk2 := block_setCell (i := 1) (block_setCell (i := 0) hk (.int .u32 (T : Int))) (.int .i64 Z)
  have r0 := (cell_of_block hk2 0).trans (show _ = some (.int .u32 (T : Int)) by simp)
  have r1 := (cell_of_block hk2 1).trans (show _ = some (.int .i64 Z) by simp)
  repeat still_step
  still_call (mk' _)
  repeat still_step
  refine wpStill_nil ?_
  go_wp2
  refine bodyPost_ret (v := pf T Z) (by simp [results, Tryd.results26, go_sem, r0, r1]) rfl ⟨rfl, ?_⟩
  refine Below.setCell (Below.setCell ((below_alloc3 _ _ _ _).trans (hb3.mono ?_)) ?_ _) ?_ _
  · simp; omega
  · simp; omega
  · simp; omega
theorem common_bad (A : Nat) (N : Int) (B : Nat) (M : Int) (w : World) (hA : A < 4294967296) (hB : B < 4294967296) (h : (okp A N && okp B M) = false) : Calls Tryd.prog 26 #[pf A N, pf B M] w fun e w' => e = .returned (pf (comA A N B M) (comN A N B M : Int)) ∧ Below w.heap.size w w' := by
  have e0 : comA A N B M = 0 := by rw [comA, if_neg (by simp [h])]
  have e1 : comN A N B M = 0 := by rw [comN, if_neg (by simp [h])]
  rw [e0, e1]
  clear e0 e1
  have kk := alloc_at ((w.alloc (.cells #[.int .u32 (A : Int), .int .i64 N] 24)).alloc (.cells #[.int .u32 (B : Int), .int .i64 M] 24)) (.cells #[.int .u32 0, .int .i64 0] 24) (w.heap.size + 1 + 1) (by simp)
  have e1 := fun j => World.cell?_alloc_lt ((w.alloc (.cells #[.int .u32 (A : Int), .int .i64 N] 24)).alloc (.cells #[.int .u32 (B : Int), .int .i64 M] 24)) (.cells #[.int .u32 0, .int .i64 0] 24) ⟨w.heap.size + 1, j, none⟩ (by simp)
  have d2 := (e1 0).trans (show _ = some (.int .u32 (B : Int)) by simp)
  have d3 := (e1 1).trans (show _ = some (.int .i64 M) by simp)
  clear e1
  by_cases hp : okp A N = true
  · have hq : okp B M = false := by simpa [hp] using h
    go_enter Tryd.func26, Tryd.ntmps26
    go_wp2_with fail
    refine (may_any A N _ hA).mono ?_
    rintro e w1 ⟨rfl, hb⟩
    rw [hp]
    have c2 := (hb.cell (p := ⟨w.heap.size + 1, 0, none⟩) (by simp)).trans d2
    have c3 := (hb.cell (p := ⟨w.heap.size + 1, 1, none⟩) (by simp)).trans d3
    go_wp2_with fail
    refine (may_any B M _ hB).mono ?_
    rintro e w2 ⟨rfl, hb2⟩
    rw [hq]
    clear c2 c3
    have hb' := hb.trans (hb2.mono hb.size)
    clear hb hb2 d2 d3
    have hk := (hb'.block (w.heap.size + 1 + 1) (by simp)).trans kk
    have o0 : w2.cell? ⟨w.heap.size + 1 + 1, 0, none⟩ = some (.int .u32 0) := (cell_of_block hk 0).trans rfl
    have o1 : w2.cell? ⟨w.heap.size + 1 + 1, 1, none⟩ = some (.int .i64 0) := (cell_of_block hk 1).trans rfl
    have f0 := unfrozen_of_block hk 0
    have f1 := unfrozen_of_block hk 1
    have hk2 := block_setCell (i := 1) (block_setCell (i := 0) hk (.int .u32 0)) (.int .i64 0)
    have r0 := (cell_of_block hk2 0).trans (show _ = some (.int .u32 0) by simp)
    have r1 := (cell_of_block hk2 1).trans (show _ = some (.int .i64 0) by simp)
    clear kk hk
    go_wp2
    refine bodyPost_ret (v := pf 0 0) (by simp [results, Tryd.results26, go_sem, r0, r1]) rfl ⟨rfl, ?_⟩
    refine Below.setCell (Below.setCell ((below_alloc3 _ _ _ _).trans (hb'.mono ?_)) ?_ _) ?_ _
    · simp; omega
    · simp; omega
    · simp; omega
  · rw [Bool.not_eq_true] at hp
    go_enter Tryd.func26, Tryd.ntmps26
    go_wp2_with fail
    refine (may_any A N _ hA).mono ?_
    rintro e w2 ⟨rfl, hb'⟩
    rw [hp]
    have hk := (hb'.block (w.heap.size + 1 + 1) (by simp)).trans kk
    have o0 : w2.cell? ⟨w.heap.size + 1 + 1, 0, none⟩ = some (.int .u32 0) := (cell_of_block hk 0).trans rfl
    have o1 : w2.cell? ⟨w.heap.size + 1 + 1, 1, none⟩ = some (.int .i64 0) := (cell_of_block hk 1).trans rfl
    have f0 := unfrozen_of_block hk 0
    have f1 := unfrozen_of_block hk 1
    have hk2 := block_setCell (i := 1) (block_setCell (i := 0) hk (.int .u32 0)) (.int .i64 0)
    have r0 := (cell_of_block hk2 0).trans (show _ = some (.int .u32 0) by simp)
    have r1 := (cell_of_block hk2 1).trans (show _ = some (.int .i64 0) by simp)
    clear kk hk d2 d3
    go_wp2
    refine bodyPost_ret (v := pf 0 0) (by simp [results, Tryd.results26, go_sem, r0, r1]) rfl ⟨rfl, ?_⟩
    refine Below.setCell (Below.setCell ((below_alloc3 _ _ _ _).trans (hb'.mono ?_)) ?_ _) ?_ _
    · simp; omega
    · simp; omega
    · simp; omega
theorem common_all (A : Nat) (N : Int) (B : Nat) (M : Int) (w : World) (hA : A < 4294967296) (hB : B < 4294967296) : Calls Tryd.prog 26 #[pf A N, pf B M] w fun e w' => e = .returned (pf (comA A N B M) (comN A N B M : Int)) ∧ Below w.heap.size w w' := by
  cases h : (okp A N && okp B M) with
  | true => exact common_any A N B M w hA hB h
  | false => exact common_bad A N B M w hA hB h
end Go.Proofs.YtmiaphgjcajbhaaDoor
