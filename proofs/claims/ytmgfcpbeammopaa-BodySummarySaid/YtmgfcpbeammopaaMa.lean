/-
  Masks: which numbers are masks, addr.Long and the reference's Long. No statement is proved here; no conditions.
-/
import Derived.Test.YtmgfcpbeammopaaNum
import Derived.Test.YtmgfcpbeammopaaLeaf
import Derived.Below
import Derived.BigQuiet
import Derived.Deep.QuietTactic
import Derived.KernelRfl
import Derived.Laws.Cover1
import Derived.Lib.Hide
import Derived.Lib.QuietBelow
import Derived.Lib.SmallJoins
import Derived.Lib.Tables
import Derived.StillTailTactics
import Derived.WalkKit
namespace Go.Proofs.Ytmgfcpbeammopaa
open Go.RowKit Go.Joins

theorem mask_any (n : Int) (w : World) : Calls Try.prog 66 #[.int .i64 n] w fun e w' => e = .returned (.int .u32 (mk (cl n) : Int)) ∧ w' = w := by
  have h := shl_mk (cl n) (cl_le n)
  rw [← h]
  clear h
  by_cases h0 : n ≤ 0
  · have e : cl n = 0 := by unfold cl; omega
    rw [e]
    have q : ¬ (32 < n) := by omega
    go_enter Try.func66, Try.ntmps66
    go_wp2
    all_goals first | omega | skip
    all_goals go_ret
    all_goals exact ⟨ret_int (by first | rfl | (simp; done) | omega), rfl⟩
  · by_cases h1 : 32 < n
    · have e : cl n = 32 := by unfold cl; omega
      rw [e]
      go_enter Try.func66, Try.ntmps66
      go_wp2
      all_goals first | omega | skip
      all_goals go_ret
      all_goals exact ⟨ret_int (by first | rfl | (simp; done) | omega), rfl⟩
    · have e : (32 - n).toNat = 32 - cl n := by unfold cl; omega
      have q0 : 0 < n := by omega
      have q1 : n ≤ 32 := by omega
      go_enter Try.func66, Try.ntmps66
      go_wp2
      all_goals first | omega | skip
      all_goals go_ret
      all_goals exact ⟨ret_int (by simp), rfl⟩
theorem beq_zero_dec (a b : Nat) : ((a : Int) % (b : Int) == 0) = decide (a % b = 0) := by
  rw [← Int.natCast_emod, Bool.eq_iff_iff]
  simp only [beq_iff_eq, decide_eq_true_eq]
  omega
theorem beq_dec (a b : Nat) : ((a : Int) == (b : Int)) = decide (a = b) := by
  rw [Bool.eq_iff_iff]
  simp only [beq_iff_eq, decide_eq_true_eq]
  omega
theorem pop_bd : ∀ n : Fin 256, 0 ≤ Lib.pop8 n.val ∧ Lib.pop8 n.val ≤ 8 := by decide +kernel
theorem pop_le (y : Nat) (h : y < 256) : 0 ≤ Lib.pop8 (y : Int) ∧ Lib.pop8 (y : Int) ≤ 8 := pop_bd ⟨y, h⟩
/-- How many bits are 1, byte by byte. -/
def oc (x : Nat) : Int := Lib.pop8 ((x / 16777216 : Nat) : Int) + Lib.pop8 ((x / 65536 % 256 : Nat) : Int) + Lib.pop8 ((x / 256 % 256 : Nat) : Int) + Lib.pop8 ((x % 256 : Nat) : Int)
theorem oc_tab : ∀ n : Fin 33, oc (mk n.val) = (n.val : Int) := by decide +kernel
theorem oc_mk (n : Nat) (h : n ≤ 32) : oc (mk n) = (n : Int) := oc_tab ⟨n, by omega⟩
theorem bits_byte (x : Nat) (h : x < 4294967296) : bits .and .u32 (x : Int) 255 = ((x % 256 : Nat) : Int) := by
  have := u32_and_nat x 255 h (by omega)
  rw [show (255 : Nat) = 2 ^ 8 - 1 by rfl, Nat.and_two_pow_sub_one_eq_mod] at this
  exact this
theorem ones_any (x : Nat) (w : World) (hx : x < 4294967296) : Calls Try.prog 65 #[.int .u32 (x : Int)] w fun e w' => e = .returned (.int .i64 (oc x)) ∧ Below w.heap.size w w' := by
  have b2 : bits .and .u32 ((x : Int) / 65536) 255 = ((x / 65536 % 256 : Nat) : Int) := bits_byte (x / 65536) (by omega)
  have b1 : bits .and .u32 ((x : Int) / 256) 255 = ((x / 256 % 256 : Nat) : Int) := bits_byte (x / 256) (by omega)
  have b0 : bits .and .u32 (x : Int) 255 = ((x % 256 : Nat) : Int) := bits_byte x hx
  have b3 : (x : Int) / 16777216 = ((x / 16777216 : Nat) : Int) := by omega
  have h3 : x / 16777216 < 256 := by omega
  have h2 : x / 65536 % 256 < 256 := by omega
  have h1 : x / 256 % 256 < 256 := by omega
  have h0 : x % 256 < 256 := by omega
  unfold oc
  generalize x / 65536 % 256 = y2 at *
  generalize x / 256 % 256 = y1 at *
  generalize x % 256 = y0 at *
  generalize x / 16777216 = y3 at *
  obtain ⟨q3, r3⟩ := pop_le y3 h3
  obtain ⟨q2, r2⟩ := pop_le y2 h2
  obtain ⟨q1, r1⟩ := pop_le y1 h1
  obtain ⟨q0, r0⟩ := pop_le y0 h0
  have i3 : ∀ W, (Instr.index 9 (.string Lib.pop8tab) (.int .u32 (y3 : Int))).run Try.prog W = .ok (.int .u8 (Lib.pop8 (y3 : Int))) W := fun W => Lib.run_index_pop8tab W 9 .u32 _ Try.underlying9 (by omega) (by omega)
  have i2 : ∀ W, (Instr.index 9 (.string Lib.pop8tab) (.int .u32 (y2 : Int))).run Try.prog W = .ok (.int .u8 (Lib.pop8 (y2 : Int))) W := fun W => Lib.run_index_pop8tab W 9 .u32 _ Try.underlying9 (by omega) (by omega)
  have i1 : ∀ W, (Instr.index 9 (.string Lib.pop8tab) (.int .u32 (y1 : Int))).run Try.prog W = .ok (.int .u8 (Lib.pop8 (y1 : Int))) W := fun W => Lib.run_index_pop8tab W 9 .u32 _ Try.underlying9 (by omega) (by omega)
  have i0 : ∀ W, (Instr.index 9 (.string Lib.pop8tab) (.int .u32 (y0 : Int))).run Try.prog W = .ok (.int .u8 (Lib.pop8 (y0 : Int))) W := fun W => Lib.run_index_pop8tab W 9 .u32 _ Try.underlying9 (by omega) (by omega)
  generalize Lib.pop8 (y3 : Int) = p3 at *
  generalize Lib.pop8 (y2 : Int) = p2 at *
  generalize Lib.pop8 (y1 : Int) = p1 at *
  generalize Lib.pop8 (y0 : Int) = p0 at *
  go_enter Try.func65, Try.ntmps65
  go_wp2_with fail
  simp only [List.append_eq, List.cons_append, List.nil_append, Lib.fold_pop8tab]
  go_quiet (fail)
  go_wp2
  go_ret
  exact ⟨ret_int (by omega), below_draws _ _ _⟩
theorem long_any (x : Nat) (w : World) (hx : x < 4294967296) : Calls Try.prog 63 #[.int .u32 (x : Int)] w fun e w' => e = .returned (if x = mk (cl (oc x)) then .tuple #[.int .i64 (oc x), .int .i64 0] else .tuple #[.int .i64 0, .int .i64 3]) ∧ Below w.heap.size w w' := by
  by_cases h : x = mk (cl (oc x))
  · rw [if_pos h]
    have h1 : ((x : Int) != (mk (cl (oc x)) : Int)) = false := by rw [← h]; simp
    clear h
    go_enter Try.func63, Try.ntmps63
    go_wp2_with fail
    refine (ones_any _ _ hx).mono ?_
    rintro e w1 ⟨rfl, hb⟩
    go_wp2_with fail
    refine (mask_any _ _).mono ?_
    rintro e w2 ⟨rfl, rfl⟩
    go_wp2
    go_ret2
    exact ⟨rfl, hb⟩
  · rw [if_neg h]
    have h1 : ((x : Int) != (mk (cl (oc x)) : Int)) = true := by simp; omega
    clear h
    go_enter Try.func63, Try.ntmps63
    go_wp2_with fail
    refine (ones_any _ _ hx).mono ?_
    rintro e w1 ⟨rfl, hb⟩
    go_wp2_with fail
    refine (mask_any _ _).mono ?_
    rintro e w2 ⟨rfl, rfl⟩
    go_wp2
    go_ret2
    exact ⟨rfl, hb⟩
/-- The reference's mask behind i rounds. -/
def rm (c i : Nat) : Nat := (2 ^ (min i c) - 1) * 2 ^ (i - min i c)
theorem rm_lt (c i : Nat) : rm c i < 2 ^ i := by
  unfold rm
  have h1 : 0 < 2 ^ min i c := Nat.two_pow_pos _
  have h2 : 0 < 2 ^ (i - min i c) := Nat.two_pow_pos _
  have h3 : 2 ^ i = 2 ^ min i c * 2 ^ (i - min i c) := by rw [← Nat.pow_add]; congr 1; omega
  rw [h3]
  exact Nat.mul_lt_mul_of_pos_right (by omega) h2
theorem rm_in (c i : Nat) (h : i < c) : rm c (i + 1) = rm c i * 2 + 1 := by
  unfold rm
  rw [show min (i + 1) c = i + 1 by omega, show min i c = i by omega, Nat.sub_self, Nat.sub_self, Nat.pow_succ]
  have : 0 < 2 ^ i := Nat.two_pow_pos _
  omega
theorem rm_out (c i : Nat) (h : c ≤ i) : rm c (i + 1) = rm c i * 2 := by
  unfold rm
  rw [show min (i + 1) c = c by omega, show min i c = c by omega, show i + 1 - c = (i - c) + 1 by omega, Nat.pow_succ, Nat.mul_assoc]
theorem rm_end (c : Nat) (h : c ≤ 32) : rm c 32 = mk c := by
  unfold rm
  rw [show min 32 c = c by omega, mk_eq c h]
theorem rmask_any (n : Int) (w : World) : Calls Try.prog 64 #[.int .i64 n] w fun e w' => e = .returned (.int .u32 (mk (cl n) : Int)) ∧ w' = w := by
  rw [← rm_end _ (cl_le n)]
  generalize hC : rm (cl n) 32 = Y
  have HC := Lib.hid hC
  clear hC
  go_enter Try.func64, Try.ntmps64
  go_wp2
  go_loop [3, 4] (fun v3 v4 => ∃ i : Nat, v4 = .int .i64 (i : Int) ∧ v3 = .int .u32 (rm (cl n) i : Int) ∧ i ≤ 32) (fun _ v4 => (32 - intOf v4).toNat)
  case atStart => exact ⟨0, rfl, rfl, by omega⟩
  case round =>
    obtain ⟨i, rfl, rfl, hi⟩ := hrel
    by_cases hlt : i < 32
    · have hm := rm_lt (cl n) i
      have h2 : 2 ^ i ≤ 2 ^ 31 := Nat.pow_le_pow_right (by omega) (by omega)
      have hm2 : rm (cl n) i < 2147483648 := by omega
      clear hm h2
      have hlt' : (i : Int) < 32 := by omega
      by_cases hn : (i : Int) < n
      · have hs := rm_in (cl n) i (by unfold cl; omega)
        have HS := Lib.hid hs
        clear hs
        generalize hR : rm (cl n) i = R at *
        have HR := Lib.hid hR
        clear hR
        go_wp2
        go_round
        case rel => exact ⟨i + 1, val_int (by omega), val_int (by have := HS.out; omega), by omega⟩
        case measure => simp [intOf]; omega
      · have hs := rm_out (cl n) i (by unfold cl; omega)
        have HS := Lib.hid hs
        clear hs
        have hn' : decide ((i : Int) < n) = false := decide_eq_false hn
        generalize hR : rm (cl n) i = R at *
        have HR := Lib.hid hR
        clear hR
        go_wp2
        go_round
        case rel => exact ⟨i + 1, val_int (by omega), val_int (by have := HS.out; omega), by omega⟩
        case measure => simp [intOf]; omega
    · obtain rfl : i = 32 := by omega
      rw [HC.out]
      go_wp2
      go_ret
      exact ⟨rfl, rfl⟩
/-- What Long tells. -/
def lg (x : Nat) : Value := if x = mk (cl (oc x)) then .tuple #[.int .i64 (oc x), .int .i64 0] else .tuple #[.int .i64 0, .int .i64 3]
theorem lg_mk (n : Nat) (h : n ≤ 32) : lg (mk n) = .tuple #[.int .i64 (n : Int), .int .i64 0] := by
  unfold lg
  rw [oc_mk n h, cl_nat n h, if_pos rfl]
theorem rlong_any (x : Nat) (w : World) : Calls Try.prog 52 #[.int .u32 (x : Int)] w fun e w' => e = .returned (lg x) ∧ w' = w := by
  generalize hG : lg x = G
  have HG := Lib.hid hG
  clear hG
  go_enter Try.func52, Try.ntmps52
  go_wp2
  go_loop [4] (fun v4 => ∃ n : Nat, v4 = .int .i64 (n : Int) ∧ n ≤ 33 ∧ Hid (∀ j, j < n → mk j ≠ x)) (fun v4 => (33 - intOf v4).toNat)
  case atStart => exact ⟨0, rfl, by omega, Lib.hid (fun j h => by omega)⟩
  case round =>
    obtain ⟨n, rfl, hn, hj⟩ := hrel
    by_cases hlt : n ≤ 32
    · have hlt' : (n : Int) ≤ 32 := by omega
      have cM := fun W => rmask_any (n : Int) W
      rw [cl_nat n hlt] at cM
      by_cases he : mk n = x
      · have hg := HG.out
        rw [← he, lg_mk n hlt] at hg
        subst hg
        have he' : ((mk n : Int) == (x : Int)) = true := by rw [he]; simp
        clear HG
        go_wp2_with fail
        refine (cM _).mono ?_
        rintro e w1 ⟨rfl, rfl⟩
        go_wp2
        go_ret2
        exact ⟨rfl, rfl⟩
      · have he' : ((mk n : Int) == (x : Int)) = false := by rw [beq_dec]; exact decide_eq_false he
        go_wp2_with fail
        refine (cM _).mono ?_
        rintro e w1 ⟨rfl, rfl⟩
        go_wp2
        go_round
        case rel => exact ⟨n + 1, val_int (by omega), by omega, Lib.hid (fun j h => by
          rcases Nat.lt_or_ge j n with h2 | h2
          · exact hj.out j h2
          · obtain rfl : j = n := by omega
            exact he)⟩
        case measure => simp [intOf]; omega
    · have hg := HG.out
      unfold lg at hg
      rw [if_neg (by intro h; exact hj.out _ (by have := cl_le (oc x); omega) h.symm)] at hg
      subst hg
      have hlt' : decide ((n : Int) ≤ 32) = false := decide_eq_false (by omega)
      go_wp2
      go_ret2
      exact ⟨rfl, rfl⟩
end Go.Proofs.Ytmgfcpbeammopaa
