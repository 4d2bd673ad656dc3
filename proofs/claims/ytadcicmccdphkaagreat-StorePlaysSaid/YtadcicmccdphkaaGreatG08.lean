/-
  Contracts of package octet's Row and Rows. Plain lemmas on addresses as numbers below 2^32: masks, prefixes, common bits. Masks: which numbers are masks, addr.Long and the reference's Long. No statement is proved here; no conditions.
-/
import Derived.Test.YtadcicmccdphkaaGreatG02
import Derived.WalkKit
import Derived.Laws.BitsAllLaws
import Derived.Lib.ItoaNum
import Derived.Below
import Derived.BigQuiet
import Derived.Deep.QuietTactic
import Derived.KernelRfl
import Derived.Laws.Cover1
import Derived.Lib.Hide
import Derived.Lib.QuietBelow
import Derived.Lib.SmallJoins
import Derived.Lib.Tables
import Derived.StillTailTactics
namespace Go.Proofs.YtadcicmccdphkaaGreat
open Go.RowKit

theorem num_n' (A : Option Addr) (n c : Nat) (l : List Int) (B : Nat) (w : World) (hn : n = l.length) (hb : Bs .u8 w B A l) (hl : l.length ≤ 4) (hy : Byt l) :
  Calls Tryz.prog 121 #[.slice A n c] w fun e w' => e = .returned (.int .u32 (num l)) ∧ w = w' := by subst hn; exact num_any A c l B w hb hl hy

/-! ### Row -/
def flat (k : Nat) (l : List Int) : List Int := (l.map fun x => be x k).flatten
theorem flat_snoc (k : Nat) (l : List Int) (x : Int) : flat k (l ++ [x]) = flat k l ++ be x k := by simp [flat]
theorem flat_length (k : Nat) (l : List Int) : (flat k l).length = l.length * k := by
 induction l with
 | nil => simp [flat]
 | cons x l ih =>
  have : flat k (x :: l) = be x k ++ flat k l := by simp [flat]
  rw [this, List.length_append, ih, be_length, List.length_cons, Nat.succ_mul, Nat.add_comm]
def rowE (l : List Int) (m : Int) : Int := if m < 1 ∨ 4 < m then 1 else if l.any (fun x => decide (256 ^ m.toNat ≤ x)) = true then 5 else 0
def rowL (l : List Int) (m : Int) : List Int := if rowE l m = 0 then flat m.toNat l else []
theorem rowE_large {l : List Int} {m : Int} (h1 : 1 ≤ m) (h2 : m ≤ 4) (j : Nat) (hj : j < l.length) (hx : 256 ^ m.toNat ≤ l[j]) : rowE l m = 5 := by
 have hm : ¬ (m < 1 ∨ 4 < m) := by omega
 have : l.any (fun x => decide (256 ^ m.toNat ≤ x)) = true := List.any_eq_true.2 ⟨l[j], List.getElem_mem hj, by simpa using hx⟩
 unfold rowE; rw [if_neg hm, if_pos this]
theorem rowE_fits {l : List Int} {m : Int} (h1 : 1 ≤ m) (h2 : m ≤ 4) (h : ∀ x ∈ l, x < 256 ^ m.toNat) : rowE l m = 0 := by
 have hm : ¬ (m < 1 ∨ 4 < m) := by omega
 have : ¬ (l.any (fun x => decide (256 ^ m.toNat ≤ x)) = true) := by
  rw [List.any_eq_true]; rintro ⟨x, hx, hd⟩
  have := h x hx; have := of_decide_eq_true hd; omega
 unfold rowE; rw [if_neg hm, if_neg this]
theorem forall_snoc {p : Int → Prop} {l : List Int} {j : Nat} (hj : j < l.length) (h : ∀ x ∈ l.take j, p x) (hx : p l[j]) : ∀ x ∈ l.take (j + 1), p x := by
 intro x hm
 rw [List.take_succ_eq_append_getElem hj] at hm
 rcases List.mem_append.1 hm with hm | hm
 ·exact h x hm
 ·simp at hm; subst hm; exact hx

set_option maxHeartbeats 1000000 in
theorem row_any (A : Option Addr) (c : Nat) (l : List Int) (B : Nat) (m : Int) (w : World) (hb : Bs .u32 w B A l) (hy : Wrd l) (hB : B ≤ w.heap.size) (hl : l.length ≤ 10000) :
  Calls Tryz.prog 140 #[.slice A l.length c, .int .i64 m] w fun e w' => ∃ A' c', e = .returned (.tuple #[.slice A' (rowL l m).length c', .int .i64 (rowE l m)]) ∧ Own .u8 5 w' w.heap.size A' c' (rowL l m) ∧ Below w.heap.size w w' := by
 by_cases hm : m < 1 ∨ 4 < m
 ·have e1 : rowE l m = 1 := by unfold rowE; rw [if_pos hm]
  have e2 : rowL l m = [] := by simp [rowL, e1]
  rw [e1, e2]
  have HM := Lib.hid hm
  clear hm e1 e2
  go_enter Tryz.func140, Tryz.ntmps140
  go_wp2_with (go_at_call 120; refine (isWidth_no _ _ HM.out).mono ?_; rintro e w' ⟨rfl, rfl⟩)
  go_ret2
  exact ⟨none, 0, rfl, Own.nil _ _, Below.refl _ _⟩
 ·have h1 : 1 ≤ m := by omega
  have h2 : m ≤ 4 := by omega
  have hpn : l.length * m.toNat ≤ 40000 := Nat.le_trans (Nat.mul_le_mul hl (show m.toNat ≤ 4 by omega)) (by omega)
  have hpe : (l.length : Int) * m = ((l.length * m.toNat : Nat) : Int) := by rw [Int.natCast_mul, Int.toNat_of_nonneg (by omega)]
  have hp0 : 0 ≤ (l.length : Int) * m := by omega
  have hp1 : (l.length : Int) * m ≤ 40000 := by omega
  obtain ⟨i0, hi, hz0, hz1, hz2⟩ := info_parts info5
  obtain ⟨z, w1, hz, hmk, hO, hB1⟩ := mk_own (P := Tryz.prog) w 38 5 .u8 i0 Tryz.underlying38 hi hz0 hz1 .i64 .i64 0 (l.length * m) 0 (l.length * m.toNat) rfl hpe (by omega) (by rw [hz2]; omega) (by unfold maxLen; omega)
  obtain rfl := List.eq_nil_of_length_eq_zero hz
  clear hpe hz hm
  go_enter Tryz.func140, Tryz.ntmps140
  go_wp2_with (go_at_call 120; refine (isWidth_yes _ _ h1 h2).mono ?_; rintro e w' ⟨rfl, rfl⟩)
  go_loopw [6, 19] (fun v i wr => ∃ (j : Nat) (A' : Option Addr) (c' : Nat) (L : List Int), j ≤ l.length ∧ i = .int .i64 (j : Int) ∧ v = .slice A' L.length c' ∧ Hid (L = flat m.toNat (l.take j) ∧ ∀ x ∈ l.take j, x < 256 ^ m.toNat) ∧ Own .u8 5 wr w.heap.size A' c' L ∧ Below w.heap.size w wr) (fun _ i _ => l.length - (intOf i).toNat)
  case atStart => exact ⟨0, _, _, [], Nat.zero_le _, rfl, rfl, ⟨rfl, by simp⟩, hO, hB1⟩
  case round =>
   obtain ⟨j, A', c', L, hj, rfl, rfl, hL, ho', hbw⟩ := hrel
   by_cases hlt : j < l.length
   ·obtain ⟨b, off, rfl, hbB, hc0⟩ := hb.at_ hlt
    have hc1 := (hbw.cell (p := ⟨b, off + j, none⟩) (by show b < _; omega)).trans hc0
    have hx := hy l[j] (List.getElem_mem hlt)
    obtain ⟨hx0, hx1⟩ := hx
    have hLl : L.length ≤ 40000 := by
     rw [hL.out.1, flat_length, List.length_take]
     exact Nat.le_trans (Nat.mul_le_mul (Nat.le_trans (Nat.min_le_right _ _) hl) (show m.toNat ≤ 4 by omega)) (by omega)
    have hsz := hbw.size
    clear hc0 hpn hp0 hp1 hmk
    by_cases hf : 256 ^ m.toNat ≤ l[j]
    ·have HF := Lib.hid hf
     clear hf
     go_wp2_with (go_at_call 141; refine (fits_no _ _ _ h1 h2 hx0 hx1 HF.out).mono ?_; rintro e w' ⟨rfl, rfl⟩)
     go_ret2
     have e1 := rowE_large h1 h2 j hlt HF.out
     have e2 : rowL l m = [] := by simp [rowL, e1]
     rw [e1, e2]
     exact ⟨none, 0, rfl, Own.nil _ _, hbw⟩
    ·have hf' : l[j] < 256 ^ m.toNat := by omega
     have HF := Lib.hid hf'
     clear hf hf'
     go_wp2_with (first | (go_at_call 141; refine (fits_yes _ _ _ h1 h2 hx0 hx1 HF.out).mono ?_; rintro e w' ⟨rfl, rfl⟩) | (go_at_call 142; refine (app_any _ _ L w.heap.size _ m wr ho' h1 h2 hx0 hx1 ?_ ?_).mono ?_; omega; omega; rintro e w3 ⟨A3, c3, L3, hL3, rfl, hO3, hB3⟩))
     go_roundw
     case rel => exact ⟨j + 1, A3, c3, L3, by omega, by go_num, rfl, ⟨by rw [hL3.out, hL.out.1, List.take_succ_eq_append_getElem hlt, flat_snoc], forall_snoc hlt hL.out.2 HF.out⟩, hO3, hbw.trans hB3⟩
     case measure => simp [intOf]; omega
   ·clear hmk hp0 hp1 hpn
    have ht : l.take j = l := List.take_of_length_le (by omega)
    have HL : Hid (L = flat m.toNat l ∧ ∀ x ∈ l, x < 256 ^ m.toNat) := by have := hL.out; rw [ht] at this; exact this
    clear ht
    go_wp2
    go_ret2
    have e1 := rowE_fits h1 h2 HL.out.2
    have e2 : rowL l m = L := by rw [HL.out.1]; simp [rowL, e1]
    rw [e1, e2]
    exact ⟨_, _, rfl, ho', hbw⟩

/-! ### Rows -/
def nums (k : Nat) : Nat → List Int → List Int
 | 0, _ => []
 | q + 1, l => nums k q l ++ [num ((l.drop (q * k)).take k)]
theorem nums_length (k q : Nat) (l : List Int) : (nums k q l).length = q := by
 induction q with
 | zero => rfl
 | succ q ih => simp [nums, ih]
def rowsE (l : List Int) (m : Int) : Int := if m < 1 ∨ 4 < m then 1 else if ((l.length : Int) % m != 0) = true then 2 else 0
def rowsL (l : List Int) (m : Int) : List Int := if rowsE l m = 0 then nums m.toNat (l.length / m.toNat) l else []
set_option maxHeartbeats 1000000 in
theorem rows_any (A : Option Addr) (c : Nat) (l : List Int) (B : Nat) (m : Int) (w : World) (hb : Bs .u8 w B A l) (hy : Byt l) (hc : l.length ≤ c) (hB : B ≤ w.heap.size) (hl : l.length ≤ 100000) :
  Calls Tryz.prog 101 #[.slice A l.length c, .int .i64 m] w fun e w' => ∃ A' c', e = .returned (.tuple #[.slice A' (rowsL l m).length c', .int .i64 (rowsE l m)]) ∧ Own .u32 23 w' w.heap.size A' c' (rowsL l m) ∧ Below w.heap.size w w' := by
 by_cases hm : m < 1 ∨ 4 < m
 ·have e1 : rowsE l m = 1 := by unfold rowsE; rw [if_pos hm]
  have e2 : rowsL l m = [] := by simp [rowsL, e1]
  rw [e1, e2]
  have HM := Lib.hid hm
  clear hm e1 e2
  go_enter Tryz.func101, Tryz.ntmps101
  go_wp2_with (go_at_call 120; refine (isWidth_no _ _ HM.out).mono ?_; rintro e w' ⟨rfl, rfl⟩)
  go_ret2
  exact ⟨none, 0, rfl, Own.nil _ _, Below.refl _ _⟩
 ·have h1 : 1 ≤ m := by omega
  have h2 : m ≤ 4 := by omega
  by_cases hd : ((l.length : Int) % m != 0) = true
  ·have e1 : rowsE l m = 2 := by unfold rowsE; rw [if_neg hm, if_pos hd]
   have e2 : rowsL l m = [] := by simp [rowsL, e1]
   rw [e1, e2]
   clear hm e1 e2
   go_enter Tryz.func101, Tryz.ntmps101
   go_wp2_with (go_at_call 120; refine (isWidth_yes _ _ h1 h2).mono ?_; rintro e w' ⟨rfl, rfl⟩)
   go_ret2
   exact ⟨none, 0, rfl, Own.nil _ _, Below.refl _ _⟩
  ·have e1 : rowsE l m = 0 := by unfold rowsE; rw [if_neg hm, if_neg hd]
   have e2 : rowsL l m = nums m.toNat (l.length / m.toNat) l := by simp [rowsL, e1]
   rw [e1, e2]
   have hd' : ((l.length : Int) % m != 0) = false := by simpa using hd
   clear hm e1 e2 hd
   obtain ⟨i0, hi, hz0, hz1, hz2⟩ := info_parts info23
   have hq : l.length / m.toNat ≤ l.length := Nat.div_le_self _ _
   obtain ⟨z, w1, hz, hmk, hO, hB1⟩ := mk_own (P := Tryz.prog) w 106 23 .u32 i0 Tryz.underlying106 hi hz0 hz1 .i64 .i64 0 (l.length / m) 0 (l.length / m.toNat) rfl (by rw [Int.natCast_ediv, Int.toNat_of_nonneg (by omega)]) (Nat.zero_le _) (by rw [hz2]; omega) (by unfold maxLen; omega)
   obtain rfl := List.eq_nil_of_length_eq_zero hz
   clear hz
   have hqe : (l.length : Int) / m = ((l.length / m.toNat : Nat) : Int) := by rw [Int.natCast_ediv, Int.toNat_of_nonneg (by omega)]
   have hq0 : 0 ≤ (l.length : Int) / m := by rw [hqe]; exact Int.natCast_nonneg _
   have hq1 : (l.length : Int) / m ≤ 100000 := by rw [hqe]; exact Int.ofNat_le.2 (Nat.le_trans hq hl)
   have HQ : Hid (l.length = l.length / m.toNat * m.toNat) := by
    have h0 : (l.length : Int) % m = 0 := by simpa using hd'
    have h0' : l.length % m.toNat = 0 := by
     have : ((l.length % m.toNat : Nat) : Int) = 0 := by rw [Int.natCast_emod, Int.toNat_of_nonneg (by omega)]; exact h0
     exact Int.ofNat.inj this
    exact (Nat.div_mul_cancel (Nat.dvd_of_mod_eq_zero h0')).symm
   clear hqe hq
   go_enter Tryz.func101, Tryz.ntmps101
   go_wp2_with (go_at_call 120; refine (isWidth_yes _ _ h1 h2).mono ?_; rintro e w' ⟨rfl, rfl⟩)
   go_loopw [6, 7] (fun v i wr => ∃ (j p : Nat) (A' : Option Addr) (c' : Nat) (L : List Int), p ≤ l.length ∧ i = .int .i64 (p : Int) ∧ v = .slice A' L.length c' ∧ Hid (p = j * m.toNat ∧ L = nums m.toNat j l) ∧ Own .u32 23 wr w.heap.size A' c' L ∧ Below w.heap.size w wr) (fun _ i _ => l.length - (intOf i).toNat)
   case atStart => exact ⟨0, 0, _, _, [], Nat.zero_le _, rfl, rfl, ⟨by simp, rfl⟩, hO, hB1⟩
   case round =>
    obtain ⟨j, p, A', c', L, hj, rfl, rfl, hL, ho', hbw⟩ := hrel
    clear hmk hq0 hq1 hd'
    by_cases hlt : p < l.length
    ·have hbw' := hbw.mono hB
     have hpk : p + m.toNat ≤ l.length ∧ L.length < l.length := by
      have e1 := hL.out.1
      have e2 := HQ.out
      generalize l.length / m.toNat = q at e2
      have hjq : j < q := by
       rcases Nat.lt_or_ge j q with h | h
       ·exact h
       ·have := Nat.mul_le_mul_right m.toNat h; omega
      have := Nat.mul_le_mul_right m.toNat (show j + 1 ≤ q from hjq)
      rw [Nat.succ_mul] at this
      have hjl : j ≤ j * m.toNat := Nat.le_mul_of_pos_right _ (by omega)
      exact ⟨by omega, by rw [hL.out.2, nums_length]; omega⟩
     obtain ⟨hpk, hLl⟩ := hpk
     obtain ⟨b, off, rfl, hbB, -⟩ := hb (by rintro rfl; simp at hlt)
     have hsz := hbw.size
     have hcp : ¬ (p = c) := by omega
     have hcp' : ¬ (c = p) := by omega
     have hcm : (p : Int) + m ≤ (c : Int) := by omega
     have hS : Bs .u8 wr B (some ⟨b, off + p, none⟩) ((l.drop p).take m.toNat) := ((hb.below hbw').drop p (some ⟨b, off + p, none⟩) (fun _ => by simp [addr_add])).take _
     go_wp2_with (first | (go_at_call 121; refine (num_n' _ _ _ ((l.drop p).take m.toNat) B _ ?_ hS ?_ ((hy.drop _).take _)).mono ?_; (simp; omega); (simp; omega); rintro e w' ⟨rfl, rfl⟩) | (at_builtin; refine wpList_app _ rfl (.tmp 28) (.tmp 36) 106 rfl w.heap.size 23 .u32 i0 _ 4 Tryz.underlying106 hi hz0 hz1 hz2 rfl A' c' L rfl (ho'.alloc _) _ _ 1 [_] rfl (Bs.one _ _ _ _) ?_ ?_ ?_ ?_; (simp [maxLen]; omega); (simp; omega); (simp; omega); intro l3 A3 c3 w3 hl3 ho3 hb3))
     go_roundw
     case rel => exact ⟨j + 1, p + m.toNat, A3, c3, l3, by omega, by go_num, rfl, ⟨by rw [hL.out.1, Nat.succ_mul], by rw [hl3.out, nums, ← hL.out.1, ← hL.out.2]⟩, ho3, (hbw.alloc (by omega) _).trans hb3⟩
     case measure => simp [intOf]; omega
    ·have hE : Hid (L = nums m.toNat (l.length / m.toNat) l) := by
      have e1 := hL.out.1
      have e2 := HQ.out
      have : j = l.length / m.toNat := by
       generalize l.length / m.toNat = q at e2
       exact Nat.eq_of_mul_eq_mul_right (show 0 < m.toNat by omega) (by omega)
      rw [← this]; exact hL.out.2
     go_wp2
     go_ret2
     rw [← hE.out]
     exact ⟨_, _, rfl, ho', hbw⟩
end Go.Proofs.YtadcicmccdphkaaGreat
namespace Go.Proofs.YtadcicmccdphkaaGreat

def mk (n : Nat) : Nat := 4294967296 - 2 ^ (32 - n)
def wd (n : Nat) : Nat := 2 ^ (32 - n)
theorem mk_eq (n : Nat) (h : n ≤ 32) : mk n = (2 ^ n - 1) * 2 ^ (32 - n) := by
 unfold mk
 rw [Nat.sub_mul, ← Nat.pow_add, show n + (32 - n) = 32 by omega]; omega
theorem shl_tab : ∀ n : Fin 33, (4294967295 * 2 ^ (32 - n.val) % 4294967296 : Int) = (mk n.val : Int) := by decide +kernel
theorem shl_mk (n : Nat) (h : n ≤ 32) : (4294967295 * 2 ^ (32 - n) % 4294967296 : Int) = (mk n : Int) := shl_tab ⟨n, by omega⟩
/-! ### The words of the document -/
def cl (n : Int) : Nat := (max 0 (min n 32)).toNat
theorem cl_le (n : Int) : cl n ≤ 32 := by unfold cl; omega
theorem cl_nat (n : Nat) (h : n ≤ 32) : cl (n : Int) = n := by unfold cl; omega
def lenOk (n : Int) : Bool := decide (0 ≤ n ∧ n ≤ 32)
def okp (A : Nat) (N : Int) : Bool := lenOk N && decide (A % wd (cl N) = 0)
def hasp (A : Nat) (N : Int) (a : Nat) : Bool := okp A N && decide (a / wd (cl N) = A / wd (cl N))
def covp (A : Nat) (N : Int) (B : Nat) (M : Int) : Bool := okp B M && decide (N ≤ M) && hasp A N B
def lessp (A : Nat) (N : Int) (B : Nat) (M : Int) : Bool := decide (A < B ∨ A = B ∧ N < M)
def bt (a : Nat) (i : Int) : Nat := if 0 ≤ i ∧ i < 32 then a / 2 ^ (31 - i.toNat) % 2 else 0
def cn (A : Nat) (N : Int) (B : Nat) (M : Int) : Nat := min (cl N) (min (cl M) (32 - Lib.bitLen (A ^^^ B)))
def comA (A : Nat) (N : Int) (B : Nat) (M : Int) : Nat := if okp A N && okp B M then A / wd (cn A N B M) * wd (cn A N B M) else 0
def comN (A : Nat) (N : Int) (B : Nat) (M : Int) : Nat := if okp A N && okp B M then cn A N B M else 0

/-! ### Common bits -/
/-! ### Bit by bit -/
end Go.Proofs.YtadcicmccdphkaaGreat
namespace Go.Proofs.YtadcicmccdphkaaGreat
open Go.RowKit Go.Joins

theorem mask_any (n : Int) (w : World) : Calls Tryz.prog 145 #[.int .i64 n] w fun e w' => e = .returned (.int .u32 (mk (cl n) : Int)) ∧ w' = w := by
 have h := shl_mk (cl n) (cl_le n)
 rw [← h]
 clear h
 by_cases h0 : n ≤ 0
 ·have e : cl n = 0 := by unfold cl; omega
  rw [e]
  have q : ¬ (32 < n) := by omega
  go_enter Tryz.func145, Tryz.ntmps145
  go_wp2
  all_goals first | omega | skip
  all_goals go_ret
  all_goals exact ⟨ret_int (by first | rfl | (simp; done) | omega), rfl⟩
 ·by_cases h1 : 32 < n
  ·have e : cl n = 32 := by unfold cl; omega
   rw [e]
   go_enter Tryz.func145, Tryz.ntmps145
   go_wp2
   all_goals first | omega | skip
   all_goals go_ret
   all_goals exact ⟨ret_int (by first | rfl | (simp; done) | omega), rfl⟩
  ·have e : (32 - n).toNat = 32 - cl n := by unfold cl; omega
   have q0 : 0 < n := by omega
   have q1 : n ≤ 32 := by omega
   go_enter Tryz.func145, Tryz.ntmps145
   go_wp2
   all_goals first | omega | skip
   all_goals go_ret
   all_goals exact ⟨ret_int (by simp), rfl⟩
theorem beq_zero_dec (a b : Nat) : ((a : Int) % (b : Int) == 0) = decide (a % b = 0) := by
 rw [← Int.natCast_emod, Bool.eq_iff_iff]
 simp only [beq_iff_eq, decide_eq_true_eq]
 omega
theorem beq_dec (a b : Nat) : ((a : Int) == (b : Int)) = decide (a = b) := by
 rw [Bool.eq_iff_iff]
 simp only [beq_iff_eq, decide_eq_true_eq]
 omega
theorem pop_bd : ∀ n : Fin 256, 0 ≤ Lib.pop8 n.val ∧ Lib.pop8 n.val ≤ 8 := by decide +kernel
theorem pop_le (y : Nat) (h : y < 256) : 0 ≤ Lib.pop8 (y : Int) ∧ Lib.pop8 (y : Int) ≤ 8 := pop_bd ⟨y, h⟩
def oc (x : Nat) : Int := Lib.pop8 ((x / 16777216 : Nat) : Int) + Lib.pop8 ((x / 65536 % 256 : Nat) : Int) + Lib.pop8 ((x / 256 % 256 : Nat) : Int) + Lib.pop8 ((x % 256 : Nat) : Int)
theorem oc_tab : ∀ n : Fin 33, oc (mk n.val) = (n.val : Int) := by decide +kernel
theorem oc_mk (n : Nat) (h : n ≤ 32) : oc (mk n) = (n : Int) := oc_tab ⟨n, by omega⟩
theorem bits_byte (x : Nat) (h : x < 4294967296) : bits .and .u32 (x : Int) 255 = ((x % 256 : Nat) : Int) := by
 have := u32_and_nat x 255 h (by omega)
 rw [show (255 : Nat) = 2 ^ 8 - 1 by rfl, Nat.and_two_pow_sub_one_eq_mod] at this
 exact this
theorem ones_any (x : Nat) (w : World) (hx : x < 4294967296) : Calls Tryz.prog 144 #[.int .u32 (x : Int)] w fun e w' => e = .returned (.int .i64 (oc x)) ∧ Below w.heap.size w w' := by
 have b2 : bits .and .u32 ((x : Int) / 65536) 255 = ((x / 65536 % 256 : Nat) : Int) := bits_byte (x / 65536) (by omega)
 have b1 : bits .and .u32 ((x : Int) / 256) 255 = ((x / 256 % 256 : Nat) : Int) := bits_byte (x / 256) (by omega)
 have b0 : bits .and .u32 (x : Int) 255 = ((x % 256 : Nat) : Int) := bits_byte x hx
 have b3 : (x : Int) / 16777216 = ((x / 16777216 : Nat) : Int) := by omega
 have h3 : x / 16777216 < 256 := by omega
 have h2 : x / 65536 % 256 < 256 := by omega
 have h1 : x / 256 % 256 < 256 := by omega
 have h0 : x % 256 < 256 := by omega
 unfold oc
 generalize x / 65536 % 256 = y2 at *
 generalize x / 256 % 256 = y1 at *
 generalize x % 256 = y0 at *
 generalize x / 16777216 = y3 at *
 obtain ⟨q3, r3⟩ := pop_le y3 h3
 obtain ⟨q2, r2⟩ := pop_le y2 h2
 obtain ⟨q1, r1⟩ := pop_le y1 h1
 obtain ⟨q0, r0⟩ := pop_le y0 h0
 have i3 : ∀ W, (Instr.index 9 (.string Lib.pop8tab) (.int .u32 (y3 : Int))).run Tryz.prog W = .ok (.int .u8 (Lib.pop8 (y3 : Int))) W := fun W => Lib.run_index_pop8tab W 9 .u32 _ Tryz.underlying9 (by omega) (by omega)
 have i2 : ∀ W, (Instr.index 9 (.string Lib.pop8tab) (.int .u32 (y2 : Int))).run Tryz.prog W = .ok (.int .u8 (Lib.pop8 (y2 : Int))) W := fun W => Lib.run_index_pop8tab W 9 .u32 _ Tryz.underlying9 (by omega) (by omega)
 have i1 : ∀ W, (Instr.index 9 (.string Lib.pop8tab) (.int .u32 (y1 : Int))).run Tryz.prog W = .ok (.int .u8 (Lib.pop8 (y1 : Int))) W := fun W => Lib.run_index_pop8tab W 9 .u32 _ Tryz.underlying9 (by omega) (by omega)
 have i0 : ∀ W, (Instr.index 9 (.string Lib.pop8tab) (.int .u32 (y0 : Int))).run Tryz.prog W = .ok (.int .u8 (Lib.pop8 (y0 : Int))) W := fun W => Lib.run_index_pop8tab W 9 .u32 _ Tryz.underlying9 (by omega) (by omega)
 generalize Lib.pop8 (y3 : Int) = p3 at *
 generalize Lib.pop8 (y2 : Int) = p2 at *
 generalize Lib.pop8 (y1 : Int) = p1 at *
 generalize Lib.pop8 (y0 : Int) = p0 at *
 go_enter Tryz.func144, Tryz.ntmps144
 go_wp2_with fail
 simp only [List.append_eq, List.cons_append, List.nil_append, Lib.fold_pop8tab]
 go_quiet (fail)
 go_wp2
 go_ret
 exact ⟨ret_int (by omega), below_draws _ _ _⟩
theorem long_any (x : Nat) (w : World) (hx : x < 4294967296) : Calls Tryz.prog 139 #[.int .u32 (x : Int)] w fun e w' => e = .returned (if x = mk (cl (oc x)) then .tuple #[.int .i64 (oc x), .int .i64 0] else .tuple #[.int .i64 0, .int .i64 3]) ∧ Below w.heap.size w w' := by
 by_cases h : x = mk (cl (oc x))
 ·rw [if_pos h]
  have h1 : ((x : Int) != (mk (cl (oc x)) : Int)) = false := by rw [← h]; simp
  clear h
  go_enter Tryz.func139, Tryz.ntmps139
  go_wp2_with fail
  refine (ones_any _ _ hx).mono ?_
  rintro e w1 ⟨rfl, hb⟩
  go_wp2_with fail
  refine (mask_any _ _).mono ?_
  rintro e w2 ⟨rfl, rfl⟩
  go_wp2
  go_ret2
  exact ⟨rfl, hb⟩
 ·rw [if_neg h]
  have h1 : ((x : Int) != (mk (cl (oc x)) : Int)) = true := by simp; omega
  clear h
  go_enter Tryz.func139, Tryz.ntmps139
  go_wp2_with fail
  refine (ones_any _ _ hx).mono ?_
  rintro e w1 ⟨rfl, hb⟩
  go_wp2_with fail
  refine (mask_any _ _).mono ?_
  rintro e w2 ⟨rfl, rfl⟩
  go_wp2
  go_ret2
  exact ⟨rfl, hb⟩
def rm (c i : Nat) : Nat := (2 ^ (min i c) - 1) * 2 ^ (i - min i c)
theorem rm_lt (c i : Nat) : rm c i < 2 ^ i := by
 unfold rm
 have h1 : 0 < 2 ^ min i c := Nat.two_pow_pos _
 have h2 : 0 < 2 ^ (i - min i c) := Nat.two_pow_pos _
 have h3 : 2 ^ i = 2 ^ min i c * 2 ^ (i - min i c) := by rw [← Nat.pow_add]; congr 1; omega
 rw [h3]
 exact Nat.mul_lt_mul_of_pos_right (by omega) h2
theorem rm_in (c i : Nat) (h : i < c) : rm c (i + 1) = rm c i * 2 + 1 := by
 unfold rm
 rw [show min (i + 1) c = i + 1 by omega, show min i c = i by omega, Nat.sub_self, Nat.sub_self, Nat.pow_succ]
 have : 0 < 2 ^ i := Nat.two_pow_pos _
 omega
theorem rm_out (c i : Nat) (h : c ≤ i) : rm c (i + 1) = rm c i * 2 := by
 unfold rm
 rw [show min (i + 1) c = c by omega, show min i c = c by omega, show i + 1 - c = (i - c) + 1 by omega, Nat.pow_succ, Nat.mul_assoc]
theorem rm_end (c : Nat) (h : c ≤ 32) : rm c 32 = mk c := by
 unfold rm
 rw [show min 32 c = c by omega, mk_eq c h]
theorem rmask_any (n : Int) (w : World) : Calls Tryz.prog 134 #[.int .i64 n] w fun e w' => e = .returned (.int .u32 (mk (cl n) : Int)) ∧ w' = w := by
 rw [← rm_end _ (cl_le n)]
 generalize hC : rm (cl n) 32 = Y
 have HC := Lib.hid hC
 clear hC
 go_enter Tryz.func134, Tryz.ntmps134
 go_wp2
 go_loop [3, 4] (fun v3 v4 => ∃ i : Nat, v4 = .int .i64 (i : Int) ∧ v3 = .int .u32 (rm (cl n) i : Int) ∧ i ≤ 32) (fun _ v4 => (32 - intOf v4).toNat)
 case atStart => exact ⟨0, rfl, rfl, by omega⟩
 case round =>
  obtain ⟨i, rfl, rfl, hi⟩ := hrel
  by_cases hlt : i < 32
  ·have hm := rm_lt (cl n) i
   have h2 : 2 ^ i ≤ 2 ^ 31 := Nat.pow_le_pow_right (by omega) (by omega)
   have hm2 : rm (cl n) i < 2147483648 := by omega
   clear hm h2
   have hlt' : (i : Int) < 32 := by omega
   by_cases hn : (i : Int) < n
   ·have hs := rm_in (cl n) i (by unfold cl; omega)
    have HS := Lib.hid hs
    clear hs
    generalize hR : rm (cl n) i = R at *
    have HR := Lib.hid hR
    clear hR
    go_wp2
    go_round
    case rel => exact ⟨i + 1, val_int (by omega), val_int (by have := HS.out; omega), by omega⟩
    case measure => simp [intOf]; omega
   ·have hs := rm_out (cl n) i (by unfold cl; omega)
    have HS := Lib.hid hs
    clear hs
    have hn' : decide ((i : Int) < n) = false := decide_eq_false hn
    generalize hR : rm (cl n) i = R at *
    have HR := Lib.hid hR
    clear hR
    go_wp2
    go_round
    case rel => exact ⟨i + 1, val_int (by omega), val_int (by have := HS.out; omega), by omega⟩
    case measure => simp [intOf]; omega
  ·obtain rfl : i = 32 := by omega
   rw [HC.out]
   go_wp2
   go_ret
   exact ⟨rfl, rfl⟩
def lg (x : Nat) : Value := if x = mk (cl (oc x)) then .tuple #[.int .i64 (oc x), .int .i64 0] else .tuple #[.int .i64 0, .int .i64 3]
theorem lg_mk (n : Nat) (h : n ≤ 32) : lg (mk n) = .tuple #[.int .i64 (n : Int), .int .i64 0] := by
 unfold lg
 rw [oc_mk n h, cl_nat n h, if_pos rfl]
theorem rlong_any (x : Nat) (w : World) : Calls Tryz.prog 115 #[.int .u32 (x : Int)] w fun e w' => e = .returned (lg x) ∧ w' = w := by
 generalize hG : lg x = G
 have HG := Lib.hid hG
 clear hG
 go_enter Tryz.func115, Tryz.ntmps115
 go_wp2
 go_loop [4] (fun v4 => ∃ n : Nat, v4 = .int .i64 (n : Int) ∧ n ≤ 33 ∧ Hid (∀ j, j < n → mk j ≠ x)) (fun v4 => (33 - intOf v4).toNat)
 case atStart => exact ⟨0, rfl, by omega, Lib.hid (fun j h => by omega)⟩
 case round =>
  obtain ⟨n, rfl, hn, hj⟩ := hrel
  by_cases hlt : n ≤ 32
  ·have hlt' : (n : Int) ≤ 32 := by omega
   have cM := fun W => rmask_any (n : Int) W
   rw [cl_nat n hlt] at cM
   by_cases he : mk n = x
   ·have hg := HG.out
    rw [← he, lg_mk n hlt] at hg
    subst hg
    have he' : ((mk n : Int) == (x : Int)) = true := by rw [he]; simp
    clear HG
    go_wp2_with fail
    refine (cM _).mono ?_
    rintro e w1 ⟨rfl, rfl⟩
    go_wp2
    go_ret2
    exact ⟨rfl, rfl⟩
   ·have he' : ((mk n : Int) == (x : Int)) = false := by rw [beq_dec]; exact decide_eq_false he
    go_wp2_with fail
    refine (cM _).mono ?_
    rintro e w1 ⟨rfl, rfl⟩
    go_wp2
    go_round
    case rel => exact ⟨n + 1, val_int (by omega), by omega, Lib.hid (fun j h => by
     rcases Nat.lt_or_ge j n with h2 | h2
     ·exact hj.out j h2
     ·obtain rfl : j = n := by omega
      exact he)⟩
    case measure => simp [intOf]; omega
  ·have hg := HG.out
   unfold lg at hg
   rw [if_neg (by intro h; exact hj.out _ (by have := cl_le (oc x); omega) h.symm)] at hg
   subst hg
   have hlt' : decide ((n : Int) ≤ 32) = false := decide_eq_false (by omega)
   go_wp2
   go_ret2
   exact ⟨rfl, rfl⟩
end Go.Proofs.YtadcicmccdphkaaGreat
