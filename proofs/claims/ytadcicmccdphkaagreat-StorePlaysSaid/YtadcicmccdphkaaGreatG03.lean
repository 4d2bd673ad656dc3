/-
  Contracts of package octet's Take, Cut, Row, Rows. Small whole numbers as floats. Sums of small whole numbers as floats; both checksums as plain numbers. Contracts of the small functions of package sum, and of the reference's sums. Contracts of both Fletcher pairs. Contract of the program's Place. General lemmas on bytes, pieces of rows and strings out of bytes that are read. No statement is proved here; no conditions.
-/
import Derived.Test.YtadcicmccdphkaaGreatG02
import Derived.Test.YtadcicmccdphkaaGreatG01
import Derived.Deep.RegionWith
import Derived.StillTailTactics
import Derived.WalkLawsBesides
import Derived.Laws.FloatArith
import Derived.Test.YtadcicmccdphkaaGreatProg
import Derived.KernelRfl
import Derived.Deep.QuietTactic
import Derived.BigQuiet
import Derived.Deep.DeepCutAuto
import Derived.Lib.QuietBelow
import Derived.Deep.RegionHeldLaw
namespace Go.Proofs.YtadcicmccdphkaaGreat
open Go.RowKit

theorem num_n (A : Option Addr) (n c : Nat) (l : List Int) (B : Nat) (w : World) (hn : n = l.length) (hb : Bs .u8 w B A l) (hl : l.length ≤ 4) (hy : Byt l) :
  Calls Tryz.prog 121 #[.slice A n c] w fun e w' => e = .returned (.int .u32 (num l)) ∧ w = w' := by subst hn; exact num_any A c l B w hb hl hy
theorem fresh_n (A : Option Addr) (n c : Nat) (l : List Int) (B : Nat) (w : World) (hn : n = l.length) (hb : Bs .u8 w B A l) (hB : B ≤ w.heap.size) (hl : l.length ≤ 1000000) :
  Calls Tryz.prog 122 #[.slice A n c] w fun e w' => ∃ L, Hid (L = l) ∧ e = .returned (.slice (some ⟨w.heap.size, 0, none⟩) L.length L.length) ∧ Own .u8 5 w' w.heap.size (some ⟨w.heap.size, 0, none⟩) L.length L ∧ Below w.heap.size w w' := by
 subst hn
 exact (fresh_any A c l B w hb hB hl).mono fun e w' ⟨h1, h2, h3⟩ => ⟨l, rfl, h1, h2, h3⟩

/-! ### Take -/
def takeE (l : List Int) (m : Int) : Int := if m < 1 ∨ 4 < m then 1 else if (l.length : Int) < m then 2 else 0
def takeN (l : List Int) (m : Int) : Int := if takeE l m = 0 then num (l.take m.toNat) else 0
def takeL (l : List Int) (m : Int) : List Int := if takeE l m = 0 then l.drop m.toNat else []
theorem take_any (A : Option Addr) (c : Nat) (l : List Int) (B : Nat) (m : Int) (w : World) (hb : Bs .u8 w B A l) (hy : Byt l) (hc : l.length ≤ c) (hB : B ≤ w.heap.size) (hl : l.length ≤ 100000) :
  Calls Tryz.prog 96 #[.slice A l.length c, .int .i64 m] w fun e w' => ∃ A' c', e = .returned (.tuple #[.int .u32 (takeN l m), .slice A' (takeL l m).length c', .int .i64 (takeE l m)]) ∧ Own .u8 5 w' w.heap.size A' c' (takeL l m) ∧ Below w.heap.size w w' := by
 by_cases hm : m < 1 ∨ 4 < m
 ·have e1 : takeE l m = 1 := by simp [takeE, hm]
  have e2 : takeL l m = [] := by simp [takeL, e1]
  have e3 : takeN l m = 0 := by simp [takeN, e1]
  rw [e1, e2, e3]
  have HM := Lib.hid hm
  clear hm e1 e2 e3
  go_enter Tryz.func96, Tryz.ntmps96
  go_wp2_with (go_at_call 120; refine (isWidth_no _ _ HM.out).mono ?_; rintro e w' ⟨rfl, rfl⟩)
  go_ret3
  exact ⟨none, 0, rfl, Own.nil _ _, Below.refl _ _⟩
 ·have h1 : 1 ≤ m := by omega
  have h2 : m ≤ 4 := by omega
  by_cases hf : (l.length : Int) < m
  ·have e1 : takeE l m = 2 := by simp [takeE, hm, hf]
   have e2 : takeL l m = [] := by simp [takeL, e1]
   have e3 : takeN l m = 0 := by simp [takeN, e1]
   rw [e1, e2, e3]
   clear hm e1 e2 e3
   go_enter Tryz.func96, Tryz.ntmps96
   go_wp2_with (go_at_call 120; refine (isWidth_yes _ _ h1 h2).mono ?_; rintro e w' ⟨rfl, rfl⟩)
   go_ret3
   exact ⟨none, 0, rfl, Own.nil _ _, Below.refl _ _⟩
  ·have e1 : takeE l m = 0 := by simp [takeE, hm, hf]
   have e2 : takeL l m = l.drop m.toNat := by simp [takeL, e1]
   have e3 : takeN l m = num (l.take m.toNat) := by simp [takeN, e1]
   rw [e1, e2, e3]
   have hf' : m ≤ (l.length : Int) := by omega
   clear hm e1 e2 e3 hf
   have hcm : m ≤ (c : Int) := by omega
   have h0 : 0 ≤ m := by omega
   obtain ⟨b, off, rfl, hbB, -⟩ := hb (by rintro rfl; simp at hf'; omega)
   by_cases hcc : c = m.toNat
   ·subst hcc
    have hd : Bs .u8 w B (some ⟨b, off, none⟩) (l.drop m.toNat) := hb.drop _ _ (fun h => by omega)
    go_enter Tryz.func96, Tryz.ntmps96
    go_wp2_with (go_at_call 120; refine (isWidth_yes _ _ h1 h2).mono ?_; rintro e w' ⟨rfl, rfl⟩)
    go_region_with (first | (go_at_call 121; refine (num_n _ _ _ (l.take m.toNat) B _ ?_ ?_ ?_ ?_).mono ?_; (simp; omega); exact hb.take _; (simp; omega); exact hy.take _; rintro e w' ⟨rfl, rfl⟩) | (go_at_call 122; refine (fresh_n _ _ _ (l.drop m.toNat) B _ ?_ ?_ ?_ ?_).mono ?_; (simp only [List.length_drop] <;> omega); exact hd; exact hB; (simp; omega); rintro e w' ⟨L, hL, rfl, hO, hBw⟩))
    go_wp2
    go_ret3
    rw [← hL.out]
    exact ⟨_, _, rfl, hO, (Below.refl _ w).drew.trans hBw⟩
   ·have hcc' : ¬ (m.toNat = c) := fun h => hcc h.symm
    have hd : Bs .u8 w B (some ⟨b, off + m.toNat, none⟩) (l.drop m.toNat) := hb.drop _ _ (fun h => by simp [addr_add])
    go_enter Tryz.func96, Tryz.ntmps96
    go_wp2_with (go_at_call 120; refine (isWidth_yes _ _ h1 h2).mono ?_; rintro e w' ⟨rfl, rfl⟩)
    go_region_with (first | (go_at_call 121; refine (num_n _ _ _ (l.take m.toNat) B _ ?_ ?_ ?_ ?_).mono ?_; (simp; omega); exact hb.take _; (simp; omega); exact hy.take _; rintro e w' ⟨rfl, rfl⟩) | (go_at_call 122; refine (fresh_n _ _ _ (l.drop m.toNat) B _ ?_ ?_ ?_ ?_).mono ?_; (simp only [List.length_drop] <;> omega); exact hd; exact hB; (simp; omega); rintro e w' ⟨L, hL, rfl, hO, hBw⟩))
    go_wp2
    go_ret3
    rw [← hL.out]
    exact ⟨_, _, rfl, hO, (Below.refl _ w).drew.trans hBw⟩

/-! ### Cut -/
def cutE (l : List Int) (m : Int) : Int := if m < 0 then 1 else if (l.length : Int) < m then 2 else 0
def cutF (l : List Int) (m : Int) : List Int := if cutE l m = 0 then l.take m.toNat else []
def cutL (l : List Int) (m : Int) : List Int := if cutE l m = 0 then l.drop m.toNat else []
end Go.Proofs.YtadcicmccdphkaaGreat
namespace Go.Proofs.YtadcicmccdphkaaGreat

def fl (n : Nat) : Nat := floatOfInt .f64 n

def low (n : Nat) : Nat := if n = 0 then 1074 else 52 - n.log2

theorem fl_read : ∀ n : Fin 256, Ieee.double.read (fl n) = .number false (n.val <<< low n) (-(low n : Int)) := by decide +kernel
theorem fl_write : ∀ t ∈ [45, 46, 47, 48, 49, 50, 51, 52, 1074], ∀ n : Fin 510, Ieee.double.write (.number false (n.val <<< t) (-(t : Int))) = fl n := by decide +kernel
theorem low_in : ∀ n : Fin 256, low n ∈ [45, 46, 47, 48, 49, 50, 51, 52, 1074] := by decide +kernel
theorem fl_ge : ∀ n : Fin 510, 255 ≤ n.val → (Ieee.double.order (fl n) 4643176031446892544 == some .gt || Ieee.double.order (fl n) 4643176031446892544 == some .eq) = true := by decide +kernel
theorem fl_lt : ∀ n : Fin 255, (Ieee.double.order (fl n) 4643176031446892544 == some .gt || Ieee.double.order (fl n) 4643176031446892544 == some .eq) = false := by decide +kernel
theorem fl_sub : ∀ n : Fin 255, floatBits .sub .f64 (fl (n + 255)) 4643176031446892544 = some (fl n) := by decide +kernel
theorem fl_int : ∀ n : Fin 255, floatToIntVal .f64 (fl n) .i64 = some (n.val : Int) := by decide +kernel
theorem fl_zero : fl 0 = 0 := by decide +kernel
end Go.Proofs.YtadcicmccdphkaaGreat
namespace Go.Proofs.YtadcicmccdphkaaGreat
open Go.RowKit

theorem shift_join (a s t : Nat) (h : s ≤ t) : (a <<< s) <<< (t - s) = a * 2 ^ t := by
 rw [← Nat.shiftLeft_add, Nat.shiftLeft_eq, Nat.add_sub_cancel' h]
theorem num_sum (a b s t : Nat) : Ieee.Datum.sum (.number false (a <<< s) (-(s : Int))) (.number false (b <<< t) (-(t : Int))) = some (.number false ((a + b) <<< (max s t)) (-((max s t : Nat) : Int))) := by
 have hb : min (-(s : Int)) (-(t : Int)) = -((max s t : Nat) : Int) := by omega
 have h1 : (-(s : Int) - -((max s t : Nat) : Int)).toNat = max s t - s := by omega
 have h2 : (-(t : Int) - -((max s t : Nat) : Int)).toNat = max s t - t := by omega
 simp only [Ieee.Datum.sum, hb, h1, h2, Ieee.signed, Bool.false_eq_true, if_false, Bool.and_self]
 rw [shift_join a s _ (Nat.le_max_left ..), shift_join b t _ (Nat.le_max_right ..), ← Int.natCast_add, ← Nat.add_mul, ← Nat.shiftLeft_eq]
 congr 2
 split
 ·rfl
 ·exact decide_eq_false (by have := Int.natCast_nonneg ((a + b) <<< max s t); omega)
theorem fl_add (a b : Nat) (ha : a < 255) (hb : b < 256) : floatBits .add .f64 (fl a) (fl b) = some (fl (a + b)) := by
 have h1 := fl_read ⟨a, by omega⟩
 have h2 := fl_read ⟨b, hb⟩
 have m1 := low_in ⟨a, by omega⟩
 have m2 := low_in ⟨b, hb⟩
 simp only at h1 h2 m1 m2
 show ((Ieee.double.read (fl a)).sum (Ieee.double.read (fl b))).map Ieee.double.write = _
 rw [h1, h2, num_sum, Option.map_some]
 have hm : max (low a) (low b) ∈ [45, 46, 47, 48, 49, 50, 51, 52, 1074] := by
  rcases Nat.le_total (low a) (low b) with h | h
  ·rw [Nat.max_eq_right h]; exact m2
  ·rw [Nat.max_eq_left h]; exact m1
 exact congrArg some (fl_write _ hm ⟨a + b, by omega⟩)

/-! ### The internet checksum -/
def isum : List Int → Nat → Int
 | [], _ => 0
 | x :: t, i => (if i % 2 = 0 then 256 * x else x) + isum t (i + 1)
def fold (n : Int) : Int := if n = 0 then 0 else (n - 1) % 65535 + 1
def inet (l : List Int) : Int := 65535 - fold (isum l 0)

/-! ### The Fletcher pair -/
def s0 : List Int → Int
 | [] => 0
 | x :: t => x + s0 t
def s1 : List Int → Int
 | [] => 0
 | x :: t => (t.length + 1) * x + s1 t
theorem s0_append (a b : List Int) : s0 (a ++ b) = s0 a + s0 b := by
 induction a with
 | nil => simp [s0]
 | cons x t ih => simp only [List.cons_append, s0, ih]; omega
theorem s1_snoc (a : List Int) (y : Int) : s1 (a ++ [y]) = s1 a + s0 a + y := by
 induction a with
 | nil => simp [s0, s1]
 | cons x t ih =>
  simp only [List.cons_append, s0, s1, ih, List.length_append, List.length_cons, List.length_nil]
  have : ((t.length + 1 : Nat) : Int) + 1 = (t.length + 1) + 1 := by omega
  simp only [Nat.zero_add]
  rw [this, Int.add_mul ((t.length : Int) + 1) 1 x, Int.one_mul]
  omega
theorem s0_take (l : List Int) (j : Nat) (h : j < l.length) : s0 (l.take (j + 1)) = s0 (l.take j) + l[j] := by
 rw [List.take_succ_eq_append_getElem h, s0_append]; simp [s0]
theorem s1_take (l : List Int) (j : Nat) (h : j < l.length) : s1 (l.take (j + 1)) = s1 (l.take j) + s0 (l.take (j + 1)) := by
 rw [s0_take l j h, List.take_succ_eq_append_getElem h, s1_snoc]; omega
theorem s0_set (l : List Int) (k : Nat) (v : Int) (h : k < l.length) : s0 (l.set k v) = s0 l + (v - l[k]) := by
 induction l generalizing k with
 | nil => simp at h
 | cons x t ih =>
  cases k with
  | zero => simp only [List.set_cons_zero, s0, List.getElem_cons_zero]; omega
  | succ k => simp only [List.set_cons_succ, s0, List.getElem_cons_succ]; rw [ih k (by simpa using h)]; omega
theorem s1_set (l : List Int) (k : Nat) (v : Int) (h : k < l.length) : s1 (l.set k v) = s1 l + (l.length - k) * (v - l[k]) := by
 induction l generalizing k with
 | nil => simp at h
 | cons x t ih =>
  cases k with
  | zero =>
   simp only [List.set_cons_zero, s1, List.getElem_cons_zero, List.length_cons]
   have : (((t.length + 1 : Nat) : Int) - ((0 : Nat) : Int)) = (t.length : Int) + 1 := by omega
   rw [this, Int.mul_sub]; omega
  | succ k =>
   simp only [List.set_cons_succ, s1, List.getElem_cons_succ, List.length_cons, List.length_set]
   rw [ih k (by simpa using h), show (((t.length + 1 : Nat) : Int) - ((k + 1 : Nat) : Int)) = (t.length : Int) - k by omega]
   omega
def p0 (l : List Int) : Int := s0 l % 255
def p1 (l : List Int) : Int := s1 l % 255
theorem p0_bd (l : List Int) : 0 ≤ p0 l ∧ p0 l < 255 := by unfold p0; omega
theorem p1_bd (l : List Int) : 0 ≤ p1 l ∧ p1 l < 255 := by unfold p1; omega
theorem p0_take (l : List Int) (j : Nat) (h : j < l.length) : p0 (l.take (j + 1)) = (p0 (l.take j) + l[j]) % 255 := by
 unfold p0; rw [s0_take l j h]; omega
theorem p1_take (l : List Int) (j : Nat) (h : j < l.length) : p1 (l.take (j + 1)) = (p1 (l.take j) + p0 (l.take (j + 1))) % 255 := by
 unfold p1 p0; rw [s1_take l j h]; omega
end Go.Proofs.YtadcicmccdphkaaGreat
namespace Go.Proofs.YtadcicmccdphkaaGreat
open Go.RowKit

/-! ### below -/
theorem fl_order (n : Nat) (h : n < 255) : (FloatKind.f64.format.order (fl n) 4643176031446892544 == some .gt) = false ∧ (FloatKind.f64.format.order (fl n) 4643176031446892544 == some .eq) = false := by
 have h2 := fl_lt ⟨n, h⟩
 exact Bool.or_eq_false_iff.1 h2
theorem below_any (n : Nat) (w : World) (h : n < 510) : Calls Tryz.prog 119 #[.float .f64 (fl n)] w fun e w' => e = .returned (.float .f64 (fl (n % 255))) ∧ w = w' := by
 by_cases h1 : 255 ≤ n
 ·have h2 : (FloatKind.f64.format.order (fl n) 4643176031446892544 == some .gt || FloatKind.f64.format.order (fl n) 4643176031446892544 == some .eq) = true := fl_ge ⟨n, h⟩ h1
  have h3 : (binOp .sub 176 (.float .f64 (fl n)) (.float .f64 4643176031446892544)).run Tryz.prog w = .ok (.float .f64 (fl (n % 255))) w := by
   refine run_float_arith w .sub 176 .f64 _ _ _ ?_
   have h4 := fl_sub ⟨n - 255, by omega⟩
   rw [show n % 255 = n - 255 by omega]
   simpa [Nat.sub_add_cancel h1] using h4
  go_enter Tryz.func119, Tryz.ntmps119
  go_wp2
  go_ret
  exact ⟨rfl, rfl⟩
 ·obtain ⟨h2, h3⟩ := fl_order n (by omega)
  have h4 : (FloatKind.f64.format.order (fl n) 4643176031446892544 == some .gt || FloatKind.f64.format.order (fl n) 4643176031446892544 == some .eq) = false := by rw [h2, h3]; rfl
  rw [show n % 255 = n by omega]
  clear h1 h2 h3
  go_enter Tryz.func119, Tryz.ntmps119
  go_wp2
  go_ret
  exact ⟨rfl, rfl⟩

/-! ### nonzero -/
def nz (n : Int) : Int := (n - 1) % 255 + 1
theorem nz_bd (n : Int) : 1 ≤ nz n ∧ nz n ≤ 255 := by unfold nz; omega
theorem tmod255 (n : Int) : ∃ q, n = 255 * q + n.tmod 255 ∧ -255 < n.tmod 255 ∧ n.tmod 255 < 255 :=
 ⟨n.tdiv 255, (Int.mul_tdiv_add_tmod n 255).symm, Int.lt_tmod_of_pos n (by decide), Int.tmod_lt_of_pos n (by decide)⟩
theorem nonzero_any (n : Int) (w : World) (__h : -100000000 < n) (_h1 : n < 100000000) : Calls Tryz.prog 95 #[.int .i64 n] w fun e w' => e = .returned (.int .u8 (nz n)) ∧ w = w' := by
 obtain ⟨q, hq, hr1, hr2⟩ := tmod255 n
 have HQ := Lib.hid hq
 clear hq
 by_cases h2 : n.tmod 255 ≤ 0
 ·go_enter Tryz.func95, Tryz.ntmps95
  go_wp2
  go_ret
  exact ⟨ret_int (by have := HQ.out; unfold nz; omega), rfl⟩
 ·go_enter Tryz.func95, Tryz.ntmps95
  go_wp2
  go_ret
  exact ⟨ret_int (by have := HQ.out; unfold nz; omega), rfl⟩

/-! ### fold -/
end Go.Proofs.YtadcicmccdphkaaGreat
namespace Go.Proofs.YtadcicmccdphkaaGreat
open Go.RowKit

set_option maxHeartbeats 1000000 in
theorem pair_any (A : Option Addr) (c : Nat) (l : List Int) (B : Nat) (w : World) (hb : Bs .u8 w B A l) (hy : Byt l) (hl : l.length ≤ 10000) :
  Calls Tryz.prog 94 #[.slice A l.length c] w fun e w' => e = .returned (.tuple #[.int .i64 (p0 l), .int .i64 (p1 l)]) ∧ w = w' := by
 go_enter Tryz.func94, Tryz.ntmps94
 go_wp2
 go_loop [4, 6, 7, 10] (fun x _ _ i => ∃ (j X Y : Nat), j ≤ l.length ∧ i = .int .i64 j ∧ x = .complex .f64 (fl X) (fl Y) ∧ X < 255 ∧ Y < 255 ∧ Hid ((X : Int) = p0 (l.take j) ∧ (Y : Int) = p1 (l.take j))) (fun _ _ _ i => l.length - (intOf i).toNat)
 case atStart => exact ⟨0, 0, 0, Nat.zero_le _, rfl, by rw [fl_zero], by decide, by decide, rfl, rfl⟩
 case round =>
  obtain ⟨j, X, Y, hj, rfl, rfl, hX, hY, hXY⟩ := hrel
  by_cases hlt : j < l.length
  ·obtain ⟨b, off, rfl, _, hc⟩ := hb.at_ hlt
   have hx := hy l[j] (List.getElem_mem hlt)
   obtain ⟨hx0, hx1⟩ := hx
   obtain ⟨v, hv⟩ := Int.eq_ofNat_of_zero_le hx0
   have hv1 : v < 256 := by omega
   have hfv : floatOfInt .f64 l[j] = fl v := by rw [hv]; rfl
   have ha1 := run_float_arith (P := Tryz.prog) w .add 176 .f64 _ _ _ (fl_add X v hX hv1)
   have ha2 := run_float_arith (P := Tryz.prog) w .add 176 .f64 _ _ _ (fl_add Y ((X + v) % 255) hY (by omega))
   have HV := Lib.hid hv
   clear hv
   go_wp2_with (go_at_call 119; refine (below_any _ _ (by omega)).mono ?_; rintro e w' ⟨rfl, rfl⟩)
   go_round
   case rel =>
    have h1 := p0_take l j hlt
    have h2 := p1_take l j hlt
    rw [← hXY.out.1, HV.out] at h1
    rw [← hXY.out.2, h1] at h2
    exact ⟨j + 1, (X + v) % 255, (Y + (X + v)) % 255, by omega, by go_num, rfl, by omega, by omega, ⟨by rw [h1]; omega, by rw [h2]; omega⟩⟩
   case measure => simp [intOf]; omega
  ·have hE : Hid ((X : Int) = p0 l ∧ (Y : Int) = p1 l) := by have := hXY.out; rwa [List.take_of_length_le (by omega)] at this
   have hc1 := run_convert_float_int (P := Tryz.prog) w 176 3 .f64 .i64 _ _ (by kernel_rfl) Tryz.underlying3 (fl_int ⟨X, hX⟩)
   have hc2 := run_convert_float_int (P := Tryz.prog) w 176 3 .f64 .i64 _ _ (by kernel_rfl) Tryz.underlying3 (fl_int ⟨Y, hY⟩)
   go_wp2
   go_ret2
   rw [← hE.out.1, ← hE.out.2]
   exact ⟨rfl, rfl⟩
theorem fits_any (A : Option Addr) (c : Nat) (l : List Int) (B : Nat) (w : World) (hb : Bs .u8 w B A l) (hy : Byt l) (hl : l.length ≤ 10000) :
  Calls Tryz.prog 72 #[.slice A l.length c] w fun e w' => e = .returned (.bool (p0 l == 0 && p1 l == 0)) ∧ w = w' := by
 by_cases h : (p0 l == 0) = true
 ·go_enter Tryz.func72, Tryz.ntmps72
  go_wp2_with (go_at_call 94; refine (pair_any A c l B w hb hy hl).mono ?_; rintro e w' ⟨rfl, rfl⟩)
  go_ret
  rw [h]
  exact ⟨rfl, rfl⟩
 ·have h' : (p0 l == 0) = false := by simpa using h
  clear h
  go_enter Tryz.func72, Tryz.ntmps72
  go_wp2_with (go_at_call 94; refine (pair_any A c l B w hb hy hl).mono ?_; rintro e w' ⟨rfl, rfl⟩)
  go_ret
  rw [h']
  exact ⟨rfl, rfl⟩
end Go.Proofs.YtadcicmccdphkaaGreat
namespace Go.Proofs.YtadcicmccdphkaaGreat
open Go.RowKit

theorem Own.set {k : IntKind} {e : TypeId} {w : World} {base g c : Nat} {l : List Int} (h : Own k e w base (some ⟨g, 0, none⟩) c l) (i : Nat) (v : Int) : Own k e (w.setCell ⟨g, i, none⟩ (.int k v)) base (some ⟨g, 0, none⟩) c (l.set i v) := by
 have h' := (World.ownsRow.stored h i (.int k v)).1
 have e1 : (l.map (Value.int k)).set i (.int k v) = (l.set i v).map (Value.int k) := by rw [List.map_set]
 rw [e1] at h'
 unfold Own
 rw [List.length_set]
 exact h'
theorem Own.frozen {k : IntKind} {e : TypeId} {w : World} {base g c : Nat} {l : List Int} (h : Own k e w base (some ⟨g, 0, none⟩) c l) (i : Nat) : w.frozen? ⟨g, i, none⟩ = false := World.ownsRow.frozenAt h i
theorem Own.cellAt {k : IntKind} {e : TypeId} {w : World} {base g c : Nat} {l : List Int} (h : Own k e w base (some ⟨g, 0, none⟩) c l) {i : Nat} (hi : i < l.length) : w.cell? ⟨g, i, none⟩ = some (.int k (l.getD i 0)) := by
 obtain ⟨b, off, hA, -, hc⟩ := h.bs.at_ hi
 injection hA with hA
 injection hA with h1 h2
 subst h1 h2
 rwa [Nat.zero_add] at hc
theorem Byt.set {l : List Int} (h : Byt l) (i : Nat) (v : Int) (h0 : 0 ≤ v) (h1 : v < 256) : Byt (l.set i v) := by
 intro x hx
 rcases List.mem_or_eq_of_mem_set hx with hx | rfl
 ·exact h x hx
 ·exact ⟨h0, h1⟩

def two (l : List Int) (a : Nat) (x y : Int) : List Int := (l.set a x).set (a + 1) y
theorem two_length (l : List Int) (a : Nat) (x y : Int) : (two l a x y).length = l.length := by simp [two]
theorem two_byt {l : List Int} (h : Byt l) (a : Nat) (x y : Int) (hx : 0 ≤ x ∧ x < 256) (hy : 0 ≤ y ∧ y < 256) : Byt (two l a x y) := (h.set a x hx.1 hx.2).set _ y hy.1 hy.2
theorem two_two (l : List Int) (a : Nat) (x y u v : Int) : two (two l a x y) a u v = two l a u v := by
 apply List.ext_getElem?
 intro i
 simp only [two, List.getElem?_set, List.length_set]
 by_cases h1 : a + 1 = i
 ·simp [h1]
 ·by_cases h2 : a = i
  ·simp [h2]
  ·simp [h1, h2]

def fst1 (l : List Int) (a : Nat) : Int := (l.length - a - 1) * p0 (two l a 0 0) - p1 (two l a 0 0)
def placeX (l : List Int) (a : Nat) : Int := nz (fst1 l a)
def placeY (l : List Int) (a : Nat) : Int := nz (-p0 (two l a 0 0) - fst1 l a)
def placed (l : List Int) (a : Nat) : List Int := two l a (placeX l a) (placeY l a)

set_option maxHeartbeats 1000000 in
theorem place_ok (A : Option Addr) (c : Nat) (l : List Int) (B : Nat) (a : Nat) (w : World) (hb : Bs .u8 w B A l) (hy : Byt l) (hB : B ≤ w.heap.size) (hl : l.length ≤ 4000) (h : a + 2 ≤ l.length) :
  Calls Tryz.prog 70 #[.slice A l.length c, .int .i64 a] w fun e w' => ∃ A' c' L, Hid (L = placed l a) ∧ e = .returned (.tuple #[.slice A' L.length c', .int .i64 0]) ∧ Own .u8 5 w' w.heap.size A' c' L ∧ Below w.heap.size w w' := by
 obtain ⟨i0, hi, hz0, hz1, hz2⟩ := info_parts info5
 obtain ⟨z, w1, hz, hmk, hO, hB1⟩ := mk_own (P := Tryz.prog) w 38 5 .u8 i0 Tryz.underlying38 hi hz0 hz1 .i64 .i64 l.length l.length l.length l.length rfl rfl (Nat.le_refl _) (by rw [hz2]; omega) (by unfold maxLen; omega)
 have hb1 := hb.below (hB1.mono hB)
 have HR := Lib.hid hz
 clear hz
 have t1 : ¬ (a : Int) < 0 := by omega
 have t2 : ¬ ((l.length : Int) - 2 < (a : Int)) := by omega
 have t3 : ¬ (4000 < (l.length : Int)) := by omega
 go_enter Tryz.func70, Tryz.ntmps70
 go_wp2_with ((with_reducible refine wpList_cp (o := ⟨some 30, _, _, _, _, _⟩) _ rfl (.tmp 28) (.tmp 29) 38 38 rfl w.heap.size 5 .u8 Tryz.underlying38 (by kernel_rfl) _ l.length z rfl hO B A c l rfl hb1 (by rw [HR.out]; exact Nat.le_refl _) ?_); intro w2 hO2 hB2; rw [List.drop_eq_nil_of_le (by rw [HR.out]; exact Nat.le_refl _), List.append_nil] at hO2; rw [HR.out]; have hc1 := hO2.cellAt (i := a) (by omega); have hf1 := hO2.frozen a; have hO3 := hO2.set a 0; have hc2 := hO3.cellAt (i := a + 1) (by rw [List.length_set]; omega); have hf2 := hO3.frozen (a + 1); have hO4 := hO3.set (a + 1) 0; have hbz := hO4.bs)
 have hP := pair_any (some ⟨w.heap.size, 0, none⟩) l.length (two l a 0 0) _ _ hbz (two_byt hy a 0 0 (by decide) (by decide)) (by rw [two_length]; omega)
 rw [two_length] at hP
 refine hP.mono ?_
 rintro e w' ⟨rfl, rfl⟩
 have hB4 : Below w.heap.size w _ := ((hB1.trans hB2).setCell (p := ⟨w.heap.size, a, none⟩) (Nat.le_refl _) (.int .u8 0)).setCell (p := ⟨w.heap.size, a + 1, none⟩) (Nat.le_refl _) (.int .u8 0)
 change Own .u8 5 _ w.heap.size _ _ (two l a 0 0) at hO4
 generalize (w2.setCell ⟨w.heap.size, a, none⟩ (.int .u8 0)).setCell ⟨w.heap.size, a + 1, none⟩ (.int .u8 0) = w4 at hO4 hB4 ⊢
 clear hP hbz hO3 hc1 hc2 hf1 hf2 hO2 hB2 hB1 hb1 hO hmk w2 hb hi hz0 hz1 hz2
 obtain ⟨X, hX⟩ : ∃ X, Hid (p0 (two l a 0 0) = X) := ⟨_, rfl⟩
 obtain ⟨Y, hY⟩ : ∃ Y, Hid (p1 (two l a 0 0) = Y) := ⟨_, rfl⟩
 have bX := p0_bd (two l a 0 0)
 have bY := p1_bd (two l a 0 0)
 rw [hX.out] at bX
 rw [hY.out] at bY
 rw [hX.out, hY.out]
 obtain ⟨bX0, bX1⟩ := bX
 obtain ⟨bY0, bY1⟩ := bY
 have hm0 : 0 ≤ ((l.length : Int) - a - 1) * X := Int.mul_nonneg (by omega) bX0
 have hm1 : ((l.length : Int) - a - 1) * X ≤ 4000 * 255 := Int.mul_le_mul (by omega) (by omega) bX0 (by omega)
 have HP : Hid (placed l a = two (two l a 0 0) a (nz (((l.length : Int) - a - 1) * X - Y)) (nz (-X - (((l.length : Int) - a - 1) * X - Y)))) := by
  show _ = _
  rw [two_two]; unfold placed placeX placeY fst1; rw [hX.out, hY.out]
 have hc1 := hO4.cellAt (i := a) (by rw [two_length]; omega)
 have hf1 := hO4.frozen a
 have hO5 := hO4.set a (nz (((l.length : Int) - a - 1) * X - Y))
 have hc2 := hO5.cellAt (i := a + 1) (by rw [List.length_set, two_length]; omega)
 have hf2 := hO5.frozen (a + 1)
 have hO6 := hO5.set (a + 1) (nz (-X - (((l.length : Int) - a - 1) * X - Y)))
 clear hO4 hO5
 go_wp2_with (go_at_call 95; refine (nonzero_any _ _ (by omega) (by omega)).mono ?_; rintro e w' ⟨rfl, rfl⟩)
 go_ret2
 refine ⟨_, _, _, HP.out.symm, ?_, hO6, ?_⟩
 ·show _ = Ending.returned (.tuple #[.slice _ ((two l a 0 0).set a _ |>.set (a + 1) _).length _, _])
  rw [List.length_set, List.length_set, two_length]
  rfl
 ·exact (hB4.setCell (p := ⟨w.heap.size, a, none⟩) (Nat.le_refl _) _).setCell (p := ⟨w.heap.size, a + 1, none⟩) (Nat.le_refl _) _
end Go.Proofs.YtadcicmccdphkaaGreat
namespace Go.Proofs.YtadcicmccdphkaaGreat
open Go.RowKit Go.Joins

theorem wrap_u32 {n : Int} (h0 : 0 ≤ n) (h1 : n < 4294967296) : IntKind.u32.wrap n = n := by
 simp [IntKind.wrap, IntKind.bits, IntKind.signed]
 omega
theorem wrap_i64 {n : Int} (h0 : 0 ≤ n) (h1 : n < 9223372036854775808) : IntKind.i64.wrap n = n := by
 simp [IntKind.wrap, IntKind.bits, IntKind.signed]
 omega
theorem wrap_u8 {n : Int} (h0 : 0 ≤ n) (h1 : n < 256) : IntKind.u8.wrap n = n := by
 simp [IntKind.wrap, IntKind.bits, IntKind.signed]
 omega
theorem ret_bool {a b : Bool} (h : a = b) : Ending.returned (.bool a) = .returned (.bool b) := by rw [h]

theorem concat_n (P0 : Option Addr) (n pc : Nat) (ps : List Pc) (w : World) (hn : n = ps.length) (hP : Ps w P0 ps) (hr : ∀ p ∈ ps, Bt w p.a p.l) (hpl : ps.length ≤ 100) (hll : (cat ps).length ≤ 10000) :
  Calls Tryz.prog 93 #[.slice P0 n pc] w fun e w' => ∃ A' c', e = .returned (.slice A' (cat ps).length c') ∧ Own .u8 5 w' w.heap.size A' c' (cat ps) ∧ Below w.heap.size w w' := by
 subst hn
 exact concat_any P0 pc ps w hP hr hpl hll
theorem Ps.mk (w : World) (e : TypeId) (ps : List Pc) (vs : Array Value) (n : Nat) (hn : w.heap.size = n) (hv : vs = (ps.map pv).toArray) : Ps (w.alloc (.cells vs e)) (some ⟨n, 0, none⟩) ps := by
 subst hv hn
 exact Ps.lit w e ps
theorem Bs.mk (k : IntKind) (w : World) (e : TypeId) (l : List Int) (vs : Array Value) (n : Nat) (hn : w.heap.size = n) (hl : l.length ≤ maxLen) (hv : vs = (l.map (Value.int k)).toArray) : Bs k (w.alloc (.cells vs e)) (w.alloc (.cells vs e)).heap.size (some ⟨n, 0, none⟩) l := by
 subst hv hn
 exact (Own.lit (e := e) w 0 (Nat.zero_le _) l hl).bs
def sub (l : List Int) (i k : Nat) : List Int := (l.drop i).take k
theorem sub_byt {l : List Int} (hy : Byt l) (i k : Nat) : Byt (sub l i k) := (hy.drop i).take k
theorem sub_len {l : List Int} {i k : Nat} (h : i + k ≤ l.length) : (sub l i k).length = k := by simp [sub]; omega
theorem num_two {l : List Int} (hy : Byt l) (h : l.length = 2) : 0 ≤ num l ∧ num l < 65536 := by
 have := num_bd l hy
 rw [h] at this
 simpa using this
theorem num_four {l : List Int} (hy : Byt l) (h : l.length = 4) : 0 ≤ num l ∧ num l < 4294967296 := by
 have := num_bd l hy
 rw [h] at this
 simpa using this
theorem Bs.sub {k : IntKind} {w : World} {B b off : Nat} {l : List Int} (h : Bs k w B (some ⟨b, off, none⟩) l) (i j : Nat) : Bs k w B (some ⟨b, off + i, none⟩) (sub l i j) :=
 (h.drop i (some ⟨b, off + i, none⟩) (fun _ => by simp [addr_add])).take j
theorem byt_getD {l : List Int} (hy : Byt l) (i : Nat) : 0 ≤ l.getD i 0 ∧ l.getD i 0 < 256 := by
 by_cases h : i < l.length
 ·have := hy l[i] (List.getElem_mem h)
  simpa [List.getD, h] using this
 ·simp [List.getD, List.getElem?_eq_none (Nat.le_of_not_lt h)]
theorem Bs.get {k : IntKind} {w : World} {B b off : Nat} {l : List Int} (h : Bs k w B (some ⟨b, off, none⟩) l) {i : Nat} (hi : i < l.length) : w.cell? ⟨b, off + i, none⟩ = some (.int k (l.getD i 0)) := by
 obtain ⟨b', off', e, _, h⟩ := h.at_ hi
 simp only [Option.some.injEq, Addr.mk.injEq] at e
 obtain ⟨rfl, rfl, _⟩ := e
 exact h
theorem Bs.blk {k : IntKind} {w : World} {B g o : Nat} {l : List Int} (h : Bs k w B (some ⟨g, o, none⟩) l) (hl : l ≠ []) : g < B := by
 obtain ⟨b, off, hA, hb, -⟩ := h hl
 injection hA with hA
 injection hA with h1 _
 omega
theorem take_sub (l : List Int) (i k : Nat) : l.take (i + k) = l.take i ++ sub l i k := by
 unfold sub
 exact List.take_add
theorem be_sub {l : List Int} (hy : Byt l) (i k : Nat) (h : i + k ≤ l.length) : be (num (sub l i k)) k = sub l i k := by
 have := be_num (sub l i k) (sub_byt hy i k)
 rwa [sub_len h] at this
theorem sub_one {l : List Int} (i : Nat) (h : i < l.length) : sub l i 1 = [l.getD i 0] := by
 apply List.ext_getElem?
 intro j
 rcases j with _ | j
 ·simp [sub, List.getD, h]
 ·simp [sub]
  omega
theorem sub_mid (X M Y : List Int) (i k : Nat) (h1 : X.length = i) (h2 : M.length = k) : sub (X ++ (M ++ Y)) i k = M := by
 unfold sub
 rw [List.drop_left' h1, List.take_left' h2]
theorem getD_app {X Y : List Int} {i j : Nat} (h : X.length = i) : (X ++ Y).getD (i + j) 0 = Y.getD j 0 := by
 simp only [List.getD]
 rw [List.getElem?_append_right (by omega), h, Nat.add_sub_cancel_left]
theorem be1 (n : Int) (h0 : 0 ≤ n) (h1 : n < 256) : be n 1 = [n] := by
 simp [be]
 omega
theorem be2 (n : Int) (h0 : 0 ≤ n) (h1 : n < 65536) : be n 2 = [n / 256, n % 256] := by
 simp [be]
 omega
theorem be4 (n : Int) (h0 : 0 ≤ n) (h1 : n < 4294967296) : be n 4 = [n / 16777216, n / 65536 % 256, n / 256 % 256, n % 256] := by
 simp [be]
 omega
theorem four_any (n : Int) (w : World) (h0 : 0 ≤ n) (h1 : n < 4294967296) :
  Calls Tryz.prog 86 #[.int .u32 n] w fun e w' => ∃ A' c', e = .returned (.slice A' 4 c') ∧ Own .u8 5 w' w.heap.size A' c' (be n 4) ∧ Below w.heap.size w w' := by
 obtain ⟨W0, hW0⟩ : ∃ W0, w.alloc (.cells #[.int .u8 (n / 16777216), .int .u8 (n / 65536 % 256), .int .u8 (n / 256 % 256), .int .u8 (n % 256)] 5) = W0 := ⟨_, rfl⟩
 have b0 : Below w.heap.size w W0 := by rw [← hW0]; exact below_alloc1 _ _
 have o0 : Own .u8 5 W0 w.heap.size (some ⟨w.heap.size, 0, none⟩) 4 (be n 4) := by
  rw [be4 n h0 h1, ← hW0]
  exact Own.lit w w.heap.size (Nat.le_refl _) [n / 16777216, n / 65536 % 256, n / 256 % 256, n % 256] (by simp [maxLen])
 go_enter Tryz.func86, Tryz.ntmps86
 go_wp2
 go_ret
 exact ⟨_, _, rfl, o0, b0⟩
end Go.Proofs.YtadcicmccdphkaaGreat
