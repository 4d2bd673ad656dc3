/-
  Sums of small whole numbers as floats; both checksums as plain numbers. No statement is proved here; no conditions.
-/
import Derived.Test.YtadcicmccdphkaaFl
import Derived.Test.YtadcicmccdphkaaLib
namespace Go.Proofs.Ytadcicmccdphkaa
open Go.RowKit

theorem shift_join (a s t : Nat) (h : s ≤ t) : (a <<< s) <<< (t - s) = a * 2 ^ t := by
  rw [← Nat.shiftLeft_add, Nat.shiftLeft_eq, Nat.add_sub_cancel' h]
theorem num_sum (a b s t : Nat) : Ieee.Datum.sum (.number false (a <<< s) (-(s : Int))) (.number false (b <<< t) (-(t : Int))) = some (.number false ((a + b) <<< (max s t)) (-((max s t : Nat) : Int))) := by
  have hb : min (-(s : Int)) (-(t : Int)) = -((max s t : Nat) : Int) := by omega
  have h1 : (-(s : Int) - -((max s t : Nat) : Int)).toNat = max s t - s := by omega
  have h2 : (-(t : Int) - -((max s t : Nat) : Int)).toNat = max s t - t := by omega
  simp only [Ieee.Datum.sum, hb, h1, h2, Ieee.signed, Bool.false_eq_true, if_false, Bool.and_self]
  rw [shift_join a s _ (Nat.le_max_left ..), shift_join b t _ (Nat.le_max_right ..), ← Int.natCast_add, ← Nat.add_mul, ← Nat.shiftLeft_eq]
  congr 2
  split
  · rfl
  · exact decide_eq_false (by have := Int.natCast_nonneg ((a + b) <<< max s t); omega)
theorem fl_add (a b : Nat) (ha : a < 255) (hb : b < 256) : floatBits .add .f64 (fl a) (fl b) = some (fl (a + b)) := by
  have h1 := fl_read ⟨a, by omega⟩
  have h2 := fl_read ⟨b, hb⟩
  have m1 := low_in ⟨a, by omega⟩
  have m2 := low_in ⟨b, hb⟩
  simp only at h1 h2 m1 m2
  show ((Ieee.double.read (fl a)).sum (Ieee.double.read (fl b))).map Ieee.double.write = _
  rw [h1, h2, num_sum, Option.map_some]
  have hm : max (low a) (low b) ∈ [45, 46, 47, 48, 49, 50, 51, 52, 1074] := by
    rcases Nat.le_total (low a) (low b) with h | h
    · rw [Nat.max_eq_right h]; exact m2
    · rw [Nat.max_eq_left h]; exact m1
  exact congrArg some (fl_write _ hm ⟨a + b, by omega⟩)

/-! ### The internet checksum -/
/-- The sum of numbers of two bytes, from a place on. -/
def isum : List Int → Nat → Int
  | [], _ => 0
  | x :: t, i => (if i % 2 = 0 then 256 * x else x) + isum t (i + 1)
theorem isum_append (a b : List Int) (i : Nat) : isum (a ++ b) i = isum a i + isum b (i + a.length) := by
  induction a generalizing i with
  | nil => simp [isum]
  | cons x t ih => simp only [List.cons_append, isum, ih, List.length_cons]; rw [show i + 1 + t.length = i + (t.length + 1) by omega]; omega
theorem isum_even (a : List Int) (i : Nat) (h : i % 2 = 0) : isum a i = isum a 0 := by
  suffices ∀ i j : Nat, i % 2 = j % 2 → isum a i = isum a j from this i 0 (by omega)
  clear h i
  induction a with
  | nil => intros; rfl
  | cons x t ih => intro i j h; simp only [isum, h]; rw [ih (i + 1) (j + 1) (by omega)]
theorem isum_bd (a : List Int) (ha : Byt a) (i : Nat) : 0 ≤ isum a i ∧ isum a i ≤ 65280 * a.length := by
  induction a generalizing i with
  | nil => simp [isum]
  | cons x t ih =>
    have h := ih (fun y hy => ha y (by simp [hy])) (i + 1)
    have hx := ha x (by simp)
    simp only [isum, List.length_cons]
    split <;> omega
theorem isum_take (l : List Int) (j : Nat) (h : j < l.length) : isum (l.take (j + 1)) 0 = isum (l.take j) 0 + (if j % 2 = 0 then 256 * l[j] else l[j]) := by
  rw [List.take_succ_eq_append_getElem h, isum_append]
  simp only [isum, List.length_take, Nat.zero_add]
  rw [Nat.min_eq_left (by omega)]
  split <;> omega
theorem isum_set (l : List Int) (i k : Nat) (v : Int) (h : k < l.length) : isum (l.set k v) i = isum l i + (if (i + k) % 2 = 0 then 256 * (v - l[k]) else v - l[k]) := by
  induction l generalizing i k with
  | nil => simp at h
  | cons x t ih =>
    cases k with
    | zero => simp only [List.set_cons_zero, isum, List.getElem_cons_zero, Nat.add_zero]; split <;> omega
    | succ k =>
      simp only [List.set_cons_succ, isum, List.getElem_cons_succ]
      rw [ih (i + 1) k (by simpa using h), show i + 1 + k = i + (k + 1) by omega]
      omega
/-- What is left of a sum when nothing stands above 16 bits. -/
def fold (n : Int) : Int := if n = 0 then 0 else (n - 1) % 65535 + 1
theorem fold_low (n : Int) (h0 : 0 ≤ n) (h1 : n ≤ 65535) : fold n = n := by unfold fold; split <;> omega
theorem fold_step (n : Int) (h1 : 65535 < n) : fold (n / 65536 + n % 65536) = fold n := by
  unfold fold; rw [if_neg (by omega), if_neg (by omega)]; omega
theorem fold_bd (n : Int) (__h : 0 ≤ n) : 0 ≤ fold n ∧ fold n ≤ 65535 := by unfold fold; split <;> omega
/-- The internet checksum. -/
def inet (l : List Int) : Int := 65535 - fold (isum l 0)

/-! ### The Fletcher pair -/
def s0 : List Int → Int
  | [] => 0
  | x :: t => x + s0 t
def s1 : List Int → Int
  | [] => 0
  | x :: t => (t.length + 1) * x + s1 t
theorem s0_append (a b : List Int) : s0 (a ++ b) = s0 a + s0 b := by
  induction a with
  | nil => simp [s0]
  | cons x t ih => simp only [List.cons_append, s0, ih]; omega
theorem s1_snoc (a : List Int) (y : Int) : s1 (a ++ [y]) = s1 a + s0 a + y := by
  induction a with
  | nil => simp [s0, s1]
  | cons x t ih =>
    simp only [List.cons_append, s0, s1, ih, List.length_append, List.length_cons, List.length_nil]
    have : ((t.length + 1 : Nat) : Int) + 1 = (t.length + 1) + 1 := by omega
    simp only [Nat.zero_add]
    rw [this, Int.add_mul ((t.length : Int) + 1) 1 x, Int.one_mul]
    omega
theorem s0_take (l : List Int) (j : Nat) (h : j < l.length) : s0 (l.take (j + 1)) = s0 (l.take j) + l[j] := by
  rw [List.take_succ_eq_append_getElem h, s0_append]; simp [s0]
theorem s1_take (l : List Int) (j : Nat) (h : j < l.length) : s1 (l.take (j + 1)) = s1 (l.take j) + s0 (l.take (j + 1)) := by
  rw [s0_take l j h, List.take_succ_eq_append_getElem h, s1_snoc]; omega
theorem s0_set (l : List Int) (k : Nat) (v : Int) (h : k < l.length) : s0 (l.set k v) = s0 l + (v - l[k]) := by
  induction l generalizing k with
  | nil => simp at h
  | cons x t ih =>
    cases k with
    | zero => simp only [List.set_cons_zero, s0, List.getElem_cons_zero]; omega
    | succ k => simp only [List.set_cons_succ, s0, List.getElem_cons_succ]; rw [ih k (by simpa using h)]; omega
theorem s1_set (l : List Int) (k : Nat) (v : Int) (h : k < l.length) : s1 (l.set k v) = s1 l + (l.length - k) * (v - l[k]) := by
  induction l generalizing k with
  | nil => simp at h
  | cons x t ih =>
    cases k with
    | zero =>
      simp only [List.set_cons_zero, s1, List.getElem_cons_zero, List.length_cons]
      have : (((t.length + 1 : Nat) : Int) - ((0 : Nat) : Int)) = (t.length : Int) + 1 := by omega
      rw [this, Int.mul_sub]; omega
    | succ k =>
      simp only [List.set_cons_succ, s1, List.getElem_cons_succ, List.length_cons, List.length_set]
      rw [ih k (by simpa using h), show (((t.length + 1 : Nat) : Int) - ((k + 1 : Nat) : Int)) = (t.length : Int) - k by omega]
      omega
theorem s0_bd (a : List Int) (ha : Byt a) : 0 ≤ s0 a := by
  induction a with
  | nil => simp [s0]
  | cons x t ih =>
    have h := ih (fun y hy => ha y (by simp [hy]))
    have hx := ha x (by simp)
    simp only [s0]; omega
/-- The pair. -/
def p0 (l : List Int) : Int := s0 l % 255
def p1 (l : List Int) : Int := s1 l % 255
theorem p0_bd (l : List Int) : 0 ≤ p0 l ∧ p0 l < 255 := by unfold p0; omega
theorem p1_bd (l : List Int) : 0 ≤ p1 l ∧ p1 l < 255 := by unfold p1; omega
theorem p0_take (l : List Int) (j : Nat) (h : j < l.length) : p0 (l.take (j + 1)) = (p0 (l.take j) + l[j]) % 255 := by
  unfold p0; rw [s0_take l j h]; omega
theorem p1_take (l : List Int) (j : Nat) (h : j < l.length) : p1 (l.take (j + 1)) = (p1 (l.take j) + p0 (l.take (j + 1))) % 255 := by
  unfold p1 p0; rw [s1_take l j h]; omega
end Go.Proofs.Ytadcicmccdphkaa
