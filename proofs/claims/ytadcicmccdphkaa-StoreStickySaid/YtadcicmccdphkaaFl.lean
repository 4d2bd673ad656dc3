/-
  Small whole numbers as floats. No statement is proved here; no conditions.
-/
import Derived.WalkLawsBesides
import Derived.Laws.FloatArith
namespace Go.Proofs.Ytadcicmccdphkaa

/-- The float of a whole number. -/
def fl (n : Nat) : Nat := floatOfInt .f64 n

/-- The place of a small number's last digit, below the point. -/
def low (n : Nat) : Nat := if n = 0 then 1074 else 52 - n.log2

theorem fl_read : ∀ n : Fin 256, Ieee.double.read (fl n) = .number false (n.val <<< low n) (-(low n : Int)) := by decide +kernel
theorem fl_write : ∀ t ∈ [45, 46, 47, 48, 49, 50, 51, 52, 1074], ∀ n : Fin 510, Ieee.double.write (.number false (n.val <<< t) (-(t : Int))) = fl n := by decide +kernel
theorem low_in : ∀ n : Fin 256, low n ∈ [45, 46, 47, 48, 49, 50, 51, 52, 1074] := by decide +kernel
theorem fl_ge : ∀ n : Fin 510, 255 ≤ n.val → (Ieee.double.order (fl n) 4643176031446892544 == some .gt || Ieee.double.order (fl n) 4643176031446892544 == some .eq) = true := by decide +kernel
theorem fl_lt : ∀ n : Fin 255, (Ieee.double.order (fl n) 4643176031446892544 == some .gt || Ieee.double.order (fl n) 4643176031446892544 == some .eq) = false := by decide +kernel
theorem fl_sub : ∀ n : Fin 255, floatBits .sub .f64 (fl (n + 255)) 4643176031446892544 = some (fl n) := by decide +kernel
theorem fl_int : ∀ n : Fin 255, floatToIntVal .f64 (fl n) .i64 = some (n.val : Int) := by decide +kernel
theorem fl_zero : fl 0 = 0 := by decide +kernel
end Go.Proofs.Ytadcicmccdphkaa
