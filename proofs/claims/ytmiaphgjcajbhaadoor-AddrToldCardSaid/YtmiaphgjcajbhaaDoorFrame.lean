/-
  What the laws of this seat share: prefixes that came in, opened and shut; the table of powers of ten out of what the row lists. No statement is proved here.
-/
import Derived.Test.YtmiaphgjcajbhaaDoorRows
import Derived.Test.YtmiaphgjcajbhaaDoorTie
import Derived.Test.YtmiaphgjcajbhaaDoorText
import Derived.ProofKit
import Derived.OpenShut
import Derived.ShutString
import Derived.LaidMore
import Derived.Lay
import Derived.Lib.LaidTab
import Derived.SevenTiedAt
import Derived.Stop.Joined
import Derived.Stop.LaidErr
namespace Go.Proofs.YtmiaphgjcajbhaaDoor
open Go.ChangeShapes Go.WideShapes Go.ChangeAt Go.RowKit Go.Joins

theorem own : ownKnob Tryd.prog.godebug = none := by kernel_rfl
/-- What the rows list. -/
def laid3 : List (String × DataW Unit) := [("math/bits.deBruijn32tab", Rows.laid_math_bits_deBruijn32tab), ("math/bits.deBruijn64tab", Rows.laid_math_bits_deBruijn64tab), ("internal/strconv.uint64pow10", Rows.laid_internal_strconv_uint64pow10)]
theorem pow_data : (Rows.laid_internal_strconv_uint64pow10 : DataW Unit) = Lib.tabData .u64 Lib.pow10Tab := by kernel_rfl
theorem tab_of_laid {W : World} (h : laidMetH Tryd.prog laid3 W) : Tab W := by
  rw [MakeChecks.laidMetH_plain _ _ _ (by kernel_rfl)] at h
  have h3 := laidMet.tail (laidMet.tail h)
  rw [pow_data] at h3
  exact Lib.tabIs_of_head gPow (show (Tryd.prog.globals[1]?).map (·.type) = some 71 by kernel_rfl) Tryd.underlying71 Tryd.underlying55 (by kernel_rfl) (by kernel_rfl) h3
theorem wf_u32 {a : Int} (h : (Lit.int .u32 a).wf = true) : 0 ≤ a ∧ a < 4294967296 := by
  have e1 : IntKind.u32.min = 0 := by decide
  have e2 : IntKind.u32.max = 4294967295 := by decide
  simp only [Lit.wf, e1, e2, Bool.and_eq_true, decide_eq_true_eq] at h
  omega
theorem wf_i64 {a : Int} (h : (Lit.int .i64 a).wf = true) : -9223372036854775808 ≤ a ∧ a ≤ 9223372036854775807 := by
  have e1 : IntKind.i64.min = -9223372036854775808 := by decide
  have e2 : IntKind.i64.max = 9223372036854775807 := by decide
  simp only [Lit.wf, e1, e2, Bool.and_eq_true, decide_eq_true_eq] at h
  exact h
theorem cells24 : Tryd.prog.cellsOf 24 = 2 := by kernel_rfl
section
variable {H : Type} {enc : TypeId × Value → H} {W : World} {base : Nat} {spare : Nat → Bool} {held : Bool}
theorem open_pf {r : Reach} {b0 : Nat} {v : Value} {d : DataW H} {p : List MemPlace} (hv : Value.okWide Tryd.prog W r b0 24 v) (h : DataW.Trod enc Tryd.prog W base spare held 24 v d p) :
    ∃ (A : Nat) (N : Int), v = pf A N ∧ d = .agg [.lit (.int .u32 (A : Int)), .lit (.int .i64 N)] ∧ p = [] ∧ A < 4294967296 ∧ (Lit.int .u32 (A : Int)).wf = true ∧ (Lit.int .i64 N).wf = true := by
  obtain ⟨c0, c1, y0, y1, m, rfl, rfl, rfl, hy0, hy1⟩ := open_agg2 Tryd.underlying24 (by kernel_rfl) cells24 hv h
  obtain ⟨a, e0, rfl, wa⟩ := DataW.trod_int Tryd.underlying22 hy0
  obtain ⟨b, e1, rfl, wb⟩ := DataW.trod_int Tryd.underlying3 hy1
  simp at e0 e1
  subst e0 e1
  have ha : 0 ≤ a ∧ a < 4294967296 := wf_u32 wa
  refine ⟨a.toNat, b, ?_, ?_, rfl, by omega, ?_, wb⟩
  · show _ = Value.agg #[.int .u32 ((a.toNat : Nat) : Int), .int .i64 b]
    rw [show ((a.toNat : Nat) : Int) = a by omega]
  · rw [show ((a.toNat : Nat) : Int) = a by omega]
  · rwa [show ((a.toNat : Nat) : Int) = a by omega]
theorem shut_pf {A : Nat} {N : Int} (wa : (Lit.int .u32 (A : Int)).wf = true) (wb : (Lit.int .i64 N).wf = true) : DataW.Trod enc Tryd.prog W base spare held 24 (pf A N) (.agg [.lit (.int .u32 (A : Int)), .lit (.int .i64 N)]) [] :=
  shut_agg2 (y0 := (.lit (.int .u32 (A : Int)), [])) (y1 := (.lit (.int .i64 N), [])) Tryd.underlying24 (by kernel_rfl) cells24 ⟨1, by simp [DataW.trod, Tryd.underlying22, wa]⟩ ⟨1, by simp [DataW.trod, Tryd.underlying3, wb]⟩
end
end Go.Proofs.YtmiaphgjcajbhaaDoor
