/-
  Packets as plain numbers; contracts of the small functions of package head. No statement is proved here; no conditions.
-/
import Derived.Test.YtfhickgdmcmodaaCat
import Derived.Test.YtfhickgdmcmodaaOct
import Derived.Test.YtfhickgdmcmodaaInet
import Derived.Deep.DeepCutAuto
import Derived.Lib.QuietBelow
import Derived.Deep.RegionHeldLaw
namespace Go.Proofs.Ytfhickgdmcmodaa
open Go.RowKit Go.Joins

/-- A packet: its type, router, area, way, the eight bytes of its word, and its body. -/
structure Pk where
  (t r a u h0 h1 h2 h3 h4 h5 h6 h7 : Int)
  b : List Int
abbrev au (p : Pk) : List Int := [p.h0, p.h1, p.h2, p.h3, p.h4, p.h5, p.h6, p.h7]
/-- Its numbers have their widths. -/
structure Okp (p : Pk) : Prop where
  r : 0 ≤ p.r ∧ p.r < 4294967296
  a : 0 ≤ p.a ∧ p.a < 4294967296
  h : Byt (au p)
  b : Byt p.b
abbrev pv' (p : Pk) (A : Option Addr) (c : Nat) : Value := .agg #[.int .i64 p.t, .int .u32 p.r, .int .u32 p.a, .int .i64 p.u, .int .u8 p.h0, .int .u8 p.h1, .int .u8 p.h2, .int .u8 p.h3, .int .u8 p.h4, .int .u8 p.h5, .int .u8 p.h6, .int .u8 p.h7, .slice A p.b.length c]
def mayT (t : Int) : Bool := decide (1 ≤ t) && decide (t ≤ 5)
def mayp (p : Pk) : Bool := mayT p.t && (decide (0 ≤ p.u) && decide (p.u ≤ 1)) && decide (p.b.length ≤ 1476)
theorem mayp_iff (p : Pk) : mayp p = true ↔ (1 ≤ p.t ∧ p.t ≤ 5) ∧ (0 ≤ p.u ∧ p.u ≤ 1) ∧ p.b.length ≤ 1476 := by
  simp [mayp, mayT, and_assoc]
/-- A packet in a new block, in every world behind. -/
theorem kb_new {w W0 W : World} {t : TypeId} {v0 v1 v2 v3 v4 v5 v6 v7 v8 v9 v10 v11 v12 : Value} (h0 : w.alloc (.cells #[v0, v1, v2, v3, v4, v5, v6, v7, v8, v9, v10, v11, v12] t) = W0) (h : Below W0.heap.size W0 W) :
    W.cell? ⟨w.heap.size, 0, none⟩ = some v0 ∧ W.cell? ⟨w.heap.size, 1, none⟩ = some v1 ∧ W.cell? ⟨w.heap.size, 2, none⟩ = some v2 ∧ W.cell? ⟨w.heap.size, 3, none⟩ = some v3 ∧ W.cell? ⟨w.heap.size, 4, none⟩ = some v4 ∧ W.cell? ⟨w.heap.size, 5, none⟩ = some v5 ∧ W.cell? ⟨w.heap.size, 6, none⟩ = some v6 ∧ W.cell? ⟨w.heap.size, 7, none⟩ = some v7 ∧ W.cell? ⟨w.heap.size, 8, none⟩ = some v8 ∧ W.cell? ⟨w.heap.size, 9, none⟩ = some v9 ∧ W.cell? ⟨w.heap.size, 10, none⟩ = some v10 ∧ W.cell? ⟨w.heap.size, 11, none⟩ = some v11 ∧ W.cell? ⟨w.heap.size, 12, none⟩ = some v12 := by
  subst h0
  have k := (h.block w.heap.size (by simp)).trans (alloc_at _ _ _ rfl)
  exact ⟨(cell_of_block k 0).trans rfl, (cell_of_block k 1).trans rfl, (cell_of_block k 2).trans rfl, (cell_of_block k 3).trans rfl, (cell_of_block k 4).trans rfl, (cell_of_block k 5).trans rfl, (cell_of_block k 6).trans rfl, (cell_of_block k 7).trans rfl, (cell_of_block k 8).trans rfl, (cell_of_block k 9).trans rfl, (cell_of_block k 10).trans rfl, (cell_of_block k 11).trans rfl, (cell_of_block k 12).trans rfl⟩
theorem wrap_u32 {n : Int} (h0 : 0 ≤ n) (h1 : n < 4294967296) : IntKind.u32.wrap n = n := by
  simp [IntKind.wrap, IntKind.bits, IntKind.signed]
  omega
theorem wrap_i64 {n : Int} (h0 : 0 ≤ n) (h1 : n < 9223372036854775808) : IntKind.i64.wrap n = n := by
  simp [IntKind.wrap, IntKind.bits, IntKind.signed]
  omega
theorem wrap_u8 {n : Int} (h0 : 0 ≤ n) (h1 : n < 256) : IntKind.u8.wrap n = n := by
  simp [IntKind.wrap, IntKind.bits, IntKind.signed]
  omega
theorem ret_bool {a b : Bool} (h : a = b) : Ending.returned (.bool a) = .returned (.bool b) := by rw [h]
/-! ### field, number -/
theorem field_any (n m : Int) (k : Nat) (w : World) (hk : m.toNat = k) (h1 : 1 ≤ m) (h2 : m ≤ 4) (h3 : 0 ≤ n) (h4 : n < 4294967296) (h5 : n < 256 ^ k) :
    Calls Try.prog 28 #[.int .u32 n, .int .i64 m] w fun e w' => ∃ A' c', e = .returned (.slice A' k c') ∧ Own .u8 5 w' w.heap.size A' c' (be n k) ∧ Below w.heap.size w w' := by
  subst hk
  have e1 : putE n m = 0 := by
    unfold putE
    rw [if_neg (by omega), if_neg (by omega)]
  have e2 : putL [] n m = be n m.toNat := by simp [putL, e1]
  have hc := put_any none 0 [] w.heap.size n m w (Bs.nil _) (Nat.le_refl _) (by simp) h3 h4
  rw [e1, e2, be_length] at hc
  clear e1 e2 h5
  go_enter Try.func28, Try.ntmps28
  go_wp2_with fail
  refine hc.mono ?_
  rintro e w' ⟨A', c', rfl, ho, hb⟩
  go_wp2
  go_ret
  exact ⟨A', c', rfl, ho, hb⟩
theorem number_any (A : Option Addr) (n c : Nat) (l : List Int) (w : World) (hb : Bt w A l) (hy : Byt l) (hn : l.length = n) (hc : n ≤ c) (h1 : 1 ≤ n) (h2 : n ≤ 4) :
    Calls Try.prog 24 #[.slice A n c] w fun e w' => e = .returned (.int .u32 (num l)) ∧ Below w.heap.size w w' := by
  subst hn
  have e1 : takeE l l.length = 0 := by
    unfold takeE
    rw [if_neg (by omega), if_neg (by omega)]
  have e2 : takeN l l.length = num l := by simp [takeN, e1]
  have hcc := take_any A c l w.heap.size l.length w hb hy hc (Nat.le_refl _) (by omega)
  rw [e1, e2] at hcc
  generalize takeL l l.length = T at hcc
  clear e1 e2
  go_enter Try.func24, Try.ntmps24
  go_wp2_with fail
  refine hcc.mono ?_
  rintro e w' ⟨A', c', rfl, ho, hb'⟩
  go_wp2
  go_ret
  exact ⟨rfl, hb'⟩
/-! ### mayType, May -/
theorem mayT_any (t : Int) (w : World) : Calls Try.prog 22 #[.int .i64 t] w fun e w' => e = .returned (.bool (mayT t)) ∧ w = w' := by
  by_cases h1 : 1 ≤ t
  · by_cases h2 : t ≤ 5
    · have e : mayT t = true := by simp [mayT, h1, h2]
      rw [e]
      go_enter Try.func22, Try.ntmps22
      go_wp2
      go_ret
      exact ⟨rfl, rfl⟩
    · have e : mayT t = false := by simp [mayT]; omega
      rw [e]
      go_enter Try.func22, Try.ntmps22
      go_wp2
      go_ret
      exact ⟨rfl, rfl⟩
  · have e : mayT t = false := by simp [mayT]; omega
    rw [e]
    have h2 : ¬ (t ≥ 1) := h1
    go_enter Try.func22, Try.ntmps22
    go_wp2
    go_ret
    exact ⟨rfl, rfl⟩
end Go.Proofs.Ytfhickgdmcmodaa
