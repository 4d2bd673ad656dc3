/-
  What the laws of this seat share: prefixes that came in, opened and shut; the table of powers of ten out of what the row lists. No statement is proved here.
-/
import Derived.Test.YtkofpijhihghpaaDoorRows
import Derived.Test.YtkofpijhihghpaaDoorTie
import Derived.Test.YtkofpijhihghpaaDoorTx
import Derived.ChangeOld
import Derived.Deep.Slices
import Derived.Carry
import Derived.ProofKit
import Derived.OpenShut
import Derived.ShutString
import Derived.LaidMore
import Derived.Lay
import Derived.Lib.LaidTab
import Derived.SevenTiedAt
import Derived.Stop.Joined
import Derived.Stop.LaidErr
namespace Go.Proofs.YtkofpijhihghpaaDoor
open Go.ChangeShapes Go.WideShapes Go.ChangeAt Go.RowKit Go.Joins Go.Deep

theorem own : ownKnob Tryd.prog.godebug = none := by kernel_rfl
/-- What the rows list. -/
def laid3 : List (String × DataW Unit) := [("math/bits.deBruijn32tab", Rows.laid_math_bits_deBruijn32tab), ("math/bits.deBruijn64tab", Rows.laid_math_bits_deBruijn64tab), ("internal/strconv.uint64pow10", Rows.laid_internal_strconv_uint64pow10), ("unicode/utf8.acceptRanges", Rows.laid_unicode_utf8_acceptRanges), ("unicode/utf8.first", Rows.laid_unicode_utf8_first)]
theorem pow_data : (Rows.laid_internal_strconv_uint64pow10 : DataW Unit) = Lib.tabData .u64 Lib.pow10Tab := by kernel_rfl
theorem tab_of_laid {W : World} (h : laidMetH Tryd.prog laid3 W) : Tab W := by
  rw [MakeChecks.laidMetH_plain _ _ _ (by kernel_rfl)] at h
  have h3 := laidMet.tail (laidMet.tail h)
  rw [pow_data] at h3
  exact Lib.tabIs_of_head gPow (show (Tryd.prog.globals[1]?).map (·.type) = some 113 by kernel_rfl) Tryd.underlying113 Tryd.underlying91 (by kernel_rfl) (by kernel_rfl) h3
theorem wf_u32 {a : Int} (h : (Lit.int .u32 a).wf = true) : 0 ≤ a ∧ a < 4294967296 := by
  have e1 : IntKind.u32.min = 0 := by decide
  have e2 : IntKind.u32.max = 4294967295 := by decide
  simp only [Lit.wf, e1, e2, Bool.and_eq_true, decide_eq_true_eq] at h
  omega
theorem wf_i64 {a : Int} (h : (Lit.int .i64 a).wf = true) : -9223372036854775808 ≤ a ∧ a ≤ 9223372036854775807 := by
  have e1 : IntKind.i64.min = -9223372036854775808 := by decide
  have e2 : IntKind.i64.max = 9223372036854775807 := by decide
  simp only [Lit.wf, e1, e2, Bool.and_eq_true, decide_eq_true_eq] at h
  exact h
theorem laidOut : laidOutB Tryd.prog = true := by kernel_rfl
theorem cells24 : Tryd.prog.cellsOf 24 = 2 := by kernel_rfl
theorem cells26 : Tryd.prog.cellsOf 26 = 6 := by kernel_rfl
theorem cells22 : Tryd.prog.cellsOf 22 = 1 := by kernel_rfl
theorem cells3 : Tryd.prog.cellsOf 3 = 1 := by kernel_rfl
theorem cells4 : Tryd.prog.cellsOf 4 = 1 := by kernel_rfl
section
variable {H : Type} {enc : TypeId × Value → H} {w : World} {base : Nat} {spare : Nat → Bool} {held : Bool}
set_option maxRecDepth 100000 in
theorem pref_of {fuel : Nat} {cs : List Value} {x : DataW H × List MemPlace} (h : DataW.trod enc Tryd.prog w base spare held fuel 24 cs = some x) : ∃ (A : Nat) (N : Int), A < 4294967296 ∧ (-9223372036854775808 ≤ N ∧ N ≤ 9223372036854775807) ∧ cs = [.int .u32 (A : Int), .int .i64 N] := by
  obtain ⟨xs, n, _, _, hl, hxl, hf⟩ := DataW.trod_struct Tryd.underlying24 h
  have h0 := hf 0 _ rfl
  have h1 := hf 1 _ rfl
  rw [cells24] at hl
  match cs, hl with
  | [u, v], _ =>
    match xs, hxl with
    | [y0, y1], _ =>
      simp only [List.getElem?_cons_zero, List.getElem?_cons_succ] at h0 h1
      obtain ⟨a, e0, _, wa⟩ := DataW.trod_int Tryd.underlying22 h0
      obtain ⟨b, e1, _, wb⟩ := DataW.trod_int Tryd.underlying3 h1
      simp [cells22, cells3] at e0 e1
      subst e0 e1
      have ha := wf_u32 wa
      exact ⟨a.toNat, b, by omega, wf_i64 wb, by rw [show ((a.toNat : Nat) : Int) = a by omega]⟩
set_option maxRecDepth 100000 in
theorem rule_of {fuel : Nat} {cs : List Value} {x : DataW H × List MemPlace} (h : DataW.trod enc Tryd.prog w base spare held fuel 26 cs = some x) : ∃ y : Ru, Wf y ∧ cs = [.int .i64 y.s, .bool y.p, .int .u32 (y.A : Int), .int .i64 y.N, .int .i64 y.g, .int .i64 y.l] := by
  obtain ⟨xs, n, _, _, hl, hxl, hf⟩ := DataW.trod_struct Tryd.underlying26 h
  have h0 := hf 0 _ rfl
  have h1 := hf 1 _ rfl
  have h2 := hf 2 _ rfl
  have h3 := hf 3 _ rfl
  have h4 := hf 4 _ rfl
  rw [cells26] at hl
  match cs, hl with
  | [c0, c1, c2, c3, c4, c5], _ =>
    match xs, hxl with
    | [y0, y1, y2, y3, y4], _ =>
      simp only [List.getElem?_cons_zero, List.getElem?_cons_succ] at h0 h1 h2 h3 h4
      obtain ⟨s, e0, _, ws⟩ := DataW.trod_int Tryd.underlying3 h0
      obtain ⟨p, e1, _⟩ := DataW.trod_bool Tryd.underlying4 h1
      obtain ⟨A, N, hA, hN, e2⟩ := pref_of h2
      obtain ⟨g, e3, _, wg⟩ := DataW.trod_int Tryd.underlying3 h3
      obtain ⟨l, e4, _, wl⟩ := DataW.trod_int Tryd.underlying3 h4
      simp [cells4, cells24, cells3] at e0 e1 e2 e3 e4
      obtain ⟨e2, e5⟩ := e2
      subst e0 e1 e2 e3 e4 e5
      have hs := wf_i64 ws
      have hg := wf_i64 wg
      have hll := wf_i64 wl
      exact ⟨⟨s, p, A, N, g, l⟩, ⟨hA, hs.1, hs.2, hN.1, hN.2, hg.1, hg.2, hll.1, hll.2⟩, rfl⟩
/-- A list out of what is known of each place. -/
theorem list_of (n : Nat) {p : Nat → Ru → Prop} (h : ∀ i, i < n → ∃ a, p i a) : ∃ l : List Ru, l.length = n ∧ ∀ i, i < n → p i (gr l i) := by
  refine ⟨(List.range n).map fun i => if hi : i < n then Classical.choose (h i hi) else ru0, by simp, fun i hi => ?_⟩
  have : gr ((List.range n).map fun i => if hi : i < n then Classical.choose (h i hi) else ru0) i = Classical.choose (h i hi) := by simp [gr, List.getD, hi]
  rw [this]
  exact Classical.choose_spec (h i hi)
theorem rr_of {b off : Nat} {l : List Ru} (hb : b < w.heap.size) (h : ∀ i, i < l.length → w.cell? ⟨b, off + i * 6, none⟩ = some (.int .i64 (gr l i).s) ∧ w.cell? ⟨b, off + (i * 6 + 1), none⟩ = some (.bool (gr l i).p) ∧ w.cell? ⟨b, off + (i * 6 + 2), none⟩ = some (.int .u32 ((gr l i).A : Int)) ∧ w.cell? ⟨b, off + (i * 6 + 3), none⟩ = some (.int .i64 (gr l i).N) ∧ w.cell? ⟨b, off + (i * 6 + 4), none⟩ = some (.int .i64 (gr l i).g) ∧ w.cell? ⟨b, off + (i * 6 + 5), none⟩ = some (.int .i64 (gr l i).l)) : Rr w (some ⟨b, off, none⟩) l := fun _ => by
  refine ⟨b, off, rfl, trivial, hb, fun j u hu => ?_⟩
  have hj : j < (rflat l).length := by
    rcases Nat.lt_or_ge j (rflat l).length with q | q
    · exact q
    · rw [List.getElem?_eq_none q] at hu; cases hu
  rw [rflat_length] at hj
  obtain ⟨i, r, hi, hr, rfl⟩ : ∃ i r, i < l.length ∧ r < 6 ∧ j = i * 6 + r := ⟨j / 6, j % 6, by omega, by omega, by omega⟩
  obtain ⟨g0, g1, g2, g3, g4, g5⟩ := rflat_get hi
  obtain ⟨c0, c1, c2, c3, c4, c5⟩ := h i hi
  have hr6 : r = 0 ∨ r = 1 ∨ r = 2 ∨ r = 3 ∨ r = 4 ∨ r = 5 := by omega
  rcases hr6 with rfl | rfl | rfl | rfl | rfl | rfl
  · rw [Nat.add_zero] at hu ⊢; rw [← hu, g0]; exact c0
  · rw [← hu, g1]; exact c1
  · rw [← hu, g2]; exact c2
  · rw [← hu, g3]; exact c3
  · rw [← hu, g4]; exact c4
  · rw [← hu, g5]; exact c5
theorem rules_of {fuel : Nat} {cs : List Value} {x : DataW H × List MemPlace} (h : DataW.trod enc Tryd.prog w base spare held fuel 42 cs = some x) : ∃ (A : Option Addr) (c : Nat) (l : List Ru), cs = [.slice A l.length c] ∧ (∀ y ∈ l, Wf y) ∧ Sl w A c l := by
  rcases open_slice Tryd.underlying42 h with ⟨rfl, _⟩ | ⟨a, len, cap, m, n, D, Pl, rfl, _, hl, hcm, hm, _, hx⟩
  · exact ⟨none, 0, [], rfl, by simp, Sl.nil0 _⟩
  · have hml : len ≤ m := by rw [hm]; split <;> omega
    obtain ⟨l, hln, hp⟩ := list_of len (p := fun i y => Wf y ∧ w.cell? (a.add (i * 6)) = some (.int .i64 y.s) ∧ w.cell? (a.add (i * 6 + 1)) = some (.bool y.p) ∧ w.cell? (a.add (i * 6 + 2)) = some (.int .u32 (y.A : Int)) ∧ w.cell? (a.add (i * 6 + 3)) = some (.int .i64 y.N) ∧ w.cell? (a.add (i * 6 + 4)) = some (.int .i64 y.g) ∧ w.cell? (a.add (i * 6 + 5)) = some (.int .i64 y.l)) (fun i hi => by
      obtain ⟨cs', h1, h2⟩ := hx i (by omega)
      obtain ⟨y, hy, rfl⟩ := rule_of h2
      rw [cells26] at h1
      obtain ⟨_, _, h3⟩ := World.cells?_some h1
      have a0 := h3 0 (by omega)
      have a1 := h3 1 (by omega)
      have a2 := h3 2 (by omega)
      have a3 := h3 3 (by omega)
      have a4 := h3 4 (by omega)
      have a5 := h3 5 (by omega)
      rw [add_add] at a0 a1 a2 a3 a4 a5
      exact ⟨y, hy, a0, a1, a2, a3, a4, a5⟩)
    refine ⟨some a, cap, l, by rw [hln], fun y hy => ?_, ?_, by omega, (fun h => by cases h), ?_⟩
    · obtain ⟨i, hi, rfl⟩ := List.getElem_of_mem hy
      rw [← gr_eq hi]
      exact (hp i (by omega)).1
    · intro hne
      have hpos : 0 < len := by
        rcases Nat.eq_zero_or_pos len with q | q
        · have : l = [] := List.eq_nil_of_length_eq_zero (by omega)
          subst this
          exact absurd rfl hne
        · exact q
      obtain ⟨b, off, spot⟩ := a
      have hc := (hp 0 hpos).2.1
      have hspot : spot = none := by simpa [Addr.add] using World.cell?_spot hc
      subst hspot
      have hc0 : w.cell? ⟨b, off, none⟩ = some (.int .i64 (gr l 0).s) := by simpa [Addr.add] using hc
      have hlt := World.block_lt_of_cell? w ⟨b, off, none⟩ hc0
      refine rr_of hlt (fun i hi => ?_) hne
      obtain ⟨_, q0, q1, q2, q3, q4, q5⟩ := hp i (by omega)
      rw [addr_add] at q0 q1 q2 q3 q4 q5
      exact ⟨q0, q1, q2, q3, q4, q5⟩
    · unfold maxLen at hcm
      omega
end
end Go.Proofs.YtkofpijhihghpaaDoor
