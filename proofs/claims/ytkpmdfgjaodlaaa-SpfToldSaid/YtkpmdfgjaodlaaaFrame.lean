/-
  What the laws of this seat share: graphs and rows of numbers that came in, opened. No statement is proved here.
-/
import Derived.Test.YtkpmdfgjaodlaaaRows
import Derived.Test.YtkpmdfgjaodlaaaRow
import Derived.ProofKit
import Derived.OpenShut
import Derived.ShutString
import Derived.ChangeOld
import Derived.Deep.Slices
import Derived.Carry
import Derived.KernelRfl
namespace Go.Proofs.Ytkpmdfgjaodlaaa
open Go.ChangeShapes Go.WideShapes Go.ChangeAt Go.RowKit Go.Deep

theorem own : ownKnob Try.prog.godebug = none := by kernel_rfl
theorem laidOut : laidOutB Try.prog = true := by kernel_rfl
theorem cells24 : Try.prog.cellsOf 24 = 2 := by kernel_rfl
theorem cells50 : Try.prog.cellsOf 50 = 3 := by kernel_rfl
theorem cells22 : Try.prog.cellsOf 22 = 1 := by kernel_rfl
theorem cells3 : Try.prog.cellsOf 3 = 1 := by kernel_rfl
instance : Inhabited Ed := ⟨⟨0, 0, 0⟩⟩

section
variable {H : Type} {enc : TypeId × Value → H} {w : World} {base : Nat} {spare : Nat → Bool} {held : Bool}
theorem edge_of {fuel : Nat} {cs : List Value} {x : DataW H × List MemPlace} (h : DataW.trod enc Try.prog w base spare held fuel 50 cs = some x) : ∃ y : Ed, cs = [.int .i64 y.f, .int .i64 y.t, .int .i64 y.c] := by
  obtain ⟨xs, n, _, _, hl, hxl, hf⟩ := DataW.trod_struct Try.underlying50 h
  have h0 := hf 0 _ rfl
  have h1 := hf 1 _ rfl
  have h2 := hf 2 _ rfl
  rw [cells50] at hl
  match cs, hl with
  | [u, v, t], _ =>
    match xs, hxl with
    | [y0, y1, y2], _ =>
      simp only [List.getElem?_cons_zero, List.getElem?_cons_succ] at h0 h1 h2
      obtain ⟨a, e0, _, _⟩ := DataW.trod_int Try.underlying3 h0
      obtain ⟨b, e1, _, _⟩ := DataW.trod_int Try.underlying3 h1
      obtain ⟨c, e2, _, _⟩ := DataW.trod_int Try.underlying3 h2
      simp [cells3] at e0 e1 e2
      subst e0 e1 e2
      exact ⟨⟨a, b, c⟩, rfl⟩
/-- A list out of what is known of each place. -/
theorem list_of {α : Type} [Inhabited α] (n : Nat) {p : Nat → α → Prop} (h : ∀ i, i < n → ∃ a, p i a) : ∃ l : List α, l.length = n ∧ ∀ i, i < n → p i (l.getD i default) := by
  refine ⟨(List.range n).map fun i => if hi : i < n then Classical.choose (h i hi) else default, by simp, fun i hi => ?_⟩
  have : ((List.range n).map fun i => if hi : i < n then Classical.choose (h i hi) else default).getD i default = Classical.choose (h i hi) := by simp [List.getD, hi]
  rw [this]
  exact Classical.choose_spec (h i hi)
theorem edges_of {fuel : Nat} {cs : List Value} {x : DataW H × List MemPlace} (h : DataW.trod enc Try.prog w base spare held fuel 22 cs = some x) : ∃ (A : Option Addr) (c : Nat) (l : List Ed), cs = [.slice A l.length c] ∧ Rd (· < w.heap.size) w A (eflat l) := by
  rcases open_slice Try.underlying22 h with ⟨rfl, _⟩ | ⟨a, len, cap, m, n, D, Pl, rfl, _, hl, _, hm, _, hx⟩
  · exact ⟨none, 0, [], rfl, Rd.nil _⟩
  · have hml : len ≤ m := by rw [hm]; split <;> omega
    obtain ⟨l, hln, hp⟩ := list_of len (p := fun i (y : Ed) => w.cell? (a.add (i * 3)) = some (.int .i64 y.f) ∧ w.cell? (a.add (i * 3 + 1)) = some (.int .i64 y.t) ∧ w.cell? (a.add (i * 3 + 2)) = some (.int .i64 y.c)) (fun i hi => by
      obtain ⟨cs', h1, h2⟩ := hx i (by omega)
      obtain ⟨y, rfl⟩ := edge_of h2
      rw [cells50] at h1
      obtain ⟨_, _, h3⟩ := World.cells?_some h1
      have a0 := h3 0 (by omega)
      have a1 := h3 1 (by omega)
      have a2 := h3 2 (by omega)
      rw [add_add] at a0 a1 a2
      exact ⟨y, a0, a1, a2⟩)
    refine ⟨some a, cap, l, by rw [hln], fun hne => ?_⟩
    have hpos : 0 < len := by
      rw [← hln]
      cases l with
      | nil => exact absurd rfl hne
      | cons y l => simp
    obtain ⟨b, off, spot⟩ := a
    have hc := (hp 0 hpos).1
    have hspot : spot = none := by simpa [Addr.add] using World.cell?_spot hc
    subst hspot
    have hc0 : w.cell? ⟨b, off, none⟩ = some (.int .i64 (l.getD 0 default).f) := by simpa [Addr.add] using hc
    have hlt := World.block_lt_of_cell? w ⟨b, off, none⟩ hc0
    refine ⟨b, off, rfl, hlt, hlt, fun j u hu => ?_⟩
    have hj : j < l.length * 3 := by
      rw [← eflat_length]
      rcases Nat.lt_or_ge j (eflat l).length with z | z
      · exact z
      · simp [List.getElem?_eq_none z] at hu
    have h3 : j / 3 < l.length := by omega
    obtain ⟨g1, g2, g3⟩ := eflat_get h3
    obtain ⟨q1, q2, q3⟩ := hp (j / 3) (by omega)
    rw [addr_add, List.getD, List.getElem?_eq_getElem h3] at q1 q2 q3
    have hm3 : j % 3 = 0 ∨ j % 3 = 1 ∨ j % 3 = 2 := by omega
    rcases hm3 with e | e | e
    · rw [show j / 3 * 3 = j by omega] at g1 q1
      rw [q1, ← hu, g1]
      rfl
    · rw [show j / 3 * 3 + 1 = j by omega] at g2 q2
      rw [q2, ← hu, g2]
      rfl
    · rw [show j / 3 * 3 + 2 = j by omega] at g3 q3
      rw [q3, ← hu, g3]
      rfl
theorem graph_of {fuel : Nat} {cs : List Value} {x : DataW H × List MemPlace} (h : DataW.trod enc Try.prog w base spare held fuel 24 cs = some x) : ∃ (N : Int) (A : Option Addr) (c : Nat) (l : List Ed), cs = [.int .i64 N, .slice A l.length c] ∧ Rd (· < w.heap.size) w A (eflat l) := by
  obtain ⟨xs, n, _, _, hl, hxl, hf⟩ := DataW.trod_struct Try.underlying24 h
  have h0 := hf 0 _ rfl
  have h1 := hf 1 _ rfl
  rw [cells24] at hl
  match cs, hl with
  | [u, v], _ =>
    match xs, hxl with
    | [y0, y1], _ =>
      simp only [List.getElem?_cons_zero, List.getElem?_cons_succ] at h0 h1
      obtain ⟨a, e0, _, _⟩ := DataW.trod_int Try.underlying3 h0
      obtain ⟨A, c, l, e1, hr⟩ := edges_of h1
      simp [cells3, cells22] at e0 e1
      subst e0 e1
      exact ⟨a, A, c, l, rfl, hr⟩
theorem ints_of {fuel : Nat} {cs : List Value} {x : DataW H × List MemPlace} (h : DataW.trod enc Try.prog w base spare held fuel 26 cs = some x) : ∃ (A : Option Addr) (c : Nat) (l : List Int), cs = [.slice A l.length c] ∧ Rd (· < w.heap.size) w A (its l) := by
  rcases open_slice Try.underlying26 h with ⟨rfl, _⟩ | ⟨a, len, cap, m, n, D, Pl, rfl, _, hl, _, hm, _, hx⟩
  · exact ⟨none, 0, [], rfl, Rd.nil _⟩
  · have hml : len ≤ m := by rw [hm]; split <;> omega
    obtain ⟨l, hln, hp⟩ := list_of len (p := fun i (y : Int) => w.cell? (a.add i) = some (.int .i64 y)) (fun i hi => by
      obtain ⟨cs', h1, h2⟩ := hx i (by omega)
      obtain ⟨y, rfl, _, _⟩ := DataW.trod_int Try.underlying3 h2
      rw [cells3] at h1
      obtain ⟨_, _, h3⟩ := World.cells?_some h1
      have a0 := h3 0 (by omega)
      rw [add_add] at a0
      exact ⟨y, by simpa using a0⟩)
    refine ⟨some a, cap, l, by rw [hln], fun hne => ?_⟩
    have hpos : 0 < len := by
      rw [← hln]
      cases l with
      | nil => exact absurd rfl hne
      | cons y l => simp
    obtain ⟨b, off, spot⟩ := a
    have hc := hp 0 hpos
    have hspot : spot = none := by simpa [Addr.add] using World.cell?_spot hc
    subst hspot
    have hc0 : w.cell? ⟨b, off, none⟩ = some (.int .i64 (l.getD 0 default)) := by simpa [Addr.add] using hc
    have hlt := World.block_lt_of_cell? w ⟨b, off, none⟩ hc0
    refine ⟨b, off, rfl, hlt, hlt, fun j u hu => ?_⟩
    have hj : j < l.length := by
      rcases Nat.lt_or_ge j l.length with z | z
      · exact z
      · simp [List.getElem?_eq_none z] at hu
    have q := hp j (by omega)
    rw [addr_add, List.getD, List.getElem?_eq_getElem hj] at q
    rw [q, ← hu, List.getElem?_map, List.getElem?_eq_getElem hj]
    rfl
end
end Go.Proofs.Ytkpmdfgjaodlaaa
