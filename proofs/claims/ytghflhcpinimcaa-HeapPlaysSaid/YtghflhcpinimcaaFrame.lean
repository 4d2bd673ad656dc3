/-
  What the laws of this seat share: items, rows of items and rows of acts that came in, opened. No statement is proved here.
-/
import Derived.Test.YtghflhcpinimcaaRows
import Derived.Test.YtghflhcpinimcaaMem
import Derived.ProofKit
import Derived.OpenShut
import Derived.ShutString
import Derived.ChangeOld
import Derived.Deep.Slices
import Derived.Carry
import Derived.KernelRfl
namespace Go.Proofs.Ytghflhcpinimcaa
open Go.ChangeShapes Go.WideShapes Go.ChangeAt Go.RowKit Go.Deep

theorem own : ownKnob Try.prog.godebug = none := by kernel_rfl
theorem laidOut : laidOutB Try.prog = true := by kernel_rfl
theorem cells32 : Try.prog.cellsOf 32 = 2 := by kernel_rfl
theorem cells34 : Try.prog.cellsOf 34 = 3 := by kernel_rfl
theorem cells30 : Try.prog.cellsOf 30 = 1 := by kernel_rfl
theorem cells3 : Try.prog.cellsOf 3 = 1 := by kernel_rfl
theorem cells4 : Try.prog.cellsOf 4 = 1 := by kernel_rfl

/-- An act: is it Pop, and what is pushed. -/
abbrev Ac := Bool × It
def ga (s : List Ac) (i : Nat) : Ac := s.getD i (false, (0, 0))
/-- The slice '.slice A s.length _' reads as the acts s, in a block of S; nil is let in. -/
def Sc (S : Nat → Prop) (w : World) (A : Option Addr) (s : List Ac) : Prop :=
  s ≠ [] → ∃ b off, A = some ⟨b, off, none⟩ ∧ S b ∧ b < w.heap.size ∧ ∀ i, i < s.length → w.cell? ⟨b, off + i * 3, none⟩ = some (.bool (ga s i).1) ∧ w.cell? ⟨b, off + i * 3 + 1, none⟩ = some (.int .u64 (ga s i).2.1) ∧ w.cell? ⟨b, off + i * 3 + 2, none⟩ = some (.int .i64 (ga s i).2.2)
theorem Sc.below {S : Nat → Prop} {w w' : World} {A : Option Addr} {s : List Ac} {B : Nat} (h : Sc S w A s) (k : Below B w w') (hS : ∀ j, S j → j < B) : Sc S w' A s := fun hs => by
  obtain ⟨b, off, e, hb, hlt, hc⟩ := h hs
  have hbk := fun n => World.cell?_of_block (a := ⟨b, n, none⟩) (k.block b (hS b hb))
  exact ⟨b, off, e, hb, Nat.lt_of_lt_of_le hlt k.size, fun i hi => ⟨(hbk _).trans (hc i hi).1, (hbk _).trans (hc i hi).2.1, (hbk _).trans (hc i hi).2.2⟩⟩
theorem Sc.at_ {S : Nat → Prop} {w : World} {A : Option Addr} {s : List Ac} (h : Sc S w A s) {i : Nat} (hi : i < s.length) : ∃ b off, A = some ⟨b, off, none⟩ ∧ w.cell? ⟨b, off + i * 3, none⟩ = some (.bool (ga s i).1) ∧ w.cell? ⟨b, off + i * 3 + 1, none⟩ = some (.int .u64 (ga s i).2.1) ∧ w.cell? ⟨b, off + i * 3 + 2, none⟩ = some (.int .i64 (ga s i).2.2) := by
  obtain ⟨b, off, e, _, _, hc⟩ := h (by rintro rfl; simp at hi)
  exact ⟨b, off, e, hc i hi⟩

section
variable {H : Type} {enc : TypeId × Value → H} {w : World} {base : Nat} {spare : Nat → Bool} {held : Bool}
theorem item_of {fuel : Nat} {cs : List Value} {x : DataW H × List MemPlace} (h : DataW.trod enc Try.prog w base spare held fuel 32 cs = some x) : ∃ y : It, cs = [.int .u64 y.1, .int .i64 y.2] := by
  obtain ⟨xs, n, _, _, hl, hxl, hf⟩ := DataW.trod_struct Try.underlying32 h
  have h0 := hf 0 _ rfl
  have h1 := hf 1 _ rfl
  rw [cells32] at hl
  match cs, hl with
  | [u, v], _ =>
    match xs, hxl with
    | [y0, y1], _ =>
      simp only [List.getElem?_cons_zero, List.getElem?_cons_succ] at h0 h1
      obtain ⟨a, e0, _, _⟩ := DataW.trod_int Try.underlying30 h0
      obtain ⟨b, e1, _, _⟩ := DataW.trod_int Try.underlying3 h1
      simp [cells30, cells3] at e0 e1
      subst e0 e1
      exact ⟨(a, b), rfl⟩
theorem act_of {fuel : Nat} {cs : List Value} {x : DataW H × List MemPlace} (h : DataW.trod enc Try.prog w base spare held fuel 34 cs = some x) : ∃ y : Ac, cs = [.bool y.1, .int .u64 y.2.1, .int .i64 y.2.2] := by
  obtain ⟨xs, n, _, _, hl, hxl, hf⟩ := DataW.trod_struct Try.underlying34 h
  have h0 := hf 0 _ rfl
  have h1 := hf 1 _ rfl
  rw [cells34] at hl
  match cs, hl with
  | [u, v, t], _ =>
    match xs, hxl with
    | [y0, y1], _ =>
      simp only [List.getElem?_cons_zero, List.getElem?_cons_succ] at h0 h1
      obtain ⟨p, e0, _⟩ := DataW.trod_bool Try.underlying4 h0
      obtain ⟨y, e1⟩ := item_of h1
      simp [cells4, cells32] at e0 e1
      obtain ⟨e1, e2⟩ := e1
      subst e0 e1 e2
      exact ⟨(p, y), rfl⟩
/-- A list out of what is known of each place. -/
theorem list_of {α : Type} [Inhabited α] (n : Nat) {p : Nat → α → Prop} (h : ∀ i, i < n → ∃ a, p i a) : ∃ l : List α, l.length = n ∧ ∀ i, i < n → p i (l.getD i default) := by
  refine ⟨(List.range n).map fun i => if hi : i < n then Classical.choose (h i hi) else default, by simp, fun i hi => ?_⟩
  have : ((List.range n).map fun i => if hi : i < n then Classical.choose (h i hi) else default).getD i default = Classical.choose (h i hi) := by simp [List.getD, hi]
  rw [this]
  exact Classical.choose_spec (h i hi)
theorem items_of {fuel : Nat} {cs : List Value} {x : DataW H × List MemPlace} (h : DataW.trod enc Try.prog w base spare held fuel 22 cs = some x) : ∃ (A : Option Addr) (c : Nat) (l : List It), cs = [.slice A l.length c] ∧ Bs (· < w.heap.size) w A l := by
  rcases open_slice Try.underlying22 h with ⟨rfl, _⟩ | ⟨a, len, cap, m, n, D, Pl, rfl, _, hl, _, hm, _, hx⟩
  · exact ⟨none, 0, [], rfl, Bs.nil _⟩
  · have hml : len ≤ m := by rw [hm]; split <;> omega
    obtain ⟨l, hln, hp⟩ := list_of len (p := fun i (y : It) => w.cell? (a.add (i * 2)) = some (.int .u64 y.1) ∧ w.cell? (a.add (i * 2 + 1)) = some (.int .i64 y.2)) (fun i hi => by
      obtain ⟨cs', h1, h2⟩ := hx i (by omega)
      obtain ⟨y, rfl⟩ := item_of h2
      rw [cells32] at h1
      obtain ⟨_, _, h3⟩ := World.cells?_some h1
      have a0 := h3 0 (by omega)
      have a1 := h3 1 (by omega)
      rw [add_add] at a0 a1
      exact ⟨y, a0, a1⟩)
    refine ⟨some a, cap, l, by rw [hln], fun hne => ?_⟩
    have hpos : 0 < len := by rw [← hln]; exact List.length_pos_iff.2 hne
    obtain ⟨b, off, spot⟩ := a
    have hc := (hp 0 hpos).1
    have hspot : spot = none := by simpa [Addr.add] using World.cell?_spot hc
    subst hspot
    have hc0 : w.cell? ⟨b, off, none⟩ = some (.int .u64 (l.getD 0 default).1) := by simpa [Addr.add] using hc
    have hlt := World.block_lt_of_cell? w ⟨b, off, none⟩ hc0
    refine ⟨b, off, rfl, hlt, hlt, fun i hi => ?_⟩
    obtain ⟨q1, q2⟩ := hp i (by omega)
    rw [addr_add] at q1 q2
    exact ⟨q1, by rw [Nat.add_assoc]; exact q2⟩
theorem acts_of {fuel : Nat} {cs : List Value} {x : DataW H × List MemPlace} (h : DataW.trod enc Try.prog w base spare held fuel 23 cs = some x) : ∃ (A : Option Addr) (c : Nat) (l : List Ac), cs = [.slice A l.length c] ∧ Sc (· < w.heap.size) w A l := by
  rcases open_slice Try.underlying23 h with ⟨rfl, _⟩ | ⟨a, len, cap, m, n, D, Pl, rfl, _, hl, _, hm, _, hx⟩
  · exact ⟨none, 0, [], rfl, fun h => absurd rfl h⟩
  · have hml : len ≤ m := by rw [hm]; split <;> omega
    obtain ⟨l, hln, hp⟩ := list_of len (p := fun i (y : Ac) => w.cell? (a.add (i * 3)) = some (.bool y.1) ∧ w.cell? (a.add (i * 3 + 1)) = some (.int .u64 y.2.1) ∧ w.cell? (a.add (i * 3 + 2)) = some (.int .i64 y.2.2)) (fun i hi => by
      obtain ⟨cs', h1, h2⟩ := hx i (by omega)
      obtain ⟨y, rfl⟩ := act_of h2
      rw [cells34] at h1
      obtain ⟨_, _, h3⟩ := World.cells?_some h1
      have a0 := h3 0 (by omega)
      have a1 := h3 1 (by omega)
      have a2 := h3 2 (by omega)
      rw [add_add] at a0 a1 a2
      exact ⟨y, a0, a1, a2⟩)
    refine ⟨some a, cap, l, by rw [hln], fun hne => ?_⟩
    have hpos : 0 < len := by rw [← hln]; exact List.length_pos_iff.2 hne
    obtain ⟨b, off, spot⟩ := a
    have hc := (hp 0 hpos).1
    have hspot : spot = none := by simpa [Addr.add] using World.cell?_spot hc
    subst hspot
    have hc0 : w.cell? ⟨b, off, none⟩ = some (.bool (l.getD 0 default).1) := by simpa [Addr.add] using hc
    have hlt := World.block_lt_of_cell? w ⟨b, off, none⟩ hc0
    refine ⟨b, off, rfl, hlt, hlt, fun i hi => ?_⟩
    obtain ⟨q1, q2, q3⟩ := hp i (by omega)
    rw [addr_add] at q1 q2 q3
    exact ⟨q1, by rw [Nat.add_assoc]; exact q2, by rw [Nat.add_assoc]; exact q3⟩
end
end Go.Proofs.Ytghflhcpinimcaa
