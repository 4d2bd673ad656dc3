/-
  What the laws of this seat share: prefixes and rows of acts that came in, opened. No statement is proved here.
-/
import Derived.Test.YtlmcgjdenfnkmaaRows
import Derived.Test.YtlmcgjdenfnkmaaAlive
import Derived.ProofKit
import Derived.OpenShut
import Derived.ShutString
import Derived.ChangeOld
import Derived.Deep.Slices
import Derived.Carry
import Derived.KernelRfl
namespace Go.Proofs.Ytlmcgjdenfnkmaa
open Go.ChangeShapes Go.WideShapes Go.ChangeAt Go.RowKit Go.Deep

theorem own : ownKnob Try.prog.godebug = none := by kernel_rfl
theorem laidOut : laidOutB Try.prog = true := by kernel_rfl
theorem cells25 : Try.prog.cellsOf 25 = 2 := by kernel_rfl
theorem cells30 : Try.prog.cellsOf 30 = 5 := by kernel_rfl
theorem cells23 : Try.prog.cellsOf 23 = 1 := by kernel_rfl
theorem cells3 : Try.prog.cellsOf 3 = 1 := by kernel_rfl
theorem cells4 : Try.prog.cellsOf 4 = 1 := by kernel_rfl
theorem wf_u32 {a : Int} (h : (Lit.int .u32 a).wf = true) : 0 ≤ a ∧ a < 4294967296 := by
  have e1 : IntKind.u32.min = 0 := by decide
  have e2 : IntKind.u32.max = 4294967295 := by decide
  simp only [Lit.wf, e1, e2, Bool.and_eq_true, decide_eq_true_eq] at h
  omega

/-- An act: is it Drop, its prefix, its value, and the address that is asked for. -/
structure Ac where
  d : Bool
  A : Nat
  N : Int
  V : Int
  a : Nat
deriving Inhabited
def ga (s : List Ac) (i : Nat) : Ac := s.getD i default
theorem ga_eq {s : List Ac} {i : Nat} (h : i < s.length) : ga s i = s[i] := by simp [ga, List.getD, h]
/-- The slice '.slice A s.length _' reads as the acts s, in a block of S; nil is let in. -/
def Sc (S : Nat → Prop) (w : World) (A : Option Addr) (s : List Ac) : Prop :=
  s ≠ [] → ∃ b off, A = some ⟨b, off, none⟩ ∧ S b ∧ b < w.heap.size ∧ ∀ i, i < s.length → (ga s i).A < 4294967296 ∧ (ga s i).a < 4294967296 ∧ w.cell? ⟨b, off + i * 5, none⟩ = some (.bool (ga s i).d) ∧ w.cell? ⟨b, off + i * 5 + 1, none⟩ = some (.int .u32 ((ga s i).A : Int)) ∧ w.cell? ⟨b, off + i * 5 + 2, none⟩ = some (.int .i64 (ga s i).N) ∧ w.cell? ⟨b, off + i * 5 + 3, none⟩ = some (.int .i64 (ga s i).V) ∧ w.cell? ⟨b, off + i * 5 + 4, none⟩ = some (.int .u32 ((ga s i).a : Int))
theorem Sc.below {S : Nat → Prop} {w w' : World} {A : Option Addr} {s : List Ac} {B : Nat} (h : Sc S w A s) (k : Below B w w') (hS : ∀ j, S j → j < B) : Sc S w' A s := fun hs => by
  obtain ⟨b, off, e, hb, hlt, hc⟩ := h hs
  have hbk := fun n => World.cell?_of_block (a := ⟨b, n, none⟩) (k.block b (hS b hb))
  refine ⟨b, off, e, hb, Nat.lt_of_lt_of_le hlt k.size, fun i hi => ?_⟩
  obtain ⟨q1, q2, q3, q4, q5, q6, q7⟩ := hc i hi
  exact ⟨q1, q2, (hbk _).trans q3, (hbk _).trans q4, (hbk _).trans q5, (hbk _).trans q6, (hbk _).trans q7⟩
theorem Sc.at_ {S : Nat → Prop} {w : World} {A : Option Addr} {s : List Ac} (h : Sc S w A s) {i : Nat} (hi : i < s.length) : ∃ b off, A = some ⟨b, off, none⟩ ∧ (ga s i).A < 4294967296 ∧ (ga s i).a < 4294967296 ∧ w.cell? ⟨b, off + i * 5, none⟩ = some (.bool (ga s i).d) ∧ w.cell? ⟨b, off + i * 5 + 1, none⟩ = some (.int .u32 ((ga s i).A : Int)) ∧ w.cell? ⟨b, off + i * 5 + 2, none⟩ = some (.int .i64 (ga s i).N) ∧ w.cell? ⟨b, off + i * 5 + 3, none⟩ = some (.int .i64 (ga s i).V) ∧ w.cell? ⟨b, off + i * 5 + 4, none⟩ = some (.int .u32 ((ga s i).a : Int)) := by
  obtain ⟨b, off, e, _, _, hc⟩ := h (by rintro rfl; simp at hi)
  exact ⟨b, off, e, hc i hi⟩

section
variable {H : Type} {enc : TypeId × Value → H} {w : World} {base : Nat} {spare : Nat → Bool} {held : Bool}
theorem pref_of {fuel : Nat} {cs : List Value} {x : DataW H × List MemPlace} (h : DataW.trod enc Try.prog w base spare held fuel 25 cs = some x) : ∃ (A : Nat) (N : Int), A < 4294967296 ∧ cs = [.int .u32 (A : Int), .int .i64 N] := by
  obtain ⟨xs, n, _, _, hl, hxl, hf⟩ := DataW.trod_struct Try.underlying25 h
  have h0 := hf 0 _ rfl
  have h1 := hf 1 _ rfl
  rw [cells25] at hl
  match cs, hl with
  | [u, v], _ =>
    match xs, hxl with
    | [y0, y1], _ =>
      simp only [List.getElem?_cons_zero, List.getElem?_cons_succ] at h0 h1
      obtain ⟨a, e0, _, wa⟩ := DataW.trod_int Try.underlying23 h0
      obtain ⟨b, e1, _, _⟩ := DataW.trod_int Try.underlying3 h1
      simp [cells23, cells3] at e0 e1
      subst e0 e1
      have ha := wf_u32 wa
      exact ⟨a.toNat, b, by omega, by rw [show ((a.toNat : Nat) : Int) = a by omega]⟩
theorem act_of {fuel : Nat} {cs : List Value} {x : DataW H × List MemPlace} (h : DataW.trod enc Try.prog w base spare held fuel 30 cs = some x) : ∃ y : Ac, y.A < 4294967296 ∧ y.a < 4294967296 ∧ cs = [.bool y.d, .int .u32 (y.A : Int), .int .i64 y.N, .int .i64 y.V, .int .u32 (y.a : Int)] := by
  obtain ⟨xs, n, _, _, hl, hxl, hf⟩ := DataW.trod_struct Try.underlying30 h
  have h0 := hf 0 _ rfl
  have h1 := hf 1 _ rfl
  have h2 := hf 2 _ rfl
  have h3 := hf 3 _ rfl
  rw [cells30] at hl
  match cs, hl with
  | [u, v, t, r, q], _ =>
    match xs, hxl with
    | [y0, y1, y2, y3], _ =>
      simp only [List.getElem?_cons_zero, List.getElem?_cons_succ] at h0 h1 h2 h3
      obtain ⟨p, e0, _⟩ := DataW.trod_bool Try.underlying4 h0
      obtain ⟨A, N, hA, e1⟩ := pref_of h1
      obtain ⟨b, e2, _, _⟩ := DataW.trod_int Try.underlying3 h2
      obtain ⟨a, e3, _, wa⟩ := DataW.trod_int Try.underlying23 h3
      simp [cells4, cells25, cells3, cells23] at e0 e1 e2 e3
      obtain ⟨e1, e4⟩ := e1
      subst e0 e1 e2 e3 e4
      have ha := wf_u32 wa
      exact ⟨⟨p, A, N, b, a.toNat⟩, hA, by show a.toNat < 4294967296; omega, by simp only; rw [show ((a.toNat : Nat) : Int) = a by omega]⟩
/-- A list out of what is known of each place. -/
theorem list_of {α : Type} [Inhabited α] (n : Nat) {p : Nat → α → Prop} (h : ∀ i, i < n → ∃ a, p i a) : ∃ l : List α, l.length = n ∧ ∀ i, i < n → p i (l.getD i default) := by
  refine ⟨(List.range n).map fun i => if hi : i < n then Classical.choose (h i hi) else default, by simp, fun i hi => ?_⟩
  have : ((List.range n).map fun i => if hi : i < n then Classical.choose (h i hi) else default).getD i default = Classical.choose (h i hi) := by simp [List.getD, hi]
  rw [this]
  exact Classical.choose_spec (h i hi)
theorem acts_of {fuel : Nat} {cs : List Value} {x : DataW H × List MemPlace} (h : DataW.trod enc Try.prog w base spare held fuel 22 cs = some x) : ∃ (A : Option Addr) (c : Nat) (l : List Ac), cs = [.slice A l.length c] ∧ Sc (· < w.heap.size) w A l := by
  rcases open_slice Try.underlying22 h with ⟨rfl, _⟩ | ⟨a, len, cap, m, n, D, Pl, rfl, _, hl, _, hm, _, hx⟩
  · exact ⟨none, 0, [], rfl, fun h => absurd rfl h⟩
  · have hml : len ≤ m := by rw [hm]; split <;> omega
    obtain ⟨l, hln, hp⟩ := list_of len (p := fun i (y : Ac) => y.A < 4294967296 ∧ y.a < 4294967296 ∧ w.cell? (a.add (i * 5)) = some (.bool y.d) ∧ w.cell? (a.add (i * 5 + 1)) = some (.int .u32 (y.A : Int)) ∧ w.cell? (a.add (i * 5 + 2)) = some (.int .i64 y.N) ∧ w.cell? (a.add (i * 5 + 3)) = some (.int .i64 y.V) ∧ w.cell? (a.add (i * 5 + 4)) = some (.int .u32 (y.a : Int))) (fun i hi => by
      obtain ⟨cs', h1, h2⟩ := hx i (by omega)
      obtain ⟨y, hA, ha, rfl⟩ := act_of h2
      rw [cells30] at h1
      obtain ⟨_, _, h3⟩ := World.cells?_some h1
      have a0 := h3 0 (by omega)
      have a1 := h3 1 (by omega)
      have a2 := h3 2 (by omega)
      have a3 := h3 3 (by omega)
      have a4 := h3 4 (by omega)
      rw [add_add] at a0 a1 a2 a3 a4
      exact ⟨y, hA, ha, a0, a1, a2, a3, a4⟩)
    refine ⟨some a, cap, l, by rw [hln], fun hne => ?_⟩
    have hpos : 0 < len := by rw [← hln]; exact List.length_pos_iff.2 hne
    obtain ⟨b, off, spot⟩ := a
    have hc := (hp 0 hpos).2.2.1
    have hspot : spot = none := by simpa [Addr.add] using World.cell?_spot hc
    subst hspot
    have hc0 : w.cell? ⟨b, off, none⟩ = some (.bool (l.getD 0 default).d) := by simpa [Addr.add] using hc
    have hlt := World.block_lt_of_cell? w ⟨b, off, none⟩ hc0
    refine ⟨b, off, rfl, hlt, hlt, fun i hi => ?_⟩
    obtain ⟨u1, u2, q1, q2, q3, q4, q5⟩ := hp i (by omega)
    rw [addr_add] at q1 q2 q3 q4 q5
    exact ⟨u1, u2, q1, by rw [Nat.add_assoc]; exact q2, by rw [Nat.add_assoc]; exact q3, by rw [Nat.add_assoc]; exact q4, by rw [Nat.add_assoc]; exact q5⟩
end
end Go.Proofs.Ytlmcgjdenfnkmaa
