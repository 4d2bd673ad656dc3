/-
  What the laws of this seat share: packets and bytes that came in, opened. No statement is proved here; no conditions.
-/
import Derived.Test.YtfhickgdmcmodaaRows
import Derived.Test.YtfhickgdmcmodaaLwE
import Derived.ProofKit
import Derived.OpenShut
import Derived.ShutString
import Derived.ChangeOld
import Derived.Deep.Slices
import Derived.Carry
import Derived.KernelRfl
namespace Go.Proofs.Ytfhickgdmcmodaa
open Go.ChangeShapes Go.WideShapes Go.ChangeAt Go.RowKit Go.Joins Go.Deep

theorem own : ownKnob Try.prog.godebug = none := by kernel_rfl
theorem wf_u32 {a : Int} (h : (Lit.int .u32 a).wf = true) : 0 ≤ a ∧ a < 4294967296 := by
  have e1 : IntKind.u32.min = 0 := by decide
  have e2 : IntKind.u32.max = 4294967295 := by decide
  simp only [Lit.wf, e1, e2, Bool.and_eq_true, decide_eq_true_eq] at h
  omega
theorem wf_u8 {a : Int} (h : (Lit.int .u8 a).wf = true) : 0 ≤ a ∧ a < 256 := by
  have e1 : IntKind.u8.min = 0 := by decide
  have e2 : IntKind.u8.max = 255 := by decide
  simp only [Lit.wf, e1, e2, Bool.and_eq_true, decide_eq_true_eq] at h
  omega
theorem laidOut : laidOutB Try.prog = true := by kernel_rfl
theorem cells26 : Try.prog.cellsOf 26 = 13 := by kernel_rfl
theorem cells43 : Try.prog.cellsOf 43 = 10 := by kernel_rfl
theorem cells23 : Try.prog.cellsOf 23 = 8 := by kernel_rfl
theorem cells24 : Try.prog.cellsOf 24 = 1 := by kernel_rfl
theorem cells22 : Try.prog.cellsOf 22 = 1 := by kernel_rfl
theorem cells5 : Try.prog.cellsOf 5 = 1 := by kernel_rfl
theorem cells3 : Try.prog.cellsOf 3 = 1 := by kernel_rfl
/-- A list out of what is known of each place. -/
theorem list_of {α : Type} (d : α) (n : Nat) {p : Nat → α → Prop} (h : ∀ i, i < n → ∃ a, p i a) : ∃ l : List α, l.length = n ∧ ∀ i (hi : i < l.length), p i l[i] := by
  refine ⟨(List.range n).map fun i => if hi : i < n then Classical.choose (h i hi) else d, by simp, fun i hi => ?_⟩
  have hi' : i < n := by simpa using hi
  simp only [List.getElem_map, List.getElem_range, hi', dif_pos]
  exact Classical.choose_spec (h i hi')
section
variable {H : Type} {enc : TypeId × Value → H} {w : World} {base : Nat} {spare : Nat → Bool} {held : Bool}
/-- A slice of pieces, opened. -/
theorem slice_of {α : Type} (d : α) {f : α → List Value} {sz : Nat} (hf : ∀ x, (f x).length = sz) (hsz : 0 < sz) {st e : TypeId} (hu : Try.prog.underlying st = some (.slice e)) (hcel : Try.prog.cellsOf e = sz) {good : α → Prop}
    (hop : ∀ (fuel : Nat) (cs : List Value) (x : DataW H × List MemPlace), DataW.trod enc Try.prog w base spare held fuel e cs = some x → ∃ y, good y ∧ cs = f y)
    {fuel : Nat} {cs : List Value} {x : DataW H × List MemPlace} (h : DataW.trod enc Try.prog w base spare held fuel st cs = some x) :
    ∃ (A : Option Addr) (c : Nat) (l : List α), cs = [.slice A l.length c] ∧ l.length ≤ c ∧ (∀ y ∈ l, good y) ∧ Rd (fun _ => True) w A (l.flatMap f) := by
  rcases open_slice hu h with ⟨rfl, _⟩ | ⟨a, len, cap, m, n, D, Pl, rfl, _, hl, hcm, hm, _, hx⟩
  · exact ⟨none, 0, [], rfl, Nat.le_refl _, by simp, Rd.nil _⟩
  · have hml : len ≤ m := by rw [hm]; split <;> omega
    obtain ⟨l, hln, hp⟩ := list_of d len (p := fun i y => good y ∧ ∀ j u, (f y)[j]? = some u → w.cell? (a.add (i * sz + j)) = some u) (fun i hi => by
      obtain ⟨cs', h1, h2⟩ := hx i (by omega)
      obtain ⟨y, hy, rfl⟩ := hop _ _ _ h2
      rw [hcel] at h1
      obtain ⟨_, _, h3⟩ := World.cells?_some h1
      refine ⟨y, hy, fun j u hu => ?_⟩
      have hj : j < sz := by
        have := (List.getElem?_eq_some_iff.1 hu).1
        rwa [hf] at this
      have := h3 j hj
      rw [add_add, hu] at this
      exact this)
    refine ⟨some a, cap, l, by rw [hln], by omega, fun y hy => ?_, ?_⟩
    · obtain ⟨i, hi, rfl⟩ := List.getElem_of_mem hy
      exact (hp i hi).1
    · intro hne
      have hpos : 0 < l.length := by
        rcases Nat.eq_zero_or_pos l.length with q | q
        · have : l = [] := List.eq_nil_of_length_eq_zero q
          subst this
          exact absurd rfl hne
        · exact q
      obtain ⟨b, off, spot⟩ := a
      have h0 : ∃ u, (f l[0])[0]? = some u := ⟨(f l[0])[0]'(by rw [hf]; exact hsz), by rw [List.getElem?_eq_getElem]⟩
      obtain ⟨u0, hu0⟩ := h0
      have hc := (hp 0 hpos).2 0 u0 hu0
      have hspot : spot = none := by simpa [Addr.add] using World.cell?_spot hc
      subst hspot
      have hlt : b < w.heap.size := by
        have hc0 : w.cell? ⟨b, off, none⟩ = some u0 := by simpa [Addr.add] using hc
        exact World.block_lt_of_cell? w ⟨b, off, none⟩ hc0
      refine ⟨b, off, rfl, trivial, hlt, fun j u hu => ?_⟩
      have hj : j < (l.flatMap f).length := (List.getElem?_eq_some_iff.1 hu).1
      rw [fm_len hf] at hj
      have hi : j / sz < l.length := (Nat.div_lt_iff_lt_mul hsz).2 hj
      have hr : j % sz < sz := Nat.mod_lt _ hsz
      have e : j = j / sz * sz + j % sz := by rw [Nat.mul_comm]; exact (Nat.div_add_mod j sz).symm
      have hg := fm_get hf hi hr
      rw [← e, hu] at hg
      have := (hp _ hi).2 _ _ hg.symm
      rw [← e, addr_add] at this
      exact this
theorem byte_of {fuel : Nat} {cs : List Value} {x : DataW H × List MemPlace} (h : DataW.trod enc Try.prog w base spare held fuel 5 cs = some x) : ∃ y : Int, (0 ≤ y ∧ y < 256) ∧ cs = [Value.int .u8 y] := by
  obtain ⟨t, e3, _, wt⟩ := DataW.trod_int Try.underlying5 h
  exact ⟨t, wf_u8 wt, e3⟩
theorem fm_bytes (l : List Int) : (l.flatMap fun x => [Value.int .u8 x]) = l.map (Value.int .u8) := by
  induction l with
  | nil => rfl
  | cons x l ih => rw [List.flatMap_cons, ih]; rfl
theorem bt_of_rd {A : Option Addr} {l : List Int} (h : Rd (fun _ => True) w A (l.flatMap fun x => [Value.int .u8 x])) : Bt w A l := fun hl => by
  rw [fm_bytes] at h
  obtain ⟨b, off, e, _, hlt, hc⟩ := h (by simpa using hl)
  refine ⟨b, off, e, hlt, fun i hi => hc i _ ?_⟩
  simp [List.getD, hi]
theorem bytes_of {fuel : Nat} {cs : List Value} {x : DataW H × List MemPlace} (h : DataW.trod enc Try.prog w base spare held fuel 24 cs = some x) : ∃ (A : Option Addr) (c : Nat) (l : List Int), cs = [.slice A l.length c] ∧ l.length ≤ c ∧ Byt l ∧ Bt w A l := by
  obtain ⟨A, c, l, h1, h2, h3, h4⟩ := slice_of (0 : Int) (f := fun x => [Value.int .u8 x]) (sz := 1) (fun _ => rfl) (by omega) Try.underlying24 cells5 (fun _ _ _ h => byte_of h) h
  exact ⟨A, c, l, h1, h2, h3, bt_of_rd h4⟩
set_option maxRecDepth 100000 in
theorem arr8_of {fuel : Nat} {cs : List Value} {x : DataW H × List MemPlace} (h : DataW.trod enc Try.prog w base spare held fuel 23 cs = some x) : ∃ h0 h1 h2 h3 h4 h5 h6 h7 : Int, Byt [h0, h1, h2, h3, h4, h5, h6, h7] ∧ cs = [.int .u8 h0, .int .u8 h1, .int .u8 h2, .int .u8 h3, .int .u8 h4, .int .u8 h5, .int .u8 h6, .int .u8 h7] := by
  obtain ⟨xs, m, _, _, hl, hxl, hf⟩ := DataW.trod_array Try.underlying23 h
  rw [cells23] at hl
  match cs, hl with
  | [c0, c1, c2, c3, c4, c5, c6, c7], _ =>
    match xs, hxl with
    | [y0, y1, y2, y3, y4, y5, y6, y7], _ =>
      rw [cells5] at hf
      obtain ⟨h0, b0, e0⟩ := byte_of (hf 0 (by omega))
      obtain ⟨h1, b1, e1⟩ := byte_of (hf 1 (by omega))
      obtain ⟨h2, b2, e2⟩ := byte_of (hf 2 (by omega))
      obtain ⟨h3, b3, e3⟩ := byte_of (hf 3 (by omega))
      obtain ⟨h4, b4, e4⟩ := byte_of (hf 4 (by omega))
      obtain ⟨h5, b5, e5⟩ := byte_of (hf 5 (by omega))
      obtain ⟨h6, b6, e6⟩ := byte_of (hf 6 (by omega))
      obtain ⟨h7, b7, e7⟩ := byte_of (hf 7 (by omega))
      simp at e0 e1 e2 e3 e4 e5 e6 e7
      subst e0 e1 e2 e3 e4 e5 e6 e7
      refine ⟨h0, h1, h2, h3, h4, h5, h6, h7, fun x hx => ?_, rfl⟩
      simp only [List.mem_cons, List.not_mem_nil, or_false] at hx
      rcases hx with rfl | rfl | rfl | rfl | rfl | rfl | rfl | rfl
      · exact b0
      · exact b1
      · exact b2
      · exact b3
      · exact b4
      · exact b5
      · exact b6
      · exact b7
set_option maxRecDepth 100000 in
theorem pk_of {fuel : Nat} {cs : List Value} {x : DataW H × List MemPlace} (h : DataW.trod enc Try.prog w base spare held fuel 26 cs = some x) : ∃ (p : Pk) (A : Option Addr) (c : Nat), cs = [.int .i64 p.t, .int .u32 p.r, .int .u32 p.a, .int .i64 p.u, .int .u8 p.h0, .int .u8 p.h1, .int .u8 p.h2, .int .u8 p.h3, .int .u8 p.h4, .int .u8 p.h5, .int .u8 p.h6, .int .u8 p.h7, .slice A p.b.length c] ∧ Okp p ∧ Bt w A p.b := by
  obtain ⟨xs, n, _, _, hl, hxl, hf⟩ := DataW.trod_struct Try.underlying26 h
  have h0 := hf 0 _ rfl
  have h1 := hf 1 _ rfl
  have h2 := hf 2 _ rfl
  have h3 := hf 3 _ rfl
  have h4 := hf 4 _ rfl
  have h5 := hf 5 _ rfl
  rw [cells26] at hl
  match cs, hl with
  | [c0, c1, c2, c3, c4, c5, c6, c7, c8, c9, c10, c11, c12], _ =>
    match xs, hxl with
    | [y0, y1, y2, y3, y4, y5], _ =>
      simp only [List.getElem?_cons_zero, List.getElem?_cons_succ] at h0 h1 h2 h3 h4 h5
      obtain ⟨t, e0, _, _⟩ := DataW.trod_int Try.underlying3 h0
      obtain ⟨r, e1, _, wr⟩ := DataW.trod_int Try.underlying22 h1
      obtain ⟨a, e2, _, wa⟩ := DataW.trod_int Try.underlying22 h2
      obtain ⟨u, e3, _, _⟩ := DataW.trod_int Try.underlying3 h3
      obtain ⟨a0, a1, a2, a3, a4, a5, a6, a7, ba, e4⟩ := arr8_of h4
      obtain ⟨A, c, l, e5, _, yl, bl⟩ := bytes_of h5
      simp [cells22, cells23, cells24, cells3] at e0 e1 e2 e3 e4 e5
      obtain ⟨q0, q1, q2, q3, q4, q5, q6, q7⟩ := e4
      subst e0 e1 e2 e3 e5 q0 q1 q2 q3 q4 q5 q6 q7
      exact ⟨⟨t, r, a, u, a0, a1, a2, a3, a4, a5, a6, a7, l⟩, A, c, rfl, ⟨wf_u32 wr, wf_u32 wa, ba, yl⟩, bl⟩
set_option maxRecDepth 100000 in
theorem gate_of {fuel : Nat} {cs : List Value} {x : DataW H × List MemPlace} (h : DataW.trod enc Try.prog w base spare held fuel 43 cs = some x) : ∃ ga gu h0 h1 h2 h3 h4 h5 h6 h7 : Int, cs = [.int .u32 ga, .int .i64 gu, .int .u8 h0, .int .u8 h1, .int .u8 h2, .int .u8 h3, .int .u8 h4, .int .u8 h5, .int .u8 h6, .int .u8 h7] := by
  obtain ⟨xs, n, _, _, hl, hxl, hf⟩ := DataW.trod_struct Try.underlying43 h
  have h0 := hf 0 _ rfl
  have h1 := hf 1 _ rfl
  have h2 := hf 2 _ rfl
  rw [cells43] at hl
  match cs, hl with
  | [c0, c1, c2, c3, c4, c5, c6, c7, c8, c9], _ =>
    match xs, hxl with
    | [y0, y1, y2], _ =>
      simp only [List.getElem?_cons_zero, List.getElem?_cons_succ] at h0 h1 h2
      obtain ⟨a, e0, _, _⟩ := DataW.trod_int Try.underlying22 h0
      obtain ⟨u, e1, _, _⟩ := DataW.trod_int Try.underlying3 h1
      obtain ⟨a0, a1, a2, a3, a4, a5, a6, a7, ba, e4⟩ := arr8_of h2
      simp [cells22, cells23, cells3] at e0 e1 e4
      obtain ⟨q0, q1, q2, q3, q4, q5, q6, q7⟩ := e4
      subst e0 e1 q0 q1 q2 q3 q4 q5 q6 q7
      exact ⟨a, u, a0, a1, a2, a3, a4, a5, a6, a7, rfl⟩
end
end Go.Proofs.Ytfhickgdmcmodaa
