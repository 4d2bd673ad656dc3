/-
  What the laws of this seat share: bodies, advertisements and bytes that came in, opened. No statement is proved here; no conditions.
-/
import Derived.Test.YtmgfcpbeammopaaRows
import Derived.Test.YtmgfcpbeammopaaEs
import Derived.ProofKit
import Derived.OpenShut
import Derived.ShutString
import Derived.ChangeOld
import Derived.Deep.Slices
import Derived.Carry
import Derived.KernelRfl
namespace Go.Proofs.Ytmgfcpbeammopaa
open Go.ChangeShapes Go.WideShapes Go.ChangeAt Go.RowKit Go.Joins Go.Deep

theorem own : ownKnob Try.prog.godebug = none := by kernel_rfl
theorem wf_u32 {a : Int} (h : (Lit.int .u32 a).wf = true) : 0 ≤ a ∧ a < 4294967296 := by
  have e1 : IntKind.u32.min = 0 := by decide
  have e2 : IntKind.u32.max = 4294967295 := by decide
  simp only [Lit.wf, e1, e2, Bool.and_eq_true, decide_eq_true_eq] at h
  omega
theorem wf_u8 {a : Int} (h : (Lit.int .u8 a).wf = true) : 0 ≤ a ∧ a < 256 := by
  have e1 : IntKind.u8.min = 0 := by decide
  have e2 : IntKind.u8.max = 255 := by decide
  simp only [Lit.wf, e1, e2, Bool.and_eq_true, decide_eq_true_eq] at h
  omega
theorem laidOut : laidOutB Try.prog = true := by kernel_rfl
theorem cellsH : Try.prog.cellsOf 61 = 8 := by kernel_rfl
theorem cellsA : Try.prog.cellsOf 63 = 9 := by kernel_rfl
theorem cellsL : Try.prog.cellsOf 69 = 4 := by kernel_rfl
theorem cellsLS : Try.prog.cellsOf 22 = 1 := by kernel_rfl
theorem cellsR : Try.prog.cellsOf 24 = 2 := by kernel_rfl
theorem cellsS : Try.prog.cellsOf 41 = 2 := by kernel_rfl
theorem cellsE : Try.prog.cellsOf 51 = 5 := by kernel_rfl
theorem cells4 : Try.prog.cellsOf 4 = 1 := by kernel_rfl
theorem cells24 : Try.prog.cellsOf 25 = 1 := by kernel_rfl
theorem cells22 : Try.prog.cellsOf 39 = 1 := by kernel_rfl
theorem cells5 : Try.prog.cellsOf 5 = 1 := by kernel_rfl
theorem cells3 : Try.prog.cellsOf 3 = 1 := by kernel_rfl
/-- A list out of what is known of each place. -/
theorem list_of {α : Type} (d : α) (n : Nat) {p : Nat → α → Prop} (h : ∀ i, i < n → ∃ a, p i a) : ∃ l : List α, l.length = n ∧ ∀ i (hi : i < l.length), p i l[i] := by
  refine ⟨(List.range n).map fun i => if hi : i < n then Classical.choose (h i hi) else d, by simp, fun i hi => ?_⟩
  have hi' : i < n := by simpa using hi
  simp only [List.getElem_map, List.getElem_range, hi', dif_pos]
  exact Classical.choose_spec (h i hi')
section
variable {H : Type} {enc : TypeId × Value → H} {w : World} {base : Nat} {spare : Nat → Bool} {held : Bool}
/-- A slice of pieces, opened. -/
theorem slice_of {α : Type} (d : α) {f : α → List Value} {sz : Nat} (hf : ∀ x, (f x).length = sz) (hsz : 0 < sz) {st e : TypeId} (hu : Try.prog.underlying st = some (.slice e)) (hcel : Try.prog.cellsOf e = sz) {good : α → Prop}
    (hop : ∀ (fuel : Nat) (cs : List Value) (x : DataW H × List MemPlace), DataW.trod enc Try.prog w base spare held fuel e cs = some x → ∃ y, good y ∧ cs = f y)
    {fuel : Nat} {cs : List Value} {x : DataW H × List MemPlace} (h : DataW.trod enc Try.prog w base spare held fuel st cs = some x) :
    ∃ (A : Option Addr) (c : Nat) (l : List α), cs = [.slice A l.length c] ∧ l.length ≤ c ∧ (∀ y ∈ l, good y) ∧ Rd (fun _ => True) w A (l.flatMap f) := by
  rcases open_slice hu h with ⟨rfl, _⟩ | ⟨a, len, cap, m, n, D, Pl, rfl, _, hl, hcm, hm, _, hx⟩
  · exact ⟨none, 0, [], rfl, Nat.le_refl _, by simp, Rd.nil _⟩
  · have hml : len ≤ m := by rw [hm]; split <;> omega
    obtain ⟨l, hln, hp⟩ := list_of d len (p := fun i y => good y ∧ ∀ j u, (f y)[j]? = some u → w.cell? (a.add (i * sz + j)) = some u) (fun i hi => by
      obtain ⟨cs', h1, h2⟩ := hx i (by omega)
      obtain ⟨y, hy, rfl⟩ := hop _ _ _ h2
      rw [hcel] at h1
      obtain ⟨_, _, h3⟩ := World.cells?_some h1
      refine ⟨y, hy, fun j u hu => ?_⟩
      have hj : j < sz := by
        have := (List.getElem?_eq_some_iff.1 hu).1
        rwa [hf] at this
      have := h3 j hj
      rw [add_add, hu] at this
      exact this)
    refine ⟨some a, cap, l, by rw [hln], by omega, fun y hy => ?_, ?_⟩
    · obtain ⟨i, hi, rfl⟩ := List.getElem_of_mem hy
      exact (hp i hi).1
    · intro hne
      have hpos : 0 < l.length := by
        rcases Nat.eq_zero_or_pos l.length with q | q
        · have : l = [] := List.eq_nil_of_length_eq_zero q
          subst this
          exact absurd rfl hne
        · exact q
      obtain ⟨b, off, spot⟩ := a
      have h0 : ∃ u, (f l[0])[0]? = some u := ⟨(f l[0])[0]'(by rw [hf]; exact hsz), by rw [List.getElem?_eq_getElem]⟩
      obtain ⟨u0, hu0⟩ := h0
      have hc := (hp 0 hpos).2 0 u0 hu0
      have hspot : spot = none := by simpa [Addr.add] using World.cell?_spot hc
      subst hspot
      have hlt : b < w.heap.size := by
        have hc0 : w.cell? ⟨b, off, none⟩ = some u0 := by simpa [Addr.add] using hc
        exact World.block_lt_of_cell? w ⟨b, off, none⟩ hc0
      refine ⟨b, off, rfl, trivial, hlt, fun j u hu => ?_⟩
      have hj : j < (l.flatMap f).length := (List.getElem?_eq_some_iff.1 hu).1
      rw [fm_len hf] at hj
      have hi : j / sz < l.length := (Nat.div_lt_iff_lt_mul hsz).2 hj
      have hr : j % sz < sz := Nat.mod_lt _ hsz
      have e : j = j / sz * sz + j % sz := by rw [Nat.mul_comm]; exact (Nat.div_add_mod j sz).symm
      have hg := fm_get hf hi hr
      rw [← e, hu] at hg
      have := (hp _ hi).2 _ _ hg.symm
      rw [← e, addr_add] at this
      exact this
theorem byte_of {fuel : Nat} {cs : List Value} {x : DataW H × List MemPlace} (h : DataW.trod enc Try.prog w base spare held fuel 5 cs = some x) : ∃ y : Int, (0 ≤ y ∧ y < 256) ∧ cs = [Value.int .u8 y] := by
  obtain ⟨t, e3, _, wt⟩ := DataW.trod_int Try.underlying5 h
  exact ⟨t, wf_u8 wt, e3⟩
theorem fm_bytes (l : List Int) : (l.flatMap fun x => [Value.int .u8 x]) = l.map (Value.int .u8) := by
  induction l with
  | nil => rfl
  | cons x l ih => rw [List.flatMap_cons, ih]; rfl
theorem bt_of_rd {A : Option Addr} {l : List Int} (h : Rd (fun _ => True) w A (l.flatMap fun x => [Value.int .u8 x])) : Bt w A l := fun hl => by
  rw [fm_bytes] at h
  obtain ⟨b, off, e, _, hlt, hc⟩ := h (by simpa using hl)
  refine ⟨b, off, e, hlt, fun i hi => hc i _ ?_⟩
  simp [List.getD, hi]
theorem bytes_of {fuel : Nat} {cs : List Value} {x : DataW H × List MemPlace} (h : DataW.trod enc Try.prog w base spare held fuel 25 cs = some x) : ∃ (A : Option Addr) (c : Nat) (l : List Int), cs = [.slice A l.length c] ∧ l.length ≤ c ∧ Byt l ∧ Bt w A l := by
  obtain ⟨A, c, l, h1, h2, h3, h4⟩ := slice_of (0 : Int) (f := fun x => [Value.int .u8 x]) (sz := 1) (fun _ => rfl) (by omega) Try.underlying25 cells5 (fun _ _ _ h => byte_of h) h
  exact ⟨A, c, l, h1, h2, h3, bt_of_rd h4⟩
set_option maxRecDepth 100000 in
theorem link_of {fuel : Nat} {cs : List Value} {x : DataW H × List MemPlace} (h : DataW.trod enc Try.prog w base spare held fuel 69 cs = some x) : ∃ y : Lk, Okl y ∧ cs = lkc y := by
  obtain ⟨xs, n, _, _, hl, hxl, hf⟩ := DataW.trod_struct Try.underlying69 h
  have h0 := hf 0 _ rfl
  have h1 := hf 1 _ rfl
  have h2 := hf 2 _ rfl
  have h3 := hf 3 _ rfl
  rw [cellsL] at hl
  match cs, hl with
  | [c0, c1, c2, c3], _ =>
    match xs, hxl with
    | [y0, y1, y2, y3], _ =>
      simp only [List.getElem?_cons_zero, List.getElem?_cons_succ] at h0 h1 h2 h3
      obtain ⟨v0, e0, _, _⟩ := DataW.trod_int Try.underlying3 h0
      obtain ⟨v1, e1, _, q1⟩ := DataW.trod_int Try.underlying39 h1
      obtain ⟨v2, e2, _, q2⟩ := DataW.trod_int Try.underlying39 h2
      obtain ⟨v3, e3, _, _⟩ := DataW.trod_int Try.underlying3 h3
      simp [cells22, cells3] at e0 e1 e2 e3
      subst e0 e1 e2 e3
      exact ⟨⟨v0, v1, v2, v3⟩, ⟨wf_u32 q1, wf_u32 q2⟩, rfl⟩
theorem links_of {fuel : Nat} {cs : List Value} {x : DataW H × List MemPlace} (h : DataW.trod enc Try.prog w base spare held fuel 22 cs = some x) : ∃ (A : Option Addr) (c : Nat) (l : List Lk), cs = [.slice A l.length c] ∧ l.length ≤ c ∧ Okls l ∧ Lr w A l := by
  obtain ⟨A, c, l, h1, h2, h3, h4⟩ := slice_of (⟨0, 0, 0, 0⟩ : Lk) (f := lkc) (sz := 4) lkc_len (by omega) Try.underlying22 cellsL (fun _ _ _ h => link_of h) h
  exact ⟨A, c, l, h1, h2, h3, h4⟩
set_option maxRecDepth 100000 in
theorem rb_of {fuel : Nat} {cs : List Value} {x : DataW H × List MemPlace} (h : DataW.trod enc Try.prog w base spare held fuel 24 cs = some x) : ∃ (f : Int) (A : Option Addr) (c : Nat) (l : List Lk), cs = [.int .i64 f, .slice A l.length c] ∧ Okls l ∧ Lr w A l := by
  obtain ⟨xs, n, _, _, hl, hxl, hf⟩ := DataW.trod_struct Try.underlying24 h
  have h0 := hf 0 _ rfl
  have h1 := hf 1 _ rfl
  rw [cellsR] at hl
  match cs, hl with
  | [c0, c1], _ =>
    match xs, hxl with
    | [y0, y1], _ =>
      simp only [List.getElem?_cons_zero, List.getElem?_cons_succ] at h0 h1
      obtain ⟨v0, e0, _, _⟩ := DataW.trod_int Try.underlying3 h0
      obtain ⟨A1, d1, l1, e1, _, ok1, r1⟩ := links_of h1
      simp [cells3, cellsLS] at e0 e1
      subst e0 e1
      exact ⟨v0, A1, d1, l1, rfl, ok1, r1⟩
set_option maxRecDepth 100000 in
theorem sb_of {fuel : Nat} {cs : List Value} {x : DataW H × List MemPlace} (h : DataW.trod enc Try.prog w base spare held fuel 41 cs = some x) : ∃ (m y : Int), cs = [.int .u32 m, .int .i64 y] ∧ 0 ≤ m ∧ m < 4294967296 := by
  obtain ⟨xs, n, _, _, hl, hxl, hf⟩ := DataW.trod_struct Try.underlying41 h
  have h0 := hf 0 _ rfl
  have h1 := hf 1 _ rfl
  rw [cellsS] at hl
  match cs, hl with
  | [c0, c1], _ =>
    match xs, hxl with
    | [y0, y1], _ =>
      simp only [List.getElem?_cons_zero, List.getElem?_cons_succ] at h0 h1
      obtain ⟨v0, e0, _, q0⟩ := DataW.trod_int Try.underlying39 h0
      obtain ⟨v1, e1, _, _⟩ := DataW.trod_int Try.underlying3 h1
      simp [cells3, cells22] at e0 e1
      subst e0 e1
      exact ⟨v0, v1, rfl, wf_u32 q0⟩
set_option maxRecDepth 100000 in
theorem xb_of {fuel : Nat} {cs : List Value} {x : DataW H × List MemPlace} (h : DataW.trod enc Try.prog w base spare held fuel 51 cs = some x) : ∃ (y : Xb), cs = [.int .u32 y.m, .bool y.s, .int .i64 y.c, .int .u32 y.f, .int .u32 y.t] ∧ Okx y := by
  obtain ⟨xs, n, _, _, hl, hxl, hf⟩ := DataW.trod_struct Try.underlying51 h
  have h0 := hf 0 _ rfl
  have h1 := hf 1 _ rfl
  have h2 := hf 2 _ rfl
  have h3 := hf 3 _ rfl
  have h4 := hf 4 _ rfl
  rw [cellsE] at hl
  match cs, hl with
  | [c0, c1, c2, c3, c4], _ =>
    match xs, hxl with
    | [y0, y1, y2, y3, y4], _ =>
      simp only [List.getElem?_cons_zero, List.getElem?_cons_succ] at h0 h1 h2 h3 h4
      obtain ⟨v0, e0, _, q0⟩ := DataW.trod_int Try.underlying39 h0
      obtain ⟨v1, e1, _⟩ := DataW.trod_bool Try.underlying4 h1
      obtain ⟨v2, e2, _, _⟩ := DataW.trod_int Try.underlying3 h2
      obtain ⟨v3, e3, _, q3⟩ := DataW.trod_int Try.underlying39 h3
      obtain ⟨v4, e4, _, q4⟩ := DataW.trod_int Try.underlying39 h4
      simp [cells3, cells22, cells4] at e0 e1 e2 e3 e4
      subst e0 e1 e2 e3 e4
      exact ⟨⟨v0, v1, v2, v3, v4⟩, rfl, ⟨wf_u32 q0, wf_u32 q3, wf_u32 q4⟩⟩
set_option maxRecDepth 100000 in
theorem hd_of {fuel : Nat} {cs : List Value} {x : DataW H × List MemPlace} (h : DataW.trod enc Try.prog w base spare held fuel 61 cs = some x) : ∃ a o t i v q s z : Int, cs = [.int .i64 a, .int .i64 o, .int .i64 t, .int .u32 i, .int .u32 v, .int .u32 q, .int .i64 s, .int .i64 z] := by
  obtain ⟨xs, n, _, _, hl, hxl, hf⟩ := DataW.trod_struct Try.underlying61 h
  have h0 := hf 0 _ rfl
  have h1 := hf 1 _ rfl
  have h2 := hf 2 _ rfl
  have h3 := hf 3 _ rfl
  have h4 := hf 4 _ rfl
  have h5 := hf 5 _ rfl
  have h6 := hf 6 _ rfl
  have h7 := hf 7 _ rfl
  rw [cellsH] at hl
  match cs, hl with
  | [c0, c1, c2, c3, c4, c5, c6, c7], _ =>
    match xs, hxl with
    | [y0, y1, y2, y3, y4, y5, y6, y7], _ =>
      simp only [List.getElem?_cons_zero, List.getElem?_cons_succ] at h0 h1 h2 h3 h4 h5 h6 h7
      obtain ⟨v0, e0, _, _⟩ := DataW.trod_int Try.underlying3 h0
      obtain ⟨v1, e1, _, _⟩ := DataW.trod_int Try.underlying3 h1
      obtain ⟨v2, e2, _, _⟩ := DataW.trod_int Try.underlying3 h2
      obtain ⟨v3, e3, _, q3⟩ := DataW.trod_int Try.underlying39 h3
      obtain ⟨v4, e4, _, q4⟩ := DataW.trod_int Try.underlying39 h4
      obtain ⟨v5, e5, _, q5⟩ := DataW.trod_int Try.underlying39 h5
      obtain ⟨v6, e6, _, _⟩ := DataW.trod_int Try.underlying3 h6
      obtain ⟨v7, e7, _, _⟩ := DataW.trod_int Try.underlying3 h7
      simp [cells22, cells3] at e0 e1 e2 e3 e4 e5 e6 e7
      subst e0 e1 e2 e3 e4 e5 e6 e7
      exact ⟨v0, v1, v2, v3, v4, v5, v6, v7, rfl⟩
set_option maxRecDepth 100000 in
theorem ad_of {fuel : Nat} {cs : List Value} {x : DataW H × List MemPlace} (h : DataW.trod enc Try.prog w base spare held fuel 63 cs = some x) : ∃ (a o t i v q s z : Int) (A : Option Addr) (c : Nat) (l : List Int), cs = [.int .i64 a, .int .i64 o, .int .i64 t, .int .u32 i, .int .u32 v, .int .u32 q, .int .i64 s, .int .i64 z, .slice A l.length c] ∧ l.length ≤ c ∧ Byt l ∧ Bt w A l := by
  obtain ⟨xs, n, _, _, hl, hxl, hf⟩ := DataW.trod_struct Try.underlying63 h
  have h0 := hf 0 _ rfl
  have h1 := hf 1 _ rfl
  rw [cellsA] at hl
  match cs, hl with
  | [c0, c1, c2, c3, c4, c5, c6, c7, c8], _ =>
    match xs, hxl with
    | [y0, y1], _ =>
      simp only [List.getElem?_cons_zero, List.getElem?_cons_succ] at h0 h1
      obtain ⟨a0, a1, a2, a3, a4, a5, a6, a7, e0⟩ := hd_of h0
      obtain ⟨A1, d1, l1, e1, hc1, ok1, r1⟩ := bytes_of h1
      simp [cellsH, cells24] at e0 e1
      obtain ⟨q0, q1, q2, q3, q4, q5, q6, q7⟩ := e0
      subst e1 q0 q1 q2 q3 q4 q5 q6 q7
      exact ⟨a0, a1, a2, a3, a4, a5, a6, a7, A1, d1, l1, rfl, hc1, ok1, r1⟩
end
end Go.Proofs.Ytmgfcpbeammopaa
