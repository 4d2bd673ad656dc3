/-
  What the laws of this seat share: descriptions, keys, headers, advertisements and bytes that came in, opened. No statement is proved here; no conditions.
-/
import Derived.Test.YtadcicmccdphkaaRows
import Derived.Test.YtadcicmccdphkaaAd
import Derived.ProofKit
import Derived.OpenShut
import Derived.ShutString
import Derived.ChangeOld
import Derived.Deep.Slices
import Derived.Carry
import Derived.KernelRfl
namespace Go.Proofs.Ytadcicmccdphkaa
open Go.ChangeShapes Go.WideShapes Go.ChangeAt Go.RowKit Go.Joins Go.Deep

theorem own : ownKnob Try.prog.godebug = none := by kernel_rfl
theorem wf_u32 {a : Int} (h : (Lit.int .u32 a).wf = true) : 0 ≤ a ∧ a < 4294967296 := by
  have e1 : IntKind.u32.min = 0 := by decide
  have e2 : IntKind.u32.max = 4294967295 := by decide
  simp only [Lit.wf, e1, e2, Bool.and_eq_true, decide_eq_true_eq] at h
  omega
theorem wf_u8 {a : Int} (h : (Lit.int .u8 a).wf = true) : 0 ≤ a ∧ a < 256 := by
  have e1 : IntKind.u8.min = 0 := by decide
  have e2 : IntKind.u8.max = 255 := by decide
  simp only [Lit.wf, e1, e2, Bool.and_eq_true, decide_eq_true_eq] at h
  omega
/-- The numbers of a key have their widths. -/
structure Okk (x : Ky) : Prop where
  i : 0 ≤ x.i ∧ x.i < 4294967296
  v : 0 ≤ x.v ∧ x.v < 4294967296
theorem laidOut : laidOutB Try.prog = true := by kernel_rfl
theorem cellsH : Try.prog.cellsOf 31 = 8 := by kernel_rfl
theorem cellsA : Try.prog.cellsOf 34 = 9 := by kernel_rfl
theorem cellsK : Try.prog.cellsOf 40 = 3 := by kernel_rfl
theorem cells4 : Try.prog.cellsOf 4 = 1 := by kernel_rfl
theorem cells24 : Try.prog.cellsOf 32 = 1 := by kernel_rfl
theorem cells22 : Try.prog.cellsOf 29 = 1 := by kernel_rfl
theorem cells5 : Try.prog.cellsOf 5 = 1 := by kernel_rfl
theorem cells3 : Try.prog.cellsOf 3 = 1 := by kernel_rfl
/-- A list out of what is known of each place. -/
theorem list_of {α : Type} (d : α) (n : Nat) {p : Nat → α → Prop} (h : ∀ i, i < n → ∃ a, p i a) : ∃ l : List α, l.length = n ∧ ∀ i (hi : i < l.length), p i l[i] := by
  refine ⟨(List.range n).map fun i => if hi : i < n then Classical.choose (h i hi) else d, by simp, fun i hi => ?_⟩
  have hi' : i < n := by simpa using hi
  simp only [List.getElem_map, List.getElem_range, hi', dif_pos]
  exact Classical.choose_spec (h i hi')
section
variable {H : Type} {enc : TypeId × Value → H} {w : World} {base : Nat} {spare : Nat → Bool} {held : Bool}
/-- A slice of pieces, opened. -/
theorem slice_of {α : Type} (d : α) {f : α → List Value} {sz : Nat} (hf : ∀ x, (f x).length = sz) (hsz : 0 < sz) {st e : TypeId} (hu : Try.prog.underlying st = some (.slice e)) (hcel : Try.prog.cellsOf e = sz) {good : α → Prop}
    (hop : ∀ (fuel : Nat) (cs : List Value) (x : DataW H × List MemPlace), DataW.trod enc Try.prog w base spare held fuel e cs = some x → ∃ y, good y ∧ cs = f y)
    {fuel : Nat} {cs : List Value} {x : DataW H × List MemPlace} (h : DataW.trod enc Try.prog w base spare held fuel st cs = some x) :
    ∃ (A : Option Addr) (c : Nat) (l : List α), cs = [.slice A l.length c] ∧ l.length ≤ c ∧ (∀ y ∈ l, good y) ∧ Rd (fun _ => True) w A (l.flatMap f) := by
  rcases open_slice hu h with ⟨rfl, _⟩ | ⟨a, len, cap, m, n, D, Pl, rfl, _, hl, hcm, hm, _, hx⟩
  · exact ⟨none, 0, [], rfl, Nat.le_refl _, by simp, Rd.nil _⟩
  · have hml : len ≤ m := by rw [hm]; split <;> omega
    obtain ⟨l, hln, hp⟩ := list_of d len (p := fun i y => good y ∧ ∀ j u, (f y)[j]? = some u → w.cell? (a.add (i * sz + j)) = some u) (fun i hi => by
      obtain ⟨cs', h1, h2⟩ := hx i (by omega)
      obtain ⟨y, hy, rfl⟩ := hop _ _ _ h2
      rw [hcel] at h1
      obtain ⟨_, _, h3⟩ := World.cells?_some h1
      refine ⟨y, hy, fun j u hu => ?_⟩
      have hj : j < sz := by
        have := (List.getElem?_eq_some_iff.1 hu).1
        rwa [hf] at this
      have := h3 j hj
      rw [add_add, hu] at this
      exact this)
    refine ⟨some a, cap, l, by rw [hln], by omega, fun y hy => ?_, ?_⟩
    · obtain ⟨i, hi, rfl⟩ := List.getElem_of_mem hy
      exact (hp i hi).1
    · intro hne
      have hpos : 0 < l.length := by
        rcases Nat.eq_zero_or_pos l.length with q | q
        · have : l = [] := List.eq_nil_of_length_eq_zero q
          subst this
          exact absurd rfl hne
        · exact q
      obtain ⟨b, off, spot⟩ := a
      have h0 : ∃ u, (f l[0])[0]? = some u := ⟨(f l[0])[0]'(by rw [hf]; exact hsz), by rw [List.getElem?_eq_getElem]⟩
      obtain ⟨u0, hu0⟩ := h0
      have hc := (hp 0 hpos).2 0 u0 hu0
      have hspot : spot = none := by simpa [Addr.add] using World.cell?_spot hc
      subst hspot
      have hlt : b < w.heap.size := by
        have hc0 : w.cell? ⟨b, off, none⟩ = some u0 := by simpa [Addr.add] using hc
        exact World.block_lt_of_cell? w ⟨b, off, none⟩ hc0
      refine ⟨b, off, rfl, trivial, hlt, fun j u hu => ?_⟩
      have hj : j < (l.flatMap f).length := (List.getElem?_eq_some_iff.1 hu).1
      rw [fm_len hf] at hj
      have hi : j / sz < l.length := (Nat.div_lt_iff_lt_mul hsz).2 hj
      have hr : j % sz < sz := Nat.mod_lt _ hsz
      have e : j = j / sz * sz + j % sz := by rw [Nat.mul_comm]; exact (Nat.div_add_mod j sz).symm
      have hg := fm_get hf hi hr
      rw [← e, hu] at hg
      have := (hp _ hi).2 _ _ hg.symm
      rw [← e, addr_add] at this
      exact this
theorem byte_of {fuel : Nat} {cs : List Value} {x : DataW H × List MemPlace} (h : DataW.trod enc Try.prog w base spare held fuel 5 cs = some x) : ∃ y : Int, (0 ≤ y ∧ y < 256) ∧ cs = [Value.int .u8 y] := by
  obtain ⟨t, e3, _, wt⟩ := DataW.trod_int Try.underlying5 h
  exact ⟨t, wf_u8 wt, e3⟩
theorem fm_bytes (l : List Int) : (l.flatMap fun x => [Value.int .u8 x]) = l.map (Value.int .u8) := by
  induction l with
  | nil => rfl
  | cons x l ih => rw [List.flatMap_cons, ih]; rfl
theorem bt_of_rd {A : Option Addr} {l : List Int} (h : Rd (fun _ => True) w A (l.flatMap fun x => [Value.int .u8 x])) : Bt w A l := fun hl => by
  rw [fm_bytes] at h
  obtain ⟨b, off, e, _, hlt, hc⟩ := h (by simpa using hl)
  refine ⟨b, off, e, hlt, fun i hi => hc i _ ?_⟩
  simp [List.getD, hi]
theorem bytes_of {fuel : Nat} {cs : List Value} {x : DataW H × List MemPlace} (h : DataW.trod enc Try.prog w base spare held fuel 32 cs = some x) : ∃ (A : Option Addr) (c : Nat) (l : List Int), cs = [.slice A l.length c] ∧ l.length ≤ c ∧ Byt l ∧ Bt w A l := by
  obtain ⟨A, c, l, h1, h2, h3, h4⟩ := slice_of (0 : Int) (f := fun x => [Value.int .u8 x]) (sz := 1) (fun _ => rfl) (by omega) Try.underlying32 cells5 (fun _ _ _ h => byte_of h) h
  exact ⟨A, c, l, h1, h2, h3, bt_of_rd h4⟩
set_option maxRecDepth 100000 in
theorem hd_of {fuel : Nat} {cs : List Value} {x : DataW H × List MemPlace} (h : DataW.trod enc Try.prog w base spare held fuel 31 cs = some x) : ∃ y : Hd, cs = hcs y ∧ Okd y := by
  obtain ⟨xs, n, _, _, hl, hxl, hf⟩ := DataW.trod_struct Try.underlying31 h
  have h0 := hf 0 _ rfl
  have h1 := hf 1 _ rfl
  have h2 := hf 2 _ rfl
  have h3 := hf 3 _ rfl
  have h4 := hf 4 _ rfl
  have h5 := hf 5 _ rfl
  have h6 := hf 6 _ rfl
  have h7 := hf 7 _ rfl
  rw [cellsH] at hl
  match cs, hl with
  | [c0, c1, c2, c3, c4, c5, c6, c7], _ =>
    match xs, hxl with
    | [y0, y1, y2, y3, y4, y5, y6, y7], _ =>
      simp only [List.getElem?_cons_zero, List.getElem?_cons_succ] at h0 h1 h2 h3 h4 h5 h6 h7
      obtain ⟨v0, e0, _, _⟩ := DataW.trod_int Try.underlying3 h0
      obtain ⟨v1, e1, _, _⟩ := DataW.trod_int Try.underlying3 h1
      obtain ⟨v2, e2, _, _⟩ := DataW.trod_int Try.underlying3 h2
      obtain ⟨v3, e3, _, q3⟩ := DataW.trod_int Try.underlying29 h3
      obtain ⟨v4, e4, _, q4⟩ := DataW.trod_int Try.underlying29 h4
      obtain ⟨v5, e5, _, q5⟩ := DataW.trod_int Try.underlying29 h5
      obtain ⟨v6, e6, _, _⟩ := DataW.trod_int Try.underlying3 h6
      obtain ⟨v7, e7, _, _⟩ := DataW.trod_int Try.underlying3 h7
      simp [cells22, cells3] at e0 e1 e2 e3 e4 e5 e6 e7
      subst e0 e1 e2 e3 e4 e5 e6 e7
      exact ⟨⟨v0, v1, v2, v3, v4, v5, v6, v7⟩, rfl, ⟨wf_u32 q3, wf_u32 q4, wf_u32 q5⟩⟩
set_option maxRecDepth 100000 in
theorem key_of {fuel : Nat} {cs : List Value} {x : DataW H × List MemPlace} (h : DataW.trod enc Try.prog w base spare held fuel 40 cs = some x) : ∃ y : Ky, cs = kcs y ∧ Okk y := by
  obtain ⟨xs, n, _, _, hl, hxl, hf⟩ := DataW.trod_struct Try.underlying40 h
  have h0 := hf 0 _ rfl
  have h1 := hf 1 _ rfl
  have h2 := hf 2 _ rfl
  rw [cellsK] at hl
  match cs, hl with
  | [c0, c1, c2], _ =>
    match xs, hxl with
    | [y0, y1, y2], _ =>
      simp only [List.getElem?_cons_zero, List.getElem?_cons_succ] at h0 h1 h2
      obtain ⟨v0, e0, _, _⟩ := DataW.trod_int Try.underlying3 h0
      obtain ⟨v1, e1, _, q1⟩ := DataW.trod_int Try.underlying29 h1
      obtain ⟨v2, e2, _, q2⟩ := DataW.trod_int Try.underlying29 h2
      simp [cells22, cells3] at e0 e1 e2
      subst e0 e1 e2
      exact ⟨⟨v0, v1, v2⟩, rfl, ⟨wf_u32 q1, wf_u32 q2⟩⟩
set_option maxRecDepth 100000 in
theorem ad_of {fuel : Nat} {cs : List Value} {x : DataW H × List MemPlace} (h : DataW.trod enc Try.prog w base spare held fuel 34 cs = some x) : ∃ y : Ae, (Okd y.h ∧ Byt y.l ∧ Bt w y.A y.l ∧ y.l.length ≤ y.c) ∧ cs = acs y := by
  obtain ⟨xs, n, _, _, hl, hxl, hf⟩ := DataW.trod_struct Try.underlying34 h
  have h0 := hf 0 _ rfl
  have h1 := hf 1 _ rfl
  rw [cellsA] at hl
  match cs, hl with
  | [c0, c1, c2, c3, c4, c5, c6, c7, c8], _ =>
    match xs, hxl with
    | [y0, y1], _ =>
      simp only [List.getElem?_cons_zero, List.getElem?_cons_succ] at h0 h1
      obtain ⟨a0, e0, ok0⟩ := hd_of h0
      obtain ⟨A1, d1, l1, e1, hc1, ok1, r1⟩ := bytes_of h1
      simp [cellsH, cells24, hcs] at e0 e1
      obtain ⟨q0, q1, q2, q3, q4, q5, q6, q7⟩ := e0
      subst e1 q0 q1 q2 q3 q4 q5 q6 q7
      exact ⟨⟨a0, A1, d1, l1⟩, ⟨ok0, ok1, r1, hc1⟩, rfl⟩
theorem ads_of {fuel : Nat} {cs : List Value} {x : DataW H × List MemPlace} (h : DataW.trod enc Try.prog w base spare held fuel 22 cs = some x) : ∃ (A : Option Addr) (c : Nat) (l : List Ae), cs = [.slice A l.length c] ∧ (∀ x ∈ l, Okd x.h ∧ Byt x.l ∧ x.l.length ≤ x.c) ∧ Arr w A l ∧ l.length ≤ c := by
  obtain ⟨A, c, l, h1, h2, h3, h4⟩ := slice_of (⟨⟨0, 0, 0, 0, 0, 0, 0, 0⟩, none, 0, []⟩ : Ae) (f := acs) (sz := 9) acs_len (by omega) Try.underlying22 cellsA (good := fun y => Okd y.h ∧ Byt y.l ∧ Bt w y.A y.l ∧ y.l.length ≤ y.c) (fun _ _ _ h => ad_of h) h
  exact ⟨A, c, l, h1, fun x hx => ⟨(h3 x hx).1, (h3 x hx).2.1, (h3 x hx).2.2.2⟩, ⟨h4, fun x hx => (h3 x hx).2.2.1⟩, h2⟩
end
end Go.Proofs.Ytadcicmccdphkaa
