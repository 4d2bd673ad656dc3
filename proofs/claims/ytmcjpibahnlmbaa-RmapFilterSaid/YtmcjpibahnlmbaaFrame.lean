/-
  What the laws of this seat share: maps, routes and tags that came in, opened. No statement is proved here; no conditions.
-/
import Derived.Test.YtmcjpibahnlmbaaRows
import Derived.Test.YtmcjpibahnlmbaaSm
import Derived.ProofKit
import Derived.OpenShut
import Derived.ShutString
import Derived.ChangeOld
import Derived.Deep.Slices
import Derived.Carry
import Derived.KernelRfl
namespace Go.Proofs.Ytmcjpibahnlmbaa
open Go.ChangeShapes Go.WideShapes Go.ChangeAt Go.RowKit Go.Joins Go.Deep

theorem own : ownKnob Try.prog.godebug = none := by kernel_rfl
theorem wf_u32 {a : Int} (h : (Lit.int .u32 a).wf = true) : 0 ≤ a ∧ a < 4294967296 := by
  have e1 : IntKind.u32.min = 0 := by decide
  have e2 : IntKind.u32.max = 4294967295 := by decide
  simp only [Lit.wf, e1, e2, Bool.and_eq_true, decide_eq_true_eq] at h
  omega
theorem laidOut : laidOutB Try.prog = true := by kernel_rfl
theorem cells25 : Try.prog.cellsOf 25 = 2 := by kernel_rfl
theorem cells75 : Try.prog.cellsOf 75 = 6 := by kernel_rfl
theorem cells37 : Try.prog.cellsOf 37 = 12 := by kernel_rfl
theorem cells27 : Try.prog.cellsOf 27 = 5 := by kernel_rfl
theorem cells23 : Try.prog.cellsOf 23 = 1 := by kernel_rfl
theorem cells34 : Try.prog.cellsOf 34 = 1 := by kernel_rfl
theorem cells35 : Try.prog.cellsOf 35 = 1 := by kernel_rfl
theorem cells3 : Try.prog.cellsOf 3 = 1 := by kernel_rfl
theorem cells4 : Try.prog.cellsOf 4 = 1 := by kernel_rfl
/-- A list out of what is known of each place. -/
theorem list_of {α : Type} (d : α) (n : Nat) {p : Nat → α → Prop} (h : ∀ i, i < n → ∃ a, p i a) : ∃ l : List α, l.length = n ∧ ∀ i (hi : i < l.length), p i l[i] := by
  refine ⟨(List.range n).map fun i => if hi : i < n then Classical.choose (h i hi) else d, by simp, fun i hi => ?_⟩
  have hi' : i < n := by simpa using hi
  simp only [List.getElem_map, List.getElem_range, hi', dif_pos]
  exact Classical.choose_spec (h i hi')
theorem rflat_fm (l : List Ru) : rflat l = l.flatMap rc := by
  induction l with
  | nil => rfl
  | cons x l ih => rw [List.flatMap_cons, ← ih]; rfl
theorem nts_fm (l : List Nat) : nts l = l.flatMap fun (n : Nat) => [Value.int .u32 (n : Int)] := by
  induction l with
  | nil => rfl
  | cons x l ih => rw [List.flatMap_cons, ← ih]; rfl
section
variable {H : Type} {enc : TypeId × Value → H} {w : World} {base : Nat} {spare : Nat → Bool} {held : Bool}
/-- A slice of pieces, opened. -/
theorem slice_of {α : Type} (d : α) {f : α → List Value} {sz : Nat} (hf : ∀ x, (f x).length = sz) (hsz : 0 < sz) {st e : TypeId} (hu : Try.prog.underlying st = some (.slice e)) (hcel : Try.prog.cellsOf e = sz) {good : α → Prop}
    (hop : ∀ (fuel : Nat) (cs : List Value) (x : DataW H × List MemPlace), DataW.trod enc Try.prog w base spare held fuel e cs = some x → ∃ y, good y ∧ cs = f y)
    {fuel : Nat} {cs : List Value} {x : DataW H × List MemPlace} (h : DataW.trod enc Try.prog w base spare held fuel st cs = some x) :
    ∃ (A : Option Addr) (c : Nat) (l : List α), cs = [.slice A l.length c] ∧ (∀ y ∈ l, good y) ∧ Rd (fun _ => True) w A (l.flatMap f) := by
  rcases open_slice hu h with ⟨rfl, _⟩ | ⟨a, len, cap, m, n, D, Pl, rfl, _, hl, hcm, hm, _, hx⟩
  · exact ⟨none, 0, [], rfl, by simp, Rd.nil _⟩
  · have hml : len ≤ m := by rw [hm]; split <;> omega
    obtain ⟨l, hln, hp⟩ := list_of d len (p := fun i y => good y ∧ ∀ j u, (f y)[j]? = some u → w.cell? (a.add (i * sz + j)) = some u) (fun i hi => by
      obtain ⟨cs', h1, h2⟩ := hx i (by omega)
      obtain ⟨y, hy, rfl⟩ := hop _ _ _ h2
      rw [hcel] at h1
      obtain ⟨_, _, h3⟩ := World.cells?_some h1
      refine ⟨y, hy, fun j u hu => ?_⟩
      have hj : j < sz := by
        have := (List.getElem?_eq_some_iff.1 hu).1
        rwa [hf] at this
      have := h3 j hj
      rw [add_add, hu] at this
      exact this)
    refine ⟨some a, cap, l, by rw [hln], fun y hy => ?_, ?_⟩
    · obtain ⟨i, hi, rfl⟩ := List.getElem_of_mem hy
      exact (hp i hi).1
    · intro hne
      have hpos : 0 < l.length := by
        rcases Nat.eq_zero_or_pos l.length with q | q
        · have : l = [] := List.eq_nil_of_length_eq_zero q
          subst this
          exact absurd rfl hne
        · exact q
      obtain ⟨b, off, spot⟩ := a
      have h0 : ∃ u, (f l[0])[0]? = some u := ⟨(f l[0])[0]'(by rw [hf]; exact hsz), by rw [List.getElem?_eq_getElem]⟩
      obtain ⟨u0, hu0⟩ := h0
      have hc := (hp 0 hpos).2 0 u0 hu0
      have hspot : spot = none := by simpa [Addr.add] using World.cell?_spot hc
      subst hspot
      have hlt : b < w.heap.size := by
        have hc0 : w.cell? ⟨b, off, none⟩ = some u0 := by simpa [Addr.add] using hc
        exact World.block_lt_of_cell? w ⟨b, off, none⟩ hc0
      refine ⟨b, off, rfl, trivial, hlt, fun j u hu => ?_⟩
      have hj : j < (l.flatMap f).length := (List.getElem?_eq_some_iff.1 hu).1
      rw [fm_len hf] at hj
      have hi : j / sz < l.length := (Nat.div_lt_iff_lt_mul hsz).2 hj
      have hr : j % sz < sz := Nat.mod_lt _ hsz
      have e : j = j / sz * sz + j % sz := by rw [Nat.mul_comm]; exact (Nat.div_add_mod j sz).symm
      have hg := fm_get hf hi hr
      rw [← e, hu] at hg
      have := (hp _ hi).2 _ _ hg.symm
      rw [← e, addr_add] at this
      exact this
set_option maxRecDepth 100000 in
theorem pref_of {fuel : Nat} {cs : List Value} {x : DataW H × List MemPlace} (h : DataW.trod enc Try.prog w base spare held fuel 25 cs = some x) : ∃ (A : Nat) (N : Int), A < 4294967296 ∧ cs = [.int .u32 (A : Int), .int .i64 N] := by
  obtain ⟨xs, n, _, _, hl, hxl, hf⟩ := DataW.trod_struct Try.underlying25 h
  have h0 := hf 0 _ rfl
  have h1 := hf 1 _ rfl
  rw [cells25] at hl
  match cs, hl with
  | [u, v], _ =>
    match xs, hxl with
    | [y0, y1], _ =>
      simp only [List.getElem?_cons_zero, List.getElem?_cons_succ] at h0 h1
      obtain ⟨a, e0, _, wa⟩ := DataW.trod_int Try.underlying23 h0
      obtain ⟨b, e1, _, wb⟩ := DataW.trod_int Try.underlying3 h1
      simp [cells23, cells3] at e0 e1
      subst e0 e1
      have ha := wf_u32 wa
      exact ⟨a.toNat, b, by omega, by rw [show ((a.toNat : Nat) : Int) = a by omega]⟩
set_option maxRecDepth 100000 in
theorem rule_of {fuel : Nat} {cs : List Value} {x : DataW H × List MemPlace} (h : DataW.trod enc Try.prog w base spare held fuel 75 cs = some x) : ∃ y : Ru, y.A < 4294967296 ∧ cs = rc y := by
  obtain ⟨xs, n, _, _, hl, hxl, hf⟩ := DataW.trod_struct Try.underlying75 h
  have h0 := hf 0 _ rfl
  have h1 := hf 1 _ rfl
  have h2 := hf 2 _ rfl
  have h3 := hf 3 _ rfl
  have h4 := hf 4 _ rfl
  rw [cells75] at hl
  match cs, hl with
  | [c0, c1, c2, c3, c4, c5], _ =>
    match xs, hxl with
    | [y0, y1, y2, y3, y4], _ =>
      simp only [List.getElem?_cons_zero, List.getElem?_cons_succ] at h0 h1 h2 h3 h4
      obtain ⟨s, e0, _, _⟩ := DataW.trod_int Try.underlying3 h0
      obtain ⟨p, e1, _⟩ := DataW.trod_bool Try.underlying4 h1
      obtain ⟨A, N, hA, e2⟩ := pref_of h2
      obtain ⟨g, e3, _, _⟩ := DataW.trod_int Try.underlying3 h3
      obtain ⟨l, e4, _, _⟩ := DataW.trod_int Try.underlying3 h4
      simp [cells4, cells25, cells3] at e0 e1 e2 e3 e4
      obtain ⟨e2, e5⟩ := e2
      subst e0 e1 e2 e3 e4 e5
      exact ⟨⟨s, p, A, N, g, l⟩, hA, rfl⟩
set_option maxRecDepth 100000 in
theorem route_of {fuel : Nat} {cs : List Value} {x : DataW H × List MemPlace} (h : DataW.trod enc Try.prog w base spare held fuel 27 cs = some x) : ∃ y : Rt, y.A < 4294967296 ∧ cs = tc y := by
  obtain ⟨xs, n, _, _, hl, hxl, hf⟩ := DataW.trod_struct Try.underlying27 h
  have h0 := hf 0 _ rfl
  have h1 := hf 1 _ rfl
  have h2 := hf 2 _ rfl
  have h3 := hf 3 _ rfl
  rw [cells27] at hl
  match cs, hl with
  | [c0, c1, c2, c3, c4], _ =>
    match xs, hxl with
    | [y0, y1, y2, y3], _ =>
      simp only [List.getElem?_cons_zero, List.getElem?_cons_succ] at h0 h1 h2 h3
      obtain ⟨A, N, hA, e0⟩ := pref_of h0
      obtain ⟨k, e1, _, _⟩ := DataW.trod_int Try.underlying3 h1
      obtain ⟨c, e2, _, _⟩ := DataW.trod_int Try.underlying3 h2
      obtain ⟨t, e3, _, wt⟩ := DataW.trod_int Try.underlying23 h3
      simp [cells23, cells25, cells3] at e0 e1 e2 e3
      obtain ⟨e0, e4⟩ := e0
      subst e0 e1 e2 e3 e4
      have ht := wf_u32 wt
      exact ⟨⟨A, N, k, c, t.toNat⟩, hA, by simp only [tc]; rw [show ((t.toNat : Nat) : Int) = t by omega]⟩
theorem tag_of {fuel : Nat} {cs : List Value} {x : DataW H × List MemPlace} (h : DataW.trod enc Try.prog w base spare held fuel 23 cs = some x) : ∃ y : Nat, True ∧ cs = [Value.int .u32 (y : Int)] := by
  obtain ⟨t, e3, _, wt⟩ := DataW.trod_int Try.underlying23 h
  have ht := wf_u32 wt
  exact ⟨t.toNat, trivial, e3.trans (by rw [show ((t.toNat : Nat) : Int) = t by omega])⟩
/-- What a clause that came in is. -/
def Gd (w : World) (x : Cl) : Prop := Rr w x.LA x.c.L ∧ Tr w x.TA x.c.T ∧ ∀ r ∈ x.c.L, r.A < 4294967296
set_option maxRecDepth 100000 in
theorem clause_of {fuel : Nat} {cs : List Value} {x : DataW H × List MemPlace} (h : DataW.trod enc Try.prog w base spare held fuel 37 cs = some x) : ∃ y : Cl, Gd w y ∧ cs = cc y := by
  obtain ⟨xs, n, _, _, hl, hxl, hf⟩ := DataW.trod_struct Try.underlying37 h
  have h0 := hf 0 _ rfl
  have h1 := hf 1 _ rfl
  have h2 := hf 2 _ rfl
  have h3 := hf 3 _ rfl
  have h4 := hf 4 _ rfl
  have h5 := hf 5 _ rfl
  have h6 := hf 6 _ rfl
  have h7 := hf 7 _ rfl
  have h8 := hf 8 _ rfl
  have h9 := hf 9 _ rfl
  have h10 := hf 10 _ rfl
  have h11 := hf 11 _ rfl
  rw [cells37] at hl
  match cs, hl with
  | [c0, c1, c2, c3, c4, c5, c6, c7, c8, c9, c10, c11], _ =>
    match xs, hxl with
    | [y0, y1, y2, y3, y4, y5, y6, y7, y8, y9, y10, y11], _ =>
      simp only [List.getElem?_cons_zero, List.getElem?_cons_succ] at h0 h1 h2 h3 h4 h5 h6 h7 h8 h9 h10 h11
      obtain ⟨s, e0, _, _⟩ := DataW.trod_int Try.underlying3 h0
      obtain ⟨p, e1, _⟩ := DataW.trod_bool Try.underlying4 h1
      obtain ⟨LA, Lc, L, e2, hL, rL⟩ := slice_of (⟨0, false, 0, 0, 0, 0⟩ : Ru) (f := rc) (sz := 6) (fun _ => rfl) (by omega) Try.underlying34 cells75 (fun _ _ _ h => rule_of h) h2
      obtain ⟨k, e3, _, _⟩ := DataW.trod_int Try.underlying3 h3
      obtain ⟨lo, e4, _, _⟩ := DataW.trod_int Try.underlying3 h4
      obtain ⟨hi, e5, _, _⟩ := DataW.trod_int Try.underlying3 h5
      obtain ⟨TA, Tc, T, e6, _, rT⟩ := slice_of (0 : Nat) (f := fun (n : Nat) => [Value.int .u32 (n : Int)]) (sz := 1) (fun _ => rfl) (by omega) Try.underlying35 cells23 (fun _ _ _ h => tag_of h) h6
      obtain ⟨sc, e7, _, _⟩ := DataW.trod_int Try.underlying3 h7
      obtain ⟨sp, e8, _, _⟩ := DataW.trod_int Try.underlying3 h8
      obtain ⟨sk, e9, _, _⟩ := DataW.trod_int Try.underlying3 h9
      obtain ⟨st, e10, _⟩ := DataW.trod_bool Try.underlying4 h10
      obtain ⟨tg, e11, _, wt⟩ := DataW.trod_int Try.underlying23 h11
      simp [cells4, cells34, cells35, cells23, cells3] at e0 e1 e2 e3 e4 e5 e6 e7 e8 e9 e10 e11
      subst e0 e1 e2 e3 e4 e5 e6 e7 e8 e9 e10 e11
      have ht := wf_u32 wt
      refine ⟨⟨⟨s, p, L, k, lo, hi, T, sc, sp, sk, st, tg.toNat⟩, LA, Lc, TA, Tc⟩, ⟨?_, ?_, hL⟩, ?_⟩
      · show Rd _ _ _ (rflat L)
        rw [rflat_fm]; exact rL
      · show Rd _ _ _ (nts T)
        rw [nts_fm]; exact rT
      · simp only [cc]
        rw [show ((tg.toNat : Nat) : Int) = tg by omega]
theorem map_of {fuel : Nat} {cs : List Value} {x : DataW H × List MemPlace} (h : DataW.trod enc Try.prog w base spare held fuel 22 cs = some x) : ∃ (A : Option Addr) (c : Nat) (l : List Cl), cs = [.slice A l.length c] ∧ Cq w A l := by
  obtain ⟨A, c, l, h1, h2, h3⟩ := slice_of (⟨⟨0, false, [], 0, 0, 0, [], 0, 0, 0, false, 0⟩, none, 0, none, 0⟩ : Cl) (f := cc) (sz := 12) cc_len (by omega) Try.underlying22 cells37 (fun _ _ _ h => clause_of h) h
  exact ⟨A, c, l, h1, h3, fun x hx => h2 x hx⟩
theorem routes_of {fuel : Nat} {cs : List Value} {x : DataW H × List MemPlace} (h : DataW.trod enc Try.prog w base spare held fuel 60 cs = some x) : ∃ (A : Option Addr) (c : Nat) (l : List Rt), cs = [.slice A l.length c] ∧ (∀ t ∈ l, t.A < 4294967296) ∧ Tt w A l := by
  obtain ⟨A, c, l, h1, h2, h3⟩ := slice_of zr (f := tc) (sz := 5) tc_len (by omega) Try.underlying60 cells27 (fun _ _ _ h => route_of h) h
  exact ⟨A, c, l, h1, h2, h3⟩
end
end Go.Proofs.Ytmcjpibahnlmbaa
