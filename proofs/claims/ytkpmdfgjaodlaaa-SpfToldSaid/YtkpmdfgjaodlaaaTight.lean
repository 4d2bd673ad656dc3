/-
  Contracts of isTight, Tight and onward. No statement is proved here; no conditions.
-/
import Derived.Test.YtkpmdfgjaodlaaaLeaf
namespace Go.Proofs.Ytkpmdfgjaodlaaa
open Go.RowKit Go.Joins

/-- Number i of a row. -/
def gz (D : List Int) (i : Int) : Int := D.getD i.toNat 0
/-- Is an edge tight by these distances? -/
def tgt (D : List Int) (x : Ed) : Bool := decide (0 ≤ x.f ∧ x.f < D.length) && decide (0 ≤ x.t ∧ x.t < D.length) && decide (gz D x.f ≠ 1099511627776) && decide (gz D x.t = wrap64 (gz D x.f + x.c))
theorem Rd.int_at {S : Nat → Prop} {w : World} {A : Option Addr} {D : List Int} (h : Rd S w A (its D)) {i : Int} (h0 : 0 ≤ i) (hi : i < D.length) : ∃ b off, A = some ⟨b, off, none⟩ ∧ b < w.heap.size ∧ w.cell? ⟨b, off + i.toNat, none⟩ = some (.int .i64 (gz D i)) := by
  have hk : i.toNat < D.length := by omega
  obtain ⟨b, off, e, _, hl, hc⟩ := h (by intro e; have := congrArg List.length e; simp at this; subst this; simp at hk)
  exact ⟨b, off, e, hl, hc _ _ (by rw [List.getElem?_map, List.getElem?_eq_getElem hk, gz, List.getD, List.getElem?_eq_getElem hk]; rfl)⟩
theorem mix_set {α : Type} (a b : List α) (k : Nat) (h : a.length = b.length) (hk : k < a.length) : (a.take k ++ b.drop k).set k a[k] = a.take (k + 1) ++ b.drop (k + 1) := by
  apply List.ext_getElem
  · simp; omega
  · intro i h1 h2
    simp only [List.getElem_set, List.getElem_append, List.getElem_take, List.getElem_drop, List.length_take]
    split
    · next e => subst e; rw [dif_pos (by omega)]
    · next e =>
      by_cases hi : i < k
      · rw [dif_pos (by omega), dif_pos (by omega)]
      · rw [dif_neg (by omega), dif_neg (by omega)]
        congr 1
        omega
theorem box3_at {w : World} {x y z : Value} {t : TypeId} {B : Nat} (hB : w.heap.size < B) : ∀ W, Below B (w.alloc (.cells #[x, y, z] t)) W → W.cell? ⟨w.heap.size, 0, none⟩ = some x ∧ W.cell? ⟨w.heap.size, 1, none⟩ = some y ∧ W.cell? ⟨w.heap.size, 2, none⟩ = some z := fun W h => by
  have hb := (h.block _ hB).trans (Go.heap_alloc_new w _)
  exact ⟨(cell_of_row W _ 0 _ _ _ hb).trans rfl, (cell_of_row W _ 1 _ _ _ hb).trans rfl, (cell_of_row W _ 2 _ _ _ hb).trans rfl⟩

set_option maxRecDepth 100000 in
theorem istight_any (x : Ed) (A2 : Option Addr) (c2 : Nat) (D : List Int) (S : Nat → Prop) (w : World) (hD : Rd S w A2 (its D)) :
    Calls Try.prog 37 #[ev x, .slice A2 D.length c2] w fun e w' => e = .returned (.bool (tgt D x)) ∧ Below w.heap.size w w' := by
  have K := box3_at (w := w) (x := .int .i64 x.f) (y := .int .i64 x.t) (z := .int .i64 x.c) (t := 50) (B := w.heap.size + 1) (by omega)
  obtain ⟨c0, c1, c2'⟩ := K _ (Below.refl _ _)
  have B0 := below_alloc1 w (.cells #[.int .i64 x.f, .int .i64 x.t, .int .i64 x.c] 50)
  have am := fun y W => among_any y (D.length : Int) W
  by_cases q1 : 0 ≤ x.f ∧ x.f < D.length
  · have a1 : decide (0 ≤ x.f ∧ x.f < (D.length : Int)) = true := by simpa using q1
    by_cases q2 : 0 ≤ x.t ∧ x.t < D.length
    · have a2 : decide (0 ≤ x.t ∧ x.t < (D.length : Int)) = true := by simpa using q2
      have hD0 := hD.keep (w' := w.alloc (.cells #[.int .i64 x.f, .int .i64 x.t, .int .i64 x.c] 50)) (by simp) (fun j _ hl => Below.heap_alloc w _ j hl)
      obtain ⟨b, off, rfl, hl, e1⟩ := hD0.int_at q1.1 q1.2
      obtain ⟨b', off', eq, _, e2⟩ := hD0.int_at q2.1 q2.2
      simp only [Option.some.injEq, Addr.mk.injEq] at eq
      obtain ⟨rfl, rfl, _⟩ := eq
      obtain ⟨q11, q12⟩ := q1
      obtain ⟨q21, q22⟩ := q2
      obtain ⟨p, hp⟩ : ∃ p, gz D x.f = p := ⟨_, rfl⟩
      obtain ⟨r, hr⟩ : ∃ r, gz D x.t = r := ⟨_, rfl⟩
      rw [hp] at e1
      rw [hr] at e2
      clear hD0 hD K
      by_cases h3 : p = 1099511627776
      · have a3 : (p != 1099511627776) = false := by simpa using h3
        go_enter Try.func37, Try.ntmps37
        go_wp2_with (go_at_call 26; refine (am _ _).mono ?_; rintro e W ⟨rfl, rfl⟩)
        go_quiet (fail)
        go_wp2
        go_ret
        refine ⟨ret_bool ?_, ⟨B0.os, B0.tape, B0.output, B0.size, B0.block⟩⟩
        simp [tgt, hp, h3]
      · have a3 : (p != 1099511627776) = true := by simpa using h3
        have wr : IntKind.i64.wrap (p + x.c) = wrap64 (p + x.c) := by rw [IntKind.wrap_i64]; unfold wrap64; omega
        obtain ⟨s, hs⟩ : ∃ s, wrap64 (p + x.c) = s := ⟨_, rfl⟩
        rw [hs] at wr
        go_enter Try.func37, Try.ntmps37
        go_wp2_with (go_at_call 26; refine (am _ _).mono ?_; rintro e W ⟨rfl, rfl⟩)
        go_quiet (fail)
        go_wp2
        go_ret
        refine ⟨ret_bool ?_, ⟨B0.os, B0.tape, B0.output, B0.size, B0.block⟩⟩
        rw [tgt, hp, hr, hs, a1, a2, decide_eq_true (show p ≠ 1099511627776 from h3)]
        exact Bool.eq_iff_iff.2 (by simp)
    · have a2 : decide (0 ≤ x.t ∧ x.t < (D.length : Int)) = false := by simpa using q2
      go_enter Try.func37, Try.ntmps37
      go_wp2_with (go_at_call 26; refine (am _ _).mono ?_; rintro e W ⟨rfl, rfl⟩)
      go_ret
      exact ⟨ret_bool (by rw [tgt, a2]; simp), B0⟩
  · have a1 : decide (0 ≤ x.f ∧ x.f < (D.length : Int)) = false := by simpa using q1
    go_enter Try.func37, Try.ntmps37
    go_wp2_with (go_at_call 26; refine (am _ _).mono ?_; rintro e W ⟨rfl, rfl⟩)
    go_ret
    exact ⟨ret_bool (by rw [tgt, a1]; simp), B0⟩

/-- A new row of bools. -/
def Bools (w : World) (l : List Bool) (e : Ending) (w' : World) : Prop := ∃ g, e = .returned (.slice (some ⟨g, 0, none⟩) l.length l.length) ∧ Rg 4 1 w' g l.length (bls l) ∧ w.heap.size ≤ g ∧ Below w.heap.size w w'
theorem bls_set (l : List Bool) (i : Nat) (x : Bool) : (bls l).set i (.bool x) = bls (l.set i x) := by simp [bls, List.map_set]
theorem Rg.bool_cell {w : World} {g c : Nat} {l : List Bool} (h : Rg 4 1 w g c (bls l)) {u : Nat} (hu : u < l.length) : w.cell? ⟨g, u, none⟩ = some (.bool l[u]) :=
  h.cell (by rw [List.getElem?_map, List.getElem?_eq_getElem hu]; rfl)

set_option maxRecDepth 100000 in
theorem tight_any (N : Int) (A : Option Addr) (c : Nat) (E : List Ed) (B : Nat) (A2 : Option Addr) (c2 : Nat) (D : List Int) (w : World) (hE : Rd (· < B) w A (eflat E)) (hD : Rd (· < B) w A2 (its D)) (__hB : B ≤ w.heap.size) (hl : E.length ≤ 100000) :
    Calls Try.prog 20 #[gv N A E.length c, .slice A2 D.length c2] w fun e w' => Bools w (E.map (tgt D)) e w' := by
  have K := box2_at (w := w) (u := .int .i64 N) (v := .slice A E.length c) (t := 24) (B := w.heap.size + 1) (by omega)
  have B0 := below_alloc1 w (.cells #[.int .i64 N, .slice A E.length c] 24)
  obtain ⟨W0, hW0⟩ : ∃ W0, w.alloc (.cells #[.int .i64 N, .slice A E.length c] 24) = W0 := ⟨_, rfl⟩
  have hs0 : W0.heap.size = w.heap.size + 1 := by rw [← hW0]; simp
  rw [hW0] at K B0
  obtain ⟨c0, c1, _, _⟩ := K _ (Below.refl _ _)
  obtain ⟨i, hi, hz, hsz, hby⟩ := info4
  obtain ⟨W1, hmk, r1, r2, hs1⟩ := run_mkr W0 43 4 i _ 1 1 Try.underlying43 hi hz hsz hby E.length (by omega) (by omega)
  rw [Nat.mul_one, made_one _ rfl] at r1
  rw [hs0] at r1 hmk hs1
  obtain ⟨k0, k1, _, _⟩ := K _ (r2.mono (by omega))
  have R1 : Hid (Rg 4 1 W1 (w.heap.size + 1) E.length (bls ((E.map (tgt D)).take 0 ++ (List.replicate E.length false).drop 0))) := Lib.hid (by simpa [bls] using r1)
  have R2 := Lib.hid (r2.mono (by omega) : Below (w.heap.size + 1) W0 W1)
  have HB0 := Lib.hid B0
  have HE := Lib.hid hE
  have HD := Lib.hid hD
  clear hi hz hsz hby r1 r2 B0 hE hD
  go_enter Try.func20, Try.ntmps20
  go_wp2_with fail
  go_loopg [15] E.length (fun gf v wx => ∃ k, v = .int .i64 ((k : Nat) : Int) ∧ Hid (gf + k = E.length) ∧ Hid (Rg 4 1 wx (w.heap.size + 1) E.length (bls ((E.map (tgt D)).take k ++ (List.replicate E.length false).drop k))) ∧ Hid (Below (w.heap.size + 1) W0 wx))
  case atStart => exact ⟨0, rfl, Lib.hid (by omega), R1, R2⟩
  case round =>
    obtain ⟨k, rfl, hk, hr, hb⟩ := hrel
    have hk' := hk.out
    clear R1 R2 hmk c0 c1 k0 k1
    cases gk with
    | zero =>
      have e1 : k = E.length := by omega
      have lt0 : decide ((k : Int) < (E.length : Int)) = false := by simp; omega
      go_wp2
      go_ret
      refine ⟨w.heap.size + 1, by simp, ?_, by omega, HB0.out.trans (hb.out.mono (by omega))⟩
      have := hr.out
      rw [e1, List.take_of_length_le (by simp), List.drop_of_length_le (by simp), List.append_nil] at this
      simpa using this
    | succ gf =>
      have hkl : k < E.length := by omega
      have lt0 : (k : Int) < (E.length : Int) := by omega
      have hsz := hb.out.size
      have hEx : Rd (· < B) wr A (eflat E) := (HE.out.below HB0.out (fun j hj _ => by omega)).below hb.out (fun j hj _ => by omega)
      obtain ⟨b, off, hA, hbB, hbs, e0, e1, e2⟩ := hEx.edge hkl
      obtain ⟨x, hx⟩ : ∃ x, ge E k = x := ⟨_, rfl⟩
      rw [hx] at e0 e1 e2
      subst hA
      obtain ⟨W4, hW4⟩ : ∃ W4, wr.alloc (.cells #[.int .i64 x.f, .int .i64 x.t, .int .i64 x.c] 50) = W4 := ⟨_, rfl⟩
      have hs4 : W4.heap.size = wr.heap.size + 1 := by rw [← hW4]; simp
      have b4 : Below wr.heap.size wr W4 := by rw [← hW4]; exact below_alloc1 _ _
      have h4 : W4.heap[wr.heap.size]? = some (.cells #[.int .i64 x.f, .int .i64 x.t, .int .i64 x.c] 50 (0, 0)) := by rw [← hW4]; exact Go.heap_alloc_new _ _
      have f0 := (cell_of_row _ _ 0 _ _ _ h4)
      have f1 := (cell_of_row _ _ 1 _ _ _ h4)
      have f2 := (cell_of_row _ _ 2 _ _ _ h4)
      have b04 := hb.out.trans (b4.mono (by omega))
      have it := istight_any x A2 c2 D (· < B) W4 ((HD.out.below HB0.out (fun j hj _ => by omega)).below b04 (fun j hj _ => by omega))
      have R4 := hr.out.below' b4
      have HX := Lib.hid hx
      have HB4 := Lib.hid b04
      have HR4 := Lib.hid R4
      clear hEx hx b04 R4 b4 h4 hr
      go_wp2_with fail
      refine it.mono ?_
      rintro e W5 ⟨rfl, b5⟩
      have R5 := HR4.out.below' b5
      have fz := R5.frozen k
      have hkk : k < ((E.map (tgt D)).take k ++ (List.replicate E.length false).drop k).length := by simp; omega
      have cl := R5.bool_cell hkk
      have HR5 := Lib.hid (R5.set k (.bool (tgt D x)))
      have HB5 := Lib.hid ((HB4.out.trans (b5.mono (by omega))).setCell (show w.heap.size + 1 ≤ (⟨w.heap.size + 1, k, none⟩ : Addr).block by simp) (.bool (tgt D x)))
      clear it R5 b5 HR4 HB4 e0 e1 e2
      go_wp2
      go_roundg gf
      case measure => omega
      case rel =>
        refine ⟨k + 1, by go_num, Lib.hid (by omega), Lib.hid ?_, HB5⟩
        have := HR5.out
        rw [bls_set] at this
        have e9 : tgt D x = (E.map (tgt D))[k]'(by simpa using hkl) := by simp [← HX.out, ge_eq hkl]
        rw [e9] at this ⊢
        rw [mix_set _ _ _ (by simp) (by simpa using hkl)] at this
        exact this
end Go.Proofs.Ytkpmdfgjaodlaaa
