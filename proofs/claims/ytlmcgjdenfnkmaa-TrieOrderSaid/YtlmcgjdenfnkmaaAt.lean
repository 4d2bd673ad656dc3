/-
  Contracts of the trie's at, Get, Len, New. No statement is proved here; no conditions.
-/
import Derived.Test.YtlmcgjdenfnkmaaPath
namespace Go.Proofs.Ytlmcgjdenfnkmaa
open Go.RowKit Go.Joins

theorem at_nil (A : Nat) (N : Int) (w : World) (hA : A < 4294967296) : Calls Try.prog 35 #[.pointer none, pf A N] w fun e w' => e = .returned (.pointer none) ∧ Below w.heap.size w w' := by
  have cm := fun W => may_any A N W hA
  have cp := fun W => path_nil A N W
  have K := box_at (w := w) (u := .int .u32 (A : Int)) (v := .int .i64 N) (t := 25) (B := w.heap.size + 1) (by omega)
  have B0 := below_alloc1 w (.cells #[.int .u32 (A : Int), .int .i64 N] 25)
  obtain ⟨W0, hW0⟩ : ∃ W0, w.alloc (.cells #[.int .u32 (A : Int), .int .i64 N] 25) = W0 := ⟨_, rfl⟩
  have hs0 : W0.heap.size = w.heap.size + 1 := by rw [← hW0]; simp
  rw [hW0] at K B0
  obtain ⟨c0, c1, _, _⟩ := K _ (Below.refl _ _)
  go_enter Try.func35, Try.ntmps35
  go_wp2_with fail
  refine (cp _).mono ?_
  rintro e W1 ⟨rfl, hb1⟩
  have b1 : Below (w.heap.size + 1) W0 W1 := hb1.mono (by omega)
  clear c0 c1 hb1
  obtain ⟨c0, c1, _, _⟩ := K _ b1
  cases hp : okp A N with
  | false =>
    rw [hp] at cm
    go_wp2_with fail
    refine (cm _).mono ?_
    rintro e W2 ⟨rfl, hb2⟩
    go_wp2
    go_ret
    exact ⟨rfl, B0.trans ((b1.trans (hb2.mono (by have := b1.size; omega))).mono (by omega))⟩
  | true =>
    rw [hp] at cm
    have hN : 0 ≤ N := ((okp_iff _ _).1 hp).1
    go_wp2_with fail
    refine (cm _).mono ?_
    rintro e W2 ⟨rfl, hb2⟩
    have b2 := b1.trans (hb2.mono (by have := b1.size; omega))
    clear c0 c1
    obtain ⟨c0, c1, _, _⟩ := K _ b2
    go_wp2
    go_ret
    exact ⟨rfl, B0.trans (b2.mono (by omega))⟩
theorem at_bad (tb A : Nat) (N : Int) (w : World) (hA : A < 4294967296) (hp : okp A N = false) : Calls Try.prog 35 #[.pointer (some ⟨tb, 0, none⟩), pf A N] w fun e w' => e = .returned (.pointer none) ∧ Below w.heap.size w w' := by
  have cm := fun W => may_any A N W hA
  have cp := fun W => path_bad tb A N W hA hp
  rw [hp] at cm
  have K := box_at (w := w) (u := .int .u32 (A : Int)) (v := .int .i64 N) (t := 25) (B := w.heap.size + 1) (by omega)
  have B0 := below_alloc1 w (.cells #[.int .u32 (A : Int), .int .i64 N] 25)
  obtain ⟨W0, hW0⟩ : ∃ W0, w.alloc (.cells #[.int .u32 (A : Int), .int .i64 N] 25) = W0 := ⟨_, rfl⟩
  have hs0 : W0.heap.size = w.heap.size + 1 := by rw [← hW0]; simp
  rw [hW0] at K B0
  obtain ⟨c0, c1, _, _⟩ := K _ (Below.refl _ _)
  go_enter Try.func35, Try.ntmps35
  go_wp2_with fail
  refine (cp _).mono ?_
  rintro e W1 ⟨rfl, hb1⟩
  have b1 : Below (w.heap.size + 1) W0 W1 := hb1.mono (by omega)
  clear c0 c1 hb1
  obtain ⟨c0, c1, _, _⟩ := K _ b1
  go_wp2_with fail
  refine (cm _).mono ?_
  rintro e W2 ⟨rfl, hb2⟩
  go_wp2
  go_ret
  exact ⟨rfl, B0.trans ((b1.trans (hb2.mono (by have := b1.size; omega))).mono (by omega))⟩
set_option maxRecDepth 100000 in
theorem at_any (tb : Nat) (nd en : Nat → Option Nat) (m : List En) (c : Int) (A n : Nat) (w : World) (h : Tn w tb nd en m c) (hA : A < 4294967296) (hn : n ≤ 32) (hp : okp A (n : Int) = true) :
    Calls Try.prog 35 #[.pointer (some ⟨tb, 0, none⟩), pf A (n : Int)] w fun e w' => e = .returned (po (nd (ky A n))) ∧ Below w.heap.size w w' := by
  have cm := fun W => may_any A (n : Int) W hA
  rw [hp] at cm
  have K := box_at (w := w) (u := .int .u32 (A : Int)) (v := .int .i64 (n : Int)) (t := 25) (B := w.heap.size + 1) (by omega)
  have B0 := below_alloc1 w (.cells #[.int .u32 (A : Int), .int .i64 (n : Int)] 25)
  obtain ⟨W0, hW0⟩ : ∃ W0, w.alloc (.cells #[.int .u32 (A : Int), .int .i64 (n : Int)] 25) = W0 := ⟨_, rfl⟩
  have hs0 : W0.heap.size = w.heap.size + 1 := by rw [← hW0]; simp
  rw [hW0] at K B0
  obtain ⟨c0, c1, _, _⟩ := K _ (Below.refl _ _)
  have cp := path_any tb nd en m c A n W0 (h.below B0) hA hn hp
  go_enter Try.func35, Try.ntmps35
  go_wp2_with fail
  refine cp.mono ?_
  rintro e W1 ⟨g, c1', G, rfl, hr, hg, hb1, hP⟩
  have b1 : Below (w.heap.size + 1) W0 W1 := hb1.mono (by omega)
  have hlt := hr.lt
  clear c0 c1 hb1 cp
  obtain ⟨c0, c1, _, _⟩ := K _ b1
  have hs1 := b1.size
  obtain ⟨ln, hln⟩ : ∃ ln, G.length = ln := ⟨_, rfl⟩
  rw [hln]
  have HL := Lib.hid hln
  clear hln
  by_cases e2 : ln = n + 1
  · have hl := HL.out
    obtain ⟨x, hx⟩ : ∃ x, G[n]? = some x := ⟨G[n]'(by omega), List.getElem?_eq_getElem (by omega)⟩
    have hres := hP.2.2.1 n (by omega)
    rw [hx] at hres
    have HX := Lib.hid hx
    have HRES := Lib.hid hres
    have l1 : decide ((ln : Int) ≤ (n : Int)) = false := by simp; omega
    have l2 : decide (ln ≤ n) = false := by simp; omega
    have l3 : (n : Int) < (ln : Int) := by omega
    have HR := Lib.hid hr
    clear hl hx hres e2 hP hr
    go_wp2_with fail
    refine (cm _).mono ?_
    rintro e W2 ⟨rfl, hb2⟩
    have b2 := b1.trans (hb2.mono (by omega))
    have cx : W2.cell? ⟨g, n, none⟩ = some (.pointer (some ⟨x, 0, none⟩)) := (HR.out.below' hb2).cell (by rw [List.getElem?_map, HX.out]; rfl)
    clear c0 c1
    obtain ⟨c0, c1, _, _⟩ := K _ b2
    go_wp2
    go_ret
    exact ⟨by rw [HRES.out]; rfl, B0.trans (b2.mono (by omega))⟩
  · have hres : nd (ky A n) = none := by
      have hl := HL.out
      rcases hP.2.2.2 with e1 | e1
      · omega
      · exact h.dead e1 n (by have := hP.2.1; omega) hn
    have HRES := Lib.hid hres
    have l0 : ln ≤ n := by have := HL.out; have := hP.2.1; omega
    have l1 : decide ((ln : Int) ≤ (n : Int)) = true := by simp; omega
    have l2 : decide (ln ≤ n) = true := by simp; omega
    clear l0 hres e2 hP hr
    go_wp2_with fail
    refine (cm _).mono ?_
    rintro e W2 ⟨rfl, hb2⟩
    have b2 := b1.trans (hb2.mono (by omega))
    clear c0 c1
    obtain ⟨c0, c1, _, _⟩ := K _ b2
    go_wp2
    go_ret
    exact ⟨by rw [HRES.out]; rfl, B0.trans (b2.mono (by omega))⟩
/-- What Get tells. -/
def gtv (o : Option En) : Value := match o with
  | none => .tuple #[.int .i64 0, .bool false]
  | some x => .tuple #[.int .i64 x.V, .bool true]
theorem get_nil (A : Nat) (N : Int) (w : World) (hA : A < 4294967296) : Calls Try.prog 25 #[.pointer none, pf A N] w fun e w' => e = .returned (gtv none) ∧ Below w.heap.size w w' := by
  have ca := fun W => at_nil A N W hA
  go_enter Try.func25, Try.ntmps25
  go_wp2_with fail
  refine (ca _).mono ?_
  rintro e W1 ⟨rfl, hb1⟩
  go_wp2
  go_ret2
  exact ⟨rfl, (below_alloc1 _ _).trans (hb1.mono (by simp))⟩
set_option maxRecDepth 100000 in
theorem get_any (tb : Nat) (nd en : Nat → Option Nat) (m : List En) (c : Int) (A : Nat) (N : Int) (w : World) (h : Tn w tb nd en m c) (hA : A < 4294967296) :
    Calls Try.prog 25 #[.pointer (some ⟨tb, 0, none⟩), pf A N] w fun e w' => e = .returned (gtv (getm m A N)) ∧ Below w.heap.size w w' := by
  cases hp : okp A N with
  | false =>
    have ca := fun W => at_bad tb A N W hA hp
    rw [getm_bad h.om hp]
    go_enter Try.func25, Try.ntmps25
    go_wp2_with fail
    refine (ca _).mono ?_
    rintro e W1 ⟨rfl, hb1⟩
    go_wp2
    go_ret2
    exact ⟨rfl, (below_alloc1 _ _).trans (hb1.mono (by simp))⟩
  | true =>
    obtain ⟨h0, h1, _⟩ := (okp_iff _ _).1 hp
    obtain ⟨n, rfl⟩ : ∃ n : Nat, N = n := ⟨N.toNat, by omega⟩
    have hn : n ≤ 32 := by omega
    rw [getm_atk h.om hA hp, cl_nat n hn]
    have B0 := below_alloc1 w (.cells #[.int .u32 (A : Int), .int .i64 (n : Int)] 25)
    have ca := at_any tb nd en m c A n _ (h.below B0) hA hn hp
    cases hk : nd (ky A n) with
    | none =>
      rw [hk] at ca
      simp only [po, Option.map_none] at ca
      rw [h.noentry (h.nonode hk)]
      go_enter Try.func25, Try.ntmps25
      go_wp2_with fail
      refine ca.mono ?_
      rintro e W1 ⟨rfl, hb1⟩
      go_wp2
      go_ret2
      exact ⟨rfl, B0.trans (hb1.mono (by simp))⟩
    | some g =>
      rw [hk] at ca
      simp only [po, Option.map_some] at ca
      cases he : en (ky A n) with
      | none =>
        rw [h.noentry he]
        go_enter Try.func25, Try.ntmps25
        go_wp2_with fail
        refine ca.mono ?_
        rintro e W1 ⟨rfl, hb1⟩
        have b1 := B0.trans (hb1.mono (by simp))
        obtain ⟨_, _, c2, _⟩ := (h.below b1).cells hk
        rw [he] at c2
        have c2' : W1.cell? ⟨g, 2, none⟩ = some (.pointer none) := c2
        go_wp2
        go_ret2
        exact ⟨rfl, b1⟩
      | some f =>
        go_enter Try.func25, Try.ntmps25
        go_wp2_with fail
        refine ca.mono ?_
        rintro e W1 ⟨rfl, hb1⟩
        have b1 := B0.trans (hb1.mono (by simp))
        have h2 := h.below b1
        obtain ⟨_, _, c2, _⟩ := h2.cells hk
        rw [he] at c2
        have c2' : W1.cell? ⟨g, 2, none⟩ = some (.pointer (some ⟨f, 0, none⟩)) := c2
        obtain ⟨x, _, _, hx, hbk⟩ := h2.entry he
        obtain ⟨_, _, cv⟩ := ebo_cell hbk
        clear c2 h2 hbk
        go_wp2
        go_ret2
        exact ⟨by rw [hx]; rfl, b1⟩
theorem len_nil (w : World) : Calls Try.prog 16 #[.pointer none] w fun e w' => e = .returned (.int .i64 0) ∧ w' = w := by
  go_enter Try.func16, Try.ntmps16
  go_wp2
  go_ret
  exact ⟨rfl, rfl⟩
theorem len_any (tb : Nat) (nd en : Nat → Option Nat) (m : List En) (c : Int) (w : World) (h : Tn w tb nd en m c) : Calls Try.prog 16 #[.pointer (some ⟨tb, 0, none⟩)] w fun e w' => e = .returned (.int .i64 c) ∧ w' = w := by
  have c3 := h.cnt.1
  go_enter Try.func16, Try.ntmps16
  go_wp2
  go_ret
  exact ⟨rfl, rfl⟩
theorem new_any (w : World) : Calls Try.prog 9 #[] w fun e w' => e = .returned (.pointer (some ⟨w.heap.size, 0, none⟩)) ∧ Below w.heap.size w w' ∧ w'.heap.size = w.heap.size + 1 ∧ Tz (· = w.heap.size) w' w.heap.size [] := by
  go_enter Try.func9, Try.ntmps9
  go_wp2
  go_ret
  refine ⟨rfl, below_alloc1 _ _, by simp, fun k => if k = 1 then some w.heap.size else none, fun _ => none, ⟨Om.nil, rfl, ?_, ?_, ?_, ?_, ?_, ?_⟩, ?_⟩
  · intro k g hg
    by_cases e : k = 1
    · subst e
      simp at hg
      subst hg
      exact heap_alloc_new w _
    · simp [e] at hg
  · intro k g hg
    by_cases e : k = 1
    · subst e; omega
    · simp [e] at hg
  · intro k b hb hk _
    simp
    omega
  · intro k k' g h1 h2
    by_cases e : k = 1
    · by_cases e' : k' = 1
      · omega
      · simp [e'] at h2
    · simp [e] at h1
  · intro k e he
    cases he
  · intro x hx
    cases hx
  · rintro j (⟨k, hk⟩ | ⟨k, hk⟩)
    · by_cases e : k = 1
      · simp [e] at hk; exact hk.symm
      · simp [e] at hk
    · cases hk
end Go.Proofs.Ytlmcgjdenfnkmaa
