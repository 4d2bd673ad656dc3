/-
  Contracts of the trie's path. No statement is proved here; no conditions.
-/
import Derived.Test.YtlmcgjdenfnkmaaApp
namespace Go.Proofs.Ytlmcgjdenfnkmaa
open Go.RowKit Go.Joins

/-- The nodes on the way of n bits. -/
def Pt (nd : Nat → Option Nat) (A n : Nat) (G : List Nat) : Prop := 0 < G.length ∧ G.length ≤ n + 1 ∧ (∀ i, i < G.length → nd (ky A i) = G[i]?) ∧ (G.length = n + 1 ∨ nd (ky A G.length) = none)
/-- What path leaves. -/
def Pathed (w : World) (nd : Nat → Option Nat) (A n : Nat) (e : Ending) (w' : World) : Prop :=
  ∃ g c G, e = .returned (.slice (some ⟨g, 0, none⟩) G.length c) ∧ Rg 60 1 w' g c (ps G) ∧ w.heap.size ≤ g ∧ Below w.heap.size w w' ∧ Pt nd A n G
theorem blk2 {w : World} {b : Nat} {u v : Value} {t : TypeId} (h : w.heap[b]? = some (.cells #[u, v] t (0, 0))) : w.cell? ⟨b, 0, none⟩ = some u ∧ w.cell? ⟨b, 1, none⟩ = some v ∧ w.frozen? ⟨b, 0, none⟩ = false ∧ w.frozen? ⟨b, 1, none⟩ = false :=
  ⟨(cell_of_row w b 0 _ _ _ h).trans rfl, (cell_of_row w b 1 _ _ _ h).trans rfl, by simp [World.frozen?, h], by simp [World.frozen?, h]⟩
theorem box_at {w : World} {u v : Value} {t : TypeId} {B : Nat} (hB : w.heap.size < B) : ∀ W, Below B (w.alloc (.cells #[u, v] t)) W → W.cell? ⟨w.heap.size, 0, none⟩ = some u ∧ W.cell? ⟨w.heap.size, 1, none⟩ = some v ∧ W.frozen? ⟨w.heap.size, 0, none⟩ = false ∧ W.frozen? ⟨w.heap.size, 1, none⟩ = false := fun _W h =>
  blk2 ((h.block _ hB).trans (Go.heap_alloc_new w _))

theorem path_nil (A : Nat) (N : Int) (w : World) : Calls Try.prog 30 #[.pointer none, pf A N] w fun e w' => e = .returned (.slice none 0 0) ∧ Below w.heap.size w w' := by
  go_enter Try.func30, Try.ntmps30
  go_wp2
  go_ret
  exact ⟨rfl, below_alloc1 _ _⟩
theorem path_bad (tb A : Nat) (N : Int) (w : World) (hA : A < 4294967296) (hp : okp A N = false) : Calls Try.prog 30 #[.pointer (some ⟨tb, 0, none⟩), pf A N] w fun e w' => e = .returned (.slice none 0 0) ∧ Below w.heap.size w w' := by
  have cm := fun W => may_any A N W hA
  rw [hp] at cm
  go_enter Try.func30, Try.ntmps30
  go_wp2_with fail
  refine (cm _).mono ?_
  rintro e W ⟨rfl, hb⟩
  go_wp2
  go_ret
  exact ⟨rfl, (below_alloc1 _ _).trans (hb.mono (by simp))⟩
set_option maxRecDepth 100000 in
theorem path_any (tb : Nat) (nd en : Nat → Option Nat) (m : List En) (c : Int) (A n : Nat) (w : World) (h : Tn w tb nd en m c) (hA : A < 4294967296) (hn : n ≤ 32) (hp : okp A (n : Int) = true) :
    Calls Try.prog 30 #[.pointer (some ⟨tb, 0, none⟩), pf A (n : Int)] w fun e w' => Pathed w nd A n e w' := by
  have cm := fun W => may_any A (n : Int) W hA
  rw [hp] at cm
  clear hp
  have K := box_at (w := w) (u := .int .u32 (A : Int)) (v := .int .i64 (n : Int)) (t := 25) (B := w.heap.size + 1) (by omega)
  have B0 := below_alloc1 w (.cells #[.int .u32 (A : Int), .int .i64 (n : Int)] 25)
  obtain ⟨W0, hW0⟩ : ∃ W0, w.alloc (.cells #[.int .u32 (A : Int), .int .i64 (n : Int)] 25) = W0 := ⟨_, rfl⟩
  have hs0 : W0.heap.size = w.heap.size + 1 := by rw [← hW0]; simp
  rw [hW0] at K B0
  obtain ⟨c0, c1, _, _⟩ := K _ (Below.refl _ _)
  go_enter Try.func30, Try.ntmps30
  go_wp2_with fail
  refine (cm _).mono ?_
  rintro e W1 ⟨rfl, hb1⟩
  have b1 : Below (w.heap.size + 1) W0 W1 := hb1.mono (by omega)
  clear c0 c1 hb1 cm
  obtain ⟨c0, c1, _, _⟩ := K _ b1
  have hs1 := b1.size
  have r0 : Rg 60 1 (W1.alloc (.cells #[.pointer (some ⟨tb, 0, none⟩)] 60)) W1.heap.size 1 (ps [tb]) := Rg.lit W1 60 1 1 _ (ps [tb]) rfl rfl (by unfold maxLen; omega)
  have b2 := b1.alloc (by omega) (.cells #[.pointer (some ⟨tb, 0, none⟩)] 60)
  obtain ⟨W2, hW2⟩ : ∃ W2, W1.alloc (.cells #[.pointer (some ⟨tb, 0, none⟩)] 60) = W2 := ⟨_, rfl⟩
  rw [hW2] at r0 b2
  obtain ⟨d0, d1, _, _⟩ := K _ b2
  have R0 := Lib.hid r0
  have HB := Lib.hid b2
  have HT := Lib.hid h
  have HB0 := Lib.hid B0
  have HK := Lib.hid K
  have HS1 := Lib.hid (show w.heap.size + 1 ≤ W1.heap.size by omega)
  have HR := Lib.hid (show nd (ky A 0) = some tb by rw [ky_zero hA]; exact h.root)
  clear r0 b2 h b1 hs1 B0 K
  go_wp2_with fail
  go_loopg [5, 6, 22] n (fun gf v5 v6 v22 wx => ∃ (k q g c' : Nat) (G : List Nat), v5 = .pointer (some ⟨q, 0, none⟩) ∧ v6 = .slice (some ⟨g, 0, none⟩) G.length c' ∧ v22 = .int .i64 (k : Int) ∧ Hid (gf + k = n) ∧ Hid (nd (ky A k) = some q) ∧ Hid (G.length = k + 1) ∧ Hid (∀ i, i < G.length → nd (ky A i) = G[i]?) ∧ Hid (Rg 60 1 wx g c' (ps G)) ∧ Hid (w.heap.size + 1 ≤ g) ∧ Hid (Below (w.heap.size + 1) W0 wx))
  case atStart => exact ⟨0, tb, _, _, [tb], rfl, rfl, rfl, Lib.hid (by omega), HR, Lib.hid rfl, Lib.hid (fun i hi => by have := HR.out; simp at hi; subst hi; simpa using this), R0, HS1, HB⟩
  case round =>
    obtain ⟨k, q, g, c', G, rfl, rfl, rfl, hk, hgk, hGl, hG, hr, hg, hb⟩ := hrel
    have hk' := hk.out
    clear HR HB R0 c0 c1 d0 d1
    cases gk with
    | zero =>
      have e1 : k = n := by omega
      have lt0 : decide ((k : Int) < (n : Int)) = false := by simp; omega
      go_wp2
      go_ret
      exact ⟨g, c', G, rfl, hr.out, by have := hg.out; omega, HB0.out.trans (hb.out.mono (by omega)), by have := hGl.out; omega, by have := hGl.out; omega, hG.out, .inl (by rw [hGl.out, e1])⟩
    | succ gf =>
      have hkl : k < n := by omega
      have lt0 : (k : Int) < (n : Int) := by omega
      obtain ⟨c0, c1, _, _⟩ := HK.out _ hb.out
      have tn : Tn wr tb nd en m c := HT.out.below (HB0.out.trans (hb.out.mono (by omega)))
      have hbt := bt_lt A (k : Int)
      obtain ⟨cc, _⟩ := tn.child hgk.out hbt
      have ks := ky_succ (A := A) (n := k) (by omega)
      rw [← ks] at cc
      have cb := fun W => bit_any A (k : Int) W hA
      have HKS := Lib.hid ks
      have HTN := Lib.hid tn
      clear ks tn
      generalize bt A (k : Int) = b at *
      cases hnx : nd (ky A (k + 1)) with
      | none =>
        rw [hnx] at cc
        have cc' : wr.cell? ⟨q, b, none⟩ = some (.pointer none) := cc
        clear cc
        have HN := Lib.hid hnx
        clear hnx
        go_wp2_with fail
        go_quiet (first | (go_at_call 31; exact Calls.quiet_of_same (cb _)))
        go_wp2
        go_ret
        exact ⟨g, c', G, rfl, hr.out, by have := hg.out; omega, HB0.out.trans ((hb.out.mono (by omega)).trans (below_draws _ _ _)), by have := hGl.out; omega, by have := hGl.out; omega, hG.out, .inr (by rw [hGl.out]; exact HN.out)⟩
      | some gn =>
        rw [hnx] at cc
        have cc' : wr.cell? ⟨q, b, none⟩ = some (.pointer (some ⟨gn, 0, none⟩)) := cc
        clear cc
        have HN := Lib.hid hnx
        clear hnx
        go_wp2_with fail
        go_quiet (first | (go_at_call 31; exact Calls.quiet_of_same (cb _)))
        have hr' := hr.out.drewN nq
        have hb' := hb.out.trans (below_draws _ wr nq)
        clear hr hb c0 c1 cc'
        generalize wr.drewN nq = wq at *
        have hll := hGl.out
        obtain ⟨ln, hln⟩ : ∃ ln, G.length = ln := ⟨_, rfl⟩
        obtain ⟨g2, c2, W3, r1, r2, r3, r4⟩ := ptr_app (w := wq) hr' hln (by omega) gn wq.heap.size rfl
        have HL := Lib.hid hln
        have HR2 := Lib.hid r2
        have HB3 := Lib.hid (hb'.trans (r4 _ hg.out))
        have hsz := hb'.size
        have HG2 := Lib.hid (show w.heap.size + 1 ≤ g2 by have := hg.out; omega)
        rw [hln]
        clear r2 r3 r4 hln hll hr' hb'
        go_wp2_with (at_builtin; refine wpList_runb _ rfl (.tmp 36) (.tmp 38) 67 rfl rfl rfl r1 ?_)
        go_wp2
        go_roundg gf
        case measure => omega
        case rel =>
          refine ⟨k + 1, gn, g2, c2, G ++ [gn], rfl, by rw [List.length_append, HL.out]; rfl, by go_num, Lib.hid (by omega), HN, Lib.hid (by rw [List.length_append, hGl.out]; rfl), Lib.hid (fun i hi => ?_), HR2, HG2, HB3⟩
          have h1 := hGl.out
          rw [List.length_append] at hi
          rcases Nat.lt_or_ge i G.length with q | q
          · rw [List.getElem?_append_left q]; exact hG.out i q
          · have : i = k + 1 := by simp at hi; omega
            subst this
            rw [List.getElem?_append_right q, h1]
            simpa using HN.out
end Go.Proofs.Ytlmcgjdenfnkmaa
