/-
  The contract of the function with which behind follows an edge. No statement is proved here; no conditions.
-/
import Derived.Test.YtkpmdfgjaodlaaaOnward
import Derived.Test.YtkpmdfgjaodlaaaDist2
namespace Go.Proofs.Ytkpmdfgjaodlaaa
open Go.RowKit Go.Joins

/-- May edge i be used? -/
def ub (U : List Bool) (i : Nat) : Bool := U.getD i false
def fol (U : List Bool) (G : List NE) (ns : List Nat) (i : Nat) : List Nat := if ub U i = true ∧ (gn G i).t ∉ ns then ns ++ [(gn G i).t] else ns
/-- Which nodes were seen. -/
def seenL (N : Nat) (ns : List Nat) : List Bool := (List.range N).map fun u => decide (u ∈ ns)
theorem seen_set {N : Nat} {ns : List Nat} {t : Nat} (__ht : t < N) : (seenL N ns).set t true = seenL N (ns ++ [t]) := by
  apply List.ext_getElem
  · simp [seenL]
  · intro i h1 h2
    simp only [seenL, List.getElem_set, List.getElem_map, List.getElem_range, List.mem_append, List.mem_singleton]
    by_cases e : t = i
    · simp [e]
    · have e' : ¬ i = t := fun x => e x.symm
      simp [e, e']
theorem Rd.bool_at {S : Nat → Prop} {w : World} {A : Option Addr} {l : List Bool} (h : Rd S w A (bls l)) {k : Nat} (hk : k < l.length) : ∃ b off, A = some ⟨b, off, none⟩ ∧ w.cell? ⟨b, off + k, none⟩ = some (.bool (ub l k)) := by
  obtain ⟨b, off, e, _, _, hc⟩ := h (by intro e; have := congrArg List.length e; simp at this; subst this; simp at hk)
  exact ⟨b, off, e, hc k _ (by rw [List.getElem?_map, List.getElem?_eq_getElem hk, ub, List.getD, List.getElem?_eq_getElem hk]; rfl)⟩
/-- What stays while edges are followed. -/
structure FB (N : Nat) (G : List NE) (U : List Bool) (A AU : Option Addr) (c cU v : Nat) (L : List (List Nat)) (w wx : World) : Prop where
  c1 : wx.cell? ⟨w.heap.size, 1, none⟩ = some (.slice A G.length c)
  cu : wx.cell? ⟨w.heap.size + 1, 0, none⟩ = some (.slice AU G.length cU)
  cs : wx.cell? ⟨w.heap.size + 4, 0, none⟩ = some (.slice (some ⟨w.heap.size + 3, 0, none⟩) N N)
  ed : Rd (· < w.heap.size) wx A (nflat G)
  us : Rd (· < w.heap.size) wx AU (bls U)
  vs : Vs (· < w.heap.size) wx v L
  bl : Below w.heap.size w wx
  sz : w.heap.size + 5 ≤ wx.heap.size
theorem FB.kp {N : Nat} {G : List NE} {U : List Bool} {A AU : Option Addr} {c cU v : Nat} {L : List (List Nat)} {w wx W : World} {T : Nat → Prop} (h : FB N G U A AU c cU v L w wx) (k : Kp T wx W) (hT : ∀ j, T j → j = w.heap.size + 2 ∨ j = w.heap.size + 3 ∨ w.heap.size + 5 ≤ j) : FB N G U A AU c cU v L w W := by
  have hs := h.sz
  have hk : ∀ j, j < w.heap.size + 2 ∨ j = w.heap.size + 4 → W.heap[j]? = wx.heap[j]? := fun j hj => k.block j (by omega) (fun ht => by have := hT j ht; omega)
  have ks := k.size
  exact ⟨(World.cell?_of_block (hk (w.heap.size) (by omega))).trans h.c1, (World.cell?_of_block (hk (w.heap.size + 1) (by omega))).trans h.cu, (World.cell?_of_block (hk (w.heap.size + 4) (by omega))).trans h.cs, h.ed.keep ks (fun j hj _ => hk j (by omega)), h.us.keep ks (fun j hj _ => hk j (by omega)), h.vs.keep ks (fun j hj _ => hk j (by omega)), h.bl.trans (k.below (fun j hj => by have := hT j hj; omega) (by omega)), by omega⟩
/-- The nodes that were found. -/
def NS (N : Nat) (w : World) (ns : List Nat) (wx : World) : Prop :=
  ∃ A g c, wx.heap[w.heap.size + 2]? = some (.cells #[.slice A ns.length c] 26 (0, 0)) ∧ Ow 3 1 wx A g c ns.length (nts ns) ∧ (A ≠ none → w.heap.size + 5 ≤ g) ∧ Rg 4 1 wx (w.heap.size + 3) N (bls (seenL N ns))

set_option maxRecDepth 100000 in
set_option maxHeartbeats 1000000 in
theorem fol_any (N : Nat) (G : List NE) (U : List Bool) (A AU : Option Addr) (c cU v : Nat) (L : List (List Nat)) (w wx : World) (ns : List Nat) (i : Nat) (hg : GV N G) (hU : U.length = G.length) (h : FB N G U A AU c cU v L w wx) (hn : NS N w ns wx) (hi : i < G.length) (hnl : ns.length ≤ 1000) :
    Calls Try.prog 43 #[.int .i64 (i : Int), .pointer (some ⟨w.heap.size, 0, none⟩), .pointer (some ⟨w.heap.size + 1, 0, none⟩), .pointer (some ⟨w.heap.size + 4, 0, none⟩), .pointer (some ⟨w.heap.size + 2, 0, none⟩)] wx fun e w' =>
      e = .returned (.tuple #[]) ∧ FB N G U A AU c cU v L w w' ∧ NS N w (fol U G ns i) w' ∧ wx.heap.size ≤ w'.heap.size := by
  have hn2 := hg.n2
  have ht := hg.t i hi
  have hm := hg.m
  obtain ⟨b, off, rfl, _, _, e0, e1, e2⟩ := h.ed.nedge hi
  obtain ⟨b2, off2, rfl, e3⟩ := h.us.bool_at (k := i) (by omega)
  obtain ⟨A', g', c', n1, n2, n3, n4⟩ := hn
  obtain ⟨x, hx⟩ : ∃ x, gn G i = x := ⟨_, rfl⟩
  obtain ⟨fo, hfo⟩ : ∃ fo, fol U G ns i = fo := ⟨_, rfl⟩
  rw [hfo]
  rw [fol, hx] at hfo
  have HFO := Lib.hid hfo
  clear hfo
  rw [hx] at e0 e1 e2 ht
  have hii : (i : Int) < (G.length : Int) := by omega
  have hti : (x.t : Int) < (N : Int) := by omega
  have c1 := h.c1
  have cu := h.cu
  have cs := h.cs
  have hsl : (seenL N ns).length = N := by simp [seenL]
  have sn := n4.bool_cell (u := x.t) (by omega)
  have sne : (seenL N ns)[x.t]'(by omega) = decide (x.t ∈ ns) := by simp [seenL]
  rw [sne] at sn
  have HFB := Lib.hid h
  have N2 := Lib.hid n2
  have N3 := Lib.hid n3
  have N4 := Lib.hid n4
  have N1 := Lib.hid n1
  clear h hx n2 n3 sne
  cases hu : ub U i with
  | false =>
    rw [hu] at e3
    clear n1 n4
    go_enter Try.func43, Try.ntmps43
    go_wp2
    go_end0
    exact ⟨rfl, HFB.out, by rw [← HFO.out, if_neg (by simp [hu])]; exact ⟨A', g', c', N1.out, N2.out, N3.out, N4.out⟩, Nat.le_refl _⟩
  | true =>
    rw [hu] at e3
    by_cases hmem : x.t ∈ ns
    · rw [decide_eq_true hmem] at sn
      clear n1 n4
      go_enter Try.func43, Try.ntmps43
      go_wp2
      go_end0
      exact ⟨rfl, HFB.out, by rw [← HFO.out, if_neg (by simp [hmem])]; exact ⟨A', g', c', N1.out, N2.out, N3.out, N4.out⟩, Nat.le_refl _⟩
    · rw [decide_eq_false hmem] at sn
      have fz := n4.frozen x.t
      -- seen
      obtain ⟨W1, hW1⟩ : ∃ W1, wx.setCell ⟨w.heap.size + 3, x.t, none⟩ (.bool true) = W1 := ⟨_, rfl⟩
      have k1 : Kp (fun j => j = w.heap.size + 3) wx W1 := by rw [← hW1]; exact Kp.setCell wx _ _ rfl
      have hs1 : W1.heap.size = wx.heap.size := by rw [← hW1]; simp [World.setCell]
      have s1 : Rg 4 1 W1 (w.heap.size + 3) N (bls (seenL N (ns ++ [x.t]))) := by
        have := n4.set x.t (.bool true)
        rwa [bls_set, seen_set ht, hW1] at this
      have hsz := HFB.out.sz
      have n1' : W1.heap[w.heap.size + 2]? = some (.cells #[.slice A' ns.length c'] 26 (0, 0)) := (k1.block _ (by omega) (by omega)).trans n1
      obtain ⟨q1, q2⟩ := one_at n1'
      -- the new one
      obtain ⟨W2, hW2⟩ : ∃ W2, W1.alloc (.cells #[.int .i64 (x.t : Int)] 3) = W2 := ⟨_, rfl⟩
      have hs2 : W2.heap.size = wx.heap.size + 1 := by rw [← hW2]; simp [hs1]
      have bb2 : Below W1.heap.size W1 W2 := by rw [← hW2]; exact below_alloc1 _ _
      have src : Rd (· = W1.heap.size) W2 (some ⟨W1.heap.size, 0, none⟩) (nts [x.t]) := by rw [← hW2]; exact (Rg.lit W1 3 1 1 _ (nts [x.t]) rfl (by simp) (by unfold maxLen; omega)).rd
      have ow : Ow 3 1 W2 A' g' c' ns.length (nts ns) := by
        rcases N2.out with ⟨z1, z2 | ⟨z2, z3⟩⟩
        · exact ⟨z1, .inl z2⟩
        · have := N3.out (by simp [z2])
          exact ⟨z1, .inr ⟨z2, (z3.kp k1 (by omega)).below' bb2⟩⟩
      obtain ⟨ti, hi3, hz3, hsz3, hby3⟩ := info3
      obtain ⟨g2, c2, W3, r1, r2, r3, r4⟩ := run_appr (P := Try.prog) W2 26 26 3 ti _ 1 8 Try.underlying26 hi3 hz3 hsz3 hby3 rfl (by omega) (by omega) A' g' c' ns.length _ ow _ _ 1 1 _ src (by simp) (nts_one [x.t]) (by omega) (by omega)
      rw [hs1] at r1
      have hA : ∀ j, A' = some ⟨j, 0, none⟩ → w.heap.size + 5 ≤ j := fun j hj => by
        have h5 := N3.out (by simp [hj])
        rcases N2.out with ⟨_, ⟨z2, _⟩ | ⟨z2, _⟩⟩
        · rw [z2] at hj; cases hj
        · rw [z2] at hj; simp at hj; omega
      have n3' : W3.heap[w.heap.size + 2]? = some (.cells #[.slice A' ns.length c'] 26 (0, 0)) := (r3.block _ (by omega) (fun e => by have := hA _ e; omega)).trans ((bb2.block _ (by omega)).trans n1')
      obtain ⟨q3, q4⟩ := one_at n3'
      have s3 := (s1.below' bb2).kp r3 (fun e => by have := hA _ e; omega)
      have fin : FB N G U (some ⟨b, off, none⟩) (some ⟨b2, off2, none⟩) c cU v L w (W3.setCell ⟨w.heap.size + 2, 0, none⟩ (.slice (some ⟨g2, 0, none⟩) (ns.length + 1) c2)) ∧ NS N w (ns ++ [x.t]) (W3.setCell ⟨w.heap.size + 2, 0, none⟩ (.slice (some ⟨g2, 0, none⟩) (ns.length + 1) c2)) := by
        have hg2 : w.heap.size + 5 ≤ g2 := by
          rcases r4 with e | e
          · exact hA _ e
          · omega
        have k4 : Kp (fun j => j = w.heap.size + 2) W3 (W3.setCell ⟨w.heap.size + 2, 0, none⟩ (.slice (some ⟨g2, 0, none⟩) (ns.length + 1) c2)) := Kp.setCell W3 _ _ rfl
        refine ⟨(((HFB.out.kp k1 (fun j hj => by omega)).kp (Kp.of_below (S := fun _ => False) bb2 (Nat.le_refl _)) (fun _ h => h.elim)).kp r3 (fun j hj => .inr (.inr (hA j hj)))).kp k4 (fun j hj => .inl hj), ?_⟩
        refine ⟨some ⟨g2, 0, none⟩, g2, c2, ?_, ⟨by simp, .inr ⟨rfl, ?_⟩⟩, fun _ => hg2, s3.kp k4 (by omega)⟩
        · have e1 := setCell_eq_setRow W3 (w.heap.size + 2) 0 _ 26 (0, 0) (.slice (some ⟨g2, 0, none⟩) (ns.length + 1) c2) n3'
          rw [e1, setRow_heap W3 _ _ _ 26 _ n3']
          simp
        · rw [nts, List.map_append]
          exact r2.kp k4 (by omega)
      have FIN := Lib.hid fin
      have hsz9 : wx.heap.size ≤ (W3.setCell ⟨w.heap.size + 2, 0, none⟩ (.slice (some ⟨g2, 0, none⟩) (ns.length + 1) c2)).heap.size := by have := r3.size; simp [World.setCell]; omega
      have HSZ := Lib.hid hsz9
      clear hsz9
      clear fin s3 n3' hA r3 r4 ow src bb2 n1' s1 k1 n4 n1 r2
      go_enter Try.func43, Try.ntmps43
      go_wp2_with (at_builtin; refine wpList_runb _ rfl (.tmp 27) (.tmp 29) 26 rfl rfl rfl r1 ?_)
      go_end0
      exact ⟨rfl, FIN.out.1, by rw [← HFO.out, if_pos ⟨hu, hmem⟩]; exact FIN.out.2, HSZ.out⟩
end Go.Proofs.Ytkpmdfgjaodlaaa
