/-
  What hops are good for. No statement is proved here; no conditions.
-/
import Derived.Test.YtkpmdfgjaodlaaaHops
namespace Go.Proofs.Ytkpmdfgjaodlaaa
open Go.RowKit Go.Joins

section
variable {N : Nat} {G : List NE} {root : Nat} {d : List Nat}
theorem gz_ofN (d : List Nat) (u : Nat) : gz (ofN d) (u : Int) = (gw d u : Int) := by
  unfold gz gw List.getD
  rw [Int.toNat_natCast, List.getElem?_map]
  cases d[u]? <;> rfl
theorem use_iff (h : IsD N G root d) (hg : GV N G) {i : Nat} (hi : i < G.length) : ub (useL G d root) i = true ↔ gw d (gn G i).f ≠ inf ∧ gw d (gn G i).t = gw d (gn G i).f + (gn G i).c ∧ (gn G i).t ≠ root := by
  have hf := hg.f i hi
  have ht := hg.t i hi
  have hc := hg.c i hi
  have e : ub (useL G d root) i = onw (ofN d) (root : Int) (gn G i).ed := by
    rw [ub, List.getD, List.getElem?_eq_getElem (by simpa [useL] using hi), gn_eq hi]
    simp [useL]
  have hu : gw d (gn G i).f ≤ inf := by
    rcases h.at_ _ hf with e | ⟨e, _⟩
    · omega
    · unfold inf; omega
  rw [e, onw, tgt]
  simp only [NE.ed, gz_ofN, Bool.and_eq_true, decide_eq_true_eq, List.length_map, h.len]
  unfold inf at hu ⊢
  have hw : wrap64 ((gw d (gn G i).f : Int) + ((gn G i).c : Int)) = (gw d (gn G i).f : Int) + ((gn G i).c : Int) := by unfold wrap64; omega
  rw [hw]
  constructor
  · rintro ⟨⟨⟨_, h2⟩, h3⟩, h4⟩
    exact ⟨by omega, by omega, fun e => of_decide_eq_true h4 (congrArg Nat.cast e)⟩
  · rintro ⟨h1, h2, h3⟩
    exact ⟨⟨⟨⟨by omega, by omega⟩, by omega⟩, by omega⟩, decide_eq_true (fun e => h3 (Int.ofNat.inj e))⟩
theorem Rc.far (h : IsD N G root d) (hg : GV N G) {i v : Nat} (hi : i < G.length) (hf : (gn G i).f = root) (hr : Rc (useL G d root) G i v) : v ≠ root ∧ gw d v < inf ∧ ∃ l n, Wk G (gn G i).t v l n ∧ gw d v = (gn G i).c + l := by
  refine hr.ind (P := fun v => v ≠ root ∧ gw d v < inf ∧ ∃ l n, Wk G (gn G i).t v l n ∧ gw d v = (gn G i).c + l) (fun hu => ?_) (fun j hj hu hp => ?_)
  · obtain ⟨_, h2, h3⟩ := (use_iff h hg hi).1 hu
    rw [hf, h.root] at h2
    have := hg.c i hi
    exact ⟨h3, by unfold inf; omega, 0, 0, .nil, by omega⟩
  · obtain ⟨h1, h2, h3⟩ := (use_iff h hg hj).1 hu
    obtain ⟨_, p2, l, n, p3, p4⟩ := hp
    have hc := hg.c j hj
    have hb : gw d (gn G j).f ≤ 64 * 65535 := by
      rcases h.at_ _ (hg.f j hj) with e | ⟨e, _⟩
      · exact absurd e h1
      · exact e
    exact ⟨h3, by unfold inf; omega, _, _, p3.snoc j hj rfl, by omega⟩
theorem hop_of (h : IsD N G root d) (hg : GV N G) (n : Nat) : ∀ v, v ≠ root → Wk G root v (gw d v) n → gw d v ≠ inf → ∃ i ∈ outs G G.length root, Rc (useL G d root) G i v := by
  induction n with
  | zero =>
    intro v hv hw _
    generalize hl : gw d v = l at hw
    cases hw
    exact absurd rfl hv
  | succ n ih =>
    intro v hv hw hi
    generalize hl : gw d v = l at hw
    cases hw with
    | snoc j k hj hf =>
      rename_i b l'
      subst hf
      have h2 := h.lo _ _ _ k
      have hfin : gw d (gn G j).t ≤ 64 * 65535 := by
        rcases h.at_ _ (hg.t j hj) with e | ⟨e, _⟩
        · exact absurd e hi
        · exact e
      have h3 := h.edge hg hj (by unfold inf; omega)
      have hlf : gw d (gn G j).f = l' := by omega
      have hu : ub (useL G d root) j = true := (use_iff h hg hj).2 ⟨by unfold inf; omega, by omega, hv⟩
      by_cases hb : (gn G j).f = root
      · exact ⟨j, mem_outs.2 ⟨hj, hb⟩, Rc.start hu⟩
      · obtain ⟨i, h5, h6⟩ := ih _ hb (by rw [hlf]; exact k) (by unfold inf; omega)
        exact ⟨i, h5, h6.step hj hu⟩
theorem mem_hopF {U : List Bool} {i u : Nat} : i ∈ hopF U G root (outs G G.length root).length u ↔ (i < G.length ∧ (gn G i).f = root) ∧ Rc U G i u := by
  unfold hopF
  rw [List.take_length, List.mem_filter, mem_outs]
  simp
theorem hop_iff (h : IsD N G root d) (hg : GV N G) {v : Nat} (hv : v < N) : hopF (useL G d root) G root (outs G G.length root).length v ≠ [] ↔ v ≠ root ∧ gw d v < inf := by
  constructor
  · intro hne
    obtain ⟨i, hi⟩ := List.exists_mem_of_ne_nil _ hne
    obtain ⟨⟨h1, h2⟩, h3⟩ := mem_hopF.1 hi
    obtain ⟨a, b, _⟩ := Rc.far h hg h1 h2 h3
    exact ⟨a, b⟩
  · rintro ⟨h1, h2⟩ e
    rcases h.at_ v hv with e1 | ⟨_, n, hn⟩
    · omega
    · obtain ⟨i, p1, p2⟩ := hop_of h hg n v h1 hn (by omega)
      have : i ∈ hopF (useL G d root) G root (outs G G.length root).length v := mem_hopF.2 ⟨mem_outs.1 p1, p2⟩
      rw [e] at this
      cases this
theorem hop_far (h : IsD N G root d) (hg : GV N G) {v i : Nat} (hv : v < N) (hi : i ∈ hopF (useL G d root) G root (outs G G.length root).length v) {far : List Nat} (hfar : IsD N G (gn G i).t far) : (gn G i).c + gw far v = gw d v := by
  obtain ⟨⟨h1, h2⟩, h3⟩ := mem_hopF.1 hi
  obtain ⟨_, b, l, n, p1, p2⟩ := Rc.far h hg h1 h2 h3
  have q1 := hfar.lo _ _ _ p1
  rcases hfar.at_ v hv with e | ⟨_, n', hn'⟩
  · unfold inf at e b; omega
  · have w1 := (Wk.one (G := G) h1).cat hn'
    rw [h2] at w1
    have := h.lo _ _ _ w1
    omega
theorem hop_asc (U : List Bool) (u : Nat) : (hopF U G root (outs G G.length root).length u).Pairwise (· < ·) := by
  unfold hopF outs
  refine List.Pairwise.filter _ (List.Pairwise.sublist (List.take_sublist _ _) (List.Pairwise.filter _ ?_))
  exact List.pairwise_lt_range
theorem asc_gw {l : List Nat} (h : l.Pairwise (· < ·)) {k : Nat} (hk : k + 1 < l.length) : gw l k < gw l (k + 1) := by
  rw [gw_eq (by omega), gw_eq hk]
  exact List.pairwise_iff_getElem.1 h k (k + 1) (by omega) hk (by omega)
end
end Go.Proofs.Ytkpmdfgjaodlaaa
