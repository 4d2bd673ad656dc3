/-
  Walks in graphs, least lengths, and what holds while shortest paths are sought. No statement is proved here; no conditions.
-/
import Derived.Test.YtkpmdfgjaodlaaaVisit
namespace Go.Proofs.Ytkpmdfgjaodlaaa

theorem nodup_le : ∀ (N : Nat) (l : List Nat), l.Nodup → (∀ x ∈ l, x < N) → l.length ≤ N
  | 0, l, _, h => by
    cases l with
    | nil => simp
    | cons x l => exact absurd (h x (by simp)) (by omega)
  | N + 1, l, hn, h => by
    by_cases hm : N ∈ l
    · have := nodup_le N (l.erase N) (hn.erase N) (fun x hx => by
        rw [hn.mem_erase_iff] at hx
        have := h x hx.2
        omega)
      rw [List.length_erase_of_mem hm] at this
      omega
    · have := nodup_le N l hn (fun x hx => by
        have h1 := h x hx
        have : x ≠ N := fun e => hm (e ▸ hx)
        omega)
      omega

/-- A walk from a: to where, how long, of how many edges. -/
inductive Wk (G : List NE) (a : Nat) : Nat → Nat → Nat → Prop
  | nil : Wk G a a 0 0
  | snoc {b l n : Nat} (i : Nat) (h : Wk G a b l n) (hi : i < G.length) (hf : (gn G i).f = b) : Wk G a (gn G i).t (l + (gn G i).c) (n + 1)
/-- The same with its nodes, the last one first. -/
inductive Sw (G : List NE) (a : Nat) : Nat → Nat → List Nat → Prop
  | nil : Sw G a a 0 [a]
  | snoc {b l : Nat} {ns : List Nat} (i : Nat) (h : Sw G a b l ns) (hi : i < G.length) (hf : (gn G i).f = b) : Sw G a (gn G i).t (l + (gn G i).c) ((gn G i).t :: ns)
theorem Sw.wk {G : List NE} {a b l : Nat} {ns : List Nat} (h : Sw G a b l ns) : ∃ n, ns.length = n + 1 ∧ Wk G a b l n := by
  induction h with
  | nil => exact ⟨0, rfl, .nil⟩
  | snoc i h hi hf ih =>
    obtain ⟨n, h1, h2⟩ := ih
    exact ⟨n + 1, by simp [h1], .snoc i h2 hi hf⟩
theorem Sw.cut {G : List NE} {a b l : Nat} {ns : List Nat} (h : Sw G a b l ns) : ∀ c ∈ ns, ∃ l' ns', l' ≤ l ∧ Sw G a c l' ns' ∧ ns'.Sublist ns := by
  induction h with
  | nil =>
    intro c hc
    simp at hc
    subst hc
    exact ⟨0, [c], Nat.le_refl _, .nil, List.Sublist.refl _⟩
  | snoc i h hi hf ih =>
    intro c hc
    rcases List.mem_cons.1 hc with rfl | hc
    · exact ⟨_, _, Nat.le_refl _, .snoc i h hi hf, List.Sublist.refl _⟩
    · obtain ⟨l', ns', h1, h2, h3⟩ := ih c hc
      exact ⟨l', ns', by omega, h2, h3.cons _⟩
theorem Wk.simple {G : List NE} {a b l n : Nat} (h : Wk G a b l n) : ∃ l' ns, l' ≤ l ∧ Sw G a b l' ns ∧ ns.Nodup := by
  induction h with
  | nil => exact ⟨0, [a], Nat.le_refl _, .nil, by simp⟩
  | snoc i h hi hf ih =>
    obtain ⟨l', ns, h1, h2, h3⟩ := ih
    by_cases hm : (gn G i).t ∈ ns
    · obtain ⟨l2, ns2, q1, q2, q3⟩ := h2.cut _ hm
      exact ⟨l2, ns2, by omega, q2, q3.nodup h3⟩
    · exact ⟨_, _, by omega, .snoc i h2 hi hf, List.nodup_cons.2 ⟨hm, h3⟩⟩
theorem Sw.lt {G : List NE} {N a b l : Nat} {ns : List Nat} (h : Sw G a b l ns) (ha : a < N) (hg : ∀ i, i < G.length → (gn G i).t < N) : ∀ c ∈ ns, c < N := by
  induction h with
  | nil => intro c hc; simp at hc; omega
  | snoc i h hi hf ih =>
    intro c hc
    rcases List.mem_cons.1 hc with rfl | hc
    · exact hg i hi
    · exact ih c hc
theorem Wk.short {G : List NE} {N a b l n : Nat} (h : Wk G a b l n) (ha : a < N) (hg : ∀ i, i < G.length → (gn G i).t < N) : ∃ l' n', l' ≤ l ∧ n' < N ∧ Wk G a b l' n' := by
  obtain ⟨l', ns, h1, h2, h3⟩ := h.simple
  obtain ⟨n', q1, q2⟩ := h2.wk
  have := nodup_le N ns h3 (h2.lt ha hg)
  exact ⟨l', n', h1, by omega, q2⟩
theorem Wk.len {G : List NE} {N a b l n : Nat} (h : Wk G a b l n) (hg : GV N G) : l ≤ n * 65535 := by
  induction h with
  | nil => simp
  | snoc i h hi hf ih => have := hg.c i hi; omega
theorem Wk.lt {G : List NE} {N a b l n : Nat} (h : Wk G a b l n) (ha : a < N) (hg : GV N G) : b < N := by
  cases h with
  | nil => exact ha
  | snoc i h hi hf => exact hg.t i hi
theorem Wk.cat {G : List NE} {a b c l n l' n' : Nat} (h : Wk G a b l n) (k : Wk G b c l' n') : Wk G a c (l + l') (n + n') := by
  induction k with
  | nil => exact h
  | snoc i k hi hf ih => rw [← Nat.add_assoc, ← Nat.add_assoc]; exact .snoc i ih hi hf
theorem Wk.one {G : List NE} {i : Nat} (hi : i < G.length) : Wk G (gn G i).f (gn G i).t (gn G i).c 1 := by
  have := Wk.snoc i (Wk.nil (G := G) (a := (gn G i).f)) hi rfl
  simpa using this

/-- The distances from root. -/
structure IsD (N : Nat) (G : List NE) (root : Nat) (d : List Nat) : Prop where
  len : d.length = N
  lo : ∀ v l n, Wk G root v l n → gw d v ≤ l
  at_ : ∀ v, v < N → gw d v = inf ∨ (gw d v ≤ 64 * 65535 ∧ ∃ n, Wk G root v (gw d v) n)
theorem list_gw {a b : List Nat} {N : Nat} (ha : a.length = N) (hb : b.length = N) (h : ∀ v, v < N → gw a v = gw b v) : a = b := by
  refine List.ext_getElem (ha.trans hb.symm) fun j h1 h2 => ?_
  have := h j (by omega)
  rwa [gw_eq h1, gw_eq h2] at this
theorem IsD.unique {N : Nat} {G : List NE} {root : Nat} {d c : List Nat} (h : IsD N G root d) (k : IsD N G root c) : d = c := by
  refine list_gw h.len k.len fun v hv => ?_
  rcases h.at_ v hv with e | ⟨e, n, hn⟩ <;> rcases k.at_ v hv with e' | ⟨e', n', hn'⟩
  · rw [e, e']
  · have := h.lo v _ _ hn'; unfold inf at e; omega
  · have := k.lo v _ _ hn; unfold inf at e'; omega
  · have := h.lo v _ _ hn'; have := k.lo v _ _ hn; omega
/-- Distances that no edge makes less, each the length of a walk. -/
theorem IsD.of {N : Nat} {G : List NE} {root : Nat} {d : List Nat} (hg : GV N G) (hr : root < N) (len : d.length = N) (rt : gw d root = 0) (ub : ∀ v, v < N → gw d v ≤ inf)
    (wk : ∀ v, v < N → gw d v < inf → ∃ n, Wk G root v (gw d v) n) (ed : ∀ i, i < G.length → gw d (gn G i).f < inf → gw d (gn G i).t ≤ gw d (gn G i).f + (gn G i).c) : IsD N G root d := by
  have h1 : ∀ v l n, Wk G root v l n → l < inf → gw d v ≤ l := by
    intro v l n h
    induction h with
    | nil => intro _; omega
    | snoc i h hi hf ih =>
      intro hl
      have := ih (by omega)
      subst hf
      have := ed i hi (by omega)
      omega
  have h2 : ∀ v l n, Wk G root v l n → gw d v ≤ l ∧ gw d v ≤ 64 * 65535 := by
    intro v l n h
    obtain ⟨l', n', q1, q2, q3⟩ := h.short hr hg.t
    have := q3.len hg
    have h64 := hg.n2
    have hl : l' ≤ 64 * 65535 := Nat.le_trans this (Nat.mul_le_mul_right _ (by omega))
    have := h1 v l' n' q3 (by unfold inf; omega)
    omega
  refine ⟨len, fun v l n h => (h2 v l n h).1, fun v hv => ?_⟩
  rcases Nat.lt_or_ge (gw d v) inf with h | h
  · obtain ⟨n, hn⟩ := wk v hv h
    exact .inr ⟨(h2 v _ n hn).2, n, hn⟩
  · exact .inl (Nat.le_antisymm (ub v hv) h)
theorem IsD.root {N : Nat} {G : List NE} {root : Nat} {d : List Nat} (h : IsD N G root d) : gw d root = 0 := by have := h.lo root 0 0 .nil; omega
theorem IsD.edge {N : Nat} {G : List NE} {root : Nat} {d : List Nat} (h : IsD N G root d) (hg : GV N G) {i : Nat} (hi : i < G.length) (hf : gw d (gn G i).f ≠ inf) : gw d (gn G i).t ≤ gw d (gn G i).f + (gn G i).c := by
  rcases h.at_ _ (hg.f i hi) with e | ⟨_, n, hn⟩
  · exact absurd e hf
  · exact h.lo _ _ _ (hn.snoc i hi rfl)

/-! ### While they are sought -/
theorem gw_set (d : List Nat) (i k x : Nat) (h : i < d.length) : gw (d.set i x) k = if k = i then x else gw d k := by
  unfold gw List.getD
  rw [List.getElem?_set]
  by_cases e : i = k
  · subst e; simp [h]
  · rw [if_neg e, if_neg (fun x => e x.symm)]
theorem sum_set : ∀ (d : List Nat) (i x : Nat), i < d.length → (d.set i x).sum + gw d i = d.sum + x
  | [], _, _, h => by simp at h
  | a :: d, 0, x, _ => by simp [gw]; omega
  | a :: d, i + 1, x, h => by
    have := sum_set d i x (by simpa using h)
    simp [gw] at this ⊢
    omega
/-- An item: a length and a node. -/
abbrev itm (k v : Nat) : It := ((k : Int), (v : Int))
theorem itm_inj {k v k' v' : Nat} (h : itm k v = itm k' v') : k = k' ∧ v = v' := by
  simp only [itm, Prod.mk.injEq] at h
  omega
/-- P: the nodes that were visited; R: the edges that were followed; K: the last length; m: what waits. -/
structure DJ (N : Nat) (G : List NE) (root : Nat) (P R : List Nat) (K : Nat) (d : List Nat) (m : List It) : Prop where
  len : d.length = N
  rt : gw d root = 0
  ub : ∀ v, v < N → gw d v ≤ inf
  wk : ∀ v, v < N → gw d v < inf → ∃ n, Wk G root v (gw d v) n
  pl : ∀ u ∈ P, u < N ∧ gw d u ≤ K
  kl : K < inf
  rn : R.Nodup
  rl : ∀ i ∈ R, i < G.length ∧ (gn G i).f ∈ P ∧ gw d (gn G i).t ≤ gw d (gn G i).f + (gn G i).c
  it : ∀ x ∈ m, ∃ k v, x = itm k v ∧ v < N ∧ K ≤ k ∧ k < inf ∧ gw d v ≤ k ∧ (v ∈ P → gw d v < k)
  nd : m.Nodup
  q : ∀ v, v < N → v ∉ P → gw d v < inf → itm (gw d v) v ∈ m
  sz : m.length ≤ 1 + R.length
section
variable {N : Nat} {G : List NE} {root : Nat} {P R : List Nat} {K : Nat} {d : List Nat} {m : List It}
theorem DJ.start (hr : root < N) : DJ N G root [] [] 0 ((List.replicate N inf).set root 0) [itm 0 root] := by
  have hd : ∀ v, v < N → gw ((List.replicate N inf).set root 0) v = if v = root then 0 else inf := fun v hv => by
    rw [gw_set _ _ _ _ (by simpa using hr)]
    split
    · rfl
    · rw [gw_eq (by simpa using hv)]; simp
  refine ⟨by simp, by rw [hd root hr, if_pos rfl], fun v hv => ?_, fun v hv h => ?_, by simp, by unfold inf; omega, by simp, by simp, ?_, by simp, fun v hv _ h => ?_, by simp⟩
  · rw [hd v hv]; split <;> omega
  · rw [hd v hv] at h ⊢
    split at h
    · next e => subst e; exact ⟨0, by simpa using Wk.nil⟩
    · omega
  · intro x hx
    simp only [List.mem_singleton] at hx
    subst hx
    exact ⟨0, root, rfl, hr, Nat.le_refl _, by unfold inf; omega, by rw [hd root hr, if_pos rfl]; omega, by simp⟩
  · rw [hd v hv] at h ⊢
    split at h
    · next e => simp [e]
    · omega
theorem asc_head {x : It} {m : List It} (h : Asc (x :: m)) : ∀ y ∈ m, x.1 ≤ y.1 := fun y hy => by
  have := lt_false.1 ((List.pairwise_cons.1 h).1 y hy)
  omega
theorem DJ.pop {x : It} (h : DJ N G root P R K d (x :: m)) (ha : Asc (x :: m)) : ∃ k v, x = itm k v ∧ v < N ∧ k < inf ∧ gw d v ≤ k ∧
    (gw d v < k → DJ N G root P R k d m) ∧ (gw d v = k → v ∉ P ∧ DJ N G root (v :: P) R k d m) := by
  obtain ⟨k, v, rfl, h1, h2, h3, h4, h5⟩ := h.it x (by simp)
  have hmk : ∀ y ∈ m, ∃ k' v', y = itm k' v' ∧ v' < N ∧ k ≤ k' ∧ k' < inf ∧ gw d v' ≤ k' ∧ (v' ∈ P → gw d v' < k') := fun y hy => by
    obtain ⟨k', v', rfl, q1, q2, q3, q4, q5⟩ := h.it y (by simp [hy])
    have := asc_head ha _ hy
    exact ⟨k', v', rfl, q1, by simp at this; omega, q3, q4, q5⟩
  have hnd := List.nodup_cons.1 h.nd
  refine ⟨k, v, rfl, h1, h3, h4, fun hlt => ?_, fun heq => ?_⟩
  · refine ⟨h.len, h.rt, h.ub, h.wk, fun u hu => ⟨(h.pl u hu).1, by have := (h.pl u hu).2; omega⟩, h3, h.rn, h.rl, hmk, hnd.2, fun u hu hp hu2 => ?_, by have := h.sz; simp at this; omega⟩
    rcases List.mem_cons.1 (h.q u hu hp hu2) with e | e
    · obtain ⟨e1, rfl⟩ := itm_inj e; omega
    · exact e
  · have hvp : v ∉ P := fun hp => by have := h5 hp; omega
    refine ⟨hvp, h.len, h.rt, h.ub, h.wk, fun u hu => ?_, h3, h.rn, fun i hi => ⟨(h.rl i hi).1, List.mem_cons_of_mem _ (h.rl i hi).2.1, (h.rl i hi).2.2⟩, fun y hy => ?_, hnd.2, fun u hu hp hu2 => ?_, by have := h.sz; simp at this; omega⟩
    · rcases List.mem_cons.1 hu with rfl | hu
      · exact ⟨h1, by omega⟩
      · exact ⟨(h.pl u hu).1, by have := (h.pl u hu).2; omega⟩
    · obtain ⟨k', v', rfl, q1, q2, q3, q4, q5⟩ := hmk y hy
      refine ⟨k', v', rfl, q1, q2, q3, q4, fun hp => ?_⟩
      rcases List.mem_cons.1 hp with rfl | hp
      · rcases Nat.lt_or_ge (gw d v') k' with x | x
        · exact x
        · have : k' = k := by omega
          subst this
          exact absurd hy hnd.1
      · exact q5 hp
    · have hp' := fun x => hp (List.mem_cons_of_mem v x)
      rcases List.mem_cons.1 (h.q u hu hp' hu2) with e | e
      · obtain ⟨e1, rfl⟩ := itm_inj e
        exact absurd (by simp) hp
      · exact e
theorem DJ.stay {i : Nat} (h : DJ N G root P R K d m) (hi : i < G.length) (hf : (gn G i).f ∈ P) (hr : i ∉ R) (hn : gw d (gn G i).t ≤ gw d (gn G i).f + (gn G i).c) : DJ N G root P (i :: R) K d m := by
  refine ⟨h.len, h.rt, h.ub, h.wk, h.pl, h.kl, List.nodup_cons.2 ⟨hr, h.rn⟩, fun j hj => ?_, h.it, h.nd, h.q, by have := h.sz; simp; omega⟩
  rcases List.mem_cons.1 hj with rfl | hj
  · exact ⟨hi, hf, hn⟩
  · exact h.rl j hj
theorem DJ.relax {i : Nat} (h : DJ N G root P R K d m) (hg : GV N G) (hi : i < G.length) (hf : (gn G i).f ∈ P) (hfk : gw d (gn G i).f = K) (hr : i ∉ R) (hn : gw d (gn G i).f + (gn G i).c < gw d (gn G i).t) :
    DJ N G root P (i :: R) K (d.set (gn G i).t (gw d (gn G i).f + (gn G i).c)) (ins (itm (gw d (gn G i).f + (gn G i).c) (gn G i).t) m) := by
  obtain ⟨x, hx⟩ : ∃ x, gn G i = x := ⟨_, rfl⟩
  have hwk := fun (n : Nat) (hw : Wk G root (gn G i).f (gw d (gn G i).f) n) => hw.snoc i hi rfl
  have ht := hg.t i hi
  have hfl := hg.f i hi
  rw [hx] at hf hfk hn hwk ht hfl ⊢
  have hp := ins_perm (itm (gw d x.f + x.c) x.t) m
  have htp : x.t ∉ P := fun e => by have := (h.pl _ e).2; omega
  have hs := fun k y => gw_set d x.t k y (by rw [h.len]; exact ht)
  have hub := h.ub _ ht
  have hne : x.f ≠ x.t := fun e => htp (e ▸ hf)
  have hmem : ∀ y, y ∈ ins (itm (gw d x.f + x.c) x.t) m ↔ y = itm (gw d x.f + x.c) x.t ∨ y ∈ m := fun y => by rw [hp.mem_iff]; simp
  refine ⟨by simp [h.len], ?_, fun v hv => ?_, fun v hv hv2 => ?_, fun u hu => ?_, h.kl, List.nodup_cons.2 ⟨hr, h.rn⟩, fun j hj => ?_, fun y hy => ?_, ?_, fun v hv hvp hv2 => ?_, ?_⟩
  · rw [hs]
    split
    · next e => rw [← e, h.rt] at hn; omega
    · exact h.rt
  · rw [hs]
    have := h.ub v hv
    split <;> omega
  · rw [hs] at hv2 ⊢
    split
    · next e =>
      obtain ⟨n, hw⟩ := h.wk x.f hfl (by have := h.kl; omega)
      exact ⟨n + 1, e ▸ hwk n hw⟩
    · next e => rw [if_neg e] at hv2; exact h.wk v hv hv2
  · rw [hs, if_neg (fun e : u = x.t => htp (e ▸ hu))]
    exact h.pl u hu
  · rcases List.mem_cons.1 hj with rfl | hj
    · rw [hx]
      refine ⟨hi, hf, ?_⟩
      rw [hs, if_pos rfl, hs, if_neg hne]
      omega
    · obtain ⟨q1, q2, q3⟩ := h.rl j hj
      refine ⟨q1, q2, ?_⟩
      rw [hs, hs (gn G j).f, if_neg (fun e : (gn G j).f = x.t => htp (e ▸ q2))]
      split
      · next e => rw [e] at q3; omega
      · exact q3
  · rcases (hmem y).1 hy with rfl | hy
    · exact ⟨_, _, rfl, ht, by omega, by omega, by rw [hs, if_pos rfl]; omega, fun e => absurd e htp⟩
    · obtain ⟨k', v', rfl, q1, q2, q3, q4, q5⟩ := h.it y hy
      refine ⟨k', v', rfl, q1, q2, q3, ?_, fun hp => ?_⟩
      · rw [hs]
        split
        · next e => rw [e] at q4; omega
        · exact q4
      · rw [hs, if_neg (fun e : v' = x.t => htp (e ▸ hp))]
        exact q5 hp
  · rw [hp.nodup_iff]
    refine List.nodup_cons.2 ⟨fun hy => ?_, h.nd⟩
    obtain ⟨k', v', e, _, _, _, q4, _⟩ := h.it _ hy
    obtain ⟨e1, e2⟩ := itm_inj e
    rw [← e2] at q4
    omega
  · rw [hs] at hv2 ⊢
    rw [hmem]
    split
    · next e => subst e; exact .inl rfl
    · next e =>
      rw [if_neg e] at hv2
      exact .inr (h.q v hv hvp hv2)
  · rw [ins_length]
    have := h.sz
    simp
    omega
theorem DJ.small (h : DJ N G root P R K d m) : m.length ≤ 1 + G.length := by
  have := h.sz
  have := nodup_le G.length R h.rn (fun i hi => (h.rl i hi).1)
  omega
theorem DJ.done (h : DJ N G root P R K d []) (hg : GV N G) (hr : root < N) (hall : ∀ i, i < G.length → (gn G i).f ∈ P → i ∈ R) : IsD N G root d := by
  refine IsD.of hg hr h.len h.rt h.ub h.wk fun i hi hf => ?_
  by_cases hp : (gn G i).f ∈ P
  · exact (h.rl i (hall i hi hp)).2.2
  · exact absurd (h.q _ (hg.f i hi) hp hf) (by simp)
end
end Go.Proofs.Ytkpmdfgjaodlaaa
