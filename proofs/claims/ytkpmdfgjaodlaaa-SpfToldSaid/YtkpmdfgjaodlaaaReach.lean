/-
  Which nodes lie behind an edge. No statement is proved here; no conditions.
-/
import Derived.Test.YtkpmdfgjaodlaaaFol
namespace Go.Proofs.Ytkpmdfgjaodlaaa

/-- The edges that may be used. -/
def UG (U : List Bool) (G : List NE) : List NE := ((List.range G.length).filter (ub U)).map (gn G)
theorem ug_of {U : List Bool} {G : List NE} {i : Nat} (hi : i < G.length) (hu : ub U i = true) : ∃ j, j < (UG U G).length ∧ gn (UG U G) j = gn G i := by
  have : gn G i ∈ UG U G := List.mem_map.2 ⟨i, List.mem_filter.2 ⟨List.mem_range.2 hi, hu⟩, rfl⟩
  obtain ⟨j, hj, e⟩ := List.getElem_of_mem this
  exact ⟨j, hj, by rw [gn_eq hj, e]⟩
theorem of_ug {U : List Bool} {G : List NE} {j : Nat} (hj : j < (UG U G).length) : ∃ i, i < G.length ∧ ub U i = true ∧ gn (UG U G) j = gn G i := by
  have : gn (UG U G) j ∈ UG U G := by rw [gn_eq hj]; exact List.getElem_mem _
  obtain ⟨i, hi, e⟩ := List.mem_map.1 this
  obtain ⟨h1, h2⟩ := List.mem_filter.1 hi
  exact ⟨i, List.mem_range.1 h1, h2, e.symm⟩
/-- A path of edges that may be used begins with first and leads to v. -/
def Rc (U : List Bool) (G : List NE) (first v : Nat) : Prop := ub U first = true ∧ ∃ l n, Wk (UG U G) (gn G first).t v l n
section
variable {U : List Bool} {G : List NE} {N first : Nat}
theorem Rc.start (h : ub U first = true) : Rc U G first (gn G first).t := ⟨h, 0, 0, .nil⟩
theorem Rc.step {i : Nat} (h : Rc U G first (gn G i).f) (hi : i < G.length) (hu : ub U i = true) : Rc U G first (gn G i).t := by
  obtain ⟨h1, l, n, h2⟩ := h
  obtain ⟨j, hj, e⟩ := ug_of hi hu
  have := h2.snoc j hj (by rw [e])
  rw [e] at this
  exact ⟨h1, _, _, this⟩
theorem Rc.ind {P : Nat → Prop} {v : Nat} (h : Rc U G first v) (h0 : ub U first = true → P (gn G first).t) (hs : ∀ i, i < G.length → ub U i = true → P (gn G i).f → P (gn G i).t) : P v := by
  obtain ⟨h1, l, n, h2⟩ := h
  induction h2 with
  | nil => exact h0 h1
  | snoc j h hj hf ih =>
    obtain ⟨i, hi, hu, e⟩ := of_ug hj
    rw [e] at hf ⊢
    exact hs i hi hu (hf ▸ ih)
theorem fol_pre (ns : List Nat) (i : Nat) : ns <+: fol U G ns i := by
  unfold fol
  split
  · exact List.prefix_append _ _
  · exact List.prefix_rfl
theorem folL_pre (l : List Nat) : ∀ ns : List Nat, ns <+: l.foldl (fol U G) ns := by
  induction l with
  | nil => exact fun _ => List.prefix_rfl
  | cons i l ih => exact fun ns => (fol_pre ns i).trans (ih _)
theorem fol_nodup {ns : List Nat} (h : ns.Nodup) (i : Nat) : (fol U G ns i).Nodup := by
  unfold fol
  split
  · next e => exact List.nodup_append.2 ⟨h, by simp, fun a ha b hb => by simp at hb; rintro rfl; exact e.2 (hb ▸ ha)⟩
  · exact h
theorem folL_nodup (l : List Nat) : ∀ {ns : List Nat}, ns.Nodup → (l.foldl (fol U G) ns).Nodup := by
  induction l with
  | nil => exact fun h => h
  | cons i l ih => exact fun h => ih (fol_nodup h i)
theorem fol_mem {ns : List Nat} {i : Nat} (h : ub U i = true) : (gn G i).t ∈ fol U G ns i := by
  unfold fol
  by_cases e : (gn G i).t ∈ ns
  · simp [e]
  · simp [h, e]
theorem folL_mem (l : List Nat) : ∀ {ns : List Nat} {i : Nat}, i ∈ l → ub U i = true → (gn G i).t ∈ l.foldl (fol U G) ns := by
  induction l with
  | nil => intro ns i h; cases h
  | cons j l ih =>
    intro ns i h hu
    rcases List.mem_cons.1 h with rfl | h
    · exact (folL_pre l _).subset (fol_mem hu)
    · exact ih h hu
theorem fol_sound {P : Nat → Prop} {ns : List Nat} {i : Nat} (h : ∀ v ∈ ns, P v) (hi : ub U i = true → P (gn G i).t) : ∀ v ∈ fol U G ns i, P v := by
  unfold fol
  split
  · next e =>
    intro v hv
    rcases List.mem_append.1 hv with hv | hv
    · exact h v hv
    · simp at hv; subst hv; exact hi e.1
  · exact h
theorem folL_sound {P : Nat → Prop} (l : List Nat) : ∀ {ns : List Nat}, (∀ v ∈ ns, P v) → (∀ i ∈ l, ub U i = true → P (gn G i).t) → ∀ v ∈ l.foldl (fol U G) ns, P v := by
  induction l with
  | nil => exact fun h _ => h
  | cons j l ih => exact fun h hl => ih (fol_sound h (hl j (by simp))) (fun i hi => hl i (by simp [hi]))
theorem gw_pre {a b : List Nat} (h : a <+: b) {j : Nat} (hj : j < a.length) : gw b j = gw a j := by
  obtain ⟨t, rfl⟩ := h
  rw [gw_eq hj, gw_eq (by simp; omega), List.getElem_append_left hj]
/-- Between two nodes. -/
structure BI (U : List Bool) (G : List NE) (N first : Nat) (ns : List Nat) (k : Nat) : Prop where
  nd : ns.Nodup
  lt : ∀ v ∈ ns, v < N
  st : ub U first = true → (gn G first).t ∈ ns
  so : ∀ v ∈ ns, Rc U G first v
  cl : ∀ j, j < k → ∀ i, i < G.length → (gn G i).f = gw ns j → ub U i = true → (gn G i).t ∈ ns
  kl : k ≤ ns.length
theorem BI.start (hg : GV N G) (hf : first < G.length) : BI U G N first (fol U G [] first) 0 :=
  ⟨fol_nodup (by simp) _, fol_sound (by simp) (fun _ => hg.t _ hf), fun h => fol_mem h, fol_sound (by simp) Rc.start, fun j h => by omega, Nat.zero_le _⟩
theorem BI.next {ns : List Nat} {k : Nat} (h : BI U G N first ns k) (hg : GV N G) (hk : k < ns.length) : BI U G N first ((outs G G.length (gw ns k)).foldl (fol U G) ns) (k + 1) := by
  have hp := folL_pre (U := U) (G := G) (outs G G.length (gw ns k)) ns
  have hmem : gw ns k ∈ ns := by rw [gw_eq hk]; exact List.getElem_mem _
  refine ⟨folL_nodup _ h.nd, folL_sound _ h.lt (fun i hi _ => hg.t i (mem_outs.1 hi).1), fun hu => hp.subset (h.st hu), folL_sound _ h.so (fun i hi hu => ?_), fun j hj i hi hf hu => ?_, ?_⟩
  · obtain ⟨h1, h2⟩ := mem_outs.1 hi
    exact Rc.step (h2 ▸ h.so _ hmem) h1 hu
  · rcases Nat.lt_or_ge j k with e | e
    · rw [gw_pre hp (by omega)] at hf
      exact hp.subset (h.cl j e i hi hf hu)
    · have : j = k := by omega
      subst this
      rw [gw_pre hp hk] at hf
      exact folL_mem _ (mem_outs.2 ⟨hi, hf⟩) hu
  · have := hp.length_le
    have : ns.length ≤ ((outs G G.length (gw ns k)).foldl (fol U G) ns).length := this
    omega
theorem BI.done {ns : List Nat} (h : BI U G N first ns ns.length) : ∀ v, v ∈ ns ↔ Rc U G first v := fun v =>
  ⟨h.so v, fun hr => hr.ind h.st (fun i hi hu hf => by
    obtain ⟨j, hj, e⟩ := List.getElem_of_mem hf
    exact h.cl j hj i hi (by rw [gw_eq hj, e]) hu)⟩
theorem BI.small {ns : List Nat} {k : Nat} (h : BI U G N first ns k) : ns.length ≤ N := nodup_le N ns h.nd h.lt
end
end Go.Proofs.Ytkpmdfgjaodlaaa
