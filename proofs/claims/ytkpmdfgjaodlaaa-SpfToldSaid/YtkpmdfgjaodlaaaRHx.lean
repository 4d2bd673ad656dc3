/-
  Hops by handing on over all edges, again and again. No statement is proved here; no conditions.
-/
import Derived.Test.YtkpmdfgjaodlaaaHopM
namespace Go.Proofs.Ytkpmdfgjaodlaaa

/-! ### A number more in a row that rises -/
/-- Put ahead of the first that is greater. -/
def inI (n : Nat) : List Nat → List Nat
  | [] => [n]
  | x :: l => if n < x then n :: x :: l else x :: inI n l
/-- Is one greater? -/
def gt1 (n : Nat) (l : List Nat) : Bool := l.any fun x => decide (n < x)
theorem inI_no {n : Nat} {l : List Nat} (h : gt1 n l = false) : inI n l = l ++ [n] := by
  induction l with
  | nil => rfl
  | cons x l ih =>
    simp only [gt1, List.any_cons, Bool.or_eq_false_iff, decide_eq_false_iff_not] at h
    rw [inI, if_neg h.1, ih h.2]
    rfl
theorem inI_yes {n x : Nat} {l : List Nat} (h : gt1 n l = true) : inI n (l ++ [x]) = inI n l ++ [x] := by
  induction l with
  | nil => simp [gt1] at h
  | cons y l ih =>
    by_cases e : n < y
    · simp [inI, e]
    · have h' : gt1 n l = true := by
        simp only [gt1, List.any_cons, decide_eq_false e, Bool.false_or] at h
        exact h
      rw [List.cons_append, inI, if_neg e, ih h', inI, if_neg e, List.cons_append]
theorem inI_first {n x : Nat} {l : List Nat} (h : gt1 n l = false) (hx : n < x) : inI n (l ++ [x]) = l ++ [n] ++ [x] := by
  induction l with
  | nil => simp [inI, hx]
  | cons y l ih =>
    simp only [gt1, List.any_cons, Bool.or_eq_false_iff, decide_eq_false_iff_not] at h
    rw [List.cons_append, inI, if_neg h.1, ih h.2]
    rfl
theorem mem_inI {n a : Nat} {l : List Nat} : a ∈ inI n l ↔ a = n ∨ a ∈ l := by
  induction l with
  | nil => simp [inI]
  | cons x l ih =>
    rw [inI]
    split
    · simp
    · rw [List.mem_cons, ih, List.mem_cons]
      constructor
      · rintro (h | h | h)
        · exact .inr (.inl h)
        · exact .inl h
        · exact .inr (.inr h)
      · rintro (h | h | h)
        · exact .inr (.inl h)
        · exact .inl h
        · exact .inr (.inr h)
/-- It rises. -/
abbrev Rs (l : List Nat) : Prop := l.Pairwise (· < ·)
theorem inI_rs {n : Nat} {l : List Nat} (h : Rs l) (hn : n ∉ l) : Rs (inI n l) := by
  induction l with
  | nil => simp [inI, Rs]
  | cons x l ih =>
    obtain ⟨h1, h2⟩ := List.pairwise_cons.1 h
    rw [inI]
    split
    · next e =>
      refine List.pairwise_cons.2 ⟨fun a ha => ?_, h⟩
      rcases List.mem_cons.1 ha with rfl | ha
      · exact e
      · exact Nat.lt_trans e (h1 a ha)
    · next e =>
      have hx : n ≠ x := fun e => hn (by simp [e])
      refine List.pairwise_cons.2 ⟨fun a ha => ?_, ih h2 (fun x => hn (List.mem_cons_of_mem _ x))⟩
      rcases mem_inI.1 ha with rfl | ha
      · omega
      · exact h1 a ha
def into (l : List Nat) (n : Nat) : List Nat := if n ∈ l then l else inI n l
theorem into_has {l : List Nat} {n : Nat} (h : n ∈ l) : into l n = l := if_pos h
theorem into_not {l : List Nat} {n : Nat} (h : n ∉ l) : into l n = inI n l := if_neg h
theorem mem_into {l : List Nat} {n a : Nat} : a ∈ into l n ↔ a = n ∨ a ∈ l := by
  unfold into
  split
  · next h => exact ⟨.inr, fun e => e.elim (fun e => e ▸ h) id⟩
  · exact mem_inI
theorem into_rs {l : List Nat} {n : Nat} (h : Rs l) : Rs (into l n) := by
  unfold into
  split
  · exact h
  · next hn => exact inI_rs h hn
/-- Several numbers more. -/
def intoL (l ns : List Nat) : List Nat := ns.foldl into l
theorem mem_intoL (ns : List Nat) : ∀ {l : List Nat} {a : Nat}, a ∈ intoL l ns ↔ a ∈ ns ∨ a ∈ l := by
  induction ns with
  | nil => simp [intoL]
  | cons n ns ih =>
    intro l a
    show a ∈ intoL (into l n) ns ↔ _
    rw [ih, mem_into, List.mem_cons]
    constructor
    · rintro (h | h | h)
      · exact .inl (.inr h)
      · exact .inl (.inl h)
      · exact .inr h
    · rintro ((h | h) | h)
      · exact .inr (.inl h)
      · exact .inl h
      · exact .inr (.inr h)
theorem intoL_rs (ns : List Nat) : ∀ {l : List Nat}, Rs l → Rs (intoL l ns) := by
  induction ns with
  | nil => exact fun h => h
  | cons n ns ih => exact fun h => ih (into_rs h)
theorem intoL_self (ns : List Nat) : ∀ {l : List Nat}, (∀ a ∈ ns, a ∈ l) → intoL l ns = l := by
  induction ns with
  | nil => exact fun _ => rfl
  | cons n ns ih =>
    intro l h
    show intoL (into l n) ns = l
    rw [into_has (h n (by simp))]
    exact ih fun a ha => h a (List.mem_cons_of_mem _ ha)
theorem intoL_snoc (l ns : List Nat) (n : Nat) : intoL l (ns ++ [n]) = into (intoL l ns) n := by simp [intoL, List.foldl_append]
theorem rs_unique : ∀ {a b : List Nat}, Rs a → Rs b → (∀ x, x ∈ a ↔ x ∈ b) → a = b
  | [], [], _, _, _ => rfl
  | [], y :: b, _, _, h => absurd ((h y).2 (by simp)) (by simp)
  | x :: a, [], _, _, h => absurd ((h x).1 (by simp)) (by simp)
  | x :: a, y :: b, ha, hb, h => by
    obtain ⟨a1, a2⟩ := List.pairwise_cons.1 ha
    obtain ⟨b1, b2⟩ := List.pairwise_cons.1 hb
    have hxy : x = y := by
      have p := (h x).1 (by simp)
      have q := (h y).2 (by simp)
      rcases List.mem_cons.1 p with p | p
      · exact p
      · rcases List.mem_cons.1 q with q | q
        · exact q.symm
        · have := b1 x p; have := a1 y q; omega
    subst hxy
    have : a = b := rs_unique a2 b2 fun z => by
      have := h z
      rw [List.mem_cons, List.mem_cons] at this
      constructor
      · intro hz
        rcases this.1 (.inr hz) with e | e
        · subst e; exact absurd (a1 z hz) (Nat.lt_irrefl _)
        · exact e
      · intro hz
        rcases this.2 (.inr hz) with e | e
        · subst e; exact absurd (b1 z hz) (Nat.lt_irrefl _)
        · exact e
    rw [this]

/-! ### Handing on -/
section
variable {N : Nat} {G : List NE} {U : List Bool} {root k i : Nat} {H : List (List Nat)}
/-- A path of n edges more leads from the root's edge a to u. -/
def Hw (G : List NE) (U : List Bool) (root a u n : Nat) : Prop := a < G.length ∧ (gn G a).f = root ∧ ub U a = true ∧ ∃ l, Wk (UG U G) (gn G a).t u l n
/-- Behind k rounds and i edges. -/
structure HX (N : Nat) (G : List NE) (U : List Bool) (root k i : Nat) (H : List (List Nat)) : Prop where
  len : H.length = N
  asc : ∀ u, Rs (gl H u)
  sound : ∀ u a, a ∈ gl H u → a < G.length ∧ (gn G a).f = root ∧ Rc U G a u
  lo : ∀ a u n, Hw G U root a u n → n < k → a ∈ gl H u
  e1 : ∀ j, j < i → ub U j = true → (gn G j).f = root → j ∈ gl H (gn G j).t
  e2 : ∀ j, j < i → ub U j = true → ∀ a n, Hw G U root a (gn G j).f n → n < k → a ∈ gl H (gn G j).t
theorem gl_rep (N u : Nat) : gl (List.replicate N []) u = [] := by
  unfold gl List.getD
  rw [List.getElem?_replicate]
  split <;> rfl
theorem HX.start : HX N G U root 0 0 (List.replicate N []) :=
  ⟨by simp, fun u => by rw [gl_rep]; exact List.Pairwise.nil, fun u a h => by rw [gl_rep] at h; simp at h, fun _ _ _ _ h => absurd h (by omega), fun _ h => absurd h (by omega), fun _ h => absurd h (by omega)⟩
theorem HX.next (h : HX N G U root k G.length H) : HX N G U root (k + 1) 0 H := by
  refine ⟨h.len, h.asc, h.sound, fun a u n hw hn => ?_, fun _ h => absurd h (by omega), fun _ h => absurd h (by omega)⟩
  obtain ⟨h1, h2, h3, l, hl⟩ := hw
  cases hl with
  | nil => exact h.e1 a h1 h3 h2
  | snoc i' hw hi hf =>
    obtain ⟨j, hj, hu, e⟩ := of_ug hi
    rw [e] at hf ⊢
    exact h.e2 j hj hu a _ ⟨h1, h2, h3, _, by rw [hf]; exact hw⟩ (by omega)
theorem Hw.ne {a u n : Nat} (h : Hw G U root a u n) (hU : ∀ j, j < G.length → ub U j = true → (gn G j).t ≠ root) : u ≠ root := by
  obtain ⟨h1, h2, h3, l, hl⟩ := h
  cases hl with
  | nil => exact hU a h1 h3
  | snoc i' hw hi hf =>
    obtain ⟨j, hj, hu, e⟩ := of_ug hi
    rw [e]
    exact hU j hj hu
/-- An edge that may not be used. -/
theorem HX.skip (h : HX N G U root k i H) (hu : ub U i = false) : HX N G U root k (i + 1) H := by
  refine ⟨h.len, h.asc, h.sound, h.lo, fun j hj hju => ?_, fun j hj hju => ?_⟩
  · rcases Nat.lt_or_ge j i with e | e
    · exact h.e1 j e hju
    · have : j = i := by omega
      subst this
      rw [hu] at hju
      cases hju
  · rcases Nat.lt_or_ge j i with e | e
    · exact h.e2 j e hju
    · have : j = i := by omega
      subst this
      rw [hu] at hju
      cases hju
/-- Numbers more for the node to which an edge leads. -/
theorem HX.more (h : HX N G U root k i H) (hg : GV N G) (hi : i < G.length) (hu : ub U i = true) (ns : List Nat) (hs : ∀ a ∈ ns, a < G.length ∧ (gn G a).f = root ∧ Rc U G a (gn G i).t)
    (h1 : (gn G i).f = root → i ∈ ns) (h2 : ∀ a n, Hw G U root a (gn G i).f n → n < k → a ∈ ns) : HX N G U root k (i + 1) (H.set (gn G i).t (intoL (gl H (gn G i).t) ns)) := by
  have ht : (gn G i).t < H.length := by rw [h.len]; exact hg.t i hi
  have hsub : ∀ u a, a ∈ gl H u → a ∈ gl (H.set (gn G i).t (intoL (gl H (gn G i).t) ns)) u := fun u a ha => by
    rw [gl_set _ _ _ _ ht]
    split
    · next e => subst e; exact (mem_intoL ns).2 (.inr ha)
    · exact ha
  refine ⟨by simpa using h.len, fun u => ?_, fun u a ha => ?_, fun a u n hw hn => hsub _ _ (h.lo a u n hw hn), fun j hj hju hf => ?_, fun j hj hju a n hw hn => ?_⟩
  · rw [gl_set _ _ _ _ ht]
    split
    · exact intoL_rs ns (h.asc _)
    · exact h.asc u
  · rw [gl_set _ _ _ _ ht] at ha
    split at ha
    · next e =>
      subst e
      rcases (mem_intoL ns).1 ha with q | q
      · exact hs a q
      · exact h.sound _ a q
    · exact h.sound u a ha
  · rcases Nat.lt_or_ge j i with e | e
    · exact hsub _ _ (h.e1 j e hju hf)
    · have : j = i := by omega
      subst this
      rw [gl_set _ _ _ _ ht, if_pos rfl]
      exact (mem_intoL ns).2 (.inl (h1 hf))
  · rcases Nat.lt_or_ge j i with e | e
    · exact hsub _ _ (h.e2 j e hju a n hw hn)
    · have : j = i := by omega
      subst this
      rw [gl_set _ _ _ _ ht, if_pos rfl]
      exact (mem_intoL ns).2 (.inl (h2 a n hw hn))
theorem HX.first (h : HX N G U root k i H) (hg : GV N G) (hi : i < G.length) (hu : ub U i = true) (hf : (gn G i).f = root) (hU : ∀ j, j < G.length → ub U j = true → (gn G j).t ≠ root) : HX N G U root k (i + 1) (H.set (gn G i).t (into (gl H (gn G i).t) i)) :=
  h.more hg hi hu [i] (fun a ha => by rw [List.mem_singleton] at ha; subst ha; exact ⟨hi, hf, Rc.start hu⟩) (fun _ => by simp) (fun a n hw _ => absurd hf (hw.ne hU))
theorem HX.hand (h : HX N G U root k i H) (hg : GV N G) (hi : i < G.length) (hu : ub U i = true) (hf : (gn G i).f ≠ root) : HX N G U root k (i + 1) (H.set (gn G i).t (intoL (gl H (gn G i).t) (gl H (gn G i).f))) :=
  h.more hg hi hu _ (fun a ha => by obtain ⟨q1, q2, q3⟩ := h.sound _ a ha; exact ⟨q1, q2, q3.step hi hu⟩) (fun e => absurd e hf) (fun a n hw hn => h.lo a _ n hw hn)
/-- A row is not changed by what it hands on to itself. -/
theorem gl_hand {f t : Nat} (ht : t < H.length) (m : Nat) : gl (H.set t (intoL (gl H t) ((gl H f).take m))) f = gl H f := by
  rw [gl_set _ _ _ _ ht]
  split
  · next e => subst e; exact intoL_self _ fun a ha => List.mem_of_mem_take ha
  · rfl
theorem HX.small (h : HX N G U root k i H) (hg : GV N G) (u : Nat) : (gl H u).length ≤ 400 := by
  have h1 := nodup_le G.length (gl H u) ((h.asc u).imp (fun e => Nat.ne_of_lt e)) (fun a ha => (h.sound u a ha).1)
  have := hg.m
  omega
theorem outs_rs (G : List NE) (k u : Nat) : Rs (outs G k u) := List.Pairwise.filter _ List.pairwise_lt_range
theorem HX.done (h : HX N G U root (N + 1) 0 H) (hg : GV N G) : ∀ u, u < N → gl H u = hopF U G root (outs G G.length root).length u := fun u _ => by
  refine rs_unique (h.asc u) ?_ fun a => ?_
  · unfold hopF
    rw [List.take_length]
    exact List.Pairwise.filter _ (outs_rs G _ _)
  · unfold hopF
    rw [List.take_length, List.mem_filter, mem_outs]
    constructor
    · intro ha
      obtain ⟨q1, q2, q3⟩ := h.sound u a ha
      exact ⟨⟨q1, q2⟩, by simpa using q3⟩
    · rintro ⟨⟨q1, q2⟩, q3⟩
      have q4 : Rc U G a u := by simpa using q3
      obtain ⟨q5, l, n, hw⟩ := q4
      obtain ⟨l', n', _, r2, r3⟩ := hw.short (N := N) (hg.t a q1) (fun j hj => by
        obtain ⟨i, hi, _, e⟩ := of_ug hj
        rw [e]
        exact hg.t i hi)
      exact h.lo a u n' ⟨q1, q2, q5, l', r3⟩ (by omega)
end
end Go.Proofs.Ytkpmdfgjaodlaaa
