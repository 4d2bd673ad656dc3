/-
  Plain lemmas on items (a key and a number), on lists of them in order, and on lists that are a binary heap. No statement is proved here; no conditions.
-/
import Derived.Lib.Hide
namespace Go.Proofs.Ytkpmdfgjaodlaaa

abbrev It := Int × Int
/-- x comes before y. -/
def lt (x y : It) : Bool := decide (x.1 < y.1 ∨ x.1 = y.1 ∧ x.2 < y.2)
theorem lt_false {x y : It} : lt x y = false ↔ y.1 < x.1 ∨ y.1 = x.1 ∧ y.2 ≤ x.2 := by
  unfold lt
  rw [decide_eq_false_iff_not]
  omega
theorem lt_true {x y : It} : lt x y = true ↔ x.1 < y.1 ∨ x.1 = y.1 ∧ x.2 < y.2 := by
  unfold lt
  rw [decide_eq_true_eq]
theorem lt_irrefl (x : It) : lt x x = false := lt_false.2 (by omega)
theorem le_trans {a b c : It} (h1 : lt b a = false) (h2 : lt c b = false) : lt c a = false := by
  rw [lt_false] at *
  omega
theorem le_anti {a b : It} (h1 : lt b a = false) (h2 : lt a b = false) : a = b := by
  rw [lt_false] at *
  exact Prod.ext (by omega) (by omega)
theorem lt_asymm {a b : It} (h : lt a b = true) : lt b a = false := by
  rw [lt_true] at h
  rw [lt_false]
  omega

/-! ### Lists in order -/
def ins (x : It) : List It → List It
  | [] => [x]
  | y :: m => if lt x y then x :: y :: m else y :: ins x m
def srt (l : List It) : List It := l.foldl (fun m x => ins x m) []
def Asc (m : List It) : Prop := m.Pairwise fun a b => lt b a = false

theorem ins_perm (x : It) (m : List It) : (ins x m).Perm (x :: m) := by
  induction m with
  | nil => exact List.Perm.refl _
  | cons y m ih =>
    unfold ins
    split
    · exact List.Perm.refl _
    · exact (ih.cons y).trans (List.Perm.swap x y m)
theorem ins_length (x : It) (m : List It) : (ins x m).length = m.length + 1 := by simpa using (ins_perm x m).length_eq
theorem ins_asc (x : It) (m : List It) (h : Asc m) : Asc (ins x m) := by
  induction m with
  | nil => exact List.pairwise_singleton _ _
  | cons y m ih =>
    obtain ⟨h1, h2⟩ := List.pairwise_cons.1 h
    unfold ins
    split
    · rename_i hx
      refine List.pairwise_cons.2 ⟨fun z hz => ?_, h⟩
      rcases List.mem_cons.1 hz with rfl | hz
      · exact lt_asymm hx
      · exact le_trans (lt_asymm hx) (h1 z hz)
    · rename_i hx
      refine List.pairwise_cons.2 ⟨fun z hz => ?_, ih h2⟩
      rcases List.mem_cons.1 ((ins_perm x m).mem_iff.1 hz) with rfl | hz
      · simpa using hx
      · exact h1 z hz
theorem srt_snoc (l : List It) (x : It) : srt (l ++ [x]) = ins x (srt l) := by simp [srt]
theorem srt_perm (l : List It) : (srt l).Perm l := by
  have H : ∀ (l m : List It), (l.foldl (fun m x => ins x m) m).Perm (m ++ l) := by
    intro l
    induction l with
    | nil => intro m; simp
    | cons x l ih =>
      intro m
      refine (ih (ins x m)).trans ?_
      refine ((ins_perm x m).append_right l).trans ?_
      simpa using List.perm_middle.symm
  simpa [srt] using H l []
theorem srt_asc (l : List It) : Asc (srt l) := by
  have H : ∀ (l m : List It), Asc m → Asc (l.foldl (fun m x => ins x m) m) := by
    intro l
    induction l with
    | nil => intro m h; exact h
    | cons x l ih => intro m h; exact ih _ (ins_asc x m h)
  exact H l [] List.Pairwise.nil
theorem srt_length (l : List It) : (srt l).length = l.length := (srt_perm l).length_eq
theorem asc_unique : ∀ {a b : List It}, Asc a → Asc b → a.Perm b → a = b
  | [], b, _, _, h => (List.nil_perm.1 h).symm
  | x :: a, [], _, _, h => absurd h.length_eq (by simp)
  | x :: a, y :: b, h1, h2, h => by
    obtain ⟨p1, p2⟩ := List.pairwise_cons.1 h1
    obtain ⟨q1, q2⟩ := List.pairwise_cons.1 h2
    have hxy : x = y := by
      have hx : x ∈ y :: b := h.mem_iff.1 (by simp)
      have hy : y ∈ x :: a := h.mem_iff.2 (by simp)
      rcases List.mem_cons.1 hx with e | hx
      · exact e
      rcases List.mem_cons.1 hy with e | hy
      · exact e.symm
      exact le_anti (p1 y hy) (q1 x hx)
    subst hxy
    rw [asc_unique p2 q2 (List.Perm.cons_inv h)]
theorem srt_eq {l m : List It} (h : Asc m) (hp : m.Perm l) : srt l = m := asc_unique (srt_asc l) h ((srt_perm l).trans hp.symm)
theorem srt_congr {l m : List It} (h : l.Perm m) : srt l = srt m := srt_eq (srt_asc m) ((srt_perm m).trans h.symm)
theorem asc_tail {x : It} {m : List It} (h : Asc (x :: m)) : Asc m := (List.pairwise_cons.1 h).2

/-! ### A list that is a heap -/
def gt (d : List It) (i : Nat) : It := d.getD i (0, 0)
def swp (d : List It) (i j : Nat) : List It := (d.set i (gt d j)).set j (gt d i)
theorem gt_eq {d : List It} {i : Nat} (h : i < d.length) : gt d i = d[i] := by simp [gt, List.getD, h]
theorem gt_set (d : List It) (i k : Nat) (x : It) (h : i < d.length) : gt (d.set i x) k = if k = i then x else gt d k := by
  unfold gt List.getD
  rw [List.getElem?_set]
  by_cases e : i = k
  · subst e; simp [h]
  · rw [if_neg e, if_neg (fun x => e x.symm)]
theorem swp_length (d : List It) (i j : Nat) : (swp d i j).length = d.length := by simp [swp]
theorem gt_swp (d : List It) (i j k : Nat) (hi : i < d.length) (hj : j < d.length) : gt (swp d i j) k = if k = j then gt d i else if k = i then gt d j else gt d k := by
  unfold swp
  rw [gt_set _ _ _ _ (by simpa using hj), gt_set _ _ _ _ hi]
theorem swp_perm (d : List It) (i j : Nat) (hi : i < d.length) (hj : j < d.length) : (swp d i j).Perm d := by
  unfold swp
  rw [gt_eq hi, gt_eq hj]
  exact List.set_set_perm hi hj

def Chi (p c : Nat) : Prop := c = 2 * p + 1 ∨ c = 2 * p + 2
/-- From place lo on no child comes before its parent. -/
def Hpf (lo : Nat) (d : List It) : Prop := ∀ p c, lo ≤ p → Chi p c → c < d.length → lt (gt d c) (gt d p) = false
/-- .. but place i may be too great. -/
def Snk (lo i : Nat) (d : List It) : Prop :=
  (∀ p c, lo ≤ p → Chi p c → c < d.length → p ≠ i → lt (gt d c) (gt d p) = false) ∧ ∀ p c, lo ≤ p → Chi p i → Chi i c → c < d.length → lt (gt d c) (gt d p) = false
/-- .. but place i may be too small. -/
def Ris (i : Nat) (d : List It) : Prop :=
  (∀ p c, Chi p c → c < d.length → c ≠ i → lt (gt d c) (gt d p) = false) ∧ ∀ p c, Chi p i → Chi i c → c < d.length → lt (gt d c) (gt d p) = false

theorem snk_step {lo i L : Nat} {d : List It} (h : Snk lo i d) (hlo : lo ≤ i) (hL : Chi i L) (hn : L < d.length) (hb : ∀ c, Chi i c → c < d.length → lt (gt d c) (gt d L) = false) (hi : lt (gt d i) (gt d L) = false) : Snk lo L (swp d i L) := by
  obtain ⟨h1, h2⟩ := h
  have hiL : i < L := by unfold Chi at hL; omega
  have G := fun k => gt_swp d i L k (by omega) hn
  constructor
  · intro p c hp hc hcl hpL
    rw [swp_length] at hcl
    rw [G, G, if_neg hpL]
    by_cases e : p = i
    · subst e
      rw [if_pos rfl]
      by_cases e2 : c = L
      · rw [if_pos e2]; exact hi
      · rw [if_neg e2, if_neg (by unfold Chi at hc; omega)]; exact hb c hc hcl
    · rw [if_neg e, if_neg (by unfold Chi at hc hL; omega)]
      by_cases e2 : c = i
      · subst e2; rw [if_pos rfl]; exact h2 p L hp hc hL hn
      · rw [if_neg e2]; exact h1 p c hp hc hcl e
  · intro p c hp hc hc2 hcl
    rw [swp_length] at hcl
    obtain rfl : p = i := by unfold Chi at hc hL; omega
    rw [G, G, if_neg (by unfold Chi at hc2; omega), if_neg (by unfold Chi at hc2; omega), if_neg (by omega), if_pos rfl]
    exact h1 L c (by omega) hc2 hcl (by omega)
theorem snk_done {lo i : Nat} {d : List It} (h : Snk lo i d) (hb : ∀ c, Chi i c → c < d.length → lt (gt d c) (gt d i) = false) : Hpf lo d := by
  intro p c hp hc hcl
  by_cases e : p = i
  · subst e; exact hb c hc hcl
  · exact h.1 p c hp hc hcl e
theorem snk_of {i : Nat} {d : List It} (h : Hpf (i + 1) d) : Snk i i d :=
  ⟨fun p c hp hc hcl hne => h p c (by omega) hc hcl, fun p c hp hc _ _ => by unfold Chi at hc; omega⟩
theorem hpf_half (d : List It) : Hpf (d.length / 2) d := fun p c hp hc hcl => by unfold Chi at hc; omega
theorem ris_step {i p0 : Nat} {d : List It} (h : Ris i d) (hp0 : Chi p0 i) (hn : i < d.length) (hb : lt (gt d i) (gt d p0) = true) : Ris p0 (swp d i p0) := by
  obtain ⟨h1, h2⟩ := h
  have hiL : p0 < i := by unfold Chi at hp0; omega
  have G := fun k => gt_swp d i p0 k hn (by omega)
  constructor
  · intro p c hc hcl hcp
    rw [swp_length] at hcl
    rw [G, G, if_neg hcp]
    by_cases e : c = i
    · subst e
      obtain rfl : p = p0 := by unfold Chi at hc hp0; omega
      rw [if_pos rfl, if_pos rfl]
      exact lt_asymm hb
    · rw [if_neg e]
      by_cases e2 : p = p0
      · subst e2
        rw [if_pos rfl]
        exact le_trans (lt_asymm hb) (h1 p c hc hcl e)
      · rw [if_neg e2]
        by_cases e3 : p = i
        · subst e3; rw [if_pos rfl]; exact h2 p0 c hp0 hc hcl
        · rw [if_neg e3]; exact h1 p c hc hcl e
  · intro p c hp hc hcl
    rw [swp_length] at hcl
    have a1 := h1 p p0 hp (by omega) (by omega)
    rw [G, G, if_neg (by unfold Chi at hc; omega), if_neg (c := p = p0) (by unfold Chi at hp; omega), if_neg (c := p = i) (by unfold Chi at hp; omega)]
    by_cases e : c = i
    · rw [if_pos e]; exact a1
    · rw [if_neg e]; exact le_trans a1 (h1 p0 c hc hcl e)
theorem ris_zero {d : List It} (h : Ris 0 d) : Hpf 0 d := fun p c _ hc hcl => h.1 p c hc hcl (by unfold Chi at hc; omega)
theorem ris_done {i p0 : Nat} {d : List It} (h : Ris i d) (hp0 : Chi p0 i) (hb : lt (gt d i) (gt d p0) = false) : Hpf 0 d := by
  intro p c _ hc hcl
  by_cases e : c = i
  · subst e
    obtain rfl : p = p0 := by unfold Chi at hc hp0; omega
    exact hb
  · exact h.1 p c hc hcl e
theorem top_least {d : List It} (h : Hpf 0 d) (j : Nat) : j < d.length → lt (gt d j) (gt d 0) = false := by
  induction j using Nat.strongRecOn with
  | _ j ih =>
    intro hj
    rcases Nat.eq_zero_or_pos j with rfl | hp
    · exact lt_irrefl _
    · exact le_trans (ih ((j - 1) / 2) (by omega) (by omega)) (h ((j - 1) / 2) j (by omega) (by unfold Chi; omega) hj)
theorem top_eq {x : It} {m d : List It} (h : Hpf 0 d) (ha : Asc (x :: m)) (hp : (x :: m).Perm d) : gt d 0 = x := by
  have hl : 0 < d.length := by have := hp.length_eq; simp at this; omega
  have h0 : gt d 0 ∈ x :: m := hp.mem_iff.2 (by rw [gt_eq hl]; exact List.getElem_mem hl)
  rcases List.mem_cons.1 h0 with e | h1
  · exact e
  · obtain ⟨j, hj, e⟩ := List.getElem_of_mem (hp.mem_iff.1 (List.mem_cons_self (a := x) (l := m)))
    have h2 := top_least h j hj
    rw [gt_eq hj, e] at h2
    exact le_anti h2 ((List.pairwise_cons.1 ha).1 _ h1)
theorem snoc_ris {d : List It} {x : It} (h : Hpf 0 d) : Ris d.length (d ++ [x]) := by
  have G : ∀ k, k < d.length → gt (d ++ [x]) k = gt d k := fun k hk => by simp [gt, List.getD, List.getElem?_append_left hk]
  constructor
  · intro p c hc hcl hne
    rw [List.length_append, List.length_singleton] at hcl
    rw [G c (by omega), G p (by unfold Chi at hc; omega)]
    exact h p c (by omega) hc (by omega)
  · intro p c _ hc hcl
    rw [List.length_append, List.length_singleton] at hcl
    unfold Chi at hc
    omega
/-- The last one laid at the first place, and one less. -/
def cut (d : List It) : List It := (d.set 0 (gt d (d.length - 1))).take (d.length - 1)
theorem cut_length (d : List It) : (cut d).length = d.length - 1 := by simp [cut]
theorem cut_snk {d : List It} (h : Hpf 0 d) : Snk 0 0 (cut d) := by
  have G : ∀ k, k < d.length - 1 → k ≠ 0 → gt (cut d) k = gt d k := fun k hk h0 => by
    unfold cut
    have : gt ((d.set 0 (gt d (d.length - 1))).take (d.length - 1)) k = gt (d.set 0 (gt d (d.length - 1))) k := by
      unfold gt List.getD
      rw [List.getElem?_take, if_pos hk]
    rw [this, gt_set _ _ _ _ (by omega), if_neg h0]
  refine ⟨fun p c _ hc hcl hne => ?_, fun p c _ hc _ _ => by unfold Chi at hc; omega⟩
  rw [cut_length] at hcl
  rw [G c hcl (by unfold Chi at hc; omega), G p (by unfold Chi at hc; omega) hne]
  exact h p c (by omega) hc (by omega)
theorem cut_perm {d : List It} (h : 0 < d.length) : (gt d 0 :: cut d).Perm d := by
  cases d with
  | nil => simp at h
  | cons x r =>
    rcases List.eq_nil_or_concat r with rfl | ⟨r', y, rfl⟩
    · simp [gt, cut]
    · have e1 : gt (x :: r'.concat y) 0 = x := rfl
      have e2 : cut (x :: r'.concat y) = y :: r' := by
        unfold cut
        have : gt (x :: r'.concat y) ((x :: r'.concat y).length - 1) = y := by simp [gt, List.getD]
        rw [this]
        simp
      rw [e1, e2]
      refine List.Perm.cons _ ?_
      simpa using (List.perm_append_singleton y r').symm
end Go.Proofs.Ytkpmdfgjaodlaaa
