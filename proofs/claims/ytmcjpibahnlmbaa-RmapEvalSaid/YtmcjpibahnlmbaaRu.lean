/-
  Plain lemmas on rules and lists of rules: what they mean, which are idle, one more, one less. No statement is proved here; no conditions.
-/
import Derived.Test.YtmcjpibahnlmbaaNum
import Derived.Test.YtmcjpibahnlmbaaBlk
namespace Go.Proofs.Ytmcjpibahnlmbaa

/-- A rule. -/
structure Ru where
  s : Int
  p : Bool
  A : Nat
  N : Int
  g : Int
  l : Int
deriving DecidableEq

/-- Is it valid? -/
def okr (x : Ru) : Bool := decide (1 ≤ x.s) && decide (x.s ≤ 65535) && okp x.A x.N && (decide (x.g = 0) || decide (x.N < x.g) && decide (x.g ≤ 32)) && (decide (x.l = 0) || decide (max x.g x.N ≤ x.l) && decide (x.l ≤ 32))
theorem okr_iff (x : Ru) : okr x = true ↔ (1 ≤ x.s ∧ x.s ≤ 65535) ∧ okp x.A x.N = true ∧ (x.g = 0 ∨ x.N < x.g ∧ x.g ≤ 32) ∧ (x.l = 0 ∨ x.g ≤ x.l ∧ x.N ≤ x.l ∧ x.l ≤ 32) := by
  simp only [okr, Bool.and_eq_true, Bool.or_eq_true, decide_eq_true_eq, Int.max_le]
  constructor
  · rintro ⟨⟨⟨⟨a, b⟩, c⟩, d⟩, e⟩
    exact ⟨⟨a, b⟩, c, d, by omega⟩
  · rintro ⟨⟨a, b⟩, c, d, e⟩
    exact ⟨⟨⟨⟨a, b⟩, c⟩, d⟩, by omega⟩
/-- Its bounds. -/
def lo (x : Ru) : Int := if x.g = 0 then x.N else x.g
def hi (x : Ru) : Int := if x.g = 0 ∧ x.l = 0 then x.N else if x.l = 0 then 32 else x.l
/-- It means a prefix. -/
def mns (x : Ru) (B : Nat) (M : Int) : Bool := okr x && covp x.A x.N B M && decide (lo x ≤ M) && decide (M ≤ hi x)
/-- Behind y, x is idle. -/
def hds (y x : Ru) : Bool := covp y.A y.N x.A x.N && decide (lo y ≤ lo x) && decide (hi x ≤ hi y)
theorem mns_iff (x : Ru) (B : Nat) (M : Int) : mns x B M = true ↔ okr x = true ∧ covp x.A x.N B M = true ∧ lo x ≤ M ∧ M ≤ hi x := by
  simp only [mns, Bool.and_eq_true, decide_eq_true_eq]
  constructor
  · rintro ⟨⟨⟨a, b⟩, c⟩, d⟩; exact ⟨a, b, c, d⟩
  · rintro ⟨a, b, c, d⟩; exact ⟨⟨⟨a, b⟩, c⟩, d⟩
theorem hds_iff (y x : Ru) : hds y x = true ↔ covp y.A y.N x.A x.N = true ∧ lo y ≤ lo x ∧ hi x ≤ hi y := by
  simp only [hds, Bool.and_eq_true, decide_eq_true_eq]
  constructor
  · rintro ⟨⟨a, b⟩, c⟩; exact ⟨a, b, c⟩
  · rintro ⟨a, b, c⟩; exact ⟨⟨a, b⟩, c⟩
theorem covp_trans {A B C : Nat} {N M K : Int} (h1 : covp A N B M = true) (h2 : covp B M C K = true) : covp A N C K = true := by
  rw [covp_iff] at h1 h2 ⊢
  obtain ⟨a1, a2, a3, a4⟩ := h1
  obtain ⟨b1, b2, b3, b4⟩ := h2
  exact ⟨b1, by omega, a3, (div_less b4 (cl_mono a2)).trans a4⟩
theorem hds_mns {y x : Ru} {B : Nat} {M : Int} (h : hds y x = true) (hy : okr y = true) (hx : mns x B M = true) : mns y B M = true := by
  obtain ⟨h1, h2, h3⟩ := (hds_iff _ _).1 h
  obtain ⟨_, k1, k2, k3⟩ := (mns_iff _ _ _).1 hx
  exact (mns_iff _ _ _).2 ⟨hy, covp_trans h1 k1, by omega, by omega⟩

/-! ### Lists -/
def gr (l : List Ru) (i : Nat) : Ru := l.getD i ⟨0, false, 0, 0, 0, 0⟩
theorem gr_eq {l : List Ru} {i : Nat} (h : i < l.length) : gr l i = l[i] := by simp [gr, List.getD, h]
/-- A list that is valid. -/
structure Ls (l : List Ru) : Prop where
  asc : l.Pairwise fun x y => x.s < y.s
  ok : ∀ x ∈ l, okr x = true
theorem Ls.sub {l m : List Ru} (h : Ls m) (hs : l.Sublist m) : Ls l := ⟨h.asc.sublist hs, fun x hx => h.ok x (hs.subset hx)⟩
theorem Ls.tail {x : Ru} {l : List Ru} (h : Ls (x :: l)) : Ls l := h.sub (List.sublist_cons_self x l)
/-- One by one, as it is looked at. -/
def mayl : Option Int → List Ru → Bool
  | _, [] => true
  | o, x :: l => okr x && (match o with | none => true | some s => decide (s < x.s)) && mayl (some x.s) l
/-- The place of the first one that is so. -/
def fsi (p : Ru → Bool) (l : List Ru) : Nat := l.findIdx p
theorem fsi_le (p : Ru → Bool) (l : List Ru) : fsi p l ≤ l.length := List.findIdx_le_length
theorem fsi_not {p : Ru → Bool} {l : List Ru} {k : Nat} (h : k < fsi p l) (hk : k < l.length) : p l[k] = false := by
  have := List.not_of_lt_findIdx h
  simpa using this
theorem fsi_hit {p : Ru → Bool} {l : List Ru} (h : fsi p l < l.length) : p l[fsi p l] = true := List.findIdx_getElem (w := h)
/-- What passes. -/
def evl (l : List Ru) (B : Nat) (M : Int) : Bool × Int := match l.find? (fun x => mns x B M) with
  | some x => (x.p, x.s)
  | none => (false, 0)
theorem find_fsi (p : Ru → Bool) (l : List Ru) : l.find? p = l[fsi p l]? := by
  unfold fsi
  induction l with
  | nil => rfl
  | cons x l ih =>
    rw [List.find?_cons, List.findIdx_cons]
    cases p x <;> simp [ih]
/-- The rules of the first k that are idle, by their numbers. -/
def idk (l : List Ru) : Nat → List Int
  | 0 => []
  | k + 1 => if (l.take k).any (fun y => hds y (gr l k)) then idk l k ++ [(gr l k).s] else idk l k
theorem idk_len (l : List Ru) (k : Nat) : (idk l k).length ≤ k := by
  induction k with
  | zero => simp [idk]
  | succ k ih =>
    unfold idk
    split
    · simp; omega
    · omega
/-- One less. -/
def drl (l : List Ru) (s : Int) : List Ru := l.filter fun x => !decide (x.s = s)
/-- One more. -/
def inl (x : Ru) (l : List Ru) : List Ru := l.take (fsi (fun y => decide (x.s ≤ y.s)) l) ++ x :: l.drop (fsi (fun y => decide (x.s ≤ y.s)) l)
def hasq (l : List Ru) (s : Int) : Bool := l.any fun x => decide (x.s = s)
def dropr (l : List Ru) (s : Int) : List Ru × Int := if hasq l s then (drl l s, 0) else ([], 6)
def addr (l : List Ru) (x : Ru) : List Ru × Int :=
  if okr x then (if hasq l x.s then ([], 7) else if 200 ≤ l.length then ([], 8) else (inl x l, 0)) else ([], 1)
theorem hasq_iff (l : List Ru) (s : Int) : hasq l s = true ↔ ∃ x ∈ l, x.s = s := by simp [hasq]
theorem drl_len (l : List Ru) (s : Int) : (drl l s).length ≤ l.length := List.length_filter_le _ _
theorem drl_none {l : List Ru} {s : Int} (h : hasq l s = false) : drl l s = l := by
  rw [drl, List.filter_eq_self]
  intro x hx
  simp only [Bool.not_eq_true', decide_eq_false_iff_not]
  intro e
  have := (hasq_iff l s).2 ⟨x, hx, e⟩
  rw [h] at this
  cases this
theorem drl_lt {l : List Ru} {s : Int} (h : hasq l s = true) : (drl l s).length < l.length := by
  obtain ⟨x, hx, e⟩ := (hasq_iff l s).1 h
  rw [drl, ← List.countP_eq_length_filter]
  rcases Nat.lt_or_ge (l.countP fun x => !decide (x.s = s)) l.length with q | q
  · exact q
  · have := (List.countP_eq_length (p := fun x => !decide (x.s = s)) (l := l)).1 (Nat.le_antisymm List.countP_le_length q) x hx
    simp [e] at this
/-- What the first one of a number is, where they rise. -/
theorem fsi_ge {l : List Ru} (h : Ls l) (s : Int) : (∀ x ∈ l.take (fsi (fun y => decide (s ≤ y.s)) l), x.s < s) ∧ (∀ x ∈ l.drop (fsi (fun y => decide (s ≤ y.s)) l), s ≤ x.s) := by
  unfold fsi
  induction l with
  | nil => simp
  | cons x l ih =>
    obtain ⟨p, q⟩ := List.pairwise_cons.1 h.asc
    have i := ih h.tail
    rw [List.findIdx_cons]
    by_cases hs : s ≤ x.s
    · simp only [hs, decide_true, cond_true, List.take_zero, List.drop_zero]
      refine ⟨by simp, fun y hy => ?_⟩
      rcases List.mem_cons.1 hy with e | e
      · rw [e]; exact hs
      · have := p y e; omega
    · simp only [hs, decide_false, cond_false, List.take_succ_cons, List.drop_succ_cons]
      refine ⟨fun y hy => ?_, i.2⟩
      rcases List.mem_cons.1 hy with e | e
      · rw [e]; omega
      · exact i.1 y e
/-- Is there one of this number? The first one that is not less tells. -/
theorem has_fsi {l : List Ru} (h : Ls l) (s : Int) : hasq l s = (decide (fsi (fun y => decide (s ≤ y.s)) l < l.length) && decide ((gr l (fsi (fun y => decide (s ≤ y.s)) l)).s = s)) := by
  obtain ⟨h1, h2⟩ := fsi_ge h s
  obtain ⟨i, hi⟩ : ∃ i, fsi (fun y => decide (s ≤ y.s)) l = i := ⟨_, rfl⟩
  rw [hi] at h1 h2 ⊢
  rw [Bool.eq_iff_iff, hasq_iff]
  simp only [Bool.and_eq_true, decide_eq_true_eq]
  constructor
  · rintro ⟨x, hx, e⟩
    have hx2 : x ∈ l.drop i := by
      rw [← List.take_append_drop i l, List.mem_append] at hx
      rcases hx with q | q
      · have := h1 x q; omega
      · exact q
    have hlt : i < l.length := by
      rcases Nat.lt_or_ge i l.length with q | q
      · exact q
      · rw [List.drop_eq_nil_of_le q] at hx2; simp at hx2
    refine ⟨hlt, ?_⟩
    rw [gr_eq hlt]
    have e2 := List.drop_eq_getElem_cons hlt
    rw [e2] at hx2 h2
    have a1 := h2 l[i] List.mem_cons_self
    rcases List.mem_cons.1 hx2 with q | q
    · rw [← q]; exact e
    · have hp : (l.drop i).Pairwise fun x y => x.s < y.s := h.asc.sublist (List.drop_sublist i l)
      rw [e2] at hp
      have := (List.pairwise_cons.1 hp).1 x q
      omega
  · rintro ⟨hlt, e⟩
    rw [gr_eq hlt] at e
    exact ⟨_, List.getElem_mem hlt, e⟩
/-- One less, by its place. -/
theorem drl_fsi {l : List Ru} (h : Ls l) (s : Int) : drl l s = l.take (fsi (fun y => decide (y.s = s)) l) ++ l.drop (fsi (fun y => decide (y.s = s)) l + 1) := by
  unfold fsi
  induction l with
  | nil => rfl
  | cons x l ih =>
    obtain ⟨p, q⟩ := List.pairwise_cons.1 h.asc
    have i := ih h.tail
    rw [List.findIdx_cons]
    by_cases hs : x.s = s
    · simp only [hs, decide_true, cond_true, List.take_zero, List.nil_append, Nat.zero_add, List.drop_succ_cons, List.drop_zero]
      have e : drl (x :: l) s = drl l s := by simp [drl, hs]
      rw [e, drl_none]
      cases hq : hasq l s with
      | false => rfl
      | true =>
        obtain ⟨y, hy, e⟩ := (hasq_iff l s).1 hq
        have := p y hy
        omega
    · simp only [hs, decide_false, cond_false, List.take_succ_cons, List.drop_succ_cons, List.cons_append]
      have e : drl (x :: l) s = x :: drl l s := by simp [drl, hs]
      rw [e, i]
theorem has_fsi2 (l : List Ru) (s : Int) : hasq l s = !decide (fsi (fun y => decide (y.s = s)) l = l.length) := by
  rw [Bool.eq_iff_iff]
  rw [hasq_iff, Bool.not_eq_true', decide_eq_false_iff_not, show fsi (fun y => decide (y.s = s)) l = l.findIdx (fun y => decide (y.s = s)) from rfl, List.findIdx_eq_length]
  simp
/-- A rule, put in, is taken out. -/
theorem drl_inl {l : List Ru} {x : Ru} (h : hasq l x.s = false) : drl (inl x l) x.s = l := by
  unfold inl
  obtain ⟨i, hi⟩ : ∃ i, fsi (fun y => decide (x.s ≤ y.s)) l = i := ⟨_, rfl⟩
  rw [hi]
  have e := drl_none h
  unfold drl at e ⊢
  rw [List.filter_append, List.filter_cons]
  simp only [decide_true, Bool.not_true, Bool.false_eq_true, if_false]
  rw [← List.filter_append, List.take_append_drop]
  exact e
theorem inl_len (x : Ru) (l : List Ru) : (inl x l).length = l.length + 1 := by
  have := fsi_le (fun y => decide (x.s ≤ y.s)) l
  simp only [inl, List.length_append, List.length_cons, List.length_take, List.length_drop]
  omega
theorem mem_inl {x y : Ru} {l : List Ru} : y ∈ inl x l ↔ y = x ∨ y ∈ l := by
  unfold inl
  obtain ⟨i, hi⟩ : ∃ i, fsi (fun y => decide (x.s ≤ y.s)) l = i := ⟨_, rfl⟩
  rw [hi]
  have e : y ∈ l ↔ y ∈ l.take i ∨ y ∈ l.drop i := by rw [← List.mem_append, List.take_append_drop]
  rw [e, List.mem_append, List.mem_cons]
  constructor
  · rintro (q | q | q)
    · exact .inr (.inl q)
    · exact .inl q
    · exact .inr (.inr q)
  · rintro (q | q | q)
    · exact .inr (.inl q)
    · exact .inl q
    · exact .inr (.inr q)
theorem inl_ls {x : Ru} {l : List Ru} (h : Ls l) (hx : okr x = true) (hn : hasq l x.s = false) : Ls (inl x l) := by
  obtain ⟨h1, h2⟩ := fsi_ge h x.s
  refine ⟨?_, fun y hy => ?_⟩
  · unfold inl
    obtain ⟨i, hi⟩ : ∃ i, fsi (fun y => decide (x.s ≤ y.s)) l = i := ⟨_, rfl⟩
    rw [hi] at h1 h2 ⊢
    have hq : ∀ y ∈ l.drop i, x.s < y.s := fun y hy => by
      have a := h2 y hy
      have b : y.s ≠ x.s := fun e => by
        have := (hasq_iff l x.s).2 ⟨y, List.mem_of_mem_drop hy, e⟩
        rw [hn] at this
        cases this
      omega
    rw [List.pairwise_append]
    refine ⟨h.asc.sublist (List.take_sublist _ _), List.pairwise_cons.2 ⟨hq, h.asc.sublist (List.drop_sublist _ _)⟩, fun a ha b hb => ?_⟩
    rcases List.mem_cons.1 hb with e | e
    · rw [e]; exact h1 a ha
    · have := h1 a ha
      have := hq b e
      omega
  · rcases mem_inl.1 hy with e | e
    · rw [e]; exact hx
    · exact h.ok y e
theorem drl_ls {l : List Ru} (h : Ls l) (s : Int) : Ls (drl l s) := h.sub List.filter_sublist
/-- Is the list valid? -/
theorem mayl_iff : ∀ (l : List Ru) (o : Option Int), mayl o l = true ↔ Ls l ∧ ∀ s, o = some s → ∀ x ∈ l, s < x.s := by
  intro l
  induction l with
  | nil => intro o; simp [mayl]; exact ⟨List.Pairwise.nil, by simp⟩
  | cons x l ih =>
    intro o
    simp only [mayl, Bool.and_eq_true, ih]
    constructor
    · rintro ⟨⟨h1, h2⟩, h3, h4⟩
      have h5 := h4 x.s rfl
      refine ⟨⟨List.pairwise_cons.2 ⟨h5, h3.asc⟩, fun y hy => ?_⟩, ?_⟩
      · rcases List.mem_cons.1 hy with e | e
        · rw [e]; exact h1
        · exact h3.ok y e
      · rintro s rfl y hy
        have h6 : s < x.s := by simpa using h2
        rcases List.mem_cons.1 hy with e | e
        · rw [e]; exact h6
        · have := h5 y e; omega
    · rintro ⟨h1, h2⟩
      refine ⟨⟨h1.ok x (by simp), ?_⟩, h1.tail, ?_⟩
      · cases o with
        | none => rfl
        | some s => simpa using h2 s rfl x (by simp)
      · rintro s hs y hy
        obtain rfl := Option.some.inj hs
        exact (List.pairwise_cons.1 h1.asc).1 y hy
end Go.Proofs.Ytmcjpibahnlmbaa
