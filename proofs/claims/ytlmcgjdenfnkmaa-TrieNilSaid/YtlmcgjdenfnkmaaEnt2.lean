/-
  Plain lemmas on entries in order: those above a prefix, the one that is found, entries set and dropped. No statement is proved here; no conditions.
-/
import Derived.Test.YtlmcgjdenfnkmaaEnt
namespace Go.Proofs.Ytlmcgjdenfnkmaa

/-! ### Above -/
/-- The entry of a key. -/
def atk (m : List En) (k : Nat) : Option En := m.find? fun x => kx x == k
theorem atk_some {m : List En} (h : Om m) {k : Nat} {x : En} : atk m k = some x ↔ x ∈ m ∧ kx x = k := by
  unfold atk
  constructor
  · intro e
    exact ⟨List.mem_of_find?_eq_some e, by simpa using List.find?_some e⟩
  · rintro ⟨h1, h2⟩
    cases e : m.find? (fun x => kx x == k) with
    | none => exact absurd h2 (by simpa using List.find?_eq_none.1 e x h1)
    | some y => rw [h.key (List.mem_of_find?_eq_some e) h1 (by have := List.find?_some e; simp at this; rw [this, h2])]
theorem atk_none {m : List En} {k : Nat} : atk m k = none ↔ ∀ x ∈ m, kx x ≠ k := by
  unfold atk
  rw [List.find?_eq_none]
  simp
/-- What covers a prefix, the fewest bits first. -/
def abv (m : List En) (A : Nat) (N : Int) : List En := (List.range 33).flatMap fun (n : Nat) => m.filter fun x => decide (x.N = (n : Int)) && covp x.A x.N A N
/-- What lies on the way, of the first j levels. -/
def pab (m : List En) (A j : Nat) : List En := (List.range j).filterMap fun i => atk m (ky A i)
theorem pab_succ (m : List En) (A j : Nat) : pab m A (j + 1) = pab m A j ++ (atk m (ky A j)).toList := by
  unfold pab
  rw [List.range_succ, List.filterMap_append]
  cases h : atk m (ky A j) <;> simp [h]
theorem pab_len (m : List En) (A j : Nat) : (pab m A j).length ≤ j := by
  have := List.length_filterMap_le (fun i => atk m (ky A i)) (List.range j)
  simpa [pab] using this
theorem pab_stop {m : List En} {A j J : Nat} (hj : j ≤ J) (h : ∀ i, j ≤ i → i < J → atk m (ky A i) = none) : pab m A J = pab m A j := by
  induction J with
  | zero => rw [show j = 0 by omega]
  | succ J ih =>
    rcases Nat.lt_or_ge J j with h1 | h1
    · rw [show j = J + 1 by omega]
    · rw [pab_succ, h J h1 (by omega), ih h1 fun i a b => h i a (by omega)]
      simp
theorem cov_key {x : En} {A : Nat} {N : Int} (_hx : x.A < 4294967296) (ho : okp x.A x.N = true) (hp : okp A N = true) : covp x.A x.N A N = true ↔ cl x.N ≤ cl N ∧ kx x = ky A (cl x.N) := by
  rw [covp_iff]
  obtain ⟨a0, a1, a2⟩ := (okp_iff _ _).1 ho
  obtain ⟨b0, b1, b2⟩ := (okp_iff _ _).1 hp
  have e1 := cl_in a0 a1
  have e2 := cl_in b0 b1
  unfold kx
  rw [ky_eq _ _ (cl_le _), ky_eq _ _ (cl_le _)]
  constructor
  · rintro ⟨_, h1, _, h2⟩
    exact ⟨by omega, by omega⟩
  · rintro ⟨h1, h2⟩
    exact ⟨hp, by omega, ho, by omega⟩
theorem mem_abv {m : List En} (h : Om m) {A : Nat} {N : Int} {x : En} : x ∈ abv m A N ↔ x ∈ m ∧ covp x.A x.N A N = true := by
  unfold abv
  simp only [List.mem_flatMap, List.mem_range, List.mem_filter, Bool.and_eq_true, decide_eq_true_eq]
  constructor
  · rintro ⟨n, _, h1, _, h2⟩
    exact ⟨h1, h2⟩
  · rintro ⟨h1, h2⟩
    obtain ⟨a0, a1, _⟩ := (okp_iff _ _).1 (h.ok x h1)
    exact ⟨x.N.toNat, by omega, h1, by omega, h2⟩
theorem abv_asc {m : List En} (h : Om m) (A : Nat) (N : Int) : (abv m A N).Pairwise fun x y => x.N < y.N := by
  unfold abv
  rw [List.pairwise_flatMap]
  constructor
  · intro n _
    refine ((h.filter _).asc).imp_of_mem fun {x y} hx hy hl => ?_
    simp only [List.mem_filter, Bool.and_eq_true, decide_eq_true_eq] at hx hy
    obtain ⟨_, _, c1, c2⟩ := (covp_iff _ _ _ _).1 hx.2.2
    obtain ⟨_, _, d1, d2⟩ := (covp_iff _ _ _ _).1 hy.2.2
    obtain ⟨_, _, q1⟩ := (okp_iff _ _).1 c1
    obtain ⟨_, _, q2⟩ := (okp_iff _ _).1 d1
    have e : x.N = y.N := by omega
    rw [e] at c2 q1
    have e2 : x.A = y.A := by rw [← tr_eq q1, ← tr_eq q2, ← c2, ← d2]
    have := (lse_iff _ _).1 hl
    omega
  · refine (List.pairwise_lt_range (n := 33)).imp ?_
    intro a b hab x hx y hy
    simp only [List.mem_filter, Bool.and_eq_true, decide_eq_true_eq] at hx hy
    omega
theorem pab_abv {m : List En} (h : Om m) {A : Nat} {N : Int} (_hA : A < 4294967296) (hp : okp A N = true) : pab m A (cl N + 1) = abv m A N := by
  refine uniq (R := fun x y => x.N < y.N) (fun x y h1 h2 => by omega) ?_ (abv_asc h A N) fun x => ?_
  · unfold pab
    rw [List.pairwise_filterMap]
    refine (List.pairwise_lt_range (n := cl N + 1)).imp_of_mem fun {i j} hi hj hij x hx y hy => ?_
    rw [List.mem_range] at hi hj
    obtain ⟨m1, k1⟩ := (atk_some h).1 hx
    obtain ⟨m2, k2⟩ := (atk_some h).1 hy
    have hc := cl_le N
    have e1 := (ky_inj (h.lt x m1) _hA (cl_le _) (by omega) k1).1
    have e2 := (ky_inj (h.lt y m2) _hA (cl_le _) (by omega) k2).1
    obtain ⟨a0, a1, _⟩ := (okp_iff _ _).1 (h.ok x m1)
    obtain ⟨b0, b1, _⟩ := (okp_iff _ _).1 (h.ok y m2)
    have := cl_in a0 a1
    have := cl_in b0 b1
    omega
  · rw [mem_abv h]
    unfold pab
    rw [List.mem_filterMap]
    constructor
    · rintro ⟨i, hi, hx⟩
      rw [List.mem_range] at hi
      obtain ⟨m1, k1⟩ := (atk_some h).1 hx
      have hc := cl_le N
      have e1 := (ky_inj (h.lt x m1) _hA (cl_le _) (by omega) k1).1
      exact ⟨m1, (cov_key (h.lt x m1) (h.ok x m1) hp).2 ⟨by omega, by rw [e1]; exact k1⟩⟩
    · rintro ⟨m1, c1⟩
      obtain ⟨h1, h2⟩ := (cov_key (h.lt x m1) (h.ok x m1) hp).1 c1
      exact ⟨cl x.N, by rw [List.mem_range]; omega, (atk_some h).2 ⟨m1, h2⟩⟩
theorem abv_bad (m : List En) {A : Nat} {N : Int} (hp : okp A N = false) : abv m A N = [] := by
  unfold abv
  rw [List.flatMap_eq_nil_iff]
  intro n _
  rw [List.filter_eq_nil_iff]
  intro x _ hc
  simp only [Bool.and_eq_true] at hc
  have := ((covp_iff _ _ _ _).1 hc.2).1
  rw [hp] at this
  cases this

/-! ### What is found -/
/-- What an address finds. -/
def FndR (m : List En) (a : Nat) : Option En → Prop
  | none => ∀ y ∈ m, hasp y.A y.N a = false
  | some x => x ∈ m ∧ hasp x.A x.N a = true ∧ ∀ y ∈ m, hasp y.A y.N a = true → y.N ≤ x.N
theorem FndR.same {m : List En} (h : Om m) {a : Nat} {o o' : Option En} (h1 : FndR m a o) (h2 : FndR m a o') : o = o' := by
  cases o with
  | none =>
    cases o' with
    | none => rfl
    | some y => exact absurd h2.2.1 (by rw [h1 y h2.1]; simp)
  | some x =>
    cases o' with
    | none => exact absurd h1.2.1 (by rw [h2 x h1.1]; simp)
    | some y =>
      obtain ⟨m1, c1, g1⟩ := h1
      obtain ⟨m2, c2, g2⟩ := h2
      have e : x.N = y.N := by
        have := g1 y m2 c2
        have := g2 x m1 c1
        omega
      obtain ⟨o1, d1⟩ := (hasp_iff _ _ _).1 c1
      obtain ⟨o2, d2⟩ := (hasp_iff _ _ _).1 c2
      obtain ⟨_, _, q1⟩ := (okp_iff _ _).1 o1
      obtain ⟨_, _, q2⟩ := (okp_iff _ _).1 o2
      rw [e] at d1 q1
      rw [h.one m1 m2 (by rw [← tr_eq q1, ← tr_eq q2, ← d1, ← d2]) e]
theorem okp32 (a : Nat) : okp a 32 = true := by
  rw [okp_iff]
  refine ⟨by omega, by omega, ?_⟩
  rw [show cl 32 = 32 from rfl, wd_32, Nat.mod_one]
theorem cov32 {x : En} (_ho : okp x.A x.N = true) (a : Nat) : covp x.A x.N a 32 = hasp x.A x.N a := by
  rw [Bool.eq_iff_iff, covp_iff, hasp_iff]
  constructor
  · rintro ⟨_, _, h1, h2⟩
    exact ⟨h1, h2⟩
  · rintro ⟨h1, h2⟩
    exact ⟨okp32 a, ((okp_iff _ _).1 h1).2.1, h1, h2⟩
theorem abv_fnd {m : List En} (h : Om m) (a : Nat) : FndR m a (abv m a 32).getLast? := by
  cases e : (abv m a 32).getLast? with
  | none =>
    rw [List.getLast?_eq_none_iff] at e
    intro y hy
    cases c : hasp y.A y.N a with
    | false => rfl
    | true =>
      have := (mem_abv h (A := a) (N := 32)).2 ⟨hy, by rw [cov32 (h.ok y hy)]; exact c⟩
      rw [e] at this
      simp at this
  | some x =>
    obtain ⟨l, hl⟩ := List.getLast?_eq_some_iff.1 e
    have hx : x ∈ abv m a 32 := by rw [hl]; simp
    obtain ⟨m1, c1⟩ := (mem_abv h).1 hx
    refine ⟨m1, by rw [← cov32 (h.ok x m1)]; exact c1, fun y hy hc => ?_⟩
    have hy2 : y ∈ abv m a 32 := (mem_abv h).2 ⟨hy, by rw [cov32 (h.ok y hy)]; exact hc⟩
    have hp := abv_asc h a 32
    rw [hl] at hy2 hp
    rw [List.pairwise_append] at hp
    rcases List.mem_append.1 hy2 with q | q
    · exact Int.le_of_lt (hp.2.2 y q x (by simp))
    · rw [List.mem_singleton.1 q]
      exact Int.le_refl _

/-! ### Set and drop -/
def dropm (m : List En) (A : Nat) (N : Int) : List En := m.filter fun x => !sp A N x
def insm (x : En) : List En → List En
  | [] => [x]
  | y :: l => if lessp x.A x.N y.A y.N then x :: y :: l else y :: insm x l
def setm (m : List En) (x : En) : List En := insm x (dropm m x.A x.N)
/-- The entry of a prefix. -/
def getm (m : List En) (A : Nat) (N : Int) : Option En := m.find? (sp A N)
theorem mem_dropm {m : List En} {A : Nat} {N : Int} {x : En} : x ∈ dropm m A N ↔ x ∈ m ∧ sp A N x = false := by simp [dropm]
theorem mem_insm {x y : En} {l : List En} : y ∈ insm x l ↔ y = x ∨ y ∈ l := by
  induction l with
  | nil => simp [insm]
  | cons z l ih =>
    unfold insm
    split
    · simp
    · rw [List.mem_cons, ih, List.mem_cons]
      constructor
      · rintro (h | h | h)
        · exact .inr (.inl h)
        · exact .inl h
        · exact .inr (.inr h)
      · rintro (h | h | h)
        · exact .inr (.inl h)
        · exact .inl h
        · exact .inr (.inr h)
theorem insm_len (x : En) (l : List En) : (insm x l).length = l.length + 1 := by
  induction l with
  | nil => rfl
  | cons z l ih =>
    unfold insm
    split <;> simp [ih]
theorem insm_asc {x : En} {l : List En} (h : l.Pairwise lse) (hn : ∀ y ∈ l, sp x.A x.N y = false) : (insm x l).Pairwise lse := by
  induction l with
  | nil => exact List.pairwise_singleton _ _
  | cons y l ih =>
    obtain ⟨p, q⟩ := List.pairwise_cons.1 h
    unfold insm
    split
    · rename_i hl
      have hl' : lse x y := hl
      refine List.pairwise_cons.2 ⟨fun z hz => ?_, h⟩
      rcases List.mem_cons.1 hz with e | e
      · rw [e]; exact hl'
      · exact lse_trans hl' (p z e)
    · rename_i hl
      refine List.pairwise_cons.2 ⟨fun z hz => ?_, ih q fun z hz => hn z (by simp [hz])⟩
      rcases mem_insm.1 hz with e | e
      · rw [e, lse_iff]
        have h1 : ¬ lse x y := hl
        rw [lse_iff] at h1
        have h2 := hn y (by simp)
        simp only [sp, decide_eq_false_iff_not] at h2
        omega
      · exact p z e
theorem Om.drop {m : List En} (h : Om m) (A : Nat) (N : Int) : Om (dropm m A N) := h.filter _
theorem mem_setm {m : List En} {x y : En} : y ∈ setm m x ↔ y = x ∨ y ∈ m ∧ sp x.A x.N y = false := by rw [setm, mem_insm, mem_dropm]
theorem Om.set {m : List En} (h : Om m) {x : En} (ho : okp x.A x.N = true) (hx : x.A < 4294967296) : Om (setm m x) := by
  refine ⟨insm_asc (h.drop _ _).asc fun y hy => (mem_dropm.1 hy).2, fun y hy => ?_, fun y hy => ?_⟩
  · rcases mem_setm.1 hy with rfl | e
    · exact ho
    · exact h.ok y e.1
  · rcases mem_setm.1 hy with rfl | e
    · exact hx
    · exact h.lt y e.1
theorem drop_self {m : List En} {A : Nat} {N : Int} (h : ∀ x ∈ m, sp A N x = false) : dropm m A N = m := by
  rw [dropm, List.filter_eq_self]
  intro x hx
  simp [h x hx]
theorem sp_iff {A : Nat} {N : Int} {x : En} : sp A N x = true ↔ x.A = A ∧ x.N = N := by simp [sp]
theorem drop_len {m : List En} (h : Om m) {A : Nat} {N : Int} {x : En} (hx : x ∈ m) (hs : sp A N x = true) : (dropm m A N).length + 1 = m.length := by
  induction m with
  | nil => simp at hx
  | cons y l ih =>
    have hl : Om l := h.sub (List.sublist_cons_self y l)
    cases hy : sp A N y with
    | true =>
      have e : dropm (y :: l) A N = dropm l A N := by simp [dropm, hy]
      rw [e, drop_self, List.length_cons]
      intro z hz
      cases hz2 : sp A N z with
      | false => rfl
      | true =>
        obtain ⟨a1, a2⟩ := sp_iff.1 hy
        obtain ⟨b1, b2⟩ := sp_iff.1 hz2
        have h1 := (lse_iff _ _).1 ((List.pairwise_cons.1 h.asc).1 z hz)
        omega
    | false =>
      have e : dropm (y :: l) A N = y :: dropm l A N := by simp [dropm, hy]
      rw [e, List.length_cons, List.length_cons, ih hl]
      rcases List.mem_cons.1 hx with e | e
      · rw [e, hy] at hs
        cases hs
      · exact e
theorem getm_some {m : List En} (h : Om m) {A : Nat} {N : Int} {x : En} : getm m A N = some x ↔ x ∈ m ∧ sp A N x = true := by
  unfold getm
  constructor
  · intro e
    exact ⟨List.mem_of_find?_eq_some e, List.find?_some e⟩
  · rintro ⟨h1, h2⟩
    cases e : m.find? (sp A N) with
    | none => exact absurd h2 (by simpa using List.find?_eq_none.1 e x h1)
    | some y =>
      have h3 := sp_iff.1 (List.find?_some e)
      have h4 := sp_iff.1 h2
      rw [h.one (List.mem_of_find?_eq_some e) h1 (by rw [h3.1, h4.1]) (by rw [h3.2, h4.2])]
theorem getm_none {m : List En} {A : Nat} {N : Int} : getm m A N = none ↔ ∀ x ∈ m, sp A N x = false := by
  unfold getm
  rw [List.find?_eq_none]
  simp
theorem getm_atk {m : List En} (h : Om m) {A : Nat} {N : Int} (hA : A < 4294967296) (hp : okp A N = true) : getm m A N = atk m (ky A (cl N)) := by
  cases e : atk m (ky A (cl N)) with
  | none =>
    rw [getm_none]
    intro x hx
    have h1 := atk_none.1 e x hx
    cases hs : sp A N x with
    | false => rfl
    | true => exact absurd ((key_sp hA hp (h.lt x hx) (h.ok x hx)).2 hs) h1
  | some x =>
    obtain ⟨h1, h2⟩ := (atk_some h).1 e
    exact (getm_some h).2 ⟨h1, (key_sp hA hp (h.lt x h1) (h.ok x h1)).1 h2⟩
theorem getm_bad {m : List En} (h : Om m) {A : Nat} {N : Int} (hp : okp A N = false) : getm m A N = none := by
  rw [getm_none]
  intro x hx
  cases hs : sp A N x with
  | false => rfl
  | true =>
    obtain ⟨a1, a2⟩ := sp_iff.1 hs
    have := h.ok x hx
    rw [a1, a2, hp] at this
    cases this
theorem setm_len {m : List En} (h : Om m) (x : En) : (setm m x).length = if getm m x.A x.N = none then m.length + 1 else m.length := by
  rw [setm, insm_len]
  cases e : getm m x.A x.N with
  | none =>
    rw [drop_self (getm_none.1 e)]
    rfl
  | some y =>
    obtain ⟨h1, h2⟩ := (getm_some h).1 e
    rw [drop_len h h1 h2]
    rfl
end Go.Proofs.Ytlmcgjdenfnkmaa
