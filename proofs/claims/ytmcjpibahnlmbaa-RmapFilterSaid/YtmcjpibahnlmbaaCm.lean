/-
  Plain lemmas on clauses, maps and routes: what may be, what matches, what is changed. No statement is proved here; no conditions.
-/
import Derived.Test.YtmcjpibahnlmbaaRu
namespace Go.Proofs.Ytmcjpibahnlmbaa

/-- A route. -/
structure Rt where
  A : Nat
  N : Int
  k : Int
  c : Int
  t : Nat
deriving DecidableEq
/-- A clause, wherever its rows lie. -/
structure Cp where
  s : Int
  p : Bool
  L : List Ru
  k : Int
  lo : Int
  hi : Int
  T : List Nat
  sc : Int
  sp : Int
  sk : Int
  st : Bool
  tg : Nat
/-- The zero route. -/
def zr : Rt := ⟨0, 0, 0, 0, 0⟩
def win (n a b : Int) : Bool := decide (a ≤ n) && decide (n ≤ b)
theorem win_iff {n a b : Int} : win n a b = true ↔ a ≤ n ∧ n ≤ b := by simp [win]
/-- May a clause match so, change so? -/
def mmk (x : Cp) : Bool := win x.k (-1) 9 && win x.lo 0 x.hi && decide (x.hi ≤ 16777215)
def mcg (x : Cp) : Bool := win x.sc (-1) 16777215 && win x.sp 0 16777215 && win x.sk (-1) 9
/-- Is it valid? -/
def okc (x : Cp) : Bool := win x.s 1 65535 && mmk x && mcg x && mayl none x.L
def okt (t : Rt) : Bool := win t.k 0 9 && win t.c 0 16777215
/-- What a clause says of the tags. -/
def tgs (T : List Nat) (t : Nat) : Bool := T.isEmpty || T.contains t
/-- What its list says of a prefix. -/
def prm (L : List Ru) (A : Nat) (N : Int) : Bool := L.isEmpty || (evl L A N).1
/-- It matches. -/
def mtc (x : Cp) (t : Rt) : Bool := prm x.L t.A t.N && (decide (x.k = -1) || decide (x.k = t.k)) && win t.c x.lo x.hi && tgs x.T t.t
/-- What it makes of a route. -/
def chg (x : Cp) (t : Rt) : Rt := ⟨t.A, t.N, if x.sk = -1 then t.k else x.sk, min ((if x.sc = -1 then t.c else x.sc) + x.sp) 16777215, if x.st then x.tg else t.t⟩
/-- Is a map valid? -/
def mayc : Option Int → List Cp → Bool
  | _, [] => true
  | o, x :: l => okc x && (match o with | none => true | some s => decide (s < x.s)) && mayc (some x.s) l
/-- What a map makes of a route. -/
def ans (x : Cp) (t : Rt) : Rt × Bool × Int := if x.p then (chg x t, true, x.s) else (zr, false, x.s)
def evm (m : List Cp) (t : Rt) : Rt × Bool × Int := match m.find? (fun x => mtc x t) with
  | some x => ans x t
  | none => (zr, false, 0)
def thn (m n : List Cp) (t : Rt) : Rt × Bool := if (evm m t).2.1 then ((evm n (evm m t).1).1, (evm n (evm m t).1).2.1) else (zr, false)
def flt (m : List Cp) : List Rt → List Rt
  | [] => []
  | t :: l => if (evm m t).2.1 then (evm m t).1 :: flt m l else flt m l
theorem flt_append (m : List Cp) (a b : List Rt) : flt m (a ++ b) = flt m a ++ flt m b := by
  induction a with
  | nil => rfl
  | cons t a ih =>
    simp only [List.cons_append, flt]
    split <;> simp [ih]
theorem flt_len (m : List Cp) (l : List Rt) : (flt m l).length ≤ l.length := by
  induction l with
  | nil => simp [flt]
  | cons t l ih =>
    simp only [flt]
    split <;> simp <;> omega
theorem flt_one (m : List Cp) (t : Rt) : flt m [t] = if (evm m t).2.1 then [(evm m t).1] else [] := rfl
theorem okt_iff {t : Rt} : okt t = true ↔ (0 ≤ t.k ∧ t.k ≤ 9) ∧ 0 ≤ t.c ∧ t.c ≤ 16777215 := by simp [okt, win]
/-- What the numbers of a valid clause are. -/
theorem okc_num {x : Cp} (h : okc x = true) : (-1 ≤ x.sc ∧ x.sc ≤ 16777215) ∧ (0 ≤ x.sp ∧ x.sp ≤ 16777215) ∧ (-1 ≤ x.sk ∧ x.sk ≤ 9) := by
  simp only [okc, mcg, Bool.and_eq_true, win_iff] at h
  exact ⟨h.1.2.1.1, h.1.2.1.2, h.1.2.2⟩
theorem chg_ok {x : Cp} {t : Rt} (h : okc x = true) (ht : okt t = true) : okt (chg x t) = true := by
  obtain ⟨h1, h2, h3⟩ := okc_num h
  rw [okt_iff] at ht ⊢
  simp only [chg]
  refine ⟨?_, ?_⟩
  · split <;> omega
  · split <;> omega
/-- All clauses are valid. -/
def Oks (m : List Cp) : Prop := ∀ x ∈ m, okc x = true
theorem mayc_oks {m : List Cp} {o : Option Int} (h : mayc o m = true) : Oks m := by
  induction m generalizing o with
  | nil => intro x hx; cases hx
  | cons y m ih =>
    simp only [mayc, Bool.and_eq_true] at h
    intro x hx
    rcases List.mem_cons.1 hx with rfl | hx
    · exact h.1.1
    · exact ih h.2 x hx
theorem zr_ok : okt zr = true := by decide
theorem evm_ok {m : List Cp} {t : Rt} (h : Oks m) (ht : okt t = true) : okt (evm m t).1 = true := by
  unfold evm
  split
  · rename_i x hx
    unfold ans
    split
    · exact chg_ok (h x (List.mem_of_find?_eq_some hx)) ht
    · exact zr_ok
  · exact zr_ok
/-! ### Places -/
def gp (m : List Cp) (i : Nat) : Cp := m.getD i ⟨0, false, [], 0, 0, 0, [], 0, 0, 0, false, 0⟩
theorem gp_eq {m : List Cp} {i : Nat} (h : i < m.length) : gp m i = m[i] := by simp [gp, List.getD, h]
def gt (l : List Rt) (i : Nat) : Rt := l.getD i zr
theorem gt_eq {l : List Rt} {i : Nat} (h : i < l.length) : gt l i = l[i] := by simp [gt, List.getD, h]
/-- No clause matches. -/
theorem evm_none {m : List Cp} {t : Rt} (h : ∀ i, i < m.length → mtc (gp m i) t = false) : evm m t = (zr, false, 0) := by
  unfold evm
  have : m.find? (fun x => mtc x t) = none := by
    rw [List.find?_eq_none]
    intro x hx
    obtain ⟨i, hi, rfl⟩ := List.getElem_of_mem hx
    have := h i hi
    rw [gp_eq hi] at this
    simp [this]
  rw [this]
/-- The first that matches. -/
theorem evm_at {m : List Cp} {t : Rt} {k : Nat} (hk : k < m.length) (h : ∀ i, i < k → mtc (gp m i) t = false) (ht : mtc (gp m k) t = true) : evm m t = ans (gp m k) t := by
  unfold evm
  have : m.find? (fun x => mtc x t) = some (gp m k) := by
    rw [List.find?_eq_some_iff_getElem]
    refine ⟨ht, k, hk, (gp_eq hk).symm, fun j hj => ?_⟩
    have := h j hj
    rw [gp_eq (by omega)] at this
    simp [this]
  rw [this]
/-- Rules, one by one and by neighbours. -/
def asc (f : Nat → Int) : Nat → Bool
  | 0 => true
  | 1 => true
  | n + 2 => asc f (n + 1) && decide (f n < f (n + 1))
theorem asc_iff (f : Nat → Int) : ∀ n, asc f n = true ↔ ∀ i, i + 1 < n → f i < f (i + 1)
  | 0 => by simp [asc]
  | 1 => by simp [asc]
  | n + 2 => by
    rw [asc, Bool.and_eq_true, asc_iff f (n + 1), decide_eq_true_eq]
    constructor
    · rintro ⟨h1, h2⟩ i hi
      rcases Nat.lt_or_ge (i + 1) (n + 1) with q | q
      · exact h1 i q
      · rw [show i = n by omega]; exact h2
    · intro h
      exact ⟨fun i hi => h i (by omega), h n (by omega)⟩
/-- A list is valid: each rule, and each one behind the one before. -/
theorem mayl_asc (l : List Ru) (o : Option Int) : mayl o l = true ↔ ((∀ x ∈ l, okr x = true) ∧ asc (fun i => (gr l i).s) l.length = true ∧ ∀ s, o = some s → ∀ h : 0 < l.length, s < l[0].s) := by
  induction l generalizing o with
  | nil => simp [mayl, asc]
  | cons x l ih =>
    simp only [mayl, Bool.and_eq_true]
    rw [ih]
    rw [asc_iff, asc_iff]
    have e : ∀ i, gr (x :: l) (i + 1) = gr l i := fun i => by simp [gr]
    constructor
    · rintro ⟨⟨h1, h2⟩, h3, h4, h5⟩
      refine ⟨fun y hy => ?_, fun i hi => ?_, ?_⟩
      · rcases List.mem_cons.1 hy with rfl | q
        · exact h1
        · exact h3 y q
      · cases i with
        | zero =>
          simp only [List.length_cons] at hi
          have := h5 x.s rfl (by omega)
          rw [e 0, gr_eq (show 0 < l.length by omega)]
          simpa [gr] using this
        | succ i =>
          rw [e, e]
          exact h4 i (by simp only [List.length_cons] at hi; omega)
      · rintro s rfl _
        simpa using h2
    · rintro ⟨h1, h2, h3⟩
      refine ⟨⟨h1 x (by simp), ?_⟩, fun y hy => h1 y (by simp [hy]), fun i hi => ?_, ?_⟩
      · cases o with
        | none => rfl
        | some s => exact decide_eq_true (show s < x.s from h3 s rfl (by simp))
      · have := h2 (i + 1) (by simp; omega)
        rwa [e, e] at this
      · rintro s hs h
        obtain rfl := Option.some.inj hs
        have := h2 0 (by simp; omega)
        rw [e 0, gr_eq h] at this
        simpa [gr] using this
theorem mayl_none (l : List Ru) : mayl none l = (l.all okr && asc (fun i => (gr l i).s) l.length) := by
  rw [Bool.eq_iff_iff, mayl_asc, Bool.and_eq_true, List.all_eq_true]
  simp
/-- A map is valid: each clause, and each one behind the one before. -/
theorem mayc_asc (l : List Cp) (o : Option Int) : mayc o l = true ↔ ((∀ x ∈ l, okc x = true) ∧ asc (fun i => (gp l i).s) l.length = true ∧ ∀ s, o = some s → ∀ h : 0 < l.length, s < l[0].s) := by
  induction l generalizing o with
  | nil => simp [mayc, asc]
  | cons x l ih =>
    simp only [mayc, Bool.and_eq_true]
    rw [ih]
    rw [asc_iff, asc_iff]
    have e : ∀ i, gp (x :: l) (i + 1) = gp l i := fun i => by simp [gp]
    constructor
    · rintro ⟨⟨h1, h2⟩, h3, h4, h5⟩
      refine ⟨fun y hy => ?_, fun i hi => ?_, ?_⟩
      · rcases List.mem_cons.1 hy with rfl | q
        · exact h1
        · exact h3 y q
      · cases i with
        | zero =>
          simp only [List.length_cons] at hi
          have := h5 x.s rfl (by omega)
          rw [e 0, gp_eq (show 0 < l.length by omega)]
          simpa [gp] using this
        | succ i =>
          rw [e, e]
          exact h4 i (by simp only [List.length_cons] at hi; omega)
      · rintro s rfl _
        simpa using h2
    · rintro ⟨h1, h2, h3⟩
      refine ⟨⟨h1 x (by simp), ?_⟩, fun y hy => h1 y (by simp [hy]), fun i hi => ?_, ?_⟩
      · cases o with
        | none => rfl
        | some s => exact decide_eq_true (show s < x.s from h3 s rfl (by simp))
      · have := h2 (i + 1) (by simp; omega)
        rwa [e, e] at this
      · rintro s hs h
        obtain rfl := Option.some.inj hs
        have := h2 0 (by simp; omega)
        rw [e 0, gp_eq h] at this
        simpa [gp] using this
theorem mayc_none (l : List Cp) : mayc none l = (l.all okc && asc (fun i => (gp l i).s) l.length) := by
  rw [Bool.eq_iff_iff, mayc_asc, Bool.and_eq_true, List.all_eq_true]
  simp
end Go.Proofs.Ytmcjpibahnlmbaa
