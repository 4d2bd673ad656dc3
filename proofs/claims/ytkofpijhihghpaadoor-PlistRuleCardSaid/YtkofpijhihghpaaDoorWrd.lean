/-
  Plain lemmas on words, numbers of one to five digits, and the rule that a text is. No statement is proved here; no conditions.
-/
import Derived.Test.YtkofpijhihghpaaDoorRu
import Derived.Test.YtkofpijhihghpaaDoorCut
namespace Go.Proofs.YtkofpijhihghpaaDoor

/-! ### Numbers -/
def nok (t : List UInt8) : Bool := decide (t ≠ []) && decide (t.length ≤ 5) && !decide (t[0]? = some 48) && t.all isD
/-- A number of one to five digits; 0: it is none. -/
def num (t : List UInt8) : Nat := if nok t then val t else 0
theorem nok_iff (t : List UInt8) : nok t = true ↔ t ≠ [] ∧ t.length ≤ 5 ∧ t[0]? ≠ some 48 ∧ ∀ c ∈ t, isD c = true := by
  simp only [nok, Bool.and_eq_true, decide_eq_true_eq, Bool.not_eq_true', decide_eq_false_iff_not, List.all_eq_true]
  constructor
  · rintro ⟨⟨⟨a, b⟩, c⟩, d⟩; exact ⟨a, b, c, d⟩
  · rintro ⟨a, b, c, d⟩; exact ⟨⟨⟨a, b⟩, c⟩, d⟩
theorem nok_dec {t : List UInt8} (h : nok t = true) : Lib.decDigits (val t) = t ∧ 1 ≤ val t := by
  obtain ⟨a, _, c, d⟩ := (nok_iff t).1 h
  exact dec_val1 t.length t rfl a d c
theorem dig5 (u : Nat) (h : u < 100000) : Lib.nDigits u ≤ 5 := by
  rw [Lib.nDigits]
  split
  · omega
  · rw [Lib.nDigits]
    split
    · omega
    · rw [Lib.nDigits]
      split
      · omega
      · rw [Lib.nDigits]
        split
        · omega
        · rw [Lib.nDigits_small (by omega)]; omega
theorem dig6 (u : Nat) (h : Lib.nDigits u ≤ 5) : u < 100000 := Nat.lt_of_lt_of_le (Lib.lt_pow_nDigits u) (Nat.le_trans (Nat.pow_le_pow_right (by omega) h) (by decide))
theorem num_le (t : List UInt8) : num t ≤ 99999 := by
  unfold num
  split
  · rename_i h
    have e := (nok_dec h).1
    have hl := ((nok_iff t).1 h).2.1
    have := dig6 (val t) (by rw [← Lib.decDigits_length, e]; exact hl)
    omega
  · omega
theorem nok_digits (u : Nat) : nok (Lib.decDigits u) = decide (1 ≤ u ∧ u ≤ 99999) := by
  obtain ⟨p1, p2, p3, p4⟩ := dec_props u
  rw [Bool.eq_iff_iff, nok_iff, decide_eq_true_eq]
  constructor
  · rintro ⟨_, h2, h3, _⟩
    rw [Lib.decDigits_length] at h2
    have := dig6 u h2
    refine ⟨?_, by omega⟩
    rcases Nat.eq_zero_or_pos u with q | q
    · exact absurd (by rw [q]; decide +kernel) h3
    · exact q
  · rintro ⟨h1, h2⟩
    exact ⟨p3, by rw [Lib.decDigits_length]; exact dig5 u (by omega), p4 h1, p1⟩
theorem num_itoa (n : Int) : num (Lib.itoa n) = if 1 ≤ n ∧ n ≤ 99999 then n.toNat else 0 := by
  unfold num Lib.itoa
  by_cases h : n < 0
  · have : nok (45 :: Lib.decDigits n.natAbs) = false := by
      rw [Bool.eq_false_iff]
      intro h1
      have := ((nok_iff _).1 h1).2.2.2 45 (by simp)
      exact absurd this (by decide)
    rw [if_pos h, this, if_neg (show ¬ (1 ≤ n ∧ n ≤ 99999) by omega)]
    rfl
  · rw [if_neg h, nok_digits, (dec_props _).2.1]
    by_cases h2 : 1 ≤ n ∧ n ≤ 99999
    · rw [if_pos h2, if_pos (by simp; omega)]
    · rw [if_neg h2, if_neg (by simp; omega)]
theorem num_pos {t : List UInt8} (h : num t ≠ 0) : nok t = true := by
  unfold num at h
  split at h
  · assumption
  · exact absurd rfl h
theorem itoa_num {t : List UInt8} (h : num t ≠ 0) : Lib.itoa (num t : Int) = t := by
  have h1 := num_pos h
  unfold Lib.itoa
  rw [if_neg (by omega), show ((num t : Int)).toNat = num t by omega]
  unfold num
  rw [if_pos h1]
  exact (nok_dec h1).1

/-! ### Words -/
/-- What stands between blanks. -/
def wds : List UInt8 → List (List UInt8)
  | [] => [[]]
  | c :: l => if c = 32 then [] :: wds l else match wds l with
    | a :: r => (c :: a) :: r
    | [] => [[c]]
/-- Words with blanks between them. -/
def jn : List (List UInt8) → List UInt8
  | [] => []
  | [a] => a
  | a :: b :: r => a ++ 32 :: jn (b :: r)
theorem wds_ne (l : List UInt8) : wds l ≠ [] := by
  cases l with
  | nil => simp [wds]
  | cons c l =>
    unfold wds
    split
    · simp
    · split <;> simp
theorem jn_cons (a : List UInt8) {r : List (List UInt8)} (h : r ≠ []) : jn (a :: r) = a ++ 32 :: jn r := by
  cases r with
  | nil => exact absurd rfl h
  | cons b r => rfl
theorem jn_wds (l : List UInt8) : jn (wds l) = l := by
  induction l with
  | nil => rfl
  | cons c l ih =>
    unfold wds
    split
    · rename_i h
      rw [jn_cons _ (wds_ne l), ih, h]
      rfl
    · split
      · rename_i a r h
        rw [h] at ih
        cases r with
        | nil =>
          simp only [jn] at ih ⊢
          rw [ih]
        | cons b r =>
          simp only [jn] at ih ⊢
          rw [List.cons_append, ih]
      · rename_i h
        exact absurd h (wds_ne l)
theorem wds_word {a : List UInt8} (h : ∀ c ∈ a, c ≠ 32) : wds a = [a] := by
  induction a with
  | nil => rfl
  | cons c a ih =>
    unfold wds
    rw [if_neg (h c (by simp)), ih (fun x hx => h x (by simp [hx]))]
theorem wds_app {a : List UInt8} (h : ∀ c ∈ a, c ≠ 32) (l : List UInt8) : wds (a ++ 32 :: l) = a :: wds l := by
  induction a with
  | nil =>
    show wds (32 :: l) = _
    simp [wds]
  | cons c a ih =>
    have e := ih (fun x hx => h x (by simp [hx]))
    have hc := h c (by simp)
    show wds (c :: (a ++ 32 :: l)) = _
    rw [show wds (c :: (a ++ 32 :: l)) = if c = 32 then [] :: wds (a ++ 32 :: l) else match wds (a ++ 32 :: l) with | a :: r => (c :: a) :: r | [] => [[c]] from rfl, if_neg hc, e]
theorem wds_jn : ∀ (r : List (List UInt8)), r ≠ [] → (∀ a ∈ r, ∀ c ∈ a, c ≠ 32) → wds (jn r) = r := by
  intro r
  induction r with
  | nil => intro h; exact absurd rfl h
  | cons a r ih =>
    intro _ h
    cases r with
    | nil => exact wds_word (h a (by simp))
    | cons b r =>
      rw [jn_cons _ (by simp), wds_app (h a (by simp)), ih (by simp) (fun x hx => h x (by simp [hx]))]
theorem wds_len (l : List UInt8) : (wds l).length ≤ l.length + 1 := by
  induction l with
  | nil => simp [wds]
  | cons c l ih =>
    unfold wds
    split
    · simp; omega
    · split
      · rename_i a r h
        rw [h] at ih
        simp at ih ⊢
        omega
      · simp
/-- A text, cut at most k times. -/
def spl : Nat → List UInt8 → List (List UInt8)
  | 0, l => [l]
  | k + 1, l => if 32 ∈ l then cutA 32 l :: spl k (cutB 32 l) else [l]
theorem cutA_no (l : List UInt8) : ∀ c ∈ cutA 32 l, c ≠ 32 := fun c hc => by
  have := tw_all (· != 32) l c hc
  simpa using this
theorem wds_cut {l : List UInt8} (h : 32 ∈ l) : wds l = cutA 32 l :: wds (cutB 32 l) := by
  conv => lhs; rw [cut_in 32 l h]
  exact wds_app (cutA_no l) _
theorem wds_nocut {l : List UInt8} (h : 32 ∉ l) : wds l = [l] := wds_word fun _c hc e => h (e ▸ hc)
theorem spl_few : ∀ (k : Nat) (l : List UInt8), (wds l).length ≤ k + 1 → spl k l = wds l := by
  intro k
  induction k with
  | zero =>
    intro l h
    by_cases hm : 32 ∈ l
    · rw [wds_cut hm] at h
      have := List.length_pos_iff.2 (wds_ne (cutB 32 l))
      simp at h
      rw [h] at this
      simp at this
    · rw [wds_nocut hm]
      rfl
  | succ k ih =>
    intro l h
    unfold spl
    by_cases hm : 32 ∈ l
    · rw [if_pos hm, wds_cut hm, ih]
      rw [wds_cut hm] at h
      simpa using h
    · rw [if_neg hm, wds_nocut hm]
theorem spl_many : ∀ (k : Nat) (l : List UInt8), k + 1 < (wds l).length → (spl k l).length = k + 1 := by
  intro k
  induction k with
  | zero => intro l _; rfl
  | succ k ih =>
    intro l h
    unfold spl
    by_cases hm : 32 ∈ l
    · rw [if_pos hm, List.length_cons, ih]
      rw [wds_cut hm] at h
      simpa using h
    · rw [wds_nocut hm] at h
      simp at h
theorem spl_len : ∀ (k : Nat) (l : List UInt8), (spl k l).length ≤ k + 1 := by
  intro k
  induction k with
  | zero => intro l; simp [spl]
  | succ k ih =>
    intro l
    unfold spl
    split
    · have := ih (cutB 32 l)
      simp
      omega
    · simp
/-- As strings.SplitN has it. -/
theorem indexB_one (c : UInt8) : ∀ l : List UInt8, Lib.index l [c] = Lib.indexByte l c := by
  intro l
  induction l with
  | nil => rfl
  | cons b l ih =>
    unfold Lib.index Lib.indexByte
    rw [ih]
    simp only [List.isPrefixOf, Bool.and_true]
    by_cases h : b = c
    · simp [h]
    · have h2 : ¬ c = b := fun e => h e.symm
      simp [h, h2]

/-! ### The rule of a text -/
def ru0 : Ru := ⟨0, false, 0, 0, 0, 0⟩
abbrev tPermit : List UInt8 := [112, 101, 114, 109, 105, 116]
abbrev tDeny : List UInt8 := [100, 101, 110, 121]
abbrev tGe : List UInt8 := [103, 101]
abbrev tLe : List UInt8 := [108, 101]
/-- A name and its number; or nothing. -/
def opt (nm : List UInt8) : List (List UInt8) → Nat × List (List UInt8)
  | a :: b :: r => if a = nm then (if num b = 0 then (0, a :: b :: r) else (num b, r)) else (0, a :: b :: r)
  | r => (0, r)
/-- The rule of these words, if they are one. -/
def pru (a b c : List UInt8) (r : List (List UInt8)) : Ru := ⟨(num a : Int), decide (b = tPermit), (prs 4 0 c).1, ((prs 4 0 c).2.1 : Int), ((opt tGe r).1 : Int), ((opt tLe (opt tGe r).2).1 : Int)⟩
def pbad (a b c : List UInt8) (r : List (List UInt8)) : Bool := decide (num a = 0) || !(decide (b = tPermit) || decide (b = tDeny)) || decide ((prs 4 0 c).2.2 = 3) || decide ((opt tLe (opt tGe r).2).2 ≠ [])
def pw : List (List UInt8) → Ru × Int
  | a :: b :: c :: r => if pbad a b c r then (ru0, 3) else if decide ((prs 4 0 c).2.2 ≠ 0) || !okr (pru a b c r) then (ru0, 1) else (pru a b c r, 0)
  | _ => (ru0, 3)
theorem opt_len (nm : List UInt8) (r : List (List UInt8)) : r.length ≤ (opt nm r).2.length + 2 := by
  unfold opt
  split
  · split
    · split <;> simp
    · simp
  · simp
theorem pw_many {ws : List (List UInt8)} (h : 8 ≤ ws.length) : pw ws = (ru0, 3) := by
  match ws, h with
  | a :: b :: c :: r, h =>
    have h1 := opt_len tGe r
    have h2 := opt_len tLe (opt tGe r).2
    simp at h
    have h3 : (opt tLe (opt tGe r).2).2 ≠ [] := by
      intro e
      rw [e] at h2
      simp at h2
      omega
    have : pbad a b c r = true := by simp [pbad, h3]
    simp [pw, this]
/-- Cut at most seven times, it is the same rule. -/
theorem pw_spl (l : List UInt8) : pw (spl (min 8 (l.length + 1) - 1) l) = pw (wds l) := by
  rcases Nat.lt_or_ge (min 8 (l.length + 1) - 1 + 1) (wds l).length with h | h
  · have h1 := spl_many _ _ h
    have h2 := wds_len l
    rw [pw_many (by omega), pw_many (by omega)]
  · rw [spl_few _ _ h]
/-- What a rule is written as. -/
def rtx (x : Ru) : List UInt8 := Lib.itoa x.s ++ 32 :: ((if x.p then tPermit else tDeny) ++ 32 :: (txt x.A x.N ++ ((if x.g = 0 then [] else 32 :: (tGe ++ 32 :: Lib.itoa x.g)) ++ (if x.l = 0 then [] else 32 :: (tLe ++ 32 :: Lib.itoa x.l)))))
/-- Its words. -/
def rws (x : Ru) : List (List UInt8) := Lib.itoa x.s :: (if x.p then tPermit else tDeny) :: txt x.A x.N :: ((if x.g = 0 then [] else [tGe, Lib.itoa x.g]) ++ (if x.l = 0 then [] else [tLe, Lib.itoa x.l]))
theorem rtx_jn (x : Ru) : rtx x = jn (rws x) := by
  unfold rtx rws
  by_cases h1 : x.g = 0 <;> by_cases h2 : x.l = 0 <;> simp [h1, h2, jn]
theorem itoa_no (n : Int) : ∀ c ∈ Lib.itoa n, c ≠ 32 := by
  intro c hc e
  unfold Lib.itoa at hc
  have hd : ∀ u, c ∈ Lib.decDigits u → False := fun u h => by
    have := isD_bd ((dec_props u).1 c h)
    rw [e] at this
    have h9 : (32 : UInt8).toNat = 32 := rfl
    omega
  split at hc
  · rcases List.mem_cons.1 hc with q | q
    · rw [e] at q; exact absurd q (by decide)
    · exact hd _ q
  · exact hd _ hc
theorem txt_no (A : Nat) (N : Int) : ∀ c ∈ txt A N, c ≠ 32 := by
  intro c hc e
  have hd : ∀ u, c ∈ Lib.decDigits u → False := fun u h => by
    have := isD_bd ((dec_props u).1 c h)
    rw [e] at this
    have h9 : (32 : UInt8).toNat = 32 := rfl
    omega
  simp only [txt, List.mem_append, List.mem_cons] at hc
  rcases hc with q | q | q | q | q | q | q | q | q
  · exact hd _ q
  · rw [e] at q; exact absurd q (by decide)
  · exact hd _ q
  · rw [e] at q; exact absurd q (by decide)
  · exact hd _ q
  · rw [e] at q; exact absurd q (by decide)
  · exact hd _ q
  · rw [e] at q; exact absurd q (by decide)
  · exact itoa_no N c q e
theorem wds_rtx (x : Ru) : wds (rtx x) = rws x := by
  rw [rtx_jn, wds_jn]
  · simp [rws]
  · intro a ha
    have hP : ∀ c ∈ (if x.p then tPermit else tDeny), c ≠ 32 := by cases x.p <;> decide
    have hG : ∀ c ∈ tGe, c ≠ 32 := by decide
    have hL : ∀ c ∈ tLe, c ≠ 32 := by decide
    simp only [rws, List.mem_cons, List.mem_append] at ha
    rcases ha with rfl | rfl | rfl | ha | ha
    · exact itoa_no _
    · exact hP
    · exact txt_no _ _
    · split at ha
      · simp at ha
      · simp only [List.mem_cons, List.not_mem_nil, or_false] at ha
        rcases ha with rfl | rfl
        · exact hG
        · exact itoa_no _
    · split at ha
      · simp at ha
      · simp only [List.mem_cons, List.not_mem_nil, or_false] at ha
        rcases ha with rfl | rfl
        · exact hL
        · exact itoa_no _
end Go.Proofs.YtkofpijhihghpaaDoor
