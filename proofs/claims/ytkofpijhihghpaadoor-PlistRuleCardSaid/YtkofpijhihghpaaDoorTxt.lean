/-
  Plain lemmas on texts of prefixes: digits, numbers, what stands before and behind a byte. No statement is proved here; no conditions.
-/
import Derived.Test.YtkofpijhihghpaaDoorNum
import Derived.Shelf.GgClosure.StringsIndexFunc
import Derived.Laws.RangeAny
import Derived.Lib.ItoaLen
import Derived.Lib.IndexLaws
namespace Go.Proofs.YtkofpijhihghpaaDoor

/-- A text of these bytes. -/
abbrev st (l : List UInt8) : ByteArray := ⟨l.toArray⟩
theorem st_size (l : List UInt8) : (st l).size = l.length := by simp [ByteArray.size]
theorem st_append (a b : List UInt8) : st a ++ st b = st (a ++ b) := by
  apply ByteArray.ext
  simp
theorem st_of (s : ByteArray) : s = st s.data.toList := by cases s; simp
theorem st_get (l : List UInt8) (i : Nat) (h : i < (st l).size) : (st l)[i]'h = l[i]'(by rw [← st_size]; exact h) := by
  show l.toArray[i] = _
  simp
theorem st_inj {a b : List UInt8} (h : st a = st b) : a = b := by
  have := congrArg (fun s => s.data.toList) h
  simpa using this

/-! ### Digits -/
def isD (c : UInt8) : Bool := decide (48 ≤ c.toNat ∧ c.toNat ≤ 57)
/-- What digits say. -/
def val (t : List UInt8) : Nat := t.foldl (fun n c => n * 10 + (c.toNat - 48)) 0
theorem val_snoc (t : List UInt8) (c : UInt8) : val (t ++ [c]) = val t * 10 + (c.toNat - 48) := by simp [val]
theorem snoc_of {α : Type} {l : List α} (h : l ≠ []) : ∃ a x, l = a ++ [x] := ⟨l.dropLast, l.getLast h, (List.dropLast_concat_getLast h).symm⟩
theorem val_take (t : List UInt8) (i : Nat) (h : i < t.length) : val (t.take (i + 1)) = val (t.take i) * 10 + (t[i].toNat - 48) := by
  rw [List.take_succ_eq_append_getElem h, val_snoc]
theorem val_mono (t : List UInt8) (k i : Nat) : val (t.take i) ≤ val (t.take (i + k)) := by
  induction k with
  | zero => exact Nat.le_refl _
  | succ k ih =>
    by_cases h : i + k < t.length
    · have := val_take t (i + k) h
      rw [← Nat.add_assoc]; omega
    · have e1 : t.take (i + (k + 1)) = t := List.take_of_length_le (by omega)
      have e2 : t.take (i + k) = t := List.take_of_length_le (by omega)
      rw [e1]; rwa [e2] at ih
theorem val_take_le (t : List UInt8) (i : Nat) : val (t.take i) ≤ val t := by
  have := val_mono t t.length i
  have e : t.take (i + t.length) = t := List.take_of_length_le (by omega)
  rwa [e] at this
/-- A number without leading zeros, up to most. -/
def numOk (most : Nat) (t : List UInt8) : Bool := decide (t ≠ []) && t.all isD && !(decide (1 < t.length) && decide (t[0]? = some 48)) && decide (val t ≤ most)
theorem numOk_iff (most : Nat) (t : List UInt8) : numOk most t = true ↔ t ≠ [] ∧ (∀ c ∈ t, isD c = true) ∧ ¬ (1 < t.length ∧ t[0]? = some 48) ∧ val t ≤ most := by
  unfold numOk
  simp only [Bool.and_eq_true, decide_eq_true_eq, List.all_eq_true, Bool.not_eq_true', and_assoc]
  constructor
  · rintro ⟨a, b, c, d⟩; exact ⟨a, b, by simpa using c, d⟩
  · rintro ⟨a, b, c, d⟩; exact ⟨a, b, by simpa using c, d⟩
theorem isD_bd {c : UInt8} (h : isD c = true) : 48 ≤ c.toNat ∧ c.toNat ≤ 57 := by simpa [isD] using h
theorem isD_dg (d : Nat) (h : d < 10) : isD (UInt8.ofNat (48 + d)) = true ∧ (UInt8.ofNat (48 + d)).toNat = 48 + d := by
  have e : (UInt8.ofNat (48 + d)).toNat = 48 + d := by simp; omega
  exact ⟨by unfold isD; rw [e]; simp; omega, e⟩
theorem dg_of {c : UInt8} (h : isD c = true) : UInt8.ofNat (48 + (c.toNat - 48)) = c := by
  have := isD_bd h
  rw [show 48 + (c.toNat - 48) = c.toNat by omega]; simp
theorem ne48 {c : UInt8} (h : isD c = true) (hn : c ≠ 48) : 49 ≤ c.toNat := by
  have h1 := isD_bd h
  rcases Nat.lt_or_ge c.toNat 49 with h2 | h2
  · exact absurd (UInt8.toNat_inj.1 (show c.toNat = (48 : UInt8).toNat by show c.toNat = 48; omega)) hn
  · exact h2
/-- Digits without leading zeros are the numeral of what they say. -/
theorem dec_val1 (n : Nat) : ∀ t : List UInt8, t.length = n → t ≠ [] → (∀ c ∈ t, isD c = true) → t[0]? ≠ some 48 → Lib.decDigits (val t) = t ∧ 1 ≤ val t := by
  induction n with
  | zero => intro t h hn; exact absurd (List.eq_nil_of_length_eq_zero h) hn
  | succ n ih =>
    intro t h hn ha hz
    obtain ⟨a, c, rfl⟩ := snoc_of hn
    have hc := ha c (by simp)
    have hb := isD_bd hc
    rw [val_snoc]
    by_cases h0 : a = []
    · subst h0
      have := ne48 hc (by intro e; exact hz (by simp [e]))
      rw [show val [] * 10 + (c.toNat - 48) = c.toNat - 48 by simp [val], Lib.decDigits_one (by omega), dg_of hc]
      exact ⟨rfl, by omega⟩
    · obtain ⟨e1, e2⟩ := ih a (by simpa using h) h0 (fun x hx => ha x (by simp [hx])) (by
        have hl : 0 < a.length := List.length_pos_iff.2 h0
        rwa [List.getElem?_append_left hl] at hz)
      have e3 : (val a * 10 + (c.toNat - 48)) / 10 = val a := by omega
      have e4 : (val a * 10 + (c.toNat - 48)) % 10 = c.toNat - 48 := by omega
      rw [Lib.decDigits, dif_neg (by omega), e3, e4, e1, dg_of hc]
      exact ⟨rfl, by omega⟩
theorem dec_val {most : Nat} {t : List UInt8} (h : numOk most t = true) : Lib.decDigits (val t) = t := by
  obtain ⟨h1, h2, h3, _⟩ := (numOk_iff most t).1 h
  by_cases hz : t[0]? = some 48
  · have hl : t.length = 1 := by
      have : 0 < t.length := List.length_pos_iff.2 h1
      have : ¬ 1 < t.length := fun hh => h3 ⟨hh, hz⟩
      omega
    match t, hl with
    | [c], _ =>
      have : c = 48 := by simpa using hz
      subst this
      rw [show val [48] = 0 by rfl, Lib.decDigits_one (by omega)]; rfl
  · exact (dec_val1 t.length t rfl h1 h2 hz).1
theorem dec_props (u : Nat) : (∀ c ∈ Lib.decDigits u, isD c = true) ∧ val (Lib.decDigits u) = u ∧ Lib.decDigits u ≠ [] ∧ (1 ≤ u → (Lib.decDigits u)[0]? ≠ some 48) := by
  induction u using Nat.strongRecOn with
  | _ u ih =>
    by_cases h : u < 10
    · obtain ⟨h1, h2⟩ := isD_dg u h
      rw [Lib.decDigits_one h]
      refine ⟨by intro c hc; simp only [List.mem_singleton] at hc; rw [hc]; exact h1, by simp only [val, List.foldl_cons, List.foldl_nil]; rw [h2]; omega, by simp, fun h3 => ?_⟩
      simp only [List.getElem?_cons_zero, ne_eq, Option.some.injEq]
      intro e
      have := congrArg UInt8.toNat e
      rw [h2] at this
      have e48 : (48 : UInt8).toNat = 48 := rfl
      omega
    · obtain ⟨i1, i2, i3, i4⟩ := ih (u / 10) (by omega)
      obtain ⟨h1, h2⟩ := isD_dg (u % 10) (by omega)
      rw [Lib.decDigits, dif_neg h]
      refine ⟨fun c hc => ?_, by rw [val_snoc, i2, h2]; omega, by simp, fun _ => ?_⟩
      · rcases List.mem_append.1 hc with hc | hc
        · exact i1 c hc
        · simp only [List.mem_singleton] at hc; rw [hc]; exact h1
      · rw [List.getElem?_append_left (List.length_pos_iff.2 i3)]
        exact i4 (by omega)
theorem dec_len1 (u : Nat) (h : 1 < (Lib.decDigits u).length) : 1 ≤ u := by
  rcases Nat.lt_or_ge u 1 with h1 | h1
  · rw [Lib.decDigits_one (by omega)] at h; simp at h
  · exact h1
theorem numOk_dec (most u : Nat) : numOk most (Lib.decDigits u) = decide (u ≤ most) := by
  obtain ⟨h1, h2, h3, h4⟩ := dec_props u
  rw [Bool.eq_iff_iff, numOk_iff, decide_eq_true_eq, h2]
  exact ⟨fun h => h.2.2.2, fun h => ⟨h3, h1, fun ⟨a, b⟩ => h4 (dec_len1 u a) b, h⟩⟩
theorem num_len {most : Nat} {t : List UInt8} (h : numOk most t = true) (hm : most < 1000) : t.length ≤ 3 := by
  have e := dec_val h
  obtain ⟨_, _, _, h4⟩ := (numOk_iff most t).1 h
  rw [← e, Lib.decDigits_length]
  generalize val t = v at *
  have hv : v < 1000 := by omega
  rw [Lib.nDigits]
  split
  · omega
  · rw [Lib.nDigits]
    split
    · omega
    · rw [Lib.nDigits_small (by omega)]; omega

/-! ### What stands before a byte, and behind it -/
theorem tw_all {α : Type} (p : α → Bool) (l : List α) : ∀ x ∈ l.takeWhile p, p x = true := by
  induction l with
  | nil => intro x hx; simp at hx
  | cons a l ih =>
    intro x hx
    rw [List.takeWhile_cons] at hx
    split at hx
    · rcases List.mem_cons.1 hx with rfl | hx
      · assumption
      · exact ih x hx
    · simp at hx
theorem tw_split {α : Type} (p : α → Bool) (X : List α) (c : α) (R : List α) (hX : ∀ x ∈ X, p x = true) (hc : p c = false) : (X ++ c :: R).takeWhile p = X ∧ (X ++ c :: R).dropWhile p = c :: R := by
  induction X with
  | nil => simp [hc]
  | cons a X ih =>
    obtain ⟨h1, h2⟩ := ih (fun x hx => hX x (by simp [hx]))
    simp [hX a (by simp), h1, h2]
theorem split_mem (c : UInt8) (l : List UInt8) (h : c ∈ l) : ∃ R, l = l.takeWhile (· != c) ++ c :: R ∧ l.dropWhile (· != c) = c :: R := by
  induction l with
  | nil => simp at h
  | cons a l ih =>
    by_cases e : a = c
    · subst e; exact ⟨l, by simp, by simp⟩
    · rcases List.mem_cons.1 h with h | h
      · exact absurd h.symm e
      · obtain ⟨R, h1, h2⟩ := ih h
        refine ⟨R, ?_, by simp [e, h2]⟩
        simp only [List.takeWhile_cons, bne_iff_ne, ne_eq, e, not_false_eq_true, if_true, List.cons_append, List.cons.injEq, true_and]
        exact h1
/-- The number before c, and the rest. -/
def step (c : UInt8) (l : List UInt8) : Option (Nat × List UInt8) :=
  if c ∈ l ∧ numOk 255 (l.takeWhile (· != c)) = true then some (val (l.takeWhile (· != c)), (l.dropWhile (· != c)).tail) else none
theorem dig_ne {X : List UInt8} {c : UInt8} (hX : ∀ x ∈ X, isD x = true) (hc : isD c = false) : ∀ x ∈ X, (x != c) = true := by
  intro x hx
  simp only [bne_iff_ne, ne_eq]
  intro e
  rw [e] at hx
  exact absurd (hX c hx) (by simp [hc])
theorem step_of {c : UInt8} (hc : isD c = false) (X R : List UInt8) (h : numOk 255 X = true) : step c (X ++ c :: R) = some (val X, R) := by
  have hX := ((numOk_iff _ _).1 h).2.1
  obtain ⟨h1, h2⟩ := tw_split (· != c) X c R (dig_ne hX hc) (by simp)
  unfold step
  rw [h1, h2, if_pos ⟨by simp, h⟩]
  rfl
theorem step_inv {c : UInt8} {l R : List UInt8} {n : Nat} (h : step c l = some (n, R)) : l = Lib.decDigits n ++ c :: R ∧ n ≤ 255 := by
  unfold step at h
  split at h
  · rename_i hh
    obtain ⟨R', h1, h2⟩ := split_mem c l hh.1
    rw [h2] at h
    simp only [List.tail_cons, Option.some.injEq, Prod.mk.injEq] at h
    obtain ⟨rfl, rfl⟩ := h
    rw [dec_val hh.2]
    exact ⟨h1, ((numOk_iff _ _).1 hh.2).2.2.2⟩
  · exact absurd h (by simp)
/-- The digits ahead, at most four. -/
def dgs (l : List UInt8) : List UInt8 := (l.takeWhile isD).take 4
theorem take_pre {α : Type} (p : α → Bool) (l : List α) (n : Nat) : (l.takeWhile p).take n = l.take ((l.takeWhile p).take n).length := by
  have h1 : (l.takeWhile p).take n <+: l := (List.take_prefix _ _).trans (List.takeWhile_prefix _)
  exact (List.prefix_iff_eq_take.1 h1)
theorem dgs_take (l : List UInt8) : l.take (dgs l).length = dgs l := (take_pre isD l 4).symm
theorem dgs_all (l : List UInt8) : ∀ x ∈ dgs l, isD x = true := fun x hx => tw_all isD l x (List.mem_of_mem_take hx)
/-- The same, byte by byte. -/
theorem step_ref {c : UInt8} (hc : isD c = false) (l : List UInt8) : step c l = if numOk 255 (dgs l) = true ∧ l[(dgs l).length]? = some c then some (val (dgs l), l.drop ((dgs l).length + 1)) else none := by
  by_cases h : numOk 255 (dgs l) = true ∧ l[(dgs l).length]? = some c
  · rw [if_pos h]
    obtain ⟨hl, hg⟩ := List.getElem?_eq_some_iff.1 h.2
    have e : l = dgs l ++ c :: l.drop ((dgs l).length + 1) := by
      have e1 := (List.take_append_drop (dgs l).length l).symm
      rw [List.drop_eq_getElem_cons hl, hg, dgs_take] at e1
      exact e1
    have := step_of hc (dgs l) (l.drop ((dgs l).length + 1)) h.1
    rwa [← e] at this
  · rw [if_neg h]
    unfold step
    rw [if_neg]
    rintro ⟨h1, h2⟩
    apply h
    obtain ⟨R, e1, e2⟩ := split_mem c l h1
    have hX := ((numOk_iff _ _).1 h2).2.1
    have h3 := num_len h2 (by omega)
    have e3 : l.takeWhile isD = l.takeWhile (· != c) := by
      have := (tw_split isD (l.takeWhile (· != c)) c R hX hc).1
      rwa [← e1] at this
    have e4 : dgs l = l.takeWhile (· != c) := by unfold dgs; rw [e3]; exact List.take_of_length_le (by omega)
    rw [e4]
    refine ⟨h2, ?_⟩
    generalize l.takeWhile (· != c) = X at *
    rw [e1, List.getElem?_append_right (Nat.le_refl _)]
    simp
theorem last_ref (l : List UInt8) : numOk 32 l = (numOk 32 (dgs l) && decide ((dgs l).length = l.length)) := by
  rw [Bool.eq_iff_iff]
  simp only [Bool.and_eq_true, decide_eq_true_eq]
  constructor
  · intro h
    have hX := ((numOk_iff _ _).1 h).2.1
    have h3 := num_len h (by omega)
    have e : dgs l = l := by
      have e1 : l.takeWhile isD = l := by
        clear h h3
        induction l with
        | nil => rfl
        | cons a l ih => rw [List.takeWhile_cons, if_pos (hX a (by simp)), ih (fun x hx => hX x (by simp [hx]))]
      unfold dgs; rw [e1]; exact List.take_of_length_le (by omega)
    rw [e]; exact ⟨h, rfl⟩
  · rintro ⟨h1, h2⟩
    have := dgs_take l
    rw [h2, List.take_length] at this
    rw [this]; exact h1

/-! ### Parsing, and writing -/
/-- The last number. -/
def fin (a : Nat) (l : List UInt8) : Nat × Nat × Int := if numOk 32 l = true then (if okp a (val l : Int) = true then (a, val l, 0) else (0, 0, 1)) else (0, 0, 3)
/-- j numbers and the last one. -/
def prs : Nat → Nat → List UInt8 → Nat × Nat × Int
  | 0, a, l => fin a l
  | j + 1, a, l => match step (if j = 0 then 47 else 46) l with
    | none => (0, 0, 3)
    | some (n, R) => prs j (a * 256 + n) R
/-- The text of a prefix. -/
def txt (A : Nat) (N : Int) : List UInt8 :=
  Lib.decDigits (A / 16777216) ++ 46 :: (Lib.decDigits (A / 65536 % 256) ++ 46 :: (Lib.decDigits (A / 256 % 256) ++ 46 :: (Lib.decDigits (A % 256) ++ 47 :: Lib.itoa N)))
theorem numOk_itoa (N : Int) : numOk 32 (Lib.itoa N) = lenOk N := by
  unfold Lib.itoa lenOk
  split
  · rename_i h
    rw [decide_eq_false (by omega)]
    rw [Bool.eq_false_iff]
    intro h1
    have := ((numOk_iff _ _).1 h1).2.1 45 (by simp)
    exact absurd this (by decide)
  · rw [numOk_dec]
    exact decide_eq_decide.2 (by omega)
theorem fin_itoa (A : Nat) (N : Int) : fin A (Lib.itoa N) = if lenOk N = true then (if okp A N = true then (A, N.toNat, 0) else (0, 0, 1)) else (0, 0, 3) := by
  unfold fin
  rw [numOk_itoa]
  by_cases h : lenOk N = true
  · rw [if_pos h, if_pos h]
    simp only [lenOk, decide_eq_true_eq] at h
    have e : val (Lib.itoa N) = N.toNat := by
      unfold Lib.itoa
      rw [if_neg (by omega)]
      exact (dec_props _).2.1
    rw [e, show ((N.toNat : Nat) : Int) = N by omega]
  · rw [if_neg h, if_neg h]
theorem d46 : isD 46 = false := by decide
theorem d47 : isD 47 = false := by decide
/-- What is written is parsed. -/
theorem prs_txt (A : Nat) (N : Int) (hA : A < 4294967296) : prs 4 0 (txt A N) = if lenOk N = true then (if okp A N = true then (A, N.toNat, 0) else (0, 0, 1)) else (0, 0, 3) := by
  have s : ∀ (c : UInt8) (_ : isD c = false) (u : Nat) (R : List UInt8), u ≤ 255 → step c (Lib.decDigits u ++ c :: R) = some (u, R) := by
    intro c hc u R hu
    have := step_of hc (Lib.decDigits u) R (by rw [numOk_dec]; simpa using hu)
    rw [this, (dec_props u).2.1]
  unfold txt
  simp only [prs]
  rw [if_neg (by omega), s 46 d46 _ _ (by omega)]
  simp only
  rw [if_neg (by omega), s 46 d46 _ _ (by omega)]
  simp only
  rw [if_neg (by omega), s 46 d46 _ _ (by omega)]
  simp only
  rw [if_pos trivial, s 47 d47 _ _ (by omega)]
  simp only
  rw [← fin_itoa]
  congr 1
  omega
/-- What is parsed is written so. -/
theorem txt_prs (l : List UInt8) (h : (prs 4 0 l).2.2 = 0) : txt (prs 4 0 l).1 ((prs 4 0 l).2.1 : Int) = l ∧ (prs 4 0 l).1 < 4294967296 := by
  simp only [prs] at h ⊢
  rw [if_neg (by omega)] at h ⊢
  cases h1 : step 46 l with
  | none => rw [h1] at h; exact absurd (show (3 : Int) = 0 from h) (by decide)
  | some x1 =>
    obtain ⟨n1, R1⟩ := x1
    rw [h1] at h
    simp only at h ⊢
    rw [if_neg (by omega)] at h ⊢
    cases h2 : step 46 R1 with
    | none => rw [h2] at h; exact absurd (show (3 : Int) = 0 from h) (by decide)
    | some x2 =>
      obtain ⟨n2, R2⟩ := x2
      rw [h2] at h
      simp only at h ⊢
      rw [if_neg (by omega)] at h ⊢
      cases h3 : step 46 R2 with
      | none => rw [h3] at h; exact absurd (show (3 : Int) = 0 from h) (by decide)
      | some x3 =>
        obtain ⟨n3, R3⟩ := x3
        rw [h3] at h
        simp only at h ⊢
        rw [if_pos trivial] at h ⊢
        cases h4 : step 47 R3 with
        | none => rw [h4] at h; exact absurd (show (3 : Int) = 0 from h) (by decide)
        | some x4 =>
          obtain ⟨n4, R4⟩ := x4
          rw [h4] at h
          simp only at h ⊢
          unfold fin at h ⊢
          split at h
          · rename_i h5
            rw [if_pos h5]
            split at h
            · rename_i h6
              rw [if_pos h6]
              obtain ⟨e1, b1⟩ := step_inv h1
              obtain ⟨e2, b2⟩ := step_inv h2
              obtain ⟨e3, b3⟩ := step_inv h3
              obtain ⟨e4, b4⟩ := step_inv h4
              have e5 : Lib.itoa ((val R4 : Nat) : Int) = R4 := by
                unfold Lib.itoa
                rw [if_neg (by omega)]
                exact dec_val h5
              simp only
              refine ⟨?_, by omega⟩
              rw [e1, e2, e3, e4]
              unfold txt
              rw [e5, show ((((0 * 256 + n1) * 256 + n2) * 256 + n3) * 256 + n4) / 16777216 = n1 by omega, show ((((0 * 256 + n1) * 256 + n2) * 256 + n3) * 256 + n4) / 65536 % 256 = n2 by omega,
                show ((((0 * 256 + n1) * 256 + n2) * 256 + n3) * 256 + n4) / 256 % 256 = n3 by omega, show ((((0 * 256 + n1) * 256 + n2) * 256 + n3) * 256 + n4) % 256 = n4 by omega]
            · exact absurd h (by decide)
          · exact absurd h (by decide)

/-! ### Runes -/
/-- What the closure asks. -/
def foreign (r : Nat) : Bool := decide (r < 48 ∨ 57 < r)
theorem idx_from (s : ByteArray) : ∀ (f pos : Nat), s.size ≤ pos + f → (Lib.idxFuncFrom foreign true s f pos = -1 ↔ ∀ (k : Nat) (h : k < s.size), pos ≤ k → isD (s[k]'h) = true) := by
  intro f
  induction f with
  | zero => intro pos h; exact ⟨fun _ k h1 h2 => by omega, fun _ => rfl⟩
  | succ f ih =>
    intro pos hf
    unfold Lib.idxFuncFrom
    by_cases hp : pos < s.size
    · rw [if_pos hp]
      by_cases ha : (s[pos]'hp).toNat < 128
      · rw [decode_ascii s pos hp ha]
        simp only
        by_cases hd : isD (s[pos]'hp) = true
        · have h1 := isD_bd hd
          rw [if_neg (by simp only [foreign, decide_eq_true_eq]; omega), ih (pos + 1) (by omega)]
          constructor
          · intro h k hk hk2
            rcases Nat.lt_or_ge pos k with h3 | h3
            · exact h k hk h3
            · obtain rfl : k = pos := by omega
              exact hd
          · intro h k hk hk2; exact h k hk (by omega)
        · rw [if_pos (by
            simp only [foreign, decide_eq_true_eq]
            simp only [isD, decide_eq_true_eq] at hd
            omega)]
          constructor
          · intro h; omega
          · intro h; exact absurd (h pos hp (Nat.le_refl _)) hd
      · have h2 := (decode_high s pos hp (by omega)).1
        rw [if_pos (by simp only [foreign, decide_eq_true_eq]; omega)]
        constructor
        · intro h; omega
        · intro h
          have := isD_bd (h pos hp (Nat.le_refl _))
          omega
    · rw [if_neg hp]
      exact ⟨fun _ k h1 h2 => by omega, fun _ => rfl⟩
theorem foreign_iff (l : List UInt8) : decide (0 ≤ Lib.idxFunc foreign true (st l)) = !(l.all isD) := by
  have h := idx_from (st l) (st l).size 0 (by omega)
  have h2 : Lib.idxFuncFrom foreign true (st l) (st l).size 0 = Lib.idxFunc foreign true (st l) := rfl
  rw [h2] at h
  have h3 := Lib.idxFunc_range foreign true (st l)
  have h4 : (l.all isD = true) ↔ Lib.idxFunc foreign true (st l) = -1 := by
    rw [h, List.all_eq_true]
    constructor
    · intro h5 k hk _
      rw [st_get]
      exact h5 _ (List.getElem_mem _)
    · intro h5 x hx
      obtain ⟨k, hk, rfl⟩ := List.getElem_of_mem hx
      have := h5 k (by rw [st_size]; exact hk) (Nat.zero_le _)
      rwa [st_get] at this
  rw [Bool.eq_iff_iff]
  simp only [decide_eq_true_eq, Bool.not_eq_true', Bool.eq_false_iff, ne_eq]
  rw [h4]
  omega
end Go.Proofs.YtkofpijhihghpaaDoor
