/-
  Plain lemmas: a rule that is written is read, and what is read is written so. No statement is proved here; no conditions.
-/
import Derived.Test.YtkofpijhihghpaaDoorWrd
namespace Go.Proofs.YtkofpijhihghpaaDoor

theorem opt_inv (nm : List UInt8) (r : List (List UInt8)) : ((opt nm r).1 = 0 ∧ (opt nm r).2 = r) ∨ ((opt nm r).1 ≠ 0 ∧ r = nm :: Lib.itoa ((opt nm r).1 : Int) :: (opt nm r).2) := by
  unfold opt
  split
  · rename_i a b t
    split
    · rename_i h
      split
      · exact .inl ⟨rfl, rfl⟩
      · rename_i h2
        exact .inr ⟨h2, by rw [itoa_num h2, h]⟩
    · exact .inl ⟨rfl, rfl⟩
  · exact .inl ⟨rfl, rfl⟩
/-- What is read is written so. -/
theorem pw_back {ws : List (List UInt8)} (h : (pw ws).2 = 0) : rtx (pw ws).1 = jn ws ∧ okr (pw ws).1 = true ∧ (pw ws).1.A < 4294967296 := by
  match ws, h with
  | [], h => exact absurd h (by decide)
  | [_], h => simp [pw] at h
  | [_, _], h => simp [pw] at h
  | a :: b :: c :: r, h =>
    cases hb : pbad a b c r with
    | true => simp [pw, hb] at h
    | false =>
      by_cases h2 : (decide ((prs 4 0 c).2.2 ≠ 0) || !okr (pru a b c r)) = true
      · simp only [pw, hb, Bool.false_eq_true, if_false, if_pos h2] at h
        exact absurd h (by decide)
      · have e1 : pw (a :: b :: c :: r) = (pru a b c r, 0) := by simp only [pw, hb, Bool.false_eq_true, if_false, if_neg h2]
        rw [e1]
        simp only [Bool.or_eq_true, decide_eq_true_eq, Bool.not_eq_true', not_or, Bool.not_eq_false, Decidable.not_not] at h2
        obtain ⟨h3, h4⟩ := h2
        obtain ⟨t1, t2⟩ := txt_prs c h3
        refine ⟨?_, h4, t2⟩
        simp only [pbad, Bool.or_eq_false_iff, decide_eq_false_iff_not, Bool.not_eq_false', Bool.or_eq_true, decide_eq_true_eq, Decidable.not_not] at hb
        obtain ⟨⟨⟨b1, b2⟩, _⟩, b4⟩ := hb
        rw [rtx_jn]
        congr 1
        unfold rws
        have w1 : Lib.itoa (pru a b c r).s = a := itoa_num b1
        have w2 : (if (pru a b c r).p then tPermit else tDeny) = b := by
          show (if decide (b = tPermit) = true then tPermit else tDeny) = b
          rcases b2 with q | q
          · rw [q]; rfl
          · rw [q]; rfl
        have w3 : txt (pru a b c r).A (pru a b c r).N = c := t1
        rw [w1, w2, w3]
        have w4 : (if (pru a b c r).g = 0 then [] else [tGe, Lib.itoa (pru a b c r).g]) ++ (if (pru a b c r).l = 0 then [] else [tLe, Lib.itoa (pru a b c r).l]) = r := by
          show (if ((opt tGe r).1 : Int) = 0 then [] else [tGe, Lib.itoa ((opt tGe r).1 : Int)]) ++ (if ((opt tLe (opt tGe r).2).1 : Int) = 0 then [] else [tLe, Lib.itoa ((opt tLe (opt tGe r).2).1 : Int)]) = r
          have i1 := opt_inv tGe r
          have i2 := opt_inv tLe (opt tGe r).2
          rw [b4] at i2
          generalize opt tLe (opt tGe r).2 = o2 at *
          generalize opt tGe r = o1 at *
          rcases i1 with ⟨p1, p2⟩ | ⟨p1, p2⟩ <;> rcases i2 with ⟨q1, q2⟩ | ⟨q1, q2⟩
          · rw [if_pos (by omega), if_pos (by omega), ← p2, ← q2]; rfl
          · rw [if_pos (by omega), if_neg (by omega), ← p2, q2]; rfl
          · rw [if_neg (by omega), if_pos (by omega), p2, ← q2]; rfl
          · rw [if_neg (by omega), if_neg (by omega), p2, q2]; rfl
        rw [w4]
/-- A rule that may be is read as it was written. -/
theorem pw_rws {x : Ru} (h : okr x = true) (hA : x.A < 4294967296) : pw (rws x) = (x, 0) := by
  obtain ⟨⟨s1, s2⟩, hp, hg, hl⟩ := (okr_iff x).1 h
  obtain ⟨n0, n1, _⟩ := (okp_iff _ _).1 hp
  obtain ⟨s, p, A, N, g, l⟩ := x
  simp only at s1 s2 hp hg hl n0 n1 hA
  have e1 : num (Lib.itoa s) = s.toNat := by rw [num_itoa, if_pos (by omega)]
  have e3 : prs 4 0 (txt A N) = (A, N.toNat, 0) := by rw [prs_txt A N hA, if_pos (by simp [lenOk]; omega), if_pos hp]
  have e2 : decide ((if p = true then tPermit else tDeny) = tPermit) = p := by cases p <;> decide
  have e2' : (decide ((if p = true then tPermit else tDeny) = tPermit) || decide ((if p = true then tPermit else tDeny) = tDeny)) = true := by cases p <;> decide
  obtain ⟨r, hr⟩ : ∃ r, (if g = 0 then [] else [tGe, Lib.itoa g]) ++ (if l = 0 then [] else [tLe, Lib.itoa l]) = r := ⟨_, rfl⟩
  have e4 : (opt tGe r).1 = g.toNat ∧ (opt tLe (opt tGe r).2).1 = l.toNat ∧ (opt tLe (opt tGe r).2).2 = [] := by
    have hne : tLe ≠ tGe := by decide
    have hL : opt tLe (if l = 0 then [] else [tLe, Lib.itoa l]) = (l.toNat, []) := by
      by_cases q : l = 0
      · rw [if_pos q, q]; rfl
      · have : num (Lib.itoa l) = l.toNat := by rw [num_itoa, if_pos (by omega)]
        rw [if_neg q]
        simp only [opt, if_pos, this]
        rw [if_neg (by omega)]
    by_cases q : g = 0
    · rw [if_pos q, List.nil_append] at hr
      have : opt tGe r = (0, r) := by
        rw [← hr]
        by_cases q2 : l = 0
        · rw [if_pos q2]; rfl
        · rw [if_neg q2]
          simp only [opt, if_neg hne]
      rw [this, ← hr, hL, q]
      exact ⟨rfl, rfl, rfl⟩
    · have hn : num (Lib.itoa g) = g.toNat := by rw [num_itoa, if_pos (by omega)]
      rw [if_neg q] at hr
      have : opt tGe r = (g.toNat, if l = 0 then [] else [tLe, Lib.itoa l]) := by
        rw [← hr]
        simp only [opt, List.cons_append, List.nil_append, if_pos, hn]
        rw [if_neg (by omega)]
      rw [this, hL]
      exact ⟨rfl, rfl, rfl⟩
  obtain ⟨e5, e6, e7⟩ := e4
  have er : rws ⟨s, p, A, N, g, l⟩ = Lib.itoa s :: (if p = true then tPermit else tDeny) :: txt A N :: r := by rw [← hr]; rfl
  have hpr : pru (Lib.itoa s) (if p = true then tPermit else tDeny) (txt A N) r = ⟨s, p, A, N, g, l⟩ := by
    unfold pru
    rw [e1, e2, e3, e5, e6]
    simp only [Ru.mk.injEq]
    refine ⟨by omega, trivial, trivial, by omega, by omega, by omega⟩
  have hbd : pbad (Lib.itoa s) (if p = true then tPermit else tDeny) (txt A N) r = false := by
    unfold pbad
    rw [e1, e2', e3, e7]
    simp
    omega
  rw [er]
  simp only [pw, hbd, hpr, e3, h]
  rfl
/-- Just a rule that may be is read. -/
theorem pw_rtx {x : Ru} (hA : x.A < 4294967296) : decide ((pw (wds (rtx x))).2 = 0) = okr x ∧ (okr x = true → (pw (wds (rtx x))).1 = x) := by
  rw [wds_rtx]
  cases h : okr x with
  | true => rw [pw_rws h hA]; exact ⟨rfl, fun _ => rfl⟩
  | false =>
    refine ⟨?_, fun h => by cases h⟩
    rw [decide_eq_false_iff_not]
    intro h0
    obtain ⟨b1, b2, b3⟩ := pw_back h0
    obtain ⟨y, hy⟩ : ∃ y, (pw (rws x)).1 = y := ⟨_, rfl⟩
    rw [hy] at b1 b2 b3
    have e : rws y = rws x := by
      rw [← wds_rtx, b1, ← rtx_jn, wds_rtx]
    have e2 := pw_rws b2 b3
    rw [e] at e2
    obtain ⟨⟨s1, s2⟩, hp, hg, hl⟩ := (okr_iff y).1 b2
    obtain ⟨n0, n1, _⟩ := (okp_iff _ _).1 hp
    have inj : ∀ {n m : Int}, 1 ≤ n → n ≤ 99999 → Lib.itoa n = Lib.itoa m → n = m := fun {n m} h1 h2 h3 => by
      have a1 := num_itoa n
      have a2 := num_itoa m
      rw [h3, a2, if_pos (show 1 ≤ n ∧ n ≤ 99999 from ⟨h1, h2⟩)] at a1
      split at a1 <;> omega
    have hxy : x = y := by
      obtain ⟨s, p, A, N, g, l⟩ := x
      obtain ⟨s', p', A', N', g', l'⟩ := y
      simp only [rws, List.cons.injEq] at e
      simp only at s1 s2 hp hg hl n0 n1 hA b3
      obtain ⟨q1, q2, q3, q4⟩ := e
      have r1 := inj s1 (by omega) q1
      have r2 : p' = p := by cases p <;> cases p' <;> first | rfl | simp at q2
      have r3 : A = A' ∧ N = N' := by
        have t1 := prs_txt A' N' b3
        have t2 := prs_txt A N hA
        rw [q3, t2, if_pos (show lenOk N' = true by simp [lenOk]; omega), if_pos hp] at t1
        split at t1
        · rename_i hle
          simp only [lenOk, decide_eq_true_eq] at hle
          split at t1
          · simp only [Prod.mk.injEq] at t1
            exact ⟨t1.1, by omega⟩
          · simp at t1
        · simp at t1
      have r4 : g' = g ∧ l' = l := by
        by_cases z1 : g' = 0 <;> by_cases z2 : l' = 0 <;> by_cases z3 : g = 0 <;> by_cases z4 : l = 0 <;> simp [z1, z2, z3, z4] at q4 <;> (try simp only [z1, z2, z3, z4, and_true, true_and])
        all_goals first
          | exact ⟨inj (by omega) (by omega) q4.1, inj (by omega) (by omega) q4.2⟩
          | exact inj (by omega) (by omega) q4
          | trivial
      rw [r1, r2, r3.1, r3.2, r4.1, r4.2]
    rw [hxy, b2] at h
    cases h
end Go.Proofs.YtkofpijhihghpaaDoor
