/-
  The contract of the reference's Parse. No statement is proved here; no conditions.
-/
import Derived.Test.YtkofpijhihghpaaDoorPp
import Derived.Test.YtkofpijhihghpaaDoorRefE
namespace Go.Proofs.YtkofpijhihghpaaDoor
open Go.RowKit Go.Joins

theorem opt_par (nm : List UInt8) (r : List (List UInt8)) : (opt nm r).2.length % 2 = r.length % 2 := by
  rcases opt_inv nm r with ⟨_, h⟩ | ⟨_, h⟩
  · rw [h]
  · have := congrArg List.length h
    simp at this
    omega
theorem pw_even {ws : List (List UInt8)} (h : ws.length % 2 = 0) : pw ws = (ru0, 3) := by
  match ws, h with
  | [], _ => rfl
  | [_], h => simp at h
  | [_, _], _ => rfl
  | a :: b :: c :: r, h =>
    have h1 := opt_par tGe r
    have h2 := opt_par tLe (opt tGe r).2
    simp at h
    have h3 : (opt tLe (opt tGe r).2).2 ≠ [] := by
      intro e
      rw [e] at h2
      simp at h2
      omega
    have : pbad a b c r = true := by simp [pbad, h3]
    simp [pw, this]
theorem jn_word : ∀ (r : List (List UInt8)), ∀ a ∈ r, a.length ≤ (jn r).length := by
  intro r
  induction r with
  | nil => intro a ha; simp at ha
  | cons b r ih =>
    intro a ha
    cases r with
    | nil => simp at ha; rw [ha]; exact Nat.le_refl _
    | cons c r =>
      rw [jn_cons _ (by simp), List.length_append, List.length_cons]
      rcases List.mem_cons.1 ha with rfl | ha
      · omega
      · have := ih a ha; omega
theorem wds_word_len (l : List UInt8) (a : List UInt8) (h : a ∈ wds l) : a.length ≤ l.length := by
  have := jn_word (wds l) a h
  rwa [jn_wds] at this
theorem pw_few {ws : List (List UInt8)} (h : ws.length < 3) : pw ws = (ru0, 3) := by
  match ws, h with
  | [], _ => rfl
  | [_], _ => rfl
  | [_, _], _ => rfl
  | _ :: _ :: _ :: _, h => simp at h; omega
theorem opt_cons2 (nm d e : List UInt8) (t : List (List UInt8)) : opt nm (d :: e :: t) = if d = nm then (if num e = 0 then (0, d :: e :: t) else (num e, t)) else (0, d :: e :: t) := rfl
/-- Two words that are no end. -/
theorem form1 {d e : List UInt8} {t : List (List UInt8)} (h : num e = 0 ∨ d ≠ tGe ∧ (d ≠ tLe ∨ t ≠ [])) : (opt tLe (opt tGe (d :: e :: t)).2).2 ≠ [] := by
  have hne : tGe ≠ tLe := by decide
  rw [opt_cons2]
  by_cases h1 : d = tGe
  · rcases h with h | h
    · rw [if_pos h1, if_pos h]
      simp only
      rw [opt_cons2, if_neg (by rw [h1]; exact hne)]
      simp
    · exact absurd h1 h.1
  · rw [if_neg h1]
    simp only
    rw [opt_cons2]
    by_cases h2 : d = tLe
    · rw [if_pos h2]
      by_cases h3 : num e = 0
      · rw [if_pos h3]; simp
      · rw [if_neg h3]
        rcases h with h | h
        · exact absurd h h3
        · rcases h.2 with h4 | h4
          · exact absurd h2 h4
          · exact h4
    · rw [if_neg h2]; simp
theorem ge_ok {d e : List UInt8} {t : List (List UInt8)} (h1 : d = tGe) (h2 : num e ≠ 0) : opt tGe (d :: e :: t) = (num e, t) := by rw [opt_cons2, if_pos h1, if_neg h2]
theorem le_ok {d e : List UInt8} (h1 : d = tLe) (h2 : num e ≠ 0) : opt tGe [d, e] = (0, [d, e]) ∧ opt tLe [d, e] = (num e, []) := by
  have hne : tLe ≠ tGe := by decide
  rw [opt_cons2, opt_cons2, if_neg (by rw [h1]; exact hne), if_pos h1, if_neg h2]
  exact ⟨rfl, rfl⟩
/-- What holds where all words are read. -/
def QEnd (r : List (List UInt8)) (n j v1 v2 : Nat) : Prop := 3 + 2 * j = n → (opt tGe r).1 = v1 ∧ (opt tLe (opt tGe r).2).1 = v2 ∧ (opt tLe (opt tGe r).2).2 = []
/-- What holds where some are left. -/
def QMid (r : List (List UInt8)) (n j v1 v2 : Nat) : Prop := 3 + 2 * j < n → (j = 0 ∧ v1 = 0 ∧ v2 = 0) ∨ (j = 1 ∧ n = 7 ∧ v2 = 0 ∧ opt tGe r = (v1, r.drop 2))
theorem form2 {f g : List UInt8} (h : num g = 0 ∨ f ≠ tLe) : (opt tLe [f, g]).2 ≠ [] := by
  rw [opt_cons2]
  by_cases h1 : f = tLe
  · rw [if_pos h1]
    rcases h with h | h
    · rw [if_pos h]; simp
    · exact absurd h1 h
  · rw [if_neg h1]; simp

set_option maxRecDepth 100000 in
set_option maxHeartbeats 4000000 in
theorem qparse_any (l : List UInt8) (w : World) (hl : l.length ≤ 100) : Calls Tryd.prog 17 #[.string (st l)] w fun e w' => e = .returned (.tuple #[rv (pw (wds l)).1, .int .i64 (pw (wds l)).2]) ∧ Below w.heap.size w w' := by
  obtain ⟨W0, hW0⟩ : ∃ W0, w.alloc (.cells #[.int .i64 0, .bool false, .int .u32 0, .int .i64 0, .int .i64 0, .int .i64 0] 34) = W0 := ⟨_, rfl⟩
  have b0 : Below w.heap.size w W0 := by rw [← hW0]; exact below_alloc1 _ _
  have S0 : Hid (W0.heap.size = w.heap.size + 1) := Lib.hid (by rw [← hW0]; simp)
  have p0 : W0.heap[w.heap.size]? = some (.cells #[.int .i64 0, .bool false, .int .u32 0, .int .i64 0, .int .i64 0, .int .i64 0] 34) := by rw [← hW0]; exact alloc_at _ _ _ rfl
  have cS := words_any l W0 (by omega)
  have hwl : ∀ a ∈ wds l, a.length ≤ 1000 := fun a ha => Nat.le_trans (wds_word_len l a ha) (by omega)
  have hln := wds_len l
  generalize wds l = ws at *
  have HB0 := Lib.hid b0
  have HP0 := Lib.hid p0
  obtain ⟨R, hR⟩ : ∃ R, pw ws = R := ⟨_, rfl⟩
  rw [hR]
  have HR := Lib.hid hR
  clear b0 p0 hR
  obtain ⟨n, hn⟩ : ∃ n, ws.length = n := ⟨_, rfl⟩
  rw [hn] at cS hln
  have HN := Lib.hid hn
  have hlong : ¬ ((l.length : Int) > 100) := by omega
  go_enter Tryd.func17, Tryd.ntmps17
  go_wp2_with fail
  refine cS.mono ?_
  rintro e W1 ⟨A1, c1, rfl, hrd, hcp, hcm, hb1⟩
  have HB1 : Hid (Below w.heap.size w W1) := Lib.hid (HB0.out.trans (hb1.mono HB0.out.size))
  have HP1 : Hid (W1.heap[w.heap.size]? = some (.cells #[.int .i64 0, .bool false, .int .u32 0, .int .i64 0, .int .i64 0, .int .i64 0] 34)) := Lib.hid ((hb1.block w.heap.size (by have := S0.out; omega)).trans HP0.out)
  have HS1 : Hid (Ss W1 A1 c1 ws) := Lib.hid ⟨hrd, by rw [HN.out]; exact hcp, hcm⟩
  have z1 : w.heap.size + 1 ≤ W1.heap.size := by have := hb1.size; have := S0.out; omega
  clear hW0 cS hb1 hrd
  have p1 := HP1.out
  by_cases h3 : n < 3
  · have h3' : (n : Int) < 3 := by omega
    have PW : Hid (R = (ru0, 3)) := Lib.hid (by rw [← HR.out]; exact pw_few (by omega))
    obtain ⟨o0, o1, o2, o3, o4, o5⟩ := rb_at p1
    have f0 := unfrozen_of_block p1 0
    have f1 := unfrozen_of_block p1 1
    have f2 := unfrozen_of_block p1 2
    have f3 := unfrozen_of_block p1 3
    have f4 := unfrozen_of_block p1 4
    have f5 := unfrozen_of_block p1 5
    have rr := put6 p1 (.int .i64 0) (.bool false) (.int .u32 0) (.int .i64 0) (.int .i64 0) (.int .i64 0)
    obtain ⟨r0, r1, r2, r3, r4, r5⟩ := rb_at rr
    have HBS := Lib.hid (put6_below HB1.out (Nat.le_refl w.heap.size) (.int .i64 0) (.bool false) (.int .u32 0) (.int .i64 0) (.int .i64 0) (.int .i64 0))
    clear rr p1 HR HP1 HP0 HS1 hwl HN hn 
    go_wp2
    refine bodyPost_ret (v := .tuple #[.agg #[.int .i64 0, .bool false, .int .u32 0, .int .i64 0, .int .i64 0, .int .i64 0], .int .i64 3]) (by simp [results, Tryd.results17, go_sem, r0, r1, r2, r3, r4, r5]) rfl ⟨?_, HBS.out⟩
    (rw [PW.out]; try rfl)
  by_cases h7 : 7 < n
  · have h3' : ¬ ((n : Int) < 3) := by omega
    have h7' : (n : Int) > 7 := by omega
    have PW : Hid (R = (ru0, 3)) := Lib.hid (by rw [← HR.out]; exact pw_many (by omega))
    obtain ⟨o0, o1, o2, o3, o4, o5⟩ := rb_at p1
    have f0 := unfrozen_of_block p1 0
    have f1 := unfrozen_of_block p1 1
    have f2 := unfrozen_of_block p1 2
    have f3 := unfrozen_of_block p1 3
    have f4 := unfrozen_of_block p1 4
    have f5 := unfrozen_of_block p1 5
    have rr := put6 p1 (.int .i64 0) (.bool false) (.int .u32 0) (.int .i64 0) (.int .i64 0) (.int .i64 0)
    obtain ⟨r0, r1, r2, r3, r4, r5⟩ := rb_at rr
    have HBS := Lib.hid (put6_below HB1.out (Nat.le_refl w.heap.size) (.int .i64 0) (.bool false) (.int .u32 0) (.int .i64 0) (.int .i64 0) (.int .i64 0))
    clear rr p1 HR HP1 HP0 HS1 hwl HN hn 
    go_wp2
    refine bodyPost_ret (v := .tuple #[.agg #[.int .i64 0, .bool false, .int .u32 0, .int .i64 0, .int .i64 0, .int .i64 0], .int .i64 3]) (by simp [results, Tryd.results17, go_sem, r0, r1, r2, r3, r4, r5]) rfl ⟨?_, HBS.out⟩
    (rw [PW.out]; try rfl)
  by_cases h2 : n % 2 = 0
  · have h3' : ¬ ((n : Int) < 3) := by omega
    have h7' : ¬ ((n : Int) > 7) := by omega
    have h2' : ((n : Int) % 2 == 0) = true := by simp; omega
    have PW : Hid (R = (ru0, 3)) := Lib.hid (by rw [← HR.out]; exact pw_even (by rw [HN.out]; exact h2))
    obtain ⟨o0, o1, o2, o3, o4, o5⟩ := rb_at p1
    have f0 := unfrozen_of_block p1 0
    have f1 := unfrozen_of_block p1 1
    have f2 := unfrozen_of_block p1 2
    have f3 := unfrozen_of_block p1 3
    have f4 := unfrozen_of_block p1 4
    have f5 := unfrozen_of_block p1 5
    have rr := put6 p1 (.int .i64 0) (.bool false) (.int .u32 0) (.int .i64 0) (.int .i64 0) (.int .i64 0)
    obtain ⟨r0, r1, r2, r3, r4, r5⟩ := rb_at rr
    have HBS := Lib.hid (put6_below HB1.out (Nat.le_refl w.heap.size) (.int .i64 0) (.bool false) (.int .u32 0) (.int .i64 0) (.int .i64 0) (.int .i64 0))
    clear rr p1 HR HP1 HP0 HS1 hwl HN hn 
    go_wp2
    refine bodyPost_ret (v := .tuple #[.agg #[.int .i64 0, .bool false, .int .u32 0, .int .i64 0, .int .i64 0, .int .i64 0], .int .i64 3]) (by simp [results, Tryd.results17, go_sem, r0, r1, r2, r3, r4, r5]) rfl ⟨?_, HBS.out⟩
    (rw [PW.out]; try rfl)
  match ws, hn, HS1, hwl, HN, HR with
  | [], hn, _, _, _, _ => simp at hn; omega
  | [_], hn, _, _, _, _ => simp at hn; omega
  | [_, _], hn, _, _, _, _ => simp at hn; omega
  | a :: b :: c :: r, hn, HS1, hwl, HN, HR =>
    have h3' : ¬ ((n : Int) < 3) := by omega
    have h7' : ¬ ((n : Int) > 7) := by omega
    have h2' : ((n : Int) % 2 == 0) = false := by simp; omega
    obtain ⟨bw, ow, hA1, w0⟩ := HS1.out.at (k := 0) (by simp)
    subst hA1
    have HRD : Hid (∀ V, Below W1.heap.size W1 V → ∀ k, k < n → V.cell? ⟨bw, ow + k, none⟩ = some (.string (st (gws (a :: b :: c :: r) k)))) := Lib.hid (fun V hV k hk => by
      obtain ⟨b', o', hA', hc'⟩ := (HS1.out.step hV).at (k := k) (by rw [HN.out]; exact hk)
      simp only [Option.some.injEq, Addr.mk.injEq] at hA'
      obtain ⟨rfl, rfl, _⟩ := hA'
      exact hc')
    have HRB : Hid (∀ V, Below W1.heap.size W1 V → V.heap[w.heap.size]? = some (.cells #[.int .i64 0, .bool false, .int .u32 0, .int .i64 0, .int .i64 0, .int .i64 0] 34)) := Lib.hid (fun V hV => (hV.block w.heap.size (by omega)).trans HP1.out)
    have w1 := HRD.out W1 (Below.refl _ _) 1 (by omega)
    rw [show gws (a :: b :: c :: r) 0 = a from rfl, Nat.add_zero] at w0
    rw [show gws (a :: b :: c :: r) 1 = b from rfl] at w1
    have hal := hwl a (by simp)
    have hcl := hwl c (by simp)
    have hrl : ∀ k, k < n → (gws (a :: b :: c :: r) k).length ≤ 1000 := fun k hk => by
      have hk2 : k < (a :: b :: c :: r).length := by rw [HN.out]; exact hk
      refine hwl _ ?_
      unfold gws
      rw [List.getD_eq_getElem?_getD, List.getElem?_eq_getElem hk2, Option.getD_some]
      exact List.getElem_mem _
    have hrn : r.length + 3 = n := by simpa using hn
    have cA := fun W => qnum_any a W (by omega)
    have cP := fun W => rparse_any c W (by omega)
    have hna := num_le a
    obtain ⟨pA, hpA⟩ : ∃ v, (prs 4 0 c).1 = v := ⟨_, rfl⟩
    obtain ⟨pN, hpN⟩ : ∃ v, (prs 4 0 c).2.1 = v := ⟨_, rfl⟩
    obtain ⟨pE, hpE⟩ : ∃ v, (prs 4 0 c).2.2 = v := ⟨_, rfl⟩
    obtain ⟨nA, hnA⟩ : ∃ v, num a = v := ⟨_, rfl⟩
    obtain ⟨PB, hPB⟩ : ∃ v, (b == tPermit) = v := ⟨_, rfl⟩
    obtain ⟨DB, hDB⟩ : ∃ v, (b == tDeny) = v := ⟨_, rfl⟩
    have hPB2 : decide (b = tPermit) = PB := by rw [← hPB, Bool.eq_iff_iff]; simp
    have hDB2 : decide (b = tDeny) = DB := by rw [← hDB, Bool.eq_iff_iff]; simp
    have hpr : prs 4 0 c = (pA, pN, pE) := by rw [← hpA, ← hpN, ← hpE]
    have hpAb : pE = 0 → pA < 4294967296 := fun h => by rw [← hpA]; exact (txt_prs c (by rw [hpE]; exact h)).2
    rw [hpr] at cP
    rw [hnA] at cA hna
    have PWE : Hid (R = if (decide (nA = 0) || !(PB || DB) || decide (pE = 3) || decide ((opt tLe (opt tGe r).2).2 ≠ [])) then (ru0, 3) else if decide (pE ≠ 0) || !okr ⟨(nA : Int), PB, pA, (pN : Int), ((opt tGe r).1 : Int), ((opt tLe (opt tGe r).2).1 : Int)⟩ then (ru0, 1) else (⟨(nA : Int), PB, pA, (pN : Int), ((opt tGe r).1 : Int), ((opt tLe (opt tGe r).2).1 : Int)⟩, 0)) := Lib.hid (by
      rw [← HR.out]
      simp only [pw, pbad, pru, hnA, hPB2, hDB2, hpA, hpN, hpE])
    have HPA := Lib.hid hpAb
    have hPB' := hPB
    have hDB' := hDB
    clear hpA hpN hpE hnA hPB2 hDB2 hpr hpAb HR hn
    have lt0 : 0 < n := by omega
    have lt1 : (1 : Int) < (n : Int) := by omega
    have lt2 : (2 : Int) < (n : Int) := by omega
    by_cases q1 : nA = 0
    · have n1 : ((nA : Int) == 0) = true := by simp; omega
      have PW : Hid (R = (ru0, 3)) := Lib.hid (by rw [PWE.out, decide_eq_true q1]; simp)
      go_wp2_with fail
      refine (cA _).mono ?_
      rintro e V1 ⟨rfl, hV1⟩
      (have hV2 := hV1.symm; subst hV2)
      obtain ⟨o0, o1, o2, o3, o4, o5⟩ := rb_at p1
      have f0 := unfrozen_of_block p1 0
      have f1 := unfrozen_of_block p1 1
      have f2 := unfrozen_of_block p1 2
      have f3 := unfrozen_of_block p1 3
      have f4 := unfrozen_of_block p1 4
      have f5 := unfrozen_of_block p1 5
      have rr := put6 p1 (.int .i64 0) (.bool false) (.int .u32 0) (.int .i64 0) (.int .i64 0) (.int .i64 0)
      obtain ⟨r0, r1, r2, r3, r4, r5⟩ := rb_at rr
      have HBS := Lib.hid (put6_below HB1.out (Nat.le_refl w.heap.size) (.int .i64 0) (.bool false) (.int .u32 0) (.int .i64 0) (.int .i64 0) (.int .i64 0))
      clear rr p1 HP1 HP0 HS1 hwl HN PWE
      go_wp2
      refine bodyPost_ret (v := .tuple #[.agg #[.int .i64 0, .bool false, .int .u32 0, .int .i64 0, .int .i64 0, .int .i64 0], .int .i64 3]) (by simp [results, Tryd.results17, go_sem, r0, r1, r2, r3, r4, r5]) rfl ⟨?_, HBS.out⟩
      (rw [PW.out]; try rfl)
    have n1 : ((nA : Int) == 0) = false := by simp; omega
    cases hv : (PB || DB) with
    | false =>
      have e1 : PB = false := by cases PB <;> simp_all
      have e2 : DB = false := by cases DB <;> simp_all
      rw [e1] at hPB'
      rw [e2] at hDB'
      have PW : Hid (R = (ru0, 3)) := Lib.hid (by rw [PWE.out, decide_eq_false q1, hv]; simp)
      go_wp2_with fail
      refine (cA _).mono ?_
      rintro e V1 ⟨rfl, hV1⟩
      (have hV2 := hV1.symm; subst hV2)
      obtain ⟨o0, o1, o2, o3, o4, o5⟩ := rb_at p1
      have f0 := unfrozen_of_block p1 0
      have f1 := unfrozen_of_block p1 1
      have f2 := unfrozen_of_block p1 2
      have f3 := unfrozen_of_block p1 3
      have f4 := unfrozen_of_block p1 4
      have f5 := unfrozen_of_block p1 5
      have rr := put6 p1 (.int .i64 0) (.bool false) (.int .u32 0) (.int .i64 0) (.int .i64 0) (.int .i64 0)
      obtain ⟨r0, r1, r2, r3, r4, r5⟩ := rb_at rr
      have HBS := Lib.hid (put6_below HB1.out (Nat.le_refl w.heap.size) (.int .i64 0) (.bool false) (.int .u32 0) (.int .i64 0) (.int .i64 0) (.int .i64 0))
      clear rr p1 HP1 HP0 HS1 hwl HN PWE
      go_wp2
      refine bodyPost_ret (v := .tuple #[.agg #[.int .i64 0, .bool false, .int .u32 0, .int .i64 0, .int .i64 0, .int .i64 0], .int .i64 3]) (by simp [results, Tryd.results17, go_sem, r0, r1, r2, r3, r4, r5]) rfl ⟨?_, HBS.out⟩
      (rw [PW.out]; try rfl)
    | true =>
      go_upto_region 4 with fail
      go_cut [48] (fun v wx => v = .bool false ∧ wx = W1)
      case first =>
        cases PB with
        | true =>
          go_wp2_with fail
          refine (cA _).mono ?_
          rintro e V1 ⟨rfl, hV1⟩
          (have hV2 := hV1.symm; subst hV2)
          go_wp2_with fail
          go_meet
          case rel => exact ⟨by rw [decide_eq_false (show ¬ ((n : Int) < 3) by omega), decide_eq_false (show ¬ ((7 : Int) < (n : Int)) by omega)]; rfl, rfl⟩
        | false =>
          have e2 : DB = true := by simpa using hv
          rw [e2] at hDB'
          go_wp2_with fail
          refine (cA _).mono ?_
          rintro e V1 ⟨rfl, hV1⟩
          (have hV2 := hV1.symm; subst hV2)
          go_wp2_with fail
          go_meet
          case rel => exact ⟨by rw [decide_eq_false (show ¬ ((n : Int) < 3) by omega), decide_eq_false (show ¬ ((7 : Int) < (n : Int)) by omega)]; rfl, rfl⟩
      case rest =>
        obtain ⟨rfl, hwc⟩ := hcut
        (have hwc2 := hwc.symm; subst hwc2)
        clear hDB hDB' p1
        go_upto_region 6 with fail
        go_cut [5] (fun v5 wx => ∃ bx, v5 = .pointer (some ⟨bx, 0, none⟩) ∧ Hid (W1.heap.size ≤ bx) ∧ Hid (wx.heap[bx]? = some (.cells #[.int .i64 (nA : Int), .bool PB, .int .u32 0, .int .i64 0, .int .i64 0, .int .i64 0] 34)) ∧ Hid (Below W1.heap.size W1 wx))
        case first =>
          refine wp_region_held_drew (S := fun V => V.cell? ⟨bw, ow, none⟩ = some (.string (st a)) ∧ V.cell? ⟨bw, ow + 1, none⟩ = some (.string (st b))) (by kernel_rfl) ⟨w0, w1⟩ (fun hHeld => ?_)
          refine wpAnyH_take (i := 0) (v := ?_) rfl (by kernel_rfl) (by kernel_rfl) (by kernel_rfl) (fun _ _ _ h => h) (Or.inl ⟨by rfl, ?_⟩) (by assumption) ?_
          rotate_left
          · (intro w' hSw; (try dsimp only at hSw); go_simp; try with_reducible rfl)
          simp only [Act.put, List.getElem_toArray, List.getElem_cons_zero, List.setIfInBounds_toArray, List.set_cons_zero, List.set_cons_succ]
          refine wpAnyH_take (i := 1) (v := ?_) rfl (by kernel_rfl) (by kernel_rfl) (by kernel_rfl) (fun _ _ _ h => h) (Or.inl ⟨by rfl, ?_⟩) (by assumption) ?_
          rotate_left
          · (intro w' hSw; (try dsimp only at hSw); go_simp; try with_reducible rfl)
          simp only [Act.put, List.getElem_toArray, List.getElem_cons_zero, List.getElem_cons_succ, List.setIfInBounds_toArray, List.set_cons_zero, List.set_cons_succ]
          refine wpAnyH_take (i := 2) (v := ?_) rfl (by kernel_rfl) (by kernel_rfl) (by kernel_rfl) (fun _ _ _ h => h) (Or.inl ⟨by rfl, ?_⟩) (by assumption) ?_
          rotate_left
          · (intro w' hSw; (try dsimp only at hSw); go_simp; try with_reducible rfl)
          simp only [Act.put, List.getElem_toArray, List.getElem_cons_zero, List.getElem_cons_succ, List.setIfInBounds_toArray, List.set_cons_zero, List.set_cons_succ]
          refine wpAnyH_take (i := 4) (v := ?_) rfl (by kernel_rfl) (by kernel_rfl) (by kernel_rfl) (fun _ _ _ h => h) (Or.inl ⟨by rfl, ?_⟩) (by assumption) ?_
          rotate_left
          · (intro w' hSw; (try dsimp only at hSw); go_simp; try with_reducible rfl)
          simp only [Act.put, List.getElem_toArray, List.getElem_cons_zero, List.getElem_cons_succ, List.setIfInBounds_toArray, List.set_cons_zero, List.set_cons_succ]
          refine wpAnyH_take (i := 5) (v := ?_) rfl (by kernel_rfl) (by kernel_rfl) (by kernel_rfl) (fun _ _ _ h => h) (Or.inl ⟨by rfl, ?_⟩) (by assumption) ?_
          rotate_left
          · (intro w' hSw; (try dsimp only at hSw); go_simp; try with_reducible rfl)
          simp only [Act.put, List.getElem_toArray, List.getElem_cons_zero, List.getElem_cons_succ, List.setIfInBounds_toArray, List.set_cons_zero, List.set_cons_succ]
          refine wpAnyH_take (i := 6) (v := ?_) rfl (by kernel_rfl) (by kernel_rfl) (by kernel_rfl) (fun _ _ _ h => h) (Or.inl ⟨by rfl, ?_⟩) (by assumption) ?_
          rotate_left
          · (intro w' hSw; (try dsimp only at hSw); go_simp; try with_reducible rfl)
          simp only [Act.put, List.getElem_toArray, List.getElem_cons_zero, List.getElem_cons_succ, List.setIfInBounds_toArray, List.set_cons_zero, List.set_cons_succ]
          refine wpAnyH_take (i := 7) (v := .bool PB) rfl (by kernel_rfl) (by kernel_rfl) (by kernel_rfl) (fun _ _ _ h => h) (Or.inl ⟨by rfl, ?_⟩) (by assumption) ?_
          · (intro w' hSw; (try dsimp only at hSw); go_simp; (try rw [hPB']))
          simp only [Act.put, List.getElem_toArray, List.getElem_cons_zero, List.getElem_cons_succ, List.setIfInBounds_toArray, List.set_cons_zero, List.set_cons_succ]
          have t0 : Below W1.heap.size W1 W1.drew := below_draws _ W1 1
          have SX : Hid (∀ V, Below W1.heap.size W1 V → V.cell? ⟨bw, ow, none⟩ = some (.string (st a)) ∧ V.cell? ⟨bw, ow + 1, none⟩ = some (.string (st b))) := Lib.hid (fun V hV => ⟨HRD.out V hV 0 (by omega), HRD.out V hV 1 (by omega)⟩)
          generalize hX0 : W1.drew = X0 at t0 ⊢
          clear hX0 hHeld
          refine wpAnyH_ready (rs := [3, 9]) (by kernel_rfl) (by simp) ?_
          refine AllReadyH.cons rfl (fun K hK => ?_) (AllReadyH.cons rfl (fun K hK => ?_) AllReadyH.nil)
          · go_simp
            go_at_call 45
            refine (cA _).mono ?_
            rintro e Xc ⟨rfl, hXc⟩
            (have hXd := hXc.symm; subst hXd)
            refine hK.out _ _ (SX.out _ t0) (fun _ => ?_)
            clear hK K hXc
            refine wpAnyH_take (i := 8) (v := ?_) rfl (by kernel_rfl) (by kernel_rfl) (by kernel_rfl) (fun _ _ _ h => h) (Or.inl ⟨by rfl, ?_⟩) (by assumption) ?_
            rotate_left
            · (intro w' hSw; (try dsimp only at hSw); go_simp; try with_reducible rfl)
            simp only [Act.put, List.getElem_toArray, List.getElem_cons_zero, List.getElem_cons_succ, List.setIfInBounds_toArray, List.set_cons_zero, List.set_cons_succ]
            refine wpAnyH_ready (rs := [9]) (by kernel_rfl) (by simp) ?_
            refine AllReadyH.cons rfl (fun K hK => ?_) AllReadyH.nil
            go_simp
            obtain ⟨X1, hX1⟩ : ∃ V, X0.alloc (.cells #[.int .i64 0, .bool false, .int .u32 0, .int .i64 0, .int .i64 0, .int .i64 0] 34) = V := ⟨_, rfl⟩
            have qX1 : X1.heap[X0.heap.size]? = some (.cells #[.int .i64 0, .bool false, .int .u32 0, .int .i64 0, .int .i64 0, .int .i64 0] 34) := by rw [← hX1]; exact alloc_at _ _ _ rfl
            have bbX1 : Below X0.heap.size X0 X1 := by rw [← hX1]; exact below_alloc1 _ _
            have tX1 : Below W1.heap.size W1 X1 := t0.trans (bbX1.mono t0.size)
            have lebx := t0.size
            obtain ⟨bx, hbx⟩ : ∃ m, X0.heap.size = m := ⟨_, rfl⟩
            rw [hX1, hbx]
            rw [hbx] at qX1 lebx
            refine hK.out _ _ (SX.out _ tX1) (fun _ => ?_)
            clear hK K hX1 hbx bbX1
            refine wpAnyH_ready (rs := [10]) (by kernel_rfl) (by simp) ?_
            refine AllReadyH.cons rfl (fun K hK => ?_) AllReadyH.nil
            obtain ⟨o0, o1, o2, o3, o4, o5⟩ := rb_at qX1
            have f0 := unfrozen_of_block qX1 0
            have f1 := unfrozen_of_block qX1 1
            have f2 := unfrozen_of_block qX1 2
            have f3 := unfrozen_of_block qX1 3
            have f4 := unfrozen_of_block qX1 4
            have f5 := unfrozen_of_block qX1 5
            have rr := Lib.hid (put6 qX1 (.int .i64 (nA : Int)) (.bool PB) (.int .u32 0) (.int .i64 0) (.int .i64 0) (.int .i64 0))
            have BS := Lib.hid (put6_below tX1 lebx (.int .i64 (nA : Int)) (.bool PB) (.int .u32 0) (.int .i64 0) (.int .i64 0) (.int .i64 0))
            have SF := Lib.hid (SX.out _ BS.out)
            go_simp
            refine hK.out _ _ SF.out (fun _ => ?_)
            clear hK K
            refine wpAnyH_done (by kernel_rfl) ?_ _
            clear o0 o1 o2 o3 o4 o5 f0 f1 f2 f3 f4 f5
            generalize ((((((X1.setCell ⟨bx, 0, none⟩ (.int .i64 (nA : Int))).setCell ⟨bx, 1, none⟩ (.bool PB)).setCell ⟨bx, 2, none⟩ (.int .u32 0)).setCell ⟨bx, 3, none⟩ (.int .i64 0)).setCell ⟨bx, 4, none⟩ (.int .i64 0)).setCell ⟨bx, 5, none⟩ (.int .i64 0)) = W8 at *
            go_wp2_with fail
            go_meet
            case rel => exact ⟨bx, rfl, Lib.hid lebx, rr, BS⟩
          · go_simp
            obtain ⟨X1, hX1⟩ : ∃ V, X0.alloc (.cells #[.int .i64 0, .bool false, .int .u32 0, .int .i64 0, .int .i64 0, .int .i64 0] 34) = V := ⟨_, rfl⟩
            have qX1 : X1.heap[X0.heap.size]? = some (.cells #[.int .i64 0, .bool false, .int .u32 0, .int .i64 0, .int .i64 0, .int .i64 0] 34) := by rw [← hX1]; exact alloc_at _ _ _ rfl
            have bbX1 : Below X0.heap.size X0 X1 := by rw [← hX1]; exact below_alloc1 _ _
            have tX1 : Below W1.heap.size W1 X1 := t0.trans (bbX1.mono t0.size)
            have lebx := t0.size
            obtain ⟨bx, hbx⟩ : ∃ m, X0.heap.size = m := ⟨_, rfl⟩
            rw [hX1, hbx]
            rw [hbx] at qX1 lebx
            refine hK.out _ _ (SX.out _ tX1) (fun _ => ?_)
            clear hK K hX1 hbx bbX1
            refine wpAnyH_ready (rs := [3]) (by kernel_rfl) (by simp) ?_
            refine AllReadyH.cons rfl (fun K hK => ?_) AllReadyH.nil
            go_simp
            go_at_call 45
            refine (cA _).mono ?_
            rintro e Xc ⟨rfl, hXc⟩
            (have hXd := hXc.symm; subst hXd)
            refine hK.out _ _ (SX.out _ tX1) (fun _ => ?_)
            clear hK K hXc
            refine wpAnyH_take (i := 8) (v := ?_) rfl (by kernel_rfl) (by kernel_rfl) (by kernel_rfl) (fun _ _ _ h => h) (Or.inl ⟨by rfl, ?_⟩) (by assumption) ?_
            rotate_left
            · (intro w' hSw; (try dsimp only at hSw); go_simp; try with_reducible rfl)
            simp only [Act.put, List.getElem_toArray, List.getElem_cons_zero, List.getElem_cons_succ, List.setIfInBounds_toArray, List.set_cons_zero, List.set_cons_succ]
            refine wpAnyH_ready (rs := [10]) (by kernel_rfl) (by simp) ?_
            refine AllReadyH.cons rfl (fun K hK => ?_) AllReadyH.nil
            obtain ⟨o0, o1, o2, o3, o4, o5⟩ := rb_at qX1
            have f0 := unfrozen_of_block qX1 0
            have f1 := unfrozen_of_block qX1 1
            have f2 := unfrozen_of_block qX1 2
            have f3 := unfrozen_of_block qX1 3
            have f4 := unfrozen_of_block qX1 4
            have f5 := unfrozen_of_block qX1 5
            have rr := Lib.hid (put6 qX1 (.int .i64 (nA : Int)) (.bool PB) (.int .u32 0) (.int .i64 0) (.int .i64 0) (.int .i64 0))
            have BS := Lib.hid (put6_below tX1 lebx (.int .i64 (nA : Int)) (.bool PB) (.int .u32 0) (.int .i64 0) (.int .i64 0) (.int .i64 0))
            have SF := Lib.hid (SX.out _ BS.out)
            go_simp
            refine hK.out _ _ SF.out (fun _ => ?_)
            clear hK K
            refine wpAnyH_done (by kernel_rfl) ?_ _
            clear o0 o1 o2 o3 o4 o5 f0 f1 f2 f3 f4 f5
            generalize ((((((X1.setCell ⟨bx, 0, none⟩ (.int .i64 (nA : Int))).setCell ⟨bx, 1, none⟩ (.bool PB)).setCell ⟨bx, 2, none⟩ (.int .u32 0)).setCell ⟨bx, 3, none⟩ (.int .i64 0)).setCell ⟨bx, 4, none⟩ (.int .i64 0)).setCell ⟨bx, 5, none⟩ (.int .i64 0)) = W8 at *
            go_wp2_with fail
            go_meet
            case rel => exact ⟨bx, rfl, Lib.hid lebx, rr, BS⟩
        case rest =>
          obtain ⟨bx, rfl, hbx, hxb, hbw⟩ := hcut
          have w2 := HRD.out _ hbw.out 2 (by omega)
          rw [show gws (a :: b :: c :: r) 2 = c from rfl] at w2
          clear w0 w1 cA hPB hPB'
          go_wp2_with fail
          refine (cP _).mono ?_
          rintro e W2 ⟨rfl, hb2⟩
          obtain ⟨W3, hW3⟩ : ∃ W3, W2.alloc (.cells #[.int .u32 (pA : Int), .int .i64 (pN : Int)] 24) = W3 := ⟨_, rfl⟩
          have b3 : Below W2.heap.size W2 W3 := by rw [← hW3]; exact below_alloc1 _ _
          have hb3 : Below wc.heap.size wc W3 := hb2.trans (b3.mono hb2.size)
          have T3 : Hid (Below W1.heap.size W1 W3) := Lib.hid (hbw.out.trans (hb3.mono hbw.out.size))
          have X3 : Hid (W3.heap[bx]? = some (.cells #[.int .i64 (nA : Int), .bool PB, .int .u32 0, .int .i64 0, .int .i64 0, .int .i64 0] 34)) := Lib.hid ((hb3.block bx (lt_of_block hxb.out)).trans hxb.out)
          obtain ⟨k0, k1⟩ := pb_new hW3 (Below.refl _ _)
          have HW3 : Hid (Below w.heap.size w W3) := Lib.hid (HB1.out.trans (T3.out.mono (by omega)))
          have P3 := HRB.out W3 T3.out
          clear w2 cP hb2 b3 hb3 hbw hxb
          by_cases q2 : pE = 3
          · have n2 : (pE == 3) = true := by simpa using q2
            have PW : Hid (R = (ru0, 3)) := Lib.hid (by rw [PWE.out, decide_eq_false q1, hv, decide_eq_true q2]; simp)
            obtain ⟨o0, o1, o2, o3, o4, o5⟩ := rb_at P3
            have f0 := unfrozen_of_block P3 0
            have f1 := unfrozen_of_block P3 1
            have f2 := unfrozen_of_block P3 2
            have f3 := unfrozen_of_block P3 3
            have f4 := unfrozen_of_block P3 4
            have f5 := unfrozen_of_block P3 5
            have rr := put6 P3 (.int .i64 0) (.bool false) (.int .u32 0) (.int .i64 0) (.int .i64 0) (.int .i64 0)
            obtain ⟨r0, r1, r2, r3, r4, r5⟩ := rb_at rr
            have HBS := Lib.hid (put6_below HW3.out (Nat.le_refl w.heap.size) (.int .i64 0) (.bool false) (.int .u32 0) (.int .i64 0) (.int .i64 0) (.int .i64 0))
            clear rr P3 HP1 HP0 HS1 PWE HRB HRD
            go_wp2
            refine bodyPost_ret (v := .tuple #[.agg #[.int .i64 0, .bool false, .int .u32 0, .int .i64 0, .int .i64 0, .int .i64 0], .int .i64 3]) (by simp [results, Tryd.results17, go_sem, r0, r1, r2, r3, r4, r5]) rfl ⟨?_, HBS.out⟩
            (rw [PW.out]; try rfl)
          have n2 : (pE == 3) = false := by simpa using q2
          have x3 := X3.out
          obtain ⟨_, _, o2, o3, _, _⟩ := rb_at x3
          have f2 := unfrozen_of_block x3 2
          have f3 := unfrozen_of_block x3 3
          have x4 := block_setCell (i := 3) (block_setCell (i := 2) x3 (.int .u32 (pA : Int))) (.int .i64 (pN : Int))
          have t4 : Below W1.heap.size W1 ((W3.setCell ⟨bx, 2, none⟩ (.int .u32 (pA : Int))).setCell ⟨bx, 3, none⟩ (.int .i64 (pN : Int))) := Below.setCell (Below.setCell T3.out (p := ⟨bx, 2, none⟩) hbx.out _) (p := ⟨bx, 3, none⟩) hbx.out _
          obtain ⟨W4, hW4⟩ : ∃ W, (W3.setCell ⟨bx, 2, none⟩ (.int .u32 (pA : Int))).setCell ⟨bx, 3, none⟩ (.int .i64 (pN : Int)) = W := ⟨_, rfl⟩
          rw [hW4] at x4 t4
          have X4 : Hid (W4.heap[bx]? = some (.cells #[.int .i64 (nA : Int), .bool PB, .int .u32 (pA : Int), .int .i64 (pN : Int), .int .i64 0, .int .i64 0] 34)) := Lib.hid (by simpa using x4)
          have T4 := Lib.hid t4
          have PWF : Hid ((opt tLe (opt tGe r).2).2 ≠ [] → R = (ru0, 3)) := Lib.hid (fun h => by rw [PWE.out, decide_eq_false q1, hv, decide_eq_false q2, decide_eq_true h]; rfl)
          have PWG : Hid ((opt tLe (opt tGe r).2).2 = [] → R = if decide (pE ≠ 0) || !okr ⟨(nA : Int), PB, pA, (pN : Int), ((opt tGe r).1 : Int), ((opt tLe (opt tGe r).2).1 : Int)⟩ then (ru0, 1) else (⟨(nA : Int), PB, pA, (pN : Int), ((opt tGe r).1 : Int), ((opt tLe (opt tGe r).2).1 : Int)⟩, 0)) := Lib.hid (fun h => by rw [PWE.out, decide_eq_false q1, hv, decide_eq_false q2, h]; rfl)
          clear x3 x4 t4 X3 T3 PWE P3 HW3
          go_wp2_with fail
          clear hW4 hW3 o2 o3 f2 f3 k0 k1
          go_loopg [8] 3 (fun gf v8 wx => ∃ (j v1 v2 : Nat), v8 = .int .i64 ((3 + 2 * j : Nat) : Int) ∧ Hid (gf + j = 3) ∧ Hid (3 + 2 * j ≤ n) ∧ Hid (v1 ≤ 99999 ∧ v2 ≤ 99999) ∧ Hid (QEnd r n j v1 v2) ∧ Hid (QMid r n j v1 v2) ∧ Hid (wx.heap[bx]? = some (.cells #[.int .i64 (nA : Int), .bool PB, .int .u32 (pA : Int), .int .i64 (pN : Int), .int .i64 (v1 : Int), .int .i64 (v2 : Int)] 34)) ∧ Hid (Below W1.heap.size W1 wx))
          case atStart => exact ⟨0, 0, 0, rfl, Lib.hid rfl, Lib.hid (by omega), Lib.hid (by omega), Lib.hid (fun h => by
            have : r = [] := List.eq_nil_of_length_eq_zero (by omega)
            subst this
            exact ⟨rfl, rfl, rfl⟩), Lib.hid (fun _ => .inl ⟨rfl, rfl, rfl⟩), X4, T4⟩
          case round =>
            obtain ⟨j, v1, v2, rfl, hj, hjn, hvb, hend, hmid, hx, hbw⟩ := hrel
            have hj' := hj.out
            have hjn' := hjn.out
            obtain ⟨hv1, hv2⟩ := hvb.out
            clear X4 T4
            have P8 := HRB.out wr hbw.out
            have HW8 : Hid (Below w.heap.size w wr) := Lib.hid (HB1.out.trans (hbw.out.mono (by omega)))
            obtain ⟨k0, k1, k2, k3, k4, k5⟩ := rb_at hx.out
            by_cases hlt : 3 + 2 * j = n
            · have c1 : decide (((3 + 2 * j : Nat) : Int) < (n : Int)) = false := by simp; omega
              have c2 : decide (3 + 2 * j < n) = false := by simp; omega
              have c3 : decide (3 + 2 * (j : Int) < (n : Int)) = false := by simp; omega
              obtain ⟨g1, g2, g3⟩ := hend.out hlt
              have PW2 : Hid (R = if decide (pE ≠ 0) || !okr ⟨(nA : Int), PB, pA, (pN : Int), (v1 : Int), (v2 : Int)⟩ then (ru0, 1) else (⟨(nA : Int), PB, pA, (pN : Int), (v1 : Int), (v2 : Int)⟩, 0)) := Lib.hid (by rw [PWG.out g3, g1, g2])
              clear PWF PWG hend hmid g1 g2 g3 hlt
              by_cases q4 : pE = 0
              · have n4 : (pE != 0) = false := by simpa using q4
                have cM := fun W => qmay_any ⟨(nA : Int), PB, pA, (pN : Int), (v1 : Int), (v2 : Int)⟩ W (HPA.out q4)
                cases hk : okr ⟨(nA : Int), PB, pA, (pN : Int), (v1 : Int), (v2 : Int)⟩ with
                | false =>
                  rw [hk] at cM
                  have PW : Hid (R = (ru0, 1)) := Lib.hid (by rw [PW2.out, hk, q4]; rfl)
                  clear PW2 hk
                  go_wp2_with fail
                  refine (cM _).mono ?_
                  rintro e W9 ⟨rfl, hb9⟩
                  have t9 := hbw.out.trans (hb9.mono hbw.out.size)
                  have P9 := HRB.out W9 t9
                  have HW9 : Hid (Below w.heap.size w W9) := Lib.hid (HB1.out.trans (t9.mono (by omega)))
                  have x9 := (hb9.block bx (lt_of_block hx.out)).trans hx.out
                  clear k0 k1 k2 k3 k4 k5
                  obtain ⟨k0, k1, k2, k3, k4, k5⟩ := rb_at x9
                  clear hb9 t9 x9 cM P8
                  obtain ⟨o0, o1, o2, o3, o4, o5⟩ := rb_at P9
                  have f0 := unfrozen_of_block P9 0
                  have f1 := unfrozen_of_block P9 1
                  have f2 := unfrozen_of_block P9 2
                  have f3 := unfrozen_of_block P9 3
                  have f4 := unfrozen_of_block P9 4
                  have f5 := unfrozen_of_block P9 5
                  have rr := put6 P9 (.int .i64 0) (.bool false) (.int .u32 0) (.int .i64 0) (.int .i64 0) (.int .i64 0)
                  obtain ⟨r0, r1, r2, r3, r4, r5⟩ := rb_at rr
                  have HBS := Lib.hid (put6_below HW9.out (Nat.le_refl w.heap.size) (.int .i64 0) (.bool false) (.int .u32 0) (.int .i64 0) (.int .i64 0) (.int .i64 0))
                  clear rr P9
                  go_wp2
                  refine bodyPost_ret (v := .tuple #[.agg #[.int .i64 0, .bool false, .int .u32 0, .int .i64 0, .int .i64 0, .int .i64 0], .int .i64 1]) (by simp [results, Tryd.results17, go_sem, r0, r1, r2, r3, r4, r5]) rfl ⟨?_, HBS.out⟩
                  (rw [PW.out]; try rfl)
                | true =>
                  rw [hk] at cM
                  have PW : Hid (R = (⟨(nA : Int), PB, pA, (pN : Int), (v1 : Int), (v2 : Int)⟩, 0)) := Lib.hid (by rw [PW2.out, hk, q4]; rfl)
                  clear PW2 hk
                  go_wp2_with fail
                  refine (cM _).mono ?_
                  rintro e W9 ⟨rfl, hb9⟩
                  have t9 := hbw.out.trans (hb9.mono hbw.out.size)
                  have P9 := HRB.out W9 t9
                  have HW9 : Hid (Below w.heap.size w W9) := Lib.hid (HB1.out.trans (t9.mono (by omega)))
                  have x9 := (hb9.block bx (lt_of_block hx.out)).trans hx.out
                  clear k0 k1 k2 k3 k4 k5
                  obtain ⟨k0, k1, k2, k3, k4, k5⟩ := rb_at x9
                  clear hb9 t9 x9 cM P8
                  obtain ⟨o0, o1, o2, o3, o4, o5⟩ := rb_at P9
                  have f0 := unfrozen_of_block P9 0
                  have f1 := unfrozen_of_block P9 1
                  have f2 := unfrozen_of_block P9 2
                  have f3 := unfrozen_of_block P9 3
                  have f4 := unfrozen_of_block P9 4
                  have f5 := unfrozen_of_block P9 5
                  have rr := put6 P9 (.int .i64 (nA : Int)) (.bool PB) (.int .u32 (pA : Int)) (.int .i64 (pN : Int)) (.int .i64 (v1 : Int)) (.int .i64 (v2 : Int))
                  obtain ⟨r0, r1, r2, r3, r4, r5⟩ := rb_at rr
                  have HBS := Lib.hid (put6_below HW9.out (Nat.le_refl w.heap.size) (.int .i64 (nA : Int)) (.bool PB) (.int .u32 (pA : Int)) (.int .i64 (pN : Int)) (.int .i64 (v1 : Int)) (.int .i64 (v2 : Int)))
                  clear rr P9
                  go_wp2
                  refine bodyPost_ret (v := .tuple #[.agg #[.int .i64 (nA : Int), .bool PB, .int .u32 (pA : Int), .int .i64 (pN : Int), .int .i64 (v1 : Int), .int .i64 (v2 : Int)], .int .i64 0]) (by simp [results, Tryd.results17, go_sem, r0, r1, r2, r3, r4, r5]) rfl ⟨?_, HBS.out⟩
                  (rw [PW.out]; try rfl)
              · have n4 : (pE != 0) = true := by simpa using q4
                have PW : Hid (R = (ru0, 1)) := Lib.hid (by rw [PW2.out, decide_eq_true (show pE ≠ 0 from q4)]; rfl)
                obtain ⟨o0, o1, o2, o3, o4, o5⟩ := rb_at P8
                have f0 := unfrozen_of_block P8 0
                have f1 := unfrozen_of_block P8 1
                have f2 := unfrozen_of_block P8 2
                have f3 := unfrozen_of_block P8 3
                have f4 := unfrozen_of_block P8 4
                have f5 := unfrozen_of_block P8 5
                have rr := put6 P8 (.int .i64 0) (.bool false) (.int .u32 0) (.int .i64 0) (.int .i64 0) (.int .i64 0)
                obtain ⟨r0, r1, r2, r3, r4, r5⟩ := rb_at rr
                have HBS := Lib.hid (put6_below HW8.out (Nat.le_refl w.heap.size) (.int .i64 0) (.bool false) (.int .u32 0) (.int .i64 0) (.int .i64 0) (.int .i64 0))
                clear rr P8 HP1 HP0 HS1 HRD PW2
                go_wp2
                refine bodyPost_ret (v := .tuple #[.agg #[.int .i64 0, .bool false, .int .u32 0, .int .i64 0, .int .i64 0, .int .i64 0], .int .i64 1]) (by simp [results, Tryd.results17, go_sem, r0, r1, r2, r3, r4, r5]) rfl ⟨?_, HBS.out⟩
                (rw [PW.out]; try rfl)
            · have hlt2 : 3 + 2 * j < n := by omega
              have HMID := Lib.hid (hmid.out hlt2)
              clear hmid hend
              rcases HMID.out with ⟨e1, e2, e3⟩ | ⟨e1, e2, e3, e4⟩
              · subst e1 e2 e3
                clear HMID
                match r, hrn, HRD, hrl, PWF, PWG with
                | [], hrn, _, _, _, _ => simp at hrn; omega
                | [_], hrn, _, _, _, _ => simp at hrn; omega
                | d :: e :: t, hrn, HRD, hrl, PWF, PWG =>
                  have w3 := HRD.out wr hbw.out 3 (by omega)
                  have w4 := HRD.out wr hbw.out 4 (by omega)
                  rw [show gws (a :: b :: c :: d :: e :: t) 3 = d from rfl] at w3
                  rw [show gws (a :: b :: c :: d :: e :: t) 4 = e from rfl] at w4
                  have hel : e.length ≤ 1000 := hrl 4 (by omega)
                  have cE := fun W => qnum_any e W (by omega)
                  have hne := num_le e
                  have l3 : (3 : Int) < (n : Int) := by omega
                  have l4 : (4 : Int) < (n : Int) := by omega
                  simp only [List.length_cons] at hrn
                  simp only [Nat.mul_zero, Nat.add_zero] at hjn' hlt hlt2 ⊢
                  by_cases u1 : num e = 0
                  · rw [u1] at cE
                    have PW : Hid (R = (ru0, 3)) := Lib.hid (PWF.out (form1 (.inl u1)))
                    go_wp2_with fail
                    refine (cE _).mono ?_
                    rintro e9 V9 ⟨rfl, hV9⟩
                    (have hV8 := hV9.symm; subst hV8)
                    obtain ⟨o0, o1, o2, o3, o4, o5⟩ := rb_at P8
                    have f0 := unfrozen_of_block P8 0
                    have f1 := unfrozen_of_block P8 1
                    have f2 := unfrozen_of_block P8 2
                    have f3 := unfrozen_of_block P8 3
                    have f4 := unfrozen_of_block P8 4
                    have f5 := unfrozen_of_block P8 5
                    have rr := put6 P8 (.int .i64 0) (.bool false) (.int .u32 0) (.int .i64 0) (.int .i64 0) (.int .i64 0)
                    obtain ⟨r0, r1, r2, r3, r4, r5⟩ := rb_at rr
                    have HBS := Lib.hid (put6_below HW8.out (Nat.le_refl w.heap.size) (.int .i64 0) (.bool false) (.int .u32 0) (.int .i64 0) (.int .i64 0) (.int .i64 0))
                    clear rr P8 HP1 HP0 HRB PWF PWG hx hbw
                    go_wp2
                    refine bodyPost_ret (v := .tuple #[.agg #[.int .i64 0, .bool false, .int .u32 0, .int .i64 0, .int .i64 0, .int .i64 0], .int .i64 3]) (by simp [results, Tryd.results17, go_sem, r0, r1, r2, r3, r4, r5]) rfl ⟨?_, HBS.out⟩
                    (rw [PW.out]; try rfl)
                  obtain ⟨ne, hE⟩ : ∃ v, num e = v := ⟨_, rfl⟩
                  have HE := Lib.hid hE
                  rw [hE] at cE hne
                  have m1 : ((ne : Int) == 0) = false := by simp; omega
                  have U1 := Lib.hid u1
                  clear hE u1
                  by_cases u2 : d = tGe
                  · have m2 : (d == tGe) = true := by simpa using u2
                    go_wp2_with fail
                    refine (cE _).mono ?_
                    rintro e9 V9 ⟨rfl, hV9⟩
                    (have hV8 := hV9.symm; subst hV8)
                    have x5 := hx.out
                    have o9 : wr.cell? ⟨bx, 4, none⟩ = some (.int .i64 0) := k4
                    have f9 := unfrozen_of_block x5 4
                    have x6 := block_setCell (i := 4) x5 (.int .i64 (ne : Int))
                    have t6 : Below W1.heap.size W1 (wr.setCell ⟨bx, 4, none⟩ (.int .i64 (ne : Int))) := Below.setCell hbw.out (p := ⟨bx, 4, none⟩) hbx.out _
                    have X6 : Hid ((wr.setCell ⟨bx, 4, none⟩ (.int .i64 (ne : Int))).heap[bx]? = some (.cells #[.int .i64 (nA : Int), .bool PB, .int .u32 (pA : Int), .int .i64 (pN : Int), .int .i64 (ne : Int), .int .i64 ((0 : Nat) : Int)] 34)) := Lib.hid (by simpa using x6)
                    have T6 := Lib.hid t6
                    have REND : Hid (QEnd (d :: e :: t) n 1 ne 0) := Lib.hid (fun h => by
                      have ht : t = [] := List.eq_nil_of_length_eq_zero (by omega)
                      rw [ge_ok u2 U1.out, ht, HE.out]
                      first | exact ⟨rfl, rfl, rfl⟩ | exact ⟨trivial, rfl, rfl⟩)
                    have RMID : Hid (QMid (d :: e :: t) n 1 ne 0) := Lib.hid (fun h => .inr ⟨rfl, by omega, rfl, by rw [ge_ok u2 U1.out, HE.out]; rfl⟩)
                    clear x5 x6 t6 hx hbw P8 HRD HRB PWF PWG
                    go_wp2
                    go_roundg (gk - 1)
                    case measure => omega
                    case rel => exact ⟨1, ne, 0, by go_num, Lib.hid (by omega), Lib.hid (by omega), Lib.hid (by omega), REND, RMID, X6, T6⟩
                  have m2 : (d == tGe) = false := by simpa using u2
                  by_cases u3 : d = tLe ∧ n = 5
                  · obtain ⟨u3, u4⟩ := u3
                    have m3 : (d == tLe) = true := by simpa using u3
                    subst u4
                    go_wp2_with fail
                    refine (cE _).mono ?_
                    rintro e9 V9 ⟨rfl, hV9⟩
                    (have hV8 := hV9.symm; subst hV8)
                    have x5 := hx.out
                    have o9 : wr.cell? ⟨bx, 5, none⟩ = some (.int .i64 0) := k5
                    have f9 := unfrozen_of_block x5 5
                    have x6 := block_setCell (i := 5) x5 (.int .i64 (ne : Int))
                    have t6 : Below W1.heap.size W1 (wr.setCell ⟨bx, 5, none⟩ (.int .i64 (ne : Int))) := Below.setCell hbw.out (p := ⟨bx, 5, none⟩) hbx.out _
                    have X6 : Hid ((wr.setCell ⟨bx, 5, none⟩ (.int .i64 (ne : Int))).heap[bx]? = some (.cells #[.int .i64 (nA : Int), .bool PB, .int .u32 (pA : Int), .int .i64 (pN : Int), .int .i64 ((0 : Nat) : Int), .int .i64 (ne : Int)] 34)) := Lib.hid (by simpa using x6)
                    have T6 := Lib.hid t6
                    have REND : Hid (QEnd (d :: e :: t) 5 1 0 ne) := Lib.hid (fun h => by
                      have ht : t = [] := List.eq_nil_of_length_eq_zero (by omega)
                      subst ht
                      obtain ⟨y1, y2⟩ := le_ok u3 U1.out
                      rw [y1]
                      simp only
                      rw [y2, HE.out]
                      first | exact ⟨rfl, rfl, rfl⟩ | exact ⟨trivial, rfl, rfl⟩)
                    have RMID : Hid (QMid (d :: e :: t) 5 1 0 ne) := Lib.hid (fun h => by omega)
                    clear x5 x6 t6 hx hbw P8 HRD HRB PWF PWG
                    go_wp2
                    go_roundg (gk - 1)
                    case measure => omega
                    case rel => exact ⟨1, 0, ne, by go_num, Lib.hid (by omega), Lib.hid (by omega), Lib.hid (by omega), REND, RMID, X6, T6⟩
                  have u4 : d ≠ tLe ∨ t ≠ [] := by
                    by_cases y : d = tLe
                    · exact .inr (fun ht => u3 ⟨y, by rw [ht] at hrn; simp at hrn; omega⟩)
                    · exact .inl y
                  have PW : Hid (R = (ru0, 3)) := Lib.hid (PWF.out (form1 (.inr ⟨u2, u4⟩)))
                  by_cases u5 : d = tLe
                  · have m3 : (d == tLe) = true := by simpa using u5
                    have m4 : n ≠ 5 := fun h => u3 ⟨u5, h⟩
                    have m5 : n = 7 := by omega
                    clear u3
                    subst m5
                    go_wp2_with fail
                    refine (cE _).mono ?_
                    rintro e9 V9 ⟨rfl, hV9⟩
                    (have hV8 := hV9.symm; subst hV8)
                    obtain ⟨o0, o1, o2, o3, o4, o5⟩ := rb_at P8
                    have f0 := unfrozen_of_block P8 0
                    have f1 := unfrozen_of_block P8 1
                    have f2 := unfrozen_of_block P8 2
                    have f3 := unfrozen_of_block P8 3
                    have f4 := unfrozen_of_block P8 4
                    have f5 := unfrozen_of_block P8 5
                    have rr := put6 P8 (.int .i64 0) (.bool false) (.int .u32 0) (.int .i64 0) (.int .i64 0) (.int .i64 0)
                    obtain ⟨r0, r1, r2, r3, r4, r5⟩ := rb_at rr
                    have HBS := Lib.hid (put6_below HW8.out (Nat.le_refl w.heap.size) (.int .i64 0) (.bool false) (.int .u32 0) (.int .i64 0) (.int .i64 0) (.int .i64 0))
                    clear rr P8 HP1 HP0 HRB PWF PWG hx hbw
                    go_wp2
                    refine bodyPost_ret (v := .tuple #[.agg #[.int .i64 0, .bool false, .int .u32 0, .int .i64 0, .int .i64 0, .int .i64 0], .int .i64 3]) (by simp [results, Tryd.results17, go_sem, r0, r1, r2, r3, r4, r5]) rfl ⟨?_, HBS.out⟩
                    (rw [PW.out]; try rfl)
                  · have m3 : (d == tLe) = false := by simpa using u5
                    go_wp2_with fail
                    refine (cE _).mono ?_
                    rintro e9 V9 ⟨rfl, hV9⟩
                    (have hV8 := hV9.symm; subst hV8)
                    obtain ⟨o0, o1, o2, o3, o4, o5⟩ := rb_at P8
                    have f0 := unfrozen_of_block P8 0
                    have f1 := unfrozen_of_block P8 1
                    have f2 := unfrozen_of_block P8 2
                    have f3 := unfrozen_of_block P8 3
                    have f4 := unfrozen_of_block P8 4
                    have f5 := unfrozen_of_block P8 5
                    have rr := put6 P8 (.int .i64 0) (.bool false) (.int .u32 0) (.int .i64 0) (.int .i64 0) (.int .i64 0)
                    obtain ⟨r0, r1, r2, r3, r4, r5⟩ := rb_at rr
                    have HBS := Lib.hid (put6_below HW8.out (Nat.le_refl w.heap.size) (.int .i64 0) (.bool false) (.int .u32 0) (.int .i64 0) (.int .i64 0) (.int .i64 0))
                    clear rr P8 HP1 HP0 HRB PWF PWG hx hbw
                    go_wp2
                    refine bodyPost_ret (v := .tuple #[.agg #[.int .i64 0, .bool false, .int .u32 0, .int .i64 0, .int .i64 0, .int .i64 0], .int .i64 3]) (by simp [results, Tryd.results17, go_sem, r0, r1, r2, r3, r4, r5]) rfl ⟨?_, HBS.out⟩
                    (rw [PW.out]; try rfl)
              · subst e1 e2 e3
                clear HMID
                match r, hrn, HRD, hrl, PWF, PWG, e4 with
                | [], hrn, _, _, _, _, _ => simp at hrn
                | [_], hrn, _, _, _, _, _ => simp at hrn
                | [_, _], hrn, _, _, _, _, _ => simp at hrn
                | [_, _, _], hrn, _, _, _, _, _ => simp at hrn
                | _ :: _ :: _ :: _ :: _ :: _, hrn, _, _, _, _, _ => simp at hrn
                | [d, e, f, g], hrn, HRD, hrl, PWF, PWG, e4 =>
                  have w3 := HRD.out wr hbw.out 5 (by omega)
                  have w4 := HRD.out wr hbw.out 6 (by omega)
                  rw [show gws [a, b, c, d, e, f, g] 5 = f from rfl] at w3
                  rw [show gws [a, b, c, d, e, f, g] 6 = g from rfl] at w4
                  have hel : g.length ≤ 1000 := hrl 6 (by omega)
                  have cE := fun W => qnum_any g W (by omega)
                  have hne := num_le g
                  rw [e4] at PWF PWG
                  have E4 := Lib.hid e4
                  clear e4
                  simp only [List.drop_succ_cons, List.drop_zero] at PWF PWG
                  by_cases u1 : num g = 0
                  · rw [u1] at cE
                    have PW : Hid (R = (ru0, 3)) := Lib.hid (PWF.out (form2 (.inl u1)))
                    go_wp2_with fail
                    refine (cE _).mono ?_
                    rintro e9 V9 ⟨rfl, hV9⟩
                    (have hV8 := hV9.symm; subst hV8)
                    obtain ⟨o0, o1, o2, o3, o4, o5⟩ := rb_at P8
                    have f0 := unfrozen_of_block P8 0
                    have f1 := unfrozen_of_block P8 1
                    have f2 := unfrozen_of_block P8 2
                    have f3 := unfrozen_of_block P8 3
                    have f4 := unfrozen_of_block P8 4
                    have f5 := unfrozen_of_block P8 5
                    have rr := put6 P8 (.int .i64 0) (.bool false) (.int .u32 0) (.int .i64 0) (.int .i64 0) (.int .i64 0)
                    obtain ⟨r0, r1, r2, r3, r4, r5⟩ := rb_at rr
                    have HBS := Lib.hid (put6_below HW8.out (Nat.le_refl w.heap.size) (.int .i64 0) (.bool false) (.int .u32 0) (.int .i64 0) (.int .i64 0) (.int .i64 0))
                    clear rr P8 HP1 HP0 HRB PWF PWG hx hbw
                    go_wp2
                    refine bodyPost_ret (v := .tuple #[.agg #[.int .i64 0, .bool false, .int .u32 0, .int .i64 0, .int .i64 0, .int .i64 0], .int .i64 3]) (by simp [results, Tryd.results17, go_sem, r0, r1, r2, r3, r4, r5]) rfl ⟨?_, HBS.out⟩
                    (rw [PW.out]; try rfl)
                  obtain ⟨ng, hE⟩ : ∃ v, num g = v := ⟨_, rfl⟩
                  have HE := Lib.hid hE
                  rw [hE] at cE hne
                  have m1 : ((ng : Int) == 0) = false := by simp; omega
                  have U1 := Lib.hid u1
                  clear hE u1
                  by_cases u2 : f = tLe
                  · have m2 : (f == tGe) = false := by rw [u2]; decide
                    have m3 : (f == tLe) = true := by simpa using u2
                    go_wp2_with fail
                    refine (cE _).mono ?_
                    rintro e9 V9 ⟨rfl, hV9⟩
                    (have hV8 := hV9.symm; subst hV8)
                    have x5 := hx.out
                    have o9 : wr.cell? ⟨bx, 5, none⟩ = some (.int .i64 0) := k5
                    have f9 := unfrozen_of_block x5 5
                    have x6 := block_setCell (i := 5) x5 (.int .i64 (ng : Int))
                    have t6 : Below W1.heap.size W1 (wr.setCell ⟨bx, 5, none⟩ (.int .i64 (ng : Int))) := Below.setCell hbw.out (p := ⟨bx, 5, none⟩) hbx.out _
                    have X6 : Hid ((wr.setCell ⟨bx, 5, none⟩ (.int .i64 (ng : Int))).heap[bx]? = some (.cells #[.int .i64 (nA : Int), .bool PB, .int .u32 (pA : Int), .int .i64 (pN : Int), .int .i64 (v1 : Int), .int .i64 (ng : Int)] 34)) := Lib.hid (by simpa using x6)
                    have T6 := Lib.hid t6
                    have REND : Hid (QEnd [d, e, f, g] 7 2 v1 ng) := Lib.hid (fun h => by
                      obtain ⟨y1, y2⟩ := le_ok u2 U1.out
                      rw [E4.out]
                      simp only [List.drop_succ_cons, List.drop_zero]
                      rw [y2, HE.out]
                      first | exact ⟨rfl, rfl, rfl⟩ | exact ⟨trivial, rfl, rfl⟩)
                    have RMID : Hid (QMid [d, e, f, g] 7 2 v1 ng) := Lib.hid (fun h => by omega)
                    clear x5 x6 t6 hx hbw P8 HRD HRB PWF PWG
                    go_wp2
                    go_roundg (gk - 1)
                    case measure => omega
                    case rel => exact ⟨2, v1, ng, by go_num, Lib.hid (by omega), Lib.hid (by omega), Lib.hid (by omega), REND, RMID, X6, T6⟩
                  have PW : Hid (R = (ru0, 3)) := Lib.hid (PWF.out (form2 (.inr u2)))
                  have m3 : (f == tLe) = false := by simpa using u2
                  by_cases u3 : f = tGe
                  · have m2 : (f == tGe) = true := by simpa using u3
                    go_wp2_with fail
                    refine (cE _).mono ?_
                    rintro e9 V9 ⟨rfl, hV9⟩
                    (have hV8 := hV9.symm; subst hV8)
                    obtain ⟨o0, o1, o2, o3, o4, o5⟩ := rb_at P8
                    have f0 := unfrozen_of_block P8 0
                    have f1 := unfrozen_of_block P8 1
                    have f2 := unfrozen_of_block P8 2
                    have f3 := unfrozen_of_block P8 3
                    have f4 := unfrozen_of_block P8 4
                    have f5 := unfrozen_of_block P8 5
                    have rr := put6 P8 (.int .i64 0) (.bool false) (.int .u32 0) (.int .i64 0) (.int .i64 0) (.int .i64 0)
                    obtain ⟨r0, r1, r2, r3, r4, r5⟩ := rb_at rr
                    have HBS := Lib.hid (put6_below HW8.out (Nat.le_refl w.heap.size) (.int .i64 0) (.bool false) (.int .u32 0) (.int .i64 0) (.int .i64 0) (.int .i64 0))
                    clear rr P8 HP1 HP0 HRB PWF PWG hx hbw
                    go_wp2
                    refine bodyPost_ret (v := .tuple #[.agg #[.int .i64 0, .bool false, .int .u32 0, .int .i64 0, .int .i64 0, .int .i64 0], .int .i64 3]) (by simp [results, Tryd.results17, go_sem, r0, r1, r2, r3, r4, r5]) rfl ⟨?_, HBS.out⟩
                    (rw [PW.out]; try rfl)
                  · have m2 : (f == tGe) = false := by simpa using u3
                    go_wp2_with fail
                    refine (cE _).mono ?_
                    rintro e9 V9 ⟨rfl, hV9⟩
                    (have hV8 := hV9.symm; subst hV8)
                    obtain ⟨o0, o1, o2, o3, o4, o5⟩ := rb_at P8
                    have f0 := unfrozen_of_block P8 0
                    have f1 := unfrozen_of_block P8 1
                    have f2 := unfrozen_of_block P8 2
                    have f3 := unfrozen_of_block P8 3
                    have f4 := unfrozen_of_block P8 4
                    have f5 := unfrozen_of_block P8 5
                    have rr := put6 P8 (.int .i64 0) (.bool false) (.int .u32 0) (.int .i64 0) (.int .i64 0) (.int .i64 0)
                    obtain ⟨r0, r1, r2, r3, r4, r5⟩ := rb_at rr
                    have HBS := Lib.hid (put6_below HW8.out (Nat.le_refl w.heap.size) (.int .i64 0) (.bool false) (.int .u32 0) (.int .i64 0) (.int .i64 0) (.int .i64 0))
                    clear rr P8 HP1 HP0 HRB PWF PWG hx hbw
                    go_wp2
                    refine bodyPost_ret (v := .tuple #[.agg #[.int .i64 0, .bool false, .int .u32 0, .int .i64 0, .int .i64 0, .int .i64 0], .int .i64 3]) (by simp [results, Tryd.results17, go_sem, r0, r1, r2, r3, r4, r5]) rfl ⟨?_, HBS.out⟩
                    (rw [PW.out]; try rfl)
end Go.Proofs.YtkofpijhihghpaaDoor
