/-
  Contracts of the reference's Heads and Keys and of the functions on acknowledgements; there and back. No statement is proved here; no conditions.
-/
import Derived.Test.YtefbpaebimagaaaRH
import Derived.Test.YtefbpaebimagaaaSp
namespace Go.Proofs.Ytefbpaebimagaaa
open Go.RowKit Go.Joins

set_option maxRecDepth 100000 in
set_option maxHeartbeats 4000000 in
theorem heads_any (A A' : Option Addr) (n c c' : Nat) (L : List Hd) (w : World) (hn : L.length = n) (h1 : hRr w A L) (h2 : hRr w A' L) (hl : n ≤ 10000) :
    Calls Try.prog 24 #[.slice A n c, .slice A' n c'] w fun e w' => e = .returned (.bool true) ∧ Below w.heap.size w w' := by
  have H1 := Lib.hid h1
  have H2 := Lib.hid h2
  have HN := Lib.hid hn
  clear h1 h2 hn
  go_enter Try.func24, Try.ntmps24
  go_wp2_with fail
  go_loopg [5] n (fun gf v5 wx => ∃ (k : Nat), v5 = .int .i64 (k : Int) ∧ Hid (gf + k = n) ∧ Hid (Below w.heap.size w wx))
  case atStart => exact ⟨0, rfl, Lib.hid (by omega), Lib.hid (Below.refl _ _)⟩
  case round =>
    obtain ⟨k, rfl, hk, hb⟩ := hrel
    have hk' := hk.out
    cases gk with
    | zero =>
      have e1 : k = n := by omega
      have lt0 : decide ((k : Int) < (n : Int)) = false := by simp; omega
      have lt1 : decide (k < n) = false := by simp; omega
      go_wp2
      go_ret
      exact ⟨rfl, hb.out⟩
    | succ gf =>
      have hkl : k < L.length := by rw [HN.out]; omega
      have lt0 : (k : Int) < (n : Int) := by omega
      have hw1 : (k : Int) + 1 ≤ 10000 := by omega
      obtain ⟨b, off, hA, _, e0, e1, e2, e3, e4, e5, e6, e7⟩ := hrd_at (hRr.step H1.out hb.out) hkl
      obtain ⟨b2, off2, hA2, _, f0, f1, f2, f3, f4, f5, f6, f7⟩ := hrd_at (hRr.step H2.out hb.out) hkl
      obtain ⟨x, hx⟩ : ∃ x, hg L k = x := ⟨_, rfl⟩
      rw [hx] at e0 e1 e2 e3 e4 e5 e6 e7 f0 f1 f2 f3 f4 f5 f6 f7
      subst hA hA2
      clear hx hkl
      go_wp2_with fail
      go_quiet (fail)
      go_wp2
      go_roundg gf
      case measure => omega
      case rel => exact ⟨k + 1, by go_num, Lib.hid (by omega), Lib.hid (hb.out.trans (below_draws _ _ _))⟩
set_option maxRecDepth 100000 in
set_option maxHeartbeats 4000000 in
theorem keys_any (A A' : Option Addr) (n c c' : Nat) (L : List Ky) (w : World) (hn : L.length = n) (h1 : kRr w A L) (h2 : kRr w A' L) (hl : n ≤ 10000) :
    Calls Try.prog 19 #[.slice A n c, .slice A' n c'] w fun e w' => e = .returned (.bool true) ∧ Below w.heap.size w w' := by
  have H1 := Lib.hid h1
  have H2 := Lib.hid h2
  have HN := Lib.hid hn
  clear h1 h2 hn
  go_enter Try.func19, Try.ntmps19
  go_wp2_with fail
  go_loopg [5] n (fun gf v5 wx => ∃ (k : Nat), v5 = .int .i64 (k : Int) ∧ Hid (gf + k = n) ∧ Hid (Below w.heap.size w wx))
  case atStart => exact ⟨0, rfl, Lib.hid (by omega), Lib.hid (Below.refl _ _)⟩
  case round =>
    obtain ⟨k, rfl, hk, hb⟩ := hrel
    have hk' := hk.out
    cases gk with
    | zero =>
      have e1 : k = n := by omega
      have lt0 : decide ((k : Int) < (n : Int)) = false := by simp; omega
      have lt1 : decide (k < n) = false := by simp; omega
      go_wp2
      go_ret
      exact ⟨rfl, hb.out⟩
    | succ gf =>
      have hkl : k < L.length := by rw [HN.out]; omega
      have lt0 : (k : Int) < (n : Int) := by omega
      have hw1 : (k : Int) + 1 ≤ 10000 := by omega
      obtain ⟨b, off, hA, _, e0, e1, e2⟩ := krd_at (kRr.step H1.out hb.out) hkl
      obtain ⟨b2, off2, hA2, _, f0, f1, f2⟩ := krd_at (kRr.step H2.out hb.out) hkl
      obtain ⟨x, hx⟩ : ∃ x, kg L k = x := ⟨_, rfl⟩
      rw [hx] at e0 e1 e2 f0 f1 f2
      subst hA hA2
      clear hx hkl
      go_wp2_with fail
      go_quiet (fail)
      go_wp2
      go_roundg gf
      case measure => omega
      case rel => exact ⟨k + 1, by go_num, Lib.hid (by omega), Lib.hid (hb.out.trans (below_draws _ _ _))⟩
theorem putack_any (A : Option Addr) (n c : Nat) (L : List Hd) (w : World) (hn : L.length = n) (ok : ∀ x ∈ L, Okd x) (hl : hRr w A L) (hll : n ≤ 10000) :
    Calls Try.prog 20 #[.slice A n c] w fun e w' => ∃ A' c', e = .returned (.tuple #[.slice A' (phL L 1 70).length c', .int .i64 (phE L 1 70)]) ∧ Own .u8 5 w' w.heap.size A' c' (phL L 1 70) ∧ Below w.heap.size w w' := by
  have CC := putheads_any 1 70 A n c L w hn ok hl hll
  generalize phL L 1 70 = P at *
  generalize phE L 1 70 = E at *
  clear hn ok hl
  go_enter Try.func20, Try.ntmps20
  go_wp2_with fail
  refine CC.mono ?_
  rintro e Y ⟨A1, c1, rfl, o1, u1⟩
  go_wp2
  go_ret2
  exact ⟨A1, c1, rfl, o1, u1⟩
set_option maxHeartbeats 1000000 in
theorem rputack_any (A : Option Addr) (n c : Nat) (L : List Hd) (w : World) (hn : L.length = n) (ok : ∀ x ∈ L, Okd x) (hl : hRr w A L) (hll : n ≤ 10000) :
    Calls Try.prog 21 #[.slice A n c] w fun e w' => ∃ A' c', e = .returned (.tuple #[.slice A' (phL L 1 70).length c', .int .i64 (phE L 1 70)]) ∧ Own .u8 5 w' w.heap.size A' c' (phL L 1 70) ∧ Below w.heap.size w w' := by
  have CC := rheads_any A n c L w hn ok hl hll
  by_cases h : (win (n : Int) 1 70 && mays L) = true
  · have h1 : win (n : Int) 1 70 = true := by simp only [Bool.and_eq_true] at h; exact h.1
    have h2 : mays L = true := by simp only [Bool.and_eq_true] at h; exact h.2
    obtain ⟨e1, e2⟩ := phE_yes (L := L) (a := 1) (b := 70) (by rw [hn]; exact h1) h2
    obtain ⟨g1, g2⟩ := (win_iff _ _ _).1 h1
    have e3 : rhL L = encs L := by rw [rhL, if_pos h2]
    rw [e3, h2] at CC
    rw [e1, e2]
    have g3 : ¬ ((n : Int) < 1) := by omega
    have g4 : ¬ ((n : Int) > 70) := by omega
    generalize encs L = P at *
    clear hn ok hl h h1 h2 e1 e2 e3
    go_enter Try.func21, Try.ntmps21
    go_wp2_with fail
    refine CC.mono ?_
    rintro e Y ⟨A1, c1, rfl, o1, u1⟩
    go_wp2
    go_ret2
    exact ⟨A1, c1, rfl, o1, u1⟩
  · obtain ⟨e1, e2⟩ := phE_no (L := L) (a := 1) (b := 70) (by rw [hn]; simpa using h)
    rw [e1, e2]
    generalize rhL L = P at *
    by_cases h2 : mays L = true
    · have h1 : win (n : Int) 1 70 = false := by rw [h2] at h; simpa using h
      rw [h2] at CC
      have g : (n : Int) < 1 ∨ (n : Int) > 70 := by
        by_cases q : (n : Int) < 1 ∨ (n : Int) > 70
        · exact q
        · have : win (n : Int) 1 70 = true := (win_iff _ _ _).2 (by omega)
          rw [this] at h1; cases h1
      rcases g with g3 | g4
      · clear hn ok hl h h1 h2 e1 e2
        go_enter Try.func21, Try.ntmps21
        go_wp2_with fail
        refine CC.mono ?_
        rintro e Y ⟨A1, c1, rfl, o1, u1⟩
        go_wp2
        go_ret2
        exact ⟨none, 0, rfl, Own.nil _ _, u1⟩
      · have g3 : ¬ ((n : Int) < 1) := by omega
        clear hn ok hl h h1 h2 e1 e2
        go_enter Try.func21, Try.ntmps21
        go_wp2_with fail
        refine CC.mono ?_
        rintro e Y ⟨A1, c1, rfl, o1, u1⟩
        go_wp2
        go_ret2
        exact ⟨none, 0, rfl, Own.nil _ _, u1⟩
    · have h3 : mays L = false := by simpa using h2
      rw [h3] at CC
      clear hn ok hl h h2 h3 e1 e2
      go_enter Try.func21, Try.ntmps21
      go_wp2_with fail
      refine CC.mono ?_
      rintro e Y ⟨A1, c1, rfl, o1, u1⟩
      go_wp2
      go_ret2
      exact ⟨none, 0, rfl, Own.nil _ _, u1⟩
theorem takeack_any (A : Option Addr) (n c : Nat) (l : List Int) (w : World) (hn : l.length = n) (hb : Bt w A l) (hy : Byt l) (hc : n ≤ c) (hl : n ≤ 5000) :
    Calls Try.prog 22 #[.slice A n c] w fun e w' => ∃ A' c', e = .returned (.tuple #[.slice A' (thL l 1 70).length c', .int .i64 (thE l 1 70)]) ∧ hRr w' A' (thL l 1 70) ∧ Below w.heap.size w w' := by
  have CC := takeheads_any 1 70 A n c l w hn hb hy hc hl
  generalize thL l 1 70 = P at *
  generalize thE l 1 70 = E at *
  clear hn hb hy hc
  go_enter Try.func22, Try.ntmps22
  go_wp2_with fail
  refine CC.mono ?_
  rintro e Y ⟨A1, c1, rfl, o1, u1⟩
  go_wp2
  go_ret2
  exact ⟨A1, c1, rfl, o1, u1⟩
theorem thE_01 (l : List Int) : (thE l 0 70 ≠ 0 → thE l 1 70 = thE l 0 70 ∧ thL l 1 70 = []) ∧ (thE l 0 70 = 0 → (thL l 0 70).length < 1 → thE l 1 70 = 3 ∧ thL l 1 70 = []) ∧ (thE l 0 70 = 0 → ¬ (thL l 0 70).length < 1 → thE l 1 70 = 0 ∧ thL l 1 70 = thL l 0 70) := by
  by_cases h : l.length % 20 = 0
  case neg =>
    obtain ⟨a1, a2⟩ := thE_short (a := 0) (b := 70) h
    obtain ⟨b1, b2⟩ := thE_short (a := 1) (b := 70) h
    rw [a1, a2, b1, b2]
    exact ⟨fun _ => ⟨rfl, rfl⟩, fun h => by omega, fun h => by omega⟩
  by_cases h2 : mays (rdHs l (l.length / 20)) = true
  case neg =>
    have h3 : mays (rdHs l (l.length / 20)) = false := by simpa using h2
    obtain ⟨a1, a2⟩ := thE_no (a := 0) (b := 70) h (by rw [h3]; simp)
    obtain ⟨b1, b2⟩ := thE_no (a := 1) (b := 70) h (by rw [h3]; simp)
    rw [a1, a2, b1, b2]
    exact ⟨fun _ => ⟨rfl, rfl⟩, fun h => by omega, fun h => by omega⟩
  by_cases h3 : win ((l.length / 20 : Nat) : Int) 0 70 = true
  case neg =>
    have h4 : win ((l.length / 20 : Nat) : Int) 0 70 = false := by simpa using h3
    have h5 : win ((l.length / 20 : Nat) : Int) 1 70 = false := by
      simp only [win, Bool.and_eq_false_iff, decide_eq_false_iff_not] at h4 ⊢
      omega
    obtain ⟨a1, a2⟩ := thE_no (a := 0) (b := 70) h (by rw [h4]; rfl)
    obtain ⟨b1, b2⟩ := thE_no (a := 1) (b := 70) h (by rw [h5]; rfl)
    rw [a1, a2, b1, b2]
    exact ⟨fun _ => ⟨rfl, rfl⟩, fun h => by omega, fun h => by omega⟩
  obtain ⟨a1, a2⟩ := thE_yes (a := 0) (b := 70) h h3 h2
  rw [a1, a2, rdHs_length]
  refine ⟨fun h => absurd rfl h, fun _ hlt => ?_, fun _ hlt => ?_⟩
  · exact thE_no h (by
      have : win ((l.length / 20 : Nat) : Int) 1 70 = false := by simp only [win, Bool.and_eq_false_iff, decide_eq_false_iff_not]; omega
      rw [this]; rfl)
  · exact thE_yes h ((win_iff _ _ _).2 (by have := (win_iff _ _ _).1 h3; omega)) h2
set_option maxHeartbeats 1000000 in
theorem rtakeack_any (A : Option Addr) (n c : Nat) (l : List Int) (w : World) (hn : l.length = n) (hb : Bt w A l) (hy : Byt l) (hc : n ≤ c) (hl : n ≤ 5000) :
    Calls Try.prog 23 #[.slice A n c] w fun e w' => ∃ A' c', e = .returned (.tuple #[.slice A' (thL l 1 70).length c', .int .i64 (thE l 1 70)]) ∧ hRr w' A' (thL l 1 70) ∧ Below w.heap.size w w' := by
  have CC := rreadheads_any 70 A n c l w hn hb hy hc hl
  obtain ⟨q1, q2, q3⟩ := thE_01 l
  by_cases h0 : thE l 0 70 = 0
  · by_cases h1 : (thL l 0 70).length < 1
    · obtain ⟨e1, e2⟩ := q2 h0 h1
      rw [h0] at CC
      rw [e1, e2]
      obtain ⟨k, hk⟩ : ∃ k, (thL l 0 70).length = k := ⟨_, rfl⟩
      rw [hk] at CC h1
      have h2 : (k : Int) < 1 := by omega
      generalize thL l 0 70 = P at *
      clear hn hb hy hc q1 q2 q3 e1 e2 hk h0
      go_enter Try.func23, Try.ntmps23
      go_wp2_with fail
      refine CC.mono ?_
      rintro e Y ⟨A1, c1, rfl, o1, u1⟩
      go_wp2
      go_ret2
      exact ⟨none, 0, rfl, Rd.nil _, u1⟩
    · obtain ⟨e1, e2⟩ := q3 h0 h1
      rw [h0] at CC
      rw [e1, e2]
      obtain ⟨k, hk⟩ : ∃ k, (thL l 0 70).length = k := ⟨_, rfl⟩
      rw [hk] at CC h1 ⊢
      have h2 : ¬ ((k : Int) < 1) := by omega
      generalize thL l 0 70 = P at *
      clear hn hb hy hc q1 q2 q3 e1 e2 hk h0
      go_enter Try.func23, Try.ntmps23
      go_wp2_with fail
      refine CC.mono ?_
      rintro e Y ⟨A1, c1, rfl, o1, u1⟩
      go_wp2
      go_ret2
      exact ⟨A1, c1, rfl, o1, u1⟩
  · obtain ⟨e1, e2⟩ := q1 h0
    rw [e1, e2]
    obtain ⟨k, hk⟩ : ∃ k, (thL l 0 70).length = k := ⟨_, rfl⟩
    rw [hk] at CC
    generalize thL l 0 70 = P at *
    generalize thE l 0 70 = E at *
    have d : (E == 0) = false := by simpa using h0
    have d2 : (E != 0) = true := by simp [bne, d]
    clear hn hb hy hc q1 q2 q3 e1 e2 hk h0
    go_enter Try.func23, Try.ntmps23
    go_wp2_with fail
    refine CC.mono ?_
    rintro e Y ⟨A1, c1, rfl, o1, u1⟩
    go_wp2
    go_ret2
    exact ⟨none, 0, rfl, Rd.nil _, u1⟩
/-! ### There and back -/
theorem rdHs_encs {L : List Hd} (ok : ∀ x ∈ L, Okd x) (hm : mays L = true) : ∀ R, rdHs (encs L ++ R) L.length = L := by
  induction L with
  | nil => intro R; rfl
  | cons x L ih =>
    intro R
    have e : encs (x :: L) = ehd x ++ encs L := by simp [encs]
    have hx := (mays_iff _).1 hm x (by simp)
    rw [e, List.append_assoc, List.length_cons]
    have ih2 := ih (fun y hy => ok y (by simp [hy])) ((mays_iff _).2 fun y hy => (mays_iff _).1 hm y (by simp [hy])) R
    unfold rdHs at ih2 ⊢
    rw [List.range_succ_eq_map, List.map_cons, List.map_map]
    congr 1
    · have : sub (ehd x ++ (encs L ++ R)) (0 * 20) 20 = ehd x := by
        unfold sub
        simp only [Nat.zero_mul, List.drop_zero]
        exact List.take_left' (ehd_length x)
      rw [this, rdf_ehd (ok x (by simp)) hx]
    · conv => rhs; rw [← ih2]
      apply List.map_congr_left
      intro k _
      show rdf _ = rdf _
      congr 1
      unfold sub
      rw [show (k + 1) * 20 = 20 + k * 20 by omega, ← List.drop_drop, List.drop_left' (ehd_length x)]
/-- What is written is read. -/
theorem th_ph {L : List Hd} {a b : Int} (ok : ∀ x ∈ L, Okd x) (h : phE L a b = 0) : thE (phL L a b) a b = 0 ∧ thL (phL L a b) a b = L := by
  have q : (win (L.length : Int) a b && mays L) = true := by
    by_cases q : (win (L.length : Int) a b && mays L) = true
    · exact q
    · rw [phE, if_neg q] at h; omega
  have h1 : win (L.length : Int) a b = true := by simp only [Bool.and_eq_true] at q; exact q.1
  have h2 : mays L = true := by simp only [Bool.and_eq_true] at q; exact q.2
  rw [(phE_yes h1 h2).2]
  have hl := encs_length L
  have e1 : (encs L).length / 20 = L.length := by omega
  have e2 : rdHs (encs L) L.length = L := by simpa using rdHs_encs ok h2 []
  have := thE_yes (l := encs L) (a := a) (b := b) (by omega) (by rw [e1]; exact h1) (by rw [e1, e2]; exact h2)
  rwa [e1, e2] at this
theorem ph_byt (L : List Hd) (a b : Int) : Byt (phL L a b) := by
  unfold phL
  split
  · exact encs_byt _
  · intro z hz; cases hz
theorem ph_len (L : List Hd) (a b : Int) : (phL L a b).length ≤ L.length * 20 := by
  unfold phL
  split
  · exact Nat.le_of_eq (encs_length _)
  · simp
end Go.Proofs.Ytefbpaebimagaaa
