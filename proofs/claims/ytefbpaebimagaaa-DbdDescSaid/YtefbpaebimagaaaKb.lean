/-
  Keys there and back. No statement is proved here; no conditions.
-/
import Derived.Test.YtefbpaebimagaaaKt
import Derived.Test.YtefbpaebimagaaaAk
namespace Go.Proofs.Ytefbpaebimagaaa
open Go.RowKit Go.Joins

theorem num_be4 {x : Int} (h0 : 0 ≤ x) (h1 : x < 4294967296) : num (be x 4) = x := num_be x 4 h0 (by omega)
theorem rdK_eks {L : List Ky} (ok : ∀ x ∈ L, Okk x) (hm : mayq L = true) : rdK (eks L) L.length = L := by
  induction L with
  | nil => rfl
  | cons x L ih =>
    have e : eks (x :: L) = ek x ++ eks L := by simp [eks]
    have ox := ok x (by simp)
    have hw := (win_iff _ _ _).1 ((mayq_iff _).1 hm x (by simp))
    rw [e, List.length_cons]
    have ih2 := ih (fun y hy => ok y (by simp [hy])) ((mayq_iff _).2 fun y hy => (mayq_iff _).1 hm y (by simp [hy]))
    unfold rdK at ih2 ⊢
    rw [List.range_succ_eq_map, List.map_cons, List.map_map]
    congr 1
    · have e1 : sub (ek x ++ eks L) (0 * 12) 4 = be x.t 4 := by
        unfold sub ek
        simp only [Nat.zero_mul, List.drop_zero, List.append_assoc]
        exact List.take_left' (be_length _ _)
      have e2 : sub (ek x ++ eks L) (0 * 12 + 4) 4 = be x.i 4 := by
        unfold ek
        simp only [Nat.zero_mul, Nat.zero_add, List.append_assoc]
        exact sub_mid _ _ _ 4 4 (be_length _ _) (be_length _ _)
      have e3 : sub (ek x ++ eks L) (0 * 12 + 8) 4 = be x.v 4 := by
        unfold ek
        simp only [Nat.zero_mul, Nat.zero_add]
        rw [← List.append_assoc (be x.t 4), List.append_assoc _ (be x.v 4)]
        exact sub_mid _ _ _ 8 4 (by simp [be_length]) (be_length _ _)
      unfold ky
      rw [e1, e2, e3, num_be4 (by omega) (by omega), num_be4 ox.i.1 ox.i.2, num_be4 ox.v.1 ox.v.2]
    · conv => rhs; rw [← ih2]
      apply List.map_congr_left
      intro k _
      have sh : ∀ o, sub (ek x ++ eks L) ((k + 1) * 12 + o) 4 = sub (eks L) (k * 12 + o) 4 := fun o => by
        unfold sub
        rw [show (k + 1) * 12 + o = 12 + (k * 12 + o) by omega, ← List.drop_drop, List.drop_left' (ek_length x)]
      show ky _ (k + 1) = ky _ k
      have s0 := sh 0
      simp only [Nat.add_zero] at s0
      unfold ky
      rw [s0, sh 4, sh 8]
theorem ta_pa {L : List Ky} (ok : ∀ x ∈ L, Okk x) (h : paE L = 0) : taE (paL L) = 0 ∧ taL (paL L) = L := by
  have q : (decide (L.length ≤ 100) && mayq L) = true := by
    by_cases q : (decide (L.length ≤ 100) && mayq L) = true
    · exact q
    · rw [paE, if_neg q] at h; omega
  have h1 : L.length ≤ 100 := by simp only [Bool.and_eq_true, decide_eq_true_eq] at q; exact q.1
  have h2 : mayq L = true := by simp only [Bool.and_eq_true] at q; exact q.2
  rw [(paE_yes h1 h2).2]
  have hl := eks_length L
  have e1 : (eks L).length / 12 = L.length := by omega
  have e2 : rdK (eks L) L.length = L := rdK_eks ok h2
  have := taE_yes (l := eks L) (by omega) (by omega) (by rw [e1, e2]; exact h2)
  rwa [e1, e2] at this
theorem pa_byt (L : List Ky) : Byt (paL L) := by
  unfold paL
  split
  · exact eks_byt _
  · intro z hz; cases hz
theorem pa_len (L : List Ky) : (paL L).length ≤ L.length * 12 := by
  unfold paL
  split
  · exact Nat.le_of_eq (eks_length _)
  · simp
theorem ta_len (l : List Int) : (taL l).length ≤ l.length := by
  unfold taL
  split
  · rw [rdK_length]; omega
  · simp
theorem th_len (l : List Int) (a b : Int) : (thL l a b).length ≤ l.length := by
  unfold thL
  split
  · rw [rdHs_length]; omega
  · simp
end Go.Proofs.Ytefbpaebimagaaa
