/-
  What is encoded is decoded; one other byte is found. Plain numbers. No statement is proved here; no conditions.
-/
import Derived.Test.YtfhickgdmcmodaaRd0
namespace Go.Proofs.Ytfhickgdmcmodaa
open Go.RowKit

theorem sub_mid (X M Y : List Int) (i k : Nat) (h1 : X.length = i) (h2 : M.length = k) : sub (X ++ (M ++ Y)) i k = M := by
  unfold sub
  rw [List.drop_left' h1, List.take_left' h2]
theorem num_be' (n : Int) (k : Nat) (h0 : 0 ≤ n) (h1 : n < 256 ^ k) : num (be n k) = n := num_be n k h0 h1
theorem getD_app {X Y : List Int} {i j : Nat} (h : X.length = i) : (X ++ Y).getD (i + j) 0 = Y.getD j 0 := by
  simp only [List.getD]
  rw [List.getElem?_append_right (by omega), h, Nat.add_sub_cancel_left]
section
variable (p : Pk) (s : Int)
theorem lay_s0 (ht : 0 ≤ p.t ∧ p.t < 256) : (lay p s).getD 0 0 = 2 ∧ (lay p s).getD 1 0 = p.t := by
  unfold lay
  rw [be1 p.t ht.1 ht.2, show be 2 1 = [2] by decide]
  exact ⟨rfl, rfl⟩
theorem lay_s2 : sub (lay p s) 2 2 = be (24 + p.b.length) 2 := by
  have e : lay p s = (be 2 1 ++ be p.t 1) ++ (be (24 + p.b.length) 2 ++ (be p.r 4 ++ (be p.a 4 ++ (be s 2 ++ (be p.u 2 ++ (au p ++ p.b)))))) := by simp [lay]
  rw [e]
  exact sub_mid _ _ _ _ _ (by simp [be_length]) (be_length _ _)
theorem lay_s4 : sub (lay p s) 4 4 = be p.r 4 := by
  have e : lay p s = (be 2 1 ++ be p.t 1 ++ be (24 + p.b.length) 2) ++ (be p.r 4 ++ (be p.a 4 ++ (be s 2 ++ (be p.u 2 ++ (au p ++ p.b))))) := by simp [lay]
  rw [e]
  exact sub_mid _ _ _ _ _ (by simp [be_length]) (be_length _ _)
theorem lay_s8 : sub (lay p s) 8 4 = be p.a 4 := by
  have e : lay p s = (be 2 1 ++ be p.t 1 ++ be (24 + p.b.length) 2 ++ be p.r 4) ++ (be p.a 4 ++ (be s 2 ++ (be p.u 2 ++ (au p ++ p.b)))) := by simp [lay]
  rw [e]
  exact sub_mid _ _ _ _ _ (by simp [be_length]) (be_length _ _)
theorem lay_s12 : sub (lay p s) 12 2 = be s 2 := by
  have e : lay p s = (be 2 1 ++ be p.t 1 ++ be (24 + p.b.length) 2 ++ be p.r 4 ++ be p.a 4) ++ (be s 2 ++ (be p.u 2 ++ (au p ++ p.b))) := by simp [lay]
  rw [e]
  exact sub_mid _ _ _ _ _ (by simp [be_length]) (be_length _ _)
theorem lay_s14 : sub (lay p s) 14 2 = be p.u 2 := by
  have e : lay p s = (be 2 1 ++ be p.t 1 ++ be (24 + p.b.length) 2 ++ be p.r 4 ++ be p.a 4 ++ be s 2) ++ (be p.u 2 ++ (au p ++ p.b)) := by simp [lay]
  rw [e]
  exact sub_mid _ _ _ _ _ (by simp [be_length]) (be_length _ _)
theorem lay_16 (j : Nat) (hj : j < 8) : (lay p s).getD (16 + j) 0 = (au p).getD j 0 := by
  rw [lay_ahd, getD_app (ahd_length p s)]
  simp only [List.getD]
  rw [List.getElem?_append_left (by simpa using hj)]
theorem lay_24 : (lay p s).drop 24 = p.b := by
  rw [lay_ahd, ← List.append_assoc, List.drop_left' (by rw [List.length_append, ahd_length]; rfl)]
end
theorem flt_enc (p : Pk) (ok : Okp p) (hm : mayp p = true) : flt (enc p) = 0 := by
  obtain ⟨⟨ht0, ht1⟩, ⟨hu0, hu1⟩, hl⟩ := (mayp_iff p).1 hm
  have hk := ck_bd _ (lay_byt p 0 ok)
  obtain ⟨e0, e1⟩ := lay_s0 p (ck (lay p 0)) ⟨by omega, by omega⟩
  have e2 : num (sub (enc p) 2 2) = ((enc p).length : Int) := by
    rw [enc_length]; unfold enc
    rw [lay_s2, num_be _ _ (by omega) (by omega)]; omega
  have e3 : num (sub (enc p) 12 2) = ck (enc p) := by
    unfold enc
    rw [lay_s12, num_be _ _ hk.1 (by omega), ck_lay p (ck (lay p 0)), ck_lay p 0]
  have e4 : num (sub (enc p) 14 2) = p.u := by
    unfold enc
    rw [lay_s14, num_be _ _ (by omega) (by omega)]
  have e5 : mayT ((enc p).getD 1 0) = true := by
    unfold enc
    rw [e1]; simp [mayT]; omega
  unfold flt
  rw [if_neg (by rw [enc_length]; omega), if_neg (by unfold enc; rw [e0]; simp), if_neg (by rw [enc_length]; omega), if_neg (by rw [e5, e2]; simp), if_neg (by rw [e3]; simp), if_neg (by rw [e4]; omega)]
theorem dec_enc (p : Pk) (ok : Okp p) (hm : mayp p = true) : dec (enc p) = p := by
  obtain ⟨⟨ht0, ht1⟩, ⟨hu0, hu1⟩, hl⟩ := (mayp_iff p).1 hm
  obtain ⟨hr0, hr1⟩ := ok.r
  obtain ⟨ha0, ha1⟩ := ok.a
  obtain ⟨-, e1⟩ := lay_s0 p (ck (lay p 0)) ⟨by omega, by omega⟩
  unfold dec enc
  rw [e1, lay_s4, lay_s8, lay_s14, lay_24, num_be _ _ hr0 (by omega), num_be _ _ ha0 (by omega), num_be _ _ hu0 (by omega)]
  have q := lay_16 p (ck (lay p 0))
  rw [q 1 (by omega), q 2 (by omega), q 3 (by omega), q 4 (by omega), q 5 (by omega), q 6 (by omega), q 7 (by omega), q 0 (by omega)]
  rfl
theorem decp_enc (p : Pk) (ok : Okp p) (hm : mayp p = true) : decp (enc p) = p := by
  rw [decp, if_pos (flt_enc p ok hm), dec_enc p ok hm]
/-! ### One other byte -/
theorem inet_set (l : List Int) (hy : Byt l) (k : Nat) (v : Int) (hk : k < l.length) (hv0 : 0 ≤ v) (hv1 : v < 256) (h : inet (l.set k v) = inet l) : l[k] = v := by
  have hx := hy l[k] (List.getElem_mem hk)
  have e := isum_set l 0 k v hk
  have hys : Byt (l.set k v) := fun x hx => by
    rcases List.mem_or_eq_of_mem_set hx with h | rfl
    · exact hy x h
    · exact ⟨hv0, hv1⟩
  have b1 := isum_bd l hy 0
  have b2 := isum_bd (l.set k v) hys 0
  unfold inet fold at h
  generalize isum l 0 = S at *
  generalize isum (l.set k v) 0 = S' at *
  split at e <;> split at h <;> split at h <;> omega
/-- The bytes that are summed. -/
def bod (l : List Int) : List Int := l.take 12 ++ ([0, 0] ++ ((l.drop 14).take 2 ++ l.drop 24))
theorem bod_byt {l : List Int} (hy : Byt l) : Byt (bod l) := (hy.take 12).append ((byt_lit [0, 0] (by decide)).append (((hy.drop 14).take 2).append (hy.drop 24)))
theorem bod_get (l : List Int) (h : 24 ≤ l.length) (i : Nat) : (bod l)[i]? = if i < 12 then l[i]? else if i < 14 then some 0 else if i < 16 then l[i]? else l[i + 8]? := by
  have l1 : (l.take 12).length = 12 := by simp; omega
  have l3 : ((l.drop 14).take 2).length = 2 := by simp; omega
  unfold bod
  by_cases h1 : i < 12
  · rw [if_pos h1, List.getElem?_append_left (by omega), List.getElem?_take, if_pos h1]
  rw [if_neg h1, List.getElem?_append_right (by omega), l1]
  by_cases h2 : i < 14
  · rw [if_pos h2, List.getElem?_append_left (by simp; omega)]
    have : i = 12 ∨ i = 13 := by omega
    rcases this with rfl | rfl <;> rfl
  rw [if_neg h2, List.getElem?_append_right (by simp; omega)]
  simp only [List.length_cons, List.length_nil]
  by_cases h3 : i < 16
  · rw [if_pos h3, List.getElem?_append_left (by omega), List.getElem?_take, if_pos (by omega), List.getElem?_drop]
    congr 1; omega
  rw [if_neg h3, List.getElem?_append_right (by omega), l3, List.getElem?_drop]
  congr 1; omega
theorem bod_set_low (l : List Int) (h : 24 ≤ l.length) (k : Nat) (v : Int) (hk : k < 12 ∨ (14 ≤ k ∧ k < 16)) : bod (l.set k v) = (bod l).set k v := by
  apply List.ext_getElem?
  intro i
  have hlen : (bod l).length = 16 + (l.length - 24) := by simp [bod]; omega
  rw [bod_get _ (by simpa using h)]
  simp only [List.getElem?_set, hlen, bod_get _ h]
  by_cases h1 : k = i
  · subst h1
    have h5 : k < l.length := by omega
    have h6 : k < 16 + (l.length - 24) := by omega
    rcases hk with h2 | ⟨h2, h3⟩
    · simp [h2, h5, h6]
    · simp [show ¬ k < 12 by omega, show ¬ k < 14 by omega, h3, h5, h6]
  · by_cases h4 : i < 16
    · simp [h1, h4]
    · simp [h1, h4, show ¬ k = i + 8 by omega, show ¬ i < 12 by omega, show ¬ i < 14 by omega]
theorem bod_set_high (l : List Int) (h : 24 ≤ l.length) (k : Nat) (v : Int) (hk : 24 ≤ k) (hkl : k < l.length) : bod (l.set k v) = (bod l).set (k - 8) v := by
  apply List.ext_getElem?
  intro i
  have hlen : (bod l).length = 16 + (l.length - 24) := by simp [bod]; omega
  rw [bod_get _ (by simpa using h)]
  simp only [List.getElem?_set, hlen, bod_get _ h]
  by_cases h1 : i < 16
  · rw [if_neg (show ¬ k = i by omega), if_neg (show ¬ k - 8 = i by omega)]
    by_cases h2 : i < 12
    · simp [h2]
    · by_cases h3 : i < 14
      · simp [h2, h3]
      · simp [h2, h3, h1]
  · rw [if_neg (show ¬ i < 12 by omega), if_neg (show ¬ i < 14 by omega), if_neg h1]
    by_cases h2 : k = i + 8
    · subst h2
      rw [if_pos rfl, if_pos hkl, if_pos (by omega), if_pos (by omega)]
    · rw [if_neg h2, if_neg (show ¬ k - 8 = i by omega), if_neg (show ¬ i < 12 by omega), if_neg (show ¬ i < 14 by omega), if_neg h1]
theorem sub_set_out (l : List Int) (i j k : Nat) (v : Int) (h : k < i ∨ i + j ≤ k) : sub (l.set k v) i j = sub l i j := by
  apply List.ext_getElem?
  intro x
  simp only [sub, List.getElem?_take, List.getElem?_drop, List.getElem?_set]
  split
  · rw [if_neg (by omega)]
  · rfl
theorem num_set_two (l : List Int) (hy : Byt l) (h : l.length = 2) (k : Nat) (hk : k < 2) (v : Int) (_hv0 : 0 ≤ v) (_hv1 : v < 256) (e : num (l.set k v) = num l) : l.getD k 0 = v := by
  match l, h with
  | [x, y], _ =>
    have hx := hy x (by simp)
    have hz := hy y (by simp)
    have : k = 0 ∨ k = 1 := by omega
    rcases this with rfl | rfl
    · simp [num] at e ⊢; omega
    · simp [num] at e ⊢; omega
/-- Bytes that are a packet are none with one other byte, but of the word. -/
theorem flt_set (l : List Int) (hy : Byt l) (hf : flt l = 0) (k : Nat) (v : Int) (hk : k < l.length) (ho : k < 16 ∨ 24 ≤ k) (hv0 : 0 ≤ v) (hv1 : v < 256) (hne : l[k] ≠ v) : flt (l.set k v) ≠ 0 := by
  intro hf2
  obtain ⟨h24, -, -, -, -, e1, -⟩ := flt_ok hf
  obtain ⟨-, -, -, -, -, e2, -⟩ := flt_ok hf2
  have hbl : (bod l).length = 16 + (l.length - 24) := by simp [bod]; omega
  change num (sub l 12 2) = inet (bod l) at e1
  change num (sub (l.set k v) 12 2) = inet (bod (l.set k v)) at e2
  by_cases hc : 12 ≤ k ∧ k < 14
  · have e3 : bod (l.set k v) = bod l := by
      apply List.ext_getElem?
      intro i
      rw [bod_get _ (by simpa using h24), bod_get _ h24]
      simp only [List.getElem?_set]
      by_cases h1 : i < 12
      · rw [if_pos h1, if_pos h1, if_neg (show ¬ k = i by omega)]
      · rw [if_neg h1, if_neg h1]
        by_cases h2 : i < 14
        · rw [if_pos h2, if_pos h2]
        · rw [if_neg h2, if_neg h2, if_neg (show ¬ k = i by omega), if_neg (show ¬ k = i + 8 by omega)]
    rw [e3, ← e1] at e2
    have e4 : sub (l.set k v) 12 2 = (sub l 12 2).set (k - 12) v := by
      apply List.ext_getElem?
      intro x
      have hsl : (sub l 12 2).length = 2 := sub_len (by omega)
      rw [List.getElem?_set, hsl]
      simp only [sub, List.getElem?_take, List.getElem?_drop, List.getElem?_set]
      by_cases h1 : x < 2
      · rw [if_pos h1, if_pos h1]
        by_cases h2 : k = 12 + x
        · rw [if_pos h2, if_pos (by omega), if_pos (by omega), if_pos (by omega)]
        · rw [if_neg h2, if_neg (by omega)]
      · rw [if_neg h1, if_neg h1, if_neg (by omega)]
    rw [e4] at e2
    have h5 := num_set_two _ (sub_byt hy 12 2) (sub_len (by omega)) (k - 12) (by omega) v hv0 hv1 e2
    apply hne
    rw [← h5]
    simp only [List.getD, sub, List.getElem?_take, List.getElem?_drop]
    rw [if_pos (by omega), show 12 + (k - 12) = k by omega, List.getElem?_eq_getElem hk]
    rfl
  · rw [sub_set_out l 12 2 k v (by omega), e1] at e2
    by_cases hlow : k < 24
    · rw [bod_set_low l h24 k v (by omega)] at e2
      have h5 := inet_set (bod l) (bod_byt hy) k v (by omega) hv0 hv1 e2.symm
      apply hne
      rw [← h5]
      have h6 := bod_get l h24 k
      have h7 : (bod l)[k]? = l[k]? := by
        rw [h6]
        by_cases h1 : k < 12
        · rw [if_pos h1]
        · rw [if_neg h1, if_neg (by omega), if_pos (by omega)]
      rw [List.getElem?_eq_getElem hk, List.getElem?_eq_getElem (by omega)] at h7
      injection h7 with h7
      exact h7.symm
    · rw [bod_set_high l h24 k v (by omega) hk] at e2
      have h5 := inet_set (bod l) (bod_byt hy) (k - 8) v (by omega) hv0 hv1 e2.symm
      apply hne
      rw [← h5]
      have h7 : (bod l)[k - 8]? = l[k]? := by
        rw [bod_get l h24 (k - 8), if_neg (by omega), if_neg (by omega), if_neg (by omega), show k - 8 + 8 = k by omega]
      rw [List.getElem?_eq_getElem hk, List.getElem?_eq_getElem (by omega)] at h7
      injection h7 with h7
      exact h7.symm
end Go.Proofs.Ytfhickgdmcmodaa
