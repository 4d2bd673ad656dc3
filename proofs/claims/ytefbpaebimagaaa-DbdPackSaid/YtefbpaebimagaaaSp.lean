/-
  There and back: what is written is read; one other byte is found. No statement is proved here; no conditions.
-/
import Derived.Test.YtefbpaebimagaaaSw
import Derived.Test.YtefbpaebimagaaaDe
namespace Go.Proofs.Ytefbpaebimagaaa
open Go.RowKit Go.Joins

theorem rdf_ehd {h : Hd} (ok : Okd h) (hm : mayd h = true) : rdf (ehd h) = h := by
  obtain ⟨h1, h2, h3, h4, h5, h6⟩ := (mayd_iff h).1 hm
  have ea : (ehd h).take 2 = be h.a 2 := List.take_left' (be_length _ _)
  have e1 : ehd h = [h.a / 256, h.a % 256, h.o, h.t] ++ (be h.i 4 ++ (be h.v 4 ++ (be h.q 4 ++ (be h.s 2 ++ be h.n 2)))) := by
    rw [ehd, be2 h.a (by omega) (by omega), be1 h.o (by omega) (by omega), be1 h.t (by omega) (by omega)]
    rfl
  have eo : (ehd h).getD 2 0 = h.o := by rw [e1]; rfl
  have et : (ehd h).getD 3 0 = h.t := by rw [e1]; rfl
  have ei : sub (ehd h) 4 4 = be h.i 4 := by rw [e1]; exact sub_mid _ _ _ 4 4 rfl (be_length _ _)
  have ev : sub (ehd h) 8 4 = be h.v 4 := by
    rw [e1, ← List.append_assoc]
    exact sub_mid _ _ _ 8 4 (by simp [be_length]) (be_length _ _)
  have eq : sub (ehd h) 12 4 = be h.q 4 := by
    rw [e1, ← List.append_assoc, ← List.append_assoc]
    exact sub_mid _ _ _ 12 4 (by simp [be_length]) (be_length _ _)
  have es : sub (ehd h) 16 2 = be h.s 2 := by
    rw [e1, ← List.append_assoc, ← List.append_assoc, ← List.append_assoc]
    exact sub_mid _ _ _ 16 2 (by simp [be_length]) (be_length _ _)
  have en : sub (ehd h) 18 2 = be h.n 2 := by
    have : ehd h = ([h.a / 256, h.a % 256, h.o, h.t] ++ be h.i 4 ++ be h.v 4 ++ be h.q 4 ++ be h.s 2) ++ (be h.n 2 ++ []) := by
      rw [e1]
      simp
    rw [this]
    exact sub_mid _ _ _ 18 2 (by simp [be_length]) (be_length _ _)
  unfold rdf
  rw [ea, eo, et, ei, ev, eq, es, en, num_be h.a 2 (by omega) (by simp; omega), num_be h.i 4 ok.i.1 (by have := ok.i.2; simp; omega), num_be h.v 4 ok.v.1 (by have := ok.v.2; simp; omega), num_be h.q 4 ok.q.1 (by have := ok.q.2; simp; omega),
    num_be h.s 2 (by omega) (by simp; omega), num_be h.n 2 (by omega) (by simp; omega)]
/-- What is written is read, with what is behind it. -/
theorem dec_enc {h : Hd} {l R : List Int} {n : Nat} (hn : l.length = n) (ok : Okd h) (hw : whl h l = true) : dcE (ehd h ++ l ++ R) = 0 ∧ rdp (ehd h ++ l ++ R) = h ∧ bdn (ehd h ++ l ++ R) = n ∧ bdy (ehd h ++ l ++ R) = l ∧ rst (ehd h ++ l ++ R) = R := by
  obtain ⟨hm, hln, hf⟩ := whl_iff hw
  obtain ⟨E, hE⟩ : ∃ E, ehd h ++ l ++ R = E := ⟨_, rfl⟩
  rw [hE]
  have h20 : E.take 20 = ehd h := by rw [← hE, List.append_assoc]; exact List.take_left' (ehd_length h)
  have d20 : E.drop 20 = l ++ R := by rw [← hE, List.append_assoc]; exact List.drop_left' (ehd_length h)
  have len : E.length = 20 + n + R.length := by rw [← hE]; simp [ehd_length, hn]; omega
  have e0 : rdE E = 0 := by rw [rdE, if_neg (by omega), h20, rdf_ehd ok hm, if_pos hm]
  have eP : rdp E = h := by rw [rdp, if_pos e0, h20, rdf_ehd ok hm]
  have eB : bdn E = n := by rw [bdn, eP, hln, hn]; omega
  have eY : bdy E = l := by rw [bdy, eB, d20]; exact List.take_left' hn
  have eR : rst E = R := by rw [rst, eB, d20]; exact List.drop_left' hn
  refine ⟨?_, eP, eB, eY, eR⟩
  rw [dcE, if_neg (by omega), eP, eY, if_neg (by rw [hln, hn, len]; omega), if_pos hw]
theorem ehd_rdf {F : List Int} (hy : Byt F) (h : F.length = 20) : ehd (rdf F) = F := by
  have b2 : be (num (F.take 2)) 2 = F.take 2 := by have := be_sub hy 0 2 (by omega); simpa [sub] using this
  have o1 := byt_getD hy 2
  have t1 := byt_getD hy 3
  unfold ehd rdf
  dsimp only
  rw [b2, be1 _ o1.1 o1.2, be1 _ t1.1 t1.2, be_sub hy 4 4 (by omega), be_sub hy 8 4 (by omega), be_sub hy 12 4 (by omega), be_sub hy 16 2 (by omega), be_sub hy 18 2 (by omega)]
  rw [← sub_one 2 (by omega), ← sub_one 3 (by omega)]
  have e : F = F.take 20 := (List.take_of_length_le (by omega)).symm
  have c3 := take_sub F 2 1
  have c4 := take_sub F 3 1
  have c8 := take_sub F 4 4
  have c12 := take_sub F 8 4
  have c16 := take_sub F 12 4
  have c18 := take_sub F 16 2
  have c20 := take_sub F 18 2
  conv => rhs; rw [e, c20, c18, c16, c12, c8, c4, c3]
  simp only [List.append_assoc]
/-- One other byte, but of the age and the length, and but 0 for 255, is found. -/
theorem dec_spoilt {h : Hd} {l : List Int} {n k : Nat} {v : Int} (hn : l.length = n) (ok : Okd h) (hy : Byt l) (hw : whl h l = true) (hk : 2 ≤ k) (hk2 : k < 20 + n) (h18 : k ≠ 18) (h19 : k ≠ 19) (hv0 : 0 ≤ v) (hv1 : v < 256)
    (hne : (ehd h ++ l).getD k 0 ≠ v) (h0 : ¬ ((ehd h ++ l).getD k 0 = 0 ∧ v = 255)) (h255 : ¬ ((ehd h ++ l).getD k 0 = 255 ∧ v = 0)) : dcE ((ehd h ++ l).set k v) ≠ 0 := by
  intro hE
  obtain ⟨hm, hln, hf⟩ := whl_iff hw
  have hyE : Byt (ehd h ++ l) := (ehd_byt h).append hy
  have hsm : smd h l = (ehd h ++ l).drop 2 := rfl
  have hlen : (ehd h ++ l).length = 20 + n := by rw [List.length_append, ehd_length, hn]
  have hr := rdf_ehd ok hm
  have ht : (ehd h ++ l).take 20 = ehd h := List.take_left' (ehd_length h)
  rw [hsm] at hf
  obtain ⟨E, hEE⟩ : ∃ E, ehd h ++ l = E := ⟨_, rfl⟩
  rw [hEE] at hE hne h0 h255 hf hyE hlen ht
  obtain ⟨e0, e1, e2⟩ := dcE_ok hE
  obtain ⟨hl, hP, hR, hM⟩ := rdE_ok e0
  have hyS : Byt (E.set k v) := hyE.set k v hv0 hv1
  have lS : (E.set k v).length = 20 + n := by rw [List.length_set, hlen]
  have hnn : (rdf ((E.set k v).take 20)).n = h.n := by
    have q1 : (rdf ((E.set k v).take 20)).n = num (sub ((E.set k v).take 20) 18 2) := rfl
    have q2 : h.n = num (sub (E.take 20) 18 2) := by
      rw [ht]
      conv => lhs; rw [← hr]
      rfl
    rw [q1, q2]
    congr 1
    apply List.ext_getElem?
    intro j
    unfold sub
    simp only [List.getElem?_take, List.getElem?_drop, List.getElem?_set]
    by_cases hj : j < 2
    · rw [if_pos hj, if_pos hj]
      split
      · rw [if_neg (by omega)]
      · rfl
    · rw [if_neg hj, if_neg hj]
  have hb : bdn (E.set k v) = n := by rw [bdn, hP, hnn, hln, hn]; omega
  have hbd : bdy (E.set k v) = (E.set k v).drop 20 := by rw [bdy, hb]; exact List.take_of_length_le (by simp; omega)
  have hcat : ehd (rdf ((E.set k v).take 20)) ++ (E.set k v).drop 20 = E.set k v := by
    rw [ehd_rdf (hyS.take 20) (by simp; omega), List.take_append_drop]
  obtain ⟨_, _, g0⟩ := whl_iff e2
  rw [hP, hbd] at g0
  have hs2 : smd (rdf ((E.set k v).take 20)) ((E.set k v).drop 20) = (E.drop 2).set (k - 2) v := by
    show (ehd (rdf ((E.set k v).take 20)) ++ (E.set k v).drop 20).drop 2 = _
    rw [hcat, List.drop_set, if_neg (by omega)]
  rw [hs2] at g0
  have hkl : k - 2 < (E.drop 2).length := by simp; omega
  have hg : (E.drop 2)[k - 2] = E.getD k 0 := by
    have : k < E.length := by omega
    simp only [List.getElem_drop, List.getD, List.getElem?_eq_getElem this, Option.getD_some]
    congr 1
    omega
  rcases found_fits (E.drop 2) (hyE.drop 2) (k - 2) v hkl hv0 hv1 hf g0 with q | q | q
  · rw [hg] at q; exact hne q
  · rw [hg] at q; exact h0 q
  · rw [hg] at q; exact h255 q
theorem xor_0 {x : Int} (h0 : 0 ≤ x) (h1 : x < 256) : bits .xor .u8 x 0 = x := by
  obtain ⟨n, rfl⟩ := Int.eq_ofNat_of_zero_le h0
  have : ∀ n : Fin 256, bits .xor .u8 (n.val : Int) 0 = (n.val : Int) := by decide +kernel
  exact this ⟨n, by omega⟩
theorem xor_255 {x : Int} (h0 : 0 ≤ x) (h1 : x < 256) : bits .xor .u8 x 255 = 255 - x := by
  obtain ⟨n, rfl⟩ := Int.eq_ofNat_of_zero_le h0
  have : ∀ n : Fin 256, bits .xor .u8 (n.val : Int) 255 = 255 - (n.val : Int) := by decide +kernel
  exact this ⟨n, by omega⟩
end Go.Proofs.Ytefbpaebimagaaa
