/-
  What Put does a second time, and what is left when one is dropped, on plain rows. No statement is proved here; no conditions.
-/
import Derived.Test.YtadcicmccdphkaaVs
namespace Go.Proofs.Ytadcicmccdphkaa
open Go.RowKit Go.Joins

theorem filt_one {C : List Ct} (ha : Asc C) {y : Hd} {j : Nat} (hj : j < C.length) (h : kq y (C[j]).1 = true) : C.filter (fun z => !kq y z.1) = C.take j ++ C.drop (j + 1) := by
  have other : ∀ i (hi : i < C.length), i ≠ j → kq y (C[i]).1 = false := fun i hi hne => by
    cases q : kq y (C[i]).1 with
    | false => rfl
    | true =>
      refine absurd (one_key ha hi hj ?_) hne
      rw [← kq_left q, h]
  have e : C = C.take j ++ C[j] :: C.drop (j + 1) := by rw [List.getElem_cons_drop, List.take_append_drop]
  have f1 : (C.take j).filter (fun z => !kq y z.1) = C.take j := List.filter_eq_self.2 fun z hz => by
    obtain ⟨i, hi, rfl⟩ := List.getElem_of_mem hz
    rw [List.length_take] at hi
    rw [List.getElem_take, other i (by omega) (by omega)]
    rfl
  have f2 : (C.drop (j + 1)).filter (fun z => !kq y z.1) = C.drop (j + 1) := List.filter_eq_self.2 fun z hz => by
    obtain ⟨i, hi, rfl⟩ := List.getElem_of_mem hz
    rw [List.length_drop] at hi
    rw [List.getElem_drop, other (j + 1 + i) (by omega) (by omega)]
    rfl
  conv => lhs; rw [e]
  rw [List.filter_append, List.filter_cons, if_neg (by rw [h]; simp), f1, f2]
theorem filt_len {C : List Ct} (ha : Asc C) {y : Hd} {j : Nat} (hj : j < C.length) (h : kq y (C[j]).1 = true) : (C.filter (fun z => !kq y z.1)).length + 1 = C.length := by
  rw [filt_one ha hj h]
  simp
  omega
theorem filt_none (C : List Ct) (y : Hd) : isin (C.filter (fun z => !kq y z.1)) y = false := (fnd_none fun z hz => by
  have := (List.mem_filter.1 hz).2
  simpa using this).2
theorem filt_same {C : List Ct} {y : Hd} (h : ∀ z ∈ C, kq y z.1 = false) : C.filter (fun z => !kq y z.1) = C := List.filter_eq_self.2 fun z hz => by rw [h z hz]; rfl
theorem vs_filter {C : List Ct} (hv : Vs C) (p : Ct → Bool) : Vs (C.filter p) := ⟨fun z hz => hv.e z (List.mem_filter.1 hz).1, hv.a.sublist List.filter_sublist⟩
theorem put_there2 {C : List Ct} (ha : Asc C) {m : Int} {o : Bool} {x : Ct} (hw : whl x.1 x.2 = true) (hr : rgt x.1.t x.2 = true) {j : Nat} (hj : j < C.length) (hk : kq x.1 (C[j]).1 = true) :
    putR m C o x = if cmpH x.1 (C[j]).1 = 1 then ⟨C.set j x, o, 2, 0⟩ else ⟨C, o, cmpH x.1 (C[j]).1 + 1, 0⟩ := by
  have hp := at_place ha hj hk
  have hg : C.getD j x = C[j] := by simp [hj]
  rw [putR, if_neg (by rw [hw]; simp), if_neg (by rw [hr]; simp), hp, if_pos ⟨hj, by rw [hg]; exact hk⟩, hg]
/-- What is put a second time is the same, or older as before; of its key there is one. -/
theorem put_twice {m : Int} {C : List Ct} {o : Bool} {x : Ct} (hv : Vs C) (ok : Okd x.1) (hy : Byt x.2) (he : (putR m C o x).e = 0) :
    putR m (putR m C o x).C (putR m C o x).o x = ⟨(putR m C o x).C, (putR m C o x).o, if (putR m C o x).k = 0 then 0 else 1, 0⟩ ∧ ((putR m C o x).C.filter (fun z => !kq x.1 z.1)).length + 1 = (putR m C o x).C.length := by
  have hv' := put_vs (m := m) (o := o) (x := x) hv ok hy
  rcases put_ways (m := m) (o := o) (x := x) hv with ⟨_, _, _, ⟨h, _⟩ | ⟨h, _⟩⟩ | ⟨hw, hr, ⟨j, hj, hk, _, ⟨_, h⟩ | ⟨h1, h⟩⟩ | ⟨_, ⟨_, h⟩ | ⟨_, h⟩⟩⟩
  · rw [h] at he; cases he
  · rw [h] at he; cases he
  · rw [h] at hv' ⊢
    have hj2 : j < (C.set j x).length := by rw [List.length_set]; exact hj
    have hs : (C.set j x)[j] = x := List.getElem_set_self ..
    have hk2 : kq x.1 ((C.set j x)[j]).1 = true := by rw [hs]; exact kq_self _
    refine ⟨?_, filt_len hv'.a hj2 hk2⟩
    simp only
    rw [put_there2 hv'.a hw hr hj2 hk2, hs, cmpH_self]
    rfl
  · rw [h] at hv' ⊢
    refine ⟨?_, filt_len hv'.a hj hk⟩
    simp only
    rw [h]
    have hb := cmpH_bd x.1 (C[j]).1
    by_cases h0 : cmpH x.1 (C[j]).1 + 1 = 0
    · rw [if_pos h0, h0]
    · rw [if_neg h0, show cmpH x.1 (C[j]).1 + 1 = 1 by omega]
  · rw [h] at he; cases he
  · rw [h] at hv' ⊢
    have hpl := plcC_le C x.1
    have hj2 : plcC C x.1 < (C.take (plcC C x.1) ++ x :: C.drop (plcC C x.1)).length := by rw [ins_length]; omega
    have hs : (C.take (plcC C x.1) ++ x :: C.drop (plcC C x.1))[plcC C x.1] = x := by
      rw [List.getElem_append_right (by rw [List.length_take]; omega)]
      simp [List.length_take, Nat.min_eq_left hpl]
    have hk2 : kq x.1 ((C.take (plcC C x.1) ++ x :: C.drop (plcC C x.1))[plcC C x.1]).1 = true := by rw [hs]; exact kq_self _
    refine ⟨?_, filt_len hv'.a hj2 hk2⟩
    simp only
    rw [put_there2 hv'.a hw hr hj2 hk2, hs, cmpH_self]
    rfl
end Go.Proofs.Ytadcicmccdphkaa
