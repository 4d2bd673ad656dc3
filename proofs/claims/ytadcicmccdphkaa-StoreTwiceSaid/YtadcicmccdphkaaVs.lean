/-
  What holds of a store that may be, on plain rows: what Put keeps, what Find finds. No statement is proved here; no conditions.
-/
import Derived.Test.YtadcicmccdphkaaPt
namespace Go.Proofs.Ytadcicmccdphkaa
open Go.RowKit Go.Joins

theorem lessK_iff (a b : Hd) : lessK a b = true ↔ a.t < b.t ∨ (a.t = b.t ∧ (a.i < b.i ∨ (a.i = b.i ∧ a.v < b.v))) := by
  simp only [lessK, fstn, cmpI]
  by_cases h1 : a.t < b.t
  · simp [h1]
  · by_cases h2 : b.t < a.t
    · simp [h1, h2]; omega
    · have e : a.t = b.t := by omega
      by_cases h3 : a.i < b.i
      · simp [h1, h2, h3]; omega
      · by_cases h4 : b.i < a.i
        · simp [h1, h2, h3, h4]; omega
        · by_cases h5 : a.v < b.v
          · simp [h1, h2, h3, h4, h5]; omega
          · by_cases h6 : b.v < a.v
            · simp [h1, h2, h3, h4, h5, h6]
            · simp [h1, h2, h3, h4, h5, h6]
theorem lessK_self (a : Hd) : lessK a a = false := by
  cases h : lessK a a with
  | false => rfl
  | true => have := (lessK_iff _ _).1 h; omega
theorem lessK_trans {a b c : Hd} (h : lessK a b = true) (k : lessK b c = true) : lessK a c = true := by
  rw [lessK_iff] at *
  omega
theorem kq_iff3 (y x : Hd) : kq y x = true ↔ x.t = y.t ∧ x.i = y.i ∧ x.v = y.v := by simp [kq]
theorem kq_self (y : Hd) : kq y y = true := by simp [kq]
theorem kq_of_not {a b : Hd} (h : lessK a b = false) (k : lessK b a = false) : kq a b = true := by
  rcases lessK_any a b with q | q | ⟨q1, q2, q3⟩
  · rw [h] at q; cases q
  · rw [k] at q; cases q
  · exact (kq_iff3 _ _).2 ⟨q1.symm, q2.symm, q3.symm⟩
theorem kq_not_less {a b : Hd} (h : kq a b = true) : lessK a b = false ∧ lessK b a = false := by
  have := (kq_iff3 _ _).1 h
  refine ⟨?_, ?_⟩
  · cases q : lessK a b with
    | false => rfl
    | true => have := (lessK_iff _ _).1 q; omega
  · cases q : lessK b a with
    | false => rfl
    | true => have := (lessK_iff _ _).1 q; omega
theorem lessK_left {a b : Hd} (h : kq a b = true) (z : Hd) : lessK a z = lessK b z := by
  have e := (kq_iff3 _ _).1 h
  rw [Bool.eq_iff_iff, lessK_iff, lessK_iff]
  omega
theorem lessK_right {a b : Hd} (h : kq a b = true) (z : Hd) : lessK z a = lessK z b := by
  have e := (kq_iff3 _ _).1 h
  rw [Bool.eq_iff_iff, lessK_iff, lessK_iff]
  omega
theorem kq_left {a b : Hd} (h : kq a b = true) (z : Hd) : kq a z = kq b z := by
  have e := (kq_iff3 _ _).1 h
  rw [Bool.eq_iff_iff, kq_iff3, kq_iff3]
  omega
theorem kq_right {a b : Hd} (h : kq a b = true) (z : Hd) : kq z a = kq z b := by
  have e := (kq_iff3 _ _).1 h
  rw [Bool.eq_iff_iff, kq_iff3, kq_iff3]
  omega
theorem kq_comm (a b : Hd) : kq a b = kq b a := by
  rw [Bool.eq_iff_iff, kq_iff3, kq_iff3]
  omega
/-- An advertisement that may be in a store. -/
structure Sv (x : Ct) : Prop where
  ok : Okd x.1
  y : Byt x.2
  w : whl x.1 x.2 = true
  r : rgt x.1.t x.2 = true
theorem Sv.sok {x : Ct} (h : Sv x) : Sok x := by
  obtain ⟨h1, h2, _⟩ := whl_iff h.w
  have hm := (mayd_iff x.1).1 h1
  exact ⟨h.ok.q, hm.1, by omega⟩
/-- The keys rise. -/
def Asc (C : List Ct) : Prop := C.Pairwise fun a b => lessK a.1 b.1 = true
/-- The advertisements of a store that may be. -/
structure Vs (C : List Ct) : Prop where
  e : ∀ x ∈ C, Sv x
  a : Asc C
theorem Vs.nil : Vs [] := ⟨fun x hx => (by cases hx), List.Pairwise.nil⟩
theorem plcC_le (C : List Ct) (y : Hd) : plcC C y ≤ C.length := List.findIdx_le_length
theorem before {C : List Ct} {y : Hd} {z : Ct} (h : z ∈ C.take (plcC C y)) : lessK z.1 y = true := by
  obtain ⟨i, hi, rfl⟩ := List.getElem_of_mem h
  rw [List.length_take] at hi
  have := List.not_of_lt_findIdx (p := fun z : Ct => !lessK z.1 y) (xs := C) (i := i) (by unfold plcC at hi; omega)
  rw [List.getElem_take]
  simpa using this
theorem behind {C : List Ct} {y : Hd} (ha : Asc C) {z : Ct} (h : z ∈ C.drop (plcC C y)) : lessK z.1 y = false := by
  obtain ⟨i, hi, rfl⟩ := List.getElem_of_mem h
  rw [List.length_drop] at hi
  have hlt : plcC C y < C.length := by omega
  have h0 : lessK (C[plcC C y]).1 y = false := by
    have := List.findIdx_getElem (p := fun z : Ct => !lessK z.1 y) (xs := C) (w := hlt)
    simp only [Bool.not_eq_true'] at this
    exact this
  rw [List.getElem_drop]
  rcases Nat.eq_zero_or_pos i with rfl | hp
  · simpa using h0
  · have h1 := List.pairwise_iff_getElem.1 ha (plcC C y) (plcC C y + i) hlt (by omega) (by omega)
    cases q : lessK (C[plcC C y + i]).1 y with
    | false => rfl
    | true => rw [lessK_trans h1 q] at h0; cases h0
/-- What is put in its place. -/
theorem asc_insert {C : List Ct} {x : Ct} (ha : Asc C) (hn : ∀ z ∈ C, kq x.1 z.1 = false) : Asc (C.take (plcC C x.1) ++ x :: C.drop (plcC C x.1)) := by
  have hs : Asc (C.take (plcC C x.1)) := ha.sublist (List.take_sublist _ _)
  have hd : Asc (C.drop (plcC C x.1)) := ha.sublist (List.drop_sublist _ _)
  have hx : ∀ z ∈ C.drop (plcC C x.1), lessK x.1 z.1 = true := fun z hz => by
    have h1 := behind ha hz
    have h2 := hn z (List.mem_of_mem_drop hz)
    rcases lessK_any x.1 z.1 with q | q | q
    · exact q
    · rw [h1] at q; cases q
    · rw [(kq_iff3 _ _).2 ⟨q.1.symm, q.2.1.symm, q.2.2.symm⟩] at h2; cases h2
  refine List.pairwise_append.2 ⟨hs, List.pairwise_cons.2 ⟨hx, hd⟩, fun a ha' b hb => ?_⟩
  rcases List.mem_cons.1 hb with rfl | q
  · exact before ha'
  · exact lessK_trans (before ha') (hx b q)
theorem asc_set {C : List Ct} {x : Ct} {p : Nat} (ha : Asc C) (hp : p < C.length) (hk : kq x.1 (C[p]).1 = true) : Asc (C.set p x) := by
  rw [Asc, List.pairwise_iff_getElem] at *
  intro i j hi hj hij
  rw [List.length_set] at hi hj
  rw [List.getElem_set, List.getElem_set]
  have h := ha i j hi hj hij
  by_cases h1 : p = i
  · subst h1
    have h2 : p ≠ j := by omega
    simp only [if_true, h2, if_false]
    rw [lessK_left hk]
    exact h
  · by_cases h2 : p = j
    · subst h2
      simp only [if_true, h1, if_false]
      rw [lessK_right hk]
      exact h
    · simp only [h1, h2, if_false]
      exact h
/-- There is one of each key. -/
theorem one_key {C : List Ct} (ha : Asc C) {i j : Nat} (hi : i < C.length) (hj : j < C.length) (h : kq (C[i]).1 (C[j]).1 = true) : i = j := by
  rw [Asc, List.pairwise_iff_getElem] at ha
  obtain ⟨h1, h2⟩ := kq_not_less h
  rcases Nat.lt_trichotomy i j with q | q | q
  · rw [ha i j hi hj q] at h1; cases h1
  · exact q
  · rw [ha j i hj hi q] at h2; cases h2
theorem fnd_of_mem {C : List Ct} (ha : Asc C) {z : Ct} (hz : z ∈ C) {y : Hd} (h : kq y z.1 = true) : fnd C y = z ∧ isin C y = true := by
  obtain ⟨j, hj, rfl⟩ := List.getElem_of_mem hz
  have hlt : C.findIdx (fun x => kq y x.1) < C.length := List.findIdx_lt_length.2 ⟨_, List.getElem_mem hj, h⟩
  have h0 := List.findIdx_getElem (p := fun x : Ct => kq y x.1) (xs := C) (w := hlt)
  have hij : C.findIdx (fun x => kq y x.1) = j := one_key ha hlt hj (by
    have e1 : kq y (C[C.findIdx (fun x => kq y x.1)]).1 = true := h0
    rw [kq_comm, kq_left (b := y) (by rw [kq_comm]; exact h), e1])
  refine ⟨?_, by rw [isin]; simpa using hlt⟩
  rw [fnd, hij, List.getD, List.getElem?_eq_getElem hj]
  rfl
theorem fnd_none {C : List Ct} {y : Hd} (h : ∀ z ∈ C, kq y z.1 = false) : fnd C y = (⟨0, 0, 0, 0, 0, 0, 0, 0⟩, []) ∧ isin C y = false := by
  have he : C.findIdx (fun x => kq y x.1) = C.length := List.findIdx_eq_length.2 h
  refine ⟨?_, by rw [isin, he]; simp⟩
  rw [fnd, he, List.getD, List.getElem?_eq_none (Nat.le_refl _)]
  rfl
/-- The one of this key, if there is one, is at its place. -/
theorem at_place {C : List Ct} (ha : Asc C) {y : Hd} {j : Nat} (hj : j < C.length) (h : kq y (C[j]).1 = true) : plcC C y = j := by
  refine (List.findIdx_eq hj).2 ⟨?_, fun i hi => ?_⟩
  · have := (kq_not_less h).2
    simp [this]
  · have h1 := List.pairwise_iff_getElem.1 ha i j (by omega) hj hi
    have : lessK (C[i]).1 y = true := by rw [lessK_right h]; exact h1
    simp [this]
theorem no_key {C : List Ct} (ha : Asc C) {y : Hd} {x : Ct} (h : ¬ (plcC C y < C.length ∧ kq y (C.getD (plcC C y) x).1 = true)) : ∀ z ∈ C, kq y z.1 = false := by
  intro z hz
  cases q : kq y z.1 with
  | false => rfl
  | true =>
    obtain ⟨j, hj, rfl⟩ := List.getElem_of_mem hz
    have hp := at_place ha hj q
    exact absurd ⟨by omega, by rw [hp, List.getD, List.getElem?_eq_getElem hj]; exact q⟩ h
/-- What Put does, of a store that may be: five ways. -/
theorem put_ways {m : Int} {C : List Ct} {o : Bool} {x : Ct} (hv : Vs C) :
    ((putR m C o x).C = C ∧ (putR m C o x).o = o ∧ (putR m C o x).k = 0 ∧ ((putR m C o x).e = 4 ∧ whl x.1 x.2 = false ∨ (putR m C o x).e = 3 ∧ whl x.1 x.2 = true ∧ rgt x.1.t x.2 = false)) ∨
    (whl x.1 x.2 = true ∧ rgt x.1.t x.2 = true ∧
      ((∃ (j : Nat) (hj : j < C.length), kq x.1 (C[j]).1 = true ∧ plcC C x.1 = j ∧ ((cmpH x.1 (C[j]).1 = 1 ∧ putR m C o x = ⟨C.set j x, o, 2, 0⟩) ∨ (cmpH x.1 (C[j]).1 ≠ 1 ∧ putR m C o x = ⟨C, o, cmpH x.1 (C[j]).1 + 1, 0⟩))) ∨
       ((∀ z ∈ C, kq x.1 z.1 = false) ∧ ((m ≤ (C.length : Int) ∧ putR m C o x = ⟨C, true, 0, 8⟩) ∨ (¬ m ≤ (C.length : Int) ∧ putR m C o x = ⟨C.take (plcC C x.1) ++ x :: C.drop (plcC C x.1), o, 3, 0⟩))))) := by
  by_cases h1 : whl x.1 x.2 = false
  · left
    rw [putR, if_pos h1]
    exact ⟨rfl, rfl, rfl, .inl ⟨rfl, h1⟩⟩
  have h1' : whl x.1 x.2 = true := by simpa using h1
  by_cases h2 : rgt x.1.t x.2 = false
  · left
    rw [putR, if_neg h1, if_pos h2]
    exact ⟨rfl, rfl, rfl, .inr ⟨rfl, h1', h2⟩⟩
  have h2' : rgt x.1.t x.2 = true := by simpa using h2
  right
  refine ⟨h1', h2', ?_⟩
  by_cases h3 : plcC C x.1 < C.length ∧ kq x.1 (C.getD (plcC C x.1) x).1 = true
  · left
    have hg : C.getD (plcC C x.1) x = C[plcC C x.1]'h3.1 := by simp [h3.1]
    refine ⟨plcC C x.1, h3.1, by rw [← hg]; exact h3.2, rfl, ?_⟩
    rw [putR, if_neg h1, if_neg h2, if_pos h3, ← hg]
    by_cases h4 : cmpH x.1 (C.getD (plcC C x.1) x).1 = 1
    · exact .inl ⟨h4, by rw [if_pos h4]⟩
    · exact .inr ⟨h4, by rw [if_neg h4]⟩
  · right
    refine ⟨no_key hv.a h3, ?_⟩
    rw [putR, if_neg h1, if_neg h2, if_neg h3]
    by_cases h4 : m ≤ (C.length : Int)
    · exact .inl ⟨h4, by rw [if_pos h4]⟩
    · exact .inr ⟨h4, by rw [if_neg h4]⟩
theorem put_vs {m : Int} {C : List Ct} {o : Bool} {x : Ct} (hv : Vs C) (ok : Okd x.1) (hy : Byt x.2) : Vs (putR m C o x).C := by
  rcases put_ways (m := m) (o := o) (x := x) hv with ⟨h, _⟩ | ⟨hw, hr, ⟨j, hj, hk, _, ⟨_, h⟩ | ⟨_, h⟩⟩ | ⟨hn, ⟨_, h⟩ | ⟨_, h⟩⟩⟩
  · rw [h]; exact hv
  · rw [h]
    refine ⟨fun z hz => ?_, asc_set hv.a hj hk⟩
    rcases List.mem_or_eq_of_mem_set hz with q | rfl
    · exact hv.e z q
    · exact ⟨ok, hy, hw, hr⟩
  · rw [h]; exact hv
  · rw [h]; exact hv
  · rw [h]
    refine ⟨fun z hz => ?_, asc_insert hv.a hn⟩
    rcases List.mem_append.1 hz with q | q
    · exact hv.e z (List.mem_of_mem_take q)
    · rcases List.mem_cons.1 q with rfl | q
      · exact ⟨ok, hy, hw, hr⟩
      · exact hv.e z (List.mem_of_mem_drop q)
theorem ins_length (C : List Ct) (y : Hd) (x : Ct) : (C.take (plcC C y) ++ x :: C.drop (plcC C y)).length = C.length + 1 := by
  have := plcC_le C y
  simp
  omega
/-- How many there are behind a Put. -/
theorem put_len {m : Int} {C : List Ct} {o : Bool} {x : Ct} (hv : Vs C) : C.length ≤ (putR m C o x).C.length ∧ (putR m C o x).C.length ≤ C.length + 1 ∧ ((C.length : Int) ≤ m → ((putR m C o x).C.length : Int) ≤ m) := by
  rcases put_ways (m := m) (o := o) (x := x) hv with ⟨h, _⟩ | ⟨_, _, ⟨j, hj, _, _, ⟨_, h⟩ | ⟨_, h⟩⟩ | ⟨_, ⟨h4, h⟩ | ⟨h4, h⟩⟩⟩
  · rw [h]; omega
  · rw [h]; simp only [List.length_set]; omega
  · rw [h]; simp only; omega
  · rw [h]; simp only; omega
  · rw [h]; simp only [ins_length]; omega
/-- Over is set for ever, and by ErrFull only. -/
theorem put_over {m : Int} {C : List Ct} {o : Bool} {x : Ct} (hv : Vs C) : (putR m C o x).o = (o || decide ((putR m C o x).e = 8)) := by
  rcases put_ways (m := m) (o := o) (x := x) hv with ⟨_, h, _, ⟨h5, _⟩ | ⟨h5, _⟩⟩ | ⟨_, _, ⟨j, hj, _, _, ⟨_, h⟩ | ⟨_, h⟩⟩ | ⟨_, ⟨h4, h⟩ | ⟨h4, h⟩⟩⟩
  · rw [h, h5]; simp
  · rw [h, h5]; simp
  all_goals (rw [h]; simp)
/-- What was there is there still, or a newer one of its key. -/
theorem put_keeps {m : Int} {C : List Ct} {o : Bool} {x : Ct} (hv : Vs C) (ok : Okd x.1) (hy : Byt x.2) {z : Ct} (hz : z ∈ C) : isin (putR m C o x).C z.1 = true ∧ cmpH z.1 (fnd (putR m C o x).C z.1).1 ≤ 0 ∧ Sv (fnd (putR m C o x).C z.1) := by
  have hv' := put_vs (m := m) (o := o) (x := x) hv ok hy
  have key : z ∈ (putR m C o x).C ∨ ∃ y ∈ (putR m C o x).C, kq z.1 y.1 = true ∧ cmpH z.1 y.1 ≤ 0 := by
    rcases put_ways (m := m) (o := o) (x := x) hv with ⟨h, _⟩ | ⟨_, _, ⟨j, hj, hk, _, ⟨h1, h⟩ | ⟨_, h⟩⟩ | ⟨_, ⟨_, h⟩ | ⟨_, h⟩⟩⟩
    · rw [h]; exact .inl hz
    · rw [h]
      obtain ⟨i, hi, rfl⟩ := List.getElem_of_mem hz
      by_cases e : j = i
      · subst e
        refine .inr ⟨x, List.mem_set hj _, by rw [kq_comm]; exact hk, ?_⟩
        rw [cmpH_anti, h1]
        omega
      · exact .inl (List.mem_iff_getElem.2 ⟨i, by rw [List.length_set]; exact hi, by rw [List.getElem_set_ne e]⟩)
    · rw [h]; exact .inl hz
    · rw [h]; exact .inl hz
    · rw [h]
      left
      rw [← List.take_append_drop (plcC C x.1) C] at hz
      rcases List.mem_append.1 hz with q | q
      · exact List.mem_append.2 (.inl q)
      · exact List.mem_append.2 (.inr (List.mem_cons_of_mem _ q))
  rcases key with q | ⟨y, q, hk, hc⟩
  · obtain ⟨e1, e2⟩ := fnd_of_mem hv'.a q (kq_self z.1)
    rw [e1, e2, cmpH_self]
    exact ⟨rfl, Int.le_refl _, hv'.e z q⟩
  · obtain ⟨e1, e2⟩ := fnd_of_mem hv'.a q hk
    rw [e1, e2]
    exact ⟨rfl, hc, hv'.e y q⟩
/-- What came newer, or fresh, is there. -/
theorem put_there {m : Int} {C : List Ct} {o : Bool} {x : Ct} (hv : Vs C) (ok : Okd x.1) (hy : Byt x.2) (he : (putR m C o x).e = 0) (hk : 2 ≤ (putR m C o x).k) : x ∈ (putR m C o x).C ∧ fnd (putR m C o x).C x.1 = x ∧ isin (putR m C o x).C x.1 = true := by
  have hv' := put_vs (m := m) (o := o) (x := x) hv ok hy
  have hm : x ∈ (putR m C o x).C := by
    rcases put_ways (m := m) (o := o) (x := x) hv with ⟨_, _, _, h⟩ | ⟨_, _, ⟨j, hj, _, _, ⟨_, h⟩ | ⟨h1, h⟩⟩ | ⟨_, ⟨_, h⟩ | ⟨_, h⟩⟩⟩
    · omega
    · rw [h]; exact List.mem_set hj _
    · rw [h] at hk
      have := cmpH_bd x.1 (C[j]).1
      simp only at hk
      omega
    · rw [h] at he
      simp at he
    · rw [h]
      exact List.mem_append.2 (.inr (List.mem_cons_self ..))
  exact ⟨hm, fnd_of_mem hv'.a hm (kq_self x.1)⟩
end Go.Proofs.Ytadcicmccdphkaa
