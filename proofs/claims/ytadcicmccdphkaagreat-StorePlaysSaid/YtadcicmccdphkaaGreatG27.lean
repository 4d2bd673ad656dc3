/-
  What holds of a store that may be, on plain rows: what Put keeps, what Find finds. Heads, Due and Digest, of the program and of the reference. No statement is proved here; no conditions.
-/
import Derived.Test.YtadcicmccdphkaaGreatG26
import Derived.Test.YtadcicmccdphkaaGreatG07
namespace Go.Proofs.YtadcicmccdphkaaGreat
open Go.RowKit Go.Joins

theorem lessK_iff (a b : Hd) : lessK a b = true ↔ a.t < b.t ∨ (a.t = b.t ∧ (a.i < b.i ∨ (a.i = b.i ∧ a.v < b.v))) := by
 simp only [lessK, fstn, cmpI]
 by_cases h1 : a.t < b.t
 ·simp [h1]
 ·by_cases h2 : b.t < a.t
  ·simp [h1, h2]; omega
  ·have e : a.t = b.t := by omega
   by_cases h3 : a.i < b.i
   ·simp [h1, h2, h3]; omega
   ·by_cases h4 : b.i < a.i
    ·simp [h1, h2, h3, h4]; omega
    ·by_cases h5 : a.v < b.v
     ·simp [h1, h2, h3, h4, h5]; omega
     ·by_cases h6 : b.v < a.v
      ·simp [h1, h2, h3, h4, h5, h6]
      ·simp [h1, h2, h3, h4, h5, h6]
theorem lessK_self (a : Hd) : lessK a a = false := by
 cases h : lessK a a with
 | false => rfl
 | true => have := (lessK_iff _ _).1 h; omega
theorem lessK_trans {a b c : Hd} (h : lessK a b = true) (k : lessK b c = true) : lessK a c = true := by
 rw [lessK_iff] at *
 omega
theorem kq_iff3 (y x : Hd) : kq y x = true ↔ x.t = y.t ∧ x.i = y.i ∧ x.v = y.v := by simp [kq]
theorem kq_self (y : Hd) : kq y y = true := by simp [kq]
theorem kq_of_not {a b : Hd} (h : lessK a b = false) (k : lessK b a = false) : kq a b = true := by
 rcases lessK_any a b with q | q | ⟨q1, q2, q3⟩
 ·rw [h] at q; cases q
 ·rw [k] at q; cases q
 ·exact (kq_iff3 _ _).2 ⟨q1.symm, q2.symm, q3.symm⟩
theorem kq_not_less {a b : Hd} (h : kq a b = true) : lessK a b = false ∧ lessK b a = false := by
 have := (kq_iff3 _ _).1 h
 refine ⟨?_, ?_⟩
 ·cases q : lessK a b with
  | false => rfl
  | true => have := (lessK_iff _ _).1 q; omega
 ·cases q : lessK b a with
  | false => rfl
  | true => have := (lessK_iff _ _).1 q; omega
theorem lessK_left {a b : Hd} (h : kq a b = true) (z : Hd) : lessK a z = lessK b z := by
 have e := (kq_iff3 _ _).1 h
 rw [Bool.eq_iff_iff, lessK_iff, lessK_iff]
 omega
theorem lessK_right {a b : Hd} (h : kq a b = true) (z : Hd) : lessK z a = lessK z b := by
 have e := (kq_iff3 _ _).1 h
 rw [Bool.eq_iff_iff, lessK_iff, lessK_iff]
 omega
theorem kq_left {a b : Hd} (h : kq a b = true) (z : Hd) : kq a z = kq b z := by
 have e := (kq_iff3 _ _).1 h
 rw [Bool.eq_iff_iff, kq_iff3, kq_iff3]
 omega
theorem kq_comm (a b : Hd) : kq a b = kq b a := by
 rw [Bool.eq_iff_iff, kq_iff3, kq_iff3]
 omega
structure Sv (x : Ct) : Prop where
 ok : Okd x.1
 y : Byt x.2
 w : whl x.1 x.2 = true
 r : rgt x.1.t x.2 = true
theorem Sv.sok {x : Ct} (h : Sv x) : Sok x := by
 obtain ⟨h1, h2, _⟩ := whl_iff h.w
 have hm := (mayd_iff x.1).1 h1
 exact ⟨h.ok.q, hm.1, by omega⟩
def Asc (C : List Ct) : Prop := C.Pairwise fun a b => lessK a.1 b.1 = true
structure Vs (C : List Ct) : Prop where
 e : ∀ x ∈ C, Sv x
 a : Asc C
theorem Vs.nil : Vs [] := ⟨fun x hx => (by cases hx), List.Pairwise.nil⟩
theorem plcC_le (C : List Ct) (y : Hd) : plcC C y ≤ C.length := List.findIdx_le_length
theorem before {C : List Ct} {y : Hd} {z : Ct} (h : z ∈ C.take (plcC C y)) : lessK z.1 y = true := by
 obtain ⟨i, hi, rfl⟩ := List.getElem_of_mem h
 rw [List.length_take] at hi
 have := List.not_of_lt_findIdx (p := fun z : Ct => !lessK z.1 y) (xs := C) (i := i) (by unfold plcC at hi; omega)
 rw [List.getElem_take]
 simpa using this
theorem behind {C : List Ct} {y : Hd} (ha : Asc C) {z : Ct} (h : z ∈ C.drop (plcC C y)) : lessK z.1 y = false := by
 obtain ⟨i, hi, rfl⟩ := List.getElem_of_mem h
 rw [List.length_drop] at hi
 have hlt : plcC C y < C.length := by omega
 have h0 : lessK (C[plcC C y]).1 y = false := by
  have := List.findIdx_getElem (p := fun z : Ct => !lessK z.1 y) (xs := C) (w := hlt)
  simp only [Bool.not_eq_true'] at this
  exact this
 rw [List.getElem_drop]
 rcases Nat.eq_zero_or_pos i with rfl | hp
 ·simpa using h0
 ·have h1 := List.pairwise_iff_getElem.1 ha (plcC C y) (plcC C y + i) hlt (by omega) (by omega)
  cases q : lessK (C[plcC C y + i]).1 y with
  | false => rfl
  | true => rw [lessK_trans h1 q] at h0; cases h0
theorem asc_insert {C : List Ct} {x : Ct} (ha : Asc C) (hn : ∀ z ∈ C, kq x.1 z.1 = false) : Asc (C.take (plcC C x.1) ++ x :: C.drop (plcC C x.1)) := by
 have hs : Asc (C.take (plcC C x.1)) := ha.sublist (List.take_sublist _ _)
 have hd : Asc (C.drop (plcC C x.1)) := ha.sublist (List.drop_sublist _ _)
 have hx : ∀ z ∈ C.drop (plcC C x.1), lessK x.1 z.1 = true := fun z hz => by
  have h1 := behind ha hz
  have h2 := hn z (List.mem_of_mem_drop hz)
  rcases lessK_any x.1 z.1 with q | q | q
  ·exact q
  ·rw [h1] at q; cases q
  ·rw [(kq_iff3 _ _).2 ⟨q.1.symm, q.2.1.symm, q.2.2.symm⟩] at h2; cases h2
 refine List.pairwise_append.2 ⟨hs, List.pairwise_cons.2 ⟨hx, hd⟩, fun a ha' b hb => ?_⟩
 rcases List.mem_cons.1 hb with rfl | q
 ·exact before ha'
 ·exact lessK_trans (before ha') (hx b q)
theorem asc_set {C : List Ct} {x : Ct} {p : Nat} (ha : Asc C) (hp : p < C.length) (hk : kq x.1 (C[p]).1 = true) : Asc (C.set p x) := by
 rw [Asc, List.pairwise_iff_getElem] at *
 intro i j hi hj hij
 rw [List.length_set] at hi hj
 rw [List.getElem_set, List.getElem_set]
 have h := ha i j hi hj hij
 by_cases h1 : p = i
 ·subst h1
  have h2 : p ≠ j := by omega
  simp only [if_true, h2, if_false]
  rw [lessK_left hk]
  exact h
 ·by_cases h2 : p = j
  ·subst h2
   simp only [if_true, h1, if_false]
   rw [lessK_right hk]
   exact h
  ·simp only [h1, h2, if_false]
   exact h
theorem one_key {C : List Ct} (ha : Asc C) {i j : Nat} (hi : i < C.length) (hj : j < C.length) (h : kq (C[i]).1 (C[j]).1 = true) : i = j := by
 rw [Asc, List.pairwise_iff_getElem] at ha
 obtain ⟨h1, h2⟩ := kq_not_less h
 rcases Nat.lt_trichotomy i j with q | q | q
 ·rw [ha i j hi hj q] at h1; cases h1
 ·exact q
 ·rw [ha j i hj hi q] at h2; cases h2
theorem fnd_of_mem {C : List Ct} (ha : Asc C) {z : Ct} (hz : z ∈ C) {y : Hd} (h : kq y z.1 = true) : fnd C y = z ∧ isin C y = true := by
 obtain ⟨j, hj, rfl⟩ := List.getElem_of_mem hz
 have hlt : C.findIdx (fun x => kq y x.1) < C.length := List.findIdx_lt_length.2 ⟨_, List.getElem_mem hj, h⟩
 have h0 := List.findIdx_getElem (p := fun x : Ct => kq y x.1) (xs := C) (w := hlt)
 have hij : C.findIdx (fun x => kq y x.1) = j := one_key ha hlt hj (by
  have e1 : kq y (C[C.findIdx (fun x => kq y x.1)]).1 = true := h0
  rw [kq_comm, kq_left (b := y) (by rw [kq_comm]; exact h), e1])
 refine ⟨?_, by rw [isin]; simpa using hlt⟩
 rw [fnd, hij, List.getD, List.getElem?_eq_getElem hj]
 rfl
theorem fnd_none {C : List Ct} {y : Hd} (h : ∀ z ∈ C, kq y z.1 = false) : fnd C y = (⟨0, 0, 0, 0, 0, 0, 0, 0⟩, []) ∧ isin C y = false := by
 have he : C.findIdx (fun x => kq y x.1) = C.length := List.findIdx_eq_length.2 h
 refine ⟨?_, by rw [isin, he]; simp⟩
 rw [fnd, he, List.getD, List.getElem?_eq_none (Nat.le_refl _)]
 rfl
theorem at_place {C : List Ct} (ha : Asc C) {y : Hd} {j : Nat} (hj : j < C.length) (h : kq y (C[j]).1 = true) : plcC C y = j := by
 refine (List.findIdx_eq hj).2 ⟨?_, fun i hi => ?_⟩
 ·have := (kq_not_less h).2
  simp [this]
 ·have h1 := List.pairwise_iff_getElem.1 ha i j (by omega) hj hi
  have : lessK (C[i]).1 y = true := by rw [lessK_right h]; exact h1
  simp [this]
theorem no_key {C : List Ct} (ha : Asc C) {y : Hd} {x : Ct} (h : ¬ (plcC C y < C.length ∧ kq y (C.getD (plcC C y) x).1 = true)) : ∀ z ∈ C, kq y z.1 = false := by
 intro z hz
 cases q : kq y z.1 with
 | false => rfl
 | true =>
  obtain ⟨j, hj, rfl⟩ := List.getElem_of_mem hz
  have hp := at_place ha hj q
  exact absurd ⟨by omega, by rw [hp, List.getD, List.getElem?_eq_getElem hj]; exact q⟩ h
theorem put_ways {m : Int} {C : List Ct} {o : Bool} {x : Ct} (hv : Vs C) :
  ((putR m C o x).C = C ∧ (putR m C o x).o = o ∧ (putR m C o x).k = 0 ∧ ((putR m C o x).e = 4 ∧ whl x.1 x.2 = false ∨ (putR m C o x).e = 3 ∧ whl x.1 x.2 = true ∧ rgt x.1.t x.2 = false)) ∨
  (whl x.1 x.2 = true ∧ rgt x.1.t x.2 = true ∧
   ((∃ (j : Nat) (hj : j < C.length), kq x.1 (C[j]).1 = true ∧ plcC C x.1 = j ∧ ((cmpH x.1 (C[j]).1 = 1 ∧ putR m C o x = ⟨C.set j x, o, 2, 0⟩) ∨ (cmpH x.1 (C[j]).1 ≠ 1 ∧ putR m C o x = ⟨C, o, cmpH x.1 (C[j]).1 + 1, 0⟩))) ∨
    ((∀ z ∈ C, kq x.1 z.1 = false) ∧ ((m ≤ (C.length : Int) ∧ putR m C o x = ⟨C, true, 0, 8⟩) ∨ (¬ m ≤ (C.length : Int) ∧ putR m C o x = ⟨C.take (plcC C x.1) ++ x :: C.drop (plcC C x.1), o, 3, 0⟩))))) := by
 by_cases h1 : whl x.1 x.2 = false
 ·left
  rw [putR, if_pos h1]
  exact ⟨rfl, rfl, rfl, .inl ⟨rfl, h1⟩⟩
 have h1' : whl x.1 x.2 = true := by simpa using h1
 by_cases h2 : rgt x.1.t x.2 = false
 ·left
  rw [putR, if_neg h1, if_pos h2]
  exact ⟨rfl, rfl, rfl, .inr ⟨rfl, h1', h2⟩⟩
 have h2' : rgt x.1.t x.2 = true := by simpa using h2
 right
 refine ⟨h1', h2', ?_⟩
 by_cases h3 : plcC C x.1 < C.length ∧ kq x.1 (C.getD (plcC C x.1) x).1 = true
 ·left
  have hg : C.getD (plcC C x.1) x = C[plcC C x.1]'h3.1 := by simp [h3.1]
  refine ⟨plcC C x.1, h3.1, by rw [← hg]; exact h3.2, rfl, ?_⟩
  rw [putR, if_neg h1, if_neg h2, if_pos h3, ← hg]
  by_cases h4 : cmpH x.1 (C.getD (plcC C x.1) x).1 = 1
  ·exact .inl ⟨h4, by rw [if_pos h4]⟩
  ·exact .inr ⟨h4, by rw [if_neg h4]⟩
 ·right
  refine ⟨no_key hv.a h3, ?_⟩
  rw [putR, if_neg h1, if_neg h2, if_neg h3]
  by_cases h4 : m ≤ (C.length : Int)
  ·exact .inl ⟨h4, by rw [if_pos h4]⟩
  ·exact .inr ⟨h4, by rw [if_neg h4]⟩
theorem put_vs {m : Int} {C : List Ct} {o : Bool} {x : Ct} (hv : Vs C) (ok : Okd x.1) (hy : Byt x.2) : Vs (putR m C o x).C := by
 rcases put_ways (m := m) (o := o) (x := x) hv with ⟨h, _⟩ | ⟨hw, hr, ⟨j, hj, hk, _, ⟨_, h⟩ | ⟨_, h⟩⟩ | ⟨hn, ⟨_, h⟩ | ⟨_, h⟩⟩⟩
 ·rw [h]; exact hv
 ·rw [h]
  refine ⟨fun z hz => ?_, asc_set hv.a hj hk⟩
  rcases List.mem_or_eq_of_mem_set hz with q | rfl
  ·exact hv.e z q
  ·exact ⟨ok, hy, hw, hr⟩
 ·rw [h]; exact hv
 ·rw [h]; exact hv
 ·rw [h]
  refine ⟨fun z hz => ?_, asc_insert hv.a hn⟩
  rcases List.mem_append.1 hz with q | q
  ·exact hv.e z (List.mem_of_mem_take q)
  ·rcases List.mem_cons.1 q with rfl | q
   ·exact ⟨ok, hy, hw, hr⟩
   ·exact hv.e z (List.mem_of_mem_drop q)
theorem ins_length (C : List Ct) (y : Hd) (x : Ct) : (C.take (plcC C y) ++ x :: C.drop (plcC C y)).length = C.length + 1 := by
 have := plcC_le C y
 simp
 omega
theorem put_len {m : Int} {C : List Ct} {o : Bool} {x : Ct} (hv : Vs C) : C.length ≤ (putR m C o x).C.length ∧ (putR m C o x).C.length ≤ C.length + 1 ∧ ((C.length : Int) ≤ m → ((putR m C o x).C.length : Int) ≤ m) := by
 rcases put_ways (m := m) (o := o) (x := x) hv with ⟨h, _⟩ | ⟨_, _, ⟨j, hj, _, _, ⟨_, h⟩ | ⟨_, h⟩⟩ | ⟨_, ⟨h4, h⟩ | ⟨h4, h⟩⟩⟩
 ·rw [h]; omega
 ·rw [h]; simp only [List.length_set]; omega
 ·rw [h]; simp only; omega
 ·rw [h]; simp only; omega
 ·rw [h]; simp only [ins_length]; omega
end Go.Proofs.YtadcicmccdphkaaGreat
namespace Go.Proofs.YtadcicmccdphkaaGreat
open Go.RowKit Go.Joins

theorem infoH : (Tryz.prog.info? 37).map (fun i => (i.zero, i.size, i.bytes)) = some (some (.agg #[.int .i64 0, .int .i64 0, .int .i64 0, .int .u32 0, .int .u32 0, .int .u32 0, .int .i64 0, .int .i64 0]), 8, 56) := by kernel_rfl
theorem infoK : (Tryz.prog.info? 25).map (fun i => (i.zero, i.size, i.bytes)) = some (some (.agg #[.int .i64 0, .int .u32 0, .int .u32 0]), 3, 16) := by kernel_rfl
def dgs (C : List Ct) : Int := C.foldl (fun n x => (n + x.1.s % 4294967296) % 4294967296) 0
theorem dgs_snoc (C : List Ct) (x : Ct) : dgs (C ++ [x]) = (dgs C + x.1.s % 4294967296) % 4294967296 := by simp [dgs]
def due (v : Int) (x : Ct) : Bool := decide (x.1.v = v) && (decide (1800 ≤ x.1.a) && decide (x.1.a < 3600))
def kyo (x : Hd) : Ky := ⟨x.t, x.i, x.v⟩
def heads (C : List Ct) : List Hd := C.map (·.1)
def dues (C : List Ct) (v : Int) : List Ky := (C.filter (due v)).map fun x => kyo x.1
theorem heads_snoc (C : List Ct) (x : Ct) : heads (C ++ [x]) = heads C ++ [x.1] := by simp [heads]
theorem dues_snoc (C : List Ct) (v : Int) (x : Ct) : dues (C ++ [x]) v = dues C v ++ if due v x = true then [kyo x.1] else [] := by
 simp only [dues, List.filter_append, List.map_append]
 congr 1
 by_cases h : due v x = true <;> simp [h]
theorem heads_len (C : List Ct) : (heads C).length = C.length := by simp [heads]
theorem dues_len (C : List Ct) (v : Int) : (dues C v).length ≤ C.length := by simp [dues]; exact List.length_filter_le _ _
theorem ob_lit (w : World) (e : TypeId) (sz B : Nat) (hB : B ≤ w.heap.size) : Ob e sz (B ≤ ·) (w.alloc (.cells #[] e)) (some ⟨w.heap.size, 0, none⟩) 0 [] := .inr ⟨w.heap.size, hB, rfl, Rg.lit w e sz 0 #[] [] rfl (by simp) (by unfold maxLen; omega)⟩
set_option maxRecDepth 100000 in
theorem digest_any (m : Int) (A : Option Addr) (n c : Nat) (o : Bool) (L : List Ae) (w : World) (hn : L.length = n) (hl : Arr w A L) (hll : n ≤ 9000) :
  Calls Tryz.prog 13 #[.agg #[.int .i64 m, .slice A n c, .bool o]] w fun e w' => e = .returned (.int .u32 (dgs (cons L))) ∧ Below w.heap.size w w' := by
 obtain ⟨W0, hW0⟩ : ∃ V, w.alloc (.cells #[.int .i64 m, .slice A n c, .bool o] 28) = V := ⟨_, rfl⟩
 have bW0 : Below w.heap.size w W0 := by rw [← hW0]; exact below_alloc1 _ _
 have sW0 : W0.heap.size = w.heap.size + 1 := by rw [← hW0]; simp
 have KX : Hid (∀ V, Below W0.heap.size W0 V → V.cell? ⟨w.heap.size, 0, none⟩ = some (.int .i64 m) ∧ V.cell? ⟨w.heap.size, 1, none⟩ = some (.slice A n c) ∧ V.cell? ⟨w.heap.size, 2, none⟩ = some (.bool o)) := Lib.hid (fun V hV => kb3_new hW0 hV)
 obtain ⟨k0, k1, k2⟩ := KX.out _ (Below.refl _ _)
 have HN := Lib.hid hn
 have HL := Lib.hid hl
 have GX : Hid (∀ V, Below W0.heap.size W0 V → V.cell? ⟨w.heap.size, 0, none⟩ = some (.int .i64 m) ∧ V.cell? ⟨w.heap.size, 1, none⟩ = some (.slice A n c) ∧ V.cell? ⟨w.heap.size, 2, none⟩ = some (.bool o)) := Lib.hid (fun V hV => KX.out V hV)
 have B0 := Lib.hid bW0
 clear hl hn KX sW0 bW0
 go_enter Tryz.func13, Tryz.ntmps13
 go_wp2_with fail
 go_loopg [3, 9] n (fun gf v3 v9 wx => ∃ (k : Nat), v3 = .int .u32 (dgs (cons (L.take k))) ∧ v9 = .int .i64 (k : Int) ∧ Hid (gf + k = n) ∧ Hid (Below W0.heap.size W0 wx))
 case atStart => exact ⟨0, rfl, rfl, Lib.hid (by omega), Lib.hid (Below.refl _ _)⟩
 case round =>
  obtain ⟨k, rfl, rfl, hk, hb⟩ := hrel
  have hk' := hk.out
  have HB := Lib.hid (B0.out.trans (hb.out.mono B0.out.size))
  
  clear k0 k1 k2
  cases gk with
  | zero =>
   obtain rfl : k = n := by omega
   have lt0 : decide ((k : Int) < (k : Int)) = false := by simp
   have lt1 : decide (k < k) = false := by simp
   have ht : L.take k = L := List.take_of_length_le (by rw [HN.out]; omega)
   obtain ⟨D, hD⟩ : ∃ D, dgs (cons (L.take k)) = D := ⟨_, rfl⟩
   have HDD : Hid (dgs (cons L) = D) := Lib.hid (by rw [← hD, ht])
   rw [hD]
   clear ht hD
   go_wp2
   go_ret
   rw [HDD.out]
   exact ⟨rfl, HB.out⟩
  | succ gf =>
   have hkl : k < L.length := by rw [HN.out]; omega
   have lt0 : (k : Int) < (n : Int) := by omega
   have hw1 : (k : Int) + 1 ≤ 10000 := by omega
   obtain ⟨b, off, hA, _, e0, e1, e2, e3, e4, e5, e6, e7, e8⟩ := ard_at (Arr.step HL.out HB.out).1 hkl
   have HCT : Hid (cons (L.take (k + 1)) = cons (L.take k) ++ [con (ag L k)]) := Lib.hid (cons_take1 hkl)
   obtain ⟨y, hy⟩ : ∃ y, (ag L k).h = y := ⟨_, rfl⟩
   obtain ⟨B, hB⟩ : ∃ B, (ag L k).l = B := ⟨_, rfl⟩
   have hcon : con (ag L k) = (y, B) := by rw [con, hy, hB]
   rw [hcon] at HCT
   rw [hy] at e0 e1 e2 e3 e4 e5 e6 e7
   rw [hB] at e8
   generalize B.length = mB at e8
   generalize (ag L k).A = Ab at *
   generalize (ag L k).c = d at *
   subst hA
   clear hkl hy hB hcon
   obtain ⟨W1, hW1⟩ : ∃ V, wr.alloc (.cells #[Value.int .i64 y.a, .int .i64 y.o, .int .i64 y.t, .int .u32 y.i, .int .u32 y.v, .int .u32 y.q, .int .i64 y.s, .int .i64 y.n, .slice Ab mB d] 40) = V := ⟨_, rfl⟩
   have u1 : Below wr.heap.size wr W1 := by rw [← hW1]; exact below_alloc1 _ _
   have G1 := Bk.mk hW1
   obtain ⟨z0, z1, z2, z3, z4, z5, z6, z7, z8, f0, f1, f2, f3, f4, f5, f6, f7, f8, hzl⟩ := kz9_at G1
   have HD : Hid (dgs (cons (L.take (k + 1))) = (dgs (cons (L.take k)) + y.s % 4294967296) % 4294967296) := Lib.hid (by rw [HCT.out, dgs_snoc])
   generalize dgs (cons (L.take k)) = D at *
   have H1 := Lib.hid (hb.out.trans (u1.mono hb.out.size))
   clear u1 G1
   go_wp2
   go_roundg gf
   case measure => omega
   case rel => exact ⟨k + 1, by rw [HD.out], by go_num, Lib.hid (by omega), H1⟩
set_option maxRecDepth 100000 in
theorem rdigest_any (m : Int) (A : Option Addr) (n c : Nat) (o : Bool) (L : List Ae) (w : World) (hn : L.length = n) (hl : Arr w A L) (hll : n ≤ 9000) :
  Calls Tryz.prog 14 #[.agg #[.int .i64 m, .slice A n c, .bool o]] w fun e w' => e = .returned (.int .u32 (dgs (cons L))) ∧ Below w.heap.size w w' := by
 obtain ⟨W0, hW0⟩ : ∃ V, w.alloc (.cells #[.int .i64 m, .slice A n c, .bool o] 32) = V := ⟨_, rfl⟩
 have bW0 : Below w.heap.size w W0 := by rw [← hW0]; exact below_alloc1 _ _
 have sW0 : W0.heap.size = w.heap.size + 1 := by rw [← hW0]; simp
 have KX : Hid (∀ V, Below W0.heap.size W0 V → V.cell? ⟨w.heap.size, 0, none⟩ = some (.int .i64 m) ∧ V.cell? ⟨w.heap.size, 1, none⟩ = some (.slice A n c) ∧ V.cell? ⟨w.heap.size, 2, none⟩ = some (.bool o)) := Lib.hid (fun V hV => kb3_new hW0 hV)
 obtain ⟨k0, k1, k2⟩ := KX.out _ (Below.refl _ _)
 have HN := Lib.hid hn
 have HL := Lib.hid hl
 have GX : Hid (∀ V, Below W0.heap.size W0 V → V.cell? ⟨w.heap.size, 0, none⟩ = some (.int .i64 m) ∧ V.cell? ⟨w.heap.size, 1, none⟩ = some (.slice A n c) ∧ V.cell? ⟨w.heap.size, 2, none⟩ = some (.bool o)) := Lib.hid (fun V hV => KX.out V hV)
 have B0 := Lib.hid bW0
 clear hl hn KX sW0 bW0
 go_enter Tryz.func14, Tryz.ntmps14
 go_wp2_with fail
 go_loopg [3, 4] n (fun gf v3 v4 wx => ∃ (k : Nat), v3 = .int .u32 (dgs (cons (L.take k))) ∧ v4 = .int .i64 (k : Int) ∧ Hid (gf + k = n) ∧ Hid (Below W0.heap.size W0 wx))
 case atStart => exact ⟨0, rfl, rfl, Lib.hid (by omega), Lib.hid (Below.refl _ _)⟩
 case round =>
  obtain ⟨k, rfl, rfl, hk, hb⟩ := hrel
  have hk' := hk.out
  have HB := Lib.hid (B0.out.trans (hb.out.mono B0.out.size))
  obtain ⟨p0, p1, p2⟩ := GX.out _ hb.out
  clear k0 k1 k2
  cases gk with
  | zero =>
   obtain rfl : k = n := by omega
   have lt0 : decide ((k : Int) < (k : Int)) = false := by simp
   have lt1 : decide (k < k) = false := by simp
   have ht : L.take k = L := List.take_of_length_le (by rw [HN.out]; omega)
   obtain ⟨D, hD⟩ : ∃ D, dgs (cons (L.take k)) = D := ⟨_, rfl⟩
   have HDD : Hid (dgs (cons L) = D) := Lib.hid (by rw [← hD, ht])
   rw [hD]
   clear ht hD
   go_wp2
   go_ret
   rw [HDD.out]
   exact ⟨rfl, HB.out⟩
  | succ gf =>
   have hkl : k < L.length := by rw [HN.out]; omega
   have lt0 : (k : Int) < (n : Int) := by omega
   have hw1 : (k : Int) + 1 ≤ 10000 := by omega
   obtain ⟨b, off, hA, _, e0, e1, e2, e3, e4, e5, e6, e7, e8⟩ := ard_at (Arr.step HL.out HB.out).1 hkl
   have HCT : Hid (cons (L.take (k + 1)) = cons (L.take k) ++ [con (ag L k)]) := Lib.hid (cons_take1 hkl)
   obtain ⟨y, hy⟩ : ∃ y, (ag L k).h = y := ⟨_, rfl⟩
   obtain ⟨B, hB⟩ : ∃ B, (ag L k).l = B := ⟨_, rfl⟩
   have hcon : con (ag L k) = (y, B) := by rw [con, hy, hB]
   rw [hcon] at HCT
   rw [hy] at e0 e1 e2 e3 e4 e5 e6 e7
   rw [hB] at e8
   generalize B.length = mB at e8
   generalize (ag L k).A = Ab at *
   generalize (ag L k).c = d at *
   subst hA
   clear hkl hy hB hcon
   have HD : Hid (dgs (cons (L.take (k + 1))) = (dgs (cons (L.take k)) + y.s % 4294967296) % 4294967296) := Lib.hid (by rw [HCT.out, dgs_snoc])
   generalize dgs (cons (L.take k)) = D at *
   have H1 := hb
   skip
   go_wp2
   go_roundg gf
   case measure => omega
   case rel => exact ⟨k + 1, by rw [HD.out], by go_num, Lib.hid (by omega), H1⟩
end Go.Proofs.YtadcicmccdphkaaGreat
