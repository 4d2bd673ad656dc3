/-
  What bytes say as bodies; there and back. The contracts of body.readLink and of body.only, at each kind of body. No statement is proved here; no conditions.
-/
import Derived.Test.YtadcicmccdphkaaGreatG16
namespace Go.Proofs.YtadcicmccdphkaaGreat
open Go.RowKit Go.Joins

theorem flat_cons (k : Nat) (x : Int) (l : List Int) : flat k (x :: l) = be x k ++ flat k l := by simp [flat]
theorem flat_nums (k q : Nat) (l : List Int) (hy : Byt l) (h : q * k ≤ l.length) : flat k (nums k q l) = l.take (q * k) := by
 induction q with
 | zero => simp [nums, flat]
 | succ q ih =>
  have h1 : q * k + k ≤ l.length := by rw [← Nat.succ_mul]; exact h
  rw [nums, flat_snoc, ih (by omega), Nat.succ_mul, take_sub]
  congr 1
  exact be_sub hy (q * k) k h1
theorem nums_wrd {l : List Int} (hy : Byt l) (q : Nat) (h : q * 4 ≤ l.length) : Wrd (nums 4 q l) := by
 induction q with
 | zero => intro x hx; simp [nums] at hx
 | succ q ih =>
  intro x hx
  rw [nums] at hx
  rcases List.mem_append.1 hx with hx | hx
  ·exact ih (by omega) x hx
  ·simp only [List.mem_cons, List.not_mem_nil, or_false] at hx
   subst hx
   exact num_four ((hy.drop _).take 4) (by simp; omega)
theorem nums_drop (k a q : Nat) (l : List Int) : (nums k (a + q) l).drop a = nums k q (l.drop (a * k)) := by
 induction q with
 | zero => rw [Nat.add_zero, nums, List.drop_eq_nil_of_le (by rw [nums_length]; omega)]
 | succ q ih =>
  rw [← Nat.add_assoc, nums, nums, List.drop_append_of_le_length (by rw [nums_length]; omega), ih]
  congr 2
  rw [List.drop_drop, ← Nat.add_mul]
theorem sub_0 (l : List Int) (k : Nat) : sub l 0 k = l.take k := by simp [sub]
theorem sub_add (l : List Int) (i a b : Nat) : sub l i (a + b) = sub l i a ++ sub l (i + a) b := by
 unfold sub
 rw [List.take_add, List.drop_drop]
theorem sub_sub (l : List Int) (i k j m : Nat) (h : j + m ≤ k) : sub (sub l i k) j m = sub l (i + j) m := by
 unfold sub
 rw [List.drop_take, List.take_take, List.drop_drop, Nat.min_eq_left (by omega)]
theorem sub_drop (l : List Int) (i j m : Nat) : sub (l.drop i) j m = sub l (i + j) m := by unfold sub; rw [List.drop_drop]
theorem sub_all (l : List Int) (i k : Nat) (h : l.length = i + k) : sub l i k = l.drop i := by
 unfold sub
 exact List.take_of_length_le (by rw [List.length_drop]; omega)
theorem getD_drop' (l : List Int) (i j : Nat) : (l.drop i).getD j 0 = l.getD (i + j) 0 := by simp [List.getD]
theorem num_four4 {l : List Int} (_hy : Byt l) (i : Nat) (h : i + 4 ≤ l.length) : num (sub l i 4) = ((l.getD i 0 * 256 + l.getD (i + 1) 0) * 256 + l.getD (i + 2) 0) * 256 + l.getD (i + 3) 0 := by
 rw [show (4 : Nat) = 1 + (1 + (1 + 1)) by rfl, sub_add, sub_add, sub_add, sub_one i (by omega), sub_one (i + 1) (by omega), sub_one (i + 1 + 1) (by omega), sub_one (i + 1 + 1 + 1) (by omega)]
 simp [num]
theorem num_three {l : List Int} (_hy : Byt l) (i : Nat) (h : i + 3 ≤ l.length) : num (sub l i 3) = (l.getD i 0 * 256 + l.getD (i + 1) 0) * 256 + l.getD (i + 2) 0 := by
 rw [show (3 : Nat) = 1 + (1 + 1) by rfl, sub_add, sub_add, sub_one i (by omega), sub_one (i + 1) (by omega), sub_one (i + 1 + 1) (by omega)]
 simp [num]
theorem num_two2 {l : List Int} (_hy : Byt l) (i : Nat) (h : i + 2 ≤ l.length) : num (sub l i 2) = l.getD i 0 * 256 + l.getD (i + 1) 0 := by
 rw [show (2 : Nat) = 1 + 1 by rfl, sub_add, sub_one i (by omega), sub_one (i + 1) (by omega)]
 simp [num]
theorem getD_be1 (x : Int) (R : List Int) : (be x 1 ++ R).getD 0 0 = x % 256 := by simp [be]

/-! ### A link -/
def lk0 (m : List Int) : Lk := ⟨m.getD 8 0, num (sub m 0 4), num (sub m 4 4), num (sub m 10 2)⟩
theorem lk0_ok {m : List Int} (hy : Byt m) (h : 12 ≤ m.length) : Okl (lk0 m) := ⟨num_four (sub_byt hy 0 4) (sub_len (by omega)), num_four (sub_byt hy 4 4) (sub_len (by omega))⟩
theorem elk_lk0 {m : List Int} (hy : Byt m) (h : 12 ≤ m.length) (h9 : m.getD 9 0 = 0) : elk (lk0 m) = m.take 12 := by
 have y8 := byt_getD hy 8
 have e : m.take 12 = sub m 0 4 ++ (sub m 4 4 ++ (sub m 8 1 ++ (sub m 9 1 ++ sub m 10 2))) := by
  rw [← sub_0, show (12 : Nat) = 4 + (4 + (1 + (1 + 2))) by rfl, sub_add, sub_add, sub_add, sub_add]
 rw [e, elk, lk0]
 simp only
 rw [be_sub hy 0 4 (by omega), be_sub hy 4 4 (by omega), be_sub hy 10 2 (by omega), sub_one 8 (by omega), sub_one 9 (by omega), h9, be1 _ y8.1 y8.2, be1 0 (by decide) (by decide)]
theorem third {m : List Int} (hy : Byt m) (h : 12 ≤ m.length) : num (sub m 8 4) / 16777216 = m.getD 8 0 ∧ num (sub m 8 4) % 65536 = num (sub m 10 2) ∧ num (sub m 8 4) / 65536 % 256 = m.getD 9 0 := by
 rw [num_four4 hy 8 (by omega), num_two2 hy 10 (by omega)]
 simp only [Nat.reduceAdd]
 have y8 := byt_getD hy 8
 have y9 := byt_getD hy 9
 have y10 := byt_getD hy 10
 have y11 := byt_getD hy 11
 omega

/-! ### A router's body -/
def nl (l : List Int) : Nat := (num (sub l 2 2)).toNat
theorem nl_eq {l : List Int} (hy : Byt l) (h : 4 ≤ l.length) : ((nl l : Nat) : Int) = num (sub l 2 2) ∧ nl l < 65536 := by
 have := num_two (sub_byt hy 2 2) (sub_len (by omega))
 unfold nl
 omega
def rdL (l : List Int) : List Lk := (List.range (nl l)).map fun j => lk0 (l.drop (4 + j * 12))
theorem rdL_length (l : List Int) : (rdL l).length = nl l := by simp [rdL]
def rdk (l : List Int) (k : Nat) : List Lk := (List.range k).map fun j => lk0 (l.drop (4 + j * 12))
theorem rdk_succ (l : List Int) (k : Nat) : rdk l (k + 1) = rdk l k ++ [lk0 (l.drop (4 + k * 12))] := by simp [rdk, List.range_succ]
theorem rdk_length (l : List Int) (k : Nat) : (rdk l k).length = k := by simp [rdk]
theorem rdk_ok {l : List Int} (hy : Byt l) (k : Nat) (h : 4 + k * 12 ≤ l.length) : Okls (rdk l k) := by
 intro x hx
 obtain ⟨j, hj, rfl⟩ := List.mem_map.1 hx
 rw [List.mem_range] at hj
 exact lk0_ok (hy.drop _) (by rw [List.length_drop]; omega)
def shR (l : List Int) : Prop := l.length < 4 ∨ l.length < 4 + nl l * 12
instance (l : List Int) : Decidable (shR l) := by unfold shR; infer_instance
def okR (l : List Int) : Bool := mayR (l.getD 0 0) (rdL l) && decide (enR (l.getD 0 0) (rdL l) = l)
def rdRE (l : List Int) : Int := if shR l then 2 else if okR l = true then 0 else 3
def rdRF (l : List Int) : Int := if rdRE l = 0 then l.getD 0 0 else 0
def rdRL (l : List Int) : List Lk := if rdRE l = 0 then rdL l else []
theorem els_rdk {l : List Int} (hy : Byt l) : ∀ k, 4 + k * 12 ≤ l.length → (∀ j, j < k → l.getD (4 + j * 12 + 9) 0 = 0) → els (rdk l k) = sub l 4 (k * 12) := by
 intro k
 induction k with
 | zero => intro _ _; simp [rdk, els, sub]
 | succ k ih =>
  intro h h9
  have e : elk (lk0 (l.drop (4 + k * 12))) = sub l (4 + k * 12) 12 := by
   rw [elk_lk0 (hy.drop _) (by rw [List.length_drop]; omega) (by rw [getD_drop']; exact h9 k (by omega))]
   rfl
  rw [rdk_succ, els_snoc, ih (by omega) (fun j hj => h9 j (by omega)), e, Nat.succ_mul, sub_add]
theorem hdR_read {l : List Int} (hy : Byt l) (h : 4 ≤ l.length) (h1 : l.getD 1 0 = 0) : hdR (l.getD 0 0) (nl l) = l.take 4 := by
 have y0 := byt_getD hy 0
 have e : l.take 4 = sub l 0 1 ++ (sub l 1 1 ++ sub l 2 2) := by
  rw [← sub_0, show (4 : Nat) = 1 + (1 + 2) by rfl, sub_add, sub_add]
 rw [e, hdR, (nl_eq hy h).1, be_sub hy 2 2 (by omega), sub_one 0 (by omega), sub_one 1 (by omega), h1, be1 _ y0.1 y0.2, be1 0 (by decide) (by decide)]
def okQ (l : List Int) : Bool := decide (l.getD 1 0 = 0) && (decide (l.length = 4 + nl l * 12) && decide (nl l ≤ 100))
theorem okR_iff {l : List Int} (hy : Byt l) (h : ¬ shR l) : okR l = true ↔ okQ l = true ∧ (∀ j, j < nl l → l.getD (4 + j * 12 + 9) 0 = 0) ∧ mayR (l.getD 0 0) (rdL l) = true := by
 have h4 : 4 ≤ l.length := by unfold shR at h; omega
 have hl : 4 + nl l * 12 ≤ l.length := by unfold shR at h; omega
 have hrk : rdL l = rdk l (nl l) := rfl
 simp only [okR, okQ, Bool.and_eq_true, decide_eq_true_eq]
 constructor
 ·rintro ⟨hm, he⟩
  have hn := ((mayR_iff _ _).1 hm).2.1
  rw [rdL_length] at hn
  have e1 := congrArg List.length he
  rw [enR_length, rdL_length] at e1
  refine ⟨⟨?_, e1.symm, hn⟩, ?_, hm⟩
  ·have := congrArg (fun t => t.getD 1 0) he
   (try simp only at this)
   rw [← this, enR, hdR, rdL_length, List.append_assoc, List.append_assoc]
   have q := getD_app (X := be (l.getD 0 0) 1) (Y := be 0 1 ++ (be (nl l : Int) 2 ++ els (rdL l))) (i := 1) (j := 0) (be_length _ _)
   rw [q, getD_be1]
   rfl
  ·intro j hj
   have hjl : j < (rdL l).length := by rw [rdL_length]; exact hj
   have q := congrArg (fun t => t.getD (4 + j * 12 + 9) 0) he
   (try simp only at q)
   rw [← q]
   obtain ⟨x, hx⟩ : ∃ x, (rdL l)[j] = x := ⟨_, rfl⟩
   have e2 : rdL l = (rdL l).take j ++ (x :: (rdL l).drop (j + 1)) := by rw [← hx, ← List.drop_eq_getElem_cons hjl, List.take_append_drop]
   have e3 : els (rdL l) = els ((rdL l).take j) ++ (elk x ++ els ((rdL l).drop (j + 1))) := by
    conv => lhs; rw [e2]
    simp [els]
   have e4 : enR (l.getD 0 0) (rdL l) = (hdR (l.getD 0 0) (rdL l).length ++ els ((rdL l).take j) ++ (be x.i 4 ++ (be x.d 4 ++ be x.k 1))) ++ (be 0 1 ++ (be x.c 2 ++ els ((rdL l).drop (j + 1)))) := by
    rw [enR, e3, elk]
    simp [List.append_assoc]
   have e5 : (hdR (l.getD 0 0) (rdL l).length ++ els ((rdL l).take j) ++ (be x.i 4 ++ (be x.d 4 ++ be x.k 1))).length = 4 + j * 12 + 9 := by
    simp only [List.length_append, hdR_length, els_length, be_length, List.length_take]
    omega
   have e6 := getD_app (Y := be 0 1 ++ (be x.c 2 ++ els ((rdL l).drop (j + 1)))) (j := 0) e5
   rw [e4, e6, getD_be1]
   rfl
 ·rintro ⟨⟨h1, h2, h3⟩, h9, hm⟩
  refine ⟨hm, ?_⟩
  rw [enR, rdL_length, hdR_read hy h4 h1, hrk, els_rdk hy _ hl h9, sub_all l 4 _ h2, List.take_append_drop]
/-! ### A summary -/
def rM (l : List Int) : Int := num (sub l 0 4)
def rC (l : List Int) : Int := num (sub l 5 3)
theorem rM_bd {l : List Int} (hy : Byt l) (h : 8 ≤ l.length) : 0 ≤ rM l ∧ rM l < 4294967296 := num_four (sub_byt hy 0 4) (sub_len (by omega))
theorem num_3bd {l : List Int} (hy : Byt l) (h : l.length = 3) : 0 ≤ num l ∧ num l < 16777216 := by
 have := num_bd l hy
 rw [h] at this
 simpa using this
theorem rC_bd {l : List Int} (hy : Byt l) (h : 8 ≤ l.length) : 0 ≤ rC l ∧ rC l < 16777216 := num_3bd (sub_byt hy 5 3) (sub_len (by omega))
def okS (l : List Int) : Bool := mayc (rM l) (rC l) && decide (enS (rM l) (rC l) = l)
def rdSE (l : List Int) : Int := if l.length < 8 then 2 else if okS l = true then 0 else 3
def rdSM (l : List Int) : Int := if rdSE l = 0 then rM l else 0
def rdSC (l : List Int) : Int := if rdSE l = 0 then rC l else 0
theorem okS_iff {l : List Int} (hy : Byt l) (h : 8 ≤ l.length) : okS l = true ↔ l.length = 8 ∧ l.getD 4 0 = 0 ∧ isM (rM l) = true := by
 have hc := rC_bd hy h
 simp only [okS, Bool.and_eq_true, decide_eq_true_eq]
 constructor
 ·rintro ⟨hm, he⟩
  refine ⟨?_, ?_, ((mayc_iff _ _).1 hm).1⟩
  ·rw [← he, enS_length]
  ·have q := congrArg (fun t => t.getD 4 0) he
   (try simp only at q)
   rw [← q, enS]
   have := getD_app (X := be (rM l) 4) (Y := be 0 1 ++ be (rC l) 3) (i := 4) (j := 0) (be_length _ _)
   rw [this, getD_be1]
   rfl
 ·rintro ⟨h8, h4, hm⟩
  refine ⟨(mayc_iff _ _).2 ⟨hm, hc.1, by omega⟩, ?_⟩
  have e : l = sub l 0 4 ++ (sub l 4 1 ++ sub l 5 3) := by
   rw [← sub_add, ← sub_add, sub_0]
   exact (List.take_of_length_le (by omega)).symm
  conv => rhs; rw [e]
  rw [enS, rM, rC, be_sub hy 0 4 (by omega), be_sub hy 5 3 (by omega), sub_one 4 (by omega), h4, be1 0 (by decide) (by decide)]
theorem rC_four {l : List Int} (hy : Byt l) (h : 8 ≤ l.length) : num (sub l 4 4) = l.getD 4 0 * 16777216 + rC l := by
 rw [num_four4 hy 4 (by omega), rC, num_three hy 5 (by omega)]
 simp only [Nat.reduceAdd]
 omega
/-! ### An external body -/
def rX (l : List Int) : Xb := ⟨rM l, decide (l.getD 4 0 = 128), rC l, num (sub l 8 4), num (sub l 12 4)⟩
def zX : Xb := ⟨0, false, 0, 0, 0⟩
theorem rX_ok {l : List Int} (hy : Byt l) (h : 16 ≤ l.length) : Okx (rX l) := ⟨rM_bd hy (by omega), num_four (sub_byt hy 8 4) (sub_len (by omega)), num_four (sub_byt hy 12 4) (sub_len (by omega))⟩
def okX (l : List Int) : Bool := mayc (rM l) (rC l) && decide (enX (rX l) = l)
def rdXE (l : List Int) : Int := if l.length < 16 then 2 else if okX l = true then 0 else 3
def rdX (l : List Int) : Xb := if rdXE l = 0 then rX l else zX
theorem okX_iff {l : List Int} (hy : Byt l) (h : 16 ≤ l.length) : okX l = true ↔ l.length = 16 ∧ (l.getD 4 0 = 0 ∨ l.getD 4 0 = 128) ∧ isM (rM l) = true := by
 have hc := rC_bd hy (by omega)
 simp only [okX, Bool.and_eq_true, decide_eq_true_eq]
 constructor
 ·rintro ⟨hm, he⟩
  refine ⟨?_, ?_, ((mayc_iff _ _).1 hm).1⟩
  ·rw [← he, enX_length]
  ·have q := congrArg (fun t => t.getD 4 0) he
   (try simp only at q)
   rw [← q, enX]
   have := getD_app (X := be (rX l).m 4) (Y := be (sec (rX l).s) 1 ++ (be (rX l).c 3 ++ flat 4 [(rX l).f, (rX l).t])) (i := 4) (j := 0) (be_length _ _)
   rw [this, getD_be1]
   cases (rX l).s <;> simp [sec]
 ·rintro ⟨h16, h4, hm⟩
  refine ⟨(mayc_iff _ _).2 ⟨hm, hc.1, by omega⟩, ?_⟩
  have e : l = sub l 0 4 ++ (sub l 4 1 ++ (sub l 5 3 ++ (sub l 8 4 ++ sub l 12 4))) := by
   rw [← sub_add, ← sub_add, ← sub_add, ← sub_add, sub_0]
   exact (List.take_of_length_le (by omega)).symm
  have es : be (sec (decide (l.getD 4 0 = 128))) 1 = sub l 4 1 := by
   rw [sub_one 4 (by omega)]
   rcases h4 with q | q <;> rw [q] <;> rfl
  conv => rhs; rw [e]
  rw [enX, rX]
  simp only [flat_cons]
  rw [es, rM, rC, be_sub hy 0 4 (by omega), be_sub hy 5 3 (by omega), be_sub hy 8 4 (by omega), be_sub hy 12 4 (by omega)]
  simp [flat]
/-! ### A network's body -/
def cN (l : List Int) : Nat := (l.length - 4) / 4
def rN (l : List Int) : List Int := nums 4 (cN l) (l.drop 4)
def shN (l : List Int) : Prop := l.length ≤ 4 ∨ (l.length - 4) % 4 ≠ 0
instance (l : List Int) : Decidable (shN l) := by unfold shN; infer_instance
def okN (l : List Int) : Bool := mayN (rM l) (rN l) && decide (enN (rM l) (rN l) = l)
def rdNE (l : List Int) : Int := if shN l then 2 else if okN l = true then 0 else 3
def rdNM (l : List Int) : Int := if rdNE l = 0 then rM l else 0
def rdNL (l : List Int) : List Int := if rdNE l = 0 then rN l else []
theorem rN_length (l : List Int) : (rN l).length = cN l := nums_length _ _ _
theorem rN_wrd {l : List Int} (hy : Byt l) : Wrd (rN l) := nums_wrd (hy.drop 4) _ (by rw [List.length_drop]; unfold cN; omega)
theorem rM_bd4 {l : List Int} (hy : Byt l) (h : 4 ≤ l.length) : 0 ≤ rM l ∧ rM l < 4294967296 := num_four (sub_byt hy 0 4) (sub_len (by omega))
theorem okN_iff {l : List Int} (hy : Byt l) (h : ¬ shN l) : okN l = true ↔ isM (rM l) = true ∧ cN l ≤ 200 := by
 unfold shN at h
 have hc : 1 ≤ cN l ∧ l.length = 4 + cN l * 4 := by unfold cN; omega
 have e : enN (rM l) (rN l) = l := by
  rw [enN, rM, be_sub hy 0 4 (by omega), rN, flat_nums _ _ _ (hy.drop 4) (by rw [List.length_drop]; omega), List.take_of_length_le (by rw [List.length_drop]; omega), sub_0, List.take_append_drop]
 simp only [okN, Bool.and_eq_true, decide_eq_true_eq, mayN_iff, rN_length]
 constructor
 ·rintro ⟨⟨h1, _, h3⟩, _⟩; exact ⟨h1, h3⟩
 ·rintro ⟨h1, h3⟩; exact ⟨⟨h1, hc.1, h3⟩, e⟩
end Go.Proofs.YtadcicmccdphkaaGreat
namespace Go.Proofs.YtadcicmccdphkaaGreat
open Go.RowKit Go.Joins
open List (getElem_toArray getElem_cons_zero getElem_cons_succ setIfInBounds_toArray set_cons_zero set_cons_succ)

def At (w : World) (b : Nat) (o : Obj) : Prop := w.heap[b]? = some o
theorem At.step {w w' : World} {b : Nat} {o : Obj} (h : At w b o) (hb : Below w.heap.size w w') : At w' b o := (hb.block b (lt_of_block h)).trans h
theorem At.lt {w : World} {b : Nat} {o : Obj} (h : At w b o) : b < w.heap.size := lt_of_block h
theorem At.mk {w w' : World} {o : Obj} (h : w.alloc o = w') : At w' w.heap.size o := by subst h; exact alloc_at _ _ _ rfl
theorem bs_sub0 {k : IntKind} {w : World} {B b off : Nat} {l : List Int} (h : Bs k w B (some ⟨b, off, none⟩) l) (j : Nat) : Bs k w B (some ⟨b, off, none⟩) (sub l 0 j) := by
 have := h.sub 0 j
 simpa using this
set_option maxRecDepth 100000 in
set_option maxHeartbeats 4000000 in
theorem readlink_any (A : Option Addr) (n c : Nat) (l : List Int) (w : World) (hn : l.length = n) (hb : Bt w A l) (hy : Byt l) (hc : n ≤ c) (h12 : 12 ≤ n) (hl : n ≤ 10000) :
  Calls Tryz.prog 98 #[.slice A n c] w fun e w' => e = .returned (lkv (lk0 l)) ∧ Below w.heap.size w w' := by
 obtain ⟨b, off, rfl, hbl, -⟩ := hb (by rintro rfl; simp at hn; omega)
 obtain ⟨W0, hW0⟩ : ∃ V, w.alloc (.cells #[Value.int .i64 0, .int .u32 0, .int .u32 0, .int .i64 0] 149) = V := ⟨_, rfl⟩
 have bW0 : Below w.heap.size w W0 := by rw [← hW0]; exact below_alloc1 _ _
 have sW0 : W0.heap.size = w.heap.size + 1 := by rw [← hW0]; simp
 have KZ : Hid (∀ V, Below W0.heap.size W0 V → V.heap[w.heap.size]? = some (.cells #[Value.int .i64 0, .int .u32 0, .int .u32 0, .int .i64 0] 149)) :=
  Lib.hid (fun V hV => by rw [hV.block _ (by omega), ← hW0]; exact alloc_at _ _ _ (by omega))
 have HB : Hid (Below w.heap.size w W0) := Lib.hid bW0
 have HN : Hid (b ≠ w.heap.size) := Lib.hid (by omega)
 have hb0 := hb.step bW0
 have q0 : Bt W0 (some ⟨b, off, none⟩) (sub l 0 4) := bs_sub0 hb0 4
 have q4 : Bt W0 (some ⟨b, off + 4, none⟩) (sub l 4 4) := hb0.sub 4 4
 have q10 : Bt W0 (some ⟨b, off + 10, none⟩) (sub l 10 2) := hb0.sub 10 2
 have g8 := hb0.get (i := 8) (by omega)
 have hb8 := hb0.blk (by rintro rfl; simp at hn; omega)
 have l0 : (sub l 0 4).length = 4 := sub_len (by omega)
 have l4 : (sub l 4 4).length = 4 := sub_len (by omega)
 have l10 : (sub l 10 2).length = 2 := sub_len (by omega)
 have z0 := sub_byt hy 0 4
 have z4 := sub_byt hy 4 4
 have z10 := sub_byt hy 10 2
 have v10 := num_two z10 l10
 have w8 := byt_getD hy 8
 have HD : Hid (lk0 l = ⟨l.getD 8 0, num (sub l 0 4), num (sub l 4 4), num (sub l 10 2)⟩) := Lib.hid rfl
 generalize lk0 l = K at *
 generalize sub l 0 4 = L0 at *
 generalize sub l 4 4 = L4 at *
 generalize sub l 10 2 = L10 at *
 generalize l.getD 8 0 = x8 at *
 have KS : Hid (∀ V, Below W0.heap.size W0 V → V.cell? ⟨b, off + 8, none⟩ = some (.int .u8 x8)) := Lib.hid (fun V hV => (hV.cell (p := ⟨b, off + 8, none⟩) hb8).trans g8)
 have n4 : ¬ (c = 4) := by omega
 have n10 : ¬ (c = 10) := by omega
 have i4 : (4 : Int) ≤ (c : Int) := by omega
 have i8 : (8 : Int) ≤ (c : Int) := by omega
 have i12 : (12 : Int) ≤ (c : Int) := by omega
 have j8 : (8 : Int) < (n : Int) := by omega
 have j8' : 8 < n := by omega
 have tt : Below W0.heap.size W0 W0 := Below.refl _ _
 clear hn hb bW0 hb0 g8 hb8 hbl hy sW0
 go_enter Tryz.func98, Tryz.ntmps98
 go_wp2_with fail
 refine wp_region_held_drew (S := fun V => V.cell? ⟨b, off + 8, none⟩ = some (.int .u8 x8)) (by kernel_rfl) (KS.out _ tt.drew) (fun hHeld => ?_)
 replace tt : Below W0.heap.size W0 W0.drew := tt.drew
 replace q0 : Bt W0.drew (some ⟨b, off, none⟩) L0 := q0
 replace q4 : Bt W0.drew (some ⟨b, off + 4, none⟩) L4 := q4
 replace q10 : Bt W0.drew (some ⟨b, off + 10, none⟩) L10 := q10
 generalize hX0 : W0.drew = X0 at tt q0 q4 q10 hHeld ⊢
 clear hX0
 refine wpAnyH_take (i := 0) (v := ?_) rfl (by kernel_rfl) (by kernel_rfl) (by kernel_rfl) (fun _ _ _ h => h) (Or.inl ⟨by rfl, ?_⟩) (by assumption) ?_
 rotate_left
 ·(intro w' hSw; (try dsimp only at hSw); go_simp; try with_reducible rfl)
 simp only [Act.put, getElem_toArray, getElem_cons_zero, setIfInBounds_toArray, set_cons_zero, set_cons_succ]
 refine wpAnyH_take (i := 1) (v := .slice (some ⟨b, off, none⟩) 4 c) rfl (by kernel_rfl) (by kernel_rfl) (by kernel_rfl) (fun _ _ _ h => h) (Or.inl ⟨by rfl, ?_⟩) (by assumption) ?_
 ·(intro w' hSw; (try dsimp only at hSw); go_simp; try rfl)
 simp only [Act.put, getElem_toArray, getElem_cons_zero, getElem_cons_succ, setIfInBounds_toArray, set_cons_zero, set_cons_succ]
 refine wpAnyH_take (i := 3) (v := ?_) rfl (by kernel_rfl) (by kernel_rfl) (by kernel_rfl) (fun _ _ _ h => h) (Or.inl ⟨by rfl, ?_⟩) (by assumption) ?_
 rotate_left
 ·(intro w' hSw; (try dsimp only at hSw); go_simp; try with_reducible rfl)
 simp only [Act.put, getElem_toArray, getElem_cons_zero, getElem_cons_succ, setIfInBounds_toArray, set_cons_zero, set_cons_succ]
 refine wpAnyH_take (i := 4) (v := .slice (some ⟨b, off + 4, none⟩) 4 (c - 4)) rfl (by kernel_rfl) (by kernel_rfl) (by kernel_rfl) (fun _ _ _ h => h) (Or.inl ⟨by rfl, ?_⟩) (by assumption) ?_
 ·(intro w' hSw; (try dsimp only at hSw); go_simp; try rfl)
 simp only [Act.put, getElem_toArray, getElem_cons_zero, getElem_cons_succ, setIfInBounds_toArray, set_cons_zero, set_cons_succ]
 refine wpAnyH_take (i := 6) (v := ?_) rfl (by kernel_rfl) (by kernel_rfl) (by kernel_rfl) (fun _ _ _ h => h) (Or.inl ⟨by rfl, ?_⟩) (by assumption) ?_
 rotate_left
 ·(intro w' hSw; (try dsimp only at hSw); go_simp; try with_reducible rfl)
 simp only [Act.put, getElem_toArray, getElem_cons_zero, getElem_cons_succ, setIfInBounds_toArray, set_cons_zero, set_cons_succ]
 refine wpAnyH_take (i := 7) (v := ?_) rfl (by kernel_rfl) (by kernel_rfl) (by kernel_rfl) (fun _ _ _ h => h) (Or.inl ⟨by rfl, ?_⟩) (by assumption) ?_
 rotate_left
 ·(intro w' hSw; (try dsimp only at hSw); go_simp; try with_reducible rfl)
 simp only [Act.put, getElem_toArray, getElem_cons_zero, getElem_cons_succ, setIfInBounds_toArray, set_cons_zero, set_cons_succ]
 refine wpAnyH_take (i := 8) (v := ?_) rfl (by kernel_rfl) (by kernel_rfl) (by kernel_rfl) (fun _ _ _ h => h) (Or.inl ⟨by rfl, ?_⟩) (by assumption) ?_
 rotate_left
 ·(intro w' hSw; (try dsimp only at hSw); go_simp; try with_reducible rfl)
 simp only [Act.put, getElem_toArray, getElem_cons_zero, getElem_cons_succ, setIfInBounds_toArray, set_cons_zero, set_cons_succ]
 refine wpAnyH_take (i := 9) (v := .int .i64 x8) rfl (by kernel_rfl) (by kernel_rfl) (by kernel_rfl) (fun _ _ _ h => h) (Or.inl ⟨by rfl, ?_⟩) (by assumption) ?_
 ·(intro w' hSw; (try dsimp only at hSw); go_simp; rw [wrap_i64 (by omega) (by omega)])
 simp only [Act.put, getElem_toArray, getElem_cons_zero, getElem_cons_succ, setIfInBounds_toArray, set_cons_zero, set_cons_succ]
 refine wpAnyH_take (i := 10) (v := ?_) rfl (by kernel_rfl) (by kernel_rfl) (by kernel_rfl) (fun _ _ _ h => h) (Or.inl ⟨by rfl, ?_⟩) (by assumption) ?_
 rotate_left
 ·(intro w' hSw; (try dsimp only at hSw); go_simp; try with_reducible rfl)
 simp only [Act.put, getElem_toArray, getElem_cons_zero, getElem_cons_succ, setIfInBounds_toArray, set_cons_zero, set_cons_succ]
 refine wpAnyH_take (i := 11) (v := .slice (some ⟨b, off + 10, none⟩) 2 (c - 10)) rfl (by kernel_rfl) (by kernel_rfl) (by kernel_rfl) (fun _ _ _ h => h) (Or.inl ⟨by rfl, ?_⟩) (by assumption) ?_
 ·(intro w' hSw; (try dsimp only at hSw); go_simp; try rfl)
 simp only [Act.put, getElem_toArray, getElem_cons_zero, getElem_cons_succ, setIfInBounds_toArray, set_cons_zero, set_cons_succ]
 refine wpAnyH_ready (rs := [2]) (by kernel_rfl) (by simp) ?_
 refine AllReadyH.cons rfl (fun K hK => ?_) AllReadyH.nil
 go_simp
 go_at_call 97
 refine (ynumber_any _ 4 _ L0 X0 q0 z0 l0 (by omega) (by decide) (by decide)).mono ?_
 rintro e Y11 ⟨rfl, u11⟩
 have t_Y11 : Below W0.heap.size W0 Y11 := tt.trans (u11.mono tt.size)
 replace q0 := q0.step u11
 replace q4 := q4.step u11
 replace q10 := q10.step u11
 refine hK.out _ _ (KS.out _ t_Y11) (fun _ => ?_)
 clear hK K
 refine wpAnyH_ready (rs := [5]) (by kernel_rfl) (by simp) ?_
 refine AllReadyH.cons rfl (fun K hK => ?_) AllReadyH.nil
 go_simp
 go_at_call 97
 refine (ynumber_any _ 4 _ L4 Y11 q4 z4 l4 (by omega) (by decide) (by decide)).mono ?_
 rintro e Y12 ⟨rfl, u12⟩
 have t_Y12 : Below W0.heap.size W0 Y12 := t_Y11.trans (u12.mono t_Y11.size)
 replace q0 := q0.step u12
 replace q4 := q4.step u12
 replace q10 := q10.step u12
 refine hK.out _ _ (KS.out _ t_Y12) (fun _ => ?_)
 clear hK K
 refine wpAnyH_ready (rs := [12]) (by kernel_rfl) (by simp) ?_
 refine AllReadyH.cons rfl (fun K hK => ?_) AllReadyH.nil
 go_simp
 go_at_call 97
 refine (ynumber_any _ 2 _ L10 Y12 q10 z10 l10 (by omega) (by decide) (by decide)).mono ?_
 rintro e Y13 ⟨rfl, u13⟩
 have t_Y13 : Below W0.heap.size W0 Y13 := t_Y12.trans (u13.mono t_Y12.size)
 replace q0 := q0.step u13
 replace q4 := q4.step u13
 replace q10 := q10.step u13
 refine hK.out _ _ (KS.out _ t_Y13) (fun _ => ?_)
 clear hK K
 refine wpAnyH_take (i := 13) (v := .int .i64 (num L10)) rfl (by kernel_rfl) (by kernel_rfl) (by kernel_rfl) (fun _ _ _ h => h) (Or.inl ⟨by rfl, ?_⟩) (by assumption) ?_
 ·(intro w' hSw; (try dsimp only at hSw); go_simp; rw [wrap_i64 (by omega) (by omega)])
 simp only [Act.put, getElem_toArray, getElem_cons_zero, getElem_cons_succ, setIfInBounds_toArray, set_cons_zero, set_cons_succ]
 refine wpAnyH_take (i := 14) (v := .agg #[.int .i64 x8, .int .u32 (num L0), .int .u32 (num L4), .int .i64 (num L10)]) rfl (by kernel_rfl) (by kernel_rfl) (by kernel_rfl) (fun _ _ _ h => h) (Or.inl ⟨by rfl, ?_⟩) (by assumption) ?_
 ·(intro w' hSw; (try dsimp only at hSw); go_simp; try rfl)
 simp only [Act.put, getElem_toArray, getElem_cons_zero, getElem_cons_succ, setIfInBounds_toArray, set_cons_zero, set_cons_succ]
 refine wpAnyH_ready (rs := [15]) (by kernel_rfl) (by simp) ?_
 refine AllReadyH.cons rfl (fun K hK => ?_) AllReadyH.nil
 have kz := KZ.out _ t_Y13
 obtain ⟨a0, a1, a2, a3, f0, f1, f2, f3, hzl⟩ := kz4_at kz
 have KR := Lib.hid <| kz4_get kz (Value.int .i64 x8) (.int .u32 (num L0)) (.int .u32 (num L4)) (.int .i64 (num L10))
 have TF : Hid (Below w.heap.size w (st4 Y13 w.heap.size (Value.int .i64 x8) (.int .u32 (num L0)) (.int .u32 (num L4)) (.int .i64 (num L10)))) := Lib.hid (below_st4 (HB.out.trans (t_Y13.mono HB.out.size)) (Nat.le_refl _) _ _ _ _)
 have KF : Hid ((st4 Y13 w.heap.size (Value.int .i64 x8) (.int .u32 (num L0)) (.int .u32 (num L4)) (.int .i64 (num L10))).cell? ⟨b, off + 8, none⟩ = some (.int .u8 x8)) := Lib.hid ((cell_st4 (p := ⟨b, off + 8, none⟩) HN.out _ _ _ _).trans (KS.out _ t_Y13))
 clear hHeld kz
 go_simp
 refine hK.out _ _ KF.out (fun _ => ?_)
 clear hK K
 refine wpAnyH_done (by kernel_rfl) ?_ _
 go_wp2
 obtain ⟨r0, r1, r2, r3⟩ := KR.out
 refine bodyPost_ret (v := .agg #[.int .i64 x8, .int .u32 (num L0), .int .u32 (num L4), .int .i64 (num L10)]) (by simp [results, Tryz.results98, go_sem, r0, r1, r2, r3]) rfl ⟨by rw [HD.out], TF.out⟩
theorem enters_Router (args : Array Value) (w' : World) : (callFunc 100 args).run Tryz.prog w' = .ok (.enter 100 args) w' := by simp [callFunc, Tryz.func100, Tryz.f100, mark]
set_option maxRecDepth 100000 in
set_option maxHeartbeats 4000000 in
theorem only_r (f : Int) (A : Option Addr) (n c : Nat) (L : List Lk) (B : Option Addr) (k d : Nat) (b : List Int) (w : World) (hn : L.length = n) (ok : Okls L) (hl : Lr w A L) (hll : n ≤ 10000) (hk : b.length = k) (hB : Bt w B b) (hy : Byt b) :
  Calls Tryz.prog 99 #[.agg #[.int .i64 f, .slice A n c], .func (.func 100) #[] #[], .slice B k d] w fun e w' => e = .returned (if encRE f L = 0 ∧ encRL f L = b then .tuple #[.agg #[.int .i64 f, .slice A n c], .int .i64 0] else .tuple #[.agg #[Value.int .i64 0, .slice none 0 0], .int .i64 3]) ∧ Below w.heap.size w w' := by
 obtain ⟨W0, hW0⟩ : ∃ V, w.alloc (.cells #[.int .i64 f, .slice A n c] 124) = V := ⟨_, rfl⟩
 have bW0 : Below w.heap.size w W0 := by rw [← hW0]; exact below_alloc1 _ _
 have sW0 : W0.heap.size = w.heap.size + 1 := by rw [← hW0]; simp
 have KX : Hid (∀ V, Below W0.heap.size W0 V → V.cell? ⟨w.heap.size, 0, none⟩ = some (.int .i64 f) ∧ V.cell? ⟨w.heap.size, 1, none⟩ = some (.slice A n c)) := Lib.hid (fun V hV => kb2_new hW0 hV)
 obtain ⟨W1, hW1⟩ : ∃ V, W0.alloc (.cells #[Value.int .i64 0, .slice none 0 0] 124) = V := ⟨_, rfl⟩
 have bW1 : Below W0.heap.size W0 W1 := by rw [← hW1]; exact below_alloc1 _ _
 have sW1 : W1.heap.size = W0.heap.size + 1 := by rw [← hW1]; simp
 have KZ : Hid (∀ V, Below W1.heap.size W1 V → V.heap[w.heap.size + 1]? = some (.cells #[Value.int .i64 0, .slice none 0 0] 124)) :=
  Lib.hid (fun V hV => by rw [hV.block _ (by omega), ← hW1]; exact alloc_at _ _ _ (by omega))
 have HB : Hid (Below w.heap.size w W1) := Lib.hid (bW0.trans (bW1.mono bW0.size))
 have q0 := hB.step HB.out
 have CW := router_any f A n c L W1 hn ok (hl.step HB.out) hll
 have hf := enters_Router #[.agg #[.int .i64 f, .slice A n c]] W1
 have HZ : Hid (w.heap.size ≤ w.heap.size + 1) := Lib.hid (by omega)
 have KR : Hid (∀ V, Below W1.heap.size W1 V → V.cell? ⟨w.heap.size, 0, none⟩ = some (.int .i64 f) ∧ V.cell? ⟨w.heap.size, 1, none⟩ = some (.slice A n c)) := Lib.hid (fun V hV => KX.out V (bW1.trans (hV.mono bW1.size)))
 obtain ⟨k0, k1⟩ := KR.out _ (Below.refl _ _)
 have s1 : W1.heap.size = w.heap.size + 2 := by omega
 have S1 := Lib.hid s1
 have HK := Lib.hid hk
 have yE : Byt (encRL f L) := by unfold encRL; split; exact enR_byt _ _; intro z hz; cases hz
 have HE : Hid (encRE f L = 0 ∨ encRE f L = 1) := Lib.hid (by unfold encRE; split <;> simp)
 generalize encRE f L = X at *
 generalize encRL f L = M at *
 obtain ⟨mm, hmm⟩ : ∃ mm, M.length = mm := ⟨_, rfl⟩
 rw [hmm] at CW
 have HM := Lib.hid hmm
 clear hB bW0 bW1 KX s1 hk hmm sW1
 by_cases hX : X = 1
 ·subst hX
  have hno : ¬ ((1 : Int) = 0 ∧ M = b) := by omega
  rw [if_neg hno]
  clear hno HE
  go_enter Tryz.func99, Tryz.ntmps99
  go_wp2_with fail
  refine CW.mono ?_
  rintro e Y1 ⟨A1, c1, rfl, -, u1⟩
  clear sW0
  have HY : Hid (Below w.heap.size w Y1) := Lib.hid (HB.out.trans (u1.mono HB.out.size))
  obtain ⟨Z1, hZ1⟩ : ∃ V, Y1.alloc (.cells #[Value.int .i64 0, .slice none 0 0] 124) = V := ⟨_, rfl⟩
  have v1 : Below Y1.heap.size Y1 Z1 := by rw [← hZ1]; exact below_alloc1 _ _
  have kz2 := KZ.out _ (u1.trans (v1.mono u1.size))
  obtain ⟨a0, a1, f0, f1, hzl⟩ := kz2_at kz2
  have KG := Lib.hid <| kz2_get kz2 (Value.int .i64 0) (.slice none 0 0)
  have TF := Lib.hid <| below_st2 (b := w.heap.size + 1) (HY.out.trans (v1.mono HY.out.size)) HZ.out (Value.int .i64 0) (.slice none 0 0)
  obtain ⟨o0, o1⟩ := kb2_new hZ1 (Below.refl _ _)
  clear CW u1 v1 k0 k1 hf kz2 KZ KR
  subst hZ1
  go_wp2
  obtain ⟨r0, r1⟩ := KG.out
  refine bodyPost_ret (v := .tuple #[.agg #[Value.int .i64 0, .slice none 0 0], .int .i64 3]) (by simp [results, Tryz.results99, go_sem, r0, r1]) rfl ⟨rfl, TF.out⟩
 obtain rfl : X = 0 := by have := HE.out; omega
 by_cases hMb : M = b
 ·have hyes : (0 : Int) = 0 ∧ M = b := ⟨rfl, hMb⟩
  rw [if_pos hyes]
  have hd : decide (M = b) = true := by simpa using hMb
  have HD := Lib.hid hd
  clear hyes HE hMb hd
  go_enter Tryz.func99, Tryz.ntmps99
  go_wp2_with fail
  refine CW.mono ?_
  rintro e Y1 ⟨A1, c1, rfl, o1, u1⟩
  clear sW0 k0 k1
  go_wp2_with fail
  refine (equal_any _ _ _ _ _ _ M b _ HM.out HK.out o1.bs (q0.step u1) yE hy).mono ?_
  rintro e _ ⟨rfl, rfl⟩
  rw [HD.out]
  have HY : Hid (Below w.heap.size w Y1) := Lib.hid (HB.out.trans (u1.mono HB.out.size))
  have kz2 := KZ.out _ u1
  obtain ⟨a0, a1, f0, f1, hzl⟩ := kz2_at kz2
  have KG := Lib.hid <| kz2_get kz2 (Value.int .i64 f) (.slice A n c)
  have TF := Lib.hid <| below_st2 (b := w.heap.size + 1) HY.out HZ.out (Value.int .i64 f) (.slice A n c)
  obtain ⟨g0, g1⟩ := KR.out _ u1
  clear CW u1 hf kz2 KZ KR o1
  go_wp2
  obtain ⟨r0, r1⟩ := KG.out
  refine bodyPost_ret (v := .tuple #[.agg #[.int .i64 f, .slice A n c], .int .i64 0]) (by simp [results, Tryz.results99, go_sem, r0, r1]) rfl ⟨rfl, TF.out⟩
 ·have hno : ¬ ((0 : Int) = 0 ∧ M = b) := fun h => hMb h.2
  rw [if_neg hno]
  have hd : decide (M = b) = false := by simpa using hMb
  have HD := Lib.hid hd
  clear hno HE hMb hd
  go_enter Tryz.func99, Tryz.ntmps99
  go_wp2_with fail
  refine CW.mono ?_
  rintro e Y1 ⟨A1, c1, rfl, o1, u1⟩
  clear sW0
  go_wp2_with fail
  refine (equal_any _ _ _ _ _ _ M b _ HM.out HK.out o1.bs (q0.step u1) yE hy).mono ?_
  rintro e _ ⟨rfl, rfl⟩
  rw [HD.out]
  clear o1
  have HY : Hid (Below w.heap.size w Y1) := Lib.hid (HB.out.trans (u1.mono HB.out.size))
  obtain ⟨Z1, hZ1⟩ : ∃ V, Y1.alloc (.cells #[Value.int .i64 0, .slice none 0 0] 124) = V := ⟨_, rfl⟩
  have v1 : Below Y1.heap.size Y1 Z1 := by rw [← hZ1]; exact below_alloc1 _ _
  have kz2 := KZ.out _ (u1.trans (v1.mono u1.size))
  obtain ⟨a0, a1, f0, f1, hzl⟩ := kz2_at kz2
  have KG := Lib.hid <| kz2_get kz2 (Value.int .i64 0) (.slice none 0 0)
  have TF := Lib.hid <| below_st2 (b := w.heap.size + 1) (HY.out.trans (v1.mono HY.out.size)) HZ.out (Value.int .i64 0) (.slice none 0 0)
  obtain ⟨o0, o1⟩ := kb2_new hZ1 (Below.refl _ _)
  clear CW u1 v1 k0 k1 hf kz2 KZ KR
  subst hZ1
  go_wp2
  obtain ⟨r0, r1⟩ := KG.out
  refine bodyPost_ret (v := .tuple #[.agg #[Value.int .i64 0, .slice none 0 0], .int .i64 3]) (by simp [results, Tryz.results99, go_sem, r0, r1]) rfl ⟨rfl, TF.out⟩
end Go.Proofs.YtadcicmccdphkaaGreat
