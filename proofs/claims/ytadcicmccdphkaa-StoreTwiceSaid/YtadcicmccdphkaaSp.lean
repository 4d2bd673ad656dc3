/-
  What bytes say as bodies; there and back. No statement is proved here; no conditions.
-/
import Derived.Test.YtadcicmccdphkaaEs
namespace Go.Proofs.Ytadcicmccdphkaa
open Go.RowKit Go.Joins

theorem flat_append (k : Nat) (a b : List Int) : flat k (a ++ b) = flat k a ++ flat k b := by simp [flat]
theorem flat_cons (k : Nat) (x : Int) (l : List Int) : flat k (x :: l) = be x k ++ flat k l := by simp [flat]
theorem flat_nums (k q : Nat) (l : List Int) (hy : Byt l) (h : q * k ≤ l.length) : flat k (nums k q l) = l.take (q * k) := by
  induction q with
  | zero => simp [nums, flat]
  | succ q ih =>
    have h1 : q * k + k ≤ l.length := by rw [← Nat.succ_mul]; exact h
    rw [nums, flat_snoc, ih (by omega), Nat.succ_mul, take_sub]
    congr 1
    exact be_sub hy (q * k) k h1
theorem nums_flat (k : Nat) (l : List Int) (hl : ∀ x ∈ l, 0 ≤ x ∧ x < 256 ^ k) : ∀ q, q ≤ l.length → nums k q (flat k l) = l.take q := by
  intro q
  induction q with
  | zero => intro _; simp [nums]
  | succ q ih =>
    intro hq
    have hlt : q < l.length := by omega
    rw [nums, ih (by omega), List.take_succ_eq_append_getElem hlt]
    congr 2
    have e : flat k l = flat k (l.take q) ++ (be l[q] k ++ flat k (l.drop (q + 1))) := by
      rw [← flat_cons, ← flat_append, ← List.drop_eq_getElem_cons hlt, List.take_append_drop]
    have e2 : (flat k (l.take q)).length = q * k := by rw [flat_length, List.length_take, Nat.min_eq_left (by omega)]
    have hx := hl l[q] (List.getElem_mem hlt)
    rw [e, List.drop_left' e2, List.take_left' (be_length _ _), num_be _ _ hx.1 hx.2]
theorem nums_wrd {l : List Int} (hy : Byt l) (q : Nat) (h : q * 4 ≤ l.length) : Wrd (nums 4 q l) := by
  induction q with
  | zero => intro x hx; simp [nums] at hx
  | succ q ih =>
    intro x hx
    rw [nums] at hx
    rcases List.mem_append.1 hx with hx | hx
    · exact ih (by omega) x hx
    · simp only [List.mem_cons, List.not_mem_nil, or_false] at hx
      subst hx
      exact num_four ((hy.drop _).take 4) (by simp; omega)
theorem nums_drop (k a q : Nat) (l : List Int) : (nums k (a + q) l).drop a = nums k q (l.drop (a * k)) := by
  induction q with
  | zero => rw [Nat.add_zero, nums, List.drop_eq_nil_of_le (by rw [nums_length]; omega)]
  | succ q ih =>
    rw [← Nat.add_assoc, nums, nums, List.drop_append_of_le_length (by rw [nums_length]; omega), ih]
    congr 2
    rw [List.drop_drop, ← Nat.add_mul]
theorem sub_0 (l : List Int) (k : Nat) : sub l 0 k = l.take k := by simp [sub]
theorem sub_front (M Y : List Int) (k : Nat) (h : M.length = k) : sub (M ++ Y) 0 k = M := by rw [sub_0, List.take_left' h]
theorem sub_add (l : List Int) (i a b : Nat) : sub l i (a + b) = sub l i a ++ sub l (i + a) b := by
  unfold sub
  rw [List.take_add, List.drop_drop]
theorem sub_sub (l : List Int) (i k j m : Nat) (h : j + m ≤ k) : sub (sub l i k) j m = sub l (i + j) m := by
  unfold sub
  rw [List.drop_take, List.take_take, List.drop_drop, Nat.min_eq_left (by omega)]
theorem sub_drop (l : List Int) (i j m : Nat) : sub (l.drop i) j m = sub l (i + j) m := by unfold sub; rw [List.drop_drop]
theorem sub_all (l : List Int) (i k : Nat) (h : l.length = i + k) : sub l i k = l.drop i := by
  unfold sub
  exact List.take_of_length_le (by rw [List.length_drop]; omega)
theorem getD_drop' (l : List Int) (i j : Nat) : (l.drop i).getD j 0 = l.getD (i + j) 0 := by simp [List.getD]
theorem num_four4 {l : List Int} (_hy : Byt l) (i : Nat) (h : i + 4 ≤ l.length) : num (sub l i 4) = ((l.getD i 0 * 256 + l.getD (i + 1) 0) * 256 + l.getD (i + 2) 0) * 256 + l.getD (i + 3) 0 := by
  rw [show (4 : Nat) = 1 + (1 + (1 + 1)) by rfl, sub_add, sub_add, sub_add, sub_one i (by omega), sub_one (i + 1) (by omega), sub_one (i + 1 + 1) (by omega), sub_one (i + 1 + 1 + 1) (by omega)]
  simp [num]
theorem num_three {l : List Int} (_hy : Byt l) (i : Nat) (h : i + 3 ≤ l.length) : num (sub l i 3) = (l.getD i 0 * 256 + l.getD (i + 1) 0) * 256 + l.getD (i + 2) 0 := by
  rw [show (3 : Nat) = 1 + (1 + 1) by rfl, sub_add, sub_add, sub_one i (by omega), sub_one (i + 1) (by omega), sub_one (i + 1 + 1) (by omega)]
  simp [num]
theorem num_two2 {l : List Int} (_hy : Byt l) (i : Nat) (h : i + 2 ≤ l.length) : num (sub l i 2) = l.getD i 0 * 256 + l.getD (i + 1) 0 := by
  rw [show (2 : Nat) = 1 + 1 by rfl, sub_add, sub_one i (by omega), sub_one (i + 1) (by omega)]
  simp [num]
theorem getD_be1 (x : Int) (R : List Int) : (be x 1 ++ R).getD 0 0 = x % 256 := by simp [be]

/-! ### A link -/
/-- The link at the beginning of bytes. -/
def lk0 (m : List Int) : Lk := ⟨m.getD 8 0, num (sub m 0 4), num (sub m 4 4), num (sub m 10 2)⟩
theorem lk0_ok {m : List Int} (hy : Byt m) (h : 12 ≤ m.length) : Okl (lk0 m) := ⟨num_four (sub_byt hy 0 4) (sub_len (by omega)), num_four (sub_byt hy 4 4) (sub_len (by omega))⟩
theorem elk_lk0 {m : List Int} (hy : Byt m) (h : 12 ≤ m.length) (h9 : m.getD 9 0 = 0) : elk (lk0 m) = m.take 12 := by
  have y8 := byt_getD hy 8
  have e : m.take 12 = sub m 0 4 ++ (sub m 4 4 ++ (sub m 8 1 ++ (sub m 9 1 ++ sub m 10 2))) := by
    rw [← sub_0, show (12 : Nat) = 4 + (4 + (1 + (1 + 2))) by rfl, sub_add, sub_add, sub_add, sub_add]
  rw [e, elk, lk0]
  simp only
  rw [be_sub hy 0 4 (by omega), be_sub hy 4 4 (by omega), be_sub hy 10 2 (by omega), sub_one 8 (by omega), sub_one 9 (by omega), h9, be1 _ y8.1 y8.2, be1 0 (by decide) (by decide)]
theorem lk0_elk {x : Lk} (ok : Okl x) (hm : mayk x = true) (R : List Int) : lk0 (elk x ++ R) = x := by
  obtain ⟨⟨hk0, hk1⟩, hc0, hc1⟩ := (mayk_iff x).1 hm
  have e0 : elk x ++ R = be x.i 4 ++ (be x.d 4 ++ (be x.k 1 ++ (be 0 1 ++ (be x.c 2 ++ R)))) := by simp [elk]
  have s0 : sub (elk x ++ R) 0 4 = be x.i 4 := by rw [e0]; exact sub_front _ _ 4 (be_length _ _)
  have s4 : sub (elk x ++ R) 4 4 = be x.d 4 := by rw [e0]; exact sub_mid _ _ _ 4 4 (be_length _ _) (be_length _ _)
  have s10 : sub (elk x ++ R) 10 2 = be x.c 2 := by
    rw [e0, show be x.i 4 ++ (be x.d 4 ++ (be x.k 1 ++ (be 0 1 ++ (be x.c 2 ++ R)))) = (be x.i 4 ++ (be x.d 4 ++ (be x.k 1 ++ be 0 1))) ++ (be x.c 2 ++ R) by simp]
    exact sub_mid _ _ _ 10 2 (by simp [be_length]) (be_length _ _)
  have g8 : (elk x ++ R).getD 8 0 = x.k := by
    rw [e0, show be x.i 4 ++ (be x.d 4 ++ (be x.k 1 ++ (be 0 1 ++ (be x.c 2 ++ R)))) = (be x.i 4 ++ be x.d 4) ++ (be x.k 1 ++ (be 0 1 ++ (be x.c 2 ++ R))) by simp]
    have := getD_app (X := be x.i 4 ++ be x.d 4) (Y := be x.k 1 ++ (be 0 1 ++ (be x.c 2 ++ R))) (i := 8) (j := 0) (by simp [be_length])
    rw [this, getD_be1]
    omega
  rw [lk0, s0, s4, s10, g8, num_be _ 4 ok.i.1 ok.i.2, num_be _ 4 ok.d.1 ok.d.2, num_be _ 2 hc0 (by omega)]
/-- What the reference makes of the third number. -/
theorem third {m : List Int} (hy : Byt m) (h : 12 ≤ m.length) : num (sub m 8 4) / 16777216 = m.getD 8 0 ∧ num (sub m 8 4) % 65536 = num (sub m 10 2) ∧ num (sub m 8 4) / 65536 % 256 = m.getD 9 0 := by
  rw [num_four4 hy 8 (by omega), num_two2 hy 10 (by omega)]
  simp only [Nat.reduceAdd]
  have y8 := byt_getD hy 8
  have y9 := byt_getD hy 9
  have y10 := byt_getD hy 10
  have y11 := byt_getD hy 11
  omega

/-! ### A router's body -/
def nl (l : List Int) : Nat := (num (sub l 2 2)).toNat
theorem nl_eq {l : List Int} (hy : Byt l) (h : 4 ≤ l.length) : ((nl l : Nat) : Int) = num (sub l 2 2) ∧ nl l < 65536 := by
  have := num_two (sub_byt hy 2 2) (sub_len (by omega))
  unfold nl
  omega
def rdL (l : List Int) : List Lk := (List.range (nl l)).map fun j => lk0 (l.drop (4 + j * 12))
theorem rdL_length (l : List Int) : (rdL l).length = nl l := by simp [rdL]
def rdk (l : List Int) (k : Nat) : List Lk := (List.range k).map fun j => lk0 (l.drop (4 + j * 12))
theorem rdk_succ (l : List Int) (k : Nat) : rdk l (k + 1) = rdk l k ++ [lk0 (l.drop (4 + k * 12))] := by simp [rdk, List.range_succ]
theorem rdk_length (l : List Int) (k : Nat) : (rdk l k).length = k := by simp [rdk]
theorem rdk_ok {l : List Int} (hy : Byt l) (k : Nat) (h : 4 + k * 12 ≤ l.length) : Okls (rdk l k) := by
  intro x hx
  obtain ⟨j, hj, rfl⟩ := List.mem_map.1 hx
  rw [List.mem_range] at hj
  exact lk0_ok (hy.drop _) (by rw [List.length_drop]; omega)
def shR (l : List Int) : Prop := l.length < 4 ∨ l.length < 4 + nl l * 12
instance (l : List Int) : Decidable (shR l) := by unfold shR; infer_instance
def okR (l : List Int) : Bool := mayR (l.getD 0 0) (rdL l) && decide (enR (l.getD 0 0) (rdL l) = l)
def rdRE (l : List Int) : Int := if shR l then 2 else if okR l = true then 0 else 3
def rdRF (l : List Int) : Int := if rdRE l = 0 then l.getD 0 0 else 0
def rdRL (l : List Int) : List Lk := if rdRE l = 0 then rdL l else []
theorem els_rdk {l : List Int} (hy : Byt l) : ∀ k, 4 + k * 12 ≤ l.length → (∀ j, j < k → l.getD (4 + j * 12 + 9) 0 = 0) → els (rdk l k) = sub l 4 (k * 12) := by
  intro k
  induction k with
  | zero => intro _ _; simp [rdk, els, sub]
  | succ k ih =>
    intro h h9
    have e : elk (lk0 (l.drop (4 + k * 12))) = sub l (4 + k * 12) 12 := by
      rw [elk_lk0 (hy.drop _) (by rw [List.length_drop]; omega) (by rw [getD_drop']; exact h9 k (by omega))]
      rfl
    rw [rdk_succ, els_snoc, ih (by omega) (fun j hj => h9 j (by omega)), e, Nat.succ_mul, sub_add]
theorem hdR_read {l : List Int} (hy : Byt l) (h : 4 ≤ l.length) (h1 : l.getD 1 0 = 0) : hdR (l.getD 0 0) (nl l) = l.take 4 := by
  have y0 := byt_getD hy 0
  have e : l.take 4 = sub l 0 1 ++ (sub l 1 1 ++ sub l 2 2) := by
    rw [← sub_0, show (4 : Nat) = 1 + (1 + 2) by rfl, sub_add, sub_add]
  rw [e, hdR, (nl_eq hy h).1, be_sub hy 2 2 (by omega), sub_one 0 (by omega), sub_one 1 (by omega), h1, be1 _ y0.1 y0.2, be1 0 (by decide) (by decide)]
/-- The reference's question. -/
def okQ (l : List Int) : Bool := decide (l.getD 1 0 = 0) && (decide (l.length = 4 + nl l * 12) && decide (nl l ≤ 100))
theorem okR_iff {l : List Int} (hy : Byt l) (h : ¬ shR l) : okR l = true ↔ okQ l = true ∧ (∀ j, j < nl l → l.getD (4 + j * 12 + 9) 0 = 0) ∧ mayR (l.getD 0 0) (rdL l) = true := by
  have h4 : 4 ≤ l.length := by unfold shR at h; omega
  have hl : 4 + nl l * 12 ≤ l.length := by unfold shR at h; omega
  have hrk : rdL l = rdk l (nl l) := rfl
  simp only [okR, okQ, Bool.and_eq_true, decide_eq_true_eq]
  constructor
  · rintro ⟨hm, he⟩
    have hn := ((mayR_iff _ _).1 hm).2.1
    rw [rdL_length] at hn
    have e1 := congrArg List.length he
    rw [enR_length, rdL_length] at e1
    refine ⟨⟨?_, e1.symm, hn⟩, ?_, hm⟩
    · have := congrArg (fun t => t.getD 1 0) he
      (try simp only at this)
      rw [← this, enR, hdR, rdL_length, List.append_assoc, List.append_assoc]
      have q := getD_app (X := be (l.getD 0 0) 1) (Y := be 0 1 ++ (be (nl l : Int) 2 ++ els (rdL l))) (i := 1) (j := 0) (be_length _ _)
      rw [q, getD_be1]
      rfl
    · intro j hj
      have hjl : j < (rdL l).length := by rw [rdL_length]; exact hj
      have q := congrArg (fun t => t.getD (4 + j * 12 + 9) 0) he
      (try simp only at q)
      rw [← q]
      obtain ⟨x, hx⟩ : ∃ x, (rdL l)[j] = x := ⟨_, rfl⟩
      have e2 : rdL l = (rdL l).take j ++ (x :: (rdL l).drop (j + 1)) := by rw [← hx, ← List.drop_eq_getElem_cons hjl, List.take_append_drop]
      have e3 : els (rdL l) = els ((rdL l).take j) ++ (elk x ++ els ((rdL l).drop (j + 1))) := by
        conv => lhs; rw [e2]
        simp [els]
      have e4 : enR (l.getD 0 0) (rdL l) = (hdR (l.getD 0 0) (rdL l).length ++ els ((rdL l).take j) ++ (be x.i 4 ++ (be x.d 4 ++ be x.k 1))) ++ (be 0 1 ++ (be x.c 2 ++ els ((rdL l).drop (j + 1)))) := by
        rw [enR, e3, elk]
        simp [List.append_assoc]
      have e5 : (hdR (l.getD 0 0) (rdL l).length ++ els ((rdL l).take j) ++ (be x.i 4 ++ (be x.d 4 ++ be x.k 1))).length = 4 + j * 12 + 9 := by
        simp only [List.length_append, hdR_length, els_length, be_length, List.length_take]
        omega
      have e6 := getD_app (Y := be 0 1 ++ (be x.c 2 ++ els ((rdL l).drop (j + 1)))) (j := 0) e5
      rw [e4, e6, getD_be1]
      rfl
  · rintro ⟨⟨h1, h2, h3⟩, h9, hm⟩
    refine ⟨hm, ?_⟩
    rw [enR, rdL_length, hdR_read hy h4 h1, hrk, els_rdk hy _ hl h9, sub_all l 4 _ h2, List.take_append_drop]
/-- There and back. -/
theorem dec_enR {f : Int} {L : List Lk} (ok : Okls L) (hm : mayR f L = true) : rdRE (enR f L) = 0 ∧ rdRF (enR f L) = f ∧ rdRL (enR f L) = L := by
  obtain ⟨⟨hf0, hf1⟩, hn, hk⟩ := (mayR_iff f L).1 hm
  have e0 : enR f L = be f 1 ++ (be 0 1 ++ (be (L.length : Int) 2 ++ els L)) := by simp [enR, hdR]
  have g0 : (enR f L).getD 0 0 = f := by rw [e0, getD_be1]; omega
  have g2 : sub (enR f L) 2 2 = be (L.length : Int) 2 := by
    rw [e0, show be f 1 ++ (be 0 1 ++ (be (L.length : Int) 2 ++ els L)) = (be f 1 ++ be 0 1) ++ (be (L.length : Int) 2 ++ els L) by simp]
    exact sub_mid _ _ _ 2 2 (by simp [be_length]) (be_length _ _)
  have gn : nl (enR f L) = L.length := by
    unfold nl
    rw [g2, num_be _ 2 (by omega) (by omega)]
    omega
  have gL : rdL (enR f L) = L := by
    apply List.ext_getElem
    · rw [rdL_length, gn]
    · intro j h1 h2
      have e1 : (rdL (enR f L))[j] = lk0 ((enR f L).drop (4 + j * 12)) := by simp [rdL]
      have e2 : L = L.take j ++ (L[j] :: L.drop (j + 1)) := by rw [← List.drop_eq_getElem_cons h2, List.take_append_drop]
      have e3 : enR f L = (hdR f L.length ++ els (L.take j)) ++ (elk L[j] ++ els (L.drop (j + 1))) := by
        have : els L = els (L.take j) ++ (elk L[j] ++ els (L.drop (j + 1))) := by
          conv => lhs; rw [e2, els, List.flatMap_append, List.flatMap_cons]
          rfl
        rw [enR, this, List.append_assoc]
      have e4 : (hdR f L.length ++ els (L.take j)).length = 4 + j * 12 := by
        rw [List.length_append, hdR_length, els_length, List.length_take]
        omega
      rw [e1, e3, List.drop_left' e4]
      exact lk0_elk (ok _ (List.getElem_mem h2)) (hk _ (List.getElem_mem h2)) _
  have hs : ¬ shR (enR f L) := by
    unfold shR
    rw [enR_length, gn]
    omega
  have hok : okR (enR f L) = true := by
    unfold okR
    rw [g0, gL, hm]
    simp
  have e : rdRE (enR f L) = 0 := by unfold rdRE; rw [if_neg hs, if_pos hok]
  refine ⟨e, ?_, ?_⟩
  · unfold rdRF; rw [if_pos e, g0]
  · unfold rdRL; rw [if_pos e, gL]
theorem rdRE_0 {l : List Int} (h : rdRE l = 0) : ¬ shR l ∧ okR l = true := by
  unfold rdRE at h
  by_cases h1 : shR l
  · rw [if_pos h1] at h; omega
  · rw [if_neg h1] at h
    by_cases h2 : okR l = true
    · exact ⟨h1, h2⟩
    · rw [if_neg h2] at h; omega
/-- And back. -/
theorem en_dec {l : List Int} (h : rdRE l = 0) : mayR (rdRF l) (rdRL l) = true ∧ enR (rdRF l) (rdRL l) = l := by
  have h2 := (rdRE_0 h).2
  unfold rdRF rdRL
  rw [if_pos h, if_pos h]
  simpa [okR] using h2
theorem rdRL_ok {l : List Int} (hy : Byt l) : Okls (rdRL l) := by
  unfold rdRL
  split
  · rename_i h
    exact rdk_ok hy _ (by have := (rdRE_0 h).1; unfold shR at this; omega)
  · intro x hx; cases hx
theorem rdRL_length {l : List Int} : (rdRL l).length ≤ nl l := by
  unfold rdRL
  split
  · rw [rdL_length]; omega
  · simp

/-! ### A summary -/
def rM (l : List Int) : Int := num (sub l 0 4)
def rC (l : List Int) : Int := num (sub l 5 3)
theorem rM_bd {l : List Int} (hy : Byt l) (h : 8 ≤ l.length) : 0 ≤ rM l ∧ rM l < 4294967296 := num_four (sub_byt hy 0 4) (sub_len (by omega))
theorem num_3bd {l : List Int} (hy : Byt l) (h : l.length = 3) : 0 ≤ num l ∧ num l < 16777216 := by
  have := num_bd l hy
  rw [h] at this
  simpa using this
theorem rC_bd {l : List Int} (hy : Byt l) (h : 8 ≤ l.length) : 0 ≤ rC l ∧ rC l < 16777216 := num_3bd (sub_byt hy 5 3) (sub_len (by omega))
def okS (l : List Int) : Bool := mayc (rM l) (rC l) && decide (enS (rM l) (rC l) = l)
def rdSE (l : List Int) : Int := if l.length < 8 then 2 else if okS l = true then 0 else 3
def rdSM (l : List Int) : Int := if rdSE l = 0 then rM l else 0
def rdSC (l : List Int) : Int := if rdSE l = 0 then rC l else 0
theorem okS_iff {l : List Int} (hy : Byt l) (h : 8 ≤ l.length) : okS l = true ↔ l.length = 8 ∧ l.getD 4 0 = 0 ∧ isM (rM l) = true := by
  have hc := rC_bd hy h
  simp only [okS, Bool.and_eq_true, decide_eq_true_eq]
  constructor
  · rintro ⟨hm, he⟩
    refine ⟨?_, ?_, ((mayc_iff _ _).1 hm).1⟩
    · rw [← he, enS_length]
    · have q := congrArg (fun t => t.getD 4 0) he
      (try simp only at q)
      rw [← q, enS]
      have := getD_app (X := be (rM l) 4) (Y := be 0 1 ++ be (rC l) 3) (i := 4) (j := 0) (be_length _ _)
      rw [this, getD_be1]
      rfl
  · rintro ⟨h8, h4, hm⟩
    refine ⟨(mayc_iff _ _).2 ⟨hm, hc.1, by omega⟩, ?_⟩
    have e : l = sub l 0 4 ++ (sub l 4 1 ++ sub l 5 3) := by
      rw [← sub_add, ← sub_add, sub_0]
      exact (List.take_of_length_le (by omega)).symm
    conv => rhs; rw [e]
    rw [enS, rM, rC, be_sub hy 0 4 (by omega), be_sub hy 5 3 (by omega), sub_one 4 (by omega), h4, be1 0 (by decide) (by decide)]
theorem rC_four {l : List Int} (hy : Byt l) (h : 8 ≤ l.length) : num (sub l 4 4) = l.getD 4 0 * 16777216 + rC l := by
  rw [num_four4 hy 4 (by omega), rC, num_three hy 5 (by omega)]
  simp only [Nat.reduceAdd]
  omega
theorem dec_enS {m x : Int} (hm0 : 0 ≤ m) (hm1 : m < 4294967296) (hm : mayc m x = true) : rdSE (enS m x) = 0 ∧ rdSM (enS m x) = m ∧ rdSC (enS m x) = x := by
  obtain ⟨-, hx0, hx1⟩ := (mayc_iff m x).1 hm
  have g0 : rM (enS m x) = m := by
    rw [rM, enS, sub_front _ _ 4 (be_length _ _)]
    exact num_be _ 4 hm0 hm1
  have g5 : rC (enS m x) = x := by
    rw [rC, enS, show be m 4 ++ (be 0 1 ++ be x 3) = (be m 4 ++ be 0 1) ++ (be x 3 ++ []) by simp, sub_mid _ _ _ 5 3 (by simp [be_length]) (be_length _ _)]
    exact num_be _ 3 hx0 (by omega)
  have hok : okS (enS m x) = true := by unfold okS; rw [g0, g5, hm]; simp
  have e : rdSE (enS m x) = 0 := by unfold rdSE; rw [if_neg (by rw [enS_length]; omega), if_pos hok]
  refine ⟨e, ?_, ?_⟩
  · unfold rdSM; rw [if_pos e, g0]
  · unfold rdSC; rw [if_pos e, g5]
theorem rdSE_0 {l : List Int} (h : rdSE l = 0) : 8 ≤ l.length ∧ okS l = true := by
  unfold rdSE at h
  by_cases h1 : l.length < 8
  · rw [if_pos h1] at h; omega
  · rw [if_neg h1] at h
    by_cases h2 : okS l = true
    · exact ⟨by omega, h2⟩
    · rw [if_neg h2] at h; omega
theorem en_decS {l : List Int} (h : rdSE l = 0) : mayc (rdSM l) (rdSC l) = true ∧ enS (rdSM l) (rdSC l) = l := by
  have h2 := (rdSE_0 h).2
  unfold rdSM rdSC
  rw [if_pos h, if_pos h]
  simpa [okS] using h2
theorem rdSM_bd {l : List Int} (hy : Byt l) : 0 ≤ rdSM l ∧ rdSM l < 4294967296 := by
  unfold rdSM
  split
  · rename_i h
    exact rM_bd hy (rdSE_0 h).1
  · omega

/-! ### An external body -/
def rX (l : List Int) : Xb := ⟨rM l, decide (l.getD 4 0 = 128), rC l, num (sub l 8 4), num (sub l 12 4)⟩
def zX : Xb := ⟨0, false, 0, 0, 0⟩
theorem rX_ok {l : List Int} (hy : Byt l) (h : 16 ≤ l.length) : Okx (rX l) := ⟨rM_bd hy (by omega), num_four (sub_byt hy 8 4) (sub_len (by omega)), num_four (sub_byt hy 12 4) (sub_len (by omega))⟩
theorem zX_ok : Okx zX := ⟨by decide, by decide, by decide⟩
def okX (l : List Int) : Bool := mayc (rM l) (rC l) && decide (enX (rX l) = l)
def rdXE (l : List Int) : Int := if l.length < 16 then 2 else if okX l = true then 0 else 3
def rdX (l : List Int) : Xb := if rdXE l = 0 then rX l else zX
theorem okX_iff {l : List Int} (hy : Byt l) (h : 16 ≤ l.length) : okX l = true ↔ l.length = 16 ∧ (l.getD 4 0 = 0 ∨ l.getD 4 0 = 128) ∧ isM (rM l) = true := by
  have hc := rC_bd hy (by omega)
  simp only [okX, Bool.and_eq_true, decide_eq_true_eq]
  constructor
  · rintro ⟨hm, he⟩
    refine ⟨?_, ?_, ((mayc_iff _ _).1 hm).1⟩
    · rw [← he, enX_length]
    · have q := congrArg (fun t => t.getD 4 0) he
      (try simp only at q)
      rw [← q, enX]
      have := getD_app (X := be (rX l).m 4) (Y := be (sec (rX l).s) 1 ++ (be (rX l).c 3 ++ flat 4 [(rX l).f, (rX l).t])) (i := 4) (j := 0) (be_length _ _)
      rw [this, getD_be1]
      cases (rX l).s <;> simp [sec]
  · rintro ⟨h16, h4, hm⟩
    refine ⟨(mayc_iff _ _).2 ⟨hm, hc.1, by omega⟩, ?_⟩
    have e : l = sub l 0 4 ++ (sub l 4 1 ++ (sub l 5 3 ++ (sub l 8 4 ++ sub l 12 4))) := by
      rw [← sub_add, ← sub_add, ← sub_add, ← sub_add, sub_0]
      exact (List.take_of_length_le (by omega)).symm
    have es : be (sec (decide (l.getD 4 0 = 128))) 1 = sub l 4 1 := by
      rw [sub_one 4 (by omega)]
      rcases h4 with q | q <;> rw [q] <;> rfl
    conv => rhs; rw [e]
    rw [enX, rX]
    simp only [flat_cons]
    rw [es, rM, rC, be_sub hy 0 4 (by omega), be_sub hy 5 3 (by omega), be_sub hy 8 4 (by omega), be_sub hy 12 4 (by omega)]
    simp [flat]
theorem dec_enX {x : Xb} (ok : Okx x) (hm : mayc x.m x.c = true) : rdXE (enX x) = 0 ∧ rdX (enX x) = x := by
  obtain ⟨-, hx0, hx1⟩ := (mayc_iff x.m x.c).1 hm
  have hs := sec_bd x.s
  have e0 : enX x = be x.m 4 ++ (be (sec x.s) 1 ++ (be x.c 3 ++ (be x.f 4 ++ (be x.t 4 ++ [])))) := by simp [enX, flat]
  have g0 : rM (enX x) = x.m := by
    rw [rM, e0, sub_front _ _ 4 (be_length _ _)]
    exact num_be _ 4 ok.m.1 ok.m.2
  have g4 : (enX x).getD 4 0 = sec x.s := by
    rw [e0]
    have := getD_app (X := be x.m 4) (Y := be (sec x.s) 1 ++ (be x.c 3 ++ (be x.f 4 ++ (be x.t 4 ++ [])))) (i := 4) (j := 0) (be_length _ _)
    rw [this, getD_be1]
    omega
  have g5 : rC (enX x) = x.c := by
    rw [rC, e0, ← List.append_assoc, sub_mid _ _ _ 5 3 (by simp [be_length]) (be_length _ _)]
    exact num_be _ 3 hx0 (by omega)
  have g8 : num (sub (enX x) 8 4) = x.f := by
    rw [e0, show be x.m 4 ++ (be (sec x.s) 1 ++ (be x.c 3 ++ (be x.f 4 ++ (be x.t 4 ++ [])))) = (be x.m 4 ++ (be (sec x.s) 1 ++ be x.c 3)) ++ (be x.f 4 ++ (be x.t 4 ++ [])) by simp, sub_mid _ _ _ 8 4 (by simp [be_length]) (be_length _ _)]
    exact num_be _ 4 ok.f.1 ok.f.2
  have g12 : num (sub (enX x) 12 4) = x.t := by
    rw [e0, show be x.m 4 ++ (be (sec x.s) 1 ++ (be x.c 3 ++ (be x.f 4 ++ (be x.t 4 ++ [])))) = (be x.m 4 ++ (be (sec x.s) 1 ++ (be x.c 3 ++ be x.f 4))) ++ (be x.t 4 ++ []) by simp, sub_mid _ _ _ 12 4 (by simp [be_length]) (be_length _ _)]
    exact num_be _ 4 ok.t.1 ok.t.2
  have gs : decide (sec x.s = 128) = x.s := by cases x.s <;> rfl
  have hX : rX (enX x) = x := by rw [rX, g0, g4, g5, g8, g12, gs]
  have hok : okX (enX x) = true := by unfold okX; rw [g0, g5, hX, hm]; simp
  have e : rdXE (enX x) = 0 := by unfold rdXE; rw [if_neg (by rw [enX_length]; omega), if_pos hok]
  exact ⟨e, by unfold rdX; rw [if_pos e, hX]⟩
theorem rdXE_0 {l : List Int} (h : rdXE l = 0) : 16 ≤ l.length ∧ okX l = true := by
  unfold rdXE at h
  by_cases h1 : l.length < 16
  · rw [if_pos h1] at h; omega
  · rw [if_neg h1] at h
    by_cases h2 : okX l = true
    · exact ⟨by omega, h2⟩
    · rw [if_neg h2] at h; omega
theorem en_decX {l : List Int} (h : rdXE l = 0) : mayc (rdX l).m (rdX l).c = true ∧ enX (rdX l) = l := by
  have h2 := (rdXE_0 h).2
  unfold rdX
  rw [if_pos h]
  simpa [okX, rX] using h2
theorem rdX_ok {l : List Int} (hy : Byt l) : Okx (rdX l) := by
  unfold rdX
  split
  · rename_i h
    exact rX_ok hy (rdXE_0 h).1
  · exact zX_ok

/-! ### A network's body -/
def cN (l : List Int) : Nat := (l.length - 4) / 4
def rN (l : List Int) : List Int := nums 4 (cN l) (l.drop 4)
def shN (l : List Int) : Prop := l.length ≤ 4 ∨ (l.length - 4) % 4 ≠ 0
instance (l : List Int) : Decidable (shN l) := by unfold shN; infer_instance
def okN (l : List Int) : Bool := mayN (rM l) (rN l) && decide (enN (rM l) (rN l) = l)
def rdNE (l : List Int) : Int := if shN l then 2 else if okN l = true then 0 else 3
def rdNM (l : List Int) : Int := if rdNE l = 0 then rM l else 0
def rdNL (l : List Int) : List Int := if rdNE l = 0 then rN l else []
theorem rN_length (l : List Int) : (rN l).length = cN l := nums_length _ _ _
theorem rN_wrd {l : List Int} (hy : Byt l) : Wrd (rN l) := nums_wrd (hy.drop 4) _ (by rw [List.length_drop]; unfold cN; omega)
theorem rM_bd4 {l : List Int} (hy : Byt l) (h : 4 ≤ l.length) : 0 ≤ rM l ∧ rM l < 4294967296 := num_four (sub_byt hy 0 4) (sub_len (by omega))
theorem okN_iff {l : List Int} (hy : Byt l) (h : ¬ shN l) : okN l = true ↔ isM (rM l) = true ∧ cN l ≤ 200 := by
  unfold shN at h
  have hc : 1 ≤ cN l ∧ l.length = 4 + cN l * 4 := by unfold cN; omega
  have e : enN (rM l) (rN l) = l := by
    rw [enN, rM, be_sub hy 0 4 (by omega), rN, flat_nums _ _ _ (hy.drop 4) (by rw [List.length_drop]; omega), List.take_of_length_le (by rw [List.length_drop]; omega), sub_0, List.take_append_drop]
  simp only [okN, Bool.and_eq_true, decide_eq_true_eq, mayN_iff, rN_length]
  constructor
  · rintro ⟨⟨h1, _, h3⟩, _⟩; exact ⟨h1, h3⟩
  · rintro ⟨h1, h3⟩; exact ⟨⟨h1, hc.1, h3⟩, e⟩
end Go.Proofs.Ytadcicmccdphkaa
