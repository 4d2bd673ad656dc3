/-
  The walk of the law OctetCuts: for every input it returns true and writes nothing that was there before. No conditions.
-/
import Derived.Test.YtmljcjpmekildaaBack
import Derived.Test.YtmljcjpmekildaaRefA
namespace Go.Proofs.Ytmljcjpmekildaa
open Go.RowKit

theorem flat_cons (k : Nat) (x : Int) (l : List Int) : flat k (x :: l) = be x k ++ flat k l := by simp [flat]
theorem flat_byt (k : Nat) (l : List Int) : Byt (flat k l) := by
  intro x hx
  simp only [flat, List.mem_flatten, List.mem_map] at hx
  obtain ⟨_, ⟨y, _, rfl⟩, hx⟩ := hx
  exact be_byt _ _ x hx
theorem flat_drop (k : Nat) (l : List Int) (q : Nat) : (flat k l).drop (q * k) = flat k (l.drop q) := by
  induction q generalizing l with
  | zero => simp
  | succ q ih =>
    cases l with
    | nil => simp [flat]
    | cons x l =>
      rw [flat_cons, Nat.succ_mul, Nat.add_comm, ← List.drop_drop, List.drop_append]
      simp only [be_length, List.drop_eq_nil_of_le (show (be x k).length ≤ k by rw [be_length]; exact Nat.le_refl _), Nat.sub_self, List.drop_zero, List.nil_append]
      rw [ih]; rfl
theorem nums_flat (k q : Nat) (l : List Int) (hl : ∀ x ∈ l, 0 ≤ x ∧ x < 256 ^ k) (hq : q ≤ l.length) : nums k q (flat k l) = l.take q := by
  induction q with
  | zero => simp [nums]
  | succ q ih =>
    rw [nums, ih (by omega), flat_drop, List.take_succ_eq_append_getElem (by omega)]
    have hx := hl l[q] (List.getElem_mem (by omega))
    have ht : (be l[q] k ++ flat k (l.drop (q + 1))).take k = be l[q] k := by
      have := List.take_left (l₁ := be l[q] k) (l₂ := flat k (l.drop (q + 1)))
      rwa [be_length] at this
    rw [List.drop_eq_getElem_cons (by omega), flat_cons, ht, num_be _ _ hx.1 hx.2]
theorem row4 (l : List Int) (hy : Wrd l) : rowE l 4 = 0 ∧ rowL l 4 = flat 4 l := by
  have e1 : rowE l 4 = 0 := rowE_fits (by decide) (by decide) (fun x hx => by have := (hy x hx).2; show x < 256 ^ 4; omega)
  exact ⟨e1, by simp only [rowL, e1, if_true]; rfl⟩
theorem rows4 (l : List Int) (hy : Wrd l) : rowsE (flat 4 l) 4 = 0 ∧ rowsL (flat 4 l) 4 = l := by
  have e1 : rowsE (flat 4 l) 4 = 0 := by
    have : (((flat 4 l).length : Int) % 4 != 0) = false := by rw [flat_length]; simp
    unfold rowsE; rw [if_neg (by decide), this]; rfl
  refine ⟨e1, ?_⟩
  simp only [rowsL, e1, if_true]
  show nums 4 ((flat 4 l).length / 4) (flat 4 l) = l
  rw [flat_length, Nat.mul_div_cancel _ (by decide), nums_flat 4 _ l (fun x hx => by have := hy x hx; show _ ∧ x < 256 ^ 4; omega) (Nat.le_refl _), List.take_of_length_le (Nat.le_refl _)]
theorem row_four (A : Option Addr) (c : Nat) (l : List Int) (B : Nat) (w : World) (hb : Bs .u32 w B A l) (hy : Wrd l) (hB : B ≤ w.heap.size) (hl : l.length ≤ 100) :
    Calls Try.prog 15 #[.slice A l.length c, .int .i64 4] w fun e w' => ∃ A' c' R, Hid (R = flat 4 l) ∧ e = .returned (.tuple #[.slice A' R.length c', .int .i64 0]) ∧ Own .u8 5 w' w.heap.size A' c' R ∧ Below w.heap.size w w' := by
  have h := row_any A c l B 4 w hb hy hB (by omega)
  rw [(row4 l hy).1, (row4 l hy).2] at h
  exact h.mono fun e w' ⟨A', c', h1, h2, h3⟩ => ⟨A', c', _, rfl, h1, h2, h3⟩
theorem rows_four (A : Option Addr) (c : Nat) (R l : List Int) (B : Nat) (w : World) (hR : R = flat 4 l) (hb : Bs .u8 w B A R) (hc : R.length ≤ c) (hy : Wrd l) (hB : B ≤ w.heap.size) (hl : l.length ≤ 100) :
    Calls Try.prog 17 #[.slice A R.length c, .int .i64 4] w fun e w' => ∃ A' c', e = .returned (.tuple #[.slice A' l.length c', .int .i64 0]) ∧ Own .u32 23 w' w.heap.size A' c' l ∧ Below w.heap.size w w' := by
  have h := rows_any A c R B 4 w hb (by rw [hR]; exact flat_byt _ _) hc hB (by rw [hR, flat_length]; omega)
  rw [hR, (rows4 l hy).1, (rows4 l hy).2, ← hR] at h
  exact h

theorem cut_bad (A : Option Addr) (c : Nat) (l : List Int) (B : Nat) (m : Int) (w : World) (hb : Bs .u8 w B A l) (hc : l.length ≤ c) (hB : B ≤ w.heap.size) (hl : l.length ≤ 100000) (hm : m < 0 ∨ (l.length : Int) < m) :
    Calls Try.prog 13 #[.slice A l.length c, .int .i64 m] w fun e w' => ∃ A1 c1 A2 c2 E, (E == 0) = false ∧ e = .returned (.tuple #[.slice A1 0 c1, .slice A2 0 c2, .int .i64 E]) ∧ Below w.heap.size w w' := by
  have h := cut_any A c l B m w hb hc hB hl
  have e1 : ¬ cutE l m = 0 := by
    rcases hm with hm | hm
    · simp [cutE, hm]
    · by_cases h0 : m < 0 <;> simp [cutE, hm, h0]
  have e2 : cutL l m = [] := by simp [cutL, e1]
  have e3 : cutF l m = [] := by simp [cutF, e1]
  rw [e2, e3] at h
  exact h.mono fun e w' ⟨A1, c1, A2, c2, h1, _, _, h3⟩ => ⟨A1, c1, A2, c2, cutE l m, by simpa using e1, h1, h3⟩
theorem cut_good (A : Option Addr) (c : Nat) (l : List Int) (B : Nat) (m : Int) (w : World) (hb : Bs .u8 w B A l) (hc : l.length ≤ c) (hB : B ≤ w.heap.size) (hl : l.length ≤ 100000) (h0 : 0 ≤ m) (hm : m ≤ (l.length : Int)) :
    Calls Try.prog 13 #[.slice A l.length c, .int .i64 m] w fun e w' => ∃ A1 c1 A2 c2 F R, Hid (F = l.take m.toNat ∧ R = l.drop m.toNat) ∧ e = .returned (.tuple #[.slice A1 F.length c1, .slice A2 R.length c2, .int .i64 0]) ∧ Own .u8 5 w' w.heap.size A1 c1 F ∧ Own .u8 5 w' w.heap.size A2 c2 R ∧ Below w.heap.size w w' := by
  have h := cut_any A c l B m w hb hc hB hl
  have e1 : cutE l m = 0 := by unfold cutE; rw [if_neg (by omega), if_neg (by omega)]
  rw [e1] at h
  exact h.mono fun e w' ⟨A1, c1, A2, c2, h1, h2, h3, h4⟩ => ⟨A1, c1, A2, c2, cutF l m, cutL l m, ⟨by simp [cutF, e1], by simp [cutL, e1]⟩, h1, h2, h3, h4⟩

theorem str_cat (a b : List Int) : strOfNums a ++ strOfNums b = strOfNums (a ++ b) := by
  apply ByteArray.ext
  simp [strOfNums, ByteArray.data_append]

set_option maxHeartbeats 2000000 in
theorem cuts_walk (A : Option Addr) (c : Nat) (l : List Int) (n : Int) (A2 : Option Addr) (c2 : Nat) (q : List Int) (w : World) (hb : Bs .u8 w w.heap.size A l) (hc : l.length ≤ c) (hq : Bs .u32 w w.heap.size A2 q) (hyq : Wrd q) :
    Calls Try.prog 7 #[.slice A l.length c, .int .i64 n, .slice A2 q.length c2] w fun e w' => e = .returned (.bool true) ∧ Below w.heap.size w w' := by
  by_cases hl : 300 < l.length
  · go_enter Try.func7, Try.ntmps7
    go_wp2_with (go_at_call 8; refine (alive_any _).mono ?_; rintro e w' ⟨rfl, hB⟩)
    go_ret
    exact ⟨rfl, hB⟩
  have hl' : l.length ≤ 300 := by omega
  by_cases hl2 : 100 < q.length
  · go_enter Try.func7, Try.ntmps7
    go_wp2_with (go_at_call 8; refine (alive_any _).mono ?_; rintro e w' ⟨rfl, hB⟩)
    go_ret
    exact ⟨rfl, hB⟩
  have hl2' : q.length ≤ 100 := by omega
  by_cases hm : n < 0 ∨ (l.length : Int) < n
  · have HM := Lib.hid hm
    rcases hm with hm | hm
    all_goals
      go_enter Try.func7, Try.ntmps7
      go_wp2_with fail
      refine (cut_bad A c l w.heap.size n w hb hc (Nat.le_refl _) (by omega) HM.out).mono ?_
      rintro e w1 ⟨A3, c3, A4, c4, E, hE, rfl, hB1⟩
      go_wp2_with fail
      refine (row_four A2 c2 q w.heap.size w1 (hq.below hB1) hyq hB1.size (by omega)).mono ?_
      rintro e w2 ⟨A5, c5, R, hR, rfl, hO2, hB2⟩
      go_wp2_with fail
      refine (rows_four A5 c5 R q w2.heap.size w2 hR.out hO2.bs hO2.cap_le hyq (Nat.le_refl _) (by omega)).mono ?_
      rintro e w3 ⟨A6, c6, rfl, hO3, hB3⟩
      have hs1 := hB1.size
      have hs2 := hB2.size
      have hs3 := hB3.size
      have HB : Hid (Below w.heap.size w w3) := (hB1.trans (hB2.mono (by omega))).trans (hB3.mono (by omega))
      clear hB1 hB2 hB3 hO2 hO3
      go_wp2_with (go_at_call 8; refine (alive_any _).mono ?_; rintro e w4 ⟨rfl, hB4⟩)
      go_ret
      exact ⟨rfl, HB.out.trans (hB4.mono HB.out.size)⟩
  · have h0 : 0 ≤ n := by omega
    have hnl : n ≤ (l.length : Int) := by omega
    clear hm
    go_enter Try.func7, Try.ntmps7
    go_wp2_with fail
    refine (cut_good A c l w.heap.size n w hb hc (Nat.le_refl _) (by omega) h0 hnl).mono ?_
    rintro e w1 ⟨A3, c3, A4, c4, F, T, hFT, rfl, hOF, hOT, hB1⟩
    go_wp2_with fail
    refine (row_four A2 c2 q w.heap.size w1 (hq.below hB1) hyq hB1.size (by omega)).mono ?_
    rintro e w2 ⟨A5, c5, R, hR, rfl, hO2, hB2⟩
    go_wp2_with fail
    refine (rows_four A5 c5 R q w2.heap.size w2 hR.out hO2.bs hO2.cap_le hyq (Nat.le_refl _) (by omega)).mono ?_
    rintro e w3 ⟨A6, c6, rfl, hO3, hB3⟩
    go_wp2_with fail
    refine (alive_any _).mono ?_
    rintro e w4 ⟨rfl, hB4⟩
    have hs1 := hB1.size
    have hs2 := hB2.size
    have hs3 := hB3.size
    have hs4 := hB4.size
    have hB24 : Below w1.heap.size w1 w4 := (hB2.trans (hB3.mono (by omega))).trans (hB4.mono (by omega))
    have HB : Hid (Below w.heap.size w w4) := hB1.trans (hB24.mono hs1)
    have hF4 := hOF.below hB24 (Nat.le_refl _)
    have hT4 := hOT.below hB24 (Nat.le_refl _)
    have h64 := hO3.below hB4 (Nat.le_refl _)
    have hq4 := (hq.below HB.out).more (show w.heap.size ≤ w4.heap.size by omega)
    have hsF : (convert 22 9 (.slice A3 F.length c3)).run Try.prog w4 = .ok (.string (strOfNums F)) w4 := run_str w4 22 5 9 Try.underlying22 Try.underlying5 Try.underlying9 _ A3 c3 F hF4.bs
    have hsT : (convert 22 9 (.slice A4 T.length c4)).run Try.prog w4 = .ok (.string (strOfNums T)) w4 := run_str w4 22 5 9 Try.underlying22 Try.underlying5 Try.underlying9 _ A4 c4 T hT4.bs
    have hsl : (convert 22 9 (.slice A l.length c)).run Try.prog w4 = .ok (.string (strOfNums l)) w4 := run_str w4 22 5 9 Try.underlying22 Try.underlying5 Try.underlying9 _ A c l (hb.below HB.out)
    have hFl : ((F.length : Int) == n) = true := by rw [hFT.out.1, List.length_take]; simp; omega
    have hRl : ((R.length : Int) == 4 * (q.length : Int)) = true := by rw [hR.out, flat_length]; simp; omega
    have hFn : F.length ≤ 300 := by rw [hFT.out.1, List.length_take]; omega
    have hTn : T.length ≤ 300 := by rw [hFT.out.2, List.length_drop]; omega
    have hSz : ¬ 9223372036854775807 < (strOfNums F).size + (strOfNums T).size := by rw [strOfNums_size, strOfNums_size]; omega
    have hcat : (strOfNums F ++ strOfNums T).toList = (strOfNums l).toList := by rw [str_cat, hFT.out.1, hFT.out.2, List.take_append_drop]
    clear hB1 hB2 hB3 hO2 hO3 hB24 hOF hOT hF4 hT4 hB4
    go_wp2_with (go_at_call 19; refine (same_n _ _ _ _ _ _ q _ rfl rfl h64.bs hq4 (by omega)).mono ?_; rintro e w5 ⟨rfl, hB5⟩)
    go_ret
    exact ⟨rfl, HB.out.trans (hB5.mono (by omega))⟩
end Go.Proofs.Ytmljcjpmekildaa
