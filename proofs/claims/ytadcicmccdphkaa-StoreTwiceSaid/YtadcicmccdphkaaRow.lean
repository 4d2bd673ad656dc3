/-
  Contracts of package octet's Row and Rows. No statement is proved here.
-/
import Derived.Test.YtadcicmccdphkaaLeaf
namespace Go.Proofs.Ytadcicmccdphkaa
open Go.RowKit

theorem num_n' (A : Option Addr) (n c : Nat) (l : List Int) (B : Nat) (w : World) (hn : n = l.length) (hb : Bs .u8 w B A l) (hl : l.length ≤ 4) (hy : Byt l) :
    Calls Try.prog 76 #[.slice A n c] w fun e w' => e = .returned (.int .u32 (num l)) ∧ w = w' := by subst hn; exact num_any A c l B w hb hl hy

/-! ### Row -/
/-- The numbers, one behind the other, each in k bytes. -/
def flat (k : Nat) (l : List Int) : List Int := (l.map fun x => be x k).flatten
theorem flat_snoc (k : Nat) (l : List Int) (x : Int) : flat k (l ++ [x]) = flat k l ++ be x k := by simp [flat]
theorem flat_length (k : Nat) (l : List Int) : (flat k l).length = l.length * k := by
  induction l with
  | nil => simp [flat]
  | cons x l ih =>
    have : flat k (x :: l) = be x k ++ flat k l := by simp [flat]
    rw [this, List.length_append, ih, be_length, List.length_cons, Nat.succ_mul, Nat.add_comm]
def rowE (l : List Int) (m : Int) : Int := if m < 1 ∨ 4 < m then 1 else if l.any (fun x => decide (256 ^ m.toNat ≤ x)) = true then 5 else 0
def rowL (l : List Int) (m : Int) : List Int := if rowE l m = 0 then flat m.toNat l else []
theorem rowE_large {l : List Int} {m : Int} (h1 : 1 ≤ m) (h2 : m ≤ 4) (j : Nat) (hj : j < l.length) (hx : 256 ^ m.toNat ≤ l[j]) : rowE l m = 5 := by
  have hm : ¬ (m < 1 ∨ 4 < m) := by omega
  have : l.any (fun x => decide (256 ^ m.toNat ≤ x)) = true := List.any_eq_true.2 ⟨l[j], List.getElem_mem hj, by simpa using hx⟩
  unfold rowE; rw [if_neg hm, if_pos this]
theorem rowE_fits {l : List Int} {m : Int} (h1 : 1 ≤ m) (h2 : m ≤ 4) (h : ∀ x ∈ l, x < 256 ^ m.toNat) : rowE l m = 0 := by
  have hm : ¬ (m < 1 ∨ 4 < m) := by omega
  have : ¬ (l.any (fun x => decide (256 ^ m.toNat ≤ x)) = true) := by
    rw [List.any_eq_true]; rintro ⟨x, hx, hd⟩
    have := h x hx; have := of_decide_eq_true hd; omega
  unfold rowE; rw [if_neg hm, if_neg this]
theorem forall_snoc {p : Int → Prop} {l : List Int} {j : Nat} (hj : j < l.length) (h : ∀ x ∈ l.take j, p x) (hx : p l[j]) : ∀ x ∈ l.take (j + 1), p x := by
  intro x hm
  rw [List.take_succ_eq_append_getElem hj] at hm
  rcases List.mem_append.1 hm with hm | hm
  · exact h x hm
  · simp at hm; subst hm; exact hx

set_option maxHeartbeats 1000000 in
theorem row_any (A : Option Addr) (c : Nat) (l : List Int) (B : Nat) (m : Int) (w : World) (hb : Bs .u32 w B A l) (hy : Wrd l) (hB : B ≤ w.heap.size) (hl : l.length ≤ 10000) :
    Calls Try.prog 93 #[.slice A l.length c, .int .i64 m] w fun e w' => ∃ A' c', e = .returned (.tuple #[.slice A' (rowL l m).length c', .int .i64 (rowE l m)]) ∧ Own .u8 5 w' w.heap.size A' c' (rowL l m) ∧ Below w.heap.size w w' := by
  by_cases hm : m < 1 ∨ 4 < m
  · have e1 : rowE l m = 1 := by unfold rowE; rw [if_pos hm]
    have e2 : rowL l m = [] := by simp [rowL, e1]
    rw [e1, e2]
    have HM := Lib.hid hm
    clear hm e1 e2
    go_enter Try.func93, Try.ntmps93
    go_wp2_with (go_at_call 75; refine (isWidth_no _ _ HM.out).mono ?_; rintro e w' ⟨rfl, rfl⟩)
    go_ret2
    exact ⟨none, 0, rfl, Own.nil _ _, Below.refl _ _⟩
  · have h1 : 1 ≤ m := by omega
    have h2 : m ≤ 4 := by omega
    have hpn : l.length * m.toNat ≤ 40000 := Nat.le_trans (Nat.mul_le_mul hl (show m.toNat ≤ 4 by omega)) (by omega)
    have hpe : (l.length : Int) * m = ((l.length * m.toNat : Nat) : Int) := by rw [Int.natCast_mul, Int.toNat_of_nonneg (by omega)]
    have hp0 : 0 ≤ (l.length : Int) * m := by omega
    have hp1 : (l.length : Int) * m ≤ 40000 := by omega
    obtain ⟨i0, hi, hz0, hz1, hz2⟩ := info_parts info5
    obtain ⟨z, w1, hz, hmk, hO, hB1⟩ := mk_own (P := Try.prog) w 32 5 .u8 i0 Try.underlying32 hi hz0 hz1 .i64 .i64 0 (l.length * m) 0 (l.length * m.toNat) rfl hpe (by omega) (by rw [hz2]; omega) (by unfold maxLen; omega)
    obtain rfl := List.eq_nil_of_length_eq_zero hz
    clear hpe hz hm
    go_enter Try.func93, Try.ntmps93
    go_wp2_with (go_at_call 75; refine (isWidth_yes _ _ h1 h2).mono ?_; rintro e w' ⟨rfl, rfl⟩)
    go_loopw [6, 19] (fun v i wr => ∃ (j : Nat) (A' : Option Addr) (c' : Nat) (L : List Int), j ≤ l.length ∧ i = .int .i64 (j : Int) ∧ v = .slice A' L.length c' ∧ Hid (L = flat m.toNat (l.take j) ∧ ∀ x ∈ l.take j, x < 256 ^ m.toNat) ∧ Own .u8 5 wr w.heap.size A' c' L ∧ Below w.heap.size w wr) (fun _ i _ => l.length - (intOf i).toNat)
    case atStart => exact ⟨0, _, _, [], Nat.zero_le _, rfl, rfl, ⟨rfl, by simp⟩, hO, hB1⟩
    case round =>
      obtain ⟨j, A', c', L, hj, rfl, rfl, hL, ho', hbw⟩ := hrel
      by_cases hlt : j < l.length
      · obtain ⟨b, off, rfl, hbB, hc0⟩ := hb.at_ hlt
        have hc1 := (hbw.cell (p := ⟨b, off + j, none⟩) (by show b < _; omega)).trans hc0
        have hx := hy l[j] (List.getElem_mem hlt)
        obtain ⟨hx0, hx1⟩ := hx
        have hLl : L.length ≤ 40000 := by
          rw [hL.out.1, flat_length, List.length_take]
          exact Nat.le_trans (Nat.mul_le_mul (Nat.le_trans (Nat.min_le_right _ _) hl) (show m.toNat ≤ 4 by omega)) (by omega)
        have hsz := hbw.size
        clear hc0 hpn hp0 hp1 hmk
        by_cases hf : 256 ^ m.toNat ≤ l[j]
        · have HF := Lib.hid hf
          clear hf
          go_wp2_with (go_at_call 94; refine (fits_no _ _ _ h1 h2 hx0 hx1 HF.out).mono ?_; rintro e w' ⟨rfl, rfl⟩)
          go_ret2
          have e1 := rowE_large h1 h2 j hlt HF.out
          have e2 : rowL l m = [] := by simp [rowL, e1]
          rw [e1, e2]
          exact ⟨none, 0, rfl, Own.nil _ _, hbw⟩
        · have hf' : l[j] < 256 ^ m.toNat := by omega
          have HF := Lib.hid hf'
          clear hf hf'
          go_wp2_with (first | (go_at_call 94; refine (fits_yes _ _ _ h1 h2 hx0 hx1 HF.out).mono ?_; rintro e w' ⟨rfl, rfl⟩) | (go_at_call 95; refine (app_any _ _ L w.heap.size _ m wr ho' h1 h2 hx0 hx1 ?_ ?_).mono ?_; omega; omega; rintro e w3 ⟨A3, c3, L3, hL3, rfl, hO3, hB3⟩))
          go_roundw
          case rel => exact ⟨j + 1, A3, c3, L3, by omega, by go_num, rfl, ⟨by rw [hL3.out, hL.out.1, List.take_succ_eq_append_getElem hlt, flat_snoc], forall_snoc hlt hL.out.2 HF.out⟩, hO3, hbw.trans hB3⟩
          case measure => simp [intOf]; omega
      · clear hmk hp0 hp1 hpn
        have ht : l.take j = l := List.take_of_length_le (by omega)
        have HL : Hid (L = flat m.toNat l ∧ ∀ x ∈ l, x < 256 ^ m.toNat) := by have := hL.out; rw [ht] at this; exact this
        clear ht
        go_wp2
        go_ret2
        have e1 := rowE_fits h1 h2 HL.out.2
        have e2 : rowL l m = L := by rw [HL.out.1]; simp [rowL, e1]
        rw [e1, e2]
        exact ⟨_, _, rfl, ho', hbw⟩

/-! ### Rows -/
/-- The first q numbers of k bytes each. -/
def nums (k : Nat) : Nat → List Int → List Int
  | 0, _ => []
  | q + 1, l => nums k q l ++ [num ((l.drop (q * k)).take k)]
theorem nums_length (k q : Nat) (l : List Int) : (nums k q l).length = q := by
  induction q with
  | zero => rfl
  | succ q ih => simp [nums, ih]
def rowsE (l : List Int) (m : Int) : Int := if m < 1 ∨ 4 < m then 1 else if ((l.length : Int) % m != 0) = true then 2 else 0
def rowsL (l : List Int) (m : Int) : List Int := if rowsE l m = 0 then nums m.toNat (l.length / m.toNat) l else []
set_option maxHeartbeats 1000000 in
theorem rows_any (A : Option Addr) (c : Nat) (l : List Int) (B : Nat) (m : Int) (w : World) (hb : Bs .u8 w B A l) (hy : Byt l) (hc : l.length ≤ c) (hB : B ≤ w.heap.size) (hl : l.length ≤ 100000) :
    Calls Try.prog 62 #[.slice A l.length c, .int .i64 m] w fun e w' => ∃ A' c', e = .returned (.tuple #[.slice A' (rowsL l m).length c', .int .i64 (rowsE l m)]) ∧ Own .u32 29 w' w.heap.size A' c' (rowsL l m) ∧ Below w.heap.size w w' := by
  by_cases hm : m < 1 ∨ 4 < m
  · have e1 : rowsE l m = 1 := by unfold rowsE; rw [if_pos hm]
    have e2 : rowsL l m = [] := by simp [rowsL, e1]
    rw [e1, e2]
    have HM := Lib.hid hm
    clear hm e1 e2
    go_enter Try.func62, Try.ntmps62
    go_wp2_with (go_at_call 75; refine (isWidth_no _ _ HM.out).mono ?_; rintro e w' ⟨rfl, rfl⟩)
    go_ret2
    exact ⟨none, 0, rfl, Own.nil _ _, Below.refl _ _⟩
  · have h1 : 1 ≤ m := by omega
    have h2 : m ≤ 4 := by omega
    by_cases hd : ((l.length : Int) % m != 0) = true
    · have e1 : rowsE l m = 2 := by unfold rowsE; rw [if_neg hm, if_pos hd]
      have e2 : rowsL l m = [] := by simp [rowsL, e1]
      rw [e1, e2]
      clear hm e1 e2
      go_enter Try.func62, Try.ntmps62
      go_wp2_with (go_at_call 75; refine (isWidth_yes _ _ h1 h2).mono ?_; rintro e w' ⟨rfl, rfl⟩)
      go_ret2
      exact ⟨none, 0, rfl, Own.nil _ _, Below.refl _ _⟩
    · have e1 : rowsE l m = 0 := by unfold rowsE; rw [if_neg hm, if_neg hd]
      have e2 : rowsL l m = nums m.toNat (l.length / m.toNat) l := by simp [rowsL, e1]
      rw [e1, e2]
      have hd' : ((l.length : Int) % m != 0) = false := by simpa using hd
      clear hm e1 e2 hd
      obtain ⟨i0, hi, hz0, hz1, hz2⟩ := info_parts info23
      have hq : l.length / m.toNat ≤ l.length := Nat.div_le_self _ _
      obtain ⟨z, w1, hz, hmk, hO, hB1⟩ := mk_own (P := Try.prog) w 79 29 .u32 i0 Try.underlying79 hi hz0 hz1 .i64 .i64 0 (l.length / m) 0 (l.length / m.toNat) rfl (by rw [Int.natCast_ediv, Int.toNat_of_nonneg (by omega)]) (Nat.zero_le _) (by rw [hz2]; omega) (by unfold maxLen; omega)
      obtain rfl := List.eq_nil_of_length_eq_zero hz
      clear hz
      have hqe : (l.length : Int) / m = ((l.length / m.toNat : Nat) : Int) := by rw [Int.natCast_ediv, Int.toNat_of_nonneg (by omega)]
      have hq0 : 0 ≤ (l.length : Int) / m := by rw [hqe]; exact Int.natCast_nonneg _
      have hq1 : (l.length : Int) / m ≤ 100000 := by rw [hqe]; exact Int.ofNat_le.2 (Nat.le_trans hq hl)
      have HQ : Hid (l.length = l.length / m.toNat * m.toNat) := by
        have h0 : (l.length : Int) % m = 0 := by simpa using hd'
        have h0' : l.length % m.toNat = 0 := by
          have : ((l.length % m.toNat : Nat) : Int) = 0 := by rw [Int.natCast_emod, Int.toNat_of_nonneg (by omega)]; exact h0
          exact Int.ofNat.inj this
        exact (Nat.div_mul_cancel (Nat.dvd_of_mod_eq_zero h0')).symm
      clear hqe hq
      go_enter Try.func62, Try.ntmps62
      go_wp2_with (go_at_call 75; refine (isWidth_yes _ _ h1 h2).mono ?_; rintro e w' ⟨rfl, rfl⟩)
      go_loopw [6, 7] (fun v i wr => ∃ (j p : Nat) (A' : Option Addr) (c' : Nat) (L : List Int), p ≤ l.length ∧ i = .int .i64 (p : Int) ∧ v = .slice A' L.length c' ∧ Hid (p = j * m.toNat ∧ L = nums m.toNat j l) ∧ Own .u32 29 wr w.heap.size A' c' L ∧ Below w.heap.size w wr) (fun _ i _ => l.length - (intOf i).toNat)
      case atStart => exact ⟨0, 0, _, _, [], Nat.zero_le _, rfl, rfl, ⟨by simp, rfl⟩, hO, hB1⟩
      case round =>
        obtain ⟨j, p, A', c', L, hj, rfl, rfl, hL, ho', hbw⟩ := hrel
        clear hmk hq0 hq1 hd'
        by_cases hlt : p < l.length
        · have hbw' := hbw.mono hB
          have hpk : p + m.toNat ≤ l.length ∧ L.length < l.length := by
            have e1 := hL.out.1
            have e2 := HQ.out
            generalize l.length / m.toNat = q at e2
            have hjq : j < q := by
              rcases Nat.lt_or_ge j q with h | h
              · exact h
              · have := Nat.mul_le_mul_right m.toNat h; omega
            have := Nat.mul_le_mul_right m.toNat (show j + 1 ≤ q from hjq)
            rw [Nat.succ_mul] at this
            have hjl : j ≤ j * m.toNat := Nat.le_mul_of_pos_right _ (by omega)
            exact ⟨by omega, by rw [hL.out.2, nums_length]; omega⟩
          obtain ⟨hpk, hLl⟩ := hpk
          obtain ⟨b, off, rfl, hbB, -⟩ := hb (by rintro rfl; simp at hlt)
          have hsz := hbw.size
          have hcp : ¬ (p = c) := by omega
          have hcp' : ¬ (c = p) := by omega
          have hcm : (p : Int) + m ≤ (c : Int) := by omega
          have hS : Bs .u8 wr B (some ⟨b, off + p, none⟩) ((l.drop p).take m.toNat) := ((hb.below hbw').drop p (some ⟨b, off + p, none⟩) (fun _ => by simp [addr_add])).take _
          go_wp2_with (first | (go_at_call 76; refine (num_n' _ _ _ ((l.drop p).take m.toNat) B _ ?_ hS ?_ ((hy.drop _).take _)).mono ?_; (simp; omega); (simp; omega); rintro e w' ⟨rfl, rfl⟩) | (at_builtin; refine wpList_app _ rfl (.tmp 28) (.tmp 36) 79 rfl w.heap.size 29 .u32 i0 _ 4 Try.underlying79 hi hz0 hz1 hz2 rfl A' c' L rfl (ho'.alloc _) _ _ 1 [_] rfl (Bs.one _ _ _ _) ?_ ?_ ?_ ?_; (simp [maxLen]; omega); (simp; omega); (simp; omega); intro l3 A3 c3 w3 hl3 ho3 hb3))
          go_roundw
          case rel => exact ⟨j + 1, p + m.toNat, A3, c3, l3, by omega, by go_num, rfl, ⟨by rw [hL.out.1, Nat.succ_mul], by rw [hl3.out, nums, ← hL.out.1, ← hL.out.2]⟩, ho3, (hbw.alloc (by omega) _).trans hb3⟩
          case measure => simp [intOf]; omega
        · have hE : Hid (L = nums m.toNat (l.length / m.toNat) l) := by
            have e1 := hL.out.1
            have e2 := HQ.out
            have : j = l.length / m.toNat := by
              generalize l.length / m.toNat = q at e2
              exact Nat.eq_of_mul_eq_mul_right (show 0 < m.toNat by omega) (by omega)
            rw [← this]; exact hL.out.2
          go_wp2
          go_ret2
          rw [← hE.out]
          exact ⟨_, _, rfl, ho', hbw⟩
end Go.Proofs.Ytadcicmccdphkaa
