/-
  Contracts of the reference's Same, Put and Take. No statement is proved here.
-/
import Derived.Test.YtmljcjpmekildaaOct
import Derived.Test.YtmljcjpmekildaaRow
namespace Go.Proofs.Ytmljcjpmekildaa
open Go.RowKit

/-! ### Same, of two rows that are the same -/
set_option maxHeartbeats 1000000 in
theorem same_eq (A1 A2 : Option Addr) (c1 c2 : Nat) (l : List Int) (w : World) (h1 : Bs .u32 w w.heap.size A1 l) (h2 : Bs .u32 w w.heap.size A2 l) (hl : l.length ≤ 100000) :
    Calls Try.prog 19 #[.slice A1 l.length c1, .slice A2 l.length c2] w fun e w' => e = .returned (.bool true) ∧ Below w.heap.size w w' := by
  go_enter Try.func19, Try.ntmps19
  go_wp2
  go_loopw [5] (fun i wr => ∃ j : Nat, j ≤ l.length ∧ i = .int .i64 (j : Int) ∧ Below w.heap.size w wr) (fun i _ => l.length - (intOf i).toNat)
  case atStart => exact ⟨0, Nat.zero_le _, rfl, Below.refl _ _⟩
  case round =>
    obtain ⟨j, hj, rfl, hbw⟩ := hrel
    by_cases hlt : j < l.length
    · obtain ⟨b1, o1, rfl, hb1, hc1⟩ := (h1.below hbw).at_ hlt
      obtain ⟨b2, o2, rfl, hb2, hc2⟩ := (h2.below hbw).at_ hlt
      have hi : (0 : Int) ≤ (j : Int) ∧ (j : Int) < (l.length : Int) := by omega
      go_wp2
      go_quiet (fail)
      go_wp2
      go_roundw
      case rel => exact ⟨j + 1, by omega, by go_num, below_drewN hbw _⟩
      case measure => simp [intOf]; omega
    · go_wp2
      go_ret
      exact ⟨rfl, hbw⟩
theorem same_n (A1 A2 : Option Addr) (n1 n2 c1 c2 : Nat) (l : List Int) (w : World) (e1 : n1 = l.length) (e2 : n2 = l.length) (h1 : Bs .u32 w w.heap.size A1 l) (h2 : Bs .u32 w w.heap.size A2 l) (hl : l.length ≤ 100000) :
    Calls Try.prog 19 #[.slice A1 n1 c1, .slice A2 n2 c2] w fun e w' => e = .returned (.bool true) ∧ Below w.heap.size w w' := by
  subst e1 e2; exact same_eq A1 A2 c1 c2 l w h1 h2 hl

/-! ### Put -/
theorem be_cons (n : Int) (j : Nat) : (n / 256 ^ j % 256) :: be n j = be n (j + 1) := by
  induction j generalizing n with
  | zero => simp [be]
  | succ j ih =>
    rw [be, be, ← ih (n / 256)]
    rw [show (256 : Int) ^ (j + 1) = 256 * 256 ^ j by rw [Int.pow_succ, Int.mul_comm], ← Int.ediv_ediv_of_nonneg (by decide)]
    rfl
set_option maxHeartbeats 1000000 in
theorem rput_any (A : Option Addr) (c : Nat) (l : List Int) (B : Nat) (n m : Int) (w : World) (hb : Bs .u8 w B A l) (hB : B ≤ w.heap.size) (hl : l.length ≤ 100000) (h3 : 0 ≤ n) (h4 : n < 4294967296) :
    Calls Try.prog 10 #[.slice A l.length c, .int .u32 n, .int .i64 m] w fun e w' => ∃ A' c', e = .returned (.tuple #[.slice A' (putL l n m).length c', .int .i64 (putE n m)]) ∧ Own .u8 5 w' w.heap.size A' c' (putL l n m) ∧ Below w.heap.size w w' := by
  by_cases hm : m < 1 ∨ 4 < m
  · have e1 : putE n m = 1 := by simp [putE, hm]
    have e2 : putL l n m = [] := by simp [putL, e1]
    rw [e1, e2]
    clear e1 e2
    rcases hm with hm | hm
    · go_enter Try.func10, Try.ntmps10
      go_wp2
      go_ret2
      exact ⟨none, 0, rfl, Own.nil _ _, Below.refl _ _⟩
    · have hm1 : ¬ m < 1 := by omega
      go_enter Try.func10, Try.ntmps10
      go_wp2
      go_ret2
      exact ⟨none, 0, rfl, Own.nil _ _, Below.refl _ _⟩
  have h1 : 1 ≤ m := by omega
  have h2 : m ≤ 4 := by omega
  have h1' : ¬ m < 1 := by omega
  have h2' : ¬ 4 < m := by omega
  obtain ⟨i0, hi, hz0, hz1, hz2⟩ := info_parts info5
  have HM := Lib.hid hm
  clear hm
  go_enter Try.func10, Try.ntmps10
  go_wp2
  go_loopw [1, 8, 9, 10] (fun nv v i _ wr => ∃ (j : Nat) (A' : Option Addr) (c' : Nat) (L : List Int), j ≤ m.toNat ∧ i = .int .i64 (j : Int) ∧ nv = .int .u32 (n / 256 ^ j) ∧ v = .slice A' L.length c' ∧ Hid (L = be n j) ∧ Own .u8 5 wr w.heap.size A' c' L ∧ Below w.heap.size w wr) (fun _ _ i _ _ => m.toNat - (intOf i).toNat)
  case atStart => exact ⟨0, _, _, [], Nat.zero_le _, rfl, by simp, rfl, rfl, Own.empty w _ (Nat.le_refl _) _ _, (Below.refl _ w).alloc (Nat.le_refl _) _⟩
  case round =>
    obtain ⟨j, A', c', L, hj, rfl, rfl, rfl, hL, hO, hbw⟩ := hrel
    have hLl : L.length ≤ 4 := by rw [hL.out, be_length]; omega
    have hsz := hbw.size
    have hp := pow_pos' j
    have hn0 : 0 ≤ n / 256 ^ j := Int.ediv_nonneg h3 (by omega)
    have hn1 : n / 256 ^ j < 4294967296 := Int.lt_of_le_of_lt (Int.ediv_le_self _ h3) h4
    by_cases hlt : (j : Int) < m
    · go_wp2_with (at_builtin; refine wpList_app _ rfl (.tmp 28) (.tmp 29) 22 rfl w.heap.size 5 .u8 i0 _ 1 Try.underlying22 hi hz0 hz1 hz2 rfl _ _ [_] rfl (Own.one wr w.heap.size hsz .u8 5 _) _ _ _ L rfl (hO.alloc _).bs ?_ ?_ ?_ ?_; (simp [maxLen] <;> omega); (simp <;> omega); (simp <;> omega); intro l3 A3 c3 w3 hl3 ho3 hb3)
      go_roundw
      case rel => exact ⟨j + 1, A3, c3, l3, by omega, by go_num, val_int (by rw [Int.ediv_ediv_of_nonneg (by omega), Int.pow_succ]), rfl, (by show _ = _; rw [hl3.out, hL.out]; exact be_cons n j), ho3, (hbw.alloc (by omega) _).trans hb3⟩
      case measure => simp [intOf]; omega
    · obtain rfl : j = m.toNat := by omega
      clear hj
      by_cases hgt : 0 < n / 256 ^ m.toNat
      · have hle : 256 ^ m.toNat ≤ n := by
          rcases Int.lt_or_le n (256 ^ m.toNat) with h | h
          · rw [Int.ediv_eq_zero_of_lt h3 h] at hgt; omega
          · exact h
        have e1 : putE n m = 5 := by unfold putE; rw [if_neg HM.out, if_pos hle]
        have e2 : putL l n m = [] := by simp [putL, e1]
        have E1 := Lib.hid e1
        have E2 := Lib.hid e2
        clear e1 e2 hle
        go_wp2
        go_ret2
        rw [E1.out, E2.out]
        exact ⟨none, 0, rfl, Own.nil _ _, hbw⟩
      · have hle : n < 256 ^ m.toNat := by
          rcases Int.lt_or_le n (256 ^ m.toNat) with h | h
          · exact h
          · have := Int.le_ediv_of_mul_le (c := 256 ^ m.toNat) (a := 1) (b := n) (pow_pos' _) (by omega); omega
        have e1 : putE n m = 0 := by unfold putE; rw [if_neg HM.out, if_neg (by omega)]
        have e2 : Hid (putL l n m = l ++ L) := by show _ = _; simp [putL, e1, hL.out]
        have E1 := Lib.hid e1
        clear e1 hle
        go_wp2_with (first | (at_builtin; refine wpList_app _ rfl (.tmp 36) (.tmp 37) 22 rfl wr.heap.size 5 .u8 i0 _ 1 Try.underlying22 hi hz0 hz1 hz2 rfl _ _ [] rfl (Own.empty wr wr.heap.size (Nat.le_refl _) .u8 5) _ _ _ l rfl ((hb.below (hbw.mono hB)).alloc (by omega) _) ?_ ?_ ?_ ?_; (simp [maxLen] <;> omega); (simp <;> omega); (simp <;> omega); intro l3 A3 c3 w3 hl3 ho3 hb3; have hb13 : Below wr.heap.size wr w3 := ((Below.refl _ wr).alloc (Nat.le_refl _) _).trans hb3; have hs3 := hb13.size; have hl3l : l3.length ≤ 100000 := (by rw [hl3.out, List.nil_append]; exact hl)) | (at_builtin; refine wpList_app _ rfl (.tmp 39) (.tmp 40) 22 rfl wr.heap.size 5 .u8 i0 _ 1 Try.underlying22 hi hz0 hz1 hz2 rfl _ _ l3 rfl ho3 _ _ _ L rfl (hO.below hb13 (Nat.le_refl _)).bs ?_ ?_ ?_ ?_; (simp [maxLen] <;> omega); (simp <;> omega); exact hs3; intro l4 A4 c4 w4 hl4 ho4 hb4))
        go_ret2
        have e3 : putL l n m = l4 := by rw [e2.out, hl4.out, hl3.out, List.nil_append]
        rw [E1.out, e3]
        exact ⟨_, _, rfl, ho4.lower hsz, hbw.trans ((hb13.trans hb4).mono hsz)⟩

/-! ### Take -/
theorem num_step' (l : List Int) (hy : Byt l) (j : Nat) (hj : j < l.length) (h3 : j ≤ 3) : 0 ≤ num (l.take j) ∧ num (l.take j) < 16777216 ∧ 0 ≤ l[j] ∧ l[j] < 256 ∧ num (l.take j) * 256 + l[j] = num (l.take (j + 1)) := by
  have hb := num_take (l.take (j + 1)) (hy.take _) j (by simp; omega) (by simp; omega)
  rw [List.take_take, Nat.min_eq_left (by omega)] at hb
  have hx := hy l[j] (List.getElem_mem hj)
  exact ⟨hb.1, hb.2, hx.1, hx.2, by rw [List.take_succ_eq_append_getElem hj, num_snoc]⟩
set_option maxHeartbeats 1000000 in
theorem rtake_any (A : Option Addr) (c : Nat) (l : List Int) (B : Nat) (m : Int) (w : World) (hb : Bs .u8 w B A l) (hy : Byt l) (hc : l.length ≤ c) (hB : B ≤ w.heap.size) (hl : l.length ≤ 100000) :
    Calls Try.prog 12 #[.slice A l.length c, .int .i64 m] w fun e w' => ∃ A' c', e = .returned (.tuple #[.int .u32 (takeN l m), .slice A' (takeL l m).length c', .int .i64 (takeE l m)]) ∧ Own .u8 5 w' w.heap.size A' c' (takeL l m) ∧ Below w.heap.size w w' := by
  by_cases hm : m < 1 ∨ 4 < m
  · have e1 : takeE l m = 1 := by simp [takeE, hm]
    have e2 : takeL l m = [] := by simp [takeL, e1]
    have e3 : takeN l m = 0 := by simp [takeN, e1]
    rw [e1, e2, e3]
    clear e1 e2 e3
    rcases hm with hm | hm
    · go_enter Try.func12, Try.ntmps12
      go_wp2
      go_ret3
      exact ⟨none, 0, rfl, Own.nil _ _, Below.refl _ _⟩
    · have hm1 : ¬ m < 1 := by omega
      go_enter Try.func12, Try.ntmps12
      go_wp2
      go_ret3
      exact ⟨none, 0, rfl, Own.nil _ _, Below.refl _ _⟩
  have h1 : 1 ≤ m := by omega
  have h2 : m ≤ 4 := by omega
  have h1' : ¬ m < 1 := by omega
  have h2' : ¬ 4 < m := by omega
  have h0 : 0 ≤ m := by omega
  by_cases hf : (l.length : Int) < m
  · have e1 : takeE l m = 2 := by simp [takeE, hm, hf]
    have e2 : takeL l m = [] := by simp [takeL, e1]
    have e3 : takeN l m = 0 := by simp [takeN, e1]
    rw [e1, e2, e3]
    clear hm e1 e2 e3
    go_enter Try.func12, Try.ntmps12
    go_wp2
    go_ret3
    exact ⟨none, 0, rfl, Own.nil _ _, Below.refl _ _⟩
  have e1 : takeE l m = 0 := by simp [takeE, hm, hf]
  have e2 : takeL l m = l.drop m.toNat := by simp [takeL, e1]
  have e3 : takeN l m = num (l.take m.toNat) := by simp [takeN, e1]
  rw [e1, e3]
  have E2 := Lib.hid e2
  have hf' : m ≤ (l.length : Int) := by omega
  clear hm e1 e2 e3 hf
  obtain ⟨i0, hi, hz0, hz1, hz2⟩ := info_parts info5
  obtain ⟨b, off, rfl, hbB, -⟩ := hb (by rintro rfl; simp at hf'; omega)
  go_enter Try.func12, Try.ntmps12
  go_wp2
  go_loop [7, 8] (fun n i => ∃ j : Nat, j ≤ m.toNat ∧ i = .int .i64 (j : Int) ∧ n = .int .u32 (num (l.take j))) (fun _ i => m.toNat - (intOf i).toNat)
  case atStart => exact ⟨0, Nat.zero_le _, rfl, rfl⟩
  case round =>
    obtain ⟨j, hj, rfl, rfl⟩ := hrel
    by_cases hlt : (j : Int) < m
    · have hjl : j < l.length := by omega
      obtain ⟨b', off', hbb, -, hc0⟩ := hb.at_ hjl
      obtain ⟨rfl, rfl⟩ : b = b' ∧ off = off' := by injection hbb with h; injection h with h1 h2; exact ⟨h1, h2⟩
      have hst := num_step' l hy j hjl (by omega)
      obtain ⟨g1, g2, g3, g4, g5⟩ := hst
      have HS := Lib.hid g5
      clear g5 hbb
      go_wp2
      go_round
      case rel => exact ⟨j + 1, by omega, by go_num, val_int HS.out⟩
      case measure => simp [intOf]; omega
    · obtain rfl : j = m.toNat := by omega
      have hcm : m ≤ (c : Int) := by omega
      by_cases hcc : c = m.toNat
      · subst hcc
        have hd : Bs .u8 w B (some ⟨b, off, none⟩) (l.drop m.toNat) := hb.drop _ _ (fun h => by omega)
        go_wp2_with (at_builtin; refine wpList_appn _ rfl (.tmp 33) (.tmp 36) 22 rfl w.heap.size 5 .u8 i0 _ 1 Try.underlying22 hi hz0 hz1 hz2 rfl _ _ [] rfl (Own.empty w w.heap.size (Nat.le_refl _) .u8 5) B _ _ _ (l.drop m.toNat) rfl ?_ (hd.alloc hB _) ?_ ?_ ?_ ?_; (simp only [List.length_drop] <;> omega); (simp [maxLen] <;> omega); (simp <;> omega); (simp <;> omega); intro l3 A3 c3 w3 hl3 ho3 hb3)
        go_ret3
        rw [E2.out, show l.drop m.toNat = l3 by rw [hl3.out, List.nil_append]]
        exact ⟨_, _, rfl, ho3, ((Below.refl _ w).alloc (Nat.le_refl _) _).trans hb3⟩
      · have hcc' : ¬ (m.toNat = c) := fun h => hcc h.symm
        have hd : Bs .u8 w B (some ⟨b, off + m.toNat, none⟩) (l.drop m.toNat) := hb.drop _ _ (fun h => by simp [addr_add])
        go_wp2_with (at_builtin; refine wpList_appn _ rfl (.tmp 33) (.tmp 36) 22 rfl w.heap.size 5 .u8 i0 _ 1 Try.underlying22 hi hz0 hz1 hz2 rfl _ _ [] rfl (Own.empty w w.heap.size (Nat.le_refl _) .u8 5) B _ _ _ (l.drop m.toNat) rfl ?_ (hd.alloc hB _) ?_ ?_ ?_ ?_; (simp only [List.length_drop] <;> omega); (simp [maxLen] <;> omega); (simp <;> omega); (simp <;> omega); intro l3 A3 c3 w3 hl3 ho3 hb3)
        go_ret3
        rw [E2.out, show l.drop m.toNat = l3 by rw [hl3.out, List.nil_append]]
        exact ⟨_, _, rfl, ho3, ((Below.refl _ w).alloc (Nat.le_refl _) _).trans hb3⟩
end Go.Proofs.Ytmljcjpmekildaa
