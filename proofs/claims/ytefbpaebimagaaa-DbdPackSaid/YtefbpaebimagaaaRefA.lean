/-
  Contracts of the reference's Same, Put and Take. No statement is proved here.
-/
import Derived.Test.YtefbpaebimagaaaOct
import Derived.Test.YtefbpaebimagaaaRow
namespace Go.Proofs.Ytefbpaebimagaaa
open Go.RowKit

/-! ### Same, of two rows that are the same -/
/-! ### Put -/
theorem be_cons (n : Int) (j : Nat) : (n / 256 ^ j % 256) :: be n j = be n (j + 1) := by
  induction j generalizing n with
  | zero => simp [be]
  | succ j ih =>
    rw [be, be, ← ih (n / 256)]
    rw [show (256 : Int) ^ (j + 1) = 256 * 256 ^ j by rw [Int.pow_succ, Int.mul_comm], ← Int.ediv_ediv_of_nonneg (by decide)]
    rfl
/-! ### Take -/
theorem num_step' (l : List Int) (hy : Byt l) (j : Nat) (hj : j < l.length) (h3 : j ≤ 3) : 0 ≤ num (l.take j) ∧ num (l.take j) < 16777216 ∧ 0 ≤ l[j] ∧ l[j] < 256 ∧ num (l.take j) * 256 + l[j] = num (l.take (j + 1)) := by
  have hb := num_take (l.take (j + 1)) (hy.take _) j (by simp; omega) (by simp; omega)
  rw [List.take_take, Nat.min_eq_left (by omega)] at hb
  have hx := hy l[j] (List.getElem_mem hj)
  exact ⟨hb.1, hb.2, hx.1, hx.2, by rw [List.take_succ_eq_append_getElem hj, num_snoc]⟩
set_option maxRecDepth 100000 in
set_option maxHeartbeats 1000000 in
theorem rtake_any (A : Option Addr) (c : Nat) (l : List Int) (B : Nat) (m : Int) (w : World) (hb : Bs .u8 w B A l) (hy : Byt l) (hc : l.length ≤ c) (hB : B ≤ w.heap.size) (hl : l.length ≤ 100000) :
    Calls Try.prog 43 #[.slice A l.length c, .int .i64 m] w fun e w' => ∃ A' c', e = .returned (.tuple #[.int .u32 (takeN l m), .slice A' (takeL l m).length c', .int .i64 (takeE l m)]) ∧ Own .u8 5 w' w.heap.size A' c' (takeL l m) ∧ Below w.heap.size w w' := by
  by_cases hm : m < 1 ∨ 4 < m
  · have e1 : takeE l m = 1 := by simp [takeE, hm]
    have e2 : takeL l m = [] := by simp [takeL, e1]
    have e3 : takeN l m = 0 := by simp [takeN, e1]
    rw [e1, e2, e3]
    clear e1 e2 e3
    rcases hm with hm | hm
    · go_enter Try.func43, Try.ntmps43
      go_wp2
      go_ret3
      exact ⟨none, 0, rfl, Own.nil _ _, Below.refl _ _⟩
    · have hm1 : ¬ m < 1 := by omega
      go_enter Try.func43, Try.ntmps43
      go_wp2
      go_ret3
      exact ⟨none, 0, rfl, Own.nil _ _, Below.refl _ _⟩
  have h1 : 1 ≤ m := by omega
  have h2 : m ≤ 4 := by omega
  have h1' : ¬ m < 1 := by omega
  have h2' : ¬ 4 < m := by omega
  have h0 : 0 ≤ m := by omega
  by_cases hf : (l.length : Int) < m
  · have e1 : takeE l m = 2 := by simp [takeE, hm, hf]
    have e2 : takeL l m = [] := by simp [takeL, e1]
    have e3 : takeN l m = 0 := by simp [takeN, e1]
    rw [e1, e2, e3]
    clear hm e1 e2 e3
    go_enter Try.func43, Try.ntmps43
    go_wp2
    go_ret3
    exact ⟨none, 0, rfl, Own.nil _ _, Below.refl _ _⟩
  have e1 : takeE l m = 0 := by simp [takeE, hm, hf]
  have e2 : takeL l m = l.drop m.toNat := by simp [takeL, e1]
  have e3 : takeN l m = num (l.take m.toNat) := by simp [takeN, e1]
  rw [e1, e3]
  have E2 := Lib.hid e2
  have hf' : m ≤ (l.length : Int) := by omega
  clear hm e1 e2 e3 hf
  obtain ⟨i0, hi, hz0, hz1, hz2⟩ := info_parts info5
  obtain ⟨b, off, rfl, hbB, -⟩ := hb (by rintro rfl; simp at hf'; omega)
  go_enter Try.func43, Try.ntmps43
  go_wp2
  go_loop [7, 8] (fun n i => ∃ j : Nat, j ≤ m.toNat ∧ i = .int .i64 (j : Int) ∧ n = .int .u32 (num (l.take j))) (fun _ i => m.toNat - (intOf i).toNat)
  case atStart => exact ⟨0, Nat.zero_le _, rfl, rfl⟩
  case round =>
    obtain ⟨j, hj, rfl, rfl⟩ := hrel
    by_cases hlt : (j : Int) < m
    · have hjl : j < l.length := by omega
      obtain ⟨b', off', hbb, -, hc0⟩ := hb.at_ hjl
      obtain ⟨rfl, rfl⟩ : b = b' ∧ off = off' := by injection hbb with h; injection h with h1 h2; exact ⟨h1, h2⟩
      have hst := num_step' l hy j hjl (by omega)
      obtain ⟨g1, g2, g3, g4, g5⟩ := hst
      have HS := Lib.hid g5
      clear g5 hbb
      go_wp2
      go_round
      case rel => exact ⟨j + 1, by omega, by go_num, val_int HS.out⟩
      case measure => simp [intOf]; omega
    · obtain rfl : j = m.toNat := by omega
      have hcm : m ≤ (c : Int) := by omega
      by_cases hcc : c = m.toNat
      · subst hcc
        have hd : Bs .u8 w B (some ⟨b, off, none⟩) (l.drop m.toNat) := hb.drop _ _ (fun h => by omega)
        go_wp2_with (at_builtin; refine wpList_appn _ rfl (.tmp 33) (.tmp 36) 26 rfl w.heap.size 5 .u8 i0 _ 1 Try.underlying26 hi hz0 hz1 hz2 rfl _ _ [] rfl (Own.empty w w.heap.size (Nat.le_refl _) .u8 5) B _ _ _ (l.drop m.toNat) rfl ?_ (hd.alloc hB _) ?_ ?_ ?_ ?_; (simp only [List.length_drop] <;> omega); (simp [maxLen] <;> omega); (simp <;> omega); (simp <;> omega); intro l3 A3 c3 w3 hl3 ho3 hb3)
        go_ret3
        rw [E2.out, show l.drop m.toNat = l3 by rw [hl3.out, List.nil_append]]
        exact ⟨_, _, rfl, ho3, ((Below.refl _ w).alloc (Nat.le_refl _) _).trans hb3⟩
      · have hcc' : ¬ (m.toNat = c) := fun h => hcc h.symm
        have hd : Bs .u8 w B (some ⟨b, off + m.toNat, none⟩) (l.drop m.toNat) := hb.drop _ _ (fun h => by simp [addr_add])
        go_wp2_with (at_builtin; refine wpList_appn _ rfl (.tmp 33) (.tmp 36) 26 rfl w.heap.size 5 .u8 i0 _ 1 Try.underlying26 hi hz0 hz1 hz2 rfl _ _ [] rfl (Own.empty w w.heap.size (Nat.le_refl _) .u8 5) B _ _ _ (l.drop m.toNat) rfl ?_ (hd.alloc hB _) ?_ ?_ ?_ ?_; (simp only [List.length_drop] <;> omega); (simp [maxLen] <;> omega); (simp <;> omega); (simp <;> omega); intro l3 A3 c3 w3 hl3 ho3 hb3)
        go_ret3
        rw [E2.out, show l.drop m.toNat = l3 by rw [hl3.out, List.nil_append]]
        exact ⟨_, _, rfl, ho3, ((Below.refl _ w).alloc (Nat.le_refl _) _).trans hb3⟩
end Go.Proofs.Ytefbpaebimagaaa
