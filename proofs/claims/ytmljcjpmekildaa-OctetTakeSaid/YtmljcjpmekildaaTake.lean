/-
  The walk of the law OctetTake: for every input it returns true and writes nothing that was there before. No conditions.
-/
import Derived.Test.YtmljcjpmekildaaPut
import Derived.Test.YtmljcjpmekildaaRefC
namespace Go.Proofs.Ytmljcjpmekildaa
open Go.RowKit

set_option maxHeartbeats 4000000 in
theorem take_walk (A : Option Addr) (c : Nat) (l : List Int) (m : Int) (w : World) (hb : Bs .u8 w w.heap.size A l) (hy : Byt l) (hc : l.length ≤ c) :
    Calls Try.prog 4 #[.slice A l.length c, .int .i64 m] w fun e w' => e = .returned (.bool true) ∧ Below w.heap.size w w' := by
  by_cases hl : 300 < l.length
  · go_enter Try.func4, Try.ntmps4
    go_wp2_with (go_at_call 8; refine (alive_any _).mono ?_; rintro e w' ⟨rfl, hB⟩)
    go_ret
    exact ⟨rfl, hB⟩
  have hl' : l.length ≤ 300 := by omega
  obtain ⟨i0, hi, hz0, hz1, hz2⟩ := info_parts info5
  go_enter Try.func4, Try.ntmps4
  go_wp2_with (at_builtin; refine wpList_app _ rfl (.tmp 25) (.tmp 26) 22 rfl w.heap.size 5 .u8 i0 _ 1 Try.underlying22 hi hz0 hz1 hz2 rfl _ _ [] rfl (Own.empty w w.heap.size (Nat.le_refl _) .u8 5) _ _ _ l rfl (hb.alloc (Nat.le_refl _) _) ?_ ?_ ?_ ?_; (simp [maxLen] <;> omega); (simp <;> omega); (simp <;> omega); intro l1 A1 c1 w1 hl1 ho1 hb1')
  obtain rfl : l = l1 := by rw [hl1.out, List.nil_append]
  have hB1 : Below w.heap.size w w1 := ((Below.refl _ w).alloc (Nat.le_refl _) _).trans hb1'
  clear hl1 hb1'
  have hs1 := hB1.size
  refine (take_any A1 c1 l w1.heap.size m w1 ho1.bs hy ho1.cap_le (Nat.le_refl _) (by omega)).mono ?_
  rintro e w2 ⟨A2, c2, rfl, hO2, hB2⟩
  have hs2 := hB2.size
  have hB02 := hB1.trans (hB2.mono hs1)
  go_wp2_with fail
  refine (rtake_any A c l w.heap.size m w2 (hb.below hB02) hy hc (by omega) (by omega)).mono ?_
  rintro e w3 ⟨A3, c3, rfl, hO3, hB3⟩
  have hs3 := hB3.size
  have hB13 : Below w1.heap.size w1 w3 := hB2.trans (hB3.mono hs2)
  have ho13 := ho1.below hB13 (Nat.le_refl _)
  go_wp2_with fail
  refine (cut_any A1 c1 l w3.heap.size m w3 ho13.bs ho1.cap_le (Nat.le_refl _) (by omega)).mono ?_
  rintro e w4 ⟨A4, c4, A5, c5, rfl, hO4, hO5, hB4⟩
  have hs4 := hB4.size
  have hB14 : Below w1.heap.size w1 w4 := hB13.trans (hB4.mono (by omega))
  go_wp2_with fail
  refine (rcut_any A c l w.heap.size m w4 (hb.below (hB1.trans (hB14.mono hs1))) hc (by omega) (by omega)).mono ?_
  rintro e w5 ⟨A6, c6, A7, c7, rfl, hO6, hO7, hB5⟩
  have hs5 := hB5.size
  have hB15 : Below w1.heap.size w1 w5 := hB14.trans (hB5.mono (by omega))
  have hO25 := ((hO2.below hB3 (Nat.le_refl _)).below hB4 (Nat.le_refl _)).below hB5 (Nat.le_refl _)
  have hO35 := (hO3.below hB4 (Nat.le_refl _)).below hB5 (Nat.le_refl _)
  have hO45 := hO4.below hB5 (Nat.le_refl _)
  have hO55 := hO5.below hB5 (Nat.le_refl _)
  have hb2 := hO2.bs
  have HO1 := Lib.hid ho1
  have HB1 := Lib.hid hB1
  clear hO2 hO3 hO4 hO5 hB2 hB3 hB4 hB5 hB13 hB14 hB02 ho13 ho1 hB1
  generalize takeL l m = X at hO25 hO35 hb2
  generalize takeN l m = N
  generalize takeE l m = E1
  generalize cutF l m = U at hO45 hO6
  generalize cutL l m = V at hO55 hO7
  generalize cutE l m = E2
  have hXl : X.length ≤ maxLen := Nat.le_trans hO25.cap_le hO25.max
  have hUl : U.length ≤ maxLen := Nat.le_trans hO45.cap_le hO45.max
  unfold maxLen at hXl hUl
  have hs_x : (convert 22 9 (.slice A2 X.length c2)).run Try.prog w5 = .ok (.string (strOfNums X)) w5 := run_str w5 22 5 9 Try.underlying22 Try.underlying5 Try.underlying9 _ A2 c2 X hO25.bs
  have hs_y : (convert 22 9 (.slice A3 X.length c3)).run Try.prog w5 = .ok (.string (strOfNums X)) w5 := run_str w5 22 5 9 Try.underlying22 Try.underlying5 Try.underlying9 _ A3 c3 X hO35.bs
  have hs_u : (convert 22 9 (.slice A4 U.length c4)).run Try.prog w5 = .ok (.string (strOfNums U)) w5 := run_str w5 22 5 9 Try.underlying22 Try.underlying5 Try.underlying9 _ A4 c4 U hO45.bs
  have hs_w : (convert 22 9 (.slice A6 U.length c6)).run Try.prog w5 = .ok (.string (strOfNums U)) w5 := run_str w5 22 5 9 Try.underlying22 Try.underlying5 Try.underlying9 _ A6 c6 U hO6.bs
  have hs_v : (convert 22 9 (.slice A5 V.length c5)).run Try.prog w5 = .ok (.string (strOfNums V)) w5 := run_str w5 22 5 9 Try.underlying22 Try.underlying5 Try.underlying9 _ A5 c5 V hO55.bs
  have hs_z : (convert 22 9 (.slice A7 V.length c7)).run Try.prog w5 = .ok (.string (strOfNums V)) w5 := run_str w5 22 5 9 Try.underlying22 Try.underlying5 Try.underlying9 _ A7 c7 V hO7.bs
  go_wp2_with fail
  clear hs_x hs_y hs_u hs_w hs_v hs_z
  go_loopw [19] (fun i wr => ∃ (j : Nat) (X' : List Int), j ≤ X.length ∧ i = .int .i64 (j : Int) ∧ Hid (X'.length = X.length) ∧ Own .u8 5 wr w1.heap.size A2 c2 X' ∧ Own .u8 5 wr w3.heap.size A4 c4 U ∧ Below w1.heap.size w1 wr) (fun i _ => X.length - (intOf i).toNat)
  case atStart => exact ⟨0, X, Nat.zero_le _, rfl, rfl, hO25, hO45, hB15⟩
  case round =>
    obtain ⟨j, X', hj, rfl, hX', hX, hU, hbw⟩ := hrel
    by_cases hlt : j < X.length
    · rcases hX.form with ⟨rfl, _, h⟩ | ⟨g, _, rfl, hg1, _⟩
      · have := hX'.out; rw [h] at this; simp at this; omega
      have hgl : g < w2.heap.size := hb2.blk (by rintro rfl; simp at hlt)
      have hcx := hX.cellAt (i := j) (by rw [hX'.out]; exact hlt)
      have hfr := hX.frozen j
      go_wp2
      go_roundw
      case rel => exact ⟨j + 1, X'.set j 1, by omega, by go_num, (by show _ = _; rw [List.length_set]; exact hX'.out), hX.set j 1, hU.far (by show g < _; omega) _, hbw.setCell hg1 _⟩
      case measure => simp [intOf]; omega
    · go_wp2_with fail
      clear hlt hj
      go_loopw [20] (fun i w' => ∃ (j : Nat) (U' : List Int), j ≤ U.length ∧ i = .int .i64 (j : Int) ∧ Hid (U'.length = U.length) ∧ Own .u8 5 w' w3.heap.size A4 c4 U' ∧ Below w1.heap.size w1 w') (fun i _ => U.length - (intOf i).toNat)
      case atStart => exact ⟨0, U, Nat.zero_le _, rfl, rfl, hU, hbw⟩
      case round =>
        obtain ⟨j2, U', hj, rfl, hU', hU2, hbw2⟩ := hrel
        by_cases hlt : j2 < U.length
        · rcases hU2.form with ⟨rfl, _, h⟩ | ⟨g, _, rfl, hg1, _⟩
          · have := hU'.out; rw [h] at this; simp at this; omega
          have hcx := hU2.cellAt (i := j2) (by rw [hU'.out]; exact hlt)
          have hfr := hU2.frozen j2
          go_wp2
          go_roundw
          case rel => exact ⟨j2 + 1, U'.set j2 2, by omega, by go_num, (by show _ = _; rw [List.length_set]; exact hU'.out), hU2.set j2 2, hbw2.setCell (by show _ ≤ g; omega) _⟩
          case measure => simp [intOf]; omega
        · go_wp2_with fail
          refine (alive_any _).mono ?_
          rintro e w6 ⟨rfl, hB6⟩
          have hb16 : Below w1.heap.size w1 w6 := hbw2.trans (hB6.mono hbw2.size)
          have hO16 := HO1.out.below hb16 (Nat.le_refl _)
          have HB : Hid (Below w.heap.size w w6) := HB1.out.trans (hb16.mono hs1)
          have hsA : (convert 22 9 (.slice A1 l.length c1)).run Try.prog w6 = .ok (.string (strOfNums l)) w6 := run_str w6 22 5 9 Try.underlying22 Try.underlying5 Try.underlying9 _ A1 c1 l hO16.bs
          have hsB : (convert 22 9 (.slice A l.length c)).run Try.prog w6 = .ok (.string (strOfNums l)) w6 := run_str w6 22 5 9 Try.underlying22 Try.underlying5 Try.underlying9 _ A c l (hb.below HB.out)
          clear hb16 hO16 hB6 hbw2 hU2 hbw hX hU
          go_wp2
          go_ret
          exact ⟨rfl, HB.out⟩
end Go.Proofs.Ytmljcjpmekildaa
