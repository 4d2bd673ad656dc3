/-
  The walk of the law OctetRows: for every input it returns true and writes nothing that was there before. No conditions.
-/
import Derived.Test.YtmljcjpmekildaaBack
import Derived.Test.YtmljcjpmekildaaRefB
namespace Go.Proofs.Ytmljcjpmekildaa
open Go.RowKit

theorem rowsL_length (l : List Int) (m : Int) : (rowsL l m).length ≤ l.length := by
  unfold rowsL
  split
  · rw [nums_length]; exact Nat.div_le_self _ _
  · simp

set_option maxHeartbeats 2000000 in
theorem rows_walk (A2 : Option Addr) (c2 : Nat) (q : List Int) (A : Option Addr) (c : Nat) (l : List Int) (m : Int) (w : World) (hq : Bs .u32 w w.heap.size A2 q) (hyq : Wrd q) (hb : Bs .u8 w w.heap.size A l) (hy : Byt l) (hc : l.length ≤ c) :
    Calls Try.prog 5 #[.slice A2 q.length c2, .slice A l.length c, .int .i64 m] w fun e w' => e = .returned (.bool true) ∧ Below w.heap.size w w' := by
  by_cases hl2 : 100 < q.length
  · go_enter Try.func5, Try.ntmps5
    go_wp2_with (go_at_call 8; refine (alive_any _).mono ?_; rintro e w' ⟨rfl, hB⟩)
    go_ret
    exact ⟨rfl, hB⟩
  have hl2' : q.length ≤ 100 := by omega
  by_cases hl : 300 < l.length
  · go_enter Try.func5, Try.ntmps5
    go_wp2_with (go_at_call 8; refine (alive_any _).mono ?_; rintro e w' ⟨rfl, hB⟩)
    go_ret
    exact ⟨rfl, hB⟩
  have hl' : l.length ≤ 300 := by omega
  have hrl := rowsL_length l m
  go_enter Try.func5, Try.ntmps5
  go_wp2_with fail
  refine (row_any A2 c2 q w.heap.size m w hq hyq (Nat.le_refl _) (by omega)).mono ?_
  rintro e w1 ⟨A3, c3, rfl, hO1, hB1⟩
  have hs1 := hB1.size
  go_wp2_with fail
  refine (rrow_any A2 c2 q w.heap.size m w1 (hq.below hB1) hyq hs1 (by omega)).mono ?_
  rintro e w2 ⟨A4, c4, rfl, hO2, hB2⟩
  have hs2 := hB2.size
  have hB02 := hB1.trans (hB2.mono hs1)
  go_wp2_with fail
  refine (rows_any A c l w.heap.size m w2 (hb.below hB02) hy hc (by omega) (by omega)).mono ?_
  rintro e w3 ⟨A5, c5, rfl, hO3, hB3⟩
  have hs3 := hB3.size
  have hB03 := hB02.trans (hB3.mono (by omega))
  go_wp2_with fail
  refine (rrows_any A c l w.heap.size m w3 (hb.below hB03) hy hc (by omega) (by omega)).mono ?_
  rintro e w4 ⟨A6, c6, rfl, hO4, hB4⟩
  have hs4 := hB4.size
  go_wp2_with fail
  refine (alive_any _).mono ?_
  rintro e w5 ⟨rfl, hB5⟩
  have hs5 := hB5.size
  have hO15 := (((hO1.below hB2 (Nat.le_refl _)).below hB3 (Nat.le_refl _)).below hB4 (Nat.le_refl _)).below hB5 (Nat.le_refl _)
  have hO25 := ((hO2.below hB3 (Nat.le_refl _)).below hB4 (Nat.le_refl _)).below hB5 (Nat.le_refl _)
  have hO35 := (hO3.below hB4 (Nat.le_refl _)).below hB5 (Nat.le_refl _)
  have hO45 := hO4.below hB5 (Nat.le_refl _)
  have HB : Hid (Below w.heap.size w w5) := (hB03.trans (hB4.mono (by omega))).trans (hB5.mono (by omega))
  generalize rowL q m = RL at hO15 hO25
  generalize rowsL l m = SL at hO35 hO45 hrl
  generalize rowE q m = RE
  generalize rowsE l m = SE
  have hsA : (convert 22 9 (.slice A3 RL.length c3)).run Try.prog w5 = .ok (.string (strOfNums RL)) w5 := run_str w5 22 5 9 Try.underlying22 Try.underlying5 Try.underlying9 _ A3 c3 RL hO15.bs
  have hsB : (convert 22 9 (.slice A4 RL.length c4)).run Try.prog w5 = .ok (.string (strOfNums RL)) w5 := run_str w5 22 5 9 Try.underlying22 Try.underlying5 Try.underlying9 _ A4 c4 RL hO25.bs
  clear hB1 hB2 hB3 hB4 hB5 hB02 hB03 hO1 hO2 hO3 hO4 hO15 hO25
  go_wp2_with (go_at_call 19; refine (same_eq _ _ _ _ SL _ hO35.bs hO45.bs (by omega)).mono ?_; rintro e w6 ⟨rfl, hB6⟩)
  go_ret
  exact ⟨rfl, HB.out.trans (hB6.mono (by omega))⟩
end Go.Proofs.Ytmljcjpmekildaa
