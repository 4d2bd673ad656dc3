/-
  The walk of the law SumPlace: for every bytes and place it returns true and writes nothing that was there before. No conditions.
-/
import Derived.Test.YtgdjckijbakmaaaAlive
import Derived.Test.YtgdjckijbakmaaaRPlace
namespace Go.Proofs.Ytgdjckijbakmaaa
open Go.RowKit

set_option maxHeartbeats 2000000 in
theorem plc_walk (A : Option Addr) (c : Nat) (l : List Int) (a : Int) (w : World) (hb : Bs .u8 w w.heap.size A l) (hy : Byt l) :
    Calls Try.prog 4 #[.slice A l.length c, .int .i64 a] w fun e w' => e = .returned (.bool true) ∧ Below w.heap.size w w' := by
  by_cases hl : 2000 < l.length
  · go_enter Try.func4, Try.ntmps4
    go_wp2_with (go_at_call 8; refine (alive_any _).mono ?_; rintro e w' ⟨rfl, hB⟩)
    go_ret
    exact ⟨rfl, hB⟩
  have hl' : l.length ≤ 2000 := by omega
  obtain ⟨i0, hi, hz0, hz1, hz2⟩ := info_parts info5
  by_cases ha : a < 0 ∨ (l.length : Int) - 2 < a
  · have HA := Lib.hid ha
    clear ha
    go_enter Try.func4, Try.ntmps4
    go_wp2_with (at_builtin; refine wpList_app _ rfl (.tmp 14) (.tmp 15) 22 rfl w.heap.size 5 .u8 i0 _ 1 Try.underlying22 hi hz0 hz1 hz2 rfl _ _ [] rfl (Own.empty w w.heap.size (Nat.le_refl _) .u8 5) _ _ _ l rfl (hb.alloc (Nat.le_refl _) _) ?_ ?_ ?_ ?_; (simp [maxLen] <;> omega); (simp <;> omega); (simp <;> omega); intro l1 A1 c1 w1 hl1 ho1 hb1')
    obtain rfl : l = l1 := by rw [hl1.out, List.nil_append]
    have hB1 : Below w.heap.size w w1 := ((Below.refl _ w).alloc (Nat.le_refl _) _).trans hb1'
    clear hl1 hb1'
    refine (place_no A1 c1 l a w1 (by omega) HA.out).mono ?_
    rintro e w2 ⟨rfl, rfl⟩
    go_wp2_with fail
    refine (rplace_no A c l a w1 (by omega) HA.out).mono ?_
    rintro e w2 ⟨rfl, rfl⟩
    go_wp2_with fail
    refine (alive_any _).mono ?_
    rintro e w2 ⟨rfl, hB2⟩
    have hO2 := ho1.below hB2 (Nat.le_refl _)
    have hB : Below w.heap.size w w2 := hB1.trans (hB2.mono hB1.size)
    have hsA : (convert 22 9 (.slice A1 l.length c1)).run Try.prog w2 = .ok (.string (strOfNums l)) w2 := run_str w2 22 5 9 Try.underlying22 Try.underlying5 Try.underlying9 _ A1 c1 l hO2.bs
    have hsB : (convert 22 9 (.slice A l.length c)).run Try.prog w2 = .ok (.string (strOfNums l)) w2 := run_str w2 22 5 9 Try.underlying22 Try.underlying5 Try.underlying9 _ A c l (hb.below hB)
    have hsN : (convert 22 9 (.slice none 0 0)).run Try.prog w2 = .ok (.string (strOfNums [])) w2 := run_str w2 22 5 9 Try.underlying22 Try.underlying5 Try.underlying9 0 none 0 [] (Bs.nil _)
    clear hB2 hB1 ho1
    go_wp2
    go_ret
    exact ⟨rfl, hB⟩
  · obtain ⟨n, rfl⟩ := Int.eq_ofNat_of_zero_le (show 0 ≤ a by omega)
    have hn : n + 2 ≤ l.length := by omega
    clear ha
    go_enter Try.func4, Try.ntmps4
    go_wp2_with (at_builtin; refine wpList_app _ rfl (.tmp 14) (.tmp 15) 22 rfl w.heap.size 5 .u8 i0 _ 1 Try.underlying22 hi hz0 hz1 hz2 rfl _ _ [] rfl (Own.empty w w.heap.size (Nat.le_refl _) .u8 5) _ _ _ l rfl (hb.alloc (Nat.le_refl _) _) ?_ ?_ ?_ ?_; (simp [maxLen] <;> omega); (simp <;> omega); (simp <;> omega); intro l1 A1 c1 w1 hl1 ho1 hb1')
    obtain rfl : l = l1 := by rw [hl1.out, List.nil_append]
    have hB1 : Below w.heap.size w w1 := ((Below.refl _ w).alloc (Nat.le_refl _) _).trans hb1'
    clear hl1 hb1'
    refine (place_ok A1 c1 l _ n w1 ho1.bs hy (Nat.le_refl _) (by omega) hn).mono ?_
    rintro e w2 ⟨A2, c2, L2, hL2, rfl, hO2, hB2⟩
    go_wp2_with fail
    have hs1 := hB1.size
    have hs2 := hB2.size
    refine (rplace_ok A c l w.heap.size n w2 ((hb.below hB1).below (hB2.mono hs1)) hy (by omega) (by omega) hn).mono ?_
    rintro e w3 ⟨A3, c3, L3, hL3, rfl, hO3, hB3⟩
    have hs3 := hB3.size
    obtain rfl : L2 = L3 := by rw [hL2.out, hL3.out]
    have hO23 := hO2.below hB3 (Nat.le_refl _)
    have hB13 : Below w1.heap.size w1 w3 := hB2.trans (hB3.mono hs2)
    have hO13 := ho1.below hB13 (Nat.le_refl _)
    go_wp2_with fail
    refine (alive_any _).mono ?_
    rintro e w4 ⟨rfl, hB4⟩
    have hB : Below w.heap.size w w4 := (hB1.trans (hB13.mono hs1)).trans (hB4.mono (by omega))
    have hsA : (convert 22 9 (.slice A1 l.length c1)).run Try.prog w4 = .ok (.string (strOfNums l)) w4 := run_str w4 22 5 9 Try.underlying22 Try.underlying5 Try.underlying9 _ A1 c1 l (hO13.below hB4 (Nat.le_refl _)).bs
    have hsB : (convert 22 9 (.slice A l.length c)).run Try.prog w4 = .ok (.string (strOfNums l)) w4 := run_str w4 22 5 9 Try.underlying22 Try.underlying5 Try.underlying9 _ A c l (hb.below hB)
    have hsC : (convert 22 9 (.slice A2 L2.length c2)).run Try.prog w4 = .ok (.string (strOfNums L2)) w4 := run_str w4 22 5 9 Try.underlying22 Try.underlying5 Try.underlying9 _ A2 c2 L2 (hO23.below hB4 (Nat.le_refl _)).bs
    have hsD : (convert 22 9 (.slice A3 L2.length c3)).run Try.prog w4 = .ok (.string (strOfNums L2)) w4 := run_str w4 22 5 9 Try.underlying22 Try.underlying5 Try.underlying9 _ A3 c3 L2 (hO3.below hB4 (Nat.le_refl _)).bs
    clear hB4 hB13 hB3 hB2 hB1 hO2 hO23 hO3 ho1 hO13
    go_wp2
    go_ret
    exact ⟨rfl, hB⟩
end Go.Proofs.Ytgdjckijbakmaaa
