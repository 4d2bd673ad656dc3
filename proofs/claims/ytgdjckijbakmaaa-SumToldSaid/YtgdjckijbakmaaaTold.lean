/-
  The walk of the law SumTold: for every bytes it returns true and writes nothing that was there before. No conditions.
-/
import Derived.Test.YtgdjckijbakmaaaAlive
namespace Go.Proofs.Ytgdjckijbakmaaa
open Go.RowKit

set_option maxHeartbeats 2000000 in
theorem told_walk (A : Option Addr) (c : Nat) (l : List Int) (w : World) (hb : Bs .u8 w w.heap.size A l) (hy : Byt l) :
    Calls Try.prog 3 #[.slice A l.length c] w fun e w' => e = .returned (.bool true) ∧ Below w.heap.size w w' := by
  by_cases hl : 2000 < l.length
  · go_enter Try.func3, Try.ntmps3
    go_wp2_with (go_at_call 8; refine (alive_any _).mono ?_; rintro e w' ⟨rfl, hB⟩)
    go_ret
    exact ⟨rfl, hB⟩
  have hl' : l.length ≤ 2000 := by omega
  obtain ⟨i0, hi, hz0, hz1, hz2⟩ := info_parts info5
  go_enter Try.func3, Try.ntmps3
  go_wp2_with (at_builtin; refine wpList_app _ rfl (.tmp 13) (.tmp 14) 22 rfl w.heap.size 5 .u8 i0 _ 1 Try.underlying22 hi hz0 hz1 hz2 rfl _ _ [] rfl (Own.empty w w.heap.size (Nat.le_refl _) .u8 5) _ _ _ l rfl (hb.alloc (Nat.le_refl _) _) ?_ ?_ ?_ ?_; (simp [maxLen] <;> omega); (simp <;> omega); (simp <;> omega); intro l1 A1 c1 w1 hl1 ho1 hb1')
  obtain rfl : l = l1 := by rw [hl1.out, List.nil_append]
  have hB1 : Below w.heap.size w w1 := ((Below.refl _ w).alloc (Nat.le_refl _) _).trans hb1'
  clear hl1 hb1'
  have hbs := ho1.bs
  refine (pair_any A1 c1 l _ w1 hbs hy (by omega)).mono ?_
  rintro e w2 ⟨rfl, rfl⟩
  go_wp2_with fail
  refine (rpair_any A c l _ w1 (hb.below hB1) hy (by omega)).mono ?_
  rintro e w2 ⟨rfl, rfl⟩
  go_wp2_with fail
  refine (rinet_any A c l _ w1 (hb.below hB1) hy (by omega)).mono ?_
  rintro e w2 ⟨rfl, rfl⟩
  go_wp2_with fail
  refine (alive_any _).mono ?_
  rintro e w2 ⟨rfl, hB2⟩
  have hO2 := ho1.below hB2 (Nat.le_refl _)
  have hB : Below w.heap.size w w2 := hB1.trans (hB2.mono hB1.size)
  have hbs2 := hO2.bs
  have hb2 := hb.below hB
  have hsA : (convert 22 9 (.slice A1 l.length c1)).run Try.prog w2 = .ok (.string (strOfNums l)) w2 := run_str w2 22 5 9 Try.underlying22 Try.underlying5 Try.underlying9 _ A1 c1 l hbs2
  have hsB : (convert 22 9 (.slice A l.length c)).run Try.prog w2 = .ok (.string (strOfNums l)) w2 := run_str w2 22 5 9 Try.underlying22 Try.underlying5 Try.underlying9 _ A c l hb2
  clear hB2 hB1 hbs ho1
  go_wp2_with fail
  refine (inet_any A1 c1 l _ w2 hbs2 hy (by omega)).mono ?_
  rintro e w3 ⟨rfl, rfl⟩
  go_wp2_with fail
  refine (holds_any A1 c1 l _ w2 hbs2 hy (by omega)).mono ?_
  rintro e w3 ⟨rfl, rfl⟩
  go_wp2_with fail
  refine (fits_any A1 c1 l _ w2 hbs2 hy (by omega)).mono ?_
  rintro e w3 ⟨rfl, rfl⟩
  go_wp2_with fail
  refine (rfits_any A c l _ w2 hb2 hy (by omega)).mono ?_
  rintro e w3 ⟨rfl, rfl⟩
  go_wp2
  go_ret
  exact ⟨rfl, hB⟩
end Go.Proofs.Ytgdjckijbakmaaa
