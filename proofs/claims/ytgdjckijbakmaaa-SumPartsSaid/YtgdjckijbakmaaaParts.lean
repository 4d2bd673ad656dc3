/-
  The walk of the law SumParts: for every two rows of bytes it returns true and writes nothing that was there before. No conditions.
-/
import Derived.Test.YtgdjckijbakmaaaAlive
import Derived.Test.YtgdjckijbakmaaaFit
namespace Go.Proofs.Ytgdjckijbakmaaa
open Go.RowKit

theorem Bs.pair (w : World) (k : IntKind) (e : TypeId) (x y : Int) : Bs k (w.alloc (.cells #[.int k x, .int k y] e)) (w.alloc (.cells #[.int k x, .int k y] e)).heap.size (some ⟨w.heap.size, 0, none⟩) [x, y] := (Own.lit w 0 (Nat.zero_le _) [x, y] (by simp [maxLen])).bs

theorem parts_not (A A' : Option Addr) (c c' : Nat) (p q : List Int) (w : World) (h : 1000 < p.length ∨ 1000 < q.length ∨ p.length % 2 = 1 ∨ q.length % 2 = 1) (hp : p.length ≤ maxLen) (hq : q.length ≤ maxLen) :
    Calls Try.prog 7 #[.slice A p.length c, .slice A' q.length c'] w fun e w' => e = .returned (.bool true) ∧ Below w.heap.size w w' := by
  unfold maxLen at hp hq
  by_cases h1 : 1000 < p.length
  · clear h
    go_enter Try.func7, Try.ntmps7
    go_wp2_with (go_at_call 8; refine (alive_any _).mono ?_; rintro e w' ⟨rfl, hB⟩)
    go_ret
    exact ⟨rfl, hB⟩
  by_cases h2 : 1000 < q.length
  · clear h
    go_enter Try.func7, Try.ntmps7
    go_wp2_with (go_at_call 8; refine (alive_any _).mono ?_; rintro e w' ⟨rfl, hB⟩)
    go_ret
    exact ⟨rfl, hB⟩
  by_cases h3 : p.length % 2 = 1
  · have hd : ((p.length : Int) % 2 == 1) = true := by rw [emod2, h3]; rfl
    clear h h3
    go_enter Try.func7, Try.ntmps7
    go_wp2_with (go_at_call 8; refine (alive_any _).mono ?_; rintro e w' ⟨rfl, hB⟩)
    go_ret
    exact ⟨rfl, hB⟩
  · have hd : ((p.length : Int) % 2 == 1) = false := by rw [emod2, show p.length % 2 = 0 by omega]; rfl
    have hd2 : ((q.length : Int) % 2 == 1) = true := by rw [emod2, show q.length % 2 = 1 by omega]; rfl
    clear h h3
    go_enter Try.func7, Try.ntmps7
    go_wp2_with (go_at_call 8; refine (alive_any _).mono ?_; rintro e w' ⟨rfl, hB⟩)
    go_ret
    exact ⟨rfl, hB⟩

set_option maxHeartbeats 2000000 in
theorem parts_walk (A A' : Option Addr) (c c' : Nat) (p q : List Int) (w : World) (hb : Bs .u8 w w.heap.size A p) (hb' : Bs .u8 w w.heap.size A' q) (hy : Byt p) (hy' : Byt q) (hp : p.length ≤ maxLen) (hq : q.length ≤ maxLen) :
    Calls Try.prog 7 #[.slice A p.length c, .slice A' q.length c'] w fun e w' => e = .returned (.bool true) ∧ Below w.heap.size w w' := by
  by_cases h : 1000 < p.length ∨ 1000 < q.length ∨ p.length % 2 = 1 ∨ q.length % 2 = 1
  · exact parts_not A A' c c' p q w h hp hq
  have h1 : p.length ≤ 1000 := by omega
  have h2 : q.length ≤ 1000 := by omega
  have h3 : p.length % 2 = 0 := by omega
  have h4 : q.length % 2 = 0 := by omega
  have d3 : ((p.length : Int) % 2 == 1) = false := by rw [emod2, h3]; rfl
  have d4 : ((q.length : Int) % 2 == 1) = false := by rw [emod2, h4]; rfl
  have H3 := Lib.hid h3
  have H4 := Lib.hid h4
  clear h h3 h4 hp hq
  obtain ⟨i0, hi, hz0, hz1, hz2⟩ := info_parts info5
  go_enter Try.func7, Try.ntmps7
  go_wp2_with (first
    | (at_builtin; refine wpList_app _ rfl (.tmp 29) (.tmp 30) 22 rfl w.heap.size 5 .u8 i0 _ 1 Try.underlying22 hi hz0 hz1 hz2 rfl _ _ [] rfl (Own.empty w w.heap.size (Nat.le_refl _) .u8 5) _ _ _ p rfl (hb.alloc (Nat.le_refl _) _) ?_ ?_ ?_ ?_; (simp [maxLen] <;> omega); (simp <;> omega); (simp <;> omega); intro l1 A1 c1 w1 hl1 ho1 hb1'; obtain rfl : p = l1 := (by rw [hl1.out, List.nil_append]); have hB1 : Below w.heap.size w w1 := ((Below.refl _ w).alloc (Nat.le_refl _) _).trans hb1'; clear hl1 hb1'; have hs1 := hB1.size)
    | (at_builtin; refine wpList_app _ rfl (.tmp 31) (.tmp 32) 22 rfl w.heap.size 5 .u8 i0 _ 1 Try.underlying22 hi hz0 hz1 hz2 rfl _ _ p rfl ho1 _ _ _ q rfl (hb'.below hB1) ?_ ?_ ?_ ?_; (simp [maxLen] <;> omega); (simp <;> omega); exact hs1; intro l2 A2 c2 w2 hl2 ho2 hb2'; have hB2 : Below w.heap.size w w2 := hB1.trans hb2'; clear hb2'; have hs2 := hB2.size)
    | (at_builtin; refine wpList_app _ rfl (.tmp 34) (.tmp 35) 22 rfl w2.heap.size 5 .u8 i0 _ 1 Try.underlying22 hi hz0 hz1 hz2 rfl _ _ [] rfl (Own.empty w2 w2.heap.size (Nat.le_refl _) .u8 5) _ _ _ q rfl ((hb'.below hB2).alloc hs2 _) ?_ ?_ ?_ ?_; (simp [maxLen] <;> omega); (simp <;> omega); (simp <;> omega); intro l3 A3 c3 w3 hl3 ho3 hb3'; obtain rfl : q = l3 := (by rw [hl3.out, List.nil_append]); have hB3 : Below w2.heap.size w2 w3 := ((Below.refl _ w2).alloc (Nat.le_refl _) _).trans hb3'; clear hl3 hb3'; have hs3 := hB3.size)
    | (at_builtin; refine wpList_app _ rfl (.tmp 36) (.tmp 37) 22 rfl w2.heap.size 5 .u8 i0 _ 1 Try.underlying22 hi hz0 hz1 hz2 rfl _ _ q rfl ho3 _ _ _ p rfl ((hb.below hB2).below (hB3.mono hs2)) ?_ ?_ ?_ ?_; (simp [maxLen] <;> omega); (simp <;> omega); exact hs3; intro l4 A4 c4 w4 hl4 ho4 hb4'; have hB4 : Below w2.heap.size w2 w4 := hB3.trans hb4'; clear hb4'; have hs4 := hB4.size))
  have hO2 := ho2.below hB4 (Nat.le_refl _)
  have hB04 : Below w.heap.size w w4 := hB2.trans (hB4.mono hs2)
  have L2 : l2.length ≤ 2000 := by rw [hl2.out, List.length_append]; omega
  have L4 : l4.length ≤ 2000 := by rw [hl4.out, List.length_append]; omega
  have y2 : Byt l2 := by rw [hl2.out]; exact hy.append hy'
  have y4 : Byt l4 := by rw [hl4.out]; exact hy'.append hy
  have HS : Hid (inet l4 = inet l2) := by show _ = _; rw [hl2.out, hl4.out, inet_swap _ _ H4.out H3.out]
  have HH : Hid (inet (l2 ++ [inet l2 / 256 % 256, inet l2 % 256]) = 0) := behind_holds l2 y2 (by rw [hl2.out, List.length_append]; have := H3.out; have := H4.out; omega)
  have yH : Byt (l2 ++ [inet l2 / 256 % 256, inet l2 % 256]) := y2.append (by intro x hx; simp at hx; omega)
  have hN := inet_bd l2 y2
  have hblk := ho2.blk_lt
  clear ho1 ho2 ho3 hB1 hB2 hB3 hl2 hl4 H3 H4
  refine (inet_any A2 c2 l2 _ w4 hO2.bs y2 (by omega)).mono ?_
  rintro e w5 ⟨rfl, rfl⟩
  generalize inet l2 = N at HS HH hN yH ⊢
  obtain ⟨hN0, hN1⟩ := hN
  go_wp2_with (at_builtin; refine wpList_appg _ rfl (.tmp 41) (.tmp 47) 22 rfl w.heap.size 5 .u8 i0 _ 1 Try.underlying22 hi hz0 hz1 hz2 rfl A2 c2 l2 rfl (hO2.alloc _) _ _ 2 2 [_, _] rfl rfl (Bs.pair _ _ _ _ _) ?_ ?_ ?_ ?_; (simp [maxLen] <;> omega); (simp <;> omega); (simp <;> omega); intro l6 A6 c6 w6 hl6 ho6 hg6 _)
  have e6 : N / 256 % 256 = N / 256 := by omega
  have H6 : Hid (inet l6 = 0) := by show _ = _; rw [hl6.out, ← e6]; exact HH.out
  have y6 : Byt l6 := by rw [hl6.out, ← e6]; exact yH
  have L6 : l6.length ≤ 2002 := by rw [hl6.out, List.length_append]; simp; omega
  have hB06 : Below w.heap.size w w6 := (hB04.alloc (by omega) _).trans (grown_below hg6 (by simp; omega) (fun g h => (hblk g h).1))
  have hO46 := (ho4.alloc _).grown hg6 (fun g hA hrow => by have h5 := hblk g hrow; have h6 := ho4.blk_lt g (by rw [hA]; rfl); omega)
  have hs6 := hB06.size
  clear hB04 hg6 ho4 hO2 hl6 HH yH e6 hblk hB4
  refine (alive_any _).mono ?_
  rintro e w7 ⟨rfl, hB7⟩
  have hO47 := hO46.below hB7 (Nat.le_refl _)
  have hO67 := ho6.below hB7 (Nat.le_refl _)
  have hB : Below w.heap.size w w7 := hB06.trans (hB7.mono hs6)
  go_wp2_with fail
  refine (inet_any A4 c4 l4 _ w7 hO47.bs y4 (by omega)).mono ?_
  rw [HS.out]
  rintro e w8 ⟨rfl, rfl⟩
  go_wp2_with fail
  refine (holds_any A6 c6 l6 _ w7 hO67.bs y6 (by omega)).mono ?_
  rw [H6.out]
  rintro e w8 ⟨rfl, rfl⟩
  go_wp2
  go_ret
  exact ⟨rfl, hB⟩
end Go.Proofs.Ytgdjckijbakmaaa
