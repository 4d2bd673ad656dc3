/-
  The contract of the reference's Cut. No statement is proved here.
-/
import Derived.Test.YtmljcjpmekildaaOct
import Derived.Test.YtmljcjpmekildaaMemG
import Derived.Deep.RegionLaw
namespace Go.Proofs.Ytmljcjpmekildaa
open Go.RowKit

theorem own_e1 (w : World) (k : IntKind) (e : TypeId) : Own k e (w.alloc (.cells #[] e)).drew w.heap.size (some ⟨w.heap.size, 0, none⟩) 0 [] := Own.empty w _ (Nat.le_refl _) k e
theorem own_e2 (w : World) (k : IntKind) (e : TypeId) : Own k e ((w.alloc (.cells #[] e)).alloc (.cells #[] e)).drew w.heap.size (some ⟨w.heap.size, 0, none⟩) 0 [] := (own_e1 w k e).alloc _
theorem own_e3 (w : World) (k : IntKind) (e : TypeId) : Own k e ((w.alloc (.cells #[] e)).alloc (.cells #[] e)).drew w.heap.size (some ⟨w.heap.size + 1, 0, none⟩) 0 [] := by
  have h := Own.empty (w.alloc (.cells #[] e)) w.heap.size (by simp) k e
  have e1 : (w.alloc (.cells #[] e)).heap.size = w.heap.size + 1 := by simp
  rw [e1] at h
  exact h

abbrev two (w : World) (e : TypeId) : World := ((w.alloc (.cells #[] e)).alloc (.cells #[] e)).drew
theorem blk_some {n g : Nat} (h : blk (some ⟨n, 0, none⟩) = some g) : n = g := by simpa [blk] using h
theorem two_size (w : World) (e : TypeId) : (two w e).heap.size = w.heap.size + 2 := by simp [two]
theorem below_two (w : World) (e : TypeId) : Below w.heap.size w (two w e) := (((Below.refl _ w).alloc (Nat.le_refl _) _).alloc (by simp) _).drew
section
variable {w w3 w4 : World} {e : TypeId} {k : IntKind} {c3 : Nat} {A3 : Option Addr} {l3 : List Int}
theorem cutA1 (hg : (w.alloc (.cells #[] e)).drew.grownBy w3 (blk (some ⟨w.heap.size, 0, none⟩))) : Below w.heap.size w w3 :=
  ((Below.refl _ w).alloc (Nat.le_refl _) _).drew.trans (grown_below hg (by simp) (fun g h => by have := blk_some h; omega))
theorem cutA2 (hg : (two w e).grownBy w3 (blk (some ⟨w.heap.size, 0, none⟩))) : Below w.heap.size w w3 :=
  (below_two w e).trans (grown_below hg (by rw [two_size]; omega) (fun g h => by have := blk_some h; omega))
theorem cutA3 (hg : (two w e).grownBy w3 (blk (some ⟨w.heap.size + 1, 0, none⟩))) : Below w.heap.size w w3 :=
  (below_two w e).trans (grown_below hg (by rw [two_size]; omega) (fun g h => by have := blk_some h; omega))
theorem place_eq {n g : Nat} (h : (some ⟨n, 0, none⟩ : Option Addr) = some ⟨g, 0, none⟩) : n = g := by injection h with h; injection h
theorem cutB2 (hg : (two w e).grownBy w3 (blk (some ⟨w.heap.size, 0, none⟩))) : Own k e w3 w.heap.size (some ⟨w.heap.size + 1, 0, none⟩) 0 [] :=
  (own_e3 w k e).grown hg (fun g h hr => by have := blk_some hr; have := place_eq h; omega)
theorem cutB3 (hg : (two w e).grownBy w3 (blk (some ⟨w.heap.size + 1, 0, none⟩))) : Own k e w3 w.heap.size (some ⟨w.heap.size, 0, none⟩) 0 [] :=
  (own_e2 w k e).grown hg (fun g h hr => by have := blk_some hr; have := place_eq h; omega)
theorem cutC1 (ho : Own k e w3 w.heap.size A3 c3 l3) (hg : (w3.alloc (.cells #[] e)).grownBy w4 (blk (some ⟨w3.heap.size, 0, none⟩))) : Own k e w4 w.heap.size A3 c3 l3 :=
  (ho.alloc _).grown hg (fun g h hr => by have := ho.blk_lt g (by rw [h]; rfl); have := blk_some hr; omega)
theorem cutC2 (ho : Own k e w3 w.heap.size A3 c3 l3) (hp : blk A3 = blk (some ⟨w.heap.size, 0, none⟩) ∨ blk A3 = some (two w e).heap.size) (hg : w3.grownBy w4 (blk (some ⟨w.heap.size + 1, 0, none⟩))) : Own k e w4 w.heap.size A3 c3 l3 :=
  ho.grown hg (fun g h hr => by
    have h1 := blk_some hr
    rw [h, two_size] at hp
    rcases hp with hp | hp
    · have := blk_some (hp.symm.trans rfl : _ = some g); omega
    · have := blk_some hp; omega)
theorem cutC3 (ho : Own k e w3 w.heap.size A3 c3 l3) (hp : blk A3 = blk (some ⟨w.heap.size + 1, 0, none⟩) ∨ blk A3 = some (two w e).heap.size) (hg : w3.grownBy w4 (blk (some ⟨w.heap.size, 0, none⟩))) : Own k e w4 w.heap.size A3 c3 l3 :=
  ho.grown hg (fun g h hr => by
    have h1 := blk_some hr
    rw [h, two_size] at hp
    rcases hp with hp | hp
    · have := blk_some (hp.symm.trans rfl : _ = some g); omega
    · have := blk_some hp; omega)
theorem cutD1 (hb : Below w.heap.size w w3) (hg : (w3.alloc (.cells #[] e)).grownBy w4 (blk (some ⟨w3.heap.size, 0, none⟩))) : Below w.heap.size w w4 :=
  (hb.alloc hb.size _).trans (grown_below hg (by have := hb.size; simp; omega) (fun g h => by have := blk_some h; have := hb.size; omega))
theorem cutD2 {n : Nat} (hb : Below w.heap.size w w3) (hn : w.heap.size ≤ n) (hg : w3.grownBy w4 (blk (some ⟨n, 0, none⟩))) : Below w.heap.size w w4 :=
  hb.trans (grown_below hg hb.size (fun g h => by have := blk_some h; omega))
end

set_option maxHeartbeats 4000000 in
theorem rcut_any (A : Option Addr) (c : Nat) (l : List Int) (B : Nat) (m : Int) (w : World) (hb : Bs .u8 w B A l) (hc : l.length ≤ c) (hB : B ≤ w.heap.size) (hl : l.length ≤ 100000) :
    Calls Try.prog 14 #[.slice A l.length c, .int .i64 m] w fun e w' => ∃ A1 c1 A2 c2, e = .returned (.tuple #[.slice A1 (cutF l m).length c1, .slice A2 (cutL l m).length c2, .int .i64 (cutE l m)]) ∧ Own .u8 5 w' w.heap.size A1 c1 (cutF l m) ∧ Own .u8 5 w' w.heap.size A2 c2 (cutL l m) ∧ Below w.heap.size w w' := by
  by_cases hm : m < 0
  · have e1 : cutE l m = 1 := by simp [cutE, hm]
    have e2 : cutL l m = [] := by simp [cutL, e1]
    have e3 : cutF l m = [] := by simp [cutF, e1]
    rw [e1, e2, e3]
    clear e1 e2 e3
    go_enter Try.func14, Try.ntmps14
    go_wp2
    go_ret3
    exact ⟨none, 0, none, 0, rfl, Own.nil _ _, Own.nil _ _, Below.refl _ _⟩
  · have h0 : 0 ≤ m := by omega
    by_cases hf : (l.length : Int) < m
    · have e1 : cutE l m = 2 := by simp [cutE, hm, hf]
      have e2 : cutL l m = [] := by simp [cutL, e1]
      have e3 : cutF l m = [] := by simp [cutF, e1]
      rw [e1, e2, e3]
      clear hm e1 e2 e3
      go_enter Try.func14, Try.ntmps14
      go_wp2
      go_ret3
      exact ⟨none, 0, none, 0, rfl, Own.nil _ _, Own.nil _ _, Below.refl _ _⟩
    · have e1 : cutE l m = 0 := by simp [cutE, hm, hf]
      have e2 : cutL l m = l.drop m.toNat := by simp [cutL, e1]
      have e3 : cutF l m = l.take m.toNat := by simp [cutF, e1]
      rw [e1, e2, e3]
      have hf' : m ≤ (l.length : Int) := by omega
      clear hm e1 e2 e3 hf
      have hcm : m ≤ (c : Int) := by omega
      obtain ⟨i0, hi, hz0, hz1, hz2⟩ := info_parts info5
      by_cases hcc : c = m.toNat
      · subst hcc
        have hd : Bs .u8 w B A (l.drop m.toNat) := hb.drop _ _ (fun h => by omega)
        have hmx : m ≤ max m 0 := by omega
        go_enter Try.func14, Try.ntmps14
        go_wp2_with fail
        go_region_law (first | (refine step_appg _ rfl (.tmp 13) (.tmp 16) 22 rfl w.heap.size 5 .u8 i0 _ 1 Try.underlying22 hi hz0 hz1 hz2 rfl _ _ [] rfl ?_ B _ _ _ (l.take m.toNat) rfl ?_ ?_ ?_ ?_ ?_ ?_; (first | exact own_e1 w _ _ | exact own_e2 w _ _ | exact own_e3 w _ _); (simp only [List.length_take] <;> omega); (first | exact ((hb.take _).alloc hB _) | exact (((hb.take _).alloc hB _).alloc (by simp; omega) _)); (simp [maxLen] <;> omega); (simp <;> omega); (simp <;> omega); intro l3 A3 c3 w3 hl3 ho3 hg3 hp3; have hBw : Below w.heap.size w w3 := (by first | exact cutA1 hg3 | exact cutA2 hg3 | exact cutA3 hg3); have hs3 := hBw.size) | (refine step_appg _ rfl (.tmp 18) (.tmp 21) 22 rfl w.heap.size 5 .u8 i0 _ 1 Try.underlying22 hi hz0 hz1 hz2 rfl _ _ [] rfl ?_ B _ _ _ (l.drop m.toNat) rfl ?_ ?_ ?_ ?_ ?_ ?_; (first | exact Own.empty w3 w.heap.size hs3 _ _ | exact cutB2 hg3 | exact cutB3 hg3); (simp only [List.length_drop] <;> omega); (first | exact (hd.below (hBw.mono hB)).alloc (by omega) _ | exact hd.below (hBw.mono hB)); (simp [maxLen] <;> omega); (simp <;> omega); (first | exact hs3 | (simp <;> omega)); intro l4 A4 c4 w4 hl4 ho4 hg4 _; have hO34 : Own .u8 5 w4 w.heap.size A3 c3 l3 := (by first | exact cutC1 ho3 hg4 | exact cutC2 ho3 hp3 hg4 | exact cutC3 ho3 hp3 hg4); have hBw4 : Below w.heap.size w w4 := (by first | exact cutD1 hBw hg4 | exact cutD2 hBw (Nat.le_refl _) hg4 | exact cutD2 hBw (Nat.le_succ _) hg4)))
        all_goals
          go_wp2
          go_ret3
          rw [show l.take m.toNat = l3 by rw [hl3.out, List.nil_append], show l.drop m.toNat = l4 by rw [hl4.out, List.nil_append]]
          exact ⟨_, _, _, _, rfl, hO34, ho4, hBw4⟩
      · have hcc' : ¬ (m.toNat = c) := fun h => hcc h.symm
        have hd : ∀ A', A' = A.map (·.add m.toNat) → Bs .u8 w B A' (l.drop m.toNat) := fun A' h => hb.drop _ _ (fun _ => h)
        rcases A with _ | ad
        · have hd' := hd none rfl
          go_enter Try.func14, Try.ntmps14
          go_wp2_with fail
          go_region_law (first | (refine step_appg _ rfl (.tmp 13) (.tmp 16) 22 rfl w.heap.size 5 .u8 i0 _ 1 Try.underlying22 hi hz0 hz1 hz2 rfl _ _ [] rfl ?_ B _ _ _ (l.take m.toNat) rfl ?_ ?_ ?_ ?_ ?_ ?_; (first | exact own_e1 w _ _ | exact own_e2 w _ _ | exact own_e3 w _ _); (simp only [List.length_take] <;> omega); (first | exact ((hb.take _).alloc hB _) | exact (((hb.take _).alloc hB _).alloc (by simp; omega) _)); (simp [maxLen] <;> omega); (simp <;> omega); (simp <;> omega); intro l3 A3 c3 w3 hl3 ho3 hg3 hp3; have hBw : Below w.heap.size w w3 := (by first | exact cutA1 hg3 | exact cutA2 hg3 | exact cutA3 hg3); have hs3 := hBw.size) | (refine step_appg _ rfl (.tmp 18) (.tmp 21) 22 rfl w.heap.size 5 .u8 i0 _ 1 Try.underlying22 hi hz0 hz1 hz2 rfl _ _ [] rfl ?_ B _ _ _ (l.drop m.toNat) rfl ?_ ?_ ?_ ?_ ?_ ?_; (first | exact Own.empty w3 w.heap.size hs3 _ _ | exact cutB2 hg3 | exact cutB3 hg3); (simp only [List.length_drop] <;> omega); (first | exact (hd'.below (hBw.mono hB)).alloc (by omega) _ | exact hd'.below (hBw.mono hB)); (simp [maxLen] <;> omega); (simp <;> omega); (first | exact hs3 | (simp <;> omega)); intro l4 A4 c4 w4 hl4 ho4 hg4 _; have hO34 : Own .u8 5 w4 w.heap.size A3 c3 l3 := (by first | exact cutC1 ho3 hg4 | exact cutC2 ho3 hp3 hg4 | exact cutC3 ho3 hp3 hg4); have hBw4 : Below w.heap.size w w4 := (by first | exact cutD1 hBw hg4 | exact cutD2 hBw (Nat.le_refl _) hg4 | exact cutD2 hBw (Nat.le_succ _) hg4)))
          all_goals
            go_wp2
            go_ret3
            rw [show l.take m.toNat = l3 by rw [hl3.out, List.nil_append], show l.drop m.toNat = l4 by rw [hl4.out, List.nil_append]]
            exact ⟨_, _, _, _, rfl, hO34, ho4, hBw4⟩
        · have hd' := hd _ rfl
          go_enter Try.func14, Try.ntmps14
          go_wp2_with fail
          go_region_law (first | (refine step_appg _ rfl (.tmp 13) (.tmp 16) 22 rfl w.heap.size 5 .u8 i0 _ 1 Try.underlying22 hi hz0 hz1 hz2 rfl _ _ [] rfl ?_ B _ _ _ (l.take m.toNat) rfl ?_ ?_ ?_ ?_ ?_ ?_; (first | exact own_e1 w _ _ | exact own_e2 w _ _ | exact own_e3 w _ _); (simp only [List.length_take] <;> omega); (first | exact ((hb.take _).alloc hB _) | exact (((hb.take _).alloc hB _).alloc (by simp; omega) _)); (simp [maxLen] <;> omega); (simp <;> omega); (simp <;> omega); intro l3 A3 c3 w3 hl3 ho3 hg3 hp3; have hBw : Below w.heap.size w w3 := (by first | exact cutA1 hg3 | exact cutA2 hg3 | exact cutA3 hg3); have hs3 := hBw.size) | (refine step_appg _ rfl (.tmp 18) (.tmp 21) 22 rfl w.heap.size 5 .u8 i0 _ 1 Try.underlying22 hi hz0 hz1 hz2 rfl _ _ [] rfl ?_ B _ _ _ (l.drop m.toNat) rfl ?_ ?_ ?_ ?_ ?_ ?_; (first | exact Own.empty w3 w.heap.size hs3 _ _ | exact cutB2 hg3 | exact cutB3 hg3); (simp only [List.length_drop] <;> omega); (first | exact (hd'.below (hBw.mono hB)).alloc (by omega) _ | exact hd'.below (hBw.mono hB)); (simp [maxLen] <;> omega); (simp <;> omega); (first | exact hs3 | (simp <;> omega)); intro l4 A4 c4 w4 hl4 ho4 hg4 _; have hO34 : Own .u8 5 w4 w.heap.size A3 c3 l3 := (by first | exact cutC1 ho3 hg4 | exact cutC2 ho3 hp3 hg4 | exact cutC3 ho3 hp3 hg4); have hBw4 : Below w.heap.size w w4 := (by first | exact cutD1 hBw hg4 | exact cutD2 hBw (Nat.le_refl _) hg4 | exact cutD2 hBw (Nat.le_succ _) hg4)))
          all_goals
            go_wp2
            go_ret3
            rw [show l.take m.toNat = l3 by rw [hl3.out, List.nil_append], show l.drop m.toNat = l4 by rw [hl4.out, List.nil_append]]
            exact ⟨_, _, _, _, rfl, hO34, ho4, hBw4⟩
end Go.Proofs.Ytmljcjpmekildaa
