/-
  Contract of the reference's Place. No statement is proved here.
-/
import Derived.Test.YtgdjckijbakmaaaFit
namespace Go.Proofs.Ytgdjckijbakmaaa
open Go.RowKit

theorem rplace_no (A : Option Addr) (c : Nat) (l : List Int) (a : Int) (w : World) (hl : l.length ≤ 4000) (h : a < 0 ∨ (l.length : Int) - 2 < a) :
    Calls Try.prog 17 #[.slice A l.length c, .int .i64 a] w fun e w' => e = .returned (.tuple #[.slice none 0 0, .int .i64 1]) ∧ w = w' := by
  by_cases h0 : a < 0
  · go_enter Try.func17, Try.ntmps17
    go_wp2
    go_ret2
    exact ⟨rfl, rfl⟩
  · have h1 : (l.length : Int) - 2 < a := by omega
    clear h
    go_enter Try.func17, Try.ntmps17
    go_wp2
    go_ret2
    exact ⟨rfl, rfl⟩

set_option maxHeartbeats 2000000 in
theorem rplace_ok (A : Option Addr) (c : Nat) (l : List Int) (B : Nat) (a : Nat) (w : World) (hb : Bs .u8 w B A l) (hy : Byt l) (hB : B ≤ w.heap.size) (hl : l.length ≤ 4000) (h : a + 2 ≤ l.length) :
    Calls Try.prog 17 #[.slice A l.length c, .int .i64 a] w fun e w' => ∃ A' c' L, Hid (L = placed l a) ∧ e = .returned (.tuple #[.slice A' L.length c', .int .i64 0]) ∧ Own .u8 5 w' w.heap.size A' c' L ∧ Below w.heap.size w w' := by
  obtain ⟨i0, hi, hz0, hz1, hz2⟩ := info_parts info5
  have t1 : ¬ (a : Int) < 0 := by omega
  have t2 : ¬ ((l.length : Int) - 2 < (a : Int)) := by omega
  have t3 : ¬ (4000 < (l.length : Int)) := by omega
  go_enter Try.func17, Try.ntmps17
  go_wp2_with (at_builtin; refine wpList_app _ rfl (.tmp 25) (.tmp 26) 22 rfl w.heap.size 5 .u8 i0 _ 1 Try.underlying22 hi hz0 hz1 hz2 rfl _ _ [] rfl (Own.empty w w.heap.size (Nat.le_refl _) .u8 5) _ _ _ l rfl (hb.alloc hB _) ?_ ?_ ?_ ?_; (simp [maxLen] <;> omega); (simp <;> omega); (simp <;> omega); intro l1 A1 c1 w1 hl1 hO1 hb1'; obtain rfl : l = l1 := by {rw [hl1.out, List.nil_append]}; obtain ⟨g, hg0, hA1, hgl⟩ : ∃ g, w.heap.size ≤ g ∧ A1 = some ⟨g, 0, none⟩ ∧ g < w1.heap.size := by {rcases hO1.form with ⟨_, _, hn⟩ | ⟨g, _, hA, hg, hlt, _⟩; {rw [hn] at h; simp at h}; {exact ⟨g, hg, hA, hlt⟩}}; subst hA1; have hc1 := hO1.cellAt (i := a) (by omega); have hf1 := hO1.frozen a; have hO3 := hO1.set a 0; have hc2 := hO3.cellAt (i := a + 1) (by rw [List.length_set]; omega); have hf2 := hO3.frozen (a + 1); have hO4 := hO3.set (a + 1) 0; have hbz := hO4.bs)
  have hP := rpair_any (some ⟨g, 0, none⟩) c1 (two l a 0 0) _ _ hbz (two_byt hy a 0 0 (by decide) (by decide)) (by rw [two_length]; omega)
  rw [two_length] at hP
  refine hP.mono ?_
  rintro e w' ⟨rfl, rfl⟩
  have hB1 : Below w.heap.size w w1 := ((Below.refl _ w).alloc (Nat.le_refl _) _).trans hb1'
  have hB4 : Below w.heap.size w _ := (hB1.setCell (p := ⟨g, a, none⟩) hg0 (.int .u8 0)).setCell (p := ⟨g, a + 1, none⟩) hg0 (.int .u8 0)
  change Own .u8 5 _ w.heap.size _ _ (two l a 0 0) at hO4
  generalize (w1.setCell ⟨g, a, none⟩ (.int .u8 0)).setCell ⟨g, a + 1, none⟩ (.int .u8 0) = w4 at hO4 hB4 ⊢
  clear hP hbz hO3 hc1 hc2 hf1 hf2 hO1 hB1 hb1' hgl w1 hb hi hz0 hz1 hz2 hl1
  have hX1 := Lib.hid (right_x l a)
  have hX2 := Lib.hid (right_y l a)
  have hXb := placeX_bd l a
  obtain ⟨X, hX⟩ : ∃ X, Hid (p0 (two l a 0 0) = X) := ⟨_, rfl⟩
  obtain ⟨Y, hY⟩ : ∃ Y, Hid (p1 (two l a 0 0) = Y) := ⟨_, rfl⟩
  have bX := p0_bd (two l a 0 0)
  have bY := p1_bd (two l a 0 0)
  rw [hX.out] at bX hX1 hX2
  rw [hY.out] at bY hX1
  rw [hX.out, hY.out]
  obtain ⟨bX0, bX1⟩ := bX
  obtain ⟨bY0, bY1⟩ := bY
  have HP : Hid (placed l a = two (two l a 0 0) a (placeX l a) (placeY l a)) := by
    show _ = _
    rw [two_two]; rfl
  have hYb := placeY_bd l a
  generalize placeX l a = PX at HP hX1 hX2 hXb
  generalize placeY l a = PY at HP hX2 hYb
  obtain ⟨hXb0, hXb1⟩ := hXb
  obtain ⟨hYb0, hYb1⟩ := hYb
  go_wp2_with fail
  go_loop [9, 10] (fun x _ => ∃ k : Int, x = .int .i64 k ∧ 1 ≤ k ∧ k ≤ PX) (fun x _ => (256 - intOf x).toNat)
  case atStart => exact ⟨1, rfl, by decide, hXb0⟩
  case round =>
    obtain ⟨k, rfl, hk0, hk1⟩ := hrel
    have hk2 : k ≤ 255 := by omega
    go_wp2_with fail
    go_loop [10] (fun y => ∃ m : Int, y = .int .i64 m ∧ 1 ≤ m ∧ m ≤ 509 ∧ Hid (nz m = nz (-X - k))) (fun y => (intOf y).toNat)
    case atStart => exact ⟨510 - X - k, rfl, by omega, by omega, (by show _ = _; unfold nz; omega)⟩
    case round =>
      obtain ⟨m, rfl, hm0, hm1, hm⟩ := hrel
      by_cases hgt : 255 < m
      · go_wp2
        go_round
        case rel => exact ⟨m - 255, rfl, by omega, by omega, (by show _ = _; rw [← hm.out]; unfold nz; omega)⟩
        case measure => simp [intOf]; omega
      · have hm2 : m ≤ 255 := by omega
        have HM : Hid (nz (-X - k) = m) := by show _ = _; rw [← hm.out]; unfold nz; omega
        clear hm
        go_wp2_with fail
        go_loop [10] (fun y => y = .int .i64 m) (fun _ => 0)
        case atStart => rfl
        case round =>
          subst hrel
          have q0 : 0 ≤ k * ((l.length : Int) - a) := Int.mul_nonneg (by omega) (by omega)
          have q1 : k * ((l.length : Int) - a) ≤ 255 * 4000 := Int.mul_le_mul (by omega) (by omega) (by omega) (by omega)
          have q2 : 0 ≤ m * ((l.length : Int) - a - 1) := Int.mul_nonneg (by omega) (by omega)
          have q3 : m * ((l.length : Int) - a - 1) ≤ 255 * 4000 := Int.mul_le_mul (by omega) (by omega) (by omega) (by omega)
          have hX := hX1.out k hk0 hk2
          rw [HM.out] at hX
          by_cases hkx : k = PX
          · have hd : ((Y + k * ((l.length : Int) - a) + m * ((l.length : Int) - a - 1)) % 255 == 0) = true := by simpa using hX.2 hkx
            have HY : Hid (PY = m) := by show _ = _; rw [← hX2.out, ← hkx, HM.out]
            have HK := Lib.hid hkx
            have hc1 := hO4.cellAt (i := a) (by rw [two_length]; omega)
            have hf1 := hO4.frozen a
            have hO5 := hO4.set a k
            have hc2 := hO5.cellAt (i := a + 1) (by rw [List.length_set, two_length]; omega)
            have hf2 := hO5.frozen (a + 1)
            have hO6 := hO5.set (a + 1) m
            clear hO5 hX hkx
            go_wp2
            go_ret2
            refine ⟨_, _, _, ?_, ?_, hO6, ?_⟩
            · show _ = _
              rw [HP.out, HY.out, ← HK.out]; rfl
            · show _ = Ending.returned (.tuple #[.slice _ ((two l a 0 0).set a _ |>.set (a + 1) _).length _, _])
              rw [List.length_set, List.length_set, two_length]
              rfl
            · exact (hB4.setCell (p := ⟨g, a, none⟩) hg0 _).setCell (p := ⟨g, a + 1, none⟩) hg0 _
          · have hd : ((Y + k * ((l.length : Int) - a) + m * ((l.length : Int) - a - 1)) % 255 == 0) = false := by
              rw [beq_eq_false_iff_ne]; exact fun h => hkx (hX.1 h)
            have hk3 : k + 1 ≤ PX := by omega
            clear hX hkx
            go_wp2
            go_round
            case rel => exact ⟨k + 1, rfl, by omega, hk3⟩
            case measure => simp [intOf]; omega
end Go.Proofs.Ytgdjckijbakmaaa
