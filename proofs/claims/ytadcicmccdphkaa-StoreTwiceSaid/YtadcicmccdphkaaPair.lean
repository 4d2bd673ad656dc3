/-
  Contracts of both Fletcher pairs. No statement is proved here.
-/
import Derived.Test.YtadcicmccdphkaaSLeaf
namespace Go.Proofs.Ytadcicmccdphkaa
open Go.RowKit

theorem p_nat (l : List Int) : ∃ a b : Nat, p0 l = a ∧ p1 l = b ∧ a < 255 ∧ b < 255 := by
  have h1 := p0_bd l
  have h2 := p1_bd l
  exact ⟨(p0 l).toNat, (p1 l).toNat, by omega, by omega, by omega, by omega⟩

set_option maxHeartbeats 1000000 in
theorem pair_any (A : Option Addr) (c : Nat) (l : List Int) (B : Nat) (w : World) (hb : Bs .u8 w B A l) (hy : Byt l) (hl : l.length ≤ 10000) :
    Calls Try.prog 55 #[.slice A l.length c] w fun e w' => e = .returned (.tuple #[.int .i64 (p0 l), .int .i64 (p1 l)]) ∧ w = w' := by
  go_enter Try.func55, Try.ntmps55
  go_wp2
  go_loop [4, 6, 7, 10] (fun x _ _ i => ∃ (j X Y : Nat), j ≤ l.length ∧ i = .int .i64 j ∧ x = .complex .f64 (fl X) (fl Y) ∧ X < 255 ∧ Y < 255 ∧ Hid ((X : Int) = p0 (l.take j) ∧ (Y : Int) = p1 (l.take j))) (fun _ _ _ i => l.length - (intOf i).toNat)
  case atStart => exact ⟨0, 0, 0, Nat.zero_le _, rfl, by rw [fl_zero], by decide, by decide, rfl, rfl⟩
  case round =>
    obtain ⟨j, X, Y, hj, rfl, rfl, hX, hY, hXY⟩ := hrel
    by_cases hlt : j < l.length
    · obtain ⟨b, off, rfl, _, hc⟩ := hb.at_ hlt
      have hx := hy l[j] (List.getElem_mem hlt)
      obtain ⟨hx0, hx1⟩ := hx
      obtain ⟨v, hv⟩ := Int.eq_ofNat_of_zero_le hx0
      have hv1 : v < 256 := by omega
      have hfv : floatOfInt .f64 l[j] = fl v := by rw [hv]; rfl
      have ha1 := run_float_arith (P := Try.prog) w .add 124 .f64 _ _ _ (fl_add X v hX hv1)
      have ha2 := run_float_arith (P := Try.prog) w .add 124 .f64 _ _ _ (fl_add Y ((X + v) % 255) hY (by omega))
      have HV := Lib.hid hv
      clear hv
      go_wp2_with (go_at_call 74; refine (below_any _ _ (by omega)).mono ?_; rintro e w' ⟨rfl, rfl⟩)
      go_round
      case rel =>
        have h1 := p0_take l j hlt
        have h2 := p1_take l j hlt
        rw [← hXY.out.1, HV.out] at h1
        rw [← hXY.out.2, h1] at h2
        exact ⟨j + 1, (X + v) % 255, (Y + (X + v)) % 255, by omega, by go_num, rfl, by omega, by omega, ⟨by rw [h1]; omega, by rw [h2]; omega⟩⟩
      case measure => simp [intOf]; omega
    · have hE : Hid ((X : Int) = p0 l ∧ (Y : Int) = p1 l) := by have := hXY.out; rwa [List.take_of_length_le (by omega)] at this
      have hc1 := run_convert_float_int (P := Try.prog) w 124 3 .f64 .i64 _ _ (by kernel_rfl) Try.underlying3 (fl_int ⟨X, hX⟩)
      have hc2 := run_convert_float_int (P := Try.prog) w 124 3 .f64 .i64 _ _ (by kernel_rfl) Try.underlying3 (fl_int ⟨Y, hY⟩)
      go_wp2
      go_ret2
      rw [← hE.out.1, ← hE.out.2]
      exact ⟨rfl, rfl⟩
theorem fits_any (A : Option Addr) (c : Nat) (l : List Int) (B : Nat) (w : World) (hb : Bs .u8 w B A l) (hy : Byt l) (hl : l.length ≤ 10000) :
    Calls Try.prog 39 #[.slice A l.length c] w fun e w' => e = .returned (.bool (p0 l == 0 && p1 l == 0)) ∧ w = w' := by
  by_cases h : (p0 l == 0) = true
  · go_enter Try.func39, Try.ntmps39
    go_wp2_with (go_at_call 55; refine (pair_any A c l B w hb hy hl).mono ?_; rintro e w' ⟨rfl, rfl⟩)
    go_ret
    rw [h]
    exact ⟨rfl, rfl⟩
  · have h' : (p0 l == 0) = false := by simpa using h
    clear h
    go_enter Try.func39, Try.ntmps39
    go_wp2_with (go_at_call 55; refine (pair_any A c l B w hb hy hl).mono ?_; rintro e w' ⟨rfl, rfl⟩)
    go_ret
    rw [h']
    exact ⟨rfl, rfl⟩
end Go.Proofs.Ytadcicmccdphkaa
