/-
  Contracts of the reference's Pair and Fits. No statement is proved here; no conditions.
-/
import Derived.Test.YtefbpaebimagaaaPair
namespace Go.Proofs.Ytefbpaebimagaaa
open Go.RowKit

set_option maxHeartbeats 1000000 in
theorem rpair_any (A : Option Addr) (c : Nat) (l : List Int) (B : Nat) (w : World) (hb : Bs .u8 w B A l) (hy : Byt l) (hl : l.length ≤ 10000) :
    Calls Try.prog 84 #[.slice A l.length c] w fun e w' => e = .returned (.tuple #[.int .i64 (p0 l), .int .i64 (p1 l)]) ∧ w = w' := by
  go_enter Try.func84, Try.ntmps84
  go_wp2
  go_loop [4, 5, 6] (fun x y i => ∃ (j : Nat) (X Y : Int), j ≤ l.length ∧ i = .int .i64 j ∧ x = .int .i64 X ∧ y = .int .i64 Y ∧ 0 ≤ X ∧ X < 255 ∧ 0 ≤ Y ∧ Y < 255 ∧ Hid (X = p0 (l.take j) ∧ Y = p1 (l.take j))) (fun _ _ i => l.length - (intOf i).toNat)
  case atStart => exact ⟨0, 0, 0, Nat.zero_le _, rfl, rfl, rfl, by decide, by decide, by decide, by decide, rfl, rfl⟩
  case round =>
    obtain ⟨j, X, Y, hj, rfl, rfl, rfl, hX0, hX1, hY0, hY1, hXY⟩ := hrel
    by_cases hlt : j < l.length
    · obtain ⟨b, off, rfl, _, hc⟩ := hb.at_ hlt
      have hx := hy l[j] (List.getElem_mem hlt)
      obtain ⟨hx0, hx1⟩ := hx
      go_wp2
      go_round
      case rel =>
        have h1 := p0_take l j hlt
        have h2 := p1_take l j hlt
        rw [← hXY.out.1] at h1
        rw [← hXY.out.2, h1] at h2
        exact ⟨j + 1, (X + l[j]) % 255, (Y + (X + l[j]) % 255) % 255, by omega, by go_num, val_int (by omega), val_int (by omega), by omega, by omega, by omega, by omega, ⟨h1.symm, h2.symm⟩⟩
      case measure => simp [intOf]; omega
    · have hE : Hid (X = p0 l ∧ Y = p1 l) := by have := hXY.out; rwa [List.take_of_length_le (by omega)] at this
      go_wp2
      go_ret2
      rw [← hE.out.1, ← hE.out.2]
      exact ⟨rfl, rfl⟩
theorem rfits_any (A : Option Addr) (c : Nat) (l : List Int) (B : Nat) (w : World) (hb : Bs .u8 w B A l) (hy : Byt l) (hl : l.length ≤ 10000) :
    Calls Try.prog 73 #[.slice A l.length c] w fun e w' => e = .returned (.bool (p0 l == 0 && p1 l == 0)) ∧ w = w' := by
  by_cases h : (p0 l == 0) = true
  · go_enter Try.func73, Try.ntmps73
    go_wp2_with (go_at_call 84; refine (rpair_any A c l B w hb hy hl).mono ?_; rintro e w' ⟨rfl, rfl⟩)
    go_ret
    rw [h]
    exact ⟨rfl, rfl⟩
  · have h' : (p0 l == 0) = false := by simpa using h
    clear h
    go_enter Try.func73, Try.ntmps73
    go_wp2_with (go_at_call 84; refine (rpair_any A c l B w hb hy hl).mono ?_; rintro e w' ⟨rfl, rfl⟩)
    go_ret
    rw [h']
    exact ⟨rfl, rfl⟩
end Go.Proofs.Ytefbpaebimagaaa
