/-
  Contracts of both internet checksums and both Fletcher pairs. No statement is proved here.
-/
import Derived.Test.YtfhickgdmcmodaaSLeaf
namespace Go.Proofs.Ytfhickgdmcmodaa
open Go.RowKit

theorem emod2 (j : Nat) : (j : Int) % 2 = ((j % 2 : Nat) : Int) := by omega
theorem isum_lim (l : List Int) (hy : Byt l) (hl : l.length ≤ 10000) (j : Nat) : 0 ≤ isum (l.take j) 0 ∧ isum (l.take j) 0 ≤ 652800000 := by
  have h := isum_bd (l.take j) (hy.take j) 0
  have h2 : (l.take j).length ≤ 10000 := by rw [List.length_take]; omega
  omega

set_option maxHeartbeats 1000000 in
theorem inet_any (A : Option Addr) (c : Nat) (l : List Int) (B : Nat) (w : World) (hb : Bs .u8 w B A l) (hy : Byt l) (hl : l.length ≤ 10000) :
    Calls Try.prog 29 #[.slice A l.length c] w fun e w' => e = .returned (.int .i64 (inet l)) ∧ w = w' := by
  go_enter Try.func29, Try.ntmps29
  go_wp2
  go_loop [3, 4, 5, 8] (fun n _ _ i => ∃ (j : Nat) (N : Int), j ≤ l.length ∧ i = .int .i64 j ∧ n = .int .u64 N ∧ 0 ≤ N ∧ N ≤ 652800000 ∧ Hid (N = isum (l.take j) 0)) (fun _ _ _ i => l.length - (intOf i).toNat)
  case atStart => exact ⟨0, 0, Nat.zero_le _, rfl, rfl, by decide, by decide, rfl⟩
  case round =>
    obtain ⟨j, N, hj, rfl, rfl, hN0, hN1, hN⟩ := hrel
    by_cases hlt : j < l.length
    · obtain ⟨b, off, rfl, _, hc⟩ := hb.at_ hlt
      have hx := hy l[j] (List.getElem_mem hlt)
      obtain ⟨hx0, hx1⟩ := hx
      have hs := Lib.hid (isum_take l j hlt)
      have hbd := isum_lim l hy hl (j + 1)
      rw [hs.out, ← hN.out] at hbd
      by_cases hp : j % 2 = 0
      · have hd : ((j : Int) % 2 == 0) = true := by rw [emod2, hp]; rfl
        rw [if_pos hp] at hbd
        have HP := Lib.hid hp
        clear hp
        go_wp2
        go_round
        case rel => exact ⟨j + 1, N + 256 * l[j], by omega, by go_num, val_int (by omega), by omega, by omega, (by show _ = _; rw [hs.out, ← hN.out, if_pos HP.out])⟩
        case measure => simp [intOf]; omega
      · have hd : ((j : Int) % 2 == 0) = false := by rw [emod2, show j % 2 = 1 by omega]; rfl
        rw [if_neg hp] at hbd
        have HP := Lib.hid hp
        clear hp
        go_wp2
        go_round
        case rel => exact ⟨j + 1, N + l[j], by omega, by go_num, val_int (by omega), by omega, by omega, (by show _ = _; rw [hs.out, ← hN.out, if_neg HP.out])⟩
        case measure => simp [intOf]; omega
    · have hE : Hid (N = isum l 0) := by show _ = _; rw [hN.out, List.take_of_length_le (by omega)]
      have hf := fold_bd N hN0
      go_wp2_with (go_at_call 34; refine (fold_any _ _ hN0 (by omega)).mono ?_; rintro e w' ⟨rfl, rfl⟩)
      go_ret
      exact ⟨ret_int (by unfold inet; rw [← hE.out]), rfl⟩

set_option maxHeartbeats 1000000 in
theorem rinet_any (A : Option Addr) (c : Nat) (l : List Int) (B : Nat) (w : World) (hb : Bs .u8 w B A l) (hy : Byt l) (hl : l.length ≤ 10000) :
    Calls Try.prog 21 #[.slice A l.length c] w fun e w' => e = .returned (.int .i64 (inet l)) ∧ w = w' := by
  go_enter Try.func21, Try.ntmps21
  go_wp2
  go_loop [3, 4] (fun n i => ∃ (j : Nat) (N : Int), j ≤ l.length ∧ i = .int .i64 j ∧ n = .int .i64 N ∧ 0 ≤ N ∧ N ≤ 652800000 ∧ Hid (N = isum (l.take j) 0)) (fun _ i => l.length - (intOf i).toNat)
  case atStart => exact ⟨0, 0, Nat.zero_le _, rfl, rfl, by decide, by decide, rfl⟩
  case round =>
    obtain ⟨j, N, hj, rfl, rfl, hN0, hN1, hN⟩ := hrel
    by_cases hlt : j < l.length
    · obtain ⟨b, off, rfl, _, hc⟩ := hb.at_ hlt
      have hx := hy l[j] (List.getElem_mem hlt)
      obtain ⟨hx0, hx1⟩ := hx
      have hs := Lib.hid (isum_take l j hlt)
      have hbd := isum_lim l hy hl (j + 1)
      rw [hs.out, ← hN.out] at hbd
      by_cases hp : j % 2 = 0
      · have hd : ((j : Int) % 2 == 0) = true := by rw [emod2, hp]; rfl
        rw [if_pos hp] at hbd
        have HP := Lib.hid hp
        clear hp
        go_wp2
        go_round
        case rel => exact ⟨j + 1, N + 256 * l[j], by omega, by go_num, val_int (by omega), by omega, by omega, (by show _ = _; rw [hs.out, ← hN.out, if_pos HP.out])⟩
        case measure => simp [intOf]; omega
      · have hd : ((j : Int) % 2 == 0) = false := by rw [emod2, show j % 2 = 1 by omega]; rfl
        rw [if_neg hp] at hbd
        have HP := Lib.hid hp
        clear hp
        go_wp2
        go_round
        case rel => exact ⟨j + 1, N + l[j], by omega, by go_num, val_int (by omega), by omega, by omega, (by show _ = _; rw [hs.out, ← hN.out, if_neg HP.out])⟩
        case measure => simp [intOf]; omega
    · have hE : Hid (N = isum l 0) := by show _ = _; rw [hN.out, List.take_of_length_le (by omega)]
      go_wp2
      go_loop [3] (fun v => ∃ m : Int, v = .int .i64 m ∧ 0 ≤ m ∧ m < 1000000000 ∧ Hid (fold m = fold N)) (fun v => (intOf v).toNat)
      case atStart => exact ⟨N, rfl, hN0, by omega, rfl⟩
      case round =>
        obtain ⟨m, rfl, hm0, hm1, hm⟩ := hrel
        by_cases hlt : 65535 < m
        · go_wp2
          go_round
          case rel => exact ⟨m / 65536 + m % 65536, val_int (by omega), by omega, by omega, (by show _ = _; rw [fold_step m hlt, hm.out])⟩
          case measure => simp [intOf]; omega
        · go_wp2
          go_ret
          exact ⟨ret_int (by unfold inet; rw [← hE.out, ← hm.out, fold_low m hm0 (by omega)]), rfl⟩
end Go.Proofs.Ytfhickgdmcmodaa
