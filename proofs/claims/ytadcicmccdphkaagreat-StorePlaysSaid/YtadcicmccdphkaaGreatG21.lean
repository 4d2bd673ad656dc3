/-
  Contracts of the reference's Row and Rows. No statement is proved here; no conditions.
-/
import Derived.Test.YtadcicmccdphkaaGreatG20
import Derived.Test.YtadcicmccdphkaaGreatG01
namespace Go.Proofs.YtadcicmccdphkaaGreat
open Go.RowKit

def lenOf : Value → Nat | .slice _ n _ => n | _ => 0
theorem rtake_short (A : Option Addr) (c : Nat) (l : List Int) (B : Nat) (m : Int) (w : World) (hb : Bs .u8 w B A l) (hy : Byt l) (hc : l.length ≤ c) (hB : B ≤ w.heap.size) (hl : l.length ≤ 100000) (h1 : 1 ≤ m) (h2 : m ≤ 4) (hs : (l.length : Int) < m) :
  Calls Tryz.prog 114 #[.slice A l.length c, .int .i64 m] w fun e w' => ∃ A' c', e = .returned (.tuple #[.int .u32 0, .slice A' 0 c', .int .i64 2]) ∧ Below w.heap.size w w' := by
 have h := rtake_any A c l B m w hb hy hc hB hl
 have e1 : takeE l m = 2 := by unfold takeE; rw [if_neg (by omega), if_pos hs]
 have e2 : takeL l m = [] := by simp [takeL, e1]
 have e3 : takeN l m = 0 := by simp [takeN, e1]
 rw [e1, e2, e3] at h
 exact h.mono fun e w' ⟨A', c', h1, _, h3⟩ => ⟨A', c', h1, h3⟩
theorem rtake_ok (A : Option Addr) (c : Nat) (l : List Int) (B : Nat) (m : Int) (w : World) (hb : Bs .u8 w B A l) (hy : Byt l) (hc : l.length ≤ c) (hB : B ≤ w.heap.size) (hl : l.length ≤ 100000) (h1 : 1 ≤ m) (h2 : m ≤ 4) (hs : m ≤ (l.length : Int)) :
  Calls Tryz.prog 114 #[.slice A l.length c, .int .i64 m] w fun e w' => ∃ A' c' N R, Hid (N = num (l.take m.toNat) ∧ R = l.drop m.toNat) ∧ e = .returned (.tuple #[.int .u32 N, .slice A' R.length c', .int .i64 0]) ∧ Own .u8 5 w' w.heap.size A' c' R ∧ Below w.heap.size w w' := by
 have h := rtake_any A c l B m w hb hy hc hB hl
 have e1 : takeE l m = 0 := by unfold takeE; rw [if_neg (by omega), if_neg (by omega)]
 rw [e1] at h
 exact h.mono fun e w' ⟨A', c', h1, h2, h3⟩ => ⟨A', c', takeN l m, takeL l m, ⟨by simp [takeN, e1], by simp [takeL, e1]⟩, h1, h2, h3⟩

theorem rowsE_short {l : List Int} {m : Int} (h1 : 1 ≤ m) (h2 : m ≤ 4) (j : Nat) (h3 : j * m.toNat < l.length) (h4 : l.length < j * m.toNat + m.toNat) : rowsE l m = 2 := by
 have : ((l.length : Int) % m != 0) = true := by
  have hk : m = (m.toNat : Int) := (Int.toNat_of_nonneg (by omega)).symm
  rw [hk, ← Int.natCast_emod]
  have : l.length % m.toNat = l.length - j * m.toNat := by
   have e : l.length = (l.length - j * m.toNat) + j * m.toNat := by omega
   have e2 : ((l.length - j * m.toNat) + j * m.toNat) % m.toNat = l.length - j * m.toNat := by
    rw [Nat.add_mul_mod_self_right, Nat.mod_eq_of_lt (by omega)]
   rw [← e] at e2
   exact e2
  rw [this]
  simp
  omega
 unfold rowsE; rw [if_neg (by omega), if_pos this]
theorem rowsE_all {l : List Int} {m : Int} (h1 : 1 ≤ m) (h2 : m ≤ 4) (j : Nat) (h3 : l.length = j * m.toNat) : rowsE l m = 0 ∧ rowsL l m = nums m.toNat j l := by
 have hk : m = (m.toNat : Int) := (Int.toNat_of_nonneg (by omega)).symm
 have : ((l.length : Int) % m != 0) = false := by
  rw [hk, ← Int.natCast_emod, h3, Nat.mul_mod_left]; rfl
 have e1 : rowsE l m = 0 := by unfold rowsE; rw [if_neg (by omega), this]; rfl
 refine ⟨e1, ?_⟩
 simp only [rowsL, e1, if_true]
 rw [h3, Nat.mul_div_cancel _ (by omega)]

set_option maxRecDepth 100000 in
set_option maxHeartbeats 1000000 in
theorem rrows_any (A : Option Addr) (c : Nat) (l : List Int) (B : Nat) (m : Int) (w : World) (hb : Bs .u8 w B A l) (hy : Byt l) (hc : l.length ≤ c) (hB : B ≤ w.heap.size) (hl : l.length ≤ 100000) :
  Calls Tryz.prog 89 #[.slice A l.length c, .int .i64 m] w fun e w' => ∃ A' c', e = .returned (.tuple #[.slice A' (rowsL l m).length c', .int .i64 (rowsE l m)]) ∧ Own .u32 23 w' w.heap.size A' c' (rowsL l m) ∧ Below w.heap.size w w' := by
 by_cases hm : m < 1 ∨ 4 < m
 ·have e1 : rowsE l m = 1 := by unfold rowsE; rw [if_pos hm]
  have e2 : rowsL l m = [] := by simp [rowsL, e1]
  rw [e1, e2]
  clear e1 e2
  rcases hm with hm | hm
  ·go_enter Tryz.func89, Tryz.ntmps89
   go_wp2
   go_ret2
   exact ⟨none, 0, rfl, Own.nil _ _, Below.refl _ _⟩
  ·have hm1 : ¬ m < 1 := by omega
   go_enter Tryz.func89, Tryz.ntmps89
   go_wp2
   go_ret2
   exact ⟨none, 0, rfl, Own.nil _ _, Below.refl _ _⟩
 have h1 : 1 ≤ m := by omega
 have h2 : m ≤ 4 := by omega
 have h1' : ¬ m < 1 := by omega
 have h2' : ¬ 4 < m := by omega
 clear hm
 obtain ⟨i0, hi, hz0, hz1, hz2⟩ := info_parts info23
 go_enter Tryz.func89, Tryz.ntmps89
 go_wp2_with fail
 go_loopw [0, 6, 7, 8, 9] (fun b v _ _ _ wr => ∃ (j : Nat) (A1 : Option Addr) (c1 : Nat) (L1 : List Int) (A' : Option Addr) (c' : Nat) (L : List Int), b = .slice A1 L1.length c1 ∧ v = .slice A' L.length c' ∧ Hid (L1 = l.drop (j * m.toNat) ∧ L = nums m.toNat j l ∧ j * m.toNat ≤ l.length) ∧ L1.length ≤ c1 ∧ Bs .u8 wr wr.heap.size A1 L1 ∧ Own .u32 23 wr w.heap.size A' c' L ∧ Below w.heap.size w wr) (fun b _ _ _ _ _ => lenOf b)
 case atStart => exact ⟨0, _, _, l, _, _, [], rfl, rfl, ⟨by simp, rfl, by simp⟩, hc, (hb.alloc hB _).more (by simp; omega), Own.empty w _ (Nat.le_refl _) _ _, (Below.refl _ w).alloc (Nat.le_refl _) _⟩
 case round =>
  obtain ⟨j, A1, c1, L1, A', c', L, rfl, rfl, hL, hc1, hB1, ho', hbw⟩ := hrel
  have hsz := hbw.size
  have hL1l : L1.length ≤ 100000 := by rw [hL.out.1, List.length_drop]; omega
  have hLl : L.length ≤ 100000 := by
   rw [hL.out.2.1, nums_length]
   exact Nat.le_trans (Nat.le_mul_of_pos_right j (show 0 < m.toNat by omega)) (Nat.le_trans hL.out.2.2 hl)
  by_cases hlt : 0 < L1.length
  ·have hy1 : Byt L1 := by rw [hL.out.1]; exact hy.drop _
   by_cases hs : (L1.length : Int) < m
   ·have E1 : Hid (rowsE l m = 2) := rowsE_short h1 h2 j (by have := hL.out.1; rw [this, List.length_drop] at hlt; omega) (by have := hL.out.1; rw [this, List.length_drop] at hs; have := hL.out.2.2; omega)
    go_wp2_with fail
    refine (rtake_short A1 c1 L1 wr.heap.size m wr hB1 hy1 hc1 (Nat.le_refl _) (by omega) h1 h2 hs).mono ?_
    rintro e w3 ⟨A3, c3, rfl, hB3⟩
    go_wp2
    go_ret2
    have e2 : rowsL l m = [] := by simp [rowsL, E1.out]
    rw [E1.out, e2]
    exact ⟨none, 0, rfl, Own.nil _ _, hbw.trans (hB3.mono hsz)⟩
   ·go_wp2_with fail
    refine (rtake_ok A1 c1 L1 wr.heap.size m wr hB1 hy1 hc1 (Nat.le_refl _) (by omega) h1 h2 (by omega)).mono ?_
    rintro e w3 ⟨A3, c3, N, R, hNR, rfl, hO3, hB3⟩
    have ho3 := ho'.below hB3 (Nat.le_refl _)
    have hs3 := hB3.size
    have hblk := ho'.blk_lt
    go_wp2_with (at_builtin; refine wpList_appg _ rfl (.tmp 30) (.tmp 32) 106 rfl w.heap.size 23 .u32 i0 _ 4 Tryz.underlying106 hi hz0 hz1 hz2 rfl A' c' L rfl (ho3.alloc _) _ _ 1 1 [_] rfl rfl (Bs.one _ _ _ _) ?_ ?_ ?_ ?_; (simp [maxLen] <;> omega); (simp <;> omega); (simp <;> omega); intro l4 A4 c4 w4 hl4 ho4 hg4 _)
    have HB : Hid (Below w.heap.size w w4) := ((hbw.trans (hB3.mono hsz)).alloc (by omega) _).trans (grown_below hg4 (by simp; omega) (fun g h => (hblk g h).1))
    have hR4 := ((hO3.alloc _).grown hg4 (fun g hA hrow => by have h5 := hblk g hrow; have h6 := hO3.blk_lt g (by rw [hA]; rfl); omega)).bs
    have hRl : R.length + m.toNat = L1.length := by rw [hNR.out.2, List.length_drop]; omega
    go_roundw
    case rel =>
     refine ⟨j + 1, A3, c3, R, A4, c4, l4, rfl, rfl, ⟨?_, ?_, ?_⟩, hO3.cap_le, hR4, ho4, HB.out⟩
     ·rw [hNR.out.2, hL.out.1, List.drop_drop, Nat.succ_mul]
     ·rw [hl4.out, nums, ← hL.out.1, ← hL.out.2.1, hNR.out.1]
     ·have := hL.out.1; rw [this, List.length_drop] at hRl; rw [Nat.succ_mul]; omega
    case measure => simp [lenOf]; omega
  ·have hE := rowsE_all (l := l) h1 h2 j (by have := hL.out.1; rw [this, List.length_drop] at hlt; have := hL.out.2.2; omega)
   rw [← hL.out.2.1] at hE
   have HE := Lib.hid hE
   clear hE
   go_wp2
   go_ret2
   rw [HE.out.1, HE.out.2]
   exact ⟨_, _, rfl, ho', hbw⟩
end Go.Proofs.YtadcicmccdphkaaGreat
