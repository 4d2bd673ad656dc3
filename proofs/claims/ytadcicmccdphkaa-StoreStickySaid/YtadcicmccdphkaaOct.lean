/-
  Contracts of package octet's Take, Cut, Row, Rows. No statement is proved here.
-/
import Derived.Test.YtadcicmccdphkaaLeaf
import Derived.Deep.RegionWith
import Derived.StillTailTactics
namespace Go.Proofs.Ytadcicmccdphkaa
open Go.RowKit

theorem num_n (A : Option Addr) (n c : Nat) (l : List Int) (B : Nat) (w : World) (hn : n = l.length) (hb : Bs .u8 w B A l) (hl : l.length ≤ 4) (hy : Byt l) :
    Calls Try.prog 76 #[.slice A n c] w fun e w' => e = .returned (.int .u32 (num l)) ∧ w = w' := by subst hn; exact num_any A c l B w hb hl hy
theorem fresh_n (A : Option Addr) (n c : Nat) (l : List Int) (B : Nat) (w : World) (hn : n = l.length) (hb : Bs .u8 w B A l) (hB : B ≤ w.heap.size) (hl : l.length ≤ 1000000) :
    Calls Try.prog 77 #[.slice A n c] w fun e w' => ∃ L, Hid (L = l) ∧ e = .returned (.slice (some ⟨w.heap.size, 0, none⟩) L.length L.length) ∧ Own .u8 5 w' w.heap.size (some ⟨w.heap.size, 0, none⟩) L.length L ∧ Below w.heap.size w w' := by
  subst hn
  exact (fresh_any A c l B w hb hB hl).mono fun e w' ⟨h1, h2, h3⟩ => ⟨l, rfl, h1, h2, h3⟩

/-! ### Take -/
def takeE (l : List Int) (m : Int) : Int := if m < 1 ∨ 4 < m then 1 else if (l.length : Int) < m then 2 else 0
def takeN (l : List Int) (m : Int) : Int := if takeE l m = 0 then num (l.take m.toNat) else 0
def takeL (l : List Int) (m : Int) : List Int := if takeE l m = 0 then l.drop m.toNat else []
theorem take_any (A : Option Addr) (c : Nat) (l : List Int) (B : Nat) (m : Int) (w : World) (hb : Bs .u8 w B A l) (hy : Byt l) (hc : l.length ≤ c) (hB : B ≤ w.heap.size) (hl : l.length ≤ 100000) :
    Calls Try.prog 57 #[.slice A l.length c, .int .i64 m] w fun e w' => ∃ A' c', e = .returned (.tuple #[.int .u32 (takeN l m), .slice A' (takeL l m).length c', .int .i64 (takeE l m)]) ∧ Own .u8 5 w' w.heap.size A' c' (takeL l m) ∧ Below w.heap.size w w' := by
  by_cases hm : m < 1 ∨ 4 < m
  · have e1 : takeE l m = 1 := by simp [takeE, hm]
    have e2 : takeL l m = [] := by simp [takeL, e1]
    have e3 : takeN l m = 0 := by simp [takeN, e1]
    rw [e1, e2, e3]
    have HM := Lib.hid hm
    clear hm e1 e2 e3
    go_enter Try.func57, Try.ntmps57
    go_wp2_with (go_at_call 75; refine (isWidth_no _ _ HM.out).mono ?_; rintro e w' ⟨rfl, rfl⟩)
    go_ret3
    exact ⟨none, 0, rfl, Own.nil _ _, Below.refl _ _⟩
  · have h1 : 1 ≤ m := by omega
    have h2 : m ≤ 4 := by omega
    by_cases hf : (l.length : Int) < m
    · have e1 : takeE l m = 2 := by simp [takeE, hm, hf]
      have e2 : takeL l m = [] := by simp [takeL, e1]
      have e3 : takeN l m = 0 := by simp [takeN, e1]
      rw [e1, e2, e3]
      clear hm e1 e2 e3
      go_enter Try.func57, Try.ntmps57
      go_wp2_with (go_at_call 75; refine (isWidth_yes _ _ h1 h2).mono ?_; rintro e w' ⟨rfl, rfl⟩)
      go_ret3
      exact ⟨none, 0, rfl, Own.nil _ _, Below.refl _ _⟩
    · have e1 : takeE l m = 0 := by simp [takeE, hm, hf]
      have e2 : takeL l m = l.drop m.toNat := by simp [takeL, e1]
      have e3 : takeN l m = num (l.take m.toNat) := by simp [takeN, e1]
      rw [e1, e2, e3]
      have hf' : m ≤ (l.length : Int) := by omega
      clear hm e1 e2 e3 hf
      have hcm : m ≤ (c : Int) := by omega
      have h0 : 0 ≤ m := by omega
      obtain ⟨b, off, rfl, hbB, -⟩ := hb (by rintro rfl; simp at hf'; omega)
      by_cases hcc : c = m.toNat
      · subst hcc
        have hd : Bs .u8 w B (some ⟨b, off, none⟩) (l.drop m.toNat) := hb.drop _ _ (fun h => by omega)
        go_enter Try.func57, Try.ntmps57
        go_wp2_with (go_at_call 75; refine (isWidth_yes _ _ h1 h2).mono ?_; rintro e w' ⟨rfl, rfl⟩)
        go_region_with (first | (go_at_call 76; refine (num_n _ _ _ (l.take m.toNat) B _ ?_ ?_ ?_ ?_).mono ?_; (simp; omega); exact hb.take _; (simp; omega); exact hy.take _; rintro e w' ⟨rfl, rfl⟩) | (go_at_call 77; refine (fresh_n _ _ _ (l.drop m.toNat) B _ ?_ ?_ ?_ ?_).mono ?_; (simp only [List.length_drop] <;> omega); exact hd; exact hB; (simp; omega); rintro e w' ⟨L, hL, rfl, hO, hBw⟩))
        go_wp2
        go_ret3
        rw [← hL.out]
        exact ⟨_, _, rfl, hO, (Below.refl _ w).drew.trans hBw⟩
      · have hcc' : ¬ (m.toNat = c) := fun h => hcc h.symm
        have hd : Bs .u8 w B (some ⟨b, off + m.toNat, none⟩) (l.drop m.toNat) := hb.drop _ _ (fun h => by simp [addr_add])
        go_enter Try.func57, Try.ntmps57
        go_wp2_with (go_at_call 75; refine (isWidth_yes _ _ h1 h2).mono ?_; rintro e w' ⟨rfl, rfl⟩)
        go_region_with (first | (go_at_call 76; refine (num_n _ _ _ (l.take m.toNat) B _ ?_ ?_ ?_ ?_).mono ?_; (simp; omega); exact hb.take _; (simp; omega); exact hy.take _; rintro e w' ⟨rfl, rfl⟩) | (go_at_call 77; refine (fresh_n _ _ _ (l.drop m.toNat) B _ ?_ ?_ ?_ ?_).mono ?_; (simp only [List.length_drop] <;> omega); exact hd; exact hB; (simp; omega); rintro e w' ⟨L, hL, rfl, hO, hBw⟩))
        go_wp2
        go_ret3
        rw [← hL.out]
        exact ⟨_, _, rfl, hO, (Below.refl _ w).drew.trans hBw⟩

/-! ### Cut -/
def cutE (l : List Int) (m : Int) : Int := if m < 0 then 1 else if (l.length : Int) < m then 2 else 0
def cutF (l : List Int) (m : Int) : List Int := if cutE l m = 0 then l.take m.toNat else []
def cutL (l : List Int) (m : Int) : List Int := if cutE l m = 0 then l.drop m.toNat else []
end Go.Proofs.Ytadcicmccdphkaa
