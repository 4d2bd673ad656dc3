/-
  Contracts of the reference's Ints and Has. No statement is proved here; no conditions.
-/
import Derived.Test.YtkpmdfgjaodlaaaVisit
namespace Go.Proofs.Ytkpmdfgjaodlaaa
open Go.RowKit Go.Joins

set_option maxRecDepth 100000 in
theorem ints_any (A1 A2 : Option Addr) (c1 c2 : Nat) (l : List Nat) (S1 S2 : Nat → Prop) (w : World) (h1 : Rd S1 w A1 (nts l)) (h2 : Rd S2 w A2 (nts l)) (hl : l.length ≤ 100000) :
    Calls Try.prog 15 #[.slice A1 l.length c1, .slice A2 l.length c2] w fun e w' => e = .returned (.bool true) ∧ Below w.heap.size w w' := by
  have R1 := Lib.hid h1
  have R2 := Lib.hid h2
  clear h1 h2
  go_enter Try.func15, Try.ntmps15
  go_wp2_with fail
  go_loopg [5] l.length (fun gf v wx => ∃ k nd, v = .int .i64 ((k : Nat) : Int) ∧ Hid (gf + k = l.length) ∧ wx = w.drewN nd)
  case atStart => exact ⟨0, 0, rfl, Lib.hid (by omega), rfl⟩
  case round =>
    obtain ⟨k, nd, rfl, hk, rfl⟩ := hrel
    have hk' := hk.out
    cases gk with
    | zero =>
      have lt0 : decide ((k : Int) < (l.length : Int)) = false := by simp; omega
      go_wp2
      go_ret
      exact ⟨rfl, rfl, rfl, rfl, Nat.le_refl _, fun _ _ => rfl⟩
    | succ gf =>
      have hkl : k < l.length := by omega
      have lt0 : (k : Int) < (l.length : Int) := by omega
      obtain ⟨b, off, rfl, e0⟩ := R1.out.nat_at hkl
      obtain ⟨b', off', rfl, f0⟩ := R2.out.nat_at hkl
      go_wp2_with fail
      go_quiet (fail)
      go_wp2
      go_roundg gf
      case measure => omega
      case rel => exact ⟨k + 1, _, by go_num, Lib.hid (by omega), rfl⟩

set_option maxRecDepth 100000 in
theorem has_any (A : Option Addr) (c : Nat) (l : List Nat) (n : Nat) (S : Nat → Prop) (w : World) (h : Rd S w A (nts l)) (hl : l.length ≤ 100000) :
    Calls Try.prog 44 #[.slice A l.length c, .int .i64 (n : Int)] w fun e w' => e = .returned (.bool (decide (n ∈ l))) ∧ w' = w := by
  have R := Lib.hid h
  clear h
  go_enter Try.func44, Try.ntmps44
  go_wp2_with fail
  go_loopg [5] l.length (fun gf v wx => ∃ k, v = .int .i64 ((k : Nat) : Int) ∧ Hid (gf + k = l.length) ∧ Hid (n ∉ l.take k) ∧ wx = w)
  case atStart => exact ⟨0, rfl, Lib.hid (by omega), Lib.hid (by simp), rfl⟩
  case round =>
    obtain ⟨k, rfl, hk, hn, rfl⟩ := hrel
    have hk' := hk.out
    cases gk with
    | zero =>
      have e1 : k = l.length := by omega
      have lt0 : decide ((k : Int) < (l.length : Int)) = false := by simp; omega
      go_wp2
      go_ret
      have := hn.out
      rw [e1, List.take_length] at this
      exact ⟨ret_bool (by simp [this]), rfl⟩
    | succ gf =>
      have hkl : k < l.length := by omega
      have lt0 : (k : Int) < (l.length : Int) := by omega
      obtain ⟨b, off, rfl, e0⟩ := R.out.nat_at hkl
      obtain ⟨x, hx⟩ : ∃ x, gw l k = x := ⟨_, rfl⟩
      rw [hx] at e0
      have HX := Lib.hid hx
      clear hx
      by_cases hq : x = n
      · have q1 : ((x : Int) == (n : Int)) = true := by simp; omega
        have q2 : (x == n) = true := by simp; omega
        have q3 : decide (x = n) = true := by simp; omega
        have HQ := Lib.hid hq
        clear hq
        go_wp2
        go_ret
        have : n ∈ l := by rw [← HQ.out, ← HX.out, gw_eq hkl]; exact List.getElem_mem _
        exact ⟨ret_bool (by simp [this]), rfl⟩
      · have q1 : ((x : Int) == (n : Int)) = false := by simp; omega
        have q2 : (x == n) = false := by simp; omega
        have q3 : decide (x = n) = false := by simp; omega
        have HQ := Lib.hid hq
        clear hq
        go_wp2
        go_roundg gf
        case measure => omega
        case rel =>
          refine ⟨k + 1, by go_num, Lib.hid (by omega), Lib.hid (fun hm => ?_), rfl⟩
          rw [List.take_succ_eq_append_getElem hkl, List.mem_append, List.mem_singleton] at hm
          rcases hm with hm | hm
          · exact hn.out hm
          · rw [← gw_eq hkl, HX.out] at hm
            exact HQ.out hm.symm
end Go.Proofs.Ytkpmdfgjaodlaaa
