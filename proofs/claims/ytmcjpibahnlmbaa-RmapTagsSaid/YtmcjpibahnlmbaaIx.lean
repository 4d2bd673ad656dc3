/-
  Contracts of slices.IndexFunc and slices.ContainsFunc at rules and at clauses, for whatever closure of one captured variable; of within and in. No statement is proved here; no conditions.
-/
import Derived.Test.YtmcjpibahnlmbaaCw
import Derived.Test.YtmcjpibahnlmbaaEvl
namespace Go.Proofs.Ytmcjpibahnlmbaa
open Go.RowKit Go.Joins

theorem within_any (n a b : Int) (w : World) : Calls Try.prog 30 #[.int .i64 n, .int .i64 a, .int .i64 b] w fun e w' => e = .returned (.bool (win n a b)) ∧ w' = w := by
  by_cases h : a ≤ n
  · have h' : n ≥ a := h
    go_enter Try.func30, Try.ntmps30
    go_wp2
    go_ret
    exact ⟨ret_bool (by simp [win, h]), rfl⟩
  · have h' : ¬ n ≥ a := h
    go_enter Try.func30, Try.ntmps30
    go_wp2
    go_ret
    exact ⟨ret_bool (by rw [win, decide_eq_false (show ¬ a ≤ n by omega)]; rfl), rfl⟩
theorem in_any (n a b : Int) (w : World) : Calls Try.prog 32 #[.int .i64 n, .int .i64 a, .int .i64 b] w fun e w' => e = .returned (.bool (win n a b)) ∧ w' = w := by
  by_cases h : a ≤ n
  · have h' : n ≥ a := h
    go_enter Try.func32, Try.ntmps32
    go_wp2
    go_ret
    exact ⟨ret_bool (by simp [win, h]), rfl⟩
  · have h' : ¬ n ≥ a := h
    go_enter Try.func32, Try.ntmps32
    go_wp2
    go_ret
    exact ⟨ret_bool (by rw [win, decide_eq_false (show ¬ a ≤ n by omega)]; rfl), rfl⟩
/-- The place of the first one that is so, or -1. -/
def fix {α : Type} (pr : α → Bool) (l : List α) : Int := if l.findIdx pr < l.length then (l.findIdx pr : Int) else -1
theorem fix_none {α : Type} {pr : α → Bool} {l : List α} (h : ∀ x ∈ l, pr x = false) : fix pr l = -1 := by
  unfold fix
  rw [if_neg]
  have := List.findIdx_eq_length.2 h
  omega
theorem fix_at {α : Type} {pr : α → Bool} {l : List α} {k : Nat} (hk : k < l.length) (h : ∀ i (hi : i < k), pr (l[i]'(by omega)) = false) (ht : pr l[k] = true) : fix pr l = k := by
  unfold fix
  have e : l.findIdx pr = k := (List.findIdx_eq hk).2 ⟨ht, fun j hj => h j hj⟩
  rw [e, if_pos hk]
theorem fix_any {α : Type} (pr : α → Bool) (l : List α) : decide (fix pr l ≥ 0) = l.any pr := by
  unfold fix
  rw [Bool.eq_iff_iff, decide_eq_true_eq, List.any_eq_true]
  rw [show (∃ x, x ∈ l ∧ pr x = true) ↔ l.findIdx pr < l.length from List.findIdx_lt_length.symm]
  split
  · rename_i h; simp [h]
  · rename_i h; simp [h]
set_option maxRecDepth 100000 in
theorem rix_any (A0 : Option Addr) (c : Nat) (l : List Ru) (F : Nat) (p1 : Value) (pr : Ru → Bool) (w : World) (hl : Rr w A0 l) (hll : l.length ≤ 10000)
    (hF : ∀ (args : Array Value) (w' : World), (callFunc F args).run Try.prog w' = .ok (.enter F args) w')
    (hp : ∀ V x, x ∈ l → Below w.heap.size w V → Calls Try.prog F #[rv x, p1] V fun e V' => e = .returned (.bool (pr x)) ∧ Below V.heap.size V V') :
    Calls Try.prog 59 #[.slice A0 l.length c, .func (.func F) #[] #[p1]] w fun e w' => e = .returned (.int .i64 (fix pr l)) ∧ Below w.heap.size w w' := by
  have HL := Lib.hid hl
  have HP := Lib.hid hp
  obtain ⟨ln, hln⟩ : ∃ ln, l.length = ln := ⟨_, rfl⟩
  obtain ⟨R, hR⟩ : ∃ R, fix pr l = R := ⟨_, rfl⟩
  rw [hln] at hll ⊢
  rw [hR]
  have HLN := Lib.hid hln
  have HR := Lib.hid hR
  clear hl hp hln hR
  go_enter Try.func59, Try.ntmps59
  go_wp2_with fail
  go_loopg [8] ln (fun gf v wx => ∃ (k : Nat), v = .int .i64 (k : Int) ∧ Hid (gf + k = ln) ∧ Hid (∀ i (hi : i < l.length), i < k → pr l[i] = false) ∧ Hid (Below w.heap.size w wx))
  case atStart => exact ⟨0, rfl, Lib.hid (by omega), Lib.hid (fun i _ hi => by omega), Lib.hid (Below.refl _ _)⟩
  case round =>
    obtain ⟨k, rfl, hk, hn, hb⟩ := hrel
    have hk' := hk.out
    cases gk with
    | zero =>
      have e1 : k = ln := by omega
      have lt0 : decide ((k : Int) < (ln : Int)) = false := by simp; omega
      have lt1 : decide (k < ln) = false := by simp; omega
      go_wp2
      go_ret
      refine ⟨ret_int ?_, hb.out⟩
      rw [← HR.out, fix_none]
      intro x hx
      obtain ⟨i, hi, rfl⟩ := List.getElem_of_mem hx
      exact hn.out i hi (by have := HLN.out; omega)
    | succ gf =>
      have hkl : k < l.length := by rw [HLN.out]; omega
      have lt0 : (k : Int) < (ln : Int) := by omega
      have hw1 : (k : Int) + 1 ≤ 10000 := by omega
      obtain ⟨b, off, hA, _, e0, e1, e2, e3, e4, e5⟩ := (HL.out.step hb.out).at hkl
      have hmem : gr l k ∈ l := by rw [gr_eq hkl]; exact List.getElem_mem _
      have hxl : gr l k = l[k] := gr_eq hkl
      obtain ⟨x, hx⟩ : ∃ x, gr l k = x := ⟨_, rfl⟩
      rw [hx] at e0 e1 e2 e3 e4 e5 hmem hxl
      subst hA
      have see := HP.out wr x hmem hb.out
      have HX := Lib.hid hxl
      clear hx hmem hxl
      have hf1 := hF #[rv x, p1] wr
      cases hpr : pr x with
      | true =>
        rw [hpr] at see
        have E9 : Hid (R = (k : Int)) := Lib.hid (by rw [← HR.out, fix_at hkl (fun i hi => hn.out i (by omega) hi) (by rw [← HX.out]; exact hpr)])
        clear HX hkl
        go_wp2_with fail
        refine see.mono ?_
        rintro e W2 ⟨rfl, hb2⟩
        go_wp2
        go_ret
        exact ⟨ret_int E9.out.symm, hb.out.trans (hb2.mono hb.out.size)⟩
      | false =>
        rw [hpr] at see
        have HN : Hid (∀ i (hi : i < l.length), i < k + 1 → pr l[i] = false) := Lib.hid (fun i hi hik => by
          rcases Nat.lt_or_ge i k with q | q
          · exact hn.out i hi q
          · obtain rfl : i = k := by omega
            rw [← HX.out]; exact hpr)
        clear HX hkl
        go_wp2_with fail
        refine see.mono ?_
        rintro e W2 ⟨rfl, hb2⟩
        have HB2 := Lib.hid (hb.out.trans (hb2.mono hb.out.size))
        clear hb2 see hf1 e0 e1 e2 e3 e4 e5 hb
        go_wp2
        go_roundg gf
        case measure => omega
        case rel => exact ⟨k + 1, by go_num, Lib.hid (by omega), HN, HB2⟩
theorem rcf_any (A0 : Option Addr) (c : Nat) (l : List Ru) (F : Nat) (p1 : Value) (pr : Ru → Bool) (w : World) (hl : Rr w A0 l) (hll : l.length ≤ 10000)
    (hF : ∀ (args : Array Value) (w' : World), (callFunc F args).run Try.prog w' = .ok (.enter F args) w')
    (hp : ∀ V x, x ∈ l → Below w.heap.size w V → Calls Try.prog F #[rv x, p1] V fun e V' => e = .returned (.bool (pr x)) ∧ Below V.heap.size V V') :
    Calls Try.prog 50 #[.slice A0 l.length c, .func (.func F) #[] #[p1]] w fun e w' => e = .returned (.bool (l.any pr)) ∧ Below w.heap.size w w' := by
  have cf := rix_any A0 c l F p1 pr w hl hll hF hp
  have he := fix_any pr l
  generalize fix pr l = R at *
  generalize l.any pr = E at *
  generalize l.length = ln at *
  have HE := Lib.hid he
  clear hp hl he
  go_enter Try.func50, Try.ntmps50
  go_wp2_with fail
  refine cf.mono ?_
  rintro e W1 ⟨rfl, hb1⟩
  clear cf hF
  go_wp2
  go_ret
  exact ⟨ret_bool HE.out, hb1⟩
set_option maxRecDepth 100000 in
theorem cix_any (A0 : Option Addr) (c : Nat) (l : List Cl) (F : Nat) (p1 : Value) (pr : Cl → Bool) (w : World) (hl : Cr w A0 l) (hll : l.length ≤ 10000)
    (hF : ∀ (args : Array Value) (w' : World), (callFunc F args).run Try.prog w' = .ok (.enter F args) w')
    (hp : ∀ V x, x ∈ l → Below w.heap.size w V → Calls Try.prog F #[cv x, p1] V fun e V' => e = .returned (.bool (pr x)) ∧ Below V.heap.size V V') :
    Calls Try.prog 38 #[.slice A0 l.length c, .func (.func F) #[] #[p1]] w fun e w' => e = .returned (.int .i64 (fix pr l)) ∧ Below w.heap.size w w' := by
  have HL := Lib.hid hl
  have HP := Lib.hid hp
  obtain ⟨ln, hln⟩ : ∃ ln, l.length = ln := ⟨_, rfl⟩
  obtain ⟨R, hR⟩ : ∃ R, fix pr l = R := ⟨_, rfl⟩
  rw [hln] at hll ⊢
  rw [hR]
  have HLN := Lib.hid hln
  have HR := Lib.hid hR
  clear hl hp hln hR
  go_enter Try.func38, Try.ntmps38
  go_wp2_with fail
  go_loopg [8] ln (fun gf v wx => ∃ (k : Nat), v = .int .i64 (k : Int) ∧ Hid (gf + k = ln) ∧ Hid (∀ i (hi : i < l.length), i < k → pr l[i] = false) ∧ Hid (Below w.heap.size w wx))
  case atStart => exact ⟨0, rfl, Lib.hid (by omega), Lib.hid (fun i _ hi => by omega), Lib.hid (Below.refl _ _)⟩
  case round =>
    obtain ⟨k, rfl, hk, hn, hb⟩ := hrel
    have hk' := hk.out
    cases gk with
    | zero =>
      have e1 : k = ln := by omega
      have lt0 : decide ((k : Int) < (ln : Int)) = false := by simp; omega
      have lt1 : decide (k < ln) = false := by simp; omega
      go_wp2
      go_ret
      refine ⟨ret_int ?_, hb.out⟩
      rw [← HR.out, fix_none]
      intro x hx
      obtain ⟨i, hi, rfl⟩ := List.getElem_of_mem hx
      exact hn.out i hi (by have := HLN.out; omega)
    | succ gf =>
      have hkl : k < l.length := by rw [HLN.out]; omega
      have lt0 : (k : Int) < (ln : Int) := by omega
      have hw1 : (k : Int) + 1 ≤ 10000 := by omega
      obtain ⟨b, off, hA, _, _, e0, e1, e2, e3, e4, e5, e6, e7, e8, e9, e10, e11⟩ := (HL.out.step hb.out).at hkl
      have hmem : gc l k ∈ l := by rw [gc_eq hkl]; exact List.getElem_mem _
      have hxl : gc l k = l[k] := gc_eq hkl
      obtain ⟨x, hx⟩ : ∃ x, gc l k = x := ⟨_, rfl⟩
      rw [hx] at e0 e1 e2 e3 e4 e5 e6 e7 e8 e9 e10 e11 hmem hxl
      subst hA
      have see := HP.out wr x hmem hb.out
      have HX := Lib.hid hxl
      clear hx hmem hxl
      have hf1 := hF #[cv x, p1] wr
      cases hpr : pr x with
      | true =>
        rw [hpr] at see
        have E9 : Hid (R = (k : Int)) := Lib.hid (by rw [← HR.out, fix_at hkl (fun i hi => hn.out i (by omega) hi) (by rw [← HX.out]; exact hpr)])
        clear HX hkl
        go_wp2_with fail
        refine see.mono ?_
        rintro e W2 ⟨rfl, hb2⟩
        go_wp2
        go_ret
        exact ⟨ret_int E9.out.symm, hb.out.trans (hb2.mono hb.out.size)⟩
      | false =>
        rw [hpr] at see
        have HN : Hid (∀ i (hi : i < l.length), i < k + 1 → pr l[i] = false) := Lib.hid (fun i hi hik => by
          rcases Nat.lt_or_ge i k with q | q
          · exact hn.out i hi q
          · obtain rfl : i = k := by omega
            rw [← HX.out]; exact hpr)
        clear HX hkl
        go_wp2_with fail
        refine see.mono ?_
        rintro e W2 ⟨rfl, hb2⟩
        have HB2 := Lib.hid (hb.out.trans (hb2.mono hb.out.size))
        clear hb2 see hf1 e0 e1 e2 e3 e4 e5 e6 e7 e8 e9 e10 e11 hb
        go_wp2
        go_roundg gf
        case measure => omega
        case rel => exact ⟨k + 1, by go_num, Lib.hid (by omega), HN, HB2⟩
theorem ccf_any (A0 : Option Addr) (c : Nat) (l : List Cl) (F : Nat) (p1 : Value) (pr : Cl → Bool) (w : World) (hl : Cr w A0 l) (hll : l.length ≤ 10000)
    (hF : ∀ (args : Array Value) (w' : World), (callFunc F args).run Try.prog w' = .ok (.enter F args) w')
    (hp : ∀ V x, x ∈ l → Below w.heap.size w V → Calls Try.prog F #[cv x, p1] V fun e V' => e = .returned (.bool (pr x)) ∧ Below V.heap.size V V') :
    Calls Try.prog 40 #[.slice A0 l.length c, .func (.func F) #[] #[p1]] w fun e w' => e = .returned (.bool (l.any pr)) ∧ Below w.heap.size w w' := by
  have cf := cix_any A0 c l F p1 pr w hl hll hF hp
  have he := fix_any pr l
  generalize fix pr l = R at *
  generalize l.any pr = E at *
  generalize l.length = ln at *
  have HE := Lib.hid he
  clear hp hl he
  go_enter Try.func40, Try.ntmps40
  go_wp2_with fail
  refine cf.mono ?_
  rintro e W1 ⟨rfl, hb1⟩
  clear cf hF
  go_wp2
  go_ret
  exact ⟨ret_bool HE.out, hb1⟩
end Go.Proofs.Ytmcjpibahnlmbaa
