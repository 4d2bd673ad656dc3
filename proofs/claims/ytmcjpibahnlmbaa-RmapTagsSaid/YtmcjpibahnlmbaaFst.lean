/-
  The contract of the program's first, for whatever closure of one rule and one captured variable; its four closures; Eval. No statement is proved here; no conditions.
-/
import Derived.Test.YtmcjpibahnlmbaaRm
import Derived.Laws.EntriesVeiled
namespace Go.Proofs.Ytmcjpibahnlmbaa
open Go.RowKit Go.Joins

theorem fsi_end {pr : Ru → Bool} {l : List Ru} (h : ∀ i, (hi : i < l.length) → pr (gr l i) = false) : fsi pr l = l.length := by
  unfold fsi
  rw [List.findIdx_eq_length]
  intro x hx
  obtain ⟨i, hi, rfl⟩ := List.getElem_of_mem hx
  have := h i hi
  rw [gr_eq hi] at this
  exact this
theorem fsi_at {pr : Ru → Bool} {l : List Ru} {k : Nat} (hk : k < l.length) (h : ∀ i, i < k → pr (gr l i) = false) (ht : pr (gr l k) = true) : fsi pr l = k := by
  unfold fsi
  rw [List.findIdx_eq hk]
  rw [gr_eq hk] at ht
  refine ⟨ht, fun j hj => ?_⟩
  have := h j hj
  rwa [gr_eq (by omega)] at this
set_option maxRecDepth 100000 in
theorem first_any (A0 : Option Addr) (c : Nat) (l : List Ru) (F : Nat) (p1 : Value) (pr : Ru → Bool) (w : World) (hl : Rr w A0 l) (hll : l.length ≤ 10000)
    (hF : ∀ (args : Array Value) (w' : World), (callFunc F args).run Try.prog w' = .ok (.enter F args) w')
    (hp : ∀ V x, x ∈ l → Below w.heap.size w V → Calls Try.prog F #[rv x, p1] V fun e V' => e = .returned (.bool (pr x)) ∧ Below V.heap.size V V') :
    Calls Try.prog 54 #[.slice A0 l.length c, .func (.func F) #[] #[p1]] w fun e w' => e = .returned (.int .i64 (fsi pr l : Int)) ∧ Below w.heap.size w w' := by
  have HL := Lib.hid hl
  have HP := Lib.hid hp
  obtain ⟨ln, hln⟩ : ∃ ln, l.length = ln := ⟨_, rfl⟩
  obtain ⟨R, hR⟩ : ∃ R, fsi pr l = R := ⟨_, rfl⟩
  rw [hln] at hll ⊢
  rw [hR]
  have HLN := Lib.hid hln
  have HR := Lib.hid hR
  clear hl hp hln hR
  go_enter Try.func54, Try.ntmps54
  go_wp2_with fail
  go_loopg [9] ln (fun gf v wx => ∃ (k : Nat), v = .int .i64 (k : Int) ∧ Hid (gf + k = ln) ∧ Hid (∀ i, i < k → pr (gr l i) = false) ∧ Hid (Below w.heap.size w wx))
  case atStart => exact ⟨0, rfl, Lib.hid (by omega), Lib.hid (fun i hi => by omega), Lib.hid (Below.refl _ _)⟩
  case round =>
    obtain ⟨k, rfl, hk, hn, hb⟩ := hrel
    have hk' := hk.out
    cases gk with
    | zero =>
      have e1 : k = ln := by omega
      have lt0 : decide ((k : Int) < (ln : Int)) = false := by simp; omega
      have lt1 : decide (k < ln) = false := by simp; omega
      go_wp2
      go_ret
      refine ⟨ret_int ?_, hb.out⟩
      rw [← HR.out, fsi_end (fun i hi => hn.out i (by have := HLN.out; omega)), HLN.out]
    | succ gf =>
      have hkl : k < l.length := by rw [HLN.out]; omega
      have lt0 : (k : Int) < (ln : Int) := by omega
      have hw1 : (k : Int) + 1 ≤ 10000 := by omega
      obtain ⟨b, off, hA, _, e0, e1, e2, e3, e4, e5⟩ := (HL.out.step hb.out).at hkl
      have hmem : gr l k ∈ l := by rw [gr_eq hkl]; exact List.getElem_mem _
      obtain ⟨x, hx⟩ : ∃ x, gr l k = x := ⟨_, rfl⟩
      rw [hx] at e0 e1 e2 e3 e4 e5 hmem
      subst hA
      obtain ⟨W1, hW1⟩ : ∃ W1, wr.alloc (.cells #[.int .i64 x.s, .bool x.p, .int .u32 (x.A : Int), .int .i64 x.N, .int .i64 x.g, .int .i64 x.l] 75) = W1 := ⟨_, rfl⟩
      have b1 : Below wr.heap.size wr W1 := by rw [← hW1]; exact below_alloc1 _ _
      have HB1 : Hid (Below w.heap.size w W1) := Lib.hid (hb.out.trans (b1.mono hb.out.size))
      obtain ⟨k0, k1, k2, k3, k4, k5⟩ := rb_new hW1 (Below.refl _ _)
      have see := HP.out W1 x hmem HB1.out
      have HX := Lib.hid hx
      clear hx b1 hmem
      have hf1 := hF #[rv x, p1] W1
      cases hpr : pr x with
      | true =>
        rw [hpr] at see
        go_wp2_with fail
        refine see.mono ?_
        rintro e W2 ⟨rfl, hb2⟩
        go_wp2
        go_ret
        refine ⟨ret_int ?_, HB1.out.trans (hb2.mono HB1.out.size)⟩
        rw [← HR.out, fsi_at (by rw [HLN.out]; omega) hn.out (by rw [HX.out]; exact hpr)]
      | false =>
        rw [hpr] at see
        go_wp2_with fail
        refine see.mono ?_
        rintro e W2 ⟨rfl, hb2⟩
        have HB2 := Lib.hid (HB1.out.trans (hb2.mono HB1.out.size))
        have HN : Hid (∀ i, i < k + 1 → pr (gr l i) = false) := Lib.hid (fun i hi => by
          rcases Nat.lt_or_ge i k with q | q
          · exact hn.out i q
          · rw [show i = k by omega, HX.out]; exact hpr)
        clear hb2 see hf1 hW1 k0 k1 k2 k3 k4 k5
        go_wp2
        go_roundg gf
        case measure => omega
        case rel => exact ⟨k + 1, by go_num, Lib.hid (by omega), HN, HB2⟩
end Go.Proofs.Ytmcjpibahnlmbaa
