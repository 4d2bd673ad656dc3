/-
  The contract of onward. No statement is proved here; no conditions.
-/
import Derived.Test.YtkpmdfgjaodlaaaTight
namespace Go.Proofs.Ytkpmdfgjaodlaaa
open Go.RowKit Go.Joins

/-- Is an edge tight, and does not return to the root? -/
def onw (D : List Int) (root : Int) (x : Ed) : Bool := tgt D x && decide (x.t ≠ root)
theorem mix_get {α : Type} (a b : List α) (k : Nat) (h : a.length = b.length) (hk : k < b.length) : (a.take k ++ b.drop k)[k]'(by simp; omega) = b[k] := by
  rw [List.getElem_append_right (by simp; omega)]
  simp only [List.getElem_drop, List.length_take]
  congr 1
  omega

set_option maxRecDepth 100000 in
theorem onward_any (N root : Int) (A : Option Addr) (c : Nat) (E : List Ed) (B : Nat) (A2 : Option Addr) (c2 : Nat) (D : List Int) (w : World) (hE : Rd (· < B) w A (eflat E)) (hD : Rd (· < B) w A2 (its D)) (hB : B ≤ w.heap.size) (hl : E.length ≤ 100000) :
    Calls Try.prog 33 #[gv N A E.length c, .int .i64 root, .slice A2 D.length c2] w fun e w' => Bools w (E.map (onw D root)) e w' := by
  have K := box2_at (w := w) (u := .int .i64 N) (v := .slice A E.length c) (t := 24) (B := w.heap.size + 1) (by omega)
  have B0 := below_alloc1 w (.cells #[.int .i64 N, .slice A E.length c] 24)
  obtain ⟨W0, hW0⟩ : ∃ W0, w.alloc (.cells #[.int .i64 N, .slice A E.length c] 24) = W0 := ⟨_, rfl⟩
  have hs0 : W0.heap.size = w.heap.size + 1 := by rw [← hW0]; simp
  rw [hW0] at K B0
  obtain ⟨c0, c1, _, _⟩ := K _ (Below.refl _ _)
  have tg := tight_any N A c E B A2 c2 D W0 (hE.below B0 (fun j hj _ => by omega)) (hD.below B0 (fun j hj _ => by omega)) (by omega) hl
  have HB0 := Lib.hid B0
  have HE := Lib.hid hE
  clear B0 hE hD
  go_enter Try.func33, Try.ntmps33
  go_wp2_with fail
  refine tg.mono ?_
  rintro e W1 ⟨g, rfl, r1, hg, b1⟩
  rw [List.length_map] at r1 ⊢
  rw [hs0] at hg b1
  have hb1 := b1.size
  obtain ⟨k0, k1, _, _⟩ := K _ b1
  have R1 : Hid (Rg 4 1 W1 g E.length (bls ((E.map (onw D root)).take 0 ++ (E.map (tgt D)).drop 0))) := Lib.hid (by simpa using r1)
  have R2 := Lib.hid b1
  clear tg r1 b1
  go_wp2_with fail
  go_loopg [16] E.length (fun gf v wx => ∃ k, v = .int .i64 ((k : Nat) : Int) ∧ Hid (gf + k = E.length) ∧ Hid (Rg 4 1 wx g E.length (bls ((E.map (onw D root)).take k ++ (E.map (tgt D)).drop k))) ∧ Hid (Below (w.heap.size + 1) W0 wx))
  case atStart => exact ⟨0, rfl, Lib.hid (by omega), R1, R2⟩
  case round =>
    obtain ⟨k, rfl, hk, hr, hb⟩ := hrel
    have hk' := hk.out
    clear R1 R2 c0 c1 k0 k1
    cases gk with
    | zero =>
      have e1 : k = E.length := by omega
      have lt0 : decide ((k : Int) < (E.length : Int)) = false := by simp; omega
      go_wp2
      go_ret
      refine ⟨g, by simp, ?_, by omega, HB0.out.trans (hb.out.mono (by omega))⟩
      have := hr.out
      rw [e1, List.take_of_length_le (by simp), List.drop_of_length_le (by simp), List.append_nil] at this
      simpa using this
    | succ gf =>
      have hkl : k < E.length := by omega
      have lt0 : (k : Int) < (E.length : Int) := by omega
      have hsz := hb.out.size
      have hEx : Rd (· < B) wr A (eflat E) := (HE.out.below HB0.out (fun j hj _ => by omega)).below hb.out (fun j hj _ => by omega)
      obtain ⟨b, off, hA, hbB, hbs, e0, e1, e2⟩ := hEx.edge hkl
      obtain ⟨x, hx⟩ : ∃ x, ge E k = x := ⟨_, rfl⟩
      rw [hx] at e0 e1 e2
      subst hA
      obtain ⟨W4, hW4⟩ : ∃ W4, wr.alloc (.cells #[.int .i64 x.f, .int .i64 x.t, .int .i64 x.c] 50) = W4 := ⟨_, rfl⟩
      have hs4 : W4.heap.size = wr.heap.size + 1 := by rw [← hW4]; simp
      have b4 : Below wr.heap.size wr W4 := by rw [← hW4]; exact below_alloc1 _ _
      have h4 : W4.heap[wr.heap.size]? = some (.cells #[.int .i64 x.f, .int .i64 x.t, .int .i64 x.c] 50 (0, 0)) := by rw [← hW4]; exact Go.heap_alloc_new _ _
      have f1 : W4.cell? ⟨wr.heap.size, 1, none⟩ = some (.int .i64 x.t) := (cell_of_row _ _ 1 _ _ _ h4).trans rfl
      have b04 := hb.out.trans (b4.mono (by omega))
      have R4 := hr.out.below' b4
      have fz := R4.frozen k
      have hkk : k < ((E.map (onw D root)).take k ++ (E.map (tgt D)).drop k).length := by simp; omega
      have cl := R4.bool_cell hkk
      rw [mix_get _ _ _ (by simp) (by simpa using hkl)] at cl
      have ex : (E.map (tgt D))[k]'(by simpa using hkl) = tgt D x := by simp [← hx, ge_eq hkl]
      have eo : (E.map (onw D root))[k]'(by simpa using hkl) = onw D root x := by simp [← hx, ge_eq hkl]
      rw [ex] at cl
      have RS := Lib.hid (R4.set k (.bool (onw D root x)))
      have BS := Lib.hid (b04.setCell (show w.heap.size + 1 ≤ (⟨g, k, none⟩ : Addr).block by simpa using hg) (.bool (onw D root x)))
      have fin : Rg 4 1 (W4.setCell ⟨g, k, none⟩ (.bool (onw D root x))) g E.length (bls ((E.map (onw D root)).take (k + 1) ++ (E.map (tgt D)).drop (k + 1))) := by
        have := RS.out
        rw [bls_set, ← eo, mix_set _ _ _ (by simp) (by simpa using hkl)] at this
        rw [← eo]
        exact this
      have FIN := Lib.hid fin
      clear hEx hx b04 R4 b4 h4 hr RS fin eo ex
      cases ht : tgt D x with
      | false =>
        rw [ht] at cl
        have ho : onw D root x = false := by simp [onw, ht]
        rw [ho] at FIN BS
        go_wp2
        go_roundg gf
        case measure => omega
        case rel => exact ⟨k + 1, by go_num, Lib.hid (by omega), FIN, BS⟩
      | true =>
        rw [ht] at cl
        by_cases hq : x.t = root
        · have hq1 : (x.t != root) = false := by simpa using hq
          have ho : onw D root x = false := by simp [onw, hq]
          rw [ho] at FIN BS
          clear hq
          go_wp2
          go_roundg gf
          case measure => omega
          case rel => exact ⟨k + 1, by go_num, Lib.hid (by omega), FIN, BS⟩
        · have hq1 : (x.t != root) = true := by simpa using hq
          have ho : onw D root x = true := by simp [onw, ht, hq]
          rw [ho] at FIN BS
          go_wp2
          go_roundg gf
          case measure => omega
          case rel => exact ⟨k + 1, by go_num, Lib.hid (by omega), FIN, BS⟩
end Go.Proofs.Ytkpmdfgjaodlaaa
