/-
  The reference's Settle. No statement is proved here; no conditions.
-/
import Derived.Test.YtpfppacmldjioaaRE
import Derived.Test.YtpfppacmldjioaaSt
namespace Go.Proofs.Ytpfppacmldjioaa
open Go.RowKit Go.Joins

set_option maxRecDepth 100000 in
set_option maxHeartbeats 4000000 in
theorem rsettle_any (A0 : Option Addr) (n c : Nat) (L : List Ca) (w : World) (hn : L.length = n) (hl : Cr w A0 L) :
    Calls Try.prog 18 #[.slice A0 n c] w fun e w' => SP 45 L w e w' := by
  obtain ⟨W0, hW0⟩ : ∃ V, w.alloc (.cells #[] 45) = V := ⟨_, rfl⟩
  have bW0 : Below w.heap.size w W0 := by rw [← hW0]; exact below_alloc1 _ _
  have O0 : Hid (Ow4 45 w.heap.size W0 (some ⟨w.heap.size, 0, none⟩) 0 []) := Lib.hid (by rw [← hW0]; exact Ow4.empty _ _)
  have CM := rmay_any A0 n c L W0 hn (hl.step bW0)
  have B0 := Lib.hid bW0
  cases hm : mayl L
  case false =>
    rw [hm] at CM
    have HS := Lib.hid (stl_no hm)
    clear hl hn hm bW0
    go_enter Try.func18, Try.ntmps18
    go_wp2_with fail
    refine CM.mono ?_
    rintro e W1 ⟨rfl, u1⟩
    go_wp2
    go_ret
    exact ⟨_, 0, 0, by rw [HS.out]; rfl, rfl, by rw [HS.out]; exact O0.out.step u1, B0.out.trans (u1.mono B0.out.size)⟩
  rw [hm] at CM
  have h50 := (may_gd hm).2
  have hn50 : n ≤ 1000 := by omega
  have HE : Hid (∀ V o, Below w.heap.size w V → _) := Lib.hid (fun V o hV => relect_any A0 n c L o V hn (hl.step hV))
  have HS : Hid (stl L = (L.take n).map (new L)) := Lib.hid (by rw [← hn, List.take_length, stl_yes hm])
  have HN := Lib.hid hn
  have HL := Lib.hid hl
  have H1K := Lib.hid hn50
  clear hl hn hm h50 bW0
  go_enter Try.func18, Try.ntmps18
  go_wp2_with fail
  refine CM.mono ?_
  rintro e W1 ⟨rfl, u1⟩
  have T1 := Lib.hid (B0.out.trans (u1.mono B0.out.size))
  have O1 := Lib.hid (O0.out.step u1)
  clear u1 hW0
  go_wp2_with fail
  go_loopg [3, 4] n (fun gf v3 v4 wx => ∃ (k : Nat) (A' : Option Addr) (c' : Nat), v3 = .slice A' k c' ∧ v4 = .int .i64 (k : Int) ∧ Hid (gf + k = n) ∧ Hid (Ow4 45 w.heap.size wx A' c' ((L.take k).map (new L))) ∧ Hid (Below w.heap.size w wx))
  case atStart => exact ⟨0, _, 0, rfl, rfl, Lib.hid (by omega), O1, T1⟩
  case round =>
    obtain ⟨k, A', c', rfl, rfl, hk, hO, hb⟩ := hrel
    have hk' := hk.out
    clear O0 O1 T1 B0
    cases gk with
    | zero =>
      have e1 : k = n := by omega
      have lt0 : decide ((k : Int) < (n : Int)) = false := by simp; omega
      have lt1 : decide (k < n) = false := by simp; omega
      have HLN : Hid (((L.take k).map (new L)).length = k) := Lib.hid (by have := HN.out; simp; omega)
      subst e1
      go_wp2
      go_ret
      exact ⟨A', k, c', by rw [HS.out, HLN.out], rfl, by rw [HS.out]; exact hO.out, hb.out⟩
    | succ gf =>
      have hkl : k < L.length := by rw [HN.out]; omega
      have lt0 : (k : Int) < (n : Int) := by omega
      have hw1 : (k : Int) + 1 ≤ 10000 := by have := H1K.out; omega
      have hk5 : k ≤ 100000 := by have := H1K.out; omega
      obtain ⟨b, off, hA, _, e0, e1, e2, e3⟩ := crd_at (HL.out.step hb.out) hkl
      have HX := Lib.hid (ctake hkl)
      obtain ⟨x, hx⟩ : ∃ x, cg L k = x := ⟨_, rfl⟩
      rw [hx] at e0 e1 e2 e3 HX
      subst hA
      have HLK : Hid (((L.take k).map (new L)).length = k) := Lib.hid (by simp; omega)
      obtain ⟨W3, hW3⟩ : ∃ V, wr.alloc (.cells #[.int .u32 x.i, .int .i64 x.p, .int .u32 x.d, .int .u32 x.b] 45) = V := ⟨_, rfl⟩
      have bW3 : Below wr.heap.size wr W3 := by rw [← hW3]; exact below_alloc1 _ _
      have sW3 : W3.heap.size = wr.heap.size + 1 := by rw [← hW3]; simp
      have KX : Hid (∀ V, Below W3.heap.size W3 V → V.cell? ⟨wr.heap.size, 0, none⟩ = some (.int .u32 x.i) ∧ V.cell? ⟨wr.heap.size, 1, none⟩ = some (.int .i64 x.p) ∧ V.cell? ⟨wr.heap.size, 2, none⟩ = some (.int .u32 x.d) ∧ V.cell? ⟨wr.heap.size, 3, none⟩ = some (.int .u32 x.b)) := Lib.hid (fun V hV => kb4_new hW3 hV)
      have HB3 : Hid (Below w.heap.size w W3) := Lib.hid (hb.out.trans (bW3.mono hb.out.size))
      have G3 : Bk W3 wr.heap.size (.cells #[.int .u32 x.i, .int .i64 x.p, .int .u32 x.d, .int .u32 x.b] 45) := Bk.mk hW3
      have KE := HE.out W3 x.i HB3.out
      obtain ⟨vD, hvD⟩ : ∃ v, eD L x.i = v := ⟨_, rfl⟩
      obtain ⟨vB, hvB⟩ : ∃ v, eB L x.i = v := ⟨_, rfl⟩
      rw [hvD, hvB] at KE
      have HNEW : Hid (new L x = ⟨x.i, x.p, vD, vB⟩) := Lib.hid (by rw [new, hvD, hvB])
      have HB13 := Lib.hid bW3
      obtain ⟨k0, k1, k2, k3⟩ := KX.out _ (Below.refl _ _)
      have HG3 := Lib.hid G3
      have HHB : Hid (w.heap.size ≤ wr.heap.size) := Lib.hid hb.out.size
      clear hx sW3 bW3 KX hvD hvB G3 hkl
      go_wp2_with fail
      refine KE.mono ?_
      rintro e W4 ⟨rfl, u4⟩
      have T34 : Hid (Below wr.heap.size wr W4) := Lib.hid (HB13.out.trans (u4.mono HB13.out.size))
      have G4 := HG3.out.step u4
      obtain ⟨y0, y1, y2, y3, f0, f1, f2_, f3_, hlt⟩ := kz4_at G4
      have G5 : Bk ((W4.setCell ⟨wr.heap.size, 2, none⟩ (.int .u32 vD)).setCell ⟨wr.heap.size, 3, none⟩ (.int .u32 vB)) wr.heap.size (.cells #[.int .u32 x.i, .int .i64 x.p, .int .u32 vD, .int .u32 vB] 45) := block_setCell (i := 3) (block_setCell (i := 2) G4 (.int .u32 vD)) (.int .u32 vB)
      obtain ⟨W5, hW5⟩ : ∃ V, (W4.setCell ⟨wr.heap.size, 2, none⟩ (.int .u32 vD)).setCell ⟨wr.heap.size, 3, none⟩ (.int .u32 vB) = V := ⟨_, rfl⟩
      have T5 : Hid (Below wr.heap.size wr W5) := Lib.hid (by
        rw [← hW5]
        exact (T34.out.setCell (p := ⟨wr.heap.size, 2, none⟩) (Nat.le_refl _) _).setCell (p := ⟨wr.heap.size, 3, none⟩) (Nat.le_refl _) _)
      rw [hW5] at G5
      obtain ⟨q0, q1, q2, q3, -, -, -, -, -⟩ := kz4_at G5
      have O5 : Ow4 45 w.heap.size W5 A' c' ((L.take k).map (new L)) := hO.out.step T5.out
      have T05 : Hid (Below w.heap.size w W5) := Lib.hid (hb.out.trans (T5.out.mono HHB.out))
      obtain ⟨m, hm⟩ : ∃ m, W5.heap.size = m := ⟨_, rfl⟩
      obtain ⟨g9, c9, W9, r9, o9, u9, -, -⟩ := app4 (t := 28) Try.underlying28 infoR rfl O5 HLK.out ⟨x.i, x.p, vD, vB⟩ hk5 m hm T05.out.size
      have O9 : Hid (Ow4 45 w.heap.size W9 (some ⟨g9, 0, none⟩) c9 ((L.take (k + 1)).map (new L))) := Lib.hid (by
        rw [HX.out, List.map_append]
        have : [x].map (new L) = [⟨x.i, x.p, vD, vB⟩] := by rw [List.map_cons, HNEW.out]; rfl
        rw [this]
        exact o9)
      have T9 : Hid (Below w.heap.size w W9) := Lib.hid (T05.out.trans u9)
      clear u4 G4 G5 O5 o9 u9 e0 e1 e2 e3 k0 k1 k2 k3 KE hO
      go_wp2_with (at_builtin; refine wpList_runb _ rfl (.tmp 34) (.tmp 36) 28 rfl rfl rfl r9 ?_)
      go_wp2
      go_roundg gf
      case measure => omega
      case rel => exact ⟨k + 1, _, c9, by go_num, by go_num, Lib.hid (by omega), O9, T9⟩
end Go.Proofs.Ytpfppacmldjioaa
