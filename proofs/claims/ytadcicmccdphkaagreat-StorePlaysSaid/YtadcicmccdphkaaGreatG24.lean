/-
  The contract of the reference's ReadRouter. No statement is proved here; no conditions.
-/
import Derived.Test.YtadcicmccdphkaaGreatG20
import Derived.Test.YtadcicmccdphkaaGreatG22
namespace Go.Proofs.YtadcicmccdphkaaGreat
open Go.RowKit Go.Joins
open List (getElem_toArray getElem_cons_zero getElem_cons_succ setIfInBounds_toArray set_cons_zero set_cons_succ)

theorem nums_three (l : List Int) : nums 4 3 l = [num (sub l 0 4), num (sub l 4 4), num (sub l 8 4)] := rfl
theorem lk0_parts (m : List Int) (X : List Int) (hX : X = sub m 0 12) : num (sub X 0 4) = (lk0 m).i ∧ num (sub X 4 4) = (lk0 m).d ∧ num (sub X 8 4) = num (sub m 8 4) := by
 subst hX
 rw [sub_sub _ _ _ _ _ (by omega), sub_sub _ _ _ _ _ (by omega), sub_sub _ _ _ _ _ (by omega)]
 exact ⟨rfl, rfl, rfl⟩
def RQ (w w' : World) (e : Ending) (l : List Int) : Prop := ∃ A' m' c', m' = (rdRL l).length ∧ e = .returned (.tuple #[.agg #[.int .i64 (rdRF l), .slice A' m' c'], .int .i64 (rdRE l)]) ∧ Lr w' A' (rdRL l) ∧ Below w.heap.size w w'
set_option maxRecDepth 100000 in
set_option maxHeartbeats 20000000 in
theorem rreadrouter_q (A : Option Addr) (n c : Nat) (l : List Int) (w : World) (hn : l.length = n) (hb : Bt w A l) (hy : Byt l) (hc : n ≤ c) (hl : n ≤ 5000) :
  Calls Tryz.prog 62 #[.slice A n c] w fun e w' => RQ w w' e l := by
 obtain ⟨W0, hW0⟩ : ∃ V, w.alloc (.cells #[Value.int .i64 0, .slice none 0 0] 103) = V := ⟨_, rfl⟩
 have bW0 : Below w.heap.size w W0 := by rw [← hW0]; exact below_alloc1 _ _
 have sW0 : W0.heap.size = w.heap.size + 1 := by rw [← hW0]; simp
 have KZ : Hid (∀ V, Below W0.heap.size W0 V → V.heap[w.heap.size]? = some (.cells #[Value.int .i64 0, .slice none 0 0] 103)) :=
  Lib.hid (fun V hV => by rw [hV.block _ (by omega), ← hW0]; exact alloc_at _ _ _ (by omega))
 have HB : Hid (Below w.heap.size w W0) := Lib.hid bW0
 have sh2 : shR l → rdRE l = 2 ∧ rdRF l = 0 ∧ rdRL l = [] := fun h => by
  have e : rdRE l = 2 := by unfold rdRE; rw [if_pos h]
  refine ⟨e, ?_, ?_⟩
  ·unfold rdRF; rw [e]; rfl
  ·unfold rdRL; rw [e]; rfl
 by_cases h4 : n < 4
 ·have HE := Lib.hid (sh2 (by unfold shR; omega))
  have h4' : (n : Int) < 4 := by omega
  have z1 := KZ.out _ (Below.refl _ _)
  obtain ⟨a0, a1, f0, f1, hzl⟩ := kz2_at z1
  have KR := Lib.hid <| kz2_get z1 (Value.int .i64 0) (.slice none 0 0)
  have TF := Lib.hid <| below_st2 HB.out (Nat.le_refl _) (Value.int .i64 0) (.slice none 0 0)
  clear z1 KZ hb hy bW0 hn sh2
  go_enter Tryz.func62, Tryz.ntmps62
  go_wp2
  obtain ⟨r0, r1⟩ := KR.out
  obtain ⟨e1, e2, e3⟩ := HE.out
  refine bodyPost_ret (v := .tuple #[.agg #[.int .i64 0, .slice none 0 0], .int .i64 2]) (by simp [results, Tryz.results62, go_sem, r0, r1]) rfl (by unfold RQ; exact ⟨none, 0, 0, by rw [e3]; rfl, by rw [e1, e2], by rw [e3]; exact Lr.nil _ _, TF.out⟩)
 obtain ⟨b, off, rfl, hbl, -⟩ := hb (by rintro rfl; simp at hn; omega)
 have hb0 := hb.step bW0
 have HW0 := Lib.hid sW0
 obtain ⟨hm, hm1⟩ := nl_eq hy (show 4 ≤ l.length by omega)
 rw [num_two2 hy 2 (by omega)] at hm
 have g2 := hb0.get (i := 2) (by omega)
 have g3 := hb0.get (i := 3) (by omega)
 have g1 := hb0.get (i := 1) (by omega)
 have g0 : W0.cell? ⟨b, off, none⟩ = some (.int .u8 (l.getD 0 0)) := by simpa using hb0.get (i := 0) (by omega)
 have w0 := byt_getD hy 0
 have w1 := byt_getD hy 1
 have w2 := byt_getD hy 2
 have w3 := byt_getD hy 3
 have hbk := hb0.blk (by rintro rfl; simp at hn; omega)
 simp only [Nat.reduceAdd] at hm
 have hrl : (rdL l).length = nl l := rdL_length l
 have hrk : rdL l = rdk l (nl l) := rfl
 have hsh : ¬ shR l ↔ 4 + nl l * 12 ≤ n := by unfold shR; omega
 have hQ : okQ l = (decide (l.getD 1 0 = 0) && (decide (n = 4 + nl l * 12) && decide (nl l ≤ 100))) := by unfold okQ; rw [hn]
 have hiff := fun h => okR_iff hy (hsh.2 h)
 generalize hM : nl l = m at *
 clear hM
 obtain ⟨x2, hx2⟩ : ∃ x2, l.getD 2 0 = x2 := ⟨_, rfl⟩
 obtain ⟨x3, hx3⟩ : ∃ x3, l.getD 3 0 = x3 := ⟨_, rfl⟩
 obtain ⟨x1, hx1⟩ : ∃ x1, l.getD 1 0 = x1 := ⟨_, rfl⟩
 obtain ⟨x0, hx0⟩ : ∃ x0, l.getD 0 0 = x0 := ⟨_, rfl⟩
 rw [hx2, hx3] at hm
 rw [hx2] at g2 w2
 rw [hx3] at g3 w3
 rw [hx1] at g1 w1 hQ
 rw [hx0] at g0 w0 hiff
 have hm2 : (256 : Int) * x2 + x3 = (m : Int) := by omega
 have HM2 := Lib.hid hm2
 have h4' : ¬ ((n : Int) < 4) := by omega
 have KS : Hid (∀ V, Below W0.heap.size W0 V → V.cell? ⟨b, off + 2, none⟩ = some (.int .u8 x2) ∧ V.cell? ⟨b, off + 3, none⟩ = some (.int .u8 x3)) := Lib.hid (fun V hV => ⟨(hV.cell (p := ⟨b, off + 2, none⟩) hbk).trans g2, (hV.cell (p := ⟨b, off + 3, none⟩) hbk).trans g3⟩)
 have KB : Hid (∀ V, Below W0.heap.size W0 V → V.cell? ⟨b, off, none⟩ = some (.int .u8 x0) ∧ V.cell? ⟨b, off + 1, none⟩ = some (.int .u8 x1)) := Lib.hid (fun V hV => ⟨(hV.cell (p := ⟨b, off, none⟩) hbk).trans g0, (hV.cell (p := ⟨b, off + 1, none⟩) hbk).trans g1⟩)
 have HX0 := Lib.hid hx0
 have j2 : (2 : Int) < (n : Int) := by omega
 have j3 : (3 : Int) < (n : Int) := by omega
 have j2' : 2 < n := by omega
 have j3' : 3 < n := by omega
 have j1 : (1 : Int) < (n : Int) := by omega
 have j1' : 1 < n := by omega
 have j0 : (0 : Int) < (n : Int) := by omega
 have j0' : 0 < n := by omega
 have tt : Below W0.heap.size W0 W0 := Below.refl _ _
 have HM1 := Lib.hid hm1
 have HS2 := Lib.hid sh2
 have HSH := Lib.hid hsh
 have HRL := Lib.hid hrl
 have HRK := Lib.hid hrk
 have HQ := Lib.hid hQ
 have HIF := Lib.hid hiff
 have HLN := Lib.hid hn
 have HY := Lib.hid hy
 have HB0 := Lib.hid hb0
 have HBK := Lib.hid hbk
 clear g0 g1 g2 g3 hm hm2 hx0 hx1 hx2 hx3 hb hb0 bW0 sh2 hsh hrl hrk hQ hiff hn hy hbl hbk hm1
 go_enter Tryz.func62, Tryz.ntmps62
 go_upto_region 3 with fail
 go_cut [4] (fun v4 wx => v4 = .int .i64 (m : Int) ∧ Hid (Below W0.heap.size W0 wx))
 case first =>
  refine wp_region_held_drew (S := fun V => V.cell? ⟨b, off + 2, none⟩ = some (.int .u8 x2) ∧ V.cell? ⟨b, off + 3, none⟩ = some (.int .u8 x3)) (by kernel_rfl) (KS.out _ tt.drew) (fun hHeld => ?_)
  replace tt : Below W0.heap.size W0 W0.drew := tt.drew
  generalize hX0 : W0.drew = X0 at tt hHeld ⊢
  clear hX0
  refine wpAnyH_take (i := 0) (v := ?_) rfl (by kernel_rfl) (by kernel_rfl) (by kernel_rfl) (fun _ _ _ h => h) (Or.inl ⟨by rfl, ?_⟩) (by assumption) ?_
  rotate_left
  ·(intro w' hSw; (try dsimp only at hSw); go_simp; try with_reducible rfl)
  simp only [Act.put, getElem_toArray, getElem_cons_zero, setIfInBounds_toArray, set_cons_zero, set_cons_succ]
  refine wpAnyH_take (i := 1) (v := ?_) rfl (by kernel_rfl) (by kernel_rfl) (by kernel_rfl) (fun _ _ _ h => h) (Or.inl ⟨by rfl, ?_⟩) (by assumption) ?_
  rotate_left
  ·(intro w' hSw; (try dsimp only at hSw); go_simp; try with_reducible rfl)
  simp only [Act.put, getElem_toArray, getElem_cons_zero, getElem_cons_succ, setIfInBounds_toArray, set_cons_zero, set_cons_succ]
  refine wpAnyH_take (i := 2) (v := ?_) rfl (by kernel_rfl) (by kernel_rfl) (by kernel_rfl) (fun _ _ _ h => h) (Or.inl ⟨by rfl, ?_⟩) (by assumption) ?_
  rotate_left
  ·(intro w' hSw; (try dsimp only at hSw); go_simp; try with_reducible rfl)
  simp only [Act.put, getElem_toArray, getElem_cons_zero, getElem_cons_succ, setIfInBounds_toArray, set_cons_zero, set_cons_succ]
  refine wpAnyH_take (i := 3) (v := .int .i64 x2) rfl (by kernel_rfl) (by kernel_rfl) (by kernel_rfl) (fun _ _ _ h => h) (Or.inl ⟨by rfl, ?_⟩) (by assumption) ?_
  ·(intro w' hSw; (try dsimp only at hSw); go_simp; rw [wrap_i64 (by omega) (by omega)])
  simp only [Act.put, getElem_toArray, getElem_cons_zero, getElem_cons_succ, setIfInBounds_toArray, set_cons_zero, set_cons_succ]
  refine wpAnyH_take (i := 4) (v := .int .i64 (256 * x2)) rfl (by kernel_rfl) (by kernel_rfl) (by kernel_rfl) (fun _ _ _ h => h) (Or.inl ⟨by rfl, ?_⟩) (by assumption) ?_
  ·(intro w' hSw; (try dsimp only at hSw); go_simp; rw [wrap_i64 (by omega) (by omega)])
  simp only [Act.put, getElem_toArray, getElem_cons_zero, getElem_cons_succ, setIfInBounds_toArray, set_cons_zero, set_cons_succ]
  refine wpAnyH_take (i := 5) (v := ?_) rfl (by kernel_rfl) (by kernel_rfl) (by kernel_rfl) (fun _ _ _ h => h) (Or.inl ⟨by rfl, ?_⟩) (by assumption) ?_
  rotate_left
  ·(intro w' hSw; (try dsimp only at hSw); go_simp; try with_reducible rfl)
  simp only [Act.put, getElem_toArray, getElem_cons_zero, getElem_cons_succ, setIfInBounds_toArray, set_cons_zero, set_cons_succ]
  refine wpAnyH_take (i := 6) (v := ?_) rfl (by kernel_rfl) (by kernel_rfl) (by kernel_rfl) (fun _ _ _ h => h) (Or.inl ⟨by rfl, ?_⟩) (by assumption) ?_
  rotate_left
  ·(intro w' hSw; (try dsimp only at hSw); go_simp; try with_reducible rfl)
  simp only [Act.put, getElem_toArray, getElem_cons_zero, getElem_cons_succ, setIfInBounds_toArray, set_cons_zero, set_cons_succ]
  refine wpAnyH_take (i := 7) (v := ?_) rfl (by kernel_rfl) (by kernel_rfl) (by kernel_rfl) (fun _ _ _ h => h) (Or.inl ⟨by rfl, ?_⟩) (by assumption) ?_
  rotate_left
  ·(intro w' hSw; (try dsimp only at hSw); go_simp; try with_reducible rfl)
  simp only [Act.put, getElem_toArray, getElem_cons_zero, getElem_cons_succ, setIfInBounds_toArray, set_cons_zero, set_cons_succ]
  refine wpAnyH_take (i := 8) (v := .int .i64 x3) rfl (by kernel_rfl) (by kernel_rfl) (by kernel_rfl) (fun _ _ _ h => h) (Or.inl ⟨by rfl, ?_⟩) (by assumption) ?_
  ·(intro w' hSw; (try dsimp only at hSw); go_simp; rw [wrap_i64 (by omega) (by omega)])
  simp only [Act.put, getElem_toArray, getElem_cons_zero, getElem_cons_succ, setIfInBounds_toArray, set_cons_zero, set_cons_succ]
  refine wpAnyH_take (i := 9) (v := .int .i64 (m : Int)) rfl (by kernel_rfl) (by kernel_rfl) (by kernel_rfl) (fun _ _ _ h => h) (Or.inl ⟨by rfl, ?_⟩) (by assumption) ?_
  ·(intro w' hSw; (try dsimp only at hSw); go_simp; rw [HM2.out, wrap_i64 (by omega) (by have := HM1.out; omega)])
  simp only [Act.put, getElem_toArray, getElem_cons_zero, getElem_cons_succ, setIfInBounds_toArray, set_cons_zero, set_cons_succ]
  refine wpAnyH_ready (rs := [10]) (by kernel_rfl) (by simp) ?_
  refine AllReadyH.cons rfl (fun K hK => ?_) AllReadyH.nil
  go_simp
  refine hK.out _ _ (KS.out _ tt) (fun _ => ?_)
  clear hK K
  refine wpAnyH_done (by kernel_rfl) ?_ _
  go_wp2_with fail
  go_meet
  case rel => exact ⟨rfl, Lib.hid tt⟩
 case rest =>
  obtain ⟨rfl, tw⟩ := hcut
  clear w2 w3 HM2 tt KS
  by_cases hs : n < 4 + m * 12
  ·have HE := Lib.hid (HS2.out (Classical.byContradiction fun q => by have := HSH.out.1 q; omega))
   have hs' : (n : Int) < 4 + 12 * (m : Int) := by omega
   have hm1 : m ≤ 65535 := by have := HM1.out; omega
   have z1 := KZ.out _ tw.out
   obtain ⟨a0, a1, f0, f1, hzl⟩ := kz2_at z1
   have KR := Lib.hid <| kz2_get z1 (Value.int .i64 0) (.slice none 0 0)
   have TF := Lib.hid <| below_st2 (HB.out.trans (tw.out.mono HB.out.size)) (Nat.le_refl _) (Value.int .i64 0) (.slice none 0 0)
   clear z1 KZ hs KB
   go_wp2
   obtain ⟨r0, r1⟩ := KR.out
   obtain ⟨e1, e2, e3⟩ := HE.out
   refine bodyPost_ret (v := .tuple #[.agg #[.int .i64 0, .slice none 0 0], .int .i64 2]) (by simp [results, Tryz.results62, go_sem, r0, r1]) rfl (by unfold RQ; exact ⟨none, 0, 0, by rw [e3]; rfl, by rw [e1, e2], by rw [e3]; exact Lr.nil _ _, TF.out⟩)
  have hs2 : 4 + m * 12 ≤ n := by omega
  have hs' : ¬ ((n : Int) < 4 + 12 * (m : Int)) := by omega
  have hm416 : m ≤ 416 := by omega
  have hwx : IntKind.i64.wrap x0 = x0 := wrap_i64 (by omega) (by omega)
  have IFF := HIF.out hs2
  have HIFF := Lib.hid IFF
  have HSHN : Hid (¬ shR l) := Lib.hid (HSH.out.2 hs2)
  obtain ⟨c0, c1⟩ := KB.out _ tw.out
  obtain ⟨W1, hW1⟩ : ∃ V, wc.alloc (.cells #[Value.int .i64 x0, .slice none 0 0] 103) = V := ⟨_, rfl⟩
  have b1 : Below wc.heap.size wc W1 := by rw [← hW1]; exact below_alloc1 _ _
  have KA : Hid (At W1 wc.heap.size (.cells #[Value.int .i64 x0, .slice none 0 0] 103)) := Lib.hid (At.mk hW1)
  have B1 : Hid (Below W0.heap.size W0 W1) := Lib.hid (tw.out.trans (b1.mono tw.out.size))
  have HS : Hid (W0.heap.size ≤ wc.heap.size) := Lib.hid tw.out.size
  have HX1 := Lib.hid hW1
  clear IFF hW1 b1 HIF
  obtain ⟨kx, hkx⟩ : ∃ kx, wc.heap.size = kx := ⟨_, rfl⟩
  have HKX := Lib.hid hkx
  rw [hkx] at KA HS
  obtain ⟨T, hT⟩ : ∃ T, okQ l = T := ⟨_, rfl⟩
  have HT := Lib.hid hT
  have TQ : Hid (T = (decide (x1 = 0) && (decide (n = 4 + m * 12) && decide (m ≤ 100)))) := Lib.hid (by rw [← hT, HQ.out])
  clear hT hkx hs
  go_upto_region 7 with fail
  rw [HX1.out, HKX.out]
  clear c0 c1 HX1
  go_cut [6] (fun v6 wx => v6 = .bool T ∧ wx = W1)
  case first =>
   obtain ⟨d0, d1⟩ := KB.out _ B1.out
   by_cases a1 : x1 = 0
   ·have e1 : (x1 == 0) = true := by simpa using a1
    by_cases a2 : n = 4 + m * 12
    ·have e2 : ((n : Int) == 4 + 12 * (m : Int)) = true := by simp; omega
     by_cases a3 : m ≤ 100
     ·have e3 : decide ((m : Int) ≤ 100) = true := by simp; omega
      have e4 : (m : Int) ≤ 100 := by omega
      have HTT : Hid (T = true) := Lib.hid (by rw [TQ.out, decide_eq_true a1, decide_eq_true a2, decide_eq_true a3]; rfl)
      clear a1 a2 a3
      go_wp2_with fail
      go_meet
      case rel => exact ⟨by rw [HTT.out], rfl⟩
     ·have e3 : decide ((m : Int) ≤ 100) = false := by simp; omega
      have e4 : ¬ ((m : Int) ≤ 100) := by omega
      have HTT : Hid (T = false) := Lib.hid (by rw [TQ.out, decide_eq_false a3]; simp)
      clear a1 a2 a3
      go_wp2_with fail
      go_meet
      case rel => exact ⟨by rw [HTT.out], rfl⟩
    ·have e2 : ((n : Int) == 4 + 12 * (m : Int)) = false := by simp; omega
     have HTT : Hid (T = false) := Lib.hid (by rw [TQ.out, decide_eq_false a2]; simp)
     clear a1 a2
     go_wp2_with fail
     go_meet
     case rel => exact ⟨by rw [HTT.out], rfl⟩
   ·have e1 : (x1 == 0) = false := by simpa using a1
    have HTT : Hid (T = false) := Lib.hid (by rw [TQ.out, decide_eq_false a1]; simp)
    clear a1
    go_wp2_with fail
    go_meet
    case rel => exact ⟨by rw [HTT.out], rfl⟩
  case rest =>
   obtain ⟨rfl, hwc⟩ := hcut
   replace hwc := hwc.symm
   subst hwc
   clear w0 w1 hwx j0 j0' j1 j1' j2 j2' j3 j3' KB hs'
   have BAD : Hid (okR l = false → rdRE l = 3 ∧ rdRF l = 0 ∧ rdRL l = []) := Lib.hid (fun h2 => by
    have e : rdRE l = 3 := by unfold rdRE; rw [if_neg HSHN.out, if_neg (by rw [h2]; simp)]
    refine ⟨e, ?_, ?_⟩
    ·unfold rdRF; rw [e]; rfl
    ·unfold rdRL; rw [e]; rfl)
   have GOOD : Hid (okR l = true → rdRE l = 0 ∧ rdRF l = x0 ∧ rdRL l = rdk l m) := Lib.hid (fun h2 => by
    have e : rdRE l = 0 := by unfold rdRE; rw [if_neg HSHN.out, if_pos h2]
    exact ⟨e, by unfold rdRF; rw [if_pos e, HX0.out], by unfold rdRL; rw [if_pos e, HRK.out]⟩)
   clear HS2 HSH HRL HQ TQ HM1
   go_wp2_with fail
   go_loopg [6, 7] m (fun gf v6 v7 wx => ∃ (j : Nat) (A' : Option Addr) (c' : Nat) (ok : Bool), v6 = .bool ok ∧ v7 = .int .i64 (j : Int) ∧ Hid (gf + j = m) ∧ Hid (ok = true ↔ T = true ∧ ∀ i, i < j → l.getD (4 + i * 12 + 9) 0 = 0) ∧ Hid (At wx kx (.cells #[Value.int .i64 x0, .slice A' j c'] 103)) ∧ Hid (Lo (kx < ·) wx A' c' (rdk l j)) ∧ Hid (Below W0.heap.size W0 wx))
   case atStart => exact ⟨0, none, 0, T, rfl, rfl, Lib.hid (by omega), Lib.hid ⟨fun h => ⟨h, fun i hi => by omega⟩, fun h => h.1⟩, KA, Lib.hid (.inl ⟨rfl, rfl, rfl⟩), B1⟩
   case round =>
    obtain ⟨j, A', c', ok, rfl, rfl, hj, hok, hA, ho, hb⟩ := hrel
    have hj' := hj.out
    clear KA B1
    cases ok with
    | false =>
     have HE := Lib.hid (BAD.out (Bool.eq_false_iff.2 fun q => by
      obtain ⟨q1, q2, _⟩ := HIFF.out.1 q
      have := hok.out.2 ⟨by rw [← HT.out]; exact q1, fun i hi => q2 i (by omega)⟩
      cases this))
     have z1 := KZ.out _ hb.out
     obtain ⟨a0, a1, f0, f1, hzl⟩ := kz2_at z1
     have KR := Lib.hid <| kz2_get z1 (Value.int .i64 0) (.slice none 0 0)
     have TF := Lib.hid <| below_st2 (HB.out.trans (hb.out.mono HB.out.size)) (Nat.le_refl _) (Value.int .i64 0) (.slice none 0 0)
     clear z1 hA ho hok hj hj' hb
     go_wp2
     obtain ⟨r0, r1⟩ := KR.out
     obtain ⟨e1, e2, e3⟩ := HE.out
     refine bodyPost_ret (v := .tuple #[.agg #[.int .i64 0, .slice none 0 0], .int .i64 3]) (by simp [results, Tryz.results62, go_sem, r0, r1]) rfl (by unfold RQ; exact ⟨none, 0, 0, by rw [e3]; rfl, by rw [e1, e2], by rw [e3]; exact Lr.nil _ _, TF.out⟩)
    | true =>
    cases gk with
    | zero =>
     have e9 : j = m := by omega
     subst e9
     have lt0 : decide ((j : Int) < (j : Int)) = false := by simp
     have lt1 : decide (j < j) = false := by simp
     obtain ⟨k0, k1, h0, h1, hkl⟩ := kz2_at hA.out
     have CM := rmayR_any x0 A' j c' (rdk l j) wr (rdk_length l j) ho.out.lr
     have hall := hok.out.1 rfl
     by_cases hm : mayR x0 (rdk l j) = true
     case neg =>
      have hm2 : mayR x0 (rdk l j) = false := by simpa using hm
      have HE := Lib.hid (BAD.out (Bool.eq_false_iff.2 fun q => by
       have := (HIFF.out.1 q).2.2
       rw [HRK.out] at this
       exact hm this))
      rw [hm2] at CM
      clear hm hm2 hall hok
      go_wp2_with fail
      refine CM.mono ?_
      rintro e V2 ⟨rfl, u7⟩
      have T7 : Below W0.heap.size W0 V2 := hb.out.trans (u7.mono hb.out.size)
      have z1 := KZ.out _ T7
      obtain ⟨a0, a1, f0, f1, hzl⟩ := kz2_at z1
      have KR := Lib.hid <| kz2_get z1 (Value.int .i64 0) (.slice none 0 0)
      have TF := Lib.hid <| below_st2 (HB.out.trans (T7.mono HB.out.size)) (Nat.le_refl _) (Value.int .i64 0) (.slice none 0 0)
      clear z1 hA ho hj hj' hb CM u7 T7 k0 k1 h0 h1
      go_wp2
      obtain ⟨r0, r1⟩ := KR.out
      obtain ⟨e1, e2, e3⟩ := HE.out
      refine bodyPost_ret (v := .tuple #[.agg #[.int .i64 0, .slice none 0 0], .int .i64 3]) (by simp [results, Tryz.results62, go_sem, r0, r1]) rfl (by unfold RQ; exact ⟨none, 0, 0, by rw [e3]; rfl, by rw [e1, e2], by rw [e3]; exact Lr.nil _ _, TF.out⟩)
     have HE := Lib.hid (GOOD.out (HIFF.out.2 ⟨by rw [HT.out]; exact hall.1, hall.2, by rw [HRK.out]; exact hm⟩))
     rw [hm] at CM
     clear hm hall hok
     go_wp2_with fail
     refine CM.mono ?_
     rintro e V2 ⟨rfl, u7⟩
     have T7 : Below W0.heap.size W0 V2 := hb.out.trans (u7.mono hb.out.size)
     have z1 := KZ.out _ T7
     obtain ⟨y0, y1, p0, p1, hkl2⟩ := kz2_at (hA.out.step u7)
     obtain ⟨a0, a1, f0, f1, hzl⟩ := kz2_at z1
     have KR := Lib.hid <| kz2_get z1 (Value.int .i64 x0) (.slice A' j c')
     have TF := Lib.hid <| below_st2 (HB.out.trans (T7.mono HB.out.size)) (Nat.le_refl _) (Value.int .i64 x0) (.slice A' j c')
     have PF : Hid (Lr (st2 V2 w.heap.size (Value.int .i64 x0) (.slice A' j c')) A' (rdk l j)) := Lib.hid (((ho.out.step u7).far (b := w.heap.size) (fun i hi => by have := HW0.out; have := HS.out; omega) (Value.int .i64 x0) (.slice A' j c')).lr)
     clear CM u7 z1 T7 k0 k1 h0 h1 hA ho
     go_wp2
     obtain ⟨r0, r1⟩ := KR.out
     obtain ⟨e1, e2, e3⟩ := HE.out
     refine bodyPost_ret (v := .tuple #[.agg #[.int .i64 x0, .slice A' j c'], .int .i64 0]) (by simp [results, Tryz.results62, go_sem, r0, r1]) rfl (by unfold RQ; exact ⟨A', j, c', by rw [e3, rdk_length], by rw [e1, e2], by rw [e3]; exact PF.out, TF.out⟩)
    | succ gf =>
     have lt0 : (j : Int) < (m : Int) := by omega
     have hw1 : (j : Int) + 1 ≤ 10000 := by omega
     obtain ⟨p, hp⟩ : ∃ p, 4 + j * 12 = p := ⟨_, rfl⟩
     obtain ⟨r, hr⟩ : ∃ r, p + 12 = r := ⟨_, rfl⟩
     have hr1 : r ≤ n := by omega
     have hpI : (4 : Int) + 12 * (j : Int) = (p : Int) := by omega
     have hrI : (16 : Int) + 12 * (j : Int) = (r : Int) := by omega
     have hrp : r - p = 12 := by omega
     have hpr : (p : Int) ≤ (r : Int) := by omega
     have hrc : (r : Int) ≤ (c : Int) := by omega
     have n1 : ¬ (c = p) := by omega
     have hpn : p < n := by omega
     have hr9 : r ≤ 5000 := by omega
     have hb1 := HB0.out.step hb.out
     have q0 : Bt wr (some ⟨b, off + p, none⟩) (sub l p 12) := hb1.sub p 12
     have hd : (sub l p 12).length = 12 := sub_len (by rw [HLN.out]; omega)
     have CR := rrows_any (some ⟨b, off + p, none⟩) (c - p) (sub l p 12) wr.heap.size 4 wr q0 (sub_byt HY.out p 12) (by omega) (Nat.le_refl _) (by omega)
     have r1 : rowsE (sub l p 12) 4 = 0 := by
      unfold rowsE
      rw [if_neg (by omega), if_neg]
      rw [hd]
      decide
     obtain ⟨y, hy⟩ : ∃ y, lk0 (l.drop p) = y := ⟨_, rfl⟩
     have hdd : 12 ≤ (l.drop p).length := by rw [List.length_drop, HLN.out]; omega
     obtain ⟨i1, i2, i3⟩ := lk0_parts (l.drop p) (sub l p 12) (by rw [sub_drop]; rfl)
     obtain ⟨t1, t2, t3⟩ := third (HY.out.drop p) hdd
     have v8 := num_four (sub_byt (HY.out.drop p) 8 4) (sub_len (by omega))
     have t1' : num (sub (l.drop p) 8 4) / 16777216 = y.k := by rw [t1, ← hy]; rfl
     have t2' : num (sub (l.drop p) 8 4) % 65536 = y.c := by rw [t2, ← hy]; rfl
     have ky := byt_getD (HY.out.drop p) 8
     rw [← t1, t1'] at ky
     have cy := num_two (sub_byt (HY.out.drop p) 10 2) (sub_len (by omega))
     rw [← t2, t2'] at cy
     rw [getD_drop'] at t3
     rw [hy] at i1 i2
     have r2 : rowsL (sub l p 12) 4 = [y.i, y.d, num (sub (l.drop p) 8 4)] := by
      simp only [rowsL, r1, if_true]
      rw [hd, show 12 / (4 : Int).toNat = 3 by rfl, show (4 : Int).toNat = 4 by rfl, nums_three, i1, i2, i3]
     rw [r1, r2, hd] at CR
     have HRS : Hid (rdk l (j + 1) = rdk l j ++ [y]) := Lib.hid (by rw [rdk_succ, hp, hy])
     have HOK : Hid (((l.getD (p + 9) 0 == 0) = true) ↔ T = true ∧ ∀ i, i < j + 1 → l.getD (4 + i * 12 + 9) 0 = 0) := Lib.hid (by
      obtain ⟨o1, o2⟩ := hok.out.1 rfl
      constructor
      ·intro h
       refine ⟨o1, fun i hi => ?_⟩
       rcases Nat.lt_or_ge i j with q | q
       ·exact o2 i q
       ·obtain rfl : i = j := by omega
        rw [hp]
        simpa using h
      ·rintro ⟨_, h⟩
       have := h j (by omega)
       rw [hp] at this
       simpa using this)
     obtain ⟨z9, hz9⟩ : ∃ z9, l.getD (p + 9) 0 = z9 := ⟨_, rfl⟩
     rw [hz9] at t3 HOK
     generalize num (sub (l.drop p) 8 4) = v at *
     have hv0 : 0 ≤ v := v8.1
     have HT1 := Lib.hid t1'
     have HT2 := Lib.hid t2'
     have HT3 := Lib.hid t3
     obtain ⟨i0, hi0, hz0, hz1, hz2⟩ := info_of infoL
     clear hok q0 hd r1 r2 hdd i1 i2 i3 t1 t1' t2 t2' t3 hz9 hy hb1 v8 hp hr
     obtain ⟨k0, k1, h0, h1, hkl⟩ := kz2_at hA.out
     go_wp2_with fail
     refine CR.mono ?_
     rintro e Y1 ⟨A1, c1, rfl, o1, u1⟩
     obtain ⟨g, rfl, hg0, hg⟩ := own_some o1 (by simp)
     have g0 := own_cellAt o1 (i := 0) (by simp)
     have g1 := own_cellAt o1 (i := 1) (by simp)
     have g2 := own_cellAt o1 (i := 2) (by simp)
     simp only [List.getD_cons_zero, List.getD_cons_succ] at g0 g1 g2
     have KG : Hid (∀ V, Below Y1.heap.size Y1 V → V.cell? ⟨g, 0, none⟩ = some (.int .u32 y.i) ∧ V.cell? ⟨g, 1, none⟩ = some (.int .u32 y.d) ∧ V.cell? ⟨g, 2, none⟩ = some (.int .u32 v)) := Lib.hid (fun V hV => ⟨(hV.cell (p := ⟨g, 0, none⟩) hg).trans g0, (hV.cell (p := ⟨g, 1, none⟩) hg).trans g1, (hV.cell (p := ⟨g, 2, none⟩) hg).trans g2⟩)
     have HU := Lib.hid u1
     have HG := Lib.hid hg
     have tt : Below Y1.heap.size Y1 Y1 := Below.refl _ _
     clear CR o1 u1 hg0 hg g0 g1 g2 hpI hrI hrp hpr hrc n1 k0 k1 h0 h1 hkl
     go_upto_region 12 with fail
     go_cut [10] (fun v10 wx => ∃ k : Nat, v10 = .pointer (some ⟨k, 0, none⟩) ∧ Hid (Y1.heap.size ≤ k) ∧ Hid (Below Y1.heap.size Y1 wx) ∧ Hid (At wx k (.cells #[.int .i64 y.k, .int .u32 y.i, .int .u32 y.d, .int .i64 y.c] 149)))
     case first =>
      refine wp_region_held_drew (S := fun V => V.cell? ⟨g, 0, none⟩ = some (.int .u32 y.i) ∧ V.cell? ⟨g, 1, none⟩ = some (.int .u32 y.d) ∧ V.cell? ⟨g, 2, none⟩ = some (.int .u32 v)) (by kernel_rfl) (KG.out _ tt.drew) (fun hHeld => ?_)
      replace tt : Below Y1.heap.size Y1 Y1.drew := tt.drew
      generalize hX0 : Y1.drew = X0 at tt hHeld ⊢
      clear hX0
      refine wpAnyH_take (i := 0) (v := ?_) rfl (by kernel_rfl) (by kernel_rfl) (by kernel_rfl) (fun _ _ _ h => h) (Or.inl ⟨by rfl, ?_⟩) (by assumption) ?_
      rotate_left
      ·(intro w' hSw; (try dsimp only at hSw); go_simp; try with_reducible rfl)
      simp only [Act.put, getElem_toArray, getElem_cons_zero, setIfInBounds_toArray, set_cons_zero, set_cons_succ]
      refine wpAnyH_take (i := 1) (v := ?_) rfl (by kernel_rfl) (by kernel_rfl) (by kernel_rfl) (fun _ _ _ h => h) (Or.inl ⟨by rfl, ?_⟩) (by assumption) ?_
      rotate_left
      ·(intro w' hSw; (try dsimp only at hSw); go_simp; try with_reducible rfl)
      simp only [Act.put, getElem_toArray, getElem_cons_zero, getElem_cons_succ, setIfInBounds_toArray, set_cons_zero, set_cons_succ]
      refine wpAnyH_take (i := 2) (v := ?_) rfl (by kernel_rfl) (by kernel_rfl) (by kernel_rfl) (fun _ _ _ h => h) (Or.inl ⟨by rfl, ?_⟩) (by assumption) ?_
      rotate_left
      ·(intro w' hSw; (try dsimp only at hSw); go_simp; try with_reducible rfl)
      simp only [Act.put, getElem_toArray, getElem_cons_zero, getElem_cons_succ, setIfInBounds_toArray, set_cons_zero, set_cons_succ]
      refine wpAnyH_take (i := 3) (v := ?_) rfl (by kernel_rfl) (by kernel_rfl) (by kernel_rfl) (fun _ _ _ h => h) (Or.inl ⟨by rfl, ?_⟩) (by assumption) ?_
      rotate_left
      ·(intro w' hSw; (try dsimp only at hSw); go_simp; try with_reducible rfl)
      simp only [Act.put, getElem_toArray, getElem_cons_zero, getElem_cons_succ, setIfInBounds_toArray, set_cons_zero, set_cons_succ]
      refine wpAnyH_take (i := 4) (v := ?_) rfl (by kernel_rfl) (by kernel_rfl) (by kernel_rfl) (fun _ _ _ h => h) (Or.inl ⟨by rfl, ?_⟩) (by assumption) ?_
      rotate_left
      ·(intro w' hSw; (try dsimp only at hSw); go_simp; try with_reducible rfl)
      simp only [Act.put, getElem_toArray, getElem_cons_zero, getElem_cons_succ, setIfInBounds_toArray, set_cons_zero, set_cons_succ]
      refine wpAnyH_take (i := 5) (v := ?_) rfl (by kernel_rfl) (by kernel_rfl) (by kernel_rfl) (fun _ _ _ h => h) (Or.inl ⟨by rfl, ?_⟩) (by assumption) ?_
      rotate_left
      ·(intro w' hSw; (try dsimp only at hSw); go_simp; try with_reducible rfl)
      simp only [Act.put, getElem_toArray, getElem_cons_zero, getElem_cons_succ, setIfInBounds_toArray, set_cons_zero, set_cons_succ]
      refine wpAnyH_take (i := 6) (v := ?_) rfl (by kernel_rfl) (by kernel_rfl) (by kernel_rfl) (fun _ _ _ h => h) (Or.inl ⟨by rfl, ?_⟩) (by assumption) ?_
      rotate_left
      ·(intro w' hSw; (try dsimp only at hSw); go_simp; try with_reducible rfl)
      simp only [Act.put, getElem_toArray, getElem_cons_zero, getElem_cons_succ, setIfInBounds_toArray, set_cons_zero, set_cons_succ]
      refine wpAnyH_take (i := 7) (v := ?_) rfl (by kernel_rfl) (by kernel_rfl) (by kernel_rfl) (fun _ _ _ h => h) (Or.inl ⟨by rfl, ?_⟩) (by assumption) ?_
      rotate_left
      ·(intro w' hSw; (try dsimp only at hSw); go_simp; try with_reducible rfl)
      simp only [Act.put, getElem_toArray, getElem_cons_zero, getElem_cons_succ, setIfInBounds_toArray, set_cons_zero, set_cons_succ]
      refine wpAnyH_take (i := 8) (v := ?_) rfl (by kernel_rfl) (by kernel_rfl) (by kernel_rfl) (fun _ _ _ h => h) (Or.inl ⟨by rfl, ?_⟩) (by assumption) ?_
      rotate_left
      ·(intro w' hSw; (try dsimp only at hSw); go_simp; try with_reducible rfl)
      simp only [Act.put, getElem_toArray, getElem_cons_zero, getElem_cons_succ, setIfInBounds_toArray, set_cons_zero, set_cons_succ]
      refine wpAnyH_take (i := 9) (v := .int .u32 y.k) rfl (by kernel_rfl) (by kernel_rfl) (by kernel_rfl) (fun _ _ _ h => h) (Or.inl ⟨by rfl, ?_⟩) (by assumption) ?_
      ·(intro w' hSw; (try dsimp only at hSw); go_simp; rw [Int.tdiv_eq_ediv_of_nonneg hv0, HT1.out, wrap_u32 (by omega) (by omega)])
      simp only [Act.put, getElem_toArray, getElem_cons_zero, getElem_cons_succ, setIfInBounds_toArray, set_cons_zero, set_cons_succ]
      refine wpAnyH_take (i := 10) (v := .int .i64 y.k) rfl (by kernel_rfl) (by kernel_rfl) (by kernel_rfl) (fun _ _ _ h => h) (Or.inl ⟨by rfl, ?_⟩) (by assumption) ?_
      ·(intro w' hSw; (try dsimp only at hSw); go_simp; rw [wrap_i64 (by omega) (by omega)])
      simp only [Act.put, getElem_toArray, getElem_cons_zero, getElem_cons_succ, setIfInBounds_toArray, set_cons_zero, set_cons_succ]
      refine wpAnyH_take (i := 11) (v := ?_) rfl (by kernel_rfl) (by kernel_rfl) (by kernel_rfl) (fun _ _ _ h => h) (Or.inl ⟨by rfl, ?_⟩) (by assumption) ?_
      rotate_left
      ·(intro w' hSw; (try dsimp only at hSw); go_simp; try with_reducible rfl)
      simp only [Act.put, getElem_toArray, getElem_cons_zero, getElem_cons_succ, setIfInBounds_toArray, set_cons_zero, set_cons_succ]
      refine wpAnyH_take (i := 12) (v := ?_) rfl (by kernel_rfl) (by kernel_rfl) (by kernel_rfl) (fun _ _ _ h => h) (Or.inl ⟨by rfl, ?_⟩) (by assumption) ?_
      rotate_left
      ·(intro w' hSw; (try dsimp only at hSw); go_simp; try with_reducible rfl)
      simp only [Act.put, getElem_toArray, getElem_cons_zero, getElem_cons_succ, setIfInBounds_toArray, set_cons_zero, set_cons_succ]
      refine wpAnyH_take (i := 13) (v := ?_) rfl (by kernel_rfl) (by kernel_rfl) (by kernel_rfl) (fun _ _ _ h => h) (Or.inl ⟨by rfl, ?_⟩) (by assumption) ?_
      rotate_left
      ·(intro w' hSw; (try dsimp only at hSw); go_simp; try with_reducible rfl)
      simp only [Act.put, getElem_toArray, getElem_cons_zero, getElem_cons_succ, setIfInBounds_toArray, set_cons_zero, set_cons_succ]
      refine wpAnyH_take (i := 14) (v := .int .u32 y.c) rfl (by kernel_rfl) (by kernel_rfl) (by kernel_rfl) (fun _ _ _ h => h) (Or.inl ⟨by rfl, ?_⟩) (by assumption) ?_
      ·(intro w' hSw; (try dsimp only at hSw); go_simp; first | rw [HT2.out] | rw [Int.tmod_eq_emod_of_nonneg hv0, HT2.out])
      simp only [Act.put, getElem_toArray, getElem_cons_zero, getElem_cons_succ, setIfInBounds_toArray, set_cons_zero, set_cons_succ]
      refine wpAnyH_take (i := 15) (v := .int .i64 y.c) rfl (by kernel_rfl) (by kernel_rfl) (by kernel_rfl) (fun _ _ _ h => h) (Or.inl ⟨by rfl, ?_⟩) (by assumption) ?_
      ·(intro w' hSw; (try dsimp only at hSw); go_simp; rw [wrap_i64 (by omega) (by omega)])
      simp only [Act.put, getElem_toArray, getElem_cons_zero, getElem_cons_succ, setIfInBounds_toArray, set_cons_zero, set_cons_succ]
      refine wpAnyH_take (i := 16) (v := .agg #[.int .i64 y.k, .int .u32 y.i, .int .u32 y.d, .int .i64 y.c]) rfl (by kernel_rfl) (by kernel_rfl) (by kernel_rfl) (fun _ _ _ h => h) (Or.inl ⟨by rfl, ?_⟩) (by assumption) ?_
      ·(intro w' hSw; (try dsimp only at hSw); go_simp; try rfl)
      simp only [Act.put, getElem_toArray, getElem_cons_zero, getElem_cons_succ, setIfInBounds_toArray, set_cons_zero, set_cons_succ]
      refine wpAnyH_ready (rs := [17]) (by kernel_rfl) (by simp) ?_
      refine AllReadyH.cons rfl (fun K hK => ?_) AllReadyH.nil
      go_simp
      obtain ⟨Y11, hY11⟩ : ∃ V, X0.alloc (.cells #[Value.int .i64 0, .int .u32 0, .int .u32 0, .int .i64 0] 149) = V := ⟨_, rfl⟩
      have u11 : Below X0.heap.size X0 Y11 := by rw [← hY11]; exact below_alloc1 _ _
      have kz := At.mk hY11
      have t_Y11 : Below Y1.heap.size Y1 Y11 := tt.trans (u11.mono tt.size)
      obtain ⟨k11, hk11⟩ : ∃ k, X0.heap.size = k := ⟨_, rfl⟩
      rw [hk11] at kz
      have ga : Hid (Y1.heap.size ≤ k11) := Lib.hid (by rw [← hk11]; exact tt.size)
      try rw [hY11]
      try rw [hk11]
      clear hY11 hk11
      refine hK.out _ _ (KG.out _ t_Y11) (fun _ => ?_)
      clear hK K
      refine wpAnyH_ready (rs := [18]) (by kernel_rfl) (by simp) ?_
      refine AllReadyH.cons rfl (fun K hK => ?_) AllReadyH.nil
      obtain ⟨a0, a1, a2, a3, f0, f1, f2, f3, hzl⟩ := kz4_at kz
      have KR : Hid (At (st4 Y11 k11 (Value.int .i64 y.k) (.int .u32 y.i) (.int .u32 y.d) (.int .i64 y.c)) k11 (.cells #[.int .i64 y.k, .int .u32 y.i, .int .u32 y.d, .int .i64 y.c] 149)) := Lib.hid (kz4_set kz (Value.int .i64 y.k) (.int .u32 y.i) (.int .u32 y.d) (.int .i64 y.c))
      have TF : Hid (Below Y1.heap.size Y1 (st4 Y11 k11 (Value.int .i64 y.k) (.int .u32 y.i) (.int .u32 y.d) (.int .i64 y.c))) := Lib.hid (below_st4 t_Y11 ga.out _ _ _ _)
      have hne : g ≠ k11 := by have := HG.out; have := ga.out; omega
      have KF : Hid ((st4 Y11 k11 (Value.int .i64 y.k) (.int .u32 y.i) (.int .u32 y.d) (.int .i64 y.c)).cell? ⟨g, 0, none⟩ = some (.int .u32 y.i) ∧ (st4 Y11 k11 (Value.int .i64 y.k) (.int .u32 y.i) (.int .u32 y.d) (.int .i64 y.c)).cell? ⟨g, 1, none⟩ = some (.int .u32 y.d) ∧ (st4 Y11 k11 (Value.int .i64 y.k) (.int .u32 y.i) (.int .u32 y.d) (.int .i64 y.c)).cell? ⟨g, 2, none⟩ = some (.int .u32 v)) := Lib.hid (by
       obtain ⟨e0, e1, e2⟩ := KG.out _ t_Y11
       exact ⟨(cell_st4 (p := ⟨g, 0, none⟩) hne _ _ _ _).trans e0, (cell_st4 (p := ⟨g, 1, none⟩) hne _ _ _ _).trans e1, (cell_st4 (p := ⟨g, 2, none⟩) hne _ _ _ _).trans e2⟩)
      clear hHeld
      go_simp
      refine hK.out _ _ KF.out (fun _ => ?_)
      clear hK K
      refine wpAnyH_done (by kernel_rfl) ?_ _
      go_wp2_with fail
      go_meet
      case rel => exact ⟨_, rfl, ga, TF, KR⟩
     case rest =>
      obtain ⟨k, rfl, hk, T6, K6⟩ := hcut
      obtain ⟨y0, y1, y2, y3, q0, q1, q2, q3, hkl⟩ := kz4_at K6.out
      obtain ⟨-, -, g2⟩ := KG.out _ T6.out
      have TX : Below wr.heap.size wr wc := HU.out.trans (T6.out.mono HU.out.size)
      have AX := hA.out.step TX
      have oX := ho.out.step TX
      obtain ⟨k0, k1, h0, h1, hkl2⟩ := kz2_at AX
      obtain ⟨Y2, hY2⟩ : ∃ V, wc.alloc (.cells #[.int .i64 y.k, .int .u32 y.i, .int .u32 y.d, .int .i64 y.c] 149) = V := ⟨_, rfl⟩
      obtain ⟨n9, hn9⟩ : ∃ n9, wc.heap.size = n9 := ⟨_, rfl⟩
      obtain ⟨g9, c9, Z9, r9, rg9, kp9, hg9⟩ := app_one (P := Tryz.prog) (S := (kx < ·)) Tryz.underlying101 hi0 hz0 hz1 hz2 rfl (by decide) (by decide) oX (by rw [lflat_length, rdk_length]) (lkc y) rfl (lkc_one y) (by omega) n9 hn9
      rw [show (lkc y).toArray = #[.int .i64 y.k, .int .u32 y.i, .int .u32 y.d, .int .i64 y.c] from rfl, hY2] at r9
      have A9 : At Z9 kx (.cells #[Value.int .i64 x0, .slice A' j c'] 103) := (kp9.block kx AX.lt (by omega)).trans AX
      have G9 : kx < g9 := by rcases hg9 with q | q; exact q; have := AX.lt; omega
      have B9 : Below W0.heap.size W0 Z9 := by
       have t9 := hb.out.trans (TX.mono hb.out.size)
       exact t9.trans (kp9.below (fun i hi => by have := HS.out; omega) t9.size)
      obtain ⟨s0, s1, u0, u1, hkl3⟩ := kz2_at A9
      have FN := Lib.hid (row_laid (v' := .slice (some ⟨g9, 0, none⟩) (j + 1) c9) A9 (L := rdk l (j + 1)) (by rw [HRS.out, lflat_snoc]; exact rg9) G9 rfl)
      have BN : Hid (Below W0.heap.size W0 (Z9.setCell ⟨kx, 1, none⟩ (.slice (some ⟨g9, 0, none⟩) (j + 1) c9))) := Lib.hid (B9.setCell (p := ⟨kx, 1, none⟩) HS.out _)
      obtain ⟨T9, hT9⟩ : ∃ T9, (z9 == 0) = T9 := ⟨_, rfl⟩
      have hT8 : (v.tdiv 65536 % 256 == 0) = T9 := by rw [Int.tdiv_eq_ediv_of_nonneg hv0, HT3.out, hT9]
      rw [hT9] at HOK
      clear AX oX rg9 kp9 hg9 A9 B9 hT9 G9
      go_wp2_with (at_builtin; refine wpList_runb _ rfl (.tmp 100) (.tmp 102) 101 rfl rfl rfl r9 ?_)
      go_wp2
      go_roundg gf
      case measure => omega
      case rel => exact ⟨j + 1, _, _, T9, rfl, by go_num, Lib.hid (by omega), HOK, Lib.hid FN.out.1, Lib.hid FN.out.2, BN⟩
theorem rreadrouter_any (A : Option Addr) (n c : Nat) (l : List Int) (w : World) (hn : l.length = n) (hb : Bt w A l) (hy : Byt l) (hc : n ≤ c) (hl : n ≤ 5000) :
  Calls Tryz.prog 62 #[.slice A n c] w fun e w' => ∃ A' m' c', m' = (rdRL l).length ∧ e = .returned (.tuple #[.agg #[.int .i64 (rdRF l), .slice A' m' c'], .int .i64 (rdRE l)]) ∧ Lr w' A' (rdRL l) ∧ Below w.heap.size w w' := rreadrouter_q A n c l w hn hb hy hc hl
end Go.Proofs.YtadcicmccdphkaaGreat
