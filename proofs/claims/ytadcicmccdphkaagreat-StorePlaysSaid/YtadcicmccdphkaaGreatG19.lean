/-
  Contracts of body.ReadSummary and body.ReadExternal. No statement is proved here; no conditions.
-/
import Derived.Test.YtadcicmccdphkaaGreatG18
namespace Go.Proofs.YtadcicmccdphkaaGreat
open Go.RowKit Go.Joins
open List (getElem_toArray getElem_cons_zero getElem_cons_succ setIfInBounds_toArray set_cons_zero set_cons_succ)

theorem onlyS {l : List Int} (h : 8 ≤ l.length) : (if encSE (rM l) (rC l) = 0 ∧ encSL (rM l) (rC l) = l then Value.tuple #[.agg #[.int .u32 (rM l), .int .i64 (rC l)], .int .i64 0] else .tuple #[.agg #[.int .u32 0, .int .i64 0], .int .i64 3]) = .tuple #[.agg #[.int .u32 (rdSM l), .int .i64 (rdSC l)], .int .i64 (rdSE l)] := by
 have e : rdSE l = if okS l = true then 0 else 3 := by unfold rdSE; rw [if_neg (by omega)]
 by_cases hm : mayc (rM l) (rC l) = true
 ·have e1 : encSE (rM l) (rC l) = 0 := by unfold encSE; rw [if_pos hm]
  have e2 : encSL (rM l) (rC l) = enS (rM l) (rC l) := by unfold encSL; rw [if_pos hm]
  by_cases hl : enS (rM l) (rC l) = l
  ·have ok : okS l = true := by unfold okS; rw [hm, decide_eq_true hl]; rfl
   rw [if_pos ok] at e
   rw [e1, e2, if_pos ⟨rfl, hl⟩, e]
   unfold rdSM rdSC
   rw [if_pos e, if_pos e]
  ·have ok : ¬ okS l = true := by unfold okS; rw [decide_eq_false hl]; simp
   rw [if_neg ok] at e
   rw [e1, e2, if_neg (fun q => hl q.2), e]
   unfold rdSM rdSC
   rw [e]
   rfl
 ·have e1 : encSE (rM l) (rC l) = 1 := by unfold encSE; rw [if_neg hm]
  have ok : ¬ okS l = true := by unfold okS; simp [hm]
  rw [if_neg ok] at e
  rw [e1, if_neg (fun q => by have := q.1; omega), e]
  unfold rdSM rdSC
  rw [e]
  rfl
theorem onlyX {l : List Int} (h : 16 ≤ l.length) : (if encXE (rX l) = 0 ∧ encXL (rX l) = l then Value.tuple #[.agg #[.int .u32 (rX l).m, .bool (rX l).s, .int .i64 (rX l).c, .int .u32 (rX l).f, .int .u32 (rX l).t], .int .i64 0] else .tuple #[.agg #[.int .u32 0, .bool false, .int .i64 0, .int .u32 0, .int .u32 0], .int .i64 3]) = .tuple #[.agg #[.int .u32 (rdX l).m, .bool (rdX l).s, .int .i64 (rdX l).c, .int .u32 (rdX l).f, .int .u32 (rdX l).t], .int .i64 (rdXE l)] := by
 have e : rdXE l = if okX l = true then 0 else 3 := by unfold rdXE; rw [if_neg (by omega)]
 have em : (rX l).m = rM l := rfl
 have ec : (rX l).c = rC l := rfl
 have eE : encXE (rX l) = if mayc (rM l) (rC l) = true then 0 else 1 := rfl
 have eL : encXL (rX l) = if mayc (rM l) (rC l) = true then enX (rX l) else [] := rfl
 by_cases hm : mayc (rM l) (rC l) = true
 ·rw [if_pos hm] at eE eL
  by_cases hl : enX (rX l) = l
  ·have ok : okX l = true := by unfold okX; rw [hm, decide_eq_true hl]; rfl
   rw [if_pos ok] at e
   rw [eE, eL, if_pos ⟨rfl, hl⟩, e]
   unfold rdX
   rw [if_pos e]
  ·have ok : ¬ okX l = true := by unfold okX; rw [decide_eq_false hl]; simp
   rw [if_neg ok] at e
   rw [eE, eL, if_neg (fun q => hl q.2), e]
   unfold rdX
   rw [e]
   rfl
 ·rw [if_neg hm] at eE
  have ok : ¬ okX l = true := by unfold okX; simp [hm]
  rw [if_neg ok] at e
  rw [eE, if_neg (fun q => by have := q.1; omega), e]
  unfold rdX
  rw [e]
  rfl
set_option maxRecDepth 100000 in
set_option maxHeartbeats 40000000 in
theorem readsummary_any (A : Option Addr) (n c : Nat) (l : List Int) (w : World) (hn : l.length = n) (hb : Bt w A l) (hy : Byt l) (hc : n ≤ c) (hl : n ≤ 5000) :
  Calls Tryz.prog 75 #[.slice A n c] w fun e w' => e = .returned (.tuple #[.agg #[.int .u32 (rdSM l), .int .i64 (rdSC l)], .int .i64 (rdSE l)]) ∧ Below w.heap.size w w' := by
 obtain ⟨W0, hW0⟩ : ∃ V, w.alloc (.cells #[Value.int .u32 0, .int .i64 0] 130) = V := ⟨_, rfl⟩
 have bW0 : Below w.heap.size w W0 := by rw [← hW0]; exact below_alloc1 _ _
 have sW0 : W0.heap.size = w.heap.size + 1 := by rw [← hW0]; simp
 have KZ : Hid (∀ V, Below W0.heap.size W0 V → V.heap[w.heap.size]? = some (.cells #[Value.int .u32 0, .int .i64 0] 130)) :=
  Lib.hid (fun V hV => by rw [hV.block _ (by omega), ← hW0]; exact alloc_at _ _ _ (by omega))
 have HB : Hid (Below w.heap.size w W0) := Lib.hid bW0
 by_cases h8 : n < 8
 ·have e4 : rdSE l = 2 := by unfold rdSE; rw [if_pos (by omega)]
  have e5 : rdSM l = 0 := by unfold rdSM; rw [e4]; rfl
  have e6 : rdSC l = 0 := by unfold rdSC; rw [e4]; rfl
  rw [e4, e5, e6]
  clear e5 e6
  have h8' : (n : Int) < 8 := by omega
  clear e4 hb hy bW0 hn
  have z1 := KZ.out _ (Below.refl _ _)
  obtain ⟨a0, a1, f0, f1, hzl⟩ := kz2_at z1
  have KR := Lib.hid <| kz2_get z1 (Value.int .u32 0) (.int .i64 0)
  have TF := Lib.hid <| below_st2 HB.out (Nat.le_refl _) (Value.int .u32 0) (.int .i64 0)
  clear z1 KZ
  go_enter Tryz.func75, Tryz.ntmps75
  go_wp2
  obtain ⟨r0, r1⟩ := KR.out
  refine bodyPost_ret (v := .tuple #[.agg #[.int .u32 0, .int .i64 0], .int .i64 2]) (by simp [results, Tryz.results75, go_sem, r0, r1]) rfl ⟨rfl, TF.out⟩
 obtain ⟨b, off, rfl, hbl, -⟩ := hb (by rintro rfl; simp at hn; omega)
 have HN : Hid (b < W0.heap.size) := Lib.hid (by omega)
 have hb0 := hb.step bW0
 have q0 : Bt W0 (some ⟨b, off, none⟩) (sub l 0 4) := bs_sub0 hb0 4
 have lq0 : (sub l 0 4).length = 4 := sub_len (by omega)
 have zq0 := sub_byt hy 0 4
 have q5 : Bt W0 (some ⟨b, off + 5, none⟩) (sub l 5 3) := hb0.sub 5 3
 have lq5 : (sub l 5 3).length = 3 := sub_len (by omega)
 have zq5 := sub_byt hy 5 3
 have v0 := rM_bd hy (by omega)
 have v5 := rC_bd hy (by omega)
 have HO := onlyS (l := l) (by omega)
 unfold rM at v0
 unfold rC at v5
 unfold rM rC at HO
 generalize sub l 0 4 = L0 at *
 generalize sub l 5 3 = L5 at *
 have n5 : ¬ (c = 5) := by omega
 have i4 : (4 : Int) ≤ (c : Int) := by omega
 have i8 : (8 : Int) ≤ (c : Int) := by omega
 generalize rdSM l = om at *
 generalize rdSC l = ox at *
 generalize rdSE l = oe at *
 have HH := Lib.hid HO
 clear HO
 have h8' : ¬ ((n : Int) < 8) := by omega
 have HLN := Lib.hid hn
 have HY := Lib.hid hy
 have tt : Below W0.heap.size W0 W0 := Below.refl _ _
 clear hb bW0 hbl hn hy sW0
 go_enter Tryz.func75, Tryz.ntmps75
 go_upto_region 3 with fail
 go_cut [4] (fun v4 wx => ∃ k : Nat, v4 = .pointer (some ⟨k, 0, none⟩) ∧ Hid (W0.heap.size ≤ k) ∧ Hid (Below W0.heap.size W0 wx) ∧ Hid (At wx k (.cells #[.int .u32 (num L0), .int .i64 (num L5)] 130)))
 case first =>
  refine wp_region_held_drew (S := fun V => True) (by kernel_rfl) trivial (fun hHeld => ?_)
  replace tt : Below W0.heap.size W0 W0.drew := tt.drew
  replace q0 : Bt W0.drew (some ⟨b, off, none⟩) L0 := q0
  replace q5 : Bt W0.drew (some ⟨b, off + 5, none⟩) L5 := q5
  generalize hX0 : W0.drew = X0 at tt q0 q5 hHeld ⊢
  clear hX0
  refine wpAnyH_take (i := 0) (v := ?_) rfl (by kernel_rfl) (by kernel_rfl) (by kernel_rfl) (fun _ _ _ h => h) (Or.inl ⟨by rfl, ?_⟩) (by assumption) ?_
  rotate_left
  ·(intro w' hSw; (try dsimp only at hSw); go_simp; try with_reducible rfl)
  simp only [Act.put, getElem_toArray, getElem_cons_zero, setIfInBounds_toArray, set_cons_zero, set_cons_succ]
  refine wpAnyH_take (i := 1) (v := .slice (some ⟨b, off, none⟩) 4 c) rfl (by kernel_rfl) (by kernel_rfl) (by kernel_rfl) (fun _ _ _ h => h) (Or.inl ⟨by rfl, ?_⟩) (by assumption) ?_
  ·(intro w' hSw; (try dsimp only at hSw); go_simp; try rfl)
  simp only [Act.put, getElem_toArray, getElem_cons_zero, getElem_cons_succ, setIfInBounds_toArray, set_cons_zero, set_cons_succ]
  refine wpAnyH_take (i := 3) (v := ?_) rfl (by kernel_rfl) (by kernel_rfl) (by kernel_rfl) (fun _ _ _ h => h) (Or.inl ⟨by rfl, ?_⟩) (by assumption) ?_
  rotate_left
  ·(intro w' hSw; (try dsimp only at hSw); go_simp; try with_reducible rfl)
  simp only [Act.put, getElem_toArray, getElem_cons_zero, getElem_cons_succ, setIfInBounds_toArray, set_cons_zero, set_cons_succ]
  refine wpAnyH_take (i := 4) (v := .slice (some ⟨b, off + 5, none⟩) 3 (c - 5)) rfl (by kernel_rfl) (by kernel_rfl) (by kernel_rfl) (fun _ _ _ h => h) (Or.inl ⟨by rfl, ?_⟩) (by assumption) ?_
  ·(intro w' hSw; (try dsimp only at hSw); go_simp; try rfl)
  simp only [Act.put, getElem_toArray, getElem_cons_zero, getElem_cons_succ, setIfInBounds_toArray, set_cons_zero, set_cons_succ]
  refine wpAnyH_ready (rs := [2, 8]) (by kernel_rfl) (by simp) ?_
  refine AllReadyH.cons rfl (fun K hK => ?_) ?_
  ·go_simp
   go_at_call 97
   refine (ynumber_any _ 4 _ L0 X0 q0 zq0 lq0 (by omega) (by decide) (by decide)).mono ?_
   rintro e Y11 ⟨rfl, u11⟩
   have t_Y11 : Below W0.heap.size W0 Y11 := tt.trans (u11.mono tt.size)
   replace q0 := q0.step u11
   replace q5 := q5.step u11
   refine hK.out _ _ trivial (fun _ => ?_)
   clear hK K
   refine wpAnyH_ready (rs := [5, 8]) (by kernel_rfl) (by simp) ?_
   refine AllReadyH.cons rfl (fun K hK => ?_) ?_
   ·go_simp
    go_at_call 97
    refine (ynumber_any _ 3 _ L5 Y11 q5 zq5 lq5 (by omega) (by decide) (by decide)).mono ?_
    rintro e Y12 ⟨rfl, u12⟩
    have t_Y12 : Below W0.heap.size W0 Y12 := t_Y11.trans (u12.mono t_Y11.size)
    replace q0 := q0.step u12
    replace q5 := q5.step u12
    refine hK.out _ _ trivial (fun _ => ?_)
    clear hK K
    refine wpAnyH_take (i := 6) (v := .int .i64 (num L5)) rfl (by kernel_rfl) (by kernel_rfl) (by kernel_rfl) (fun _ _ _ h => h) (Or.inl ⟨by rfl, ?_⟩) (by assumption) ?_
    ·(intro w' hSw; (try dsimp only at hSw); go_simp; rw [wrap_i64 (by omega) (by omega)])
    simp only [Act.put, getElem_toArray, getElem_cons_zero, getElem_cons_succ, setIfInBounds_toArray, set_cons_zero, set_cons_succ]
    refine wpAnyH_take (i := 7) (v := .agg #[.int .u32 (num L0), .int .i64 (num L5)]) rfl (by kernel_rfl) (by kernel_rfl) (by kernel_rfl) (fun _ _ _ h => h) (Or.inl ⟨by rfl, ?_⟩) (by assumption) ?_
    ·(intro w' hSw; (try dsimp only at hSw); go_simp; try rfl)
    simp only [Act.put, getElem_toArray, getElem_cons_zero, getElem_cons_succ, setIfInBounds_toArray, set_cons_zero, set_cons_succ]
    refine wpAnyH_ready (rs := [8]) (by kernel_rfl) (by simp) ?_
    refine AllReadyH.cons rfl (fun K hK => ?_) AllReadyH.nil
    go_simp
    obtain ⟨Y13, hY13⟩ : ∃ V, Y12.alloc (.cells #[Value.int .u32 0, .int .i64 0] 130) = V := ⟨_, rfl⟩
    have u13 : Below Y12.heap.size Y12 Y13 := by rw [← hY13]; exact below_alloc1 _ _
    have kz := At.mk hY13
    have t_Y13 : Below W0.heap.size W0 Y13 := t_Y12.trans (u13.mono t_Y12.size)
    replace q0 := q0.step u13
    replace q5 := q5.step u13
    obtain ⟨k13, hk13⟩ : ∃ k, Y12.heap.size = k := ⟨_, rfl⟩
    rw [hk13] at kz
    have ga : Hid (W0.heap.size ≤ k13) := Lib.hid (by rw [← hk13]; exact t_Y12.size)
    try rw [hY13]
    try rw [hk13]
    clear hY13 hk13
    refine hK.out _ _ trivial (fun _ => ?_)
    clear hK K
    refine wpAnyH_ready (rs := [9]) (by kernel_rfl) (by simp) ?_
    refine AllReadyH.cons rfl (fun K hK => ?_) AllReadyH.nil
    obtain ⟨a0, a1, f0, f1, hzl⟩ := kz2_at kz
    have KR : Hid (At (st2 Y13 k13 (Value.int .u32 (num L0)) (.int .i64 (num L5))) k13 (.cells #[.int .u32 (num L0), .int .i64 (num L5)] 130)) := Lib.hid (kz2_set kz (Value.int .u32 (num L0)) (.int .i64 (num L5)))
    have TF : Hid (Below W0.heap.size W0 (st2 Y13 k13 (Value.int .u32 (num L0)) (.int .i64 (num L5)))) := Lib.hid (below_st2 t_Y13 ga.out _ _)
    clear hHeld
    go_simp
    refine hK.out _ _ trivial (fun _ => ?_)
    clear hK K
    refine wpAnyH_done (by kernel_rfl) ?_ _
    go_wp2_with fail
    go_meet
    case rel => exact ⟨_, rfl, ga, TF, KR⟩
   refine AllReadyH.cons rfl (fun K hK => ?_) AllReadyH.nil
   go_simp
   obtain ⟨Y12, hY12⟩ : ∃ V, Y11.alloc (.cells #[Value.int .u32 0, .int .i64 0] 130) = V := ⟨_, rfl⟩
   have u12 : Below Y11.heap.size Y11 Y12 := by rw [← hY12]; exact below_alloc1 _ _
   have kz := At.mk hY12
   have t_Y12 : Below W0.heap.size W0 Y12 := t_Y11.trans (u12.mono t_Y11.size)
   replace q0 := q0.step u12
   replace q5 := q5.step u12
   obtain ⟨k12, hk12⟩ : ∃ k, Y11.heap.size = k := ⟨_, rfl⟩
   rw [hk12] at kz
   have ga : Hid (W0.heap.size ≤ k12) := Lib.hid (by rw [← hk12]; exact t_Y11.size)
   try rw [hY12]
   try rw [hk12]
   clear hY12 hk12
   refine hK.out _ _ trivial (fun _ => ?_)
   clear hK K
   refine wpAnyH_ready (rs := [5]) (by kernel_rfl) (by simp) ?_
   refine AllReadyH.cons rfl (fun K hK => ?_) AllReadyH.nil
   go_simp
   go_at_call 97
   refine (ynumber_any _ 3 _ L5 Y12 q5 zq5 lq5 (by omega) (by decide) (by decide)).mono ?_
   rintro e Y13 ⟨rfl, u13⟩
   have t_Y13 : Below W0.heap.size W0 Y13 := t_Y12.trans (u13.mono t_Y12.size)
   replace q0 := q0.step u13
   replace q5 := q5.step u13
   replace kz := kz.step u13
   refine hK.out _ _ trivial (fun _ => ?_)
   clear hK K
   refine wpAnyH_take (i := 6) (v := .int .i64 (num L5)) rfl (by kernel_rfl) (by kernel_rfl) (by kernel_rfl) (fun _ _ _ h => h) (Or.inl ⟨by rfl, ?_⟩) (by assumption) ?_
   ·(intro w' hSw; (try dsimp only at hSw); go_simp; rw [wrap_i64 (by omega) (by omega)])
   simp only [Act.put, getElem_toArray, getElem_cons_zero, getElem_cons_succ, setIfInBounds_toArray, set_cons_zero, set_cons_succ]
   refine wpAnyH_take (i := 7) (v := .agg #[.int .u32 (num L0), .int .i64 (num L5)]) rfl (by kernel_rfl) (by kernel_rfl) (by kernel_rfl) (fun _ _ _ h => h) (Or.inl ⟨by rfl, ?_⟩) (by assumption) ?_
   ·(intro w' hSw; (try dsimp only at hSw); go_simp; try rfl)
   simp only [Act.put, getElem_toArray, getElem_cons_zero, getElem_cons_succ, setIfInBounds_toArray, set_cons_zero, set_cons_succ]
   refine wpAnyH_ready (rs := [9]) (by kernel_rfl) (by simp) ?_
   refine AllReadyH.cons rfl (fun K hK => ?_) AllReadyH.nil
   obtain ⟨a0, a1, f0, f1, hzl⟩ := kz2_at kz
   have KR : Hid (At (st2 Y13 k12 (Value.int .u32 (num L0)) (.int .i64 (num L5))) k12 (.cells #[.int .u32 (num L0), .int .i64 (num L5)] 130)) := Lib.hid (kz2_set kz (Value.int .u32 (num L0)) (.int .i64 (num L5)))
   have TF : Hid (Below W0.heap.size W0 (st2 Y13 k12 (Value.int .u32 (num L0)) (.int .i64 (num L5)))) := Lib.hid (below_st2 t_Y13 ga.out _ _)
   clear hHeld
   go_simp
   refine hK.out _ _ trivial (fun _ => ?_)
   clear hK K
   refine wpAnyH_done (by kernel_rfl) ?_ _
   go_wp2_with fail
   go_meet
   case rel => exact ⟨_, rfl, ga, TF, KR⟩
  refine AllReadyH.cons rfl (fun K hK => ?_) AllReadyH.nil
  go_simp
  obtain ⟨Y11, hY11⟩ : ∃ V, X0.alloc (.cells #[Value.int .u32 0, .int .i64 0] 130) = V := ⟨_, rfl⟩
  have u11 : Below X0.heap.size X0 Y11 := by rw [← hY11]; exact below_alloc1 _ _
  have kz := At.mk hY11
  have t_Y11 : Below W0.heap.size W0 Y11 := tt.trans (u11.mono tt.size)
  replace q0 := q0.step u11
  replace q5 := q5.step u11
  obtain ⟨k11, hk11⟩ : ∃ k, X0.heap.size = k := ⟨_, rfl⟩
  rw [hk11] at kz
  have ga : Hid (W0.heap.size ≤ k11) := Lib.hid (by rw [← hk11]; exact tt.size)
  try rw [hY11]
  try rw [hk11]
  clear hY11 hk11
  refine hK.out _ _ trivial (fun _ => ?_)
  clear hK K
  refine wpAnyH_ready (rs := [2]) (by kernel_rfl) (by simp) ?_
  refine AllReadyH.cons rfl (fun K hK => ?_) AllReadyH.nil
  go_simp
  go_at_call 97
  refine (ynumber_any _ 4 _ L0 Y11 q0 zq0 lq0 (by omega) (by decide) (by decide)).mono ?_
  rintro e Y12 ⟨rfl, u12⟩
  have t_Y12 : Below W0.heap.size W0 Y12 := t_Y11.trans (u12.mono t_Y11.size)
  replace q0 := q0.step u12
  replace q5 := q5.step u12
  replace kz := kz.step u12
  refine hK.out _ _ trivial (fun _ => ?_)
  clear hK K
  refine wpAnyH_ready (rs := [5]) (by kernel_rfl) (by simp) ?_
  refine AllReadyH.cons rfl (fun K hK => ?_) AllReadyH.nil
  go_simp
  go_at_call 97
  refine (ynumber_any _ 3 _ L5 Y12 q5 zq5 lq5 (by omega) (by decide) (by decide)).mono ?_
  rintro e Y13 ⟨rfl, u13⟩
  have t_Y13 : Below W0.heap.size W0 Y13 := t_Y12.trans (u13.mono t_Y12.size)
  replace q0 := q0.step u13
  replace q5 := q5.step u13
  replace kz := kz.step u13
  refine hK.out _ _ trivial (fun _ => ?_)
  clear hK K
  refine wpAnyH_take (i := 6) (v := .int .i64 (num L5)) rfl (by kernel_rfl) (by kernel_rfl) (by kernel_rfl) (fun _ _ _ h => h) (Or.inl ⟨by rfl, ?_⟩) (by assumption) ?_
  ·(intro w' hSw; (try dsimp only at hSw); go_simp; rw [wrap_i64 (by omega) (by omega)])
  simp only [Act.put, getElem_toArray, getElem_cons_zero, getElem_cons_succ, setIfInBounds_toArray, set_cons_zero, set_cons_succ]
  refine wpAnyH_take (i := 7) (v := .agg #[.int .u32 (num L0), .int .i64 (num L5)]) rfl (by kernel_rfl) (by kernel_rfl) (by kernel_rfl) (fun _ _ _ h => h) (Or.inl ⟨by rfl, ?_⟩) (by assumption) ?_
  ·(intro w' hSw; (try dsimp only at hSw); go_simp; try rfl)
  simp only [Act.put, getElem_toArray, getElem_cons_zero, getElem_cons_succ, setIfInBounds_toArray, set_cons_zero, set_cons_succ]
  refine wpAnyH_ready (rs := [9]) (by kernel_rfl) (by simp) ?_
  refine AllReadyH.cons rfl (fun K hK => ?_) AllReadyH.nil
  obtain ⟨a0, a1, f0, f1, hzl⟩ := kz2_at kz
  have KR : Hid (At (st2 Y13 k11 (Value.int .u32 (num L0)) (.int .i64 (num L5))) k11 (.cells #[.int .u32 (num L0), .int .i64 (num L5)] 130)) := Lib.hid (kz2_set kz (Value.int .u32 (num L0)) (.int .i64 (num L5)))
  have TF : Hid (Below W0.heap.size W0 (st2 Y13 k11 (Value.int .u32 (num L0)) (.int .i64 (num L5)))) := Lib.hid (below_st2 t_Y13 ga.out _ _)
  clear hHeld
  go_simp
  refine hK.out _ _ trivial (fun _ => ?_)
  clear hK K
  refine wpAnyH_done (by kernel_rfl) ?_ _
  go_wp2_with fail
  go_meet
  case rel => exact ⟨_, rfl, ga, TF, KR⟩
 case rest =>
  obtain ⟨k, rfl, hk, T6, K6⟩ := hcut
  obtain ⟨y0, y1, p0, p1, hkl⟩ := kz2_at K6.out
  have q9 := hb0.step T6.out
  have CC : Calls Tryz.prog 104 #[.agg #[.int .u32 (num L0), .int .i64 (num L5)], .func (.func 105) #[] #[], .slice (some ⟨b, off, none⟩) n c] wc fun e w' => e = .returned (.tuple #[.agg #[.int .u32 om, .int .i64 ox], .int .i64 oe]) ∧ Below wc.heap.size wc w' := by
   have q := only_s (num L0) (num L5) (some ⟨b, off, none⟩) n c l wc v0.1 v0.2 HLN.out q9 HY.out
   rwa [HH.out] at q
  go_wp2_with fail
  refine CC.mono ?_
  rintro e V2 ⟨rfl, u7⟩
  have T7 : Below W0.heap.size W0 V2 := T6.out.trans (u7.mono T6.out.size)
  have z1 := KZ.out _ T7
  obtain ⟨a0, a1, f0, f1, hzl⟩ := kz2_at z1
  have KR := Lib.hid <| kz2_get z1 (Value.int .u32 om) (.int .i64 ox)
  have TF := Lib.hid <| below_st2 (HB.out.trans (T7.mono HB.out.size)) (Nat.le_refl _) (Value.int .u32 om) (.int .i64 ox)
  clear CC u7 z1 y0 y1 p0 p1 q9 T7
  go_wp2
  obtain ⟨r0, r1⟩ := KR.out
  refine bodyPost_ret (v := .tuple #[.agg #[.int .u32 om, .int .i64 ox], .int .i64 oe]) (by simp [results, Tryz.results75, go_sem, r0, r1]) rfl ⟨rfl, TF.out⟩
set_option maxRecDepth 100000 in
set_option maxHeartbeats 40000000 in
theorem readexternal_any (A : Option Addr) (n c : Nat) (l : List Int) (w : World) (hn : l.length = n) (hb : Bt w A l) (hy : Byt l) (hc : n ≤ c) (hl : n ≤ 5000) :
  Calls Tryz.prog 76 #[.slice A n c] w fun e w' => e = .returned (.tuple #[.agg #[.int .u32 (rdX l).m, .bool (rdX l).s, .int .i64 (rdX l).c, .int .u32 (rdX l).f, .int .u32 (rdX l).t], .int .i64 (rdXE l)]) ∧ Below w.heap.size w w' := by
 obtain ⟨W0, hW0⟩ : ∃ V, w.alloc (.cells #[Value.int .u32 0, .bool false, .int .i64 0, .int .u32 0, .int .u32 0] 133) = V := ⟨_, rfl⟩
 have bW0 : Below w.heap.size w W0 := by rw [← hW0]; exact below_alloc1 _ _
 have sW0 : W0.heap.size = w.heap.size + 1 := by rw [← hW0]; simp
 have KZ : Hid (∀ V, Below W0.heap.size W0 V → V.heap[w.heap.size]? = some (.cells #[Value.int .u32 0, .bool false, .int .i64 0, .int .u32 0, .int .u32 0] 133)) :=
  Lib.hid (fun V hV => by rw [hV.block _ (by omega), ← hW0]; exact alloc_at _ _ _ (by omega))
 have HB : Hid (Below w.heap.size w W0) := Lib.hid bW0
 by_cases h8 : n < 16
 ·have e4 : rdXE l = 2 := by unfold rdXE; rw [if_pos (by omega)]
  have e5 : rdX l = zX := by unfold rdX; rw [e4]; rfl
  rw [e4, e5]
  clear e5
  have h8' : (n : Int) < 16 := by omega
  clear e4 hb hy bW0 hn
  have z1 := KZ.out _ (Below.refl _ _)
  obtain ⟨a0, a1, a2, a3, a4, f0, f1, f2, f3, f4, hzl⟩ := kz5_at z1
  have KR := Lib.hid <| kz5_get z1 (Value.int .u32 0) (.bool false) (.int .i64 0) (.int .u32 0) (.int .u32 0)
  have TF := Lib.hid <| below_st5 HB.out (Nat.le_refl _) (Value.int .u32 0) (.bool false) (.int .i64 0) (.int .u32 0) (.int .u32 0)
  clear z1 KZ
  go_enter Tryz.func76, Tryz.ntmps76
  go_wp2
  obtain ⟨r0, r1, r2, r3, r4⟩ := KR.out
  refine bodyPost_ret (v := .tuple #[.agg #[.int .u32 0, .bool false, .int .i64 0, .int .u32 0, .int .u32 0], .int .i64 2]) (by simp [results, Tryz.results76, go_sem, r0, r1, r2, r3, r4]) rfl ⟨rfl, TF.out⟩
 obtain ⟨b, off, rfl, hbl, -⟩ := hb (by rintro rfl; simp at hn; omega)
 have HN : Hid (b < W0.heap.size) := Lib.hid (by omega)
 have hb0 := hb.step bW0
 have q0 : Bt W0 (some ⟨b, off, none⟩) (sub l 0 4) := bs_sub0 hb0 4
 have lq0 : (sub l 0 4).length = 4 := sub_len (by omega)
 have zq0 := sub_byt hy 0 4
 have q5 : Bt W0 (some ⟨b, off + 5, none⟩) (sub l 5 3) := hb0.sub 5 3
 have lq5 : (sub l 5 3).length = 3 := sub_len (by omega)
 have zq5 := sub_byt hy 5 3
 have q8 : Bt W0 (some ⟨b, off + 8, none⟩) (sub l 8 4) := hb0.sub 8 4
 have lq8 : (sub l 8 4).length = 4 := sub_len (by omega)
 have zq8 := sub_byt hy 8 4
 have q12 : Bt W0 (some ⟨b, off + 12, none⟩) (sub l 12 4) := hb0.sub 12 4
 have lq12 : (sub l 12 4).length = 4 := sub_len (by omega)
 have zq12 := sub_byt hy 12 4
 have v0 := rM_bd hy (by omega)
 have v5 := rC_bd hy (by omega)
 have HO := onlyX (l := l) (by omega)
 have hX : rX l = ⟨num (sub l 0 4), (l.getD 4 0 == 128), num (sub l 5 3), num (sub l 8 4), num (sub l 12 4)⟩ := by
  have e : decide (l.getD 4 0 = 128) = (l.getD 4 0 == 128) := by rw [Bool.eq_iff_iff]; simp
  rw [rX, rM, rC, e]
 have okx := rX_ok hy (by omega)
 have w4 := byt_getD hy 4
 have g4 := hb0.get (i := 4) (by omega)
 have hb4 := hb0.blk (by rintro rfl; simp at hn; omega)
 rw [hX] at HO okx
 unfold rM at v0
 unfold rC at v5
 clear hX
 generalize sub l 0 4 = L0 at *
 generalize sub l 5 3 = L5 at *
 generalize sub l 8 4 = L8 at *
 generalize sub l 12 4 = L12 at *
 generalize l.getD 4 0 = x4 at *
 have KS : Hid (∀ V, Below W0.heap.size W0 V → V.cell? ⟨b, off + 4, none⟩ = some (.int .u8 x4)) := Lib.hid (fun V hV => (hV.cell (p := ⟨b, off + 4, none⟩) hb4).trans g4)
 have n5 : ¬ (c = 5) := by omega
 have n8 : ¬ (c = 8) := by omega
 have n12 : ¬ (c = 12) := by omega
 have j4 : (4 : Int) < (n : Int) := by omega
 have j4' : 4 < n := by omega
 have i4 : (4 : Int) ≤ (c : Int) := by omega
 have i8 : (8 : Int) ≤ (c : Int) := by omega
 have i12 : (12 : Int) ≤ (c : Int) := by omega
 have i16 : (16 : Int) ≤ (c : Int) := by omega
 have OKX := Lib.hid okx
 generalize rdX l = ox at *
 generalize rdXE l = oe at *
 have HH := Lib.hid HO
 clear g4 hb4 w4 okx HO
 have h8' : ¬ ((n : Int) < 16) := by omega
 have HLN := Lib.hid hn
 have HY := Lib.hid hy
 have tt : Below W0.heap.size W0 W0 := Below.refl _ _
 clear hb bW0 hbl hn hy sW0
 go_enter Tryz.func76, Tryz.ntmps76
 go_upto_region 3 with fail
 go_cut [4] (fun v4 wx => ∃ k : Nat, v4 = .pointer (some ⟨k, 0, none⟩) ∧ Hid (W0.heap.size ≤ k) ∧ Hid (Below W0.heap.size W0 wx) ∧ Hid (At wx k (.cells #[.int .u32 (num L0), .bool (x4 == 128), .int .i64 (num L5), .int .u32 (num L8), .int .u32 (num L12)] 133)))
 case first =>
  refine wp_region_held_drew (S := fun V => V.cell? ⟨b, off + 4, none⟩ = some (.int .u8 x4)) (by kernel_rfl) (KS.out _ tt.drew) (fun hHeld => ?_)
  replace tt : Below W0.heap.size W0 W0.drew := tt.drew
  replace q0 : Bt W0.drew (some ⟨b, off, none⟩) L0 := q0
  replace q5 : Bt W0.drew (some ⟨b, off + 5, none⟩) L5 := q5
  replace q8 : Bt W0.drew (some ⟨b, off + 8, none⟩) L8 := q8
  replace q12 : Bt W0.drew (some ⟨b, off + 12, none⟩) L12 := q12
  generalize hX0 : W0.drew = X0 at tt q0 q5 q8 q12 hHeld ⊢
  clear hX0
  refine wpAnyH_take (i := 0) (v := ?_) rfl (by kernel_rfl) (by kernel_rfl) (by kernel_rfl) (fun _ _ _ h => h) (Or.inl ⟨by rfl, ?_⟩) (by assumption) ?_
  rotate_left
  ·(intro w' hSw; (try dsimp only at hSw); go_simp; try with_reducible rfl)
  simp only [Act.put, getElem_toArray, getElem_cons_zero, setIfInBounds_toArray, set_cons_zero, set_cons_succ]
  refine wpAnyH_take (i := 1) (v := .slice (some ⟨b, off, none⟩) 4 c) rfl (by kernel_rfl) (by kernel_rfl) (by kernel_rfl) (fun _ _ _ h => h) (Or.inl ⟨by rfl, ?_⟩) (by assumption) ?_
  ·(intro w' hSw; (try dsimp only at hSw); go_simp; try rfl)
  simp only [Act.put, getElem_toArray, getElem_cons_zero, getElem_cons_succ, setIfInBounds_toArray, set_cons_zero, set_cons_succ]
  refine wpAnyH_take (i := 3) (v := ?_) rfl (by kernel_rfl) (by kernel_rfl) (by kernel_rfl) (fun _ _ _ h => h) (Or.inl ⟨by rfl, ?_⟩) (by assumption) ?_
  rotate_left
  ·(intro w' hSw; (try dsimp only at hSw); go_simp; try with_reducible rfl)
  simp only [Act.put, getElem_toArray, getElem_cons_zero, getElem_cons_succ, setIfInBounds_toArray, set_cons_zero, set_cons_succ]
  refine wpAnyH_take (i := 4) (v := ?_) rfl (by kernel_rfl) (by kernel_rfl) (by kernel_rfl) (fun _ _ _ h => h) (Or.inl ⟨by rfl, ?_⟩) (by assumption) ?_
  rotate_left
  ·(intro w' hSw; (try dsimp only at hSw); go_simp; try with_reducible rfl)
  simp only [Act.put, getElem_toArray, getElem_cons_zero, getElem_cons_succ, setIfInBounds_toArray, set_cons_zero, set_cons_succ]
  refine wpAnyH_take (i := 5) (v := ?_) rfl (by kernel_rfl) (by kernel_rfl) (by kernel_rfl) (fun _ _ _ h => h) (Or.inl ⟨by rfl, ?_⟩) (by assumption) ?_
  rotate_left
  ·(intro w' hSw; (try dsimp only at hSw); go_simp; try with_reducible rfl)
  simp only [Act.put, getElem_toArray, getElem_cons_zero, getElem_cons_succ, setIfInBounds_toArray, set_cons_zero, set_cons_succ]
  refine wpAnyH_take (i := 6) (v := ?_) rfl (by kernel_rfl) (by kernel_rfl) (by kernel_rfl) (fun _ _ _ h => h) (Or.inl ⟨by rfl, ?_⟩) (by assumption) ?_
  rotate_left
  ·(intro w' hSw; (try dsimp only at hSw); go_simp; try with_reducible rfl)
  simp only [Act.put, getElem_toArray, getElem_cons_zero, getElem_cons_succ, setIfInBounds_toArray, set_cons_zero, set_cons_succ]
  refine wpAnyH_take (i := 7) (v := ?_) rfl (by kernel_rfl) (by kernel_rfl) (by kernel_rfl) (fun _ _ _ h => h) (Or.inl ⟨by rfl, ?_⟩) (by assumption) ?_
  rotate_left
  ·(intro w' hSw; (try dsimp only at hSw); go_simp; try with_reducible rfl)
  simp only [Act.put, getElem_toArray, getElem_cons_zero, getElem_cons_succ, setIfInBounds_toArray, set_cons_zero, set_cons_succ]
  refine wpAnyH_take (i := 8) (v := .slice (some ⟨b, off + 5, none⟩) 3 (c - 5)) rfl (by kernel_rfl) (by kernel_rfl) (by kernel_rfl) (fun _ _ _ h => h) (Or.inl ⟨by rfl, ?_⟩) (by assumption) ?_
  ·(intro w' hSw; (try dsimp only at hSw); go_simp; try rfl)
  simp only [Act.put, getElem_toArray, getElem_cons_zero, getElem_cons_succ, setIfInBounds_toArray, set_cons_zero, set_cons_succ]
  refine wpAnyH_take (i := 11) (v := ?_) rfl (by kernel_rfl) (by kernel_rfl) (by kernel_rfl) (fun _ _ _ h => h) (Or.inl ⟨by rfl, ?_⟩) (by assumption) ?_
  rotate_left
  ·(intro w' hSw; (try dsimp only at hSw); go_simp; try with_reducible rfl)
  simp only [Act.put, getElem_toArray, getElem_cons_zero, getElem_cons_succ, setIfInBounds_toArray, set_cons_zero, set_cons_succ]
  refine wpAnyH_take (i := 12) (v := .slice (some ⟨b, off + 8, none⟩) 4 (c - 8)) rfl (by kernel_rfl) (by kernel_rfl) (by kernel_rfl) (fun _ _ _ h => h) (Or.inl ⟨by rfl, ?_⟩) (by assumption) ?_
  ·(intro w' hSw; (try dsimp only at hSw); go_simp; try rfl)
  simp only [Act.put, getElem_toArray, getElem_cons_zero, getElem_cons_succ, setIfInBounds_toArray, set_cons_zero, set_cons_succ]
  refine wpAnyH_take (i := 14) (v := ?_) rfl (by kernel_rfl) (by kernel_rfl) (by kernel_rfl) (fun _ _ _ h => h) (Or.inl ⟨by rfl, ?_⟩) (by assumption) ?_
  rotate_left
  ·(intro w' hSw; (try dsimp only at hSw); go_simp; try with_reducible rfl)
  simp only [Act.put, getElem_toArray, getElem_cons_zero, getElem_cons_succ, setIfInBounds_toArray, set_cons_zero, set_cons_succ]
  refine wpAnyH_take (i := 15) (v := .slice (some ⟨b, off + 12, none⟩) 4 (c - 12)) rfl (by kernel_rfl) (by kernel_rfl) (by kernel_rfl) (fun _ _ _ h => h) (Or.inl ⟨by rfl, ?_⟩) (by assumption) ?_
  ·(intro w' hSw; (try dsimp only at hSw); go_simp; try rfl)
  simp only [Act.put, getElem_toArray, getElem_cons_zero, getElem_cons_succ, setIfInBounds_toArray, set_cons_zero, set_cons_succ]
  refine wpAnyH_ready (rs := [2, 18]) (by kernel_rfl) (by simp) ?_
  refine AllReadyH.cons rfl (fun K hK => ?_) ?_
  ·go_simp
   go_at_call 97
   refine (ynumber_any _ 4 _ L0 X0 q0 zq0 lq0 (by omega) (by decide) (by decide)).mono ?_
   rintro e Y11 ⟨rfl, u11⟩
   have t_Y11 : Below W0.heap.size W0 Y11 := tt.trans (u11.mono tt.size)
   replace q0 := q0.step u11
   replace q5 := q5.step u11
   replace q8 := q8.step u11
   replace q12 := q12.step u11
   refine hK.out _ _ (KS.out _ t_Y11) (fun _ => ?_)
   clear hK K
   refine wpAnyH_ready (rs := [9, 18]) (by kernel_rfl) (by simp) ?_
   refine AllReadyH.cons rfl (fun K hK => ?_) ?_
   ·go_simp
    go_at_call 97
    refine (ynumber_any _ 3 _ L5 Y11 q5 zq5 lq5 (by omega) (by decide) (by decide)).mono ?_
    rintro e Y12 ⟨rfl, u12⟩
    have t_Y12 : Below W0.heap.size W0 Y12 := t_Y11.trans (u12.mono t_Y11.size)
    replace q0 := q0.step u12
    replace q5 := q5.step u12
    replace q8 := q8.step u12
    replace q12 := q12.step u12
    refine hK.out _ _ (KS.out _ t_Y12) (fun _ => ?_)
    clear hK K
    refine wpAnyH_take (i := 10) (v := .int .i64 (num L5)) rfl (by kernel_rfl) (by kernel_rfl) (by kernel_rfl) (fun _ _ _ h => h) (Or.inl ⟨by rfl, ?_⟩) (by assumption) ?_
    ·(intro w' hSw; (try dsimp only at hSw); go_simp; rw [wrap_i64 (by omega) (by omega)])
    simp only [Act.put, getElem_toArray, getElem_cons_zero, getElem_cons_succ, setIfInBounds_toArray, set_cons_zero, set_cons_succ]
    refine wpAnyH_ready (rs := [13, 18]) (by kernel_rfl) (by simp) ?_
    refine AllReadyH.cons rfl (fun K hK => ?_) ?_
    ·go_simp
     go_at_call 97
     refine (ynumber_any _ 4 _ L8 Y12 q8 zq8 lq8 (by omega) (by decide) (by decide)).mono ?_
     rintro e Y13 ⟨rfl, u13⟩
     have t_Y13 : Below W0.heap.size W0 Y13 := t_Y12.trans (u13.mono t_Y12.size)
     replace q0 := q0.step u13
     replace q5 := q5.step u13
     replace q8 := q8.step u13
     replace q12 := q12.step u13
     refine hK.out _ _ (KS.out _ t_Y13) (fun _ => ?_)
     clear hK K
     refine wpAnyH_ready (rs := [16, 18]) (by kernel_rfl) (by simp) ?_
     refine AllReadyH.cons rfl (fun K hK => ?_) ?_
     ·go_simp
      go_at_call 97
      refine (ynumber_any _ 4 _ L12 Y13 q12 zq12 lq12 (by omega) (by decide) (by decide)).mono ?_
      rintro e Y14 ⟨rfl, u14⟩
      have t_Y14 : Below W0.heap.size W0 Y14 := t_Y13.trans (u14.mono t_Y13.size)
      replace q0 := q0.step u14
      replace q5 := q5.step u14
      replace q8 := q8.step u14
      replace q12 := q12.step u14
      refine hK.out _ _ (KS.out _ t_Y14) (fun _ => ?_)
      clear hK K
      refine wpAnyH_take (i := 17) (v := .agg #[.int .u32 (num L0), .bool (x4 == 128), .int .i64 (num L5), .int .u32 (num L8), .int .u32 (num L12)]) rfl (by kernel_rfl) (by kernel_rfl) (by kernel_rfl) (fun _ _ _ h => h) (Or.inl ⟨by rfl, ?_⟩) (by assumption) ?_
      ·(intro w' hSw; (try dsimp only at hSw); go_simp; try rfl)
      simp only [Act.put, getElem_toArray, getElem_cons_zero, getElem_cons_succ, setIfInBounds_toArray, set_cons_zero, set_cons_succ]
      refine wpAnyH_ready (rs := [18]) (by kernel_rfl) (by simp) ?_
      refine AllReadyH.cons rfl (fun K hK => ?_) AllReadyH.nil
      go_simp
      obtain ⟨Y15, hY15⟩ : ∃ V, Y14.alloc (.cells #[Value.int .u32 0, .bool false, .int .i64 0, .int .u32 0, .int .u32 0] 133) = V := ⟨_, rfl⟩
      have u15 : Below Y14.heap.size Y14 Y15 := by rw [← hY15]; exact below_alloc1 _ _
      have kz := At.mk hY15
      have t_Y15 : Below W0.heap.size W0 Y15 := t_Y14.trans (u15.mono t_Y14.size)
      replace q0 := q0.step u15
      replace q5 := q5.step u15
      replace q8 := q8.step u15
      replace q12 := q12.step u15
      obtain ⟨k15, hk15⟩ : ∃ k, Y14.heap.size = k := ⟨_, rfl⟩
      rw [hk15] at kz
      have ga : Hid (W0.heap.size ≤ k15) := Lib.hid (by rw [← hk15]; exact t_Y14.size)
      try rw [hY15]
      try rw [hk15]
      clear hY15 hk15
      refine hK.out _ _ (KS.out _ t_Y15) (fun _ => ?_)
      clear hK K
      refine wpAnyH_ready (rs := [19]) (by kernel_rfl) (by simp) ?_
      refine AllReadyH.cons rfl (fun K hK => ?_) AllReadyH.nil
      obtain ⟨a0, a1, a2, a3, a4, f0, f1, f2, f3, f4, hzl⟩ := kz5_at kz
      have KR : Hid (At (st5 Y15 k15 (Value.int .u32 (num L0)) (.bool (x4 == 128)) (.int .i64 (num L5)) (.int .u32 (num L8)) (.int .u32 (num L12))) k15 (.cells #[.int .u32 (num L0), .bool (x4 == 128), .int .i64 (num L5), .int .u32 (num L8), .int .u32 (num L12)] 133)) := Lib.hid (kz5_set kz (Value.int .u32 (num L0)) (.bool (x4 == 128)) (.int .i64 (num L5)) (.int .u32 (num L8)) (.int .u32 (num L12)))
      have TF : Hid (Below W0.heap.size W0 (st5 Y15 k15 (Value.int .u32 (num L0)) (.bool (x4 == 128)) (.int .i64 (num L5)) (.int .u32 (num L8)) (.int .u32 (num L12)))) := Lib.hid (below_st5 t_Y15 ga.out _ _ _ _ _)
      have hne : b ≠ k15 := by have := HN.out; have := ga.out; omega
      have KF : Hid ((st5 Y15 k15 (Value.int .u32 (num L0)) (.bool (x4 == 128)) (.int .i64 (num L5)) (.int .u32 (num L8)) (.int .u32 (num L12))).cell? ⟨b, off + 4, none⟩ = some (.int .u8 x4)) := Lib.hid ((cell_st5 (p := ⟨b, off + 4, none⟩) hne _ _ _ _ _).trans (KS.out _ t_Y15))
      clear hHeld
      go_simp
      refine hK.out _ _ KF.out (fun _ => ?_)
      clear hK K
      refine wpAnyH_done (by kernel_rfl) ?_ _
      go_wp2_with fail
      go_meet
      case rel => exact ⟨_, rfl, ga, TF, KR⟩
     refine AllReadyH.cons rfl (fun K hK => ?_) AllReadyH.nil
     go_simp
     obtain ⟨Y14, hY14⟩ : ∃ V, Y13.alloc (.cells #[Value.int .u32 0, .bool false, .int .i64 0, .int .u32 0, .int .u32 0] 133) = V := ⟨_, rfl⟩
     have u14 : Below Y13.heap.size Y13 Y14 := by rw [← hY14]; exact below_alloc1 _ _
     have kz := At.mk hY14
     have t_Y14 : Below W0.heap.size W0 Y14 := t_Y13.trans (u14.mono t_Y13.size)
     replace q0 := q0.step u14
     replace q5 := q5.step u14
     replace q8 := q8.step u14
     replace q12 := q12.step u14
     obtain ⟨k14, hk14⟩ : ∃ k, Y13.heap.size = k := ⟨_, rfl⟩
     rw [hk14] at kz
     have ga : Hid (W0.heap.size ≤ k14) := Lib.hid (by rw [← hk14]; exact t_Y13.size)
     try rw [hY14]
     try rw [hk14]
     clear hY14 hk14
     refine hK.out _ _ (KS.out _ t_Y14) (fun _ => ?_)
     clear hK K
     refine wpAnyH_ready (rs := [16]) (by kernel_rfl) (by simp) ?_
     refine AllReadyH.cons rfl (fun K hK => ?_) AllReadyH.nil
     go_simp
     go_at_call 97
     refine (ynumber_any _ 4 _ L12 Y14 q12 zq12 lq12 (by omega) (by decide) (by decide)).mono ?_
     rintro e Y15 ⟨rfl, u15⟩
     have t_Y15 : Below W0.heap.size W0 Y15 := t_Y14.trans (u15.mono t_Y14.size)
     replace q0 := q0.step u15
     replace q5 := q5.step u15
     replace q8 := q8.step u15
     replace q12 := q12.step u15
     replace kz := kz.step u15
     refine hK.out _ _ (KS.out _ t_Y15) (fun _ => ?_)
     clear hK K
     refine wpAnyH_take (i := 17) (v := .agg #[.int .u32 (num L0), .bool (x4 == 128), .int .i64 (num L5), .int .u32 (num L8), .int .u32 (num L12)]) rfl (by kernel_rfl) (by kernel_rfl) (by kernel_rfl) (fun _ _ _ h => h) (Or.inl ⟨by rfl, ?_⟩) (by assumption) ?_
     ·(intro w' hSw; (try dsimp only at hSw); go_simp; try rfl)
     simp only [Act.put, getElem_toArray, getElem_cons_zero, getElem_cons_succ, setIfInBounds_toArray, set_cons_zero, set_cons_succ]
     refine wpAnyH_ready (rs := [19]) (by kernel_rfl) (by simp) ?_
     refine AllReadyH.cons rfl (fun K hK => ?_) AllReadyH.nil
     obtain ⟨a0, a1, a2, a3, a4, f0, f1, f2, f3, f4, hzl⟩ := kz5_at kz
     have KR : Hid (At (st5 Y15 k14 (Value.int .u32 (num L0)) (.bool (x4 == 128)) (.int .i64 (num L5)) (.int .u32 (num L8)) (.int .u32 (num L12))) k14 (.cells #[.int .u32 (num L0), .bool (x4 == 128), .int .i64 (num L5), .int .u32 (num L8), .int .u32 (num L12)] 133)) := Lib.hid (kz5_set kz (Value.int .u32 (num L0)) (.bool (x4 == 128)) (.int .i64 (num L5)) (.int .u32 (num L8)) (.int .u32 (num L12)))
     have TF : Hid (Below W0.heap.size W0 (st5 Y15 k14 (Value.int .u32 (num L0)) (.bool (x4 == 128)) (.int .i64 (num L5)) (.int .u32 (num L8)) (.int .u32 (num L12)))) := Lib.hid (below_st5 t_Y15 ga.out _ _ _ _ _)
     have hne : b ≠ k14 := by have := HN.out; have := ga.out; omega
     have KF : Hid ((st5 Y15 k14 (Value.int .u32 (num L0)) (.bool (x4 == 128)) (.int .i64 (num L5)) (.int .u32 (num L8)) (.int .u32 (num L12))).cell? ⟨b, off + 4, none⟩ = some (.int .u8 x4)) := Lib.hid ((cell_st5 (p := ⟨b, off + 4, none⟩) hne _ _ _ _ _).trans (KS.out _ t_Y15))
     clear hHeld
     go_simp
     refine hK.out _ _ KF.out (fun _ => ?_)
     clear hK K
     refine wpAnyH_done (by kernel_rfl) ?_ _
     go_wp2_with fail
     go_meet
     case rel => exact ⟨_, rfl, ga, TF, KR⟩
    refine AllReadyH.cons rfl (fun K hK => ?_) AllReadyH.nil
    go_simp
    obtain ⟨Y13, hY13⟩ : ∃ V, Y12.alloc (.cells #[Value.int .u32 0, .bool false, .int .i64 0, .int .u32 0, .int .u32 0] 133) = V := ⟨_, rfl⟩
    have u13 : Below Y12.heap.size Y12 Y13 := by rw [← hY13]; exact below_alloc1 _ _
    have kz := At.mk hY13
    have t_Y13 : Below W0.heap.size W0 Y13 := t_Y12.trans (u13.mono t_Y12.size)
    replace q0 := q0.step u13
    replace q5 := q5.step u13
    replace q8 := q8.step u13
    replace q12 := q12.step u13
    obtain ⟨k13, hk13⟩ : ∃ k, Y12.heap.size = k := ⟨_, rfl⟩
    rw [hk13] at kz
    have ga : Hid (W0.heap.size ≤ k13) := Lib.hid (by rw [← hk13]; exact t_Y12.size)
    try rw [hY13]
    try rw [hk13]
    clear hY13 hk13
    refine hK.out _ _ (KS.out _ t_Y13) (fun _ => ?_)
    clear hK K
    refine wpAnyH_ready (rs := [13]) (by kernel_rfl) (by simp) ?_
    refine AllReadyH.cons rfl (fun K hK => ?_) AllReadyH.nil
    go_simp
    go_at_call 97
    refine (ynumber_any _ 4 _ L8 Y13 q8 zq8 lq8 (by omega) (by decide) (by decide)).mono ?_
    rintro e Y14 ⟨rfl, u14⟩
    have t_Y14 : Below W0.heap.size W0 Y14 := t_Y13.trans (u14.mono t_Y13.size)
    replace q0 := q0.step u14
    replace q5 := q5.step u14
    replace q8 := q8.step u14
    replace q12 := q12.step u14
    replace kz := kz.step u14
    refine hK.out _ _ (KS.out _ t_Y14) (fun _ => ?_)
    clear hK K
    refine wpAnyH_ready (rs := [16]) (by kernel_rfl) (by simp) ?_
    refine AllReadyH.cons rfl (fun K hK => ?_) AllReadyH.nil
    go_simp
    go_at_call 97
    refine (ynumber_any _ 4 _ L12 Y14 q12 zq12 lq12 (by omega) (by decide) (by decide)).mono ?_
    rintro e Y15 ⟨rfl, u15⟩
    have t_Y15 : Below W0.heap.size W0 Y15 := t_Y14.trans (u15.mono t_Y14.size)
    replace q0 := q0.step u15
    replace q5 := q5.step u15
    replace q8 := q8.step u15
    replace q12 := q12.step u15
    replace kz := kz.step u15
    refine hK.out _ _ (KS.out _ t_Y15) (fun _ => ?_)
    clear hK K
    refine wpAnyH_take (i := 17) (v := .agg #[.int .u32 (num L0), .bool (x4 == 128), .int .i64 (num L5), .int .u32 (num L8), .int .u32 (num L12)]) rfl (by kernel_rfl) (by kernel_rfl) (by kernel_rfl) (fun _ _ _ h => h) (Or.inl ⟨by rfl, ?_⟩) (by assumption) ?_
    ·(intro w' hSw; (try dsimp only at hSw); go_simp; try rfl)
    simp only [Act.put, getElem_toArray, getElem_cons_zero, getElem_cons_succ, setIfInBounds_toArray, set_cons_zero, set_cons_succ]
    refine wpAnyH_ready (rs := [19]) (by kernel_rfl) (by simp) ?_
    refine AllReadyH.cons rfl (fun K hK => ?_) AllReadyH.nil
    obtain ⟨a0, a1, a2, a3, a4, f0, f1, f2, f3, f4, hzl⟩ := kz5_at kz
    have KR : Hid (At (st5 Y15 k13 (Value.int .u32 (num L0)) (.bool (x4 == 128)) (.int .i64 (num L5)) (.int .u32 (num L8)) (.int .u32 (num L12))) k13 (.cells #[.int .u32 (num L0), .bool (x4 == 128), .int .i64 (num L5), .int .u32 (num L8), .int .u32 (num L12)] 133)) := Lib.hid (kz5_set kz (Value.int .u32 (num L0)) (.bool (x4 == 128)) (.int .i64 (num L5)) (.int .u32 (num L8)) (.int .u32 (num L12)))
    have TF : Hid (Below W0.heap.size W0 (st5 Y15 k13 (Value.int .u32 (num L0)) (.bool (x4 == 128)) (.int .i64 (num L5)) (.int .u32 (num L8)) (.int .u32 (num L12)))) := Lib.hid (below_st5 t_Y15 ga.out _ _ _ _ _)
    have hne : b ≠ k13 := by have := HN.out; have := ga.out; omega
    have KF : Hid ((st5 Y15 k13 (Value.int .u32 (num L0)) (.bool (x4 == 128)) (.int .i64 (num L5)) (.int .u32 (num L8)) (.int .u32 (num L12))).cell? ⟨b, off + 4, none⟩ = some (.int .u8 x4)) := Lib.hid ((cell_st5 (p := ⟨b, off + 4, none⟩) hne _ _ _ _ _).trans (KS.out _ t_Y15))
    clear hHeld
    go_simp
    refine hK.out _ _ KF.out (fun _ => ?_)
    clear hK K
    refine wpAnyH_done (by kernel_rfl) ?_ _
    go_wp2_with fail
    go_meet
    case rel => exact ⟨_, rfl, ga, TF, KR⟩
   refine AllReadyH.cons rfl (fun K hK => ?_) AllReadyH.nil
   go_simp
   obtain ⟨Y12, hY12⟩ : ∃ V, Y11.alloc (.cells #[Value.int .u32 0, .bool false, .int .i64 0, .int .u32 0, .int .u32 0] 133) = V := ⟨_, rfl⟩
   have u12 : Below Y11.heap.size Y11 Y12 := by rw [← hY12]; exact below_alloc1 _ _
   have kz := At.mk hY12
   have t_Y12 : Below W0.heap.size W0 Y12 := t_Y11.trans (u12.mono t_Y11.size)
   replace q0 := q0.step u12
   replace q5 := q5.step u12
   replace q8 := q8.step u12
   replace q12 := q12.step u12
   obtain ⟨k12, hk12⟩ : ∃ k, Y11.heap.size = k := ⟨_, rfl⟩
   rw [hk12] at kz
   have ga : Hid (W0.heap.size ≤ k12) := Lib.hid (by rw [← hk12]; exact t_Y11.size)
   try rw [hY12]
   try rw [hk12]
   clear hY12 hk12
   refine hK.out _ _ (KS.out _ t_Y12) (fun _ => ?_)
   clear hK K
   refine wpAnyH_ready (rs := [9]) (by kernel_rfl) (by simp) ?_
   refine AllReadyH.cons rfl (fun K hK => ?_) AllReadyH.nil
   go_simp
   go_at_call 97
   refine (ynumber_any _ 3 _ L5 Y12 q5 zq5 lq5 (by omega) (by decide) (by decide)).mono ?_
   rintro e Y13 ⟨rfl, u13⟩
   have t_Y13 : Below W0.heap.size W0 Y13 := t_Y12.trans (u13.mono t_Y12.size)
   replace q0 := q0.step u13
   replace q5 := q5.step u13
   replace q8 := q8.step u13
   replace q12 := q12.step u13
   replace kz := kz.step u13
   refine hK.out _ _ (KS.out _ t_Y13) (fun _ => ?_)
   clear hK K
   refine wpAnyH_take (i := 10) (v := .int .i64 (num L5)) rfl (by kernel_rfl) (by kernel_rfl) (by kernel_rfl) (fun _ _ _ h => h) (Or.inl ⟨by rfl, ?_⟩) (by assumption) ?_
   ·(intro w' hSw; (try dsimp only at hSw); go_simp; rw [wrap_i64 (by omega) (by omega)])
   simp only [Act.put, getElem_toArray, getElem_cons_zero, getElem_cons_succ, setIfInBounds_toArray, set_cons_zero, set_cons_succ]
   refine wpAnyH_ready (rs := [13]) (by kernel_rfl) (by simp) ?_
   refine AllReadyH.cons rfl (fun K hK => ?_) AllReadyH.nil
   go_simp
   go_at_call 97
   refine (ynumber_any _ 4 _ L8 Y13 q8 zq8 lq8 (by omega) (by decide) (by decide)).mono ?_
   rintro e Y14 ⟨rfl, u14⟩
   have t_Y14 : Below W0.heap.size W0 Y14 := t_Y13.trans (u14.mono t_Y13.size)
   replace q0 := q0.step u14
   replace q5 := q5.step u14
   replace q8 := q8.step u14
   replace q12 := q12.step u14
   replace kz := kz.step u14
   refine hK.out _ _ (KS.out _ t_Y14) (fun _ => ?_)
   clear hK K
   refine wpAnyH_ready (rs := [16]) (by kernel_rfl) (by simp) ?_
   refine AllReadyH.cons rfl (fun K hK => ?_) AllReadyH.nil
   go_simp
   go_at_call 97
   refine (ynumber_any _ 4 _ L12 Y14 q12 zq12 lq12 (by omega) (by decide) (by decide)).mono ?_
   rintro e Y15 ⟨rfl, u15⟩
   have t_Y15 : Below W0.heap.size W0 Y15 := t_Y14.trans (u15.mono t_Y14.size)
   replace q0 := q0.step u15
   replace q5 := q5.step u15
   replace q8 := q8.step u15
   replace q12 := q12.step u15
   replace kz := kz.step u15
   refine hK.out _ _ (KS.out _ t_Y15) (fun _ => ?_)
   clear hK K
   refine wpAnyH_take (i := 17) (v := .agg #[.int .u32 (num L0), .bool (x4 == 128), .int .i64 (num L5), .int .u32 (num L8), .int .u32 (num L12)]) rfl (by kernel_rfl) (by kernel_rfl) (by kernel_rfl) (fun _ _ _ h => h) (Or.inl ⟨by rfl, ?_⟩) (by assumption) ?_
   ·(intro w' hSw; (try dsimp only at hSw); go_simp; try rfl)
   simp only [Act.put, getElem_toArray, getElem_cons_zero, getElem_cons_succ, setIfInBounds_toArray, set_cons_zero, set_cons_succ]
   refine wpAnyH_ready (rs := [19]) (by kernel_rfl) (by simp) ?_
   refine AllReadyH.cons rfl (fun K hK => ?_) AllReadyH.nil
   obtain ⟨a0, a1, a2, a3, a4, f0, f1, f2, f3, f4, hzl⟩ := kz5_at kz
   have KR : Hid (At (st5 Y15 k12 (Value.int .u32 (num L0)) (.bool (x4 == 128)) (.int .i64 (num L5)) (.int .u32 (num L8)) (.int .u32 (num L12))) k12 (.cells #[.int .u32 (num L0), .bool (x4 == 128), .int .i64 (num L5), .int .u32 (num L8), .int .u32 (num L12)] 133)) := Lib.hid (kz5_set kz (Value.int .u32 (num L0)) (.bool (x4 == 128)) (.int .i64 (num L5)) (.int .u32 (num L8)) (.int .u32 (num L12)))
   have TF : Hid (Below W0.heap.size W0 (st5 Y15 k12 (Value.int .u32 (num L0)) (.bool (x4 == 128)) (.int .i64 (num L5)) (.int .u32 (num L8)) (.int .u32 (num L12)))) := Lib.hid (below_st5 t_Y15 ga.out _ _ _ _ _)
   have hne : b ≠ k12 := by have := HN.out; have := ga.out; omega
   have KF : Hid ((st5 Y15 k12 (Value.int .u32 (num L0)) (.bool (x4 == 128)) (.int .i64 (num L5)) (.int .u32 (num L8)) (.int .u32 (num L12))).cell? ⟨b, off + 4, none⟩ = some (.int .u8 x4)) := Lib.hid ((cell_st5 (p := ⟨b, off + 4, none⟩) hne _ _ _ _ _).trans (KS.out _ t_Y15))
   clear hHeld
   go_simp
   refine hK.out _ _ KF.out (fun _ => ?_)
   clear hK K
   refine wpAnyH_done (by kernel_rfl) ?_ _
   go_wp2_with fail
   go_meet
   case rel => exact ⟨_, rfl, ga, TF, KR⟩
  refine AllReadyH.cons rfl (fun K hK => ?_) AllReadyH.nil
  go_simp
  obtain ⟨Y11, hY11⟩ : ∃ V, X0.alloc (.cells #[Value.int .u32 0, .bool false, .int .i64 0, .int .u32 0, .int .u32 0] 133) = V := ⟨_, rfl⟩
  have u11 : Below X0.heap.size X0 Y11 := by rw [← hY11]; exact below_alloc1 _ _
  have kz := At.mk hY11
  have t_Y11 : Below W0.heap.size W0 Y11 := tt.trans (u11.mono tt.size)
  replace q0 := q0.step u11
  replace q5 := q5.step u11
  replace q8 := q8.step u11
  replace q12 := q12.step u11
  obtain ⟨k11, hk11⟩ : ∃ k, X0.heap.size = k := ⟨_, rfl⟩
  rw [hk11] at kz
  have ga : Hid (W0.heap.size ≤ k11) := Lib.hid (by rw [← hk11]; exact tt.size)
  try rw [hY11]
  try rw [hk11]
  clear hY11 hk11
  refine hK.out _ _ (KS.out _ t_Y11) (fun _ => ?_)
  clear hK K
  refine wpAnyH_ready (rs := [2]) (by kernel_rfl) (by simp) ?_
  refine AllReadyH.cons rfl (fun K hK => ?_) AllReadyH.nil
  go_simp
  go_at_call 97
  refine (ynumber_any _ 4 _ L0 Y11 q0 zq0 lq0 (by omega) (by decide) (by decide)).mono ?_
  rintro e Y12 ⟨rfl, u12⟩
  have t_Y12 : Below W0.heap.size W0 Y12 := t_Y11.trans (u12.mono t_Y11.size)
  replace q0 := q0.step u12
  replace q5 := q5.step u12
  replace q8 := q8.step u12
  replace q12 := q12.step u12
  replace kz := kz.step u12
  refine hK.out _ _ (KS.out _ t_Y12) (fun _ => ?_)
  clear hK K
  refine wpAnyH_ready (rs := [9]) (by kernel_rfl) (by simp) ?_
  refine AllReadyH.cons rfl (fun K hK => ?_) AllReadyH.nil
  go_simp
  go_at_call 97
  refine (ynumber_any _ 3 _ L5 Y12 q5 zq5 lq5 (by omega) (by decide) (by decide)).mono ?_
  rintro e Y13 ⟨rfl, u13⟩
  have t_Y13 : Below W0.heap.size W0 Y13 := t_Y12.trans (u13.mono t_Y12.size)
  replace q0 := q0.step u13
  replace q5 := q5.step u13
  replace q8 := q8.step u13
  replace q12 := q12.step u13
  replace kz := kz.step u13
  refine hK.out _ _ (KS.out _ t_Y13) (fun _ => ?_)
  clear hK K
  refine wpAnyH_take (i := 10) (v := .int .i64 (num L5)) rfl (by kernel_rfl) (by kernel_rfl) (by kernel_rfl) (fun _ _ _ h => h) (Or.inl ⟨by rfl, ?_⟩) (by assumption) ?_
  ·(intro w' hSw; (try dsimp only at hSw); go_simp; rw [wrap_i64 (by omega) (by omega)])
  simp only [Act.put, getElem_toArray, getElem_cons_zero, getElem_cons_succ, setIfInBounds_toArray, set_cons_zero, set_cons_succ]
  refine wpAnyH_ready (rs := [13]) (by kernel_rfl) (by simp) ?_
  refine AllReadyH.cons rfl (fun K hK => ?_) AllReadyH.nil
  go_simp
  go_at_call 97
  refine (ynumber_any _ 4 _ L8 Y13 q8 zq8 lq8 (by omega) (by decide) (by decide)).mono ?_
  rintro e Y14 ⟨rfl, u14⟩
  have t_Y14 : Below W0.heap.size W0 Y14 := t_Y13.trans (u14.mono t_Y13.size)
  replace q0 := q0.step u14
  replace q5 := q5.step u14
  replace q8 := q8.step u14
  replace q12 := q12.step u14
  replace kz := kz.step u14
  refine hK.out _ _ (KS.out _ t_Y14) (fun _ => ?_)
  clear hK K
  refine wpAnyH_ready (rs := [16]) (by kernel_rfl) (by simp) ?_
  refine AllReadyH.cons rfl (fun K hK => ?_) AllReadyH.nil
  go_simp
  go_at_call 97
  refine (ynumber_any _ 4 _ L12 Y14 q12 zq12 lq12 (by omega) (by decide) (by decide)).mono ?_
  rintro e Y15 ⟨rfl, u15⟩
  have t_Y15 : Below W0.heap.size W0 Y15 := t_Y14.trans (u15.mono t_Y14.size)
  replace q0 := q0.step u15
  replace q5 := q5.step u15
  replace q8 := q8.step u15
  replace q12 := q12.step u15
  replace kz := kz.step u15
  refine hK.out _ _ (KS.out _ t_Y15) (fun _ => ?_)
  clear hK K
  refine wpAnyH_take (i := 17) (v := .agg #[.int .u32 (num L0), .bool (x4 == 128), .int .i64 (num L5), .int .u32 (num L8), .int .u32 (num L12)]) rfl (by kernel_rfl) (by kernel_rfl) (by kernel_rfl) (fun _ _ _ h => h) (Or.inl ⟨by rfl, ?_⟩) (by assumption) ?_
  ·(intro w' hSw; (try dsimp only at hSw); go_simp; try rfl)
  simp only [Act.put, getElem_toArray, getElem_cons_zero, getElem_cons_succ, setIfInBounds_toArray, set_cons_zero, set_cons_succ]
  refine wpAnyH_ready (rs := [19]) (by kernel_rfl) (by simp) ?_
  refine AllReadyH.cons rfl (fun K hK => ?_) AllReadyH.nil
  obtain ⟨a0, a1, a2, a3, a4, f0, f1, f2, f3, f4, hzl⟩ := kz5_at kz
  have KR : Hid (At (st5 Y15 k11 (Value.int .u32 (num L0)) (.bool (x4 == 128)) (.int .i64 (num L5)) (.int .u32 (num L8)) (.int .u32 (num L12))) k11 (.cells #[.int .u32 (num L0), .bool (x4 == 128), .int .i64 (num L5), .int .u32 (num L8), .int .u32 (num L12)] 133)) := Lib.hid (kz5_set kz (Value.int .u32 (num L0)) (.bool (x4 == 128)) (.int .i64 (num L5)) (.int .u32 (num L8)) (.int .u32 (num L12)))
  have TF : Hid (Below W0.heap.size W0 (st5 Y15 k11 (Value.int .u32 (num L0)) (.bool (x4 == 128)) (.int .i64 (num L5)) (.int .u32 (num L8)) (.int .u32 (num L12)))) := Lib.hid (below_st5 t_Y15 ga.out _ _ _ _ _)
  have hne : b ≠ k11 := by have := HN.out; have := ga.out; omega
  have KF : Hid ((st5 Y15 k11 (Value.int .u32 (num L0)) (.bool (x4 == 128)) (.int .i64 (num L5)) (.int .u32 (num L8)) (.int .u32 (num L12))).cell? ⟨b, off + 4, none⟩ = some (.int .u8 x4)) := Lib.hid ((cell_st5 (p := ⟨b, off + 4, none⟩) hne _ _ _ _ _).trans (KS.out _ t_Y15))
  clear hHeld
  go_simp
  refine hK.out _ _ KF.out (fun _ => ?_)
  clear hK K
  refine wpAnyH_done (by kernel_rfl) ?_ _
  go_wp2_with fail
  go_meet
  case rel => exact ⟨_, rfl, ga, TF, KR⟩
 case rest =>
  obtain ⟨k, rfl, hk, T6, K6⟩ := hcut
  obtain ⟨y0, y1, y2, y3, y4, p0, p1, p2, p3, p4, hkl⟩ := kz5_at K6.out
  have q9 := hb0.step T6.out
  have CC : Calls Tryz.prog 106 #[.agg #[.int .u32 (num L0), .bool (x4 == 128), .int .i64 (num L5), .int .u32 (num L8), .int .u32 (num L12)], .func (.func 107) #[] #[], .slice (some ⟨b, off, none⟩) n c] wc fun e w' => e = .returned (.tuple #[.agg #[.int .u32 ox.m, .bool ox.s, .int .i64 ox.c, .int .u32 ox.f, .int .u32 ox.t], .int .i64 oe]) ∧ Below wc.heap.size wc w' := by
   have q := only_x ⟨num L0, (x4 == 128), num L5, num L8, num L12⟩ (some ⟨b, off, none⟩) n c l wc OKX.out HLN.out q9 HY.out
   rwa [HH.out] at q
  go_wp2_with fail
  refine CC.mono ?_
  rintro e V2 ⟨rfl, u7⟩
  have T7 : Below W0.heap.size W0 V2 := T6.out.trans (u7.mono T6.out.size)
  have z1 := KZ.out _ T7
  obtain ⟨a0, a1, a2, a3, a4, f0, f1, f2, f3, f4, hzl⟩ := kz5_at z1
  have KR := Lib.hid <| kz5_get z1 (Value.int .u32 ox.m) (.bool ox.s) (.int .i64 ox.c) (.int .u32 ox.f) (.int .u32 ox.t)
  have TF := Lib.hid <| below_st5 (HB.out.trans (T7.mono HB.out.size)) (Nat.le_refl _) (Value.int .u32 ox.m) (.bool ox.s) (.int .i64 ox.c) (.int .u32 ox.f) (.int .u32 ox.t)
  clear CC u7 z1 y0 y1 y2 y3 y4 p0 p1 p2 p3 p4 q9 T7
  go_wp2
  obtain ⟨r0, r1, r2, r3, r4⟩ := KR.out
  refine bodyPost_ret (v := .tuple #[.agg #[.int .u32 ox.m, .bool ox.s, .int .i64 ox.c, .int .u32 ox.f, .int .u32 ox.t], .int .i64 oe]) (by simp [results, Tryz.results76, go_sem, r0, r1, r2, r3, r4]) rfl ⟨rfl, TF.out⟩
end Go.Proofs.YtadcicmccdphkaaGreat
