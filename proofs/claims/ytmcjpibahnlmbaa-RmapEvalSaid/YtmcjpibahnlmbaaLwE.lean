/-
  The walk of the law RmapEval. No statement is proved here; no conditions.
-/
import Derived.Test.YtmcjpibahnlmbaaLw0
namespace Go.Proofs.Ytmcjpibahnlmbaa
open Go.RowKit Go.Joins

set_option maxRecDepth 100000 in
set_option maxHeartbeats 4000000 in
theorem eval_walk (A0 A1 : Option Addr) (c d : Nat) (m n : List Cl) (t : Rt) (w : World) (hm : Cq w A0 m) (hn : Cq w A1 n) (hB : t.A < 4294967296) :
    Calls Try.prog 4 #[.slice A0 m.length c, .slice A1 n.length d, tv t] w fun e w' => e = .returned (.bool true) ∧ Below w.heap.size w w' := by
  obtain ⟨W0, hW0⟩ : ∃ W0, w.alloc (.cells #[Value.int .u32 (t.A : Int), Value.int .i64 t.N, Value.int .i64 t.k, Value.int .i64 t.c, Value.int .u32 (t.t : Int)] 27) = W0 := ⟨_, rfl⟩
  have b0 : Below w.heap.size w W0 := by rw [← hW0]; exact below_alloc1 _ _
  have HB0 := Lib.hid b0
  have KT : Hid (∀ V, Below W0.heap.size W0 V → V.cell? ⟨w.heap.size, 0, none⟩ = some (Value.int .u32 (t.A : Int)) ∧ V.cell? ⟨w.heap.size, 1, none⟩ = some (Value.int .i64 t.N) ∧ V.cell? ⟨w.heap.size, 2, none⟩ = some (Value.int .i64 t.k) ∧ V.cell? ⟨w.heap.size, 3, none⟩ = some (Value.int .i64 t.c) ∧ V.cell? ⟨w.heap.size, 4, none⟩ = some (Value.int .u32 (t.t : Int))) := Lib.hid (fun V hV => tb_new hW0 hV)
  have TB : Hid (Below W0.heap.size W0 W0) := Lib.hid (Below.refl _ _)
  have cs1 := small_any A0 c m W0 (Rd.keep hm.rd b0.size fun j _ hj => b0.block j hj)
  have cs2 := small_any A1 d n W0 (Rd.keep hn.rd b0.size fun j _ hj => b0.block j hj)
  obtain ⟨q0, q1, q2, q3, q4⟩ := KT.out _ TB.out
  obtain ⟨S1, hS1⟩ : ∃ S, sml m = S := ⟨_, rfl⟩
  obtain ⟨S2, hS2⟩ : ∃ S, sml n = S := ⟨_, rfl⟩
  rw [hS1] at cs1
  rw [hS2] at cs2
  clear b0
  go_enter Try.func4, Try.ntmps4
  cases S1
  · go_wp2_with fail
    refine (cs1).mono ?_
    rintro e Wz ⟨rfl, hWz⟩
    rw [hWz]
    clear hWz Wz
    go_wp2_with fail
    refine (alive_any _).mono ?_
    rintro e Va ⟨rfl, hva⟩
    go_wp2
    go_ret
    exact ⟨rfl, HB0.out.trans ((TB.out.trans (hva.mono TB.out.size)).mono HB0.out.size)⟩
  cases S2
  · go_wp2_with fail
    refine (cs1).mono ?_
    rintro e Wz ⟨rfl, hWz⟩
    rw [hWz]
    clear hWz Wz
    go_wp2_with fail
    refine (cs2).mono ?_
    rintro e Wz ⟨rfl, hWz⟩
    rw [hWz]
    clear hWz Wz
    go_wp2_with fail
    refine (alive_any _).mono ?_
    rintro e Va ⟨rfl, hva⟩
    go_wp2
    go_ret
    exact ⟨rfl, HB0.out.trans ((TB.out.trans (hva.mono TB.out.size)).mono HB0.out.size)⟩
  go_wp2_with fail
  refine (cs1).mono ?_
  rintro e Wz ⟨rfl, hWz⟩
  rw [hWz]
  clear hWz Wz
  go_wp2_with fail
  refine (cs2).mono ?_
  rintro e Wz ⟨rfl, hWz⟩
  rw [hWz]
  clear hWz Wz
  have hcrm := hm.cr hS1
  have HMm : Hid (∀ V, Below W0.heap.size W0 V → Cr V A0 m) := Lib.hid (fun V hV => hcrm.1.step (HB0.out.trans (hV.mono HB0.out.size)))
  have hlm := hcrm.2
  have cRm := fun V (hV : Below W0.heap.size W0 V) => rows_cs A0 c m V (HMm.out V hV) hlm
  have cMm := fun V A' c' (h : Cs V A' m) => h.may c' hlm
  clear hcrm
  have hcrn := hn.cr hS2
  have HMn : Hid (∀ V, Below W0.heap.size W0 V → Cr V A1 n) := Lib.hid (fun V hV => hcrn.1.step (HB0.out.trans (hV.mono HB0.out.size)))
  have hln := hcrn.2
  have cRn := fun V (hV : Below W0.heap.size W0 V) => rows_cs A1 d n V (HMn.out V hV) hln
  have cMn := fun V A' c' (h : Cs V A' n) => h.may c' hln
  clear hcrn
  clear hS1 hS2 hm hn hW0 cs1 cs2
  obtain ⟨MA, hMA⟩ : ∃ v, mayc none (cps m) = v := ⟨_, rfl⟩
  obtain ⟨NA, hNA⟩ : ∃ v, mayc none (cps n) = v := ⟨_, rfl⟩
  obtain ⟨TA, hTA⟩ : ∃ v, okt t = v := ⟨_, rfl⟩
  have cT := fun V => mayRoute_any t V
  rw [hMA] at cMm
  rw [hNA] at cMn
  rw [hTA] at cT
  have HMA := Lib.hid hMA
  have HNA := Lib.hid hNA
  have HTA := Lib.hid hTA
  have cE := fun V (hV : Below W0.heap.size W0 V) hk ht => eval8_any A0 c m t V (HMm.out V hV) (by omega) hk ht hB
  have cTh := fun V (hV : Below W0.heap.size W0 V) hk hk' ht => then_any A0 A1 c d m n t V (HMm.out V hV) (HMn.out V hV) (by omega) (by omega) hk hk' ht hB
  have rE := fun V A' c' (h : Cs V A' m) hk ht => h.eval c' hlm hk t ht hB
  have rTh := fun V A' c' A2 c2 (h : Cs V A' m) (h' : Cs V A2 n) hk hk' ht => h.then h' c' c2 hlm hln hk hk' t ht hB
  obtain ⟨lm, hlm'⟩ : ∃ v, m.length = v := ⟨_, rfl⟩
  obtain ⟨ln, hln'⟩ : ∃ v, n.length = v := ⟨_, rfl⟩
  rw [hlm'] at cRm cMm cE cTh rE rTh ⊢
  rw [hln'] at cRn cMn cTh rTh ⊢
  clear hMA hNA hTA hlm hln hlm' hln'
  go_wp2_with fail
  refine (cRm _ TB.out).mono ?_
  rintro e V1 ⟨A2, c2, rfl, s2, hv⟩
  replace TB := Lib.hid (TB.out.trans (hv.mono TB.out.size))
  clear hv
  go_wp2_with fail
  refine (cMm _ _ _ s2).mono ?_
  rintro e V2 ⟨rfl, hv⟩
  replace TB := Lib.hid (TB.out.trans (hv.mono TB.out.size))
  clear hv
  clear s2
  cases MA
  · go_wp2_with fail
    refine (alive_any _).mono ?_
    rintro e Va ⟨rfl, hva⟩
    go_wp2
    go_ret
    exact ⟨rfl, HB0.out.trans ((TB.out.trans (hva.mono TB.out.size)).mono HB0.out.size)⟩
  go_wp2_with fail
  refine (cRn _ TB.out).mono ?_
  rintro e V3 ⟨A2', c2', rfl, s3, hv⟩
  replace TB := Lib.hid (TB.out.trans (hv.mono TB.out.size))
  clear hv
  go_wp2_with fail
  refine (cMn _ _ _ s3).mono ?_
  rintro e V4 ⟨rfl, hv⟩
  replace TB := Lib.hid (TB.out.trans (hv.mono TB.out.size))
  clear hv
  clear s3
  clear q0 q1 q2 q3 q4
  obtain ⟨q0, q1, q2, q3, q4⟩ := KT.out _ TB.out
  cases NA
  · go_wp2_with fail
    refine (alive_any _).mono ?_
    rintro e Va ⟨rfl, hva⟩
    go_wp2
    go_ret
    exact ⟨rfl, HB0.out.trans ((TB.out.trans (hva.mono TB.out.size)).mono HB0.out.size)⟩
  go_wp2_with fail
  refine (route_any t _).mono ?_
  rintro e V5 ⟨rfl, hv⟩
  replace TB := Lib.hid (TB.out.trans (hv.mono TB.out.size))
  clear hv
  go_wp2_with fail
  refine (cT _).mono ?_
  rintro e V6 ⟨rfl, hv⟩
  replace TB := Lib.hid (TB.out.trans (hv.mono TB.out.size))
  clear hv
  clear q0 q1 q2 q3 q4
  obtain ⟨q0, q1, q2, q3, q4⟩ := KT.out _ TB.out
  cases TA
  · go_wp2_with fail
    refine (alive_any _).mono ?_
    rintro e Va ⟨rfl, hva⟩
    go_wp2
    go_ret
    exact ⟨rfl, HB0.out.trans ((TB.out.trans (hva.mono TB.out.size)).mono HB0.out.size)⟩
  have cE := fun V hV => cE V hV (mayc_oks HMA.out) HTA.out
  have cTh := fun V hV => cTh V hV (mayc_oks HMA.out) (mayc_oks HNA.out) HTA.out
  have rE := fun V A' c' h => rE V A' c' h (mayc_oks HMA.out) HTA.out
  have rTh := fun V A' c' A2 c2 h h' => rTh V A' c' A2 c2 h h' (mayc_oks HMA.out) (mayc_oks HNA.out) HTA.out
  obtain ⟨⟨r, b1, i1⟩, hE⟩ : ∃ v, evm (cps m) t = v := ⟨_, rfl⟩
  obtain ⟨⟨r2, b2⟩, hT⟩ : ∃ v, thn (cps m) (cps n) t = v := ⟨_, rfl⟩
  rw [hE] at cE rE
  rw [hT] at cTh rTh
  simp only at cE rE cTh rTh
  clear hE hT HMA HNA HTA cMm cMn cT
  go_wp2_with fail
  refine (cE _ TB.out).mono ?_
  rintro e V7 ⟨rfl, hv⟩
  replace TB := Lib.hid (TB.out.trans (hv.mono TB.out.size))
  clear hv
  obtain ⟨V8, hV8⟩ : ∃ V8, V7.alloc (.cells #[Value.int .u32 (r.A : Int), Value.int .i64 r.N, Value.int .i64 r.k, Value.int .i64 r.c, Value.int .u32 (r.t : Int)] 27) = V8 := ⟨_, rfl⟩
  have bb : Below V7.heap.size V7 V8 := by rw [← hV8]; exact below_alloc1 _ _
  replace TB := Lib.hid (TB.out.trans (bb.mono TB.out.size))
  have Ka7 : Hid (∀ V, Below V8.heap.size V8 V → V.cell? ⟨V7.heap.size, 0, none⟩ = some (Value.int .u32 (r.A : Int)) ∧ V.cell? ⟨V7.heap.size, 1, none⟩ = some (Value.int .i64 r.N) ∧ V.cell? ⟨V7.heap.size, 2, none⟩ = some (Value.int .i64 r.k) ∧ V.cell? ⟨V7.heap.size, 3, none⟩ = some (Value.int .i64 r.c) ∧ V.cell? ⟨V7.heap.size, 4, none⟩ = some (Value.int .u32 (r.t : Int))) := Lib.hid (fun V hV => tb_new hV8 hV)
  have Ta7 : Hid (Below V8.heap.size V8 V8) := Lib.hid (Below.refl _ _)
  clear bb
  obtain ⟨a7, ha7⟩ : ∃ v, V7.heap.size = v := ⟨_, rfl⟩
  rw [ha7] at Ka7
  have HBv : Hid (Below W0.heap.size W0 V8) := TB
  go_upto_region 4 with fail
  clear hV8 ha7 q0 q1 q2 q3 q4 cE
  go_cut [10, 11, 12] (fun v10 v11 v12 wx => ∃ a : Nat, v10 = .pointer (some ⟨a, 0, none⟩) ∧ v11 = .bool b1 ∧ v12 = .int .i64 i1 ∧ Hid (Below V8.heap.size V8 wx) ∧ Hid (wx.heap[a]? = some (.cells #[Value.int .u32 (r.A : Int), Value.int .i64 r.N, Value.int .i64 r.k, Value.int .i64 r.c, Value.int .u32 (r.t : Int)] 44)))
  case first =>
    refine wp_region_held_drew (S := fun V => V.cell? ⟨w.heap.size, 0, none⟩ = some (Value.int .u32 (t.A : Int)) ∧ V.cell? ⟨w.heap.size, 1, none⟩ = some (Value.int .i64 t.N) ∧ V.cell? ⟨w.heap.size, 2, none⟩ = some (Value.int .i64 t.k) ∧ V.cell? ⟨w.heap.size, 3, none⟩ = some (Value.int .i64 t.c) ∧ V.cell? ⟨w.heap.size, 4, none⟩ = some (Value.int .u32 (t.t : Int))) (by kernel_rfl) (KT.out _ (TB.out.trans (below_draws _ _ 1))) (fun hHeld => ?_)
    refine wpAnyH_take (i := 0) (v := ?_) rfl (by kernel_rfl) (by kernel_rfl) (by kernel_rfl) (fun _ _ _ h => h) (Or.inl ⟨by rfl, ?_⟩) (by assumption) ?_
    rotate_left
    · (intro w' hSw; (try dsimp only at hSw); go_simp; try with_reducible rfl)
    simp only [Act.put, List.getElem_toArray, List.getElem_cons_zero, List.setIfInBounds_toArray, List.set_cons_zero, List.set_cons_succ]
    refine wpAnyH_take (i := 2) (v := ?_) rfl (by kernel_rfl) (by kernel_rfl) (by kernel_rfl) (fun _ _ _ h => h) (Or.inl ⟨by rfl, ?_⟩) (by assumption) ?_
    rotate_left
    · (intro w' hSw; (try dsimp only at hSw); go_simp; try with_reducible rfl)
    simp only [Act.put, List.getElem_toArray, List.getElem_cons_zero, List.getElem_cons_succ, List.setIfInBounds_toArray, List.set_cons_zero, List.set_cons_succ]
    have t0 : Below V8.heap.size V8 V8.drew := below_draws _ V8 1
    replace TB := Lib.hid (TB.out.trans (t0.mono TB.out.size))
    replace Ta7 := Lib.hid (Ta7.out.trans (t0.mono Ta7.out.size))
    generalize hX0 : V8.drew = X at TB Ta7 ⊢
    clear hX0 hHeld t0
    refine wpAnyH_ready (rs := [1, 9]) (by kernel_rfl) (by simp) ?_
    refine AllReadyH.cons rfl (fun K hK => ?_) (AllReadyH.cons rfl (fun K hK => ?_) AllReadyH.nil)
    · go_simp
      go_at_call 11
      refine (cRm _ TB.out).mono ?_
      rintro e X1 ⟨A5, c5, rfl, s5, hv⟩
      replace TB := Lib.hid (TB.out.trans (hv.mono TB.out.size))
      replace Ta7 := Lib.hid (Ta7.out.trans (hv.mono Ta7.out.size))
      refine hK.out _ _ (KT.out _ TB.out) (fun _ => ?_)
      clear hK K hv
      refine wpAnyH_ready (rs := [3, 9]) (by kernel_rfl) (by simp) ?_
      refine AllReadyH.cons rfl (fun K hK => ?_) (AllReadyH.cons rfl (fun K hK => ?_) AllReadyH.nil)
      · go_simp
        go_at_call 16
        refine (route_any t _).mono ?_
        rintro e X2 ⟨rfl, hv⟩
        replace TB := Lib.hid (TB.out.trans (hv.mono TB.out.size))
        replace Ta7 := Lib.hid (Ta7.out.trans (hv.mono Ta7.out.size))
        replace s5 := s5.step hv
        refine hK.out _ _ (KT.out _ TB.out) (fun _ => ?_)
        clear hK K hv
        refine wpAnyH_ready (rs := [4, 9]) (by kernel_rfl) (by simp) ?_
        refine AllReadyH.cons rfl (fun K hK => ?_) (AllReadyH.cons rfl (fun K hK => ?_) AllReadyH.nil)
        · go_simp
          go_at_call 22
          refine (rE _ _ _ s5).mono ?_
          rintro e X3 ⟨rfl, hv⟩
          replace TB := Lib.hid (TB.out.trans (hv.mono TB.out.size))
          replace Ta7 := Lib.hid (Ta7.out.trans (hv.mono Ta7.out.size))
          refine hK.out _ _ (KT.out _ TB.out) (fun _ => ?_)
          clear hK K hv
          refine wpAnyH_take (i := 5) (v := ?_) rfl (by kernel_rfl) (by kernel_rfl) (by kernel_rfl) (fun _ _ _ h => h) (Or.inl ⟨by rfl, ?_⟩) (by assumption) ?_
          rotate_left
          · (intro w' hSw; (try dsimp only at hSw); go_simp; try with_reducible rfl)
          simp only [Act.put, List.getElem_toArray, List.getElem_cons_zero, List.getElem_cons_succ, List.setIfInBounds_toArray, List.set_cons_zero, List.set_cons_succ]
          refine wpAnyH_take (i := 6) (v := ?_) rfl (by kernel_rfl) (by kernel_rfl) (by kernel_rfl) (fun _ _ _ h => h) (Or.inl ⟨by rfl, ?_⟩) (by assumption) ?_
          rotate_left
          · (intro w' hSw; (try dsimp only at hSw); go_simp; try with_reducible rfl)
          simp only [Act.put, List.getElem_toArray, List.getElem_cons_zero, List.getElem_cons_succ, List.setIfInBounds_toArray, List.set_cons_zero, List.set_cons_succ]
          refine wpAnyH_take (i := 7) (v := ?_) rfl (by kernel_rfl) (by kernel_rfl) (by kernel_rfl) (fun _ _ _ h => h) (Or.inl ⟨by rfl, ?_⟩) (by assumption) ?_
          rotate_left
          · (intro w' hSw; (try dsimp only at hSw); go_simp; try with_reducible rfl)
          simp only [Act.put, List.getElem_toArray, List.getElem_cons_zero, List.getElem_cons_succ, List.setIfInBounds_toArray, List.set_cons_zero, List.set_cons_succ]
          refine wpAnyH_take (i := 8) (v := ?_) rfl (by kernel_rfl) (by kernel_rfl) (by kernel_rfl) (fun _ _ _ h => h) (Or.inl ⟨by rfl, ?_⟩) (by assumption) ?_
          rotate_left
          · (intro w' hSw; (try dsimp only at hSw); go_simp; try with_reducible rfl)
          simp only [Act.put, List.getElem_toArray, List.getElem_cons_zero, List.getElem_cons_succ, List.setIfInBounds_toArray, List.set_cons_zero, List.set_cons_succ]
          refine wpAnyH_ready (rs := [9]) (by kernel_rfl) (by simp) ?_
          refine AllReadyH.cons rfl (fun K hK => ?_) AllReadyH.nil
          go_simp
          obtain ⟨Y3, hY⟩ : ∃ V, X3.alloc (.cells #[Value.int .u32 0, Value.int .i64 0, Value.int .i64 0, Value.int .i64 0, Value.int .u32 0] 44) = V := ⟨_, rfl⟩
          have kz : Hid (Y3.heap[X3.heap.size]? = some (.cells #[Value.int .u32 0, Value.int .i64 0, Value.int .i64 0, Value.int .i64 0, Value.int .u32 0] 44)) := Lib.hid (by rw [← hY]; exact alloc_at _ _ _ rfl)
          have bb : Below X3.heap.size X3 Y3 := by rw [← hY]; exact below_alloc1 _ _
          have ga : V8.heap.size ≤ X3.heap.size := Ta7.out.size
          replace TB := Lib.hid (TB.out.trans (bb.mono TB.out.size))
          replace Ta7 := Lib.hid (Ta7.out.trans (bb.mono Ta7.out.size))
          obtain ⟨a, ha⟩ : ∃ v, X3.heap.size = v := ⟨_, rfl⟩
          rw [hY, ha]
          rw [ha] at kz ga
          refine hK.out _ _ (KT.out _ TB.out) (fun _ => ?_)
          clear hK K bb hY ha
          obtain ⟨z0, z1, z2, z3, z4, f0, f1, f2, f3, f4, hzl⟩ := tz_at kz.out
          have kr := tz_set kz.out (Value.int .u32 (r.A : Int)) (Value.int .i64 r.N) (Value.int .i64 r.k) (Value.int .i64 r.c) (Value.int .u32 (r.t : Int))
          have TBs : Hid (Below W0.heap.size W0 (st5 Y3 a (Value.int .u32 (r.A : Int)) (Value.int .i64 r.N) (Value.int .i64 r.k) (Value.int .i64 r.c) (Value.int .u32 (r.t : Int)))) := Lib.hid (below_st5 TB.out (by have := HBv.out.size; omega) _ _ _ _ _)
          have Tbs : Hid (Below V8.heap.size V8 (st5 Y3 a (Value.int .u32 (r.A : Int)) (Value.int .i64 r.N) (Value.int .i64 r.k) (Value.int .i64 r.c) (Value.int .u32 (r.t : Int)))) := Lib.hid (below_st5 Ta7.out ga _ _ _ _ _)
          refine wpAnyH_ready (rs := [10]) (by kernel_rfl) (by simp) ?_
          refine AllReadyH.cons rfl (fun K hK => ?_) AllReadyH.nil
          go_simp
          refine hK.out _ _ (KT.out _ TBs.out) (fun _ => ?_)
          clear hK K
          clear z0 z1 z2 z3 z4 f0 f1 f2 f3 f4 hzl
          refine wpAnyH_ready (rs := [11]) (by kernel_rfl) (by simp) ?_
          refine AllReadyH.cons rfl (fun K hK => ?_) AllReadyH.nil
          go_simp
          refine hK.out _ _ (KT.out _ TBs.out) (fun _ => ?_)
          clear hK K
          refine wpAnyH_ready (rs := [12]) (by kernel_rfl) (by simp) ?_
          refine AllReadyH.cons rfl (fun K hK => ?_) AllReadyH.nil
          go_simp
          refine hK.out _ _ (KT.out _ TBs.out) (fun _ => ?_)
          clear hK K
          refine wpAnyH_done (by kernel_rfl) ?_ _
          go_wp2_with fail
          go_meet
          case rel => exact ⟨a, rfl, rfl, rfl, Tbs, Lib.hid kr⟩
        · go_simp
          obtain ⟨Y2, hY⟩ : ∃ V, X2.alloc (.cells #[Value.int .u32 0, Value.int .i64 0, Value.int .i64 0, Value.int .i64 0, Value.int .u32 0] 44) = V := ⟨_, rfl⟩
          have kz : Hid (Y2.heap[X2.heap.size]? = some (.cells #[Value.int .u32 0, Value.int .i64 0, Value.int .i64 0, Value.int .i64 0, Value.int .u32 0] 44)) := Lib.hid (by rw [← hY]; exact alloc_at _ _ _ rfl)
          have bb : Below X2.heap.size X2 Y2 := by rw [← hY]; exact below_alloc1 _ _
          have ga : V8.heap.size ≤ X2.heap.size := Ta7.out.size
          replace TB := Lib.hid (TB.out.trans (bb.mono TB.out.size))
          replace Ta7 := Lib.hid (Ta7.out.trans (bb.mono Ta7.out.size))
          replace s5 := s5.step bb
          obtain ⟨a, ha⟩ : ∃ v, X2.heap.size = v := ⟨_, rfl⟩
          rw [hY, ha]
          rw [ha] at kz ga
          refine hK.out _ _ (KT.out _ TB.out) (fun _ => ?_)
          clear hK K bb hY ha
          refine wpAnyH_ready (rs := [4]) (by kernel_rfl) (by simp) ?_
          refine AllReadyH.cons rfl (fun K hK => ?_) AllReadyH.nil
          go_simp
          go_at_call 22
          refine (rE _ _ _ s5).mono ?_
          rintro e X3a ⟨rfl, hv⟩
          replace TB := Lib.hid (TB.out.trans (hv.mono TB.out.size))
          replace Ta7 := Lib.hid (Ta7.out.trans (hv.mono Ta7.out.size))
          replace kz := Lib.hid ((hv.block a (lt_of_block kz.out)).trans kz.out)
          refine hK.out _ _ (KT.out _ TB.out) (fun _ => ?_)
          clear hK K hv
          refine wpAnyH_take (i := 5) (v := ?_) rfl (by kernel_rfl) (by kernel_rfl) (by kernel_rfl) (fun _ _ _ h => h) (Or.inl ⟨by rfl, ?_⟩) (by assumption) ?_
          rotate_left
          · (intro w' hSw; (try dsimp only at hSw); go_simp; try with_reducible rfl)
          simp only [Act.put, List.getElem_toArray, List.getElem_cons_zero, List.getElem_cons_succ, List.setIfInBounds_toArray, List.set_cons_zero, List.set_cons_succ]
          refine wpAnyH_take (i := 6) (v := ?_) rfl (by kernel_rfl) (by kernel_rfl) (by kernel_rfl) (fun _ _ _ h => h) (Or.inl ⟨by rfl, ?_⟩) (by assumption) ?_
          rotate_left
          · (intro w' hSw; (try dsimp only at hSw); go_simp; try with_reducible rfl)
          simp only [Act.put, List.getElem_toArray, List.getElem_cons_zero, List.getElem_cons_succ, List.setIfInBounds_toArray, List.set_cons_zero, List.set_cons_succ]
          refine wpAnyH_take (i := 7) (v := ?_) rfl (by kernel_rfl) (by kernel_rfl) (by kernel_rfl) (fun _ _ _ h => h) (Or.inl ⟨by rfl, ?_⟩) (by assumption) ?_
          rotate_left
          · (intro w' hSw; (try dsimp only at hSw); go_simp; try with_reducible rfl)
          simp only [Act.put, List.getElem_toArray, List.getElem_cons_zero, List.getElem_cons_succ, List.setIfInBounds_toArray, List.set_cons_zero, List.set_cons_succ]
          refine wpAnyH_take (i := 8) (v := ?_) rfl (by kernel_rfl) (by kernel_rfl) (by kernel_rfl) (fun _ _ _ h => h) (Or.inl ⟨by rfl, ?_⟩) (by assumption) ?_
          rotate_left
          · (intro w' hSw; (try dsimp only at hSw); go_simp; try with_reducible rfl)
          simp only [Act.put, List.getElem_toArray, List.getElem_cons_zero, List.getElem_cons_succ, List.setIfInBounds_toArray, List.set_cons_zero, List.set_cons_succ]
          obtain ⟨z0, z1, z2, z3, z4, f0, f1, f2, f3, f4, hzl⟩ := tz_at kz.out
          have kr := tz_set kz.out (Value.int .u32 (r.A : Int)) (Value.int .i64 r.N) (Value.int .i64 r.k) (Value.int .i64 r.c) (Value.int .u32 (r.t : Int))
          have TBs : Hid (Below W0.heap.size W0 (st5 X3a a (Value.int .u32 (r.A : Int)) (Value.int .i64 r.N) (Value.int .i64 r.k) (Value.int .i64 r.c) (Value.int .u32 (r.t : Int)))) := Lib.hid (below_st5 TB.out (by have := HBv.out.size; omega) _ _ _ _ _)
          have Tbs : Hid (Below V8.heap.size V8 (st5 X3a a (Value.int .u32 (r.A : Int)) (Value.int .i64 r.N) (Value.int .i64 r.k) (Value.int .i64 r.c) (Value.int .u32 (r.t : Int)))) := Lib.hid (below_st5 Ta7.out ga _ _ _ _ _)
          refine wpAnyH_ready (rs := [10]) (by kernel_rfl) (by simp) ?_
          refine AllReadyH.cons rfl (fun K hK => ?_) AllReadyH.nil
          go_simp
          refine hK.out _ _ (KT.out _ TBs.out) (fun _ => ?_)
          clear hK K
          clear z0 z1 z2 z3 z4 f0 f1 f2 f3 f4 hzl
          refine wpAnyH_ready (rs := [11]) (by kernel_rfl) (by simp) ?_
          refine AllReadyH.cons rfl (fun K hK => ?_) AllReadyH.nil
          go_simp
          refine hK.out _ _ (KT.out _ TBs.out) (fun _ => ?_)
          clear hK K
          refine wpAnyH_ready (rs := [12]) (by kernel_rfl) (by simp) ?_
          refine AllReadyH.cons rfl (fun K hK => ?_) AllReadyH.nil
          go_simp
          refine hK.out _ _ (KT.out _ TBs.out) (fun _ => ?_)
          clear hK K
          refine wpAnyH_done (by kernel_rfl) ?_ _
          go_wp2_with fail
          go_meet
          case rel => exact ⟨a, rfl, rfl, rfl, Tbs, Lib.hid kr⟩
      · go_simp
        obtain ⟨Y1, hY⟩ : ∃ V, X1.alloc (.cells #[Value.int .u32 0, Value.int .i64 0, Value.int .i64 0, Value.int .i64 0, Value.int .u32 0] 44) = V := ⟨_, rfl⟩
        have kz : Hid (Y1.heap[X1.heap.size]? = some (.cells #[Value.int .u32 0, Value.int .i64 0, Value.int .i64 0, Value.int .i64 0, Value.int .u32 0] 44)) := Lib.hid (by rw [← hY]; exact alloc_at _ _ _ rfl)
        have bb : Below X1.heap.size X1 Y1 := by rw [← hY]; exact below_alloc1 _ _
        have ga : V8.heap.size ≤ X1.heap.size := Ta7.out.size
        replace TB := Lib.hid (TB.out.trans (bb.mono TB.out.size))
        replace Ta7 := Lib.hid (Ta7.out.trans (bb.mono Ta7.out.size))
        replace s5 := s5.step bb
        obtain ⟨a, ha⟩ : ∃ v, X1.heap.size = v := ⟨_, rfl⟩
        rw [hY, ha]
        rw [ha] at kz ga
        refine hK.out _ _ (KT.out _ TB.out) (fun _ => ?_)
        clear hK K bb hY ha
        refine wpAnyH_ready (rs := [3]) (by kernel_rfl) (by simp) ?_
        refine AllReadyH.cons rfl (fun K hK => ?_) AllReadyH.nil
        go_simp
        go_at_call 16
        refine (route_any t _).mono ?_
        rintro e X2a ⟨rfl, hv⟩
        replace TB := Lib.hid (TB.out.trans (hv.mono TB.out.size))
        replace Ta7 := Lib.hid (Ta7.out.trans (hv.mono Ta7.out.size))
        replace kz := Lib.hid ((hv.block a (lt_of_block kz.out)).trans kz.out)
        replace s5 := s5.step hv
        refine hK.out _ _ (KT.out _ TB.out) (fun _ => ?_)
        clear hK K hv
        refine wpAnyH_ready (rs := [4]) (by kernel_rfl) (by simp) ?_
        refine AllReadyH.cons rfl (fun K hK => ?_) AllReadyH.nil
        go_simp
        go_at_call 22
        refine (rE _ _ _ s5).mono ?_
        rintro e X3a ⟨rfl, hv⟩
        replace TB := Lib.hid (TB.out.trans (hv.mono TB.out.size))
        replace Ta7 := Lib.hid (Ta7.out.trans (hv.mono Ta7.out.size))
        replace kz := Lib.hid ((hv.block a (lt_of_block kz.out)).trans kz.out)
        refine hK.out _ _ (KT.out _ TB.out) (fun _ => ?_)
        clear hK K hv
        refine wpAnyH_take (i := 5) (v := ?_) rfl (by kernel_rfl) (by kernel_rfl) (by kernel_rfl) (fun _ _ _ h => h) (Or.inl ⟨by rfl, ?_⟩) (by assumption) ?_
        rotate_left
        · (intro w' hSw; (try dsimp only at hSw); go_simp; try with_reducible rfl)
        simp only [Act.put, List.getElem_toArray, List.getElem_cons_zero, List.getElem_cons_succ, List.setIfInBounds_toArray, List.set_cons_zero, List.set_cons_succ]
        refine wpAnyH_take (i := 6) (v := ?_) rfl (by kernel_rfl) (by kernel_rfl) (by kernel_rfl) (fun _ _ _ h => h) (Or.inl ⟨by rfl, ?_⟩) (by assumption) ?_
        rotate_left
        · (intro w' hSw; (try dsimp only at hSw); go_simp; try with_reducible rfl)
        simp only [Act.put, List.getElem_toArray, List.getElem_cons_zero, List.getElem_cons_succ, List.setIfInBounds_toArray, List.set_cons_zero, List.set_cons_succ]
        refine wpAnyH_take (i := 7) (v := ?_) rfl (by kernel_rfl) (by kernel_rfl) (by kernel_rfl) (fun _ _ _ h => h) (Or.inl ⟨by rfl, ?_⟩) (by assumption) ?_
        rotate_left
        · (intro w' hSw; (try dsimp only at hSw); go_simp; try with_reducible rfl)
        simp only [Act.put, List.getElem_toArray, List.getElem_cons_zero, List.getElem_cons_succ, List.setIfInBounds_toArray, List.set_cons_zero, List.set_cons_succ]
        refine wpAnyH_take (i := 8) (v := ?_) rfl (by kernel_rfl) (by kernel_rfl) (by kernel_rfl) (fun _ _ _ h => h) (Or.inl ⟨by rfl, ?_⟩) (by assumption) ?_
        rotate_left
        · (intro w' hSw; (try dsimp only at hSw); go_simp; try with_reducible rfl)
        simp only [Act.put, List.getElem_toArray, List.getElem_cons_zero, List.getElem_cons_succ, List.setIfInBounds_toArray, List.set_cons_zero, List.set_cons_succ]
        obtain ⟨z0, z1, z2, z3, z4, f0, f1, f2, f3, f4, hzl⟩ := tz_at kz.out
        have kr := tz_set kz.out (Value.int .u32 (r.A : Int)) (Value.int .i64 r.N) (Value.int .i64 r.k) (Value.int .i64 r.c) (Value.int .u32 (r.t : Int))
        have TBs : Hid (Below W0.heap.size W0 (st5 X3a a (Value.int .u32 (r.A : Int)) (Value.int .i64 r.N) (Value.int .i64 r.k) (Value.int .i64 r.c) (Value.int .u32 (r.t : Int)))) := Lib.hid (below_st5 TB.out (by have := HBv.out.size; omega) _ _ _ _ _)
        have Tbs : Hid (Below V8.heap.size V8 (st5 X3a a (Value.int .u32 (r.A : Int)) (Value.int .i64 r.N) (Value.int .i64 r.k) (Value.int .i64 r.c) (Value.int .u32 (r.t : Int)))) := Lib.hid (below_st5 Ta7.out ga _ _ _ _ _)
        refine wpAnyH_ready (rs := [10]) (by kernel_rfl) (by simp) ?_
        refine AllReadyH.cons rfl (fun K hK => ?_) AllReadyH.nil
        go_simp
        refine hK.out _ _ (KT.out _ TBs.out) (fun _ => ?_)
        clear hK K
        clear z0 z1 z2 z3 z4 f0 f1 f2 f3 f4 hzl
        refine wpAnyH_ready (rs := [11]) (by kernel_rfl) (by simp) ?_
        refine AllReadyH.cons rfl (fun K hK => ?_) AllReadyH.nil
        go_simp
        refine hK.out _ _ (KT.out _ TBs.out) (fun _ => ?_)
        clear hK K
        refine wpAnyH_ready (rs := [12]) (by kernel_rfl) (by simp) ?_
        refine AllReadyH.cons rfl (fun K hK => ?_) AllReadyH.nil
        go_simp
        refine hK.out _ _ (KT.out _ TBs.out) (fun _ => ?_)
        clear hK K
        refine wpAnyH_done (by kernel_rfl) ?_ _
        go_wp2_with fail
        go_meet
        case rel => exact ⟨a, rfl, rfl, rfl, Tbs, Lib.hid kr⟩
    · go_simp
      obtain ⟨Y0, hY⟩ : ∃ V, X.alloc (.cells #[Value.int .u32 0, Value.int .i64 0, Value.int .i64 0, Value.int .i64 0, Value.int .u32 0] 44) = V := ⟨_, rfl⟩
      have kz : Hid (Y0.heap[X.heap.size]? = some (.cells #[Value.int .u32 0, Value.int .i64 0, Value.int .i64 0, Value.int .i64 0, Value.int .u32 0] 44)) := Lib.hid (by rw [← hY]; exact alloc_at _ _ _ rfl)
      have bb : Below X.heap.size X Y0 := by rw [← hY]; exact below_alloc1 _ _
      have ga : V8.heap.size ≤ X.heap.size := Ta7.out.size
      replace TB := Lib.hid (TB.out.trans (bb.mono TB.out.size))
      replace Ta7 := Lib.hid (Ta7.out.trans (bb.mono Ta7.out.size))
      obtain ⟨a, ha⟩ : ∃ v, X.heap.size = v := ⟨_, rfl⟩
      rw [hY, ha]
      rw [ha] at kz ga
      refine hK.out _ _ (KT.out _ TB.out) (fun _ => ?_)
      clear hK K bb hY ha
      refine wpAnyH_ready (rs := [1]) (by kernel_rfl) (by simp) ?_
      refine AllReadyH.cons rfl (fun K hK => ?_) AllReadyH.nil
      go_simp
      go_at_call 11
      refine (cRm _ TB.out).mono ?_
      rintro e X1a ⟨A5, c5, rfl, s5, hv⟩
      replace TB := Lib.hid (TB.out.trans (hv.mono TB.out.size))
      replace Ta7 := Lib.hid (Ta7.out.trans (hv.mono Ta7.out.size))
      replace kz := Lib.hid ((hv.block a (lt_of_block kz.out)).trans kz.out)
      refine hK.out _ _ (KT.out _ TB.out) (fun _ => ?_)
      clear hK K hv
      refine wpAnyH_ready (rs := [3]) (by kernel_rfl) (by simp) ?_
      refine AllReadyH.cons rfl (fun K hK => ?_) AllReadyH.nil
      go_simp
      go_at_call 16
      refine (route_any t _).mono ?_
      rintro e X2a ⟨rfl, hv⟩
      replace TB := Lib.hid (TB.out.trans (hv.mono TB.out.size))
      replace Ta7 := Lib.hid (Ta7.out.trans (hv.mono Ta7.out.size))
      replace kz := Lib.hid ((hv.block a (lt_of_block kz.out)).trans kz.out)
      replace s5 := s5.step hv
      refine hK.out _ _ (KT.out _ TB.out) (fun _ => ?_)
      clear hK K hv
      refine wpAnyH_ready (rs := [4]) (by kernel_rfl) (by simp) ?_
      refine AllReadyH.cons rfl (fun K hK => ?_) AllReadyH.nil
      go_simp
      go_at_call 22
      refine (rE _ _ _ s5).mono ?_
      rintro e X3a ⟨rfl, hv⟩
      replace TB := Lib.hid (TB.out.trans (hv.mono TB.out.size))
      replace Ta7 := Lib.hid (Ta7.out.trans (hv.mono Ta7.out.size))
      replace kz := Lib.hid ((hv.block a (lt_of_block kz.out)).trans kz.out)
      refine hK.out _ _ (KT.out _ TB.out) (fun _ => ?_)
      clear hK K hv
      refine wpAnyH_take (i := 5) (v := ?_) rfl (by kernel_rfl) (by kernel_rfl) (by kernel_rfl) (fun _ _ _ h => h) (Or.inl ⟨by rfl, ?_⟩) (by assumption) ?_
      rotate_left
      · (intro w' hSw; (try dsimp only at hSw); go_simp; try with_reducible rfl)
      simp only [Act.put, List.getElem_toArray, List.getElem_cons_zero, List.getElem_cons_succ, List.setIfInBounds_toArray, List.set_cons_zero, List.set_cons_succ]
      refine wpAnyH_take (i := 6) (v := ?_) rfl (by kernel_rfl) (by kernel_rfl) (by kernel_rfl) (fun _ _ _ h => h) (Or.inl ⟨by rfl, ?_⟩) (by assumption) ?_
      rotate_left
      · (intro w' hSw; (try dsimp only at hSw); go_simp; try with_reducible rfl)
      simp only [Act.put, List.getElem_toArray, List.getElem_cons_zero, List.getElem_cons_succ, List.setIfInBounds_toArray, List.set_cons_zero, List.set_cons_succ]
      refine wpAnyH_take (i := 7) (v := ?_) rfl (by kernel_rfl) (by kernel_rfl) (by kernel_rfl) (fun _ _ _ h => h) (Or.inl ⟨by rfl, ?_⟩) (by assumption) ?_
      rotate_left
      · (intro w' hSw; (try dsimp only at hSw); go_simp; try with_reducible rfl)
      simp only [Act.put, List.getElem_toArray, List.getElem_cons_zero, List.getElem_cons_succ, List.setIfInBounds_toArray, List.set_cons_zero, List.set_cons_succ]
      refine wpAnyH_take (i := 8) (v := ?_) rfl (by kernel_rfl) (by kernel_rfl) (by kernel_rfl) (fun _ _ _ h => h) (Or.inl ⟨by rfl, ?_⟩) (by assumption) ?_
      rotate_left
      · (intro w' hSw; (try dsimp only at hSw); go_simp; try with_reducible rfl)
      simp only [Act.put, List.getElem_toArray, List.getElem_cons_zero, List.getElem_cons_succ, List.setIfInBounds_toArray, List.set_cons_zero, List.set_cons_succ]
      obtain ⟨z0, z1, z2, z3, z4, f0, f1, f2, f3, f4, hzl⟩ := tz_at kz.out
      have kr := tz_set kz.out (Value.int .u32 (r.A : Int)) (Value.int .i64 r.N) (Value.int .i64 r.k) (Value.int .i64 r.c) (Value.int .u32 (r.t : Int))
      have TBs : Hid (Below W0.heap.size W0 (st5 X3a a (Value.int .u32 (r.A : Int)) (Value.int .i64 r.N) (Value.int .i64 r.k) (Value.int .i64 r.c) (Value.int .u32 (r.t : Int)))) := Lib.hid (below_st5 TB.out (by have := HBv.out.size; omega) _ _ _ _ _)
      have Tbs : Hid (Below V8.heap.size V8 (st5 X3a a (Value.int .u32 (r.A : Int)) (Value.int .i64 r.N) (Value.int .i64 r.k) (Value.int .i64 r.c) (Value.int .u32 (r.t : Int)))) := Lib.hid (below_st5 Ta7.out ga _ _ _ _ _)
      refine wpAnyH_ready (rs := [10]) (by kernel_rfl) (by simp) ?_
      refine AllReadyH.cons rfl (fun K hK => ?_) AllReadyH.nil
      go_simp
      refine hK.out _ _ (KT.out _ TBs.out) (fun _ => ?_)
      clear hK K
      clear z0 z1 z2 z3 z4 f0 f1 f2 f3 f4 hzl
      refine wpAnyH_ready (rs := [11]) (by kernel_rfl) (by simp) ?_
      refine AllReadyH.cons rfl (fun K hK => ?_) AllReadyH.nil
      go_simp
      refine hK.out _ _ (KT.out _ TBs.out) (fun _ => ?_)
      clear hK K
      refine wpAnyH_ready (rs := [12]) (by kernel_rfl) (by simp) ?_
      refine AllReadyH.cons rfl (fun K hK => ?_) AllReadyH.nil
      go_simp
      refine hK.out _ _ (KT.out _ TBs.out) (fun _ => ?_)
      clear hK K
      refine wpAnyH_done (by kernel_rfl) ?_ _
      go_wp2_with fail
      go_meet
      case rel => exact ⟨a, rfl, rfl, rfl, Tbs, Lib.hid kr⟩
  case rest =>
    obtain ⟨a10, rfl, rfl, rfl, tbc, kr⟩ := hcut
    replace TB := Lib.hid (TB.out.trans (tbc.out.mono TB.out.size))
    have HBw : Hid (Below W0.heap.size W0 wc) := TB
    have Kr := Lib.hid (fun V (hV : Below wc.heap.size wc V) => (hV.block a10 (lt_of_block kr.out)).trans kr.out)
    have Twc : Hid (Below wc.heap.size wc wc) := Lib.hid (Below.refl _ _)
    replace Ka7 : Hid (∀ V, Below wc.heap.size wc V → V.cell? ⟨a7, 0, none⟩ = some (Value.int .u32 (r.A : Int)) ∧ V.cell? ⟨a7, 1, none⟩ = some (Value.int .i64 r.N) ∧ V.cell? ⟨a7, 2, none⟩ = some (Value.int .i64 r.k) ∧ V.cell? ⟨a7, 3, none⟩ = some (Value.int .i64 r.c) ∧ V.cell? ⟨a7, 4, none⟩ = some (Value.int .u32 (r.t : Int))) := Lib.hid (fun V hV => Ka7.out V (tbc.out.trans (hV.mono tbc.out.size)))
    clear tbc kr Ta7 rE
    obtain ⟨q0, q1, q2, q3, q4⟩ := KT.out _ TB.out
    go_wp2_with fail
    refine (cTh _ TB.out).mono ?_
    rintro e V9 ⟨rfl, hv⟩
    replace Twc := Lib.hid (Twc.out.trans (hv.mono Twc.out.size))
    replace TB := Lib.hid (TB.out.trans (hv.mono TB.out.size))
    clear hv
    obtain ⟨Va, hVa⟩ : ∃ Va, V9.alloc (.cells #[Value.int .u32 (r2.A : Int), Value.int .i64 r2.N, Value.int .i64 r2.k, Value.int .i64 r2.c, Value.int .u32 (r2.t : Int)] 27) = Va := ⟨_, rfl⟩
    have bb : Below V9.heap.size V9 Va := by rw [← hVa]; exact below_alloc1 _ _
    replace TB := Lib.hid (TB.out.trans (bb.mono TB.out.size))
    have Ka13 : Hid (∀ V, Below Va.heap.size Va V → V.cell? ⟨V9.heap.size, 0, none⟩ = some (Value.int .u32 (r2.A : Int)) ∧ V.cell? ⟨V9.heap.size, 1, none⟩ = some (Value.int .i64 r2.N) ∧ V.cell? ⟨V9.heap.size, 2, none⟩ = some (Value.int .i64 r2.k) ∧ V.cell? ⟨V9.heap.size, 3, none⟩ = some (Value.int .i64 r2.c) ∧ V.cell? ⟨V9.heap.size, 4, none⟩ = some (Value.int .u32 (r2.t : Int))) := Lib.hid (fun V hV => tb_new hVa hV)
    have Ta13 : Hid (Below Va.heap.size Va Va) := Lib.hid (Below.refl _ _)
    replace Twc := Lib.hid (Twc.out.trans (bb.mono Twc.out.size))
    clear bb
    obtain ⟨a13, ha13⟩ : ∃ v, V9.heap.size = v := ⟨_, rfl⟩
    rw [ha13] at Ka13
    replace Kr : Hid (∀ V, Below Va.heap.size Va V → V.heap[a10]? = some (.cells #[Value.int .u32 (r.A : Int), Value.int .i64 r.N, Value.int .i64 r.k, Value.int .i64 r.c, Value.int .u32 (r.t : Int)] 44)) := Lib.hid (fun V hV => Kr.out V (Twc.out.trans (hV.mono Twc.out.size)))
    replace Ka7 : Hid (∀ V, Below Va.heap.size Va V → V.cell? ⟨a7, 0, none⟩ = some (Value.int .u32 (r.A : Int)) ∧ V.cell? ⟨a7, 1, none⟩ = some (Value.int .i64 r.N) ∧ V.cell? ⟨a7, 2, none⟩ = some (Value.int .i64 r.k) ∧ V.cell? ⟨a7, 3, none⟩ = some (Value.int .i64 r.c) ∧ V.cell? ⟨a7, 4, none⟩ = some (Value.int .u32 (r.t : Int))) := Lib.hid (fun V hV => Ka7.out V (Twc.out.trans (hV.mono Twc.out.size)))
    have HBx : Hid (Below W0.heap.size W0 Va) := TB
    go_upto_region 6 with fail
    clear hVa ha13 q0 q1 q2 q3 q4 cTh Twc
    go_cut [15, 16] (fun v15 v16 wx => ∃ a : Nat, v15 = .pointer (some ⟨a, 0, none⟩) ∧ v16 = .bool b2 ∧ Hid (Below Va.heap.size Va wx) ∧ Hid (wx.heap[a]? = some (.cells #[Value.int .u32 (r2.A : Int), Value.int .i64 r2.N, Value.int .i64 r2.k, Value.int .i64 r2.c, Value.int .u32 (r2.t : Int)] 44)))
    case first =>
      refine wp_region_held_drew (S := fun V => V.cell? ⟨w.heap.size, 0, none⟩ = some (Value.int .u32 (t.A : Int)) ∧ V.cell? ⟨w.heap.size, 1, none⟩ = some (Value.int .i64 t.N) ∧ V.cell? ⟨w.heap.size, 2, none⟩ = some (Value.int .i64 t.k) ∧ V.cell? ⟨w.heap.size, 3, none⟩ = some (Value.int .i64 t.c) ∧ V.cell? ⟨w.heap.size, 4, none⟩ = some (Value.int .u32 (t.t : Int))) (by kernel_rfl) (KT.out _ (TB.out.trans (below_draws _ _ 1))) (fun hHeld => ?_)
      refine wpAnyH_take (i := 0) (v := ?_) rfl (by kernel_rfl) (by kernel_rfl) (by kernel_rfl) (fun _ _ _ h => h) (Or.inl ⟨by rfl, ?_⟩) (by assumption) ?_
      rotate_left
      · (intro w' hSw; (try dsimp only at hSw); go_simp; try with_reducible rfl)
      simp only [Act.put, List.getElem_toArray, List.getElem_cons_zero, List.setIfInBounds_toArray, List.set_cons_zero, List.set_cons_succ]
      refine wpAnyH_take (i := 2) (v := ?_) rfl (by kernel_rfl) (by kernel_rfl) (by kernel_rfl) (fun _ _ _ h => h) (Or.inl ⟨by rfl, ?_⟩) (by assumption) ?_
      rotate_left
      · (intro w' hSw; (try dsimp only at hSw); go_simp; try with_reducible rfl)
      simp only [Act.put, List.getElem_toArray, List.getElem_cons_zero, List.getElem_cons_succ, List.setIfInBounds_toArray, List.set_cons_zero, List.set_cons_succ]
      refine wpAnyH_take (i := 4) (v := ?_) rfl (by kernel_rfl) (by kernel_rfl) (by kernel_rfl) (fun _ _ _ h => h) (Or.inl ⟨by rfl, ?_⟩) (by assumption) ?_
      rotate_left
      · (intro w' hSw; (try dsimp only at hSw); go_simp; try with_reducible rfl)
      simp only [Act.put, List.getElem_toArray, List.getElem_cons_zero, List.getElem_cons_succ, List.setIfInBounds_toArray, List.set_cons_zero, List.set_cons_succ]
      have t0 : Below Va.heap.size Va Va.drew := below_draws _ Va 1
      replace TB := Lib.hid (TB.out.trans (t0.mono TB.out.size))
      replace Ta13 := Lib.hid (Ta13.out.trans (t0.mono Ta13.out.size))
      generalize hX0 : Va.drew = X at TB Ta13 ⊢
      clear hX0 hHeld t0
      refine wpAnyH_ready (rs := [1, 10]) (by kernel_rfl) (by simp) ?_
      refine AllReadyH.cons rfl (fun K hK => ?_) (AllReadyH.cons rfl (fun K hK => ?_) AllReadyH.nil)
      · go_simp
        go_at_call 11
        refine (cRm _ TB.out).mono ?_
        rintro e X1 ⟨A5, c5, rfl, s5, hv⟩
        replace TB := Lib.hid (TB.out.trans (hv.mono TB.out.size))
        replace Ta13 := Lib.hid (Ta13.out.trans (hv.mono Ta13.out.size))
        refine hK.out _ _ (KT.out _ TB.out) (fun _ => ?_)
        clear hK K hv
        refine wpAnyH_ready (rs := [3, 10]) (by kernel_rfl) (by simp) ?_
        refine AllReadyH.cons rfl (fun K hK => ?_) (AllReadyH.cons rfl (fun K hK => ?_) AllReadyH.nil)
        · go_simp
          go_at_call 11
          refine (cRn _ TB.out).mono ?_
          rintro e X2 ⟨A6, c6, rfl, s6, hv⟩
          replace TB := Lib.hid (TB.out.trans (hv.mono TB.out.size))
          replace Ta13 := Lib.hid (Ta13.out.trans (hv.mono Ta13.out.size))
          replace s5 := s5.step hv
          refine hK.out _ _ (KT.out _ TB.out) (fun _ => ?_)
          clear hK K hv
          refine wpAnyH_ready (rs := [5, 10]) (by kernel_rfl) (by simp) ?_
          refine AllReadyH.cons rfl (fun K hK => ?_) (AllReadyH.cons rfl (fun K hK => ?_) AllReadyH.nil)
          · go_simp
            go_at_call 16
            refine (route_any t _).mono ?_
            rintro e X3 ⟨rfl, hv⟩
            replace TB := Lib.hid (TB.out.trans (hv.mono TB.out.size))
            replace Ta13 := Lib.hid (Ta13.out.trans (hv.mono Ta13.out.size))
            replace s5 := s5.step hv
            replace s6 := s6.step hv
            refine hK.out _ _ (KT.out _ TB.out) (fun _ => ?_)
            clear hK K hv
            refine wpAnyH_ready (rs := [6, 10]) (by kernel_rfl) (by simp) ?_
            refine AllReadyH.cons rfl (fun K hK => ?_) (AllReadyH.cons rfl (fun K hK => ?_) AllReadyH.nil)
            · go_simp
              go_at_call 24
              refine (rTh _ _ _ _ _ s5 s6).mono ?_
              rintro e X4 ⟨rfl, hv⟩
              replace TB := Lib.hid (TB.out.trans (hv.mono TB.out.size))
              replace Ta13 := Lib.hid (Ta13.out.trans (hv.mono Ta13.out.size))
              refine hK.out _ _ (KT.out _ TB.out) (fun _ => ?_)
              clear hK K hv
              refine wpAnyH_take (i := 7) (v := ?_) rfl (by kernel_rfl) (by kernel_rfl) (by kernel_rfl) (fun _ _ _ h => h) (Or.inl ⟨by rfl, ?_⟩) (by assumption) ?_
              rotate_left
              · (intro w' hSw; (try dsimp only at hSw); go_simp; try with_reducible rfl)
              simp only [Act.put, List.getElem_toArray, List.getElem_cons_zero, List.getElem_cons_succ, List.setIfInBounds_toArray, List.set_cons_zero, List.set_cons_succ]
              refine wpAnyH_take (i := 8) (v := ?_) rfl (by kernel_rfl) (by kernel_rfl) (by kernel_rfl) (fun _ _ _ h => h) (Or.inl ⟨by rfl, ?_⟩) (by assumption) ?_
              rotate_left
              · (intro w' hSw; (try dsimp only at hSw); go_simp; try with_reducible rfl)
              simp only [Act.put, List.getElem_toArray, List.getElem_cons_zero, List.getElem_cons_succ, List.setIfInBounds_toArray, List.set_cons_zero, List.set_cons_succ]
              refine wpAnyH_take (i := 9) (v := ?_) rfl (by kernel_rfl) (by kernel_rfl) (by kernel_rfl) (fun _ _ _ h => h) (Or.inl ⟨by rfl, ?_⟩) (by assumption) ?_
              rotate_left
              · (intro w' hSw; (try dsimp only at hSw); go_simp; try with_reducible rfl)
              simp only [Act.put, List.getElem_toArray, List.getElem_cons_zero, List.getElem_cons_succ, List.setIfInBounds_toArray, List.set_cons_zero, List.set_cons_succ]
              refine wpAnyH_ready (rs := [10]) (by kernel_rfl) (by simp) ?_
              refine AllReadyH.cons rfl (fun K hK => ?_) AllReadyH.nil
              go_simp
              obtain ⟨Y4, hY⟩ : ∃ V, X4.alloc (.cells #[Value.int .u32 0, Value.int .i64 0, Value.int .i64 0, Value.int .i64 0, Value.int .u32 0] 44) = V := ⟨_, rfl⟩
              have kz : Hid (Y4.heap[X4.heap.size]? = some (.cells #[Value.int .u32 0, Value.int .i64 0, Value.int .i64 0, Value.int .i64 0, Value.int .u32 0] 44)) := Lib.hid (by rw [← hY]; exact alloc_at _ _ _ rfl)
              have bb : Below X4.heap.size X4 Y4 := by rw [← hY]; exact below_alloc1 _ _
              have ga : Va.heap.size ≤ X4.heap.size := Ta13.out.size
              replace TB := Lib.hid (TB.out.trans (bb.mono TB.out.size))
              replace Ta13 := Lib.hid (Ta13.out.trans (bb.mono Ta13.out.size))
              obtain ⟨a, ha⟩ : ∃ v, X4.heap.size = v := ⟨_, rfl⟩
              rw [hY, ha]
              rw [ha] at kz ga
              refine hK.out _ _ (KT.out _ TB.out) (fun _ => ?_)
              clear hK K bb hY ha
              obtain ⟨z0, z1, z2, z3, z4, f0, f1, f2, f3, f4, hzl⟩ := tz_at kz.out
              have kr := tz_set kz.out (Value.int .u32 (r2.A : Int)) (Value.int .i64 r2.N) (Value.int .i64 r2.k) (Value.int .i64 r2.c) (Value.int .u32 (r2.t : Int))
              have TBs : Hid (Below W0.heap.size W0 (st5 Y4 a (Value.int .u32 (r2.A : Int)) (Value.int .i64 r2.N) (Value.int .i64 r2.k) (Value.int .i64 r2.c) (Value.int .u32 (r2.t : Int)))) := Lib.hid (below_st5 TB.out (by have := HBx.out.size; omega) _ _ _ _ _)
              have Tbs : Hid (Below Va.heap.size Va (st5 Y4 a (Value.int .u32 (r2.A : Int)) (Value.int .i64 r2.N) (Value.int .i64 r2.k) (Value.int .i64 r2.c) (Value.int .u32 (r2.t : Int)))) := Lib.hid (below_st5 Ta13.out ga _ _ _ _ _)
              refine wpAnyH_ready (rs := [11]) (by kernel_rfl) (by simp) ?_
              refine AllReadyH.cons rfl (fun K hK => ?_) AllReadyH.nil
              go_simp
              refine hK.out _ _ (KT.out _ TBs.out) (fun _ => ?_)
              clear hK K
              clear z0 z1 z2 z3 z4 f0 f1 f2 f3 f4 hzl
              refine wpAnyH_ready (rs := [12]) (by kernel_rfl) (by simp) ?_
              refine AllReadyH.cons rfl (fun K hK => ?_) AllReadyH.nil
              go_simp
              refine hK.out _ _ (KT.out _ TBs.out) (fun _ => ?_)
              clear hK K
              refine wpAnyH_done (by kernel_rfl) ?_ _
              go_wp2_with fail
              go_meet
              case rel => exact ⟨a, rfl, rfl, Tbs, Lib.hid kr⟩
            · go_simp
              obtain ⟨Y3, hY⟩ : ∃ V, X3.alloc (.cells #[Value.int .u32 0, Value.int .i64 0, Value.int .i64 0, Value.int .i64 0, Value.int .u32 0] 44) = V := ⟨_, rfl⟩
              have kz : Hid (Y3.heap[X3.heap.size]? = some (.cells #[Value.int .u32 0, Value.int .i64 0, Value.int .i64 0, Value.int .i64 0, Value.int .u32 0] 44)) := Lib.hid (by rw [← hY]; exact alloc_at _ _ _ rfl)
              have bb : Below X3.heap.size X3 Y3 := by rw [← hY]; exact below_alloc1 _ _
              have ga : Va.heap.size ≤ X3.heap.size := Ta13.out.size
              replace TB := Lib.hid (TB.out.trans (bb.mono TB.out.size))
              replace Ta13 := Lib.hid (Ta13.out.trans (bb.mono Ta13.out.size))
              replace s5 := s5.step bb
              replace s6 := s6.step bb
              obtain ⟨a, ha⟩ : ∃ v, X3.heap.size = v := ⟨_, rfl⟩
              rw [hY, ha]
              rw [ha] at kz ga
              refine hK.out _ _ (KT.out _ TB.out) (fun _ => ?_)
              clear hK K bb hY ha
              refine wpAnyH_ready (rs := [6]) (by kernel_rfl) (by simp) ?_
              refine AllReadyH.cons rfl (fun K hK => ?_) AllReadyH.nil
              go_simp
              go_at_call 24
              refine (rTh _ _ _ _ _ s5 s6).mono ?_
              rintro e X4a ⟨rfl, hv⟩
              replace TB := Lib.hid (TB.out.trans (hv.mono TB.out.size))
              replace Ta13 := Lib.hid (Ta13.out.trans (hv.mono Ta13.out.size))
              replace kz := Lib.hid ((hv.block a (lt_of_block kz.out)).trans kz.out)
              refine hK.out _ _ (KT.out _ TB.out) (fun _ => ?_)
              clear hK K hv
              refine wpAnyH_take (i := 7) (v := ?_) rfl (by kernel_rfl) (by kernel_rfl) (by kernel_rfl) (fun _ _ _ h => h) (Or.inl ⟨by rfl, ?_⟩) (by assumption) ?_
              rotate_left
              · (intro w' hSw; (try dsimp only at hSw); go_simp; try with_reducible rfl)
              simp only [Act.put, List.getElem_toArray, List.getElem_cons_zero, List.getElem_cons_succ, List.setIfInBounds_toArray, List.set_cons_zero, List.set_cons_succ]
              refine wpAnyH_take (i := 8) (v := ?_) rfl (by kernel_rfl) (by kernel_rfl) (by kernel_rfl) (fun _ _ _ h => h) (Or.inl ⟨by rfl, ?_⟩) (by assumption) ?_
              rotate_left
              · (intro w' hSw; (try dsimp only at hSw); go_simp; try with_reducible rfl)
              simp only [Act.put, List.getElem_toArray, List.getElem_cons_zero, List.getElem_cons_succ, List.setIfInBounds_toArray, List.set_cons_zero, List.set_cons_succ]
              refine wpAnyH_take (i := 9) (v := ?_) rfl (by kernel_rfl) (by kernel_rfl) (by kernel_rfl) (fun _ _ _ h => h) (Or.inl ⟨by rfl, ?_⟩) (by assumption) ?_
              rotate_left
              · (intro w' hSw; (try dsimp only at hSw); go_simp; try with_reducible rfl)
              simp only [Act.put, List.getElem_toArray, List.getElem_cons_zero, List.getElem_cons_succ, List.setIfInBounds_toArray, List.set_cons_zero, List.set_cons_succ]
              obtain ⟨z0, z1, z2, z3, z4, f0, f1, f2, f3, f4, hzl⟩ := tz_at kz.out
              have kr := tz_set kz.out (Value.int .u32 (r2.A : Int)) (Value.int .i64 r2.N) (Value.int .i64 r2.k) (Value.int .i64 r2.c) (Value.int .u32 (r2.t : Int))
              have TBs : Hid (Below W0.heap.size W0 (st5 X4a a (Value.int .u32 (r2.A : Int)) (Value.int .i64 r2.N) (Value.int .i64 r2.k) (Value.int .i64 r2.c) (Value.int .u32 (r2.t : Int)))) := Lib.hid (below_st5 TB.out (by have := HBx.out.size; omega) _ _ _ _ _)
              have Tbs : Hid (Below Va.heap.size Va (st5 X4a a (Value.int .u32 (r2.A : Int)) (Value.int .i64 r2.N) (Value.int .i64 r2.k) (Value.int .i64 r2.c) (Value.int .u32 (r2.t : Int)))) := Lib.hid (below_st5 Ta13.out ga _ _ _ _ _)
              refine wpAnyH_ready (rs := [11]) (by kernel_rfl) (by simp) ?_
              refine AllReadyH.cons rfl (fun K hK => ?_) AllReadyH.nil
              go_simp
              refine hK.out _ _ (KT.out _ TBs.out) (fun _ => ?_)
              clear hK K
              clear z0 z1 z2 z3 z4 f0 f1 f2 f3 f4 hzl
              refine wpAnyH_ready (rs := [12]) (by kernel_rfl) (by simp) ?_
              refine AllReadyH.cons rfl (fun K hK => ?_) AllReadyH.nil
              go_simp
              refine hK.out _ _ (KT.out _ TBs.out) (fun _ => ?_)
              clear hK K
              refine wpAnyH_done (by kernel_rfl) ?_ _
              go_wp2_with fail
              go_meet
              case rel => exact ⟨a, rfl, rfl, Tbs, Lib.hid kr⟩
          · go_simp
            obtain ⟨Y2, hY⟩ : ∃ V, X2.alloc (.cells #[Value.int .u32 0, Value.int .i64 0, Value.int .i64 0, Value.int .i64 0, Value.int .u32 0] 44) = V := ⟨_, rfl⟩
            have kz : Hid (Y2.heap[X2.heap.size]? = some (.cells #[Value.int .u32 0, Value.int .i64 0, Value.int .i64 0, Value.int .i64 0, Value.int .u32 0] 44)) := Lib.hid (by rw [← hY]; exact alloc_at _ _ _ rfl)
            have bb : Below X2.heap.size X2 Y2 := by rw [← hY]; exact below_alloc1 _ _
            have ga : Va.heap.size ≤ X2.heap.size := Ta13.out.size
            replace TB := Lib.hid (TB.out.trans (bb.mono TB.out.size))
            replace Ta13 := Lib.hid (Ta13.out.trans (bb.mono Ta13.out.size))
            replace s5 := s5.step bb
            replace s6 := s6.step bb
            obtain ⟨a, ha⟩ : ∃ v, X2.heap.size = v := ⟨_, rfl⟩
            rw [hY, ha]
            rw [ha] at kz ga
            refine hK.out _ _ (KT.out _ TB.out) (fun _ => ?_)
            clear hK K bb hY ha
            refine wpAnyH_ready (rs := [5]) (by kernel_rfl) (by simp) ?_
            refine AllReadyH.cons rfl (fun K hK => ?_) AllReadyH.nil
            go_simp
            go_at_call 16
            refine (route_any t _).mono ?_
            rintro e X3a ⟨rfl, hv⟩
            replace TB := Lib.hid (TB.out.trans (hv.mono TB.out.size))
            replace Ta13 := Lib.hid (Ta13.out.trans (hv.mono Ta13.out.size))
            replace kz := Lib.hid ((hv.block a (lt_of_block kz.out)).trans kz.out)
            replace s5 := s5.step hv
            replace s6 := s6.step hv
            refine hK.out _ _ (KT.out _ TB.out) (fun _ => ?_)
            clear hK K hv
            refine wpAnyH_ready (rs := [6]) (by kernel_rfl) (by simp) ?_
            refine AllReadyH.cons rfl (fun K hK => ?_) AllReadyH.nil
            go_simp
            go_at_call 24
            refine (rTh _ _ _ _ _ s5 s6).mono ?_
            rintro e X4a ⟨rfl, hv⟩
            replace TB := Lib.hid (TB.out.trans (hv.mono TB.out.size))
            replace Ta13 := Lib.hid (Ta13.out.trans (hv.mono Ta13.out.size))
            replace kz := Lib.hid ((hv.block a (lt_of_block kz.out)).trans kz.out)
            refine hK.out _ _ (KT.out _ TB.out) (fun _ => ?_)
            clear hK K hv
            refine wpAnyH_take (i := 7) (v := ?_) rfl (by kernel_rfl) (by kernel_rfl) (by kernel_rfl) (fun _ _ _ h => h) (Or.inl ⟨by rfl, ?_⟩) (by assumption) ?_
            rotate_left
            · (intro w' hSw; (try dsimp only at hSw); go_simp; try with_reducible rfl)
            simp only [Act.put, List.getElem_toArray, List.getElem_cons_zero, List.getElem_cons_succ, List.setIfInBounds_toArray, List.set_cons_zero, List.set_cons_succ]
            refine wpAnyH_take (i := 8) (v := ?_) rfl (by kernel_rfl) (by kernel_rfl) (by kernel_rfl) (fun _ _ _ h => h) (Or.inl ⟨by rfl, ?_⟩) (by assumption) ?_
            rotate_left
            · (intro w' hSw; (try dsimp only at hSw); go_simp; try with_reducible rfl)
            simp only [Act.put, List.getElem_toArray, List.getElem_cons_zero, List.getElem_cons_succ, List.setIfInBounds_toArray, List.set_cons_zero, List.set_cons_succ]
            refine wpAnyH_take (i := 9) (v := ?_) rfl (by kernel_rfl) (by kernel_rfl) (by kernel_rfl) (fun _ _ _ h => h) (Or.inl ⟨by rfl, ?_⟩) (by assumption) ?_
            rotate_left
            · (intro w' hSw; (try dsimp only at hSw); go_simp; try with_reducible rfl)
            simp only [Act.put, List.getElem_toArray, List.getElem_cons_zero, List.getElem_cons_succ, List.setIfInBounds_toArray, List.set_cons_zero, List.set_cons_succ]
            obtain ⟨z0, z1, z2, z3, z4, f0, f1, f2, f3, f4, hzl⟩ := tz_at kz.out
            have kr := tz_set kz.out (Value.int .u32 (r2.A : Int)) (Value.int .i64 r2.N) (Value.int .i64 r2.k) (Value.int .i64 r2.c) (Value.int .u32 (r2.t : Int))
            have TBs : Hid (Below W0.heap.size W0 (st5 X4a a (Value.int .u32 (r2.A : Int)) (Value.int .i64 r2.N) (Value.int .i64 r2.k) (Value.int .i64 r2.c) (Value.int .u32 (r2.t : Int)))) := Lib.hid (below_st5 TB.out (by have := HBx.out.size; omega) _ _ _ _ _)
            have Tbs : Hid (Below Va.heap.size Va (st5 X4a a (Value.int .u32 (r2.A : Int)) (Value.int .i64 r2.N) (Value.int .i64 r2.k) (Value.int .i64 r2.c) (Value.int .u32 (r2.t : Int)))) := Lib.hid (below_st5 Ta13.out ga _ _ _ _ _)
            refine wpAnyH_ready (rs := [11]) (by kernel_rfl) (by simp) ?_
            refine AllReadyH.cons rfl (fun K hK => ?_) AllReadyH.nil
            go_simp
            refine hK.out _ _ (KT.out _ TBs.out) (fun _ => ?_)
            clear hK K
            clear z0 z1 z2 z3 z4 f0 f1 f2 f3 f4 hzl
            refine wpAnyH_ready (rs := [12]) (by kernel_rfl) (by simp) ?_
            refine AllReadyH.cons rfl (fun K hK => ?_) AllReadyH.nil
            go_simp
            refine hK.out _ _ (KT.out _ TBs.out) (fun _ => ?_)
            clear hK K
            refine wpAnyH_done (by kernel_rfl) ?_ _
            go_wp2_with fail
            go_meet
            case rel => exact ⟨a, rfl, rfl, Tbs, Lib.hid kr⟩
        · go_simp
          obtain ⟨Y1, hY⟩ : ∃ V, X1.alloc (.cells #[Value.int .u32 0, Value.int .i64 0, Value.int .i64 0, Value.int .i64 0, Value.int .u32 0] 44) = V := ⟨_, rfl⟩
          have kz : Hid (Y1.heap[X1.heap.size]? = some (.cells #[Value.int .u32 0, Value.int .i64 0, Value.int .i64 0, Value.int .i64 0, Value.int .u32 0] 44)) := Lib.hid (by rw [← hY]; exact alloc_at _ _ _ rfl)
          have bb : Below X1.heap.size X1 Y1 := by rw [← hY]; exact below_alloc1 _ _
          have ga : Va.heap.size ≤ X1.heap.size := Ta13.out.size
          replace TB := Lib.hid (TB.out.trans (bb.mono TB.out.size))
          replace Ta13 := Lib.hid (Ta13.out.trans (bb.mono Ta13.out.size))
          replace s5 := s5.step bb
          obtain ⟨a, ha⟩ : ∃ v, X1.heap.size = v := ⟨_, rfl⟩
          rw [hY, ha]
          rw [ha] at kz ga
          refine hK.out _ _ (KT.out _ TB.out) (fun _ => ?_)
          clear hK K bb hY ha
          refine wpAnyH_ready (rs := [3]) (by kernel_rfl) (by simp) ?_
          refine AllReadyH.cons rfl (fun K hK => ?_) AllReadyH.nil
          go_simp
          go_at_call 11
          refine (cRn _ TB.out).mono ?_
          rintro e X2a ⟨A6, c6, rfl, s6, hv⟩
          replace TB := Lib.hid (TB.out.trans (hv.mono TB.out.size))
          replace Ta13 := Lib.hid (Ta13.out.trans (hv.mono Ta13.out.size))
          replace kz := Lib.hid ((hv.block a (lt_of_block kz.out)).trans kz.out)
          replace s5 := s5.step hv
          refine hK.out _ _ (KT.out _ TB.out) (fun _ => ?_)
          clear hK K hv
          refine wpAnyH_ready (rs := [5]) (by kernel_rfl) (by simp) ?_
          refine AllReadyH.cons rfl (fun K hK => ?_) AllReadyH.nil
          go_simp
          go_at_call 16
          refine (route_any t _).mono ?_
          rintro e X3a ⟨rfl, hv⟩
          replace TB := Lib.hid (TB.out.trans (hv.mono TB.out.size))
          replace Ta13 := Lib.hid (Ta13.out.trans (hv.mono Ta13.out.size))
          replace kz := Lib.hid ((hv.block a (lt_of_block kz.out)).trans kz.out)
          replace s5 := s5.step hv
          replace s6 := s6.step hv
          refine hK.out _ _ (KT.out _ TB.out) (fun _ => ?_)
          clear hK K hv
          refine wpAnyH_ready (rs := [6]) (by kernel_rfl) (by simp) ?_
          refine AllReadyH.cons rfl (fun K hK => ?_) AllReadyH.nil
          go_simp
          go_at_call 24
          refine (rTh _ _ _ _ _ s5 s6).mono ?_
          rintro e X4a ⟨rfl, hv⟩
          replace TB := Lib.hid (TB.out.trans (hv.mono TB.out.size))
          replace Ta13 := Lib.hid (Ta13.out.trans (hv.mono Ta13.out.size))
          replace kz := Lib.hid ((hv.block a (lt_of_block kz.out)).trans kz.out)
          refine hK.out _ _ (KT.out _ TB.out) (fun _ => ?_)
          clear hK K hv
          refine wpAnyH_take (i := 7) (v := ?_) rfl (by kernel_rfl) (by kernel_rfl) (by kernel_rfl) (fun _ _ _ h => h) (Or.inl ⟨by rfl, ?_⟩) (by assumption) ?_
          rotate_left
          · (intro w' hSw; (try dsimp only at hSw); go_simp; try with_reducible rfl)
          simp only [Act.put, List.getElem_toArray, List.getElem_cons_zero, List.getElem_cons_succ, List.setIfInBounds_toArray, List.set_cons_zero, List.set_cons_succ]
          refine wpAnyH_take (i := 8) (v := ?_) rfl (by kernel_rfl) (by kernel_rfl) (by kernel_rfl) (fun _ _ _ h => h) (Or.inl ⟨by rfl, ?_⟩) (by assumption) ?_
          rotate_left
          · (intro w' hSw; (try dsimp only at hSw); go_simp; try with_reducible rfl)
          simp only [Act.put, List.getElem_toArray, List.getElem_cons_zero, List.getElem_cons_succ, List.setIfInBounds_toArray, List.set_cons_zero, List.set_cons_succ]
          refine wpAnyH_take (i := 9) (v := ?_) rfl (by kernel_rfl) (by kernel_rfl) (by kernel_rfl) (fun _ _ _ h => h) (Or.inl ⟨by rfl, ?_⟩) (by assumption) ?_
          rotate_left
          · (intro w' hSw; (try dsimp only at hSw); go_simp; try with_reducible rfl)
          simp only [Act.put, List.getElem_toArray, List.getElem_cons_zero, List.getElem_cons_succ, List.setIfInBounds_toArray, List.set_cons_zero, List.set_cons_succ]
          obtain ⟨z0, z1, z2, z3, z4, f0, f1, f2, f3, f4, hzl⟩ := tz_at kz.out
          have kr := tz_set kz.out (Value.int .u32 (r2.A : Int)) (Value.int .i64 r2.N) (Value.int .i64 r2.k) (Value.int .i64 r2.c) (Value.int .u32 (r2.t : Int))
          have TBs : Hid (Below W0.heap.size W0 (st5 X4a a (Value.int .u32 (r2.A : Int)) (Value.int .i64 r2.N) (Value.int .i64 r2.k) (Value.int .i64 r2.c) (Value.int .u32 (r2.t : Int)))) := Lib.hid (below_st5 TB.out (by have := HBx.out.size; omega) _ _ _ _ _)
          have Tbs : Hid (Below Va.heap.size Va (st5 X4a a (Value.int .u32 (r2.A : Int)) (Value.int .i64 r2.N) (Value.int .i64 r2.k) (Value.int .i64 r2.c) (Value.int .u32 (r2.t : Int)))) := Lib.hid (below_st5 Ta13.out ga _ _ _ _ _)
          refine wpAnyH_ready (rs := [11]) (by kernel_rfl) (by simp) ?_
          refine AllReadyH.cons rfl (fun K hK => ?_) AllReadyH.nil
          go_simp
          refine hK.out _ _ (KT.out _ TBs.out) (fun _ => ?_)
          clear hK K
          clear z0 z1 z2 z3 z4 f0 f1 f2 f3 f4 hzl
          refine wpAnyH_ready (rs := [12]) (by kernel_rfl) (by simp) ?_
          refine AllReadyH.cons rfl (fun K hK => ?_) AllReadyH.nil
          go_simp
          refine hK.out _ _ (KT.out _ TBs.out) (fun _ => ?_)
          clear hK K
          refine wpAnyH_done (by kernel_rfl) ?_ _
          go_wp2_with fail
          go_meet
          case rel => exact ⟨a, rfl, rfl, Tbs, Lib.hid kr⟩
      · go_simp
        obtain ⟨Y0, hY⟩ : ∃ V, X.alloc (.cells #[Value.int .u32 0, Value.int .i64 0, Value.int .i64 0, Value.int .i64 0, Value.int .u32 0] 44) = V := ⟨_, rfl⟩
        have kz : Hid (Y0.heap[X.heap.size]? = some (.cells #[Value.int .u32 0, Value.int .i64 0, Value.int .i64 0, Value.int .i64 0, Value.int .u32 0] 44)) := Lib.hid (by rw [← hY]; exact alloc_at _ _ _ rfl)
        have bb : Below X.heap.size X Y0 := by rw [← hY]; exact below_alloc1 _ _
        have ga : Va.heap.size ≤ X.heap.size := Ta13.out.size
        replace TB := Lib.hid (TB.out.trans (bb.mono TB.out.size))
        replace Ta13 := Lib.hid (Ta13.out.trans (bb.mono Ta13.out.size))
        obtain ⟨a, ha⟩ : ∃ v, X.heap.size = v := ⟨_, rfl⟩
        rw [hY, ha]
        rw [ha] at kz ga
        refine hK.out _ _ (KT.out _ TB.out) (fun _ => ?_)
        clear hK K bb hY ha
        refine wpAnyH_ready (rs := [1]) (by kernel_rfl) (by simp) ?_
        refine AllReadyH.cons rfl (fun K hK => ?_) AllReadyH.nil
        go_simp
        go_at_call 11
        refine (cRm _ TB.out).mono ?_
        rintro e X1a ⟨A5, c5, rfl, s5, hv⟩
        replace TB := Lib.hid (TB.out.trans (hv.mono TB.out.size))
        replace Ta13 := Lib.hid (Ta13.out.trans (hv.mono Ta13.out.size))
        replace kz := Lib.hid ((hv.block a (lt_of_block kz.out)).trans kz.out)
        refine hK.out _ _ (KT.out _ TB.out) (fun _ => ?_)
        clear hK K hv
        refine wpAnyH_ready (rs := [3]) (by kernel_rfl) (by simp) ?_
        refine AllReadyH.cons rfl (fun K hK => ?_) AllReadyH.nil
        go_simp
        go_at_call 11
        refine (cRn _ TB.out).mono ?_
        rintro e X2a ⟨A6, c6, rfl, s6, hv⟩
        replace TB := Lib.hid (TB.out.trans (hv.mono TB.out.size))
        replace Ta13 := Lib.hid (Ta13.out.trans (hv.mono Ta13.out.size))
        replace kz := Lib.hid ((hv.block a (lt_of_block kz.out)).trans kz.out)
        replace s5 := s5.step hv
        refine hK.out _ _ (KT.out _ TB.out) (fun _ => ?_)
        clear hK K hv
        refine wpAnyH_ready (rs := [5]) (by kernel_rfl) (by simp) ?_
        refine AllReadyH.cons rfl (fun K hK => ?_) AllReadyH.nil
        go_simp
        go_at_call 16
        refine (route_any t _).mono ?_
        rintro e X3a ⟨rfl, hv⟩
        replace TB := Lib.hid (TB.out.trans (hv.mono TB.out.size))
        replace Ta13 := Lib.hid (Ta13.out.trans (hv.mono Ta13.out.size))
        replace kz := Lib.hid ((hv.block a (lt_of_block kz.out)).trans kz.out)
        replace s5 := s5.step hv
        replace s6 := s6.step hv
        refine hK.out _ _ (KT.out _ TB.out) (fun _ => ?_)
        clear hK K hv
        refine wpAnyH_ready (rs := [6]) (by kernel_rfl) (by simp) ?_
        refine AllReadyH.cons rfl (fun K hK => ?_) AllReadyH.nil
        go_simp
        go_at_call 24
        refine (rTh _ _ _ _ _ s5 s6).mono ?_
        rintro e X4a ⟨rfl, hv⟩
        replace TB := Lib.hid (TB.out.trans (hv.mono TB.out.size))
        replace Ta13 := Lib.hid (Ta13.out.trans (hv.mono Ta13.out.size))
        replace kz := Lib.hid ((hv.block a (lt_of_block kz.out)).trans kz.out)
        refine hK.out _ _ (KT.out _ TB.out) (fun _ => ?_)
        clear hK K hv
        refine wpAnyH_take (i := 7) (v := ?_) rfl (by kernel_rfl) (by kernel_rfl) (by kernel_rfl) (fun _ _ _ h => h) (Or.inl ⟨by rfl, ?_⟩) (by assumption) ?_
        rotate_left
        · (intro w' hSw; (try dsimp only at hSw); go_simp; try with_reducible rfl)
        simp only [Act.put, List.getElem_toArray, List.getElem_cons_zero, List.getElem_cons_succ, List.setIfInBounds_toArray, List.set_cons_zero, List.set_cons_succ]
        refine wpAnyH_take (i := 8) (v := ?_) rfl (by kernel_rfl) (by kernel_rfl) (by kernel_rfl) (fun _ _ _ h => h) (Or.inl ⟨by rfl, ?_⟩) (by assumption) ?_
        rotate_left
        · (intro w' hSw; (try dsimp only at hSw); go_simp; try with_reducible rfl)
        simp only [Act.put, List.getElem_toArray, List.getElem_cons_zero, List.getElem_cons_succ, List.setIfInBounds_toArray, List.set_cons_zero, List.set_cons_succ]
        refine wpAnyH_take (i := 9) (v := ?_) rfl (by kernel_rfl) (by kernel_rfl) (by kernel_rfl) (fun _ _ _ h => h) (Or.inl ⟨by rfl, ?_⟩) (by assumption) ?_
        rotate_left
        · (intro w' hSw; (try dsimp only at hSw); go_simp; try with_reducible rfl)
        simp only [Act.put, List.getElem_toArray, List.getElem_cons_zero, List.getElem_cons_succ, List.setIfInBounds_toArray, List.set_cons_zero, List.set_cons_succ]
        obtain ⟨z0, z1, z2, z3, z4, f0, f1, f2, f3, f4, hzl⟩ := tz_at kz.out
        have kr := tz_set kz.out (Value.int .u32 (r2.A : Int)) (Value.int .i64 r2.N) (Value.int .i64 r2.k) (Value.int .i64 r2.c) (Value.int .u32 (r2.t : Int))
        have TBs : Hid (Below W0.heap.size W0 (st5 X4a a (Value.int .u32 (r2.A : Int)) (Value.int .i64 r2.N) (Value.int .i64 r2.k) (Value.int .i64 r2.c) (Value.int .u32 (r2.t : Int)))) := Lib.hid (below_st5 TB.out (by have := HBx.out.size; omega) _ _ _ _ _)
        have Tbs : Hid (Below Va.heap.size Va (st5 X4a a (Value.int .u32 (r2.A : Int)) (Value.int .i64 r2.N) (Value.int .i64 r2.k) (Value.int .i64 r2.c) (Value.int .u32 (r2.t : Int)))) := Lib.hid (below_st5 Ta13.out ga _ _ _ _ _)
        refine wpAnyH_ready (rs := [11]) (by kernel_rfl) (by simp) ?_
        refine AllReadyH.cons rfl (fun K hK => ?_) AllReadyH.nil
        go_simp
        refine hK.out _ _ (KT.out _ TBs.out) (fun _ => ?_)
        clear hK K
        clear z0 z1 z2 z3 z4 f0 f1 f2 f3 f4 hzl
        refine wpAnyH_ready (rs := [12]) (by kernel_rfl) (by simp) ?_
        refine AllReadyH.cons rfl (fun K hK => ?_) AllReadyH.nil
        go_simp
        refine hK.out _ _ (KT.out _ TBs.out) (fun _ => ?_)
        clear hK K
        refine wpAnyH_done (by kernel_rfl) ?_ _
        go_wp2_with fail
        go_meet
        case rel => exact ⟨a, rfl, rfl, Tbs, Lib.hid kr⟩
    case rest =>
      obtain ⟨a15, rfl, rfl, tbc, kr⟩ := hcut
      have HBY := Lib.hid (HB0.out.trans ((TB.out.trans (tbc.out.mono TB.out.size)).mono HB0.out.size))
      obtain ⟨d0, d1, d2, d3, d4⟩ := Ka7.out _ tbc.out
      obtain ⟨g0, g1, g2, g3, g4, -⟩ := tz_at (Kr.out _ tbc.out)
      obtain ⟨h0, h1, h2, h3, h4⟩ := Ka13.out _ tbc.out
      obtain ⟨m0, m1, m2, m3, m4, -⟩ := tz_at kr.out
      clear KT Ka7 Kr Ka13 kr tbc TB HBx HBw HBv Ta13 HB0 cRm cRn rTh HMm HMn
      have cA := fun V => alive_any V
      have cB := fun V => route_any r V
      have cC := fun V => route_any r2 V
      obtain ⟨rA, rN, rk, rc', rt⟩ := r
      obtain ⟨sA, sN, sk', sc', stt⟩ := r2
      simp only at d0 d1 d2 d3 d4 g0 g1 g2 g3 g4 h0 h1 h2 h3 h4 m0 m1 m2 m3 m4
      go_wp2_with fail
      refine wp_region_quiet_below (by kernel_rfl) (by kernel_rfl) ?_
      have gg0 := cell_regrown d0
      have gg1 := cell_regrown d1
      have gg2 := cell_regrown d2
      have gg3 := cell_regrown d3
      have gg4 := cell_regrown d4
      have gg5 := cell_regrown g0
      have gg6 := cell_regrown g1
      have gg7 := cell_regrown g2
      have gg8 := cell_regrown g3
      have gg9 := cell_regrown g4
      have gg10 := cell_regrown h0
      have gg11 := cell_regrown h1
      have gg12 := cell_regrown h2
      have gg13 := cell_regrown h3
      have gg14 := cell_regrown h4
      have gg15 := cell_regrown m0
      have gg16 := cell_regrown m1
      have gg17 := cell_regrown m2
      have gg18 := cell_regrown m3
      have gg19 := cell_regrown m4
      have zz0 : ∀ d os, _ := fun d os => Calls.regrown_of (w := wc) (d := d) (os := os) (cA _)
      have zz1 : ∀ d os, _ := fun d os => Calls.regrown_of (w := wc) (d := d) (os := os) (cB _)
      have zz2 : ∀ d os, _ := fun d os => Calls.regrown_of (w := wc) (d := d) (os := os) (cC _)
      repeat (first | go_big_quiet_step (with_reducible exact zz0 _ _) | go_big_quiet_step (with_reducible exact zz1 _ _) | go_big_quiet_step (with_reducible exact zz2 _ _) | go_big_quiet_step (fail) | go_big_quiet_skip)
      refine wpQuiet_nil ?_
      intro W9 hw'
      obtain ⟨⟨dq, osq⟩, hw''⟩ := hw'
      have hbz := below_regrown wc dq osq
      rw [← hw''] at hbz
      clear hw'' gg0 gg1 gg2 gg3 gg4 gg5 gg6 gg7 gg8 gg9 gg10 gg11 gg12 gg13 gg14 gg15 gg16 gg17 gg18 gg19 zz0 zz1 zz2
      go_wp2
      go_ret
      exact ⟨rfl, HBY.out.trans (hbz.mono HBY.out.size)⟩
end Go.Proofs.Ytmcjpibahnlmbaa
