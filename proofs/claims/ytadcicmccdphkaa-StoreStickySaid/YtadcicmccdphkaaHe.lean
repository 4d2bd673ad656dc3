/-
  The contract of lsa's Head. No statement is proved here; no conditions.
-/
import Derived.Test.YtadcicmccdphkaaLs
namespace Go.Proofs.Ytadcicmccdphkaa
open Go.RowKit Go.Joins

set_option maxRecDepth 100000 in
set_option maxHeartbeats 4000000 in
theorem head_any (h : Hd) (w : World) (ok : Okd h) :
    Calls Try.prog 53 #[.agg #[.int .i64 h.a, .int .i64 h.o, .int .i64 h.t, .int .u32 h.i, .int .u32 h.v, .int .u32 h.q, .int .i64 h.s, .int .i64 h.n]] w fun e w' => ∃ A' c', e = .returned (.tuple #[.slice A' (encH h).length c', .int .i64 (encE h)]) ∧ Own .u8 5 w' w.heap.size A' c' (encH h) ∧ Below w.heap.size w w' := by
  obtain ⟨W0, hW0⟩ : ∃ V, w.alloc (.cells #[.int .i64 h.a, .int .i64 h.o, .int .i64 h.t, .int .u32 h.i, .int .u32 h.v, .int .u32 h.q, .int .i64 h.s, .int .i64 h.n] 31) = V := ⟨_, rfl⟩
  have bW0 : Below w.heap.size w W0 := by rw [← hW0]; exact below_alloc1 _ _
  have sW0 : W0.heap.size = w.heap.size + 1 := by rw [← hW0]; simp
  have KX : Hid (∀ V, Below W0.heap.size W0 V → V.cell? ⟨w.heap.size, 0, none⟩ = some (.int .i64 h.a) ∧ V.cell? ⟨w.heap.size, 1, none⟩ = some (.int .i64 h.o) ∧ V.cell? ⟨w.heap.size, 2, none⟩ = some (.int .i64 h.t) ∧ V.cell? ⟨w.heap.size, 3, none⟩ = some (.int .u32 h.i) ∧ V.cell? ⟨w.heap.size, 4, none⟩ = some (.int .u32 h.v) ∧ V.cell? ⟨w.heap.size, 5, none⟩ = some (.int .u32 h.q) ∧ V.cell? ⟨w.heap.size, 6, none⟩ = some (.int .i64 h.s) ∧ V.cell? ⟨w.heap.size, 7, none⟩ = some (.int .i64 h.n)) := Lib.hid (fun V hV => kb8_new hW0 hV)
  have HB : Hid (Below w.heap.size w W0) := Lib.hid bW0
  clear bW0
  obtain ⟨k0, k1, k2, k3, k4, k5, k6, k7⟩ := KX.out _ (Below.refl _ _)
  by_cases hm : mayd h = true
  case neg =>
    have e1 : encE h = 1 := by simp [encE, hm]
    have e2 : encH h = [] := by simp [encH, hm]
    rw [e1, e2]
    have hm2 : mayd h = false := by simpa using hm
    clear e1 e2 hm
    go_enter Try.func53, Try.ntmps53
    go_wp2_with fail
    refine (may_any _ _).mono ?_
    rintro e X0 ⟨rfl, t0⟩
    rw [hm2]
    go_wp2
    go_ret2
    exact ⟨none, 0, rfl, Own.nil _ _, HB.out.trans (t0.mono HB.out.size)⟩
  have e1 : encE h = 0 := by simp [encE, hm]
  have e2 : encH h = ehd h := by simp [encH, hm]
  rw [e1, e2, ehd_length]
  obtain ⟨⟨ha0, ha1⟩, ⟨ho0, ho1⟩, ⟨ht0, ht1⟩, -, ⟨hs0, hs1⟩, ⟨hn0, hn1⟩⟩ := (mayd_iff h).1 hm
  obtain ⟨hi0, hi1⟩ := ok.i
  obtain ⟨hv0, hv1⟩ := ok.v
  obtain ⟨hq0, hq1⟩ := ok.q
  have HM := Lib.hid hm
  have HL : Hid (ehd h = be h.a 2 ++ (be h.o 1 ++ (be h.t 1 ++ (be h.i 4 ++ (be h.v 4 ++ (be h.q 4 ++ (be h.s 2 ++ be h.n 2))))))) := Lib.hid rfl
  clear e1 e2 hm ok
  go_enter Try.func53, Try.ntmps53
  go_wp2_with fail
  refine (may_any _ _).mono ?_
  rintro e X0 ⟨rfl, t0⟩
  rw [HM.out]
  clear k0 k1 k2 k3 k4 k5 k6 k7
  go_wp2_with fail
  refine wp_region_held_drew (S := fun V => V.cell? ⟨w.heap.size, 0, none⟩ = some (.int .i64 h.a) ∧ V.cell? ⟨w.heap.size, 1, none⟩ = some (.int .i64 h.o) ∧ V.cell? ⟨w.heap.size, 2, none⟩ = some (.int .i64 h.t) ∧ V.cell? ⟨w.heap.size, 3, none⟩ = some (.int .u32 h.i) ∧ V.cell? ⟨w.heap.size, 4, none⟩ = some (.int .u32 h.v) ∧ V.cell? ⟨w.heap.size, 5, none⟩ = some (.int .u32 h.q) ∧ V.cell? ⟨w.heap.size, 6, none⟩ = some (.int .i64 h.s) ∧ V.cell? ⟨w.heap.size, 7, none⟩ = some (.int .i64 h.n)) (by kernel_rfl) (KX.out _ t0.drew) (fun hHeld => ?_)
  replace t0 : Below W0.heap.size W0 X0.drew := t0.drew
  generalize hX0 : X0.drew = Y0 at t0 hHeld ⊢
  clear hX0
  refine wpAnyH_take (i := 0) (v := ?_) rfl (by kernel_rfl) (by kernel_rfl) (by kernel_rfl) (fun _ _ _ h => h) (Or.inl ⟨by rfl, ?_⟩) (by assumption) ?_
  rotate_left
  · (intro w' hSw; (try dsimp only at hSw); go_simp; try with_reducible rfl)
  simp only [Act.put, List.getElem_toArray, List.getElem_cons_zero, List.setIfInBounds_toArray, List.set_cons_zero, List.set_cons_succ]
  refine wpAnyH_take (i := 1) (v := ?_) rfl (by kernel_rfl) (by kernel_rfl) (by kernel_rfl) (fun _ _ _ h => h) (Or.inl ⟨by rfl, ?_⟩) (by assumption) ?_
  rotate_left
  · (intro w' hSw; (try dsimp only at hSw); go_simp; try with_reducible rfl)
  simp only [Act.put, List.getElem_toArray, List.getElem_cons_zero, List.getElem_cons_succ, List.setIfInBounds_toArray, List.set_cons_zero, List.set_cons_succ]
  refine wpAnyH_take (i := 2) (v := .int .u32 h.a) rfl (by kernel_rfl) (by kernel_rfl) (by kernel_rfl) (fun _ _ _ h => h) (Or.inl ⟨by rfl, ?_⟩) (by assumption) ?_
  · (intro w' hSw; (try dsimp only at hSw); go_simp; rw [wrap_u32 (by omega) (by omega)])
  simp only [Act.put, List.getElem_toArray, List.getElem_cons_zero, List.getElem_cons_succ, List.setIfInBounds_toArray, List.set_cons_zero, List.set_cons_succ]
  refine wpAnyH_take (i := 4) (v := ?_) rfl (by kernel_rfl) (by kernel_rfl) (by kernel_rfl) (fun _ _ _ h => h) (Or.inl ⟨by rfl, ?_⟩) (by assumption) ?_
  rotate_left
  · (intro w' hSw; (try dsimp only at hSw); go_simp; try with_reducible rfl)
  simp only [Act.put, List.getElem_toArray, List.getElem_cons_zero, List.getElem_cons_succ, List.setIfInBounds_toArray, List.set_cons_zero, List.set_cons_succ]
  refine wpAnyH_take (i := 5) (v := ?_) rfl (by kernel_rfl) (by kernel_rfl) (by kernel_rfl) (fun _ _ _ h => h) (Or.inl ⟨by rfl, ?_⟩) (by assumption) ?_
  rotate_left
  · (intro w' hSw; (try dsimp only at hSw); go_simp; try with_reducible rfl)
  simp only [Act.put, List.getElem_toArray, List.getElem_cons_zero, List.getElem_cons_succ, List.setIfInBounds_toArray, List.set_cons_zero, List.set_cons_succ]
  refine wpAnyH_take (i := 6) (v := .int .u32 h.o) rfl (by kernel_rfl) (by kernel_rfl) (by kernel_rfl) (fun _ _ _ h => h) (Or.inl ⟨by rfl, ?_⟩) (by assumption) ?_
  · (intro w' hSw; (try dsimp only at hSw); go_simp; rw [wrap_u32 (by omega) (by omega)])
  simp only [Act.put, List.getElem_toArray, List.getElem_cons_zero, List.getElem_cons_succ, List.setIfInBounds_toArray, List.set_cons_zero, List.set_cons_succ]
  refine wpAnyH_take (i := 8) (v := ?_) rfl (by kernel_rfl) (by kernel_rfl) (by kernel_rfl) (fun _ _ _ h => h) (Or.inl ⟨by rfl, ?_⟩) (by assumption) ?_
  rotate_left
  · (intro w' hSw; (try dsimp only at hSw); go_simp; try with_reducible rfl)
  simp only [Act.put, List.getElem_toArray, List.getElem_cons_zero, List.getElem_cons_succ, List.setIfInBounds_toArray, List.set_cons_zero, List.set_cons_succ]
  refine wpAnyH_take (i := 9) (v := ?_) rfl (by kernel_rfl) (by kernel_rfl) (by kernel_rfl) (fun _ _ _ h => h) (Or.inl ⟨by rfl, ?_⟩) (by assumption) ?_
  rotate_left
  · (intro w' hSw; (try dsimp only at hSw); go_simp; try with_reducible rfl)
  simp only [Act.put, List.getElem_toArray, List.getElem_cons_zero, List.getElem_cons_succ, List.setIfInBounds_toArray, List.set_cons_zero, List.set_cons_succ]
  refine wpAnyH_take (i := 10) (v := .int .u32 h.t) rfl (by kernel_rfl) (by kernel_rfl) (by kernel_rfl) (fun _ _ _ h => h) (Or.inl ⟨by rfl, ?_⟩) (by assumption) ?_
  · (intro w' hSw; (try dsimp only at hSw); go_simp; rw [wrap_u32 (by omega) (by omega)])
  simp only [Act.put, List.getElem_toArray, List.getElem_cons_zero, List.getElem_cons_succ, List.setIfInBounds_toArray, List.set_cons_zero, List.set_cons_succ]
  refine wpAnyH_take (i := 12) (v := ?_) rfl (by kernel_rfl) (by kernel_rfl) (by kernel_rfl) (fun _ _ _ h => h) (Or.inl ⟨by rfl, ?_⟩) (by assumption) ?_
  rotate_left
  · (intro w' hSw; (try dsimp only at hSw); go_simp; try with_reducible rfl)
  simp only [Act.put, List.getElem_toArray, List.getElem_cons_zero, List.getElem_cons_succ, List.setIfInBounds_toArray, List.set_cons_zero, List.set_cons_succ]
  refine wpAnyH_take (i := 13) (v := ?_) rfl (by kernel_rfl) (by kernel_rfl) (by kernel_rfl) (fun _ _ _ h => h) (Or.inl ⟨by rfl, ?_⟩) (by assumption) ?_
  rotate_left
  · (intro w' hSw; (try dsimp only at hSw); go_simp; try with_reducible rfl)
  simp only [Act.put, List.getElem_toArray, List.getElem_cons_zero, List.getElem_cons_succ, List.setIfInBounds_toArray, List.set_cons_zero, List.set_cons_succ]
  refine wpAnyH_take (i := 15) (v := ?_) rfl (by kernel_rfl) (by kernel_rfl) (by kernel_rfl) (fun _ _ _ h => h) (Or.inl ⟨by rfl, ?_⟩) (by assumption) ?_
  rotate_left
  · (intro w' hSw; (try dsimp only at hSw); go_simp; try with_reducible rfl)
  simp only [Act.put, List.getElem_toArray, List.getElem_cons_zero, List.getElem_cons_succ, List.setIfInBounds_toArray, List.set_cons_zero, List.set_cons_succ]
  refine wpAnyH_take (i := 16) (v := ?_) rfl (by kernel_rfl) (by kernel_rfl) (by kernel_rfl) (fun _ _ _ h => h) (Or.inl ⟨by rfl, ?_⟩) (by assumption) ?_
  rotate_left
  · (intro w' hSw; (try dsimp only at hSw); go_simp; try with_reducible rfl)
  simp only [Act.put, List.getElem_toArray, List.getElem_cons_zero, List.getElem_cons_succ, List.setIfInBounds_toArray, List.set_cons_zero, List.set_cons_succ]
  refine wpAnyH_take (i := 18) (v := ?_) rfl (by kernel_rfl) (by kernel_rfl) (by kernel_rfl) (fun _ _ _ h => h) (Or.inl ⟨by rfl, ?_⟩) (by assumption) ?_
  rotate_left
  · (intro w' hSw; (try dsimp only at hSw); go_simp; try with_reducible rfl)
  simp only [Act.put, List.getElem_toArray, List.getElem_cons_zero, List.getElem_cons_succ, List.setIfInBounds_toArray, List.set_cons_zero, List.set_cons_succ]
  refine wpAnyH_take (i := 19) (v := ?_) rfl (by kernel_rfl) (by kernel_rfl) (by kernel_rfl) (fun _ _ _ h => h) (Or.inl ⟨by rfl, ?_⟩) (by assumption) ?_
  rotate_left
  · (intro w' hSw; (try dsimp only at hSw); go_simp; try with_reducible rfl)
  simp only [Act.put, List.getElem_toArray, List.getElem_cons_zero, List.getElem_cons_succ, List.setIfInBounds_toArray, List.set_cons_zero, List.set_cons_succ]
  refine wpAnyH_take (i := 21) (v := ?_) rfl (by kernel_rfl) (by kernel_rfl) (by kernel_rfl) (fun _ _ _ h => h) (Or.inl ⟨by rfl, ?_⟩) (by assumption) ?_
  rotate_left
  · (intro w' hSw; (try dsimp only at hSw); go_simp; try with_reducible rfl)
  simp only [Act.put, List.getElem_toArray, List.getElem_cons_zero, List.getElem_cons_succ, List.setIfInBounds_toArray, List.set_cons_zero, List.set_cons_succ]
  refine wpAnyH_take (i := 22) (v := ?_) rfl (by kernel_rfl) (by kernel_rfl) (by kernel_rfl) (fun _ _ _ h => h) (Or.inl ⟨by rfl, ?_⟩) (by assumption) ?_
  rotate_left
  · (intro w' hSw; (try dsimp only at hSw); go_simp; try with_reducible rfl)
  simp only [Act.put, List.getElem_toArray, List.getElem_cons_zero, List.getElem_cons_succ, List.setIfInBounds_toArray, List.set_cons_zero, List.set_cons_succ]
  refine wpAnyH_take (i := 23) (v := .int .u32 h.s) rfl (by kernel_rfl) (by kernel_rfl) (by kernel_rfl) (fun _ _ _ h => h) (Or.inl ⟨by rfl, ?_⟩) (by assumption) ?_
  · (intro w' hSw; (try dsimp only at hSw); go_simp; rw [wrap_u32 (by omega) (by omega)])
  simp only [Act.put, List.getElem_toArray, List.getElem_cons_zero, List.getElem_cons_succ, List.setIfInBounds_toArray, List.set_cons_zero, List.set_cons_succ]
  refine wpAnyH_take (i := 25) (v := ?_) rfl (by kernel_rfl) (by kernel_rfl) (by kernel_rfl) (fun _ _ _ h => h) (Or.inl ⟨by rfl, ?_⟩) (by assumption) ?_
  rotate_left
  · (intro w' hSw; (try dsimp only at hSw); go_simp; try with_reducible rfl)
  simp only [Act.put, List.getElem_toArray, List.getElem_cons_zero, List.getElem_cons_succ, List.setIfInBounds_toArray, List.set_cons_zero, List.set_cons_succ]
  refine wpAnyH_take (i := 26) (v := ?_) rfl (by kernel_rfl) (by kernel_rfl) (by kernel_rfl) (fun _ _ _ h => h) (Or.inl ⟨by rfl, ?_⟩) (by assumption) ?_
  rotate_left
  · (intro w' hSw; (try dsimp only at hSw); go_simp; try with_reducible rfl)
  simp only [Act.put, List.getElem_toArray, List.getElem_cons_zero, List.getElem_cons_succ, List.setIfInBounds_toArray, List.set_cons_zero, List.set_cons_succ]
  refine wpAnyH_take (i := 27) (v := .int .u32 h.n) rfl (by kernel_rfl) (by kernel_rfl) (by kernel_rfl) (fun _ _ _ h => h) (Or.inl ⟨by rfl, ?_⟩) (by assumption) ?_
  · (intro w' hSw; (try dsimp only at hSw); go_simp; rw [wrap_u32 (by omega) (by omega)])
  simp only [Act.put, List.getElem_toArray, List.getElem_cons_zero, List.getElem_cons_succ, List.setIfInBounds_toArray, List.set_cons_zero, List.set_cons_succ]
  refine wpAnyH_ready (rs := [3]) (by kernel_rfl) (by simp) ?_
  refine AllReadyH.cons rfl (fun K hK => ?_) AllReadyH.nil
  go_simp
  go_at_call 72
  refine (field_any h.a 2 2 Y0 rfl (by decide) (by decide) (by omega) (by omega) (by omega)).mono ?_
  rintro e Y1 ⟨A1, c1, rfl, o1, u1⟩
  have t_Y1 : Below W0.heap.size W0 Y1 := t0.trans (u1.mono t0.size)
  have z1 := o1.bs
  clear o1
  refine hK.out _ _ (KX.out _ t_Y1) (fun _ => ?_)
  clear hK K
  refine wpAnyH_ready (rs := [7]) (by kernel_rfl) (by simp) ?_
  refine AllReadyH.cons rfl (fun K hK => ?_) AllReadyH.nil
  go_simp
  go_at_call 72
  refine (field_any h.o 1 1 Y1 rfl (by decide) (by decide) (by omega) (by omega) (by omega)).mono ?_
  rintro e Y2 ⟨A2, c2, rfl, o2, u2⟩
  have t_Y2 : Below W0.heap.size W0 Y2 := t_Y1.trans (u2.mono t_Y1.size)
  replace z1 := z1.step u2
  have z2 := o2.bs
  clear o2
  refine hK.out _ _ (KX.out _ t_Y2) (fun _ => ?_)
  clear hK K
  refine wpAnyH_ready (rs := [11]) (by kernel_rfl) (by simp) ?_
  refine AllReadyH.cons rfl (fun K hK => ?_) AllReadyH.nil
  go_simp
  go_at_call 72
  refine (field_any h.t 1 1 Y2 rfl (by decide) (by decide) (by omega) (by omega) (by omega)).mono ?_
  rintro e Y3 ⟨A3, c3, rfl, o3, u3⟩
  have t_Y3 : Below W0.heap.size W0 Y3 := t_Y2.trans (u3.mono t_Y2.size)
  replace z1 := z1.step u3
  replace z2 := z2.step u3
  have z3 := o3.bs
  clear o3
  refine hK.out _ _ (KX.out _ t_Y3) (fun _ => ?_)
  clear hK K
  refine wpAnyH_ready (rs := [14]) (by kernel_rfl) (by simp) ?_
  refine AllReadyH.cons rfl (fun K hK => ?_) AllReadyH.nil
  go_simp
  go_at_call 72
  refine (field_any h.i 4 4 Y3 rfl (by decide) (by decide) (by omega) (by omega) (by omega)).mono ?_
  rintro e Y4 ⟨A4, c4, rfl, o4, u4⟩
  have t_Y4 : Below W0.heap.size W0 Y4 := t_Y3.trans (u4.mono t_Y3.size)
  replace z1 := z1.step u4
  replace z2 := z2.step u4
  replace z3 := z3.step u4
  have z4 := o4.bs
  clear o4
  refine hK.out _ _ (KX.out _ t_Y4) (fun _ => ?_)
  clear hK K
  refine wpAnyH_ready (rs := [17]) (by kernel_rfl) (by simp) ?_
  refine AllReadyH.cons rfl (fun K hK => ?_) AllReadyH.nil
  go_simp
  go_at_call 72
  refine (field_any h.v 4 4 Y4 rfl (by decide) (by decide) (by omega) (by omega) (by omega)).mono ?_
  rintro e Y5 ⟨A5, c5, rfl, o5, u5⟩
  have t_Y5 : Below W0.heap.size W0 Y5 := t_Y4.trans (u5.mono t_Y4.size)
  replace z1 := z1.step u5
  replace z2 := z2.step u5
  replace z3 := z3.step u5
  replace z4 := z4.step u5
  have z5 := o5.bs
  clear o5
  refine hK.out _ _ (KX.out _ t_Y5) (fun _ => ?_)
  clear hK K
  refine wpAnyH_ready (rs := [20]) (by kernel_rfl) (by simp) ?_
  refine AllReadyH.cons rfl (fun K hK => ?_) AllReadyH.nil
  go_simp
  go_at_call 72
  refine (field_any h.q 4 4 Y5 rfl (by decide) (by decide) (by omega) (by omega) (by omega)).mono ?_
  rintro e Y6 ⟨A6, c6, rfl, o6, u6⟩
  have t_Y6 : Below W0.heap.size W0 Y6 := t_Y5.trans (u6.mono t_Y5.size)
  replace z1 := z1.step u6
  replace z2 := z2.step u6
  replace z3 := z3.step u6
  replace z4 := z4.step u6
  replace z5 := z5.step u6
  have z6 := o6.bs
  clear o6
  refine hK.out _ _ (KX.out _ t_Y6) (fun _ => ?_)
  clear hK K
  refine wpAnyH_ready (rs := [24]) (by kernel_rfl) (by simp) ?_
  refine AllReadyH.cons rfl (fun K hK => ?_) AllReadyH.nil
  go_simp
  go_at_call 72
  refine (field_any h.s 2 2 Y6 rfl (by decide) (by decide) (by omega) (by omega) (by omega)).mono ?_
  rintro e Y7 ⟨A7, c7, rfl, o7, u7⟩
  have t_Y7 : Below W0.heap.size W0 Y7 := t_Y6.trans (u7.mono t_Y6.size)
  replace z1 := z1.step u7
  replace z2 := z2.step u7
  replace z3 := z3.step u7
  replace z4 := z4.step u7
  replace z5 := z5.step u7
  replace z6 := z6.step u7
  have z7 := o7.bs
  clear o7
  refine hK.out _ _ (KX.out _ t_Y7) (fun _ => ?_)
  clear hK K
  refine wpAnyH_ready (rs := [28]) (by kernel_rfl) (by simp) ?_
  refine AllReadyH.cons rfl (fun K hK => ?_) AllReadyH.nil
  go_simp
  go_at_call 72
  refine (field_any h.n 2 2 Y7 rfl (by decide) (by decide) (by omega) (by omega) (by omega)).mono ?_
  rintro e Y8 ⟨A8, c8, rfl, o8, u8⟩
  have t_Y8 : Below W0.heap.size W0 Y8 := t_Y7.trans (u8.mono t_Y7.size)
  replace z1 := z1.step u8
  replace z2 := z2.step u8
  replace z3 := z3.step u8
  replace z4 := z4.step u8
  replace z5 := z5.step u8
  replace z6 := z6.step u8
  replace z7 := z7.step u8
  have z8 := o8.bs
  clear o8
  refine hK.out _ _ (KX.out _ t_Y8) (fun _ => ?_)
  clear hK K
  refine wpAnyH_ready (rs := [29]) (by kernel_rfl) (by simp) ?_
  refine AllReadyH.cons rfl (fun K hK => ?_) AllReadyH.nil
  go_simp
  obtain ⟨Y9, hY9⟩ : ∃ V, Y8.alloc (.cells #[.slice A1 2 c1, .slice A2 1 c2, .slice A3 1 c3, .slice A4 4 c4, .slice A5 4 c5, .slice A6 4 c6, .slice A7 2 c7, .slice A8 2 c8] 32) = V := ⟨_, rfl⟩
  have u9 : Below Y8.heap.size Y8 Y9 := by rw [← hY9]; exact below_alloc1 _ _
  have t_Y9 : Below W0.heap.size W0 Y9 := t_Y8.trans (u9.mono t_Y8.size)
  replace z1 := z1.step u9
  replace z2 := z2.step u9
  replace z3 := z3.step u9
  replace z4 := z4.step u9
  replace z5 := z5.step u9
  replace z6 := z6.step u9
  replace z7 := z7.step u9
  replace z8 := z8.step u9
  obtain ⟨k9, hk9⟩ : ∃ k, Y8.heap.size = k := ⟨_, rfl⟩
  have hP : Ps Y9 (some ⟨k9, 0, none⟩) [⟨A1, c1, be h.a 2⟩, ⟨A2, c2, be h.o 1⟩, ⟨A3, c3, be h.t 1⟩, ⟨A4, c4, be h.i 4⟩, ⟨A5, c5, be h.v 4⟩, ⟨A6, c6, be h.q 4⟩, ⟨A7, c7, be h.s 2⟩, ⟨A8, c8, be h.n 2⟩] := by
    rw [← hY9]
    exact Ps.mk _ _ _ _ _ hk9 (by simp [be_length])
  try rw [hY9]
  try rw [hk9]
  refine hK.out _ _ (KX.out _ t_Y9) (fun _ => ?_)
  clear hK K
  refine wpAnyH_ready (rs := [30]) (by kernel_rfl) (by simp) ?_
  refine AllReadyH.cons rfl (fun K hK => ?_) AllReadyH.nil
  go_simp
  have cc := concat_n (some ⟨k9, 0, none⟩) 8 8 _ Y9 rfl hP (fun p' hp => by
    simp only [List.mem_cons, List.not_mem_nil, or_false] at hp
    rcases hp with rfl | rfl | rfl | rfl | rfl | rfl | rfl | rfl
    · exact z1
    · exact z2
    · exact z3
    · exact z4
    · exact z5
    · exact z6
    · exact z7
    · exact z8) (by simp) (by simp [cat, be_length])
  have hcat : cat [⟨A1, c1, be h.a 2⟩, ⟨A2, c2, be h.o 1⟩, ⟨A3, c3, be h.t 1⟩, ⟨A4, c4, be h.i 4⟩, ⟨A5, c5, be h.v 4⟩, ⟨A6, c6, be h.q 4⟩, ⟨A7, c7, be h.s 2⟩, ⟨A8, c8, be h.n 2⟩] = ehd h := by rw [HL.out]; simp [cat]
  rw [hcat, ehd_length] at cc
  clear hcat
  go_at_call 54
  refine (cc).mono ?_
  rintro e Y10 ⟨A10, c10, rfl, o10, u10⟩
  have t_Y10 : Below W0.heap.size W0 Y10 := t_Y9.trans (u10.mono t_Y9.size)
  replace z1 := z1.step u10
  replace z2 := z2.step u10
  replace z3 := z3.step u10
  replace z4 := z4.step u10
  replace z5 := z5.step u10
  replace z6 := z6.step u10
  replace z7 := z7.step u10
  replace z8 := z8.step u10
  replace hP := hP.step u10
  refine hK.out _ _ (KX.out _ t_Y10) (fun _ => ?_)
  clear hK K
  refine wpAnyH_ready (rs := [31]) (by kernel_rfl) (by simp) ?_
  refine AllReadyH.cons rfl (fun K hK => ?_) AllReadyH.nil
  go_simp
  refine hK.out _ _ (KX.out _ t_Y10) (fun _ => ?_)
  clear hK K
  refine wpAnyH_ready (rs := [32]) (by kernel_rfl) (by simp) ?_
  refine AllReadyH.cons rfl (fun K hK => ?_) AllReadyH.nil
  go_simp
  refine hK.out _ _ (KX.out _ t_Y10) (fun _ => ?_)
  clear hK K
  refine wpAnyH_done (by kernel_rfl) ?_ _
  go_wp2
  go_ret2
  exact ⟨A10, c10, rfl, o10.lower (Nat.le_trans HB.out.size t_Y9.size), HB.out.trans (t_Y10.mono HB.out.size)⟩
end Go.Proofs.Ytadcicmccdphkaa
