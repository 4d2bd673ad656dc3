/-
  The contract of lsa's Head. Contracts of bytes.Clone and of lsa's fresh. What was placed fits, and no other pair of bytes does; one other byte is found. Plain numbers. No statement is proved here; no conditions.
-/
import Derived.Test.YtadcicmccdphkaaGreatG04
import Derived.Test.YtadcicmccdphkaaGreatG03
import Derived.Lib.SliceRun
namespace Go.Proofs.YtadcicmccdphkaaGreat
open Go.RowKit Go.Joins
open List (getElem_toArray getElem_cons_zero getElem_cons_succ setIfInBounds_toArray set_cons_zero set_cons_succ)

set_option maxRecDepth 100000 in
set_option maxHeartbeats 4000000 in
theorem head_any (h : Hd) (w : World) (ok : Okd h) :
  Calls Tryz.prog 92 #[.agg #[.int .i64 h.a, .int .i64 h.o, .int .i64 h.t, .int .u32 h.i, .int .u32 h.v, .int .u32 h.q, .int .i64 h.s, .int .i64 h.n]] w fun e w' => ∃ A' c', e = .returned (.tuple #[.slice A' (encH h).length c', .int .i64 (encE h)]) ∧ Own .u8 5 w' w.heap.size A' c' (encH h) ∧ Below w.heap.size w w' := by
 obtain ⟨W0, hW0⟩ : ∃ V, w.alloc (.cells #[.int .i64 h.a, .int .i64 h.o, .int .i64 h.t, .int .u32 h.i, .int .u32 h.v, .int .u32 h.q, .int .i64 h.s, .int .i64 h.n] 37) = V := ⟨_, rfl⟩
 have bW0 : Below w.heap.size w W0 := by rw [← hW0]; exact below_alloc1 _ _
 have sW0 : W0.heap.size = w.heap.size + 1 := by rw [← hW0]; simp
 have KX : Hid (∀ V, Below W0.heap.size W0 V → V.cell? ⟨w.heap.size, 0, none⟩ = some (.int .i64 h.a) ∧ V.cell? ⟨w.heap.size, 1, none⟩ = some (.int .i64 h.o) ∧ V.cell? ⟨w.heap.size, 2, none⟩ = some (.int .i64 h.t) ∧ V.cell? ⟨w.heap.size, 3, none⟩ = some (.int .u32 h.i) ∧ V.cell? ⟨w.heap.size, 4, none⟩ = some (.int .u32 h.v) ∧ V.cell? ⟨w.heap.size, 5, none⟩ = some (.int .u32 h.q) ∧ V.cell? ⟨w.heap.size, 6, none⟩ = some (.int .i64 h.s) ∧ V.cell? ⟨w.heap.size, 7, none⟩ = some (.int .i64 h.n)) := Lib.hid (fun V hV => kb8_new hW0 hV)
 have HB : Hid (Below w.heap.size w W0) := Lib.hid bW0
 clear bW0
 obtain ⟨k0, k1, k2, k3, k4, k5, k6, k7⟩ := KX.out _ (Below.refl _ _)
 by_cases hm : mayd h = true
 case neg =>
  have e1 : encE h = 1 := by simp [encE, hm]
  have e2 : encH h = [] := by simp [encH, hm]
  rw [e1, e2]
  have hm2 : mayd h = false := by simpa using hm
  clear e1 e2 hm
  go_enter Tryz.func92, Tryz.ntmps92
  go_wp2_with fail
  refine (may_any _ _).mono ?_
  rintro e X0 ⟨rfl, t0⟩
  rw [hm2]
  go_wp2
  go_ret2
  exact ⟨none, 0, rfl, Own.nil _ _, HB.out.trans (t0.mono HB.out.size)⟩
 have e1 : encE h = 0 := by simp [encE, hm]
 have e2 : encH h = ehd h := by simp [encH, hm]
 rw [e1, e2, ehd_length]
 obtain ⟨⟨ha0, ha1⟩, ⟨ho0, ho1⟩, ⟨ht0, ht1⟩, -, ⟨hs0, hs1⟩, ⟨hn0, hn1⟩⟩ := (mayd_iff h).1 hm
 obtain ⟨hi0, hi1⟩ := ok.i
 obtain ⟨hv0, hv1⟩ := ok.v
 obtain ⟨hq0, hq1⟩ := ok.q
 have HM := Lib.hid hm
 have HL : Hid (ehd h = be h.a 2 ++ (be h.o 1 ++ (be h.t 1 ++ (be h.i 4 ++ (be h.v 4 ++ (be h.q 4 ++ (be h.s 2 ++ be h.n 2))))))) := Lib.hid rfl
 clear e1 e2 hm ok
 go_enter Tryz.func92, Tryz.ntmps92
 go_wp2_with fail
 refine (may_any _ _).mono ?_
 rintro e X0 ⟨rfl, t0⟩
 rw [HM.out]
 clear k0 k1 k2 k3 k4 k5 k6 k7
 go_wp2_with fail
 refine wp_region_held_drew (S := fun V => V.cell? ⟨w.heap.size, 0, none⟩ = some (.int .i64 h.a) ∧ V.cell? ⟨w.heap.size, 1, none⟩ = some (.int .i64 h.o) ∧ V.cell? ⟨w.heap.size, 2, none⟩ = some (.int .i64 h.t) ∧ V.cell? ⟨w.heap.size, 3, none⟩ = some (.int .u32 h.i) ∧ V.cell? ⟨w.heap.size, 4, none⟩ = some (.int .u32 h.v) ∧ V.cell? ⟨w.heap.size, 5, none⟩ = some (.int .u32 h.q) ∧ V.cell? ⟨w.heap.size, 6, none⟩ = some (.int .i64 h.s) ∧ V.cell? ⟨w.heap.size, 7, none⟩ = some (.int .i64 h.n)) (by kernel_rfl) (KX.out _ t0.drew) (fun hHeld => ?_)
 replace t0 : Below W0.heap.size W0 X0.drew := t0.drew
 generalize hX0 : X0.drew = Y0 at t0 hHeld ⊢
 clear hX0
 refine wpAnyH_take (i := 0) (v := ?_) rfl (by kernel_rfl) (by kernel_rfl) (by kernel_rfl) (fun _ _ _ h => h) (Or.inl ⟨by rfl, ?_⟩) (by assumption) ?_
 rotate_left
 ·(intro w' hSw; (try dsimp only at hSw); go_simp; try with_reducible rfl)
 simp only [Act.put, getElem_toArray, getElem_cons_zero, setIfInBounds_toArray, set_cons_zero, set_cons_succ]
 refine wpAnyH_take (i := 1) (v := ?_) rfl (by kernel_rfl) (by kernel_rfl) (by kernel_rfl) (fun _ _ _ h => h) (Or.inl ⟨by rfl, ?_⟩) (by assumption) ?_
 rotate_left
 ·(intro w' hSw; (try dsimp only at hSw); go_simp; try with_reducible rfl)
 simp only [Act.put, getElem_toArray, getElem_cons_zero, getElem_cons_succ, setIfInBounds_toArray, set_cons_zero, set_cons_succ]
 refine wpAnyH_take (i := 2) (v := .int .u32 h.a) rfl (by kernel_rfl) (by kernel_rfl) (by kernel_rfl) (fun _ _ _ h => h) (Or.inl ⟨by rfl, ?_⟩) (by assumption) ?_
 ·(intro w' hSw; (try dsimp only at hSw); go_simp; rw [wrap_u32 (by omega) (by omega)])
 simp only [Act.put, getElem_toArray, getElem_cons_zero, getElem_cons_succ, setIfInBounds_toArray, set_cons_zero, set_cons_succ]
 refine wpAnyH_take (i := 4) (v := ?_) rfl (by kernel_rfl) (by kernel_rfl) (by kernel_rfl) (fun _ _ _ h => h) (Or.inl ⟨by rfl, ?_⟩) (by assumption) ?_
 rotate_left
 ·(intro w' hSw; (try dsimp only at hSw); go_simp; try with_reducible rfl)
 simp only [Act.put, getElem_toArray, getElem_cons_zero, getElem_cons_succ, setIfInBounds_toArray, set_cons_zero, set_cons_succ]
 refine wpAnyH_take (i := 5) (v := ?_) rfl (by kernel_rfl) (by kernel_rfl) (by kernel_rfl) (fun _ _ _ h => h) (Or.inl ⟨by rfl, ?_⟩) (by assumption) ?_
 rotate_left
 ·(intro w' hSw; (try dsimp only at hSw); go_simp; try with_reducible rfl)
 simp only [Act.put, getElem_toArray, getElem_cons_zero, getElem_cons_succ, setIfInBounds_toArray, set_cons_zero, set_cons_succ]
 refine wpAnyH_take (i := 6) (v := .int .u32 h.o) rfl (by kernel_rfl) (by kernel_rfl) (by kernel_rfl) (fun _ _ _ h => h) (Or.inl ⟨by rfl, ?_⟩) (by assumption) ?_
 ·(intro w' hSw; (try dsimp only at hSw); go_simp; rw [wrap_u32 (by omega) (by omega)])
 simp only [Act.put, getElem_toArray, getElem_cons_zero, getElem_cons_succ, setIfInBounds_toArray, set_cons_zero, set_cons_succ]
 refine wpAnyH_take (i := 8) (v := ?_) rfl (by kernel_rfl) (by kernel_rfl) (by kernel_rfl) (fun _ _ _ h => h) (Or.inl ⟨by rfl, ?_⟩) (by assumption) ?_
 rotate_left
 ·(intro w' hSw; (try dsimp only at hSw); go_simp; try with_reducible rfl)
 simp only [Act.put, getElem_toArray, getElem_cons_zero, getElem_cons_succ, setIfInBounds_toArray, set_cons_zero, set_cons_succ]
 refine wpAnyH_take (i := 9) (v := ?_) rfl (by kernel_rfl) (by kernel_rfl) (by kernel_rfl) (fun _ _ _ h => h) (Or.inl ⟨by rfl, ?_⟩) (by assumption) ?_
 rotate_left
 ·(intro w' hSw; (try dsimp only at hSw); go_simp; try with_reducible rfl)
 simp only [Act.put, getElem_toArray, getElem_cons_zero, getElem_cons_succ, setIfInBounds_toArray, set_cons_zero, set_cons_succ]
 refine wpAnyH_take (i := 10) (v := .int .u32 h.t) rfl (by kernel_rfl) (by kernel_rfl) (by kernel_rfl) (fun _ _ _ h => h) (Or.inl ⟨by rfl, ?_⟩) (by assumption) ?_
 ·(intro w' hSw; (try dsimp only at hSw); go_simp; rw [wrap_u32 (by omega) (by omega)])
 simp only [Act.put, getElem_toArray, getElem_cons_zero, getElem_cons_succ, setIfInBounds_toArray, set_cons_zero, set_cons_succ]
 refine wpAnyH_take (i := 12) (v := ?_) rfl (by kernel_rfl) (by kernel_rfl) (by kernel_rfl) (fun _ _ _ h => h) (Or.inl ⟨by rfl, ?_⟩) (by assumption) ?_
 rotate_left
 ·(intro w' hSw; (try dsimp only at hSw); go_simp; try with_reducible rfl)
 simp only [Act.put, getElem_toArray, getElem_cons_zero, getElem_cons_succ, setIfInBounds_toArray, set_cons_zero, set_cons_succ]
 refine wpAnyH_take (i := 13) (v := ?_) rfl (by kernel_rfl) (by kernel_rfl) (by kernel_rfl) (fun _ _ _ h => h) (Or.inl ⟨by rfl, ?_⟩) (by assumption) ?_
 rotate_left
 ·(intro w' hSw; (try dsimp only at hSw); go_simp; try with_reducible rfl)
 simp only [Act.put, getElem_toArray, getElem_cons_zero, getElem_cons_succ, setIfInBounds_toArray, set_cons_zero, set_cons_succ]
 refine wpAnyH_take (i := 15) (v := ?_) rfl (by kernel_rfl) (by kernel_rfl) (by kernel_rfl) (fun _ _ _ h => h) (Or.inl ⟨by rfl, ?_⟩) (by assumption) ?_
 rotate_left
 ·(intro w' hSw; (try dsimp only at hSw); go_simp; try with_reducible rfl)
 simp only [Act.put, getElem_toArray, getElem_cons_zero, getElem_cons_succ, setIfInBounds_toArray, set_cons_zero, set_cons_succ]
 refine wpAnyH_take (i := 16) (v := ?_) rfl (by kernel_rfl) (by kernel_rfl) (by kernel_rfl) (fun _ _ _ h => h) (Or.inl ⟨by rfl, ?_⟩) (by assumption) ?_
 rotate_left
 ·(intro w' hSw; (try dsimp only at hSw); go_simp; try with_reducible rfl)
 simp only [Act.put, getElem_toArray, getElem_cons_zero, getElem_cons_succ, setIfInBounds_toArray, set_cons_zero, set_cons_succ]
 refine wpAnyH_take (i := 18) (v := ?_) rfl (by kernel_rfl) (by kernel_rfl) (by kernel_rfl) (fun _ _ _ h => h) (Or.inl ⟨by rfl, ?_⟩) (by assumption) ?_
 rotate_left
 ·(intro w' hSw; (try dsimp only at hSw); go_simp; try with_reducible rfl)
 simp only [Act.put, getElem_toArray, getElem_cons_zero, getElem_cons_succ, setIfInBounds_toArray, set_cons_zero, set_cons_succ]
 refine wpAnyH_take (i := 19) (v := ?_) rfl (by kernel_rfl) (by kernel_rfl) (by kernel_rfl) (fun _ _ _ h => h) (Or.inl ⟨by rfl, ?_⟩) (by assumption) ?_
 rotate_left
 ·(intro w' hSw; (try dsimp only at hSw); go_simp; try with_reducible rfl)
 simp only [Act.put, getElem_toArray, getElem_cons_zero, getElem_cons_succ, setIfInBounds_toArray, set_cons_zero, set_cons_succ]
 refine wpAnyH_take (i := 21) (v := ?_) rfl (by kernel_rfl) (by kernel_rfl) (by kernel_rfl) (fun _ _ _ h => h) (Or.inl ⟨by rfl, ?_⟩) (by assumption) ?_
 rotate_left
 ·(intro w' hSw; (try dsimp only at hSw); go_simp; try with_reducible rfl)
 simp only [Act.put, getElem_toArray, getElem_cons_zero, getElem_cons_succ, setIfInBounds_toArray, set_cons_zero, set_cons_succ]
 refine wpAnyH_take (i := 22) (v := ?_) rfl (by kernel_rfl) (by kernel_rfl) (by kernel_rfl) (fun _ _ _ h => h) (Or.inl ⟨by rfl, ?_⟩) (by assumption) ?_
 rotate_left
 ·(intro w' hSw; (try dsimp only at hSw); go_simp; try with_reducible rfl)
 simp only [Act.put, getElem_toArray, getElem_cons_zero, getElem_cons_succ, setIfInBounds_toArray, set_cons_zero, set_cons_succ]
 refine wpAnyH_take (i := 23) (v := .int .u32 h.s) rfl (by kernel_rfl) (by kernel_rfl) (by kernel_rfl) (fun _ _ _ h => h) (Or.inl ⟨by rfl, ?_⟩) (by assumption) ?_
 ·(intro w' hSw; (try dsimp only at hSw); go_simp; rw [wrap_u32 (by omega) (by omega)])
 simp only [Act.put, getElem_toArray, getElem_cons_zero, getElem_cons_succ, setIfInBounds_toArray, set_cons_zero, set_cons_succ]
 refine wpAnyH_take (i := 25) (v := ?_) rfl (by kernel_rfl) (by kernel_rfl) (by kernel_rfl) (fun _ _ _ h => h) (Or.inl ⟨by rfl, ?_⟩) (by assumption) ?_
 rotate_left
 ·(intro w' hSw; (try dsimp only at hSw); go_simp; try with_reducible rfl)
 simp only [Act.put, getElem_toArray, getElem_cons_zero, getElem_cons_succ, setIfInBounds_toArray, set_cons_zero, set_cons_succ]
 refine wpAnyH_take (i := 26) (v := ?_) rfl (by kernel_rfl) (by kernel_rfl) (by kernel_rfl) (fun _ _ _ h => h) (Or.inl ⟨by rfl, ?_⟩) (by assumption) ?_
 rotate_left
 ·(intro w' hSw; (try dsimp only at hSw); go_simp; try with_reducible rfl)
 simp only [Act.put, getElem_toArray, getElem_cons_zero, getElem_cons_succ, setIfInBounds_toArray, set_cons_zero, set_cons_succ]
 refine wpAnyH_take (i := 27) (v := .int .u32 h.n) rfl (by kernel_rfl) (by kernel_rfl) (by kernel_rfl) (fun _ _ _ h => h) (Or.inl ⟨by rfl, ?_⟩) (by assumption) ?_
 ·(intro w' hSw; (try dsimp only at hSw); go_simp; rw [wrap_u32 (by omega) (by omega)])
 simp only [Act.put, getElem_toArray, getElem_cons_zero, getElem_cons_succ, setIfInBounds_toArray, set_cons_zero, set_cons_succ]
 refine wpAnyH_ready (rs := [3]) (by kernel_rfl) (by simp) ?_
 refine AllReadyH.cons rfl (fun K hK => ?_) AllReadyH.nil
 go_simp
 go_at_call 117
 refine (field_any h.a 2 2 Y0 rfl (by decide) (by decide) (by omega) (by omega) (by omega)).mono ?_
 rintro e Y1 ⟨A1, c1, rfl, o1, u1⟩
 have t_Y1 : Below W0.heap.size W0 Y1 := t0.trans (u1.mono t0.size)
 have z1 := o1.bs
 clear o1
 refine hK.out _ _ (KX.out _ t_Y1) (fun _ => ?_)
 clear hK K
 refine wpAnyH_ready (rs := [7]) (by kernel_rfl) (by simp) ?_
 refine AllReadyH.cons rfl (fun K hK => ?_) AllReadyH.nil
 go_simp
 go_at_call 117
 refine (field_any h.o 1 1 Y1 rfl (by decide) (by decide) (by omega) (by omega) (by omega)).mono ?_
 rintro e Y2 ⟨A2, c2, rfl, o2, u2⟩
 have t_Y2 : Below W0.heap.size W0 Y2 := t_Y1.trans (u2.mono t_Y1.size)
 replace z1 := z1.step u2
 have z2 := o2.bs
 clear o2
 refine hK.out _ _ (KX.out _ t_Y2) (fun _ => ?_)
 clear hK K
 refine wpAnyH_ready (rs := [11]) (by kernel_rfl) (by simp) ?_
 refine AllReadyH.cons rfl (fun K hK => ?_) AllReadyH.nil
 go_simp
 go_at_call 117
 refine (field_any h.t 1 1 Y2 rfl (by decide) (by decide) (by omega) (by omega) (by omega)).mono ?_
 rintro e Y3 ⟨A3, c3, rfl, o3, u3⟩
 have t_Y3 : Below W0.heap.size W0 Y3 := t_Y2.trans (u3.mono t_Y2.size)
 replace z1 := z1.step u3
 replace z2 := z2.step u3
 have z3 := o3.bs
 clear o3
 refine hK.out _ _ (KX.out _ t_Y3) (fun _ => ?_)
 clear hK K
 refine wpAnyH_ready (rs := [14]) (by kernel_rfl) (by simp) ?_
 refine AllReadyH.cons rfl (fun K hK => ?_) AllReadyH.nil
 go_simp
 go_at_call 117
 refine (field_any h.i 4 4 Y3 rfl (by decide) (by decide) (by omega) (by omega) (by omega)).mono ?_
 rintro e Y4 ⟨A4, c4, rfl, o4, u4⟩
 have t_Y4 : Below W0.heap.size W0 Y4 := t_Y3.trans (u4.mono t_Y3.size)
 replace z1 := z1.step u4
 replace z2 := z2.step u4
 replace z3 := z3.step u4
 have z4 := o4.bs
 clear o4
 refine hK.out _ _ (KX.out _ t_Y4) (fun _ => ?_)
 clear hK K
 refine wpAnyH_ready (rs := [17]) (by kernel_rfl) (by simp) ?_
 refine AllReadyH.cons rfl (fun K hK => ?_) AllReadyH.nil
 go_simp
 go_at_call 117
 refine (field_any h.v 4 4 Y4 rfl (by decide) (by decide) (by omega) (by omega) (by omega)).mono ?_
 rintro e Y5 ⟨A5, c5, rfl, o5, u5⟩
 have t_Y5 : Below W0.heap.size W0 Y5 := t_Y4.trans (u5.mono t_Y4.size)
 replace z1 := z1.step u5
 replace z2 := z2.step u5
 replace z3 := z3.step u5
 replace z4 := z4.step u5
 have z5 := o5.bs
 clear o5
 refine hK.out _ _ (KX.out _ t_Y5) (fun _ => ?_)
 clear hK K
 refine wpAnyH_ready (rs := [20]) (by kernel_rfl) (by simp) ?_
 refine AllReadyH.cons rfl (fun K hK => ?_) AllReadyH.nil
 go_simp
 go_at_call 117
 refine (field_any h.q 4 4 Y5 rfl (by decide) (by decide) (by omega) (by omega) (by omega)).mono ?_
 rintro e Y6 ⟨A6, c6, rfl, o6, u6⟩
 have t_Y6 : Below W0.heap.size W0 Y6 := t_Y5.trans (u6.mono t_Y5.size)
 replace z1 := z1.step u6
 replace z2 := z2.step u6
 replace z3 := z3.step u6
 replace z4 := z4.step u6
 replace z5 := z5.step u6
 have z6 := o6.bs
 clear o6
 refine hK.out _ _ (KX.out _ t_Y6) (fun _ => ?_)
 clear hK K
 refine wpAnyH_ready (rs := [24]) (by kernel_rfl) (by simp) ?_
 refine AllReadyH.cons rfl (fun K hK => ?_) AllReadyH.nil
 go_simp
 go_at_call 117
 refine (field_any h.s 2 2 Y6 rfl (by decide) (by decide) (by omega) (by omega) (by omega)).mono ?_
 rintro e Y7 ⟨A7, c7, rfl, o7, u7⟩
 have t_Y7 : Below W0.heap.size W0 Y7 := t_Y6.trans (u7.mono t_Y6.size)
 replace z1 := z1.step u7
 replace z2 := z2.step u7
 replace z3 := z3.step u7
 replace z4 := z4.step u7
 replace z5 := z5.step u7
 replace z6 := z6.step u7
 have z7 := o7.bs
 clear o7
 refine hK.out _ _ (KX.out _ t_Y7) (fun _ => ?_)
 clear hK K
 refine wpAnyH_ready (rs := [28]) (by kernel_rfl) (by simp) ?_
 refine AllReadyH.cons rfl (fun K hK => ?_) AllReadyH.nil
 go_simp
 go_at_call 117
 refine (field_any h.n 2 2 Y7 rfl (by decide) (by decide) (by omega) (by omega) (by omega)).mono ?_
 rintro e Y8 ⟨A8, c8, rfl, o8, u8⟩
 have t_Y8 : Below W0.heap.size W0 Y8 := t_Y7.trans (u8.mono t_Y7.size)
 replace z1 := z1.step u8
 replace z2 := z2.step u8
 replace z3 := z3.step u8
 replace z4 := z4.step u8
 replace z5 := z5.step u8
 replace z6 := z6.step u8
 replace z7 := z7.step u8
 have z8 := o8.bs
 clear o8
 refine hK.out _ _ (KX.out _ t_Y8) (fun _ => ?_)
 clear hK K
 refine wpAnyH_ready (rs := [29]) (by kernel_rfl) (by simp) ?_
 refine AllReadyH.cons rfl (fun K hK => ?_) AllReadyH.nil
 go_simp
 obtain ⟨Y9, hY9⟩ : ∃ V, Y8.alloc (.cells #[.slice A1 2 c1, .slice A2 1 c2, .slice A3 1 c3, .slice A4 4 c4, .slice A5 4 c5, .slice A6 4 c6, .slice A7 2 c7, .slice A8 2 c8] 38) = V := ⟨_, rfl⟩
 have u9 : Below Y8.heap.size Y8 Y9 := by rw [← hY9]; exact below_alloc1 _ _
 have t_Y9 : Below W0.heap.size W0 Y9 := t_Y8.trans (u9.mono t_Y8.size)
 replace z1 := z1.step u9
 replace z2 := z2.step u9
 replace z3 := z3.step u9
 replace z4 := z4.step u9
 replace z5 := z5.step u9
 replace z6 := z6.step u9
 replace z7 := z7.step u9
 replace z8 := z8.step u9
 obtain ⟨k9, hk9⟩ : ∃ k, Y8.heap.size = k := ⟨_, rfl⟩
 have hP : Ps Y9 (some ⟨k9, 0, none⟩) [⟨A1, c1, be h.a 2⟩, ⟨A2, c2, be h.o 1⟩, ⟨A3, c3, be h.t 1⟩, ⟨A4, c4, be h.i 4⟩, ⟨A5, c5, be h.v 4⟩, ⟨A6, c6, be h.q 4⟩, ⟨A7, c7, be h.s 2⟩, ⟨A8, c8, be h.n 2⟩] := by
  rw [← hY9]
  exact Ps.mk _ _ _ _ _ hk9 (by simp [be_length])
 try rw [hY9]
 try rw [hk9]
 refine hK.out _ _ (KX.out _ t_Y9) (fun _ => ?_)
 clear hK K
 refine wpAnyH_ready (rs := [30]) (by kernel_rfl) (by simp) ?_
 refine AllReadyH.cons rfl (fun K hK => ?_) AllReadyH.nil
 go_simp
 have cc := concat_n (some ⟨k9, 0, none⟩) 8 8 _ Y9 rfl hP (fun p' hp => by
  simp only [List.mem_cons, List.not_mem_nil, or_false] at hp
  rcases hp with rfl | rfl | rfl | rfl | rfl | rfl | rfl | rfl
  ·exact z1
  ·exact z2
  ·exact z3
  ·exact z4
  ·exact z5
  ·exact z6
  ·exact z7
  ·exact z8) (by simp) (by simp [cat, be_length])
 have hcat : cat [⟨A1, c1, be h.a 2⟩, ⟨A2, c2, be h.o 1⟩, ⟨A3, c3, be h.t 1⟩, ⟨A4, c4, be h.i 4⟩, ⟨A5, c5, be h.v 4⟩, ⟨A6, c6, be h.q 4⟩, ⟨A7, c7, be h.s 2⟩, ⟨A8, c8, be h.n 2⟩] = ehd h := by rw [HL.out]; simp [cat]
 rw [hcat, ehd_length] at cc
 clear hcat
 go_at_call 93
 refine (cc).mono ?_
 rintro e Y10 ⟨A10, c10, rfl, o10, u10⟩
 have t_Y10 : Below W0.heap.size W0 Y10 := t_Y9.trans (u10.mono t_Y9.size)
 replace z1 := z1.step u10
 replace z2 := z2.step u10
 replace z3 := z3.step u10
 replace z4 := z4.step u10
 replace z5 := z5.step u10
 replace z6 := z6.step u10
 replace z7 := z7.step u10
 replace z8 := z8.step u10
 replace hP := hP.step u10
 refine hK.out _ _ (KX.out _ t_Y10) (fun _ => ?_)
 clear hK K
 refine wpAnyH_ready (rs := [31]) (by kernel_rfl) (by simp) ?_
 refine AllReadyH.cons rfl (fun K hK => ?_) AllReadyH.nil
 go_simp
 refine hK.out _ _ (KX.out _ t_Y10) (fun _ => ?_)
 clear hK K
 refine wpAnyH_ready (rs := [32]) (by kernel_rfl) (by simp) ?_
 refine AllReadyH.cons rfl (fun K hK => ?_) AllReadyH.nil
 go_simp
 refine hK.out _ _ (KX.out _ t_Y10) (fun _ => ?_)
 clear hK K
 refine wpAnyH_done (by kernel_rfl) ?_ _
 go_wp2
 go_ret2
 exact ⟨A10, c10, rfl, o10.lower (Nat.le_trans HB.out.size t_Y9.size), HB.out.trans (t_Y10.mono HB.out.size)⟩
end Go.Proofs.YtadcicmccdphkaaGreat
namespace Go.Proofs.YtadcicmccdphkaaGreat
open Go.RowKit Go.Joins
open List (getElem_toArray getElem_cons_zero getElem_cons_succ setIfInBounds_toArray set_cons_zero set_cons_succ)

theorem cell_st9 {W : World} {b : Nat} {p : Addr} (h : p.block ≠ b) (u0 u1 u2 u3 u4 u5 u6 u7 u8 : Value) : (st9 W b u0 u1 u2 u3 u4 u5 u6 u7 u8).cell? p = W.cell? p := World.cell?_of_block (far_st9 h u0 u1 u2 u3 u4 u5 u6 u7 u8)
set_option maxRecDepth 100000 in
theorem clone_any (A : Option Addr) (n c : Nat) (l : List Int) (w : World) (hn : l.length = n) (hb : Bt w A l) (hl : n ≤ 100000) :
  Calls Tryz.prog 67 #[.slice A n c] w fun e w' => ∃ A' c', e = .returned (.slice A' n c') ∧ Own .u8 5 w' w.heap.size A' c' l ∧ Below w.heap.size w w' := by
 by_cases hA : A = none
 ·have hl0 : l = [] := by
   by_cases h : l = []
   ·exact h
   ·obtain ⟨b, off, h1, _⟩ := hb h
    rw [hA] at h1
    cases h1
  subst hA hl0
  subst hn
  have hq := Lib.run_eql_slice_nil (P := Tryz.prog) w 38 5 none 0 c 0 0 Tryz.underlying38
  go_enter Tryz.func67, Tryz.ntmps67
  go_wp2
  go_ret
  exact ⟨none, 0, rfl, Own.nil _ _, Below.refl _ _⟩
 obtain ⟨a, rfl⟩ := Option.ne_none_iff_exists'.1 hA
 clear hA
 obtain ⟨W1, hW1⟩ : ∃ V, w.alloc (.cells #[] 5) = V := ⟨_, rfl⟩
 have b1 : Below w.heap.size w W1 := by rw [← hW1]; exact below_alloc1 _ _
 have o1 : Own .u8 5 W1 w.heap.size (some ⟨w.heap.size, 0, none⟩) 0 [] := by
  rw [← hW1]
  exact Own.empty w _ (Nat.le_refl _) _ _
 obtain ⟨i0, hi0, hz0, hz1, hz2⟩ := info_of info5
 have hq := Lib.run_eql_slice_nil (P := Tryz.prog) w 38 5 (some a) n c 0 0 Tryz.underlying38
 obtain ⟨A2, c2, W2, rW2, oW2, tW2⟩ := run_app (P := Tryz.prog) W1 w.heap.size 38 38 5 .u8 i0 _ 1 Tryz.underlying38 hi0 hz0 hz1 hz2 rfl _ _ _ o1 _ (some a) c _ (hb.step b1) (by simp only [maxLen, List.length_nil] <;> omega) (by simp only [List.length_nil] <;> omega) b1.size
 rw [List.nil_append] at oW2
 simp only [List.nil_append, List.length_nil, hn] at rW2
 have t2 : Below w.heap.size w W2 := b1.trans tW2
 clear o1 tW2 b1 hn hi0 hz0 hz1 hz2 hb
 go_enter Tryz.func67, Tryz.ntmps67
 go_wp2_with (at_builtin; refine wpList_runb _ rfl (.tmp 5) (.tmp 6) 38 rfl rfl rfl rW2 ?_)
 go_ret
 exact ⟨A2, c2, rfl, oW2, t2⟩
set_option maxRecDepth 100000 in
set_option maxHeartbeats 2000000 in
theorem copy_any (h : Hd) (A : Option Addr) (n c : Nat) (l : List Int) (w : World) (hn : l.length = n) (hb : Bt w A l) (hl : n ≤ 100000) :
  Calls Tryz.prog 68 #[.agg #[.int .i64 h.a, .int .i64 h.o, .int .i64 h.t, .int .u32 h.i, .int .u32 h.v, .int .u32 h.q, .int .i64 h.s, .int .i64 h.n, .slice A n c]] w fun e w' => ∃ A' c', e = .returned (.agg #[.int .i64 h.a, .int .i64 h.o, .int .i64 h.t, .int .u32 h.i, .int .u32 h.v, .int .u32 h.q, .int .i64 h.s, .int .i64 h.n, .slice A' n c']) ∧ Own .u8 5 w' w.heap.size A' c' l ∧ Below w.heap.size w w' := by
 obtain ⟨W0, hW0⟩ : ∃ V, w.alloc (.cells #[.int .i64 h.a, .int .i64 h.o, .int .i64 h.t, .int .u32 h.i, .int .u32 h.v, .int .u32 h.q, .int .i64 h.s, .int .i64 h.n, .slice A n c] 40) = V := ⟨_, rfl⟩
 have bW0 : Below w.heap.size w W0 := by rw [← hW0]; exact below_alloc1 _ _
 have sW0 : W0.heap.size = w.heap.size + 1 := by rw [← hW0]; simp
 have KX : Hid (∀ V, Below W0.heap.size W0 V → V.cell? ⟨w.heap.size, 0, none⟩ = some (.int .i64 h.a) ∧ V.cell? ⟨w.heap.size, 1, none⟩ = some (.int .i64 h.o) ∧ V.cell? ⟨w.heap.size, 2, none⟩ = some (.int .i64 h.t) ∧ V.cell? ⟨w.heap.size, 3, none⟩ = some (.int .u32 h.i) ∧ V.cell? ⟨w.heap.size, 4, none⟩ = some (.int .u32 h.v) ∧ V.cell? ⟨w.heap.size, 5, none⟩ = some (.int .u32 h.q) ∧ V.cell? ⟨w.heap.size, 6, none⟩ = some (.int .i64 h.s) ∧ V.cell? ⟨w.heap.size, 7, none⟩ = some (.int .i64 h.n) ∧ V.cell? ⟨w.heap.size, 8, none⟩ = some (.slice A n c)) := Lib.hid (fun V hV => kb9_new hW0 hV)
 obtain ⟨W1, hW1⟩ : ∃ V, W0.alloc (.cells #[Value.int .i64 0, .int .i64 0, .int .i64 0, .int .u32 0, .int .u32 0, .int .u32 0, .int .i64 0, .int .i64 0, .slice none 0 0] 40) = V := ⟨_, rfl⟩
 have bW1 : Below W0.heap.size W0 W1 := by rw [← hW1]; exact below_alloc1 _ _
 have sW1 : W1.heap.size = W0.heap.size + 1 := by rw [← hW1]; simp
 have KZ : Hid (∀ V, Below W1.heap.size W1 V → V.heap[w.heap.size + 1]? = some (.cells #[Value.int .i64 0, .int .i64 0, .int .i64 0, .int .u32 0, .int .u32 0, .int .u32 0, .int .i64 0, .int .i64 0, .slice none 0 0] 40)) :=
  Lib.hid (fun V hV => by rw [hV.block _ (by omega), ← hW1]; exact alloc_at _ _ _ (by omega))
 have HB : Hid (Below w.heap.size w W1) := Lib.hid (bW0.trans (bW1.mono bW0.size))
 have KS : Hid (∀ V, Below W1.heap.size W1 V → V.cell? ⟨w.heap.size, 0, none⟩ = some (.int .i64 h.a) ∧ V.cell? ⟨w.heap.size, 1, none⟩ = some (.int .i64 h.o) ∧ V.cell? ⟨w.heap.size, 2, none⟩ = some (.int .i64 h.t) ∧ V.cell? ⟨w.heap.size, 3, none⟩ = some (.int .u32 h.i) ∧ V.cell? ⟨w.heap.size, 4, none⟩ = some (.int .u32 h.v) ∧ V.cell? ⟨w.heap.size, 5, none⟩ = some (.int .u32 h.q) ∧ V.cell? ⟨w.heap.size, 6, none⟩ = some (.int .i64 h.s) ∧ V.cell? ⟨w.heap.size, 7, none⟩ = some (.int .i64 h.n) ∧ V.cell? ⟨w.heap.size, 8, none⟩ = some (.slice A n c)) := Lib.hid (fun V hV => KX.out V (bW1.trans (hV.mono bW1.size)))
 have tt : Below W1.heap.size W1 W1 := Below.refl _ _
 have q0 := hb.step HB.out
 have hs1 : W1.heap.size = w.heap.size + 2 := by omega
 have HS1 := Lib.hid hs1
 have HN := Lib.hid hn
 clear hb bW0 bW1 KX hn hs1
 go_enter Tryz.func68, Tryz.ntmps68
 go_wp2_with fail
 refine wp_region_held_drew (S := fun V => V.cell? ⟨w.heap.size, 0, none⟩ = some (.int .i64 h.a) ∧ V.cell? ⟨w.heap.size, 1, none⟩ = some (.int .i64 h.o) ∧ V.cell? ⟨w.heap.size, 2, none⟩ = some (.int .i64 h.t) ∧ V.cell? ⟨w.heap.size, 3, none⟩ = some (.int .u32 h.i) ∧ V.cell? ⟨w.heap.size, 4, none⟩ = some (.int .u32 h.v) ∧ V.cell? ⟨w.heap.size, 5, none⟩ = some (.int .u32 h.q) ∧ V.cell? ⟨w.heap.size, 6, none⟩ = some (.int .i64 h.s) ∧ V.cell? ⟨w.heap.size, 7, none⟩ = some (.int .i64 h.n) ∧ V.cell? ⟨w.heap.size, 8, none⟩ = some (.slice A n c)) (by kernel_rfl) (KS.out _ tt.drew) (fun hHeld => ?_)
 replace q0 := q0.step tt.drew
 replace tt : Below W1.heap.size W1 W1.drew := tt.drew
 generalize hX0 : W1.drew = Y0 at tt q0 hHeld ⊢
 clear hX0
 refine wpAnyH_take (i := 0) (v := ?_) rfl (by kernel_rfl) (by kernel_rfl) (by kernel_rfl) (fun _ _ _ h => h) (Or.inl ⟨by rfl, ?_⟩) (by assumption) ?_
 rotate_left
 ·(intro w' hSw; (try dsimp only at hSw); go_simp; try with_reducible rfl)
 simp only [Act.put, getElem_toArray, getElem_cons_zero, setIfInBounds_toArray, set_cons_zero, set_cons_succ]
 refine wpAnyH_take (i := 1) (v := ?_) rfl (by kernel_rfl) (by kernel_rfl) (by kernel_rfl) (fun _ _ _ h => h) (Or.inl ⟨by rfl, ?_⟩) (by assumption) ?_
 rotate_left
 ·(intro w' hSw; (try dsimp only at hSw); go_simp; try with_reducible rfl)
 simp only [Act.put, getElem_toArray, getElem_cons_zero, getElem_cons_succ, setIfInBounds_toArray, set_cons_zero, set_cons_succ]
 refine wpAnyH_take (i := 2) (v := ?_) rfl (by kernel_rfl) (by kernel_rfl) (by kernel_rfl) (fun _ _ _ h => h) (Or.inl ⟨by rfl, ?_⟩) (by assumption) ?_
 rotate_left
 ·(intro w' hSw; (try dsimp only at hSw); go_simp; try with_reducible rfl)
 simp only [Act.put, getElem_toArray, getElem_cons_zero, getElem_cons_succ, setIfInBounds_toArray, set_cons_zero, set_cons_succ]
 refine wpAnyH_take (i := 3) (v := ?_) rfl (by kernel_rfl) (by kernel_rfl) (by kernel_rfl) (fun _ _ _ h => h) (Or.inl ⟨by rfl, ?_⟩) (by assumption) ?_
 rotate_left
 ·(intro w' hSw; (try dsimp only at hSw); go_simp; try with_reducible rfl)
 simp only [Act.put, getElem_toArray, getElem_cons_zero, getElem_cons_succ, setIfInBounds_toArray, set_cons_zero, set_cons_succ]
 refine wpAnyH_ready (rs := [4]) (by kernel_rfl) (by simp) ?_
 refine AllReadyH.cons rfl (fun K hK => ?_) AllReadyH.nil
 go_simp
 go_at_call 67
 refine (clone_any A n c l Y0 HN.out q0 hl).mono ?_
 rintro e Y1 ⟨A1, c1, rfl, o1, u1⟩
 have t_Y1 : Below W1.heap.size W1 Y1 := tt.trans (u1.mono tt.size)
 replace q0 := q0.step u1
 refine hK.out _ _ (KS.out _ t_Y1) (fun _ => ?_)
 clear hK K
 refine wpAnyH_take (i := 5) (v := .agg #[.int .i64 h.a, .int .i64 h.o, .int .i64 h.t, .int .u32 h.i, .int .u32 h.v, .int .u32 h.q, .int .i64 h.s, .int .i64 h.n, .slice A1 n c1]) rfl (by kernel_rfl) (by kernel_rfl) (by kernel_rfl) (fun _ _ _ h => h) (Or.inl ⟨by rfl, ?_⟩) (by assumption) ?_
 ·(intro w' hSw; (try dsimp only at hSw); go_simp; try rfl)
 simp only [Act.put, getElem_toArray, getElem_cons_zero, getElem_cons_succ, setIfInBounds_toArray, set_cons_zero, set_cons_succ]
 refine wpAnyH_ready (rs := [6]) (by kernel_rfl) (by simp) ?_
 refine AllReadyH.cons rfl (fun K hK => ?_) AllReadyH.nil
 obtain ⟨a0, a1, a2, a3, a4, a5, a6, a7, a8, f0, f1, f2, f3, f4, f5, f6, f7, f8, hzl⟩ := kz9_at (KZ.out _ t_Y1)
 have KR := Lib.hid <| kz9_get (KZ.out _ t_Y1) (Value.int .i64 h.a) (.int .i64 h.o) (.int .i64 h.t) (.int .u32 h.i) (.int .u32 h.v) (.int .u32 h.q) (.int .i64 h.s) (.int .i64 h.n) (.slice A1 n c1)
 have TF : Hid (Below w.heap.size w (st9 Y1 (w.heap.size + 1) (.int .i64 h.a) (.int .i64 h.o) (.int .i64 h.t) (.int .u32 h.i) (.int .u32 h.v) (.int .u32 h.q) (.int .i64 h.s) (.int .i64 h.n) (.slice A1 n c1))) := Lib.hid <| below_st9 (HB.out.trans (t_Y1.mono HB.out.size)) (by omega) _ _ _ _ _ _ _ _ _
 have OF := Lib.hid <| (o1.far9 (b := w.heap.size + 1) (by have := tt.size; have := HS1.out; omega) (.int .i64 h.a) (.int .i64 h.o) (.int .i64 h.t) (.int .u32 h.i) (.int .u32 h.v) (.int .u32 h.q) (.int .i64 h.s) (.int .i64 h.n) (.slice A1 n c1)).lower (base' := w.heap.size) (by have := tt.size; have := HS1.out; omega)
 have KF : Hid ((st9 Y1 (w.heap.size + 1) (.int .i64 h.a) (.int .i64 h.o) (.int .i64 h.t) (.int .u32 h.i) (.int .u32 h.v) (.int .u32 h.q) (.int .i64 h.s) (.int .i64 h.n) (.slice A1 n c1)).cell? ⟨w.heap.size, 0, none⟩ = some (.int .i64 h.a) ∧ (st9 Y1 (w.heap.size + 1) (.int .i64 h.a) (.int .i64 h.o) (.int .i64 h.t) (.int .u32 h.i) (.int .u32 h.v) (.int .u32 h.q) (.int .i64 h.s) (.int .i64 h.n) (.slice A1 n c1)).cell? ⟨w.heap.size, 1, none⟩ = some (.int .i64 h.o) ∧ (st9 Y1 (w.heap.size + 1) (.int .i64 h.a) (.int .i64 h.o) (.int .i64 h.t) (.int .u32 h.i) (.int .u32 h.v) (.int .u32 h.q) (.int .i64 h.s) (.int .i64 h.n) (.slice A1 n c1)).cell? ⟨w.heap.size, 2, none⟩ = some (.int .i64 h.t) ∧ (st9 Y1 (w.heap.size + 1) (.int .i64 h.a) (.int .i64 h.o) (.int .i64 h.t) (.int .u32 h.i) (.int .u32 h.v) (.int .u32 h.q) (.int .i64 h.s) (.int .i64 h.n) (.slice A1 n c1)).cell? ⟨w.heap.size, 3, none⟩ = some (.int .u32 h.i) ∧ (st9 Y1 (w.heap.size + 1) (.int .i64 h.a) (.int .i64 h.o) (.int .i64 h.t) (.int .u32 h.i) (.int .u32 h.v) (.int .u32 h.q) (.int .i64 h.s) (.int .i64 h.n) (.slice A1 n c1)).cell? ⟨w.heap.size, 4, none⟩ = some (.int .u32 h.v) ∧ (st9 Y1 (w.heap.size + 1) (.int .i64 h.a) (.int .i64 h.o) (.int .i64 h.t) (.int .u32 h.i) (.int .u32 h.v) (.int .u32 h.q) (.int .i64 h.s) (.int .i64 h.n) (.slice A1 n c1)).cell? ⟨w.heap.size, 5, none⟩ = some (.int .u32 h.q) ∧ (st9 Y1 (w.heap.size + 1) (.int .i64 h.a) (.int .i64 h.o) (.int .i64 h.t) (.int .u32 h.i) (.int .u32 h.v) (.int .u32 h.q) (.int .i64 h.s) (.int .i64 h.n) (.slice A1 n c1)).cell? ⟨w.heap.size, 6, none⟩ = some (.int .i64 h.s) ∧ (st9 Y1 (w.heap.size + 1) (.int .i64 h.a) (.int .i64 h.o) (.int .i64 h.t) (.int .u32 h.i) (.int .u32 h.v) (.int .u32 h.q) (.int .i64 h.s) (.int .i64 h.n) (.slice A1 n c1)).cell? ⟨w.heap.size, 7, none⟩ = some (.int .i64 h.n) ∧ (st9 Y1 (w.heap.size + 1) (.int .i64 h.a) (.int .i64 h.o) (.int .i64 h.t) (.int .u32 h.i) (.int .u32 h.v) (.int .u32 h.q) (.int .i64 h.s) (.int .i64 h.n) (.slice A1 n c1)).cell? ⟨w.heap.size, 8, none⟩ = some (.slice A n c)) := Lib.hid <| by
  obtain ⟨e0, e1, e2, e3, e4, e5, e6, e7, e8⟩ := KS.out _ t_Y1
  exact ⟨(cell_st9 (p := ⟨w.heap.size, 0, none⟩) (show w.heap.size ≠ w.heap.size + 1 by omega) _ _ _ _ _ _ _ _ _).trans e0, (cell_st9 (p := ⟨w.heap.size, 1, none⟩) (show w.heap.size ≠ w.heap.size + 1 by omega) _ _ _ _ _ _ _ _ _).trans e1, (cell_st9 (p := ⟨w.heap.size, 2, none⟩) (show w.heap.size ≠ w.heap.size + 1 by omega) _ _ _ _ _ _ _ _ _).trans e2, (cell_st9 (p := ⟨w.heap.size, 3, none⟩) (show w.heap.size ≠ w.heap.size + 1 by omega) _ _ _ _ _ _ _ _ _).trans e3, (cell_st9 (p := ⟨w.heap.size, 4, none⟩) (show w.heap.size ≠ w.heap.size + 1 by omega) _ _ _ _ _ _ _ _ _).trans e4, (cell_st9 (p := ⟨w.heap.size, 5, none⟩) (show w.heap.size ≠ w.heap.size + 1 by omega) _ _ _ _ _ _ _ _ _).trans e5, (cell_st9 (p := ⟨w.heap.size, 6, none⟩) (show w.heap.size ≠ w.heap.size + 1 by omega) _ _ _ _ _ _ _ _ _).trans e6, (cell_st9 (p := ⟨w.heap.size, 7, none⟩) (show w.heap.size ≠ w.heap.size + 1 by omega) _ _ _ _ _ _ _ _ _).trans e7, (cell_st9 (p := ⟨w.heap.size, 8, none⟩) (show w.heap.size ≠ w.heap.size + 1 by omega) _ _ _ _ _ _ _ _ _).trans e8⟩
 go_simp
 refine hK.out _ _ KF.out (fun _ => ?_)
 clear hK K
 refine wpAnyH_done (by kernel_rfl) ?_ _
 go_wp2
 obtain ⟨r0, r1, r2, r3, r4, r5, r6, r7, r8⟩ := KR.out
 refine bodyPost_ret (v := .agg #[.int .i64 h.a, .int .i64 h.o, .int .i64 h.t, .int .u32 h.i, .int .u32 h.v, .int .u32 h.q, .int .i64 h.s, .int .i64 h.n, .slice A1 n c1]) (by simp [results, Tryz.results68, go_sem, r0, r1, r2, r3, r4, r5, r6, r7, r8]) rfl ⟨_, _, rfl, OF.out, TF.out⟩
end Go.Proofs.YtadcicmccdphkaaGreat
namespace Go.Proofs.YtadcicmccdphkaaGreat
open Go.RowKit

theorem two_at (l : List Int) (a : Nat) (x y : Int) (h : a + 2 ≤ l.length) : (two l a x y)[a]? = some x := by
 simp only [two, List.getElem?_set, List.length_set]
 rw [if_neg (by omega), if_pos trivial, if_pos (by omega)]
theorem two_at1 (l : List Int) (a : Nat) (x y : Int) (h : a + 2 ≤ l.length) : (two l a x y)[a + 1]? = some y := by
 simp only [two, List.getElem?_set, List.length_set]
 rw [if_pos trivial, if_pos (by omega)]
theorem get_of {l : List Int} {i : Nat} {x : Int} (h : l[i]? = some x) : ∃ hi : i < l.length, l[i] = x := List.getElem?_eq_some_iff.1 h
theorem set_at1 (l : List Int) (a : Nat) (x y : Int) (v : Int) (h : a + 2 ≤ l.length) : ((two l a x y).set a v)[a + 1]? = some y := by
 rw [List.getElem?_set, if_neg (by omega)]; exact two_at1 l a x y h
theorem two_s0 (l : List Int) (a : Nat) (x y : Int) (h : a + 2 ≤ l.length) : s0 (two l a x y) = s0 (two l a 0 0) + x + y := by
 obtain ⟨h1, e1⟩ := get_of (two_at l a 0 0 h)
 obtain ⟨h2, e2⟩ := get_of (set_at1 l a 0 0 x h)
 rw [← two_two l a 0 0 x y]
 show s0 (((two l a 0 0).set a x).set (a + 1) y) = _
 rw [s0_set _ _ _ h2, s0_set _ _ _ h1, e1, e2]
 omega
theorem two_s1 (l : List Int) (a : Nat) (x y : Int) (h : a + 2 ≤ l.length) : s1 (two l a x y) = s1 (two l a 0 0) + ((l.length : Int) - a) * x + ((l.length : Int) - a - 1) * y := by
 obtain ⟨h1, e1⟩ := get_of (two_at l a 0 0 h)
 obtain ⟨h2, e2⟩ := get_of (set_at1 l a 0 0 x h)
 rw [← two_two l a 0 0 x y]
 show s1 (((two l a 0 0).set a x).set (a + 1) y) = _
 rw [s1_set _ _ _ h2, s1_set _ _ _ h1, e1, e2, List.length_set, two_length]
 rw [show (l.length : Int) - ((a + 1 : Nat) : Int) = (l.length : Int) - a - 1 by omega, Int.sub_zero, Int.sub_zero]

theorem nz_eq (n : Int) : ∃ u, nz n = n + 255 * u := ⟨-((n - 1) / 255), by unfold nz; omega⟩
theorem place_fits (l : List Int) (a : Nat) (h : a + 2 ≤ l.length) : p0 (placed l a) = 0 ∧ p1 (placed l a) = 0 := by
 have e0 := two_s0 l a (placeX l a) (placeY l a) h
 have e1 := two_s1 l a (placeX l a) (placeY l a) h
 obtain ⟨u, hu⟩ := nz_eq (fst1 l a)
 obtain ⟨v, hv⟩ := nz_eq (-p0 (two l a 0 0) - fst1 l a)
 have hX : placeX l a = fst1 l a + 255 * u := hu
 have hY : placeY l a = -p0 (two l a 0 0) - fst1 l a + 255 * v := hv
 have hF : fst1 l a = ((l.length : Int) - a - 1) * p0 (two l a 0 0) - p1 (two l a 0 0) := rfl
 have hp : s0 (two l a 0 0) = p0 (two l a 0 0) + 255 * (s0 (two l a 0 0) / 255) := by unfold p0; omega
 have hq : s1 (two l a 0 0) = p1 (two l a 0 0) + 255 * (s1 (two l a 0 0) / 255) := by unfold p1; omega
 have g0 : s0 (placed l a) = 255 * (s0 (two l a 0 0) / 255 + u + v) := by
  show s0 (two l a (placeX l a) (placeY l a)) = _
  rw [e0, hX, hY]; omega
 have g1 : s1 (placed l a) = 255 * (s1 (two l a 0 0) / 255 + ((l.length : Int) - a) * u + ((l.length : Int) - a - 1) * v) := by
  show s1 (two l a (placeX l a) (placeY l a)) = _
  rw [e1, hX, hY]
  generalize s1 (two l a 0 0) / 255 = q at hq ⊢
  generalize p0 (two l a 0 0) = X at hF ⊢
  generalize s1 (two l a 0 0) = S at hq ⊢
  generalize p1 (two l a 0 0) = Y at hF hq ⊢
  generalize fst1 l a = F at hF ⊢
  generalize (l.length : Int) - a = T at hF ⊢
  grind
 constructor
 ·unfold p0; rw [g0]; omega
 ·unfold p1; rw [g1]; omega

theorem placeX_bd (l : List Int) (a : Nat) : 1 ≤ placeX l a ∧ placeX l a ≤ 255 := nz_bd _
theorem placeY_bd (l : List Int) (a : Nat) : 1 ≤ placeY l a ∧ placeY l a ≤ 255 := nz_bd _

end Go.Proofs.YtadcicmccdphkaaGreat
