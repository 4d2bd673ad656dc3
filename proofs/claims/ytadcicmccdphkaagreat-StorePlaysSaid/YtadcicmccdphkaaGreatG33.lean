/-
  Contracts of the reference's raw at any header, of its MayAd, Encode and Whole. Contracts of the reference's Encode and Whole. No statement is proved here; no conditions.
-/
import Derived.Test.YtadcicmccdphkaaGreatG32
import Derived.Test.YtadcicmccdphkaaGreatG15
import Derived.Test.YtadcicmccdphkaaGreatG06
namespace Go.Proofs.YtadcicmccdphkaaGreat
open Go.RowKit Go.Joins
open List (getElem_toArray getElem_cons_zero getElem_cons_succ setIfInBounds_toArray set_cons_zero set_cons_succ)

theorem two_gen (n : Int) (w : World) :
  Calls Tryz.prog 85 #[.int .i64 n] w fun e w' => ∃ A' c' X, X.length = 2 ∧ e = .returned (.slice A' 2 c') ∧ Own .u8 5 w' w.heap.size A' c' X ∧ Below w.heap.size w w' := by
 go_enter Tryz.func85, Tryz.ntmps85
 go_wp2
 go_ret
 exact ⟨_, _, [_, _], rfl, rfl, Own.lit w w.heap.size (Nat.le_refl _) [_, _] (by simp [maxLen]), below_alloc1 _ _⟩
set_option maxRecDepth 100000 in
set_option maxHeartbeats 4000000 in
theorem raw_bad (h : Hd) (w : World) (ok : Okd h) :
  Calls Tryz.prog 59 #[.agg #[.int .i64 h.a, .int .i64 h.o, .int .i64 h.t, .int .u32 h.i, .int .u32 h.v, .int .u32 h.q, .int .i64 h.s, .int .i64 h.n]] w fun e w' => ∃ A' c' X, X.length = 20 ∧ e = .returned (.slice A' 20 c') ∧ Own .u8 5 w' w.heap.size A' c' X ∧ Below w.heap.size w w' := by
 obtain ⟨W0, hW0⟩ : ∃ V, w.alloc (.cells #[.int .i64 h.a, .int .i64 h.o, .int .i64 h.t, .int .u32 h.i, .int .u32 h.v, .int .u32 h.q, .int .i64 h.s, .int .i64 h.n] 37) = V := ⟨_, rfl⟩
 have bW0 : Below w.heap.size w W0 := by rw [← hW0]; exact below_alloc1 _ _
 have sW0 : W0.heap.size = w.heap.size + 1 := by rw [← hW0]; simp
 have KX : Hid (∀ V, Below W0.heap.size W0 V → V.cell? ⟨w.heap.size, 0, none⟩ = some (.int .i64 h.a) ∧ V.cell? ⟨w.heap.size, 1, none⟩ = some (.int .i64 h.o) ∧ V.cell? ⟨w.heap.size, 2, none⟩ = some (.int .i64 h.t) ∧ V.cell? ⟨w.heap.size, 3, none⟩ = some (.int .u32 h.i) ∧ V.cell? ⟨w.heap.size, 4, none⟩ = some (.int .u32 h.v) ∧ V.cell? ⟨w.heap.size, 5, none⟩ = some (.int .u32 h.q) ∧ V.cell? ⟨w.heap.size, 6, none⟩ = some (.int .i64 h.s) ∧ V.cell? ⟨w.heap.size, 7, none⟩ = some (.int .i64 h.n)) := Lib.hid (fun V hV => kb8_new hW0 hV)
 have HB : Hid (Below w.heap.size w W0) := Lib.hid bW0
 obtain ⟨hi0, hi1⟩ := ok.i
 obtain ⟨hv0, hv1⟩ := ok.v
 obtain ⟨hq0, hq1⟩ := ok.q
 obtain ⟨i0, hi0', hz0, hz1, hz2⟩ := info_of info5
 have t0 : Below W0.heap.size W0 W0 := Below.refl _ _
 obtain ⟨xo, hxo⟩ : ∃ x, IntKind.u8.wrap h.o = x := ⟨_, rfl⟩
 obtain ⟨xt, hxt⟩ : ∃ x, IntKind.u8.wrap h.t = x := ⟨_, rfl⟩
 have HXO := Lib.hid hxo
 have HXT := Lib.hid hxt
 clear bW0 ok hxo hxt
 go_enter Tryz.func59, Tryz.ntmps59
 go_wp2_with fail
 refine wp_region_held_drew (S := fun V => V.cell? ⟨w.heap.size, 0, none⟩ = some (.int .i64 h.a) ∧ V.cell? ⟨w.heap.size, 1, none⟩ = some (.int .i64 h.o) ∧ V.cell? ⟨w.heap.size, 2, none⟩ = some (.int .i64 h.t) ∧ V.cell? ⟨w.heap.size, 3, none⟩ = some (.int .u32 h.i) ∧ V.cell? ⟨w.heap.size, 4, none⟩ = some (.int .u32 h.v) ∧ V.cell? ⟨w.heap.size, 5, none⟩ = some (.int .u32 h.q) ∧ V.cell? ⟨w.heap.size, 6, none⟩ = some (.int .i64 h.s) ∧ V.cell? ⟨w.heap.size, 7, none⟩ = some (.int .i64 h.n)) (by kernel_rfl) (KX.out _ t0.drew) (fun hHeld => ?_)
 replace t0 : Below W0.heap.size W0 W0.drew := t0.drew
 generalize hX0 : W0.drew = Y0 at t0 hHeld ⊢
 clear hX0
 refine wpAnyH_take (i := 0) (v := ?_) rfl (by kernel_rfl) (by kernel_rfl) (by kernel_rfl) (fun _ _ _ h => h) (Or.inl ⟨by rfl, ?_⟩) (by assumption) ?_
 rotate_left
 ·(intro w' hSw; (try dsimp only at hSw); go_simp; try with_reducible rfl)
 simp only [Act.put, getElem_toArray, getElem_cons_zero, setIfInBounds_toArray, set_cons_zero, set_cons_succ]
 refine wpAnyH_take (i := 1) (v := ?_) rfl (by kernel_rfl) (by kernel_rfl) (by kernel_rfl) (fun _ _ _ h => h) (Or.inl ⟨by rfl, ?_⟩) (by assumption) ?_
 rotate_left
 ·(intro w' hSw; (try dsimp only at hSw); go_simp; try with_reducible rfl)
 simp only [Act.put, getElem_toArray, getElem_cons_zero, getElem_cons_succ, setIfInBounds_toArray, set_cons_zero, set_cons_succ]
 refine wpAnyH_take (i := 3) (v := ?_) rfl (by kernel_rfl) (by kernel_rfl) (by kernel_rfl) (fun _ _ _ h => h) (Or.inl ⟨by rfl, ?_⟩) (by assumption) ?_
 rotate_left
 ·(intro w' hSw; (try dsimp only at hSw); go_simp; try with_reducible rfl)
 simp only [Act.put, getElem_toArray, getElem_cons_zero, getElem_cons_succ, setIfInBounds_toArray, set_cons_zero, set_cons_succ]
 refine wpAnyH_take (i := 4) (v := ?_) rfl (by kernel_rfl) (by kernel_rfl) (by kernel_rfl) (fun _ _ _ h => h) (Or.inl ⟨by rfl, ?_⟩) (by assumption) ?_
 rotate_left
 ·(intro w' hSw; (try dsimp only at hSw); go_simp; try with_reducible rfl)
 simp only [Act.put, getElem_toArray, getElem_cons_zero, getElem_cons_succ, setIfInBounds_toArray, set_cons_zero, set_cons_succ]
 refine wpAnyH_take (i := 5) (v := .int .u8 xo) rfl (by kernel_rfl) (by kernel_rfl) (by kernel_rfl) (fun _ _ _ h => h) (Or.inl ⟨by rfl, ?_⟩) (by assumption) ?_
 ·(intro w' hSw; (try dsimp only at hSw); go_simp; try rw [HXO.out])
 simp only [Act.put, getElem_toArray, getElem_cons_zero, getElem_cons_succ, setIfInBounds_toArray, set_cons_zero, set_cons_succ]
 refine wpAnyH_take (i := 6) (v := ?_) rfl (by kernel_rfl) (by kernel_rfl) (by kernel_rfl) (fun _ _ _ h => h) (Or.inl ⟨by rfl, ?_⟩) (by assumption) ?_
 rotate_left
 ·(intro w' hSw; (try dsimp only at hSw); go_simp; try with_reducible rfl)
 simp only [Act.put, getElem_toArray, getElem_cons_zero, getElem_cons_succ, setIfInBounds_toArray, set_cons_zero, set_cons_succ]
 refine wpAnyH_take (i := 7) (v := ?_) rfl (by kernel_rfl) (by kernel_rfl) (by kernel_rfl) (fun _ _ _ h => h) (Or.inl ⟨by rfl, ?_⟩) (by assumption) ?_
 rotate_left
 ·(intro w' hSw; (try dsimp only at hSw); go_simp; try with_reducible rfl)
 simp only [Act.put, getElem_toArray, getElem_cons_zero, getElem_cons_succ, setIfInBounds_toArray, set_cons_zero, set_cons_succ]
 refine wpAnyH_take (i := 8) (v := .int .u8 xt) rfl (by kernel_rfl) (by kernel_rfl) (by kernel_rfl) (fun _ _ _ h => h) (Or.inl ⟨by rfl, ?_⟩) (by assumption) ?_
 ·(intro w' hSw; (try dsimp only at hSw); go_simp; try rw [HXT.out])
 simp only [Act.put, getElem_toArray, getElem_cons_zero, getElem_cons_succ, setIfInBounds_toArray, set_cons_zero, set_cons_succ]
 refine wpAnyH_ready (rs := [2, 9]) (by kernel_rfl) (by simp) ?_
 refine AllReadyH.cons rfl (fun K hK => ?_) ?_
 ·go_simp
  go_at_call 85
  refine (two_gen h.a Y0).mono ?_
  rintro e Y1 ⟨A1, c1, Xa, la, rfl, o1, u1⟩
  have t_Y1 : Below W0.heap.size W0 Y1 := t0.trans (u1.mono t0.size)
  have oa := o1.lower (base' := W0.heap.size) t0.size
  clear o1
  refine hK.out _ _ (KX.out _ t_Y1) (fun _ => ?_)
  clear hK K
  refine wpAnyH_ready (rs := [9]) (by kernel_rfl) (by simp) ?_
  refine AllReadyH.cons rfl (fun K hK => ?_) AllReadyH.nil
  go_simp
  obtain ⟨Y2, hY2⟩ : ∃ V, Y1.alloc (.cells #[.int .u8 xo, .int .u8 xt] 5) = V := ⟨_, rfl⟩
  have u2 : Below Y1.heap.size Y1 Y2 := by rw [← hY2]; exact below_alloc1 _ _
  have t_Y2 : Below W0.heap.size W0 Y2 := t_Y1.trans (u2.mono t_Y1.size)
  replace oa := oa.step u2
  obtain ⟨k2, hk2⟩ : ∃ k, Y1.heap.size = k := ⟨_, rfl⟩
  have zr : Bt Y2 (some ⟨k2, 0, none⟩) [xo, xt] := by
   rw [← hY2]
   exact Bs.mk _ _ _ _ _ _ hk2 (by simp [maxLen]) rfl
  try rw [hY2]
  try rw [hk2]
  refine hK.out _ _ (KX.out _ t_Y2) (fun _ => ?_)
  clear hK K
  refine wpAnyH_ready (rs := [10]) (by kernel_rfl) (by simp) ?_
  refine AllReadyH.cons rfl (fun K hK => ?_) AllReadyH.nil
  obtain ⟨A3, c3, Y3, rY3, oY3, tY3⟩ := run_apn (P := Tryz.prog) Y2 W0.heap.size 38 38 5 .u8 i0 _ 1 Tryz.underlying38 hi0' hz0 hz1 hz2 rfl _ _ _ oa _ (some ⟨k2, 0, none⟩) 2 _ zr 2 2 la rfl (by unfold maxLen; omega) (by omega) t_Y2.size
  have t_Y3 : Below W0.heap.size W0 Y3 := t_Y2.trans tY3
  have l3 : (Xa ++ [xo, xt]).length = 4 := by rw [List.length_append, la]; rfl
  generalize Xa ++ [xo, xt] = P4 at *
  refine step_runb _ rfl (.tmp 6) (.tmp 13) 38 rfl rfl rfl rY3 ?_
  refine hK.out _ _ (KX.out _ t_Y3) (fun _ => ?_)
  clear hK K
  refine wpAnyH_ready (rs := [11]) (by kernel_rfl) (by simp) ?_
  refine AllReadyH.cons rfl (fun K hK => ?_) AllReadyH.nil
  go_simp
  refine hK.out _ _ (KX.out _ t_Y3) (fun _ => ?_)
  clear hK K
  refine wpAnyH_done (by kernel_rfl) ?_ _
  clear oa zr
  obtain ⟨k0, k1, k2, k3, k4, k5, k6, k7⟩ := KX.out _ t_Y3
  go_wp2_with fail
  refine (four_any h.i _ (by omega) (by omega)).mono ?_
  rintro e Y4 ⟨A4, c4, rfl, o4, u4⟩
  have ly4 : (be h.i 4).length = 4 := be_length _ _
  clear k0 k1 k2 k3 k4 k5 k6 k7
  have t_Y4 : Below W0.heap.size W0 Y4 := t_Y3.trans (u4.mono t_Y3.size)
  have p4 := oY3.step u4
  obtain ⟨A5, c5, Y5, rY5, oY5, tY5⟩ := run_apn (P := Tryz.prog) Y4 W0.heap.size 38 38 5 .u8 i0 _ 1 Tryz.underlying38 hi0' hz0 hz1 hz2 rfl _ _ _ p4 _ A4 c4 _ o4.bs 4 4 l3 ly4 (by unfold maxLen; omega) (by omega) t_Y4.size
  have t_Y5 : Below W0.heap.size W0 Y5 := t_Y4.trans tY5
  have l5 : (P4 ++ be h.i 4).length = 8 := by rw [List.length_append, l3, ly4]
  generalize P4 ++ be h.i 4 = P8 at *
  clear oY3 u4 o4 p4 ly4
  obtain ⟨k0, k1, k2, k3, k4, k5, k6, k7⟩ := KX.out _ t_Y5
  simp only [Nat.reduceAdd] at rY5
  go_wp2_with (at_builtin; refine wpList_runb _ rfl (.tmp 15) (.tmp 18) 38 rfl rfl rfl rY5 ?_)
  clear rY5
  refine (four_any h.v _ (by omega) (by omega)).mono ?_
  rintro e Y6 ⟨A6, c6, rfl, o6, u6⟩
  have ly6 : (be h.v 4).length = 4 := be_length _ _
  clear k0 k1 k2 k3 k4 k5 k6 k7
  have t_Y6 : Below W0.heap.size W0 Y6 := t_Y5.trans (u6.mono t_Y5.size)
  have p6 := oY5.step u6
  obtain ⟨A7, c7, Y7, rY7, oY7, tY7⟩ := run_apn (P := Tryz.prog) Y6 W0.heap.size 38 38 5 .u8 i0 _ 1 Tryz.underlying38 hi0' hz0 hz1 hz2 rfl _ _ _ p6 _ A6 c6 _ o6.bs 8 4 l5 ly6 (by unfold maxLen; omega) (by omega) t_Y6.size
  have t_Y7 : Below W0.heap.size W0 Y7 := t_Y6.trans tY7
  have l7 : (P8 ++ be h.v 4).length = 12 := by rw [List.length_append, l5, ly6]
  generalize P8 ++ be h.v 4 = P12 at *
  clear oY5 u6 o6 p6 ly6
  obtain ⟨k0, k1, k2, k3, k4, k5, k6, k7⟩ := KX.out _ t_Y7
  simp only [Nat.reduceAdd] at rY7
  go_wp2_with (at_builtin; refine wpList_runb _ rfl (.tmp 20) (.tmp 23) 38 rfl rfl rfl rY7 ?_)
  clear rY7
  refine (four_any h.q _ (by omega) (by omega)).mono ?_
  rintro e Y8 ⟨A8, c8, rfl, o8, u8⟩
  have ly8 : (be h.q 4).length = 4 := be_length _ _
  clear k0 k1 k2 k3 k4 k5 k6 k7
  have t_Y8 : Below W0.heap.size W0 Y8 := t_Y7.trans (u8.mono t_Y7.size)
  have p8 := oY7.step u8
  obtain ⟨A9, c9, Y9, rY9, oY9, tY9⟩ := run_apn (P := Tryz.prog) Y8 W0.heap.size 38 38 5 .u8 i0 _ 1 Tryz.underlying38 hi0' hz0 hz1 hz2 rfl _ _ _ p8 _ A8 c8 _ o8.bs 12 4 l7 ly8 (by unfold maxLen; omega) (by omega) t_Y8.size
  have t_Y9 : Below W0.heap.size W0 Y9 := t_Y8.trans tY9
  have l9 : (P12 ++ be h.q 4).length = 16 := by rw [List.length_append, l7, ly8]
  generalize P12 ++ be h.q 4 = P16 at *
  clear oY7 u8 o8 p8 ly8
  obtain ⟨k0, k1, k2, k3, k4, k5, k6, k7⟩ := KX.out _ t_Y9
  simp only [Nat.reduceAdd] at rY9
  go_wp2_with (at_builtin; refine wpList_runb _ rfl (.tmp 25) (.tmp 28) 38 rfl rfl rfl rY9 ?_)
  clear rY9
  refine (two_gen h.s _).mono ?_
  rintro e Y10 ⟨A10, c10, X10, ly10, rfl, o10, u10⟩
  clear k0 k1 k2 k3 k4 k5 k6 k7
  have t_Y10 : Below W0.heap.size W0 Y10 := t_Y9.trans (u10.mono t_Y9.size)
  have p10 := oY9.step u10
  obtain ⟨A11, c11, Y11, rY11, oY11, tY11⟩ := run_apn (P := Tryz.prog) Y10 W0.heap.size 38 38 5 .u8 i0 _ 1 Tryz.underlying38 hi0' hz0 hz1 hz2 rfl _ _ _ p10 _ A10 c10 _ o10.bs 16 2 l9 ly10 (by unfold maxLen; omega) (by omega) t_Y10.size
  have t_Y11 : Below W0.heap.size W0 Y11 := t_Y10.trans tY11
  have l11 : (P16 ++ X10).length = 18 := by rw [List.length_append, l9, ly10]
  generalize P16 ++ X10 = P18 at *
  clear oY9 u10 o10 p10 ly10
  obtain ⟨k0, k1, k2, k3, k4, k5, k6, k7⟩ := KX.out _ t_Y11
  simp only [Nat.reduceAdd] at rY11
  go_wp2_with (at_builtin; refine wpList_runb _ rfl (.tmp 30) (.tmp 33) 38 rfl rfl rfl rY11 ?_)
  clear rY11
  refine (two_gen h.n _).mono ?_
  rintro e Y12 ⟨A12, c12, X12, ly12, rfl, o12, u12⟩
  clear k0 k1 k2 k3 k4 k5 k6 k7
  have t_Y12 : Below W0.heap.size W0 Y12 := t_Y11.trans (u12.mono t_Y11.size)
  have p12 := oY11.step u12
  obtain ⟨A13, c13, Y13, rY13, oY13, tY13⟩ := run_apn (P := Tryz.prog) Y12 W0.heap.size 38 38 5 .u8 i0 _ 1 Tryz.underlying38 hi0' hz0 hz1 hz2 rfl _ _ _ p12 _ A12 c12 _ o12.bs 18 2 l11 ly12 (by unfold maxLen; omega) (by omega) t_Y12.size
  have t_Y13 : Below W0.heap.size W0 Y13 := t_Y12.trans tY13
  have l13 : (P18 ++ X12).length = 20 := by rw [List.length_append, l11, ly12]
  generalize P18 ++ X12 = P20 at *
  clear oY11 u12 o12 p12 ly12
  obtain ⟨k0, k1, k2, k3, k4, k5, k6, k7⟩ := KX.out _ t_Y13
  simp only [Nat.reduceAdd] at rY13
  go_wp2_with (at_builtin; refine wpList_runb _ rfl (.tmp 35) (.tmp 38) 38 rfl rfl rfl rY13 ?_)
  clear rY13
  go_ret
  exact ⟨_, _, P20, l13, rfl, oY13.lower HB.out.size, HB.out.trans (t_Y13.mono HB.out.size)⟩
 refine AllReadyH.cons rfl (fun K hK => ?_) AllReadyH.nil
 go_simp
 obtain ⟨Y1, hY1⟩ : ∃ V, Y0.alloc (.cells #[.int .u8 xo, .int .u8 xt] 5) = V := ⟨_, rfl⟩
 have u1 : Below Y0.heap.size Y0 Y1 := by rw [← hY1]; exact below_alloc1 _ _
 have t_Y1 : Below W0.heap.size W0 Y1 := t0.trans (u1.mono t0.size)
 obtain ⟨k1, hk1⟩ : ∃ k, Y0.heap.size = k := ⟨_, rfl⟩
 have zr : Bt Y1 (some ⟨k1, 0, none⟩) [xo, xt] := by
  rw [← hY1]
  exact Bs.mk _ _ _ _ _ _ hk1 (by simp [maxLen]) rfl
 try rw [hY1]
 try rw [hk1]
 refine hK.out _ _ (KX.out _ t_Y1) (fun _ => ?_)
 clear hK K
 refine wpAnyH_ready (rs := [2]) (by kernel_rfl) (by simp) ?_
 refine AllReadyH.cons rfl (fun K hK => ?_) AllReadyH.nil
 go_simp
 go_at_call 85
 refine (two_gen h.a Y1).mono ?_
 rintro e Y2 ⟨A2, c2, Xa, la, rfl, o2, u2⟩
 have t_Y2 : Below W0.heap.size W0 Y2 := t_Y1.trans (u2.mono t_Y1.size)
 replace zr := zr.step u2
 have oa := o2.lower (base' := W0.heap.size) t_Y1.size
 clear o2
 refine hK.out _ _ (KX.out _ t_Y2) (fun _ => ?_)
 clear hK K
 refine wpAnyH_ready (rs := [10]) (by kernel_rfl) (by simp) ?_
 refine AllReadyH.cons rfl (fun K hK => ?_) AllReadyH.nil
 obtain ⟨A3, c3, Y3, rY3, oY3, tY3⟩ := run_apn (P := Tryz.prog) Y2 W0.heap.size 38 38 5 .u8 i0 _ 1 Tryz.underlying38 hi0' hz0 hz1 hz2 rfl _ _ _ oa _ (some ⟨k1, 0, none⟩) 2 _ zr 2 2 la rfl (by unfold maxLen; omega) (by omega) t_Y2.size
 have t_Y3 : Below W0.heap.size W0 Y3 := t_Y2.trans tY3
 have l3 : (Xa ++ [xo, xt]).length = 4 := by rw [List.length_append, la]; rfl
 generalize Xa ++ [xo, xt] = P4 at *
 refine step_runb _ rfl (.tmp 6) (.tmp 13) 38 rfl rfl rfl rY3 ?_
 refine hK.out _ _ (KX.out _ t_Y3) (fun _ => ?_)
 clear hK K
 refine wpAnyH_ready (rs := [11]) (by kernel_rfl) (by simp) ?_
 refine AllReadyH.cons rfl (fun K hK => ?_) AllReadyH.nil
 go_simp
 refine hK.out _ _ (KX.out _ t_Y3) (fun _ => ?_)
 clear hK K
 refine wpAnyH_done (by kernel_rfl) ?_ _
 clear oa zr
 obtain ⟨k0, k1, k2, k3, k4, k5, k6, k7⟩ := KX.out _ t_Y3
 go_wp2_with fail
 refine (four_any h.i _ (by omega) (by omega)).mono ?_
 rintro e Y4 ⟨A4, c4, rfl, o4, u4⟩
 have ly4 : (be h.i 4).length = 4 := be_length _ _
 clear k0 k1 k2 k3 k4 k5 k6 k7
 have t_Y4 : Below W0.heap.size W0 Y4 := t_Y3.trans (u4.mono t_Y3.size)
 have p4 := oY3.step u4
 obtain ⟨A5, c5, Y5, rY5, oY5, tY5⟩ := run_apn (P := Tryz.prog) Y4 W0.heap.size 38 38 5 .u8 i0 _ 1 Tryz.underlying38 hi0' hz0 hz1 hz2 rfl _ _ _ p4 _ A4 c4 _ o4.bs 4 4 l3 ly4 (by unfold maxLen; omega) (by omega) t_Y4.size
 have t_Y5 : Below W0.heap.size W0 Y5 := t_Y4.trans tY5
 have l5 : (P4 ++ be h.i 4).length = 8 := by rw [List.length_append, l3, ly4]
 generalize P4 ++ be h.i 4 = P8 at *
 clear oY3 u4 o4 p4 ly4
 obtain ⟨k0, k1, k2, k3, k4, k5, k6, k7⟩ := KX.out _ t_Y5
 simp only [Nat.reduceAdd] at rY5
 go_wp2_with (at_builtin; refine wpList_runb _ rfl (.tmp 15) (.tmp 18) 38 rfl rfl rfl rY5 ?_)
 clear rY5
 refine (four_any h.v _ (by omega) (by omega)).mono ?_
 rintro e Y6 ⟨A6, c6, rfl, o6, u6⟩
 have ly6 : (be h.v 4).length = 4 := be_length _ _
 clear k0 k1 k2 k3 k4 k5 k6 k7
 have t_Y6 : Below W0.heap.size W0 Y6 := t_Y5.trans (u6.mono t_Y5.size)
 have p6 := oY5.step u6
 obtain ⟨A7, c7, Y7, rY7, oY7, tY7⟩ := run_apn (P := Tryz.prog) Y6 W0.heap.size 38 38 5 .u8 i0 _ 1 Tryz.underlying38 hi0' hz0 hz1 hz2 rfl _ _ _ p6 _ A6 c6 _ o6.bs 8 4 l5 ly6 (by unfold maxLen; omega) (by omega) t_Y6.size
 have t_Y7 : Below W0.heap.size W0 Y7 := t_Y6.trans tY7
 have l7 : (P8 ++ be h.v 4).length = 12 := by rw [List.length_append, l5, ly6]
 generalize P8 ++ be h.v 4 = P12 at *
 clear oY5 u6 o6 p6 ly6
 obtain ⟨k0, k1, k2, k3, k4, k5, k6, k7⟩ := KX.out _ t_Y7
 simp only [Nat.reduceAdd] at rY7
 go_wp2_with (at_builtin; refine wpList_runb _ rfl (.tmp 20) (.tmp 23) 38 rfl rfl rfl rY7 ?_)
 clear rY7
 refine (four_any h.q _ (by omega) (by omega)).mono ?_
 rintro e Y8 ⟨A8, c8, rfl, o8, u8⟩
 have ly8 : (be h.q 4).length = 4 := be_length _ _
 clear k0 k1 k2 k3 k4 k5 k6 k7
 have t_Y8 : Below W0.heap.size W0 Y8 := t_Y7.trans (u8.mono t_Y7.size)
 have p8 := oY7.step u8
 obtain ⟨A9, c9, Y9, rY9, oY9, tY9⟩ := run_apn (P := Tryz.prog) Y8 W0.heap.size 38 38 5 .u8 i0 _ 1 Tryz.underlying38 hi0' hz0 hz1 hz2 rfl _ _ _ p8 _ A8 c8 _ o8.bs 12 4 l7 ly8 (by unfold maxLen; omega) (by omega) t_Y8.size
 have t_Y9 : Below W0.heap.size W0 Y9 := t_Y8.trans tY9
 have l9 : (P12 ++ be h.q 4).length = 16 := by rw [List.length_append, l7, ly8]
 generalize P12 ++ be h.q 4 = P16 at *
 clear oY7 u8 o8 p8 ly8
 obtain ⟨k0, k1, k2, k3, k4, k5, k6, k7⟩ := KX.out _ t_Y9
 simp only [Nat.reduceAdd] at rY9
 go_wp2_with (at_builtin; refine wpList_runb _ rfl (.tmp 25) (.tmp 28) 38 rfl rfl rfl rY9 ?_)
 clear rY9
 refine (two_gen h.s _).mono ?_
 rintro e Y10 ⟨A10, c10, X10, ly10, rfl, o10, u10⟩
 clear k0 k1 k2 k3 k4 k5 k6 k7
 have t_Y10 : Below W0.heap.size W0 Y10 := t_Y9.trans (u10.mono t_Y9.size)
 have p10 := oY9.step u10
 obtain ⟨A11, c11, Y11, rY11, oY11, tY11⟩ := run_apn (P := Tryz.prog) Y10 W0.heap.size 38 38 5 .u8 i0 _ 1 Tryz.underlying38 hi0' hz0 hz1 hz2 rfl _ _ _ p10 _ A10 c10 _ o10.bs 16 2 l9 ly10 (by unfold maxLen; omega) (by omega) t_Y10.size
 have t_Y11 : Below W0.heap.size W0 Y11 := t_Y10.trans tY11
 have l11 : (P16 ++ X10).length = 18 := by rw [List.length_append, l9, ly10]
 generalize P16 ++ X10 = P18 at *
 clear oY9 u10 o10 p10 ly10
 obtain ⟨k0, k1, k2, k3, k4, k5, k6, k7⟩ := KX.out _ t_Y11
 simp only [Nat.reduceAdd] at rY11
 go_wp2_with (at_builtin; refine wpList_runb _ rfl (.tmp 30) (.tmp 33) 38 rfl rfl rfl rY11 ?_)
 clear rY11
 refine (two_gen h.n _).mono ?_
 rintro e Y12 ⟨A12, c12, X12, ly12, rfl, o12, u12⟩
 clear k0 k1 k2 k3 k4 k5 k6 k7
 have t_Y12 : Below W0.heap.size W0 Y12 := t_Y11.trans (u12.mono t_Y11.size)
 have p12 := oY11.step u12
 obtain ⟨A13, c13, Y13, rY13, oY13, tY13⟩ := run_apn (P := Tryz.prog) Y12 W0.heap.size 38 38 5 .u8 i0 _ 1 Tryz.underlying38 hi0' hz0 hz1 hz2 rfl _ _ _ p12 _ A12 c12 _ o12.bs 18 2 l11 ly12 (by unfold maxLen; omega) (by omega) t_Y12.size
 have t_Y13 : Below W0.heap.size W0 Y13 := t_Y12.trans tY13
 have l13 : (P18 ++ X12).length = 20 := by rw [List.length_append, l11, ly12]
 generalize P18 ++ X12 = P20 at *
 clear oY11 u12 o12 p12 ly12
 obtain ⟨k0, k1, k2, k3, k4, k5, k6, k7⟩ := KX.out _ t_Y13
 simp only [Nat.reduceAdd] at rY13
 go_wp2_with (at_builtin; refine wpList_runb _ rfl (.tmp 35) (.tmp 38) 38 rfl rfl rfl rY13 ?_)
 clear rY13
 go_ret
 exact ⟨_, _, P20, l13, rfl, oY13.lower HB.out.size, HB.out.trans (t_Y13.mono HB.out.size)⟩
theorem raw_gen (h : Hd) (w : World) (ok : Okd h) :
  Calls Tryz.prog 59 #[.agg #[.int .i64 h.a, .int .i64 h.o, .int .i64 h.t, .int .u32 h.i, .int .u32 h.v, .int .u32 h.q, .int .i64 h.s, .int .i64 h.n]] w fun e w' => ∃ A' c' X, (X.length = 20 ∧ (mayd h = true → X = ehd h)) ∧ e = .returned (.slice A' 20 c') ∧ Own .u8 5 w' w.heap.size A' c' X ∧ Below w.heap.size w w' := by
 by_cases hm : mayd h = true
 ·exact (raw_any h w ok hm).mono fun e w' ⟨A', c', h1, h2, h3⟩ => ⟨A', c', ehd h, ⟨ehd_length h, fun _ => rfl⟩, h1, h2, h3⟩
 ·exact (raw_bad h w ok).mono fun e w' ⟨A', c', X, h0, h1, h2, h3⟩ => ⟨A', c', X, ⟨h0, fun h => absurd h hm⟩, h1, h2, h3⟩
set_option maxRecDepth 100000 in
set_option maxHeartbeats 2000000 in
theorem rmayad_any (h : Hd) (A : Option Addr) (n c : Nat) (l : List Int) (w : World) (hn : l.length = n) (hl : n ≤ 5000) :
  Calls Tryz.prog 60 #[.agg #[.int .i64 h.a, .int .i64 h.o, .int .i64 h.t, .int .u32 h.i, .int .u32 h.v, .int .u32 h.q, .int .i64 h.s, .int .i64 h.n, .slice A n c]] w fun e w' => e = .returned (.bool (maya h l)) ∧ Below w.heap.size w w' := by
 obtain ⟨W0, hW0⟩ : ∃ V, w.alloc (.cells #[.int .i64 h.a, .int .i64 h.o, .int .i64 h.t, .int .u32 h.i, .int .u32 h.v, .int .u32 h.q, .int .i64 h.s, .int .i64 h.n, .slice A n c] 40) = V := ⟨_, rfl⟩
 have bW0 : Below w.heap.size w W0 := by rw [← hW0]; exact below_alloc1 _ _
 have sW0 : W0.heap.size = w.heap.size + 1 := by rw [← hW0]; simp
 have KX : Hid (∀ V, Below W0.heap.size W0 V → V.cell? ⟨w.heap.size, 0, none⟩ = some (.int .i64 h.a) ∧ V.cell? ⟨w.heap.size, 1, none⟩ = some (.int .i64 h.o) ∧ V.cell? ⟨w.heap.size, 2, none⟩ = some (.int .i64 h.t) ∧ V.cell? ⟨w.heap.size, 3, none⟩ = some (.int .u32 h.i) ∧ V.cell? ⟨w.heap.size, 4, none⟩ = some (.int .u32 h.v) ∧ V.cell? ⟨w.heap.size, 5, none⟩ = some (.int .u32 h.q) ∧ V.cell? ⟨w.heap.size, 6, none⟩ = some (.int .i64 h.s) ∧ V.cell? ⟨w.heap.size, 7, none⟩ = some (.int .i64 h.n) ∧ V.cell? ⟨w.heap.size, 8, none⟩ = some (.slice A n c)) := Lib.hid (fun V hV => kb9_new hW0 hV)
 have HB : Hid (Below w.heap.size w W0) := Lib.hid bW0
 have CM := rmay_any h W0
 have hw : wrap64 (20 + (n : Int)) = 20 + (n : Int) := by unfold wrap64; omega
 have hw2 : IntKind.i64.wrap (20 + (n : Int)) = 20 + (n : Int) := wrap_i64 (by omega) (by omega)
 obtain ⟨k0, k1, k2, k3, k4, k5, k6, k7, k8⟩ := KX.out _ (Below.refl _ _)
 clear bW0
 obtain ⟨q, hq⟩ : ∃ q, mayd h = q := ⟨_, rfl⟩
 rw [hq] at CM
 cases q with
 | false =>
  have e : maya h l = false := by rw [maya, hq]; rfl
  rw [e]
  clear e hq hn
  go_enter Tryz.func60, Tryz.ntmps60
  go_wp2_with fail
  refine CM.mono ?_
  rintro e Y1 ⟨rfl, u1⟩
  clear k0 k1 k2 k3 k4 k5 k6 k7 k8
  go_wp2
  go_ret
  exact ⟨rfl, HB.out.trans (u1.mono HB.out.size)⟩
 | true =>
  have HE : Hid (maya h l = (h.n == 20 + (n : Int))) := Lib.hid (by rw [maya, hq, hn]; simp [Bool.beq_eq_decide_eq])
  clear hq hn
  go_enter Tryz.func60, Tryz.ntmps60
  go_wp2_with fail
  refine CM.mono ?_
  rintro e Y1 ⟨rfl, u1⟩
  clear k0 k1 k2 k3 k4 k5 k6 k7 k8
  obtain ⟨k0, k1, k2, k3, k4, k5, k6, k7, k8⟩ := KX.out _ u1
  go_wp2
  go_ret
  exact ⟨ret_bool HE.out.symm, HB.out.trans (u1.mono HB.out.size)⟩
end Go.Proofs.YtadcicmccdphkaaGreat
namespace Go.Proofs.YtadcicmccdphkaaGreat
open Go.RowKit Go.Joins
open List (getElem_toArray getElem_cons_zero getElem_cons_succ setIfInBounds_toArray set_cons_zero set_cons_succ)

set_option maxRecDepth 100000 in
set_option maxHeartbeats 4000000 in
theorem rwhole_any (h : Hd) (A : Option Addr) (n c : Nat) (l : List Int) (w : World) (hn : l.length = n) (ok : Okd h) (hb : Bt w A l) (hy : Byt l) (hl : n ≤ 5000) :
  Calls Tryz.prog 36 #[.agg #[.int .i64 h.a, .int .i64 h.o, .int .i64 h.t, .int .u32 h.i, .int .u32 h.v, .int .u32 h.q, .int .i64 h.s, .int .i64 h.n, .slice A n c]] w fun e w' => e = .returned (.bool (whl h l)) ∧ Below w.heap.size w w' := by
 obtain ⟨W0, hW0⟩ : ∃ V, w.alloc (.cells #[.int .i64 h.a, .int .i64 h.o, .int .i64 h.t, .int .u32 h.i, .int .u32 h.v, .int .u32 h.q, .int .i64 h.s, .int .i64 h.n, .slice A n c] 40) = V := ⟨_, rfl⟩
 have bW0 : Below w.heap.size w W0 := by rw [← hW0]; exact below_alloc1 _ _
 have sW0 : W0.heap.size = w.heap.size + 1 := by rw [← hW0]; simp
 have KX : Hid (∀ V, Below W0.heap.size W0 V → V.cell? ⟨w.heap.size, 0, none⟩ = some (.int .i64 h.a) ∧ V.cell? ⟨w.heap.size, 1, none⟩ = some (.int .i64 h.o) ∧ V.cell? ⟨w.heap.size, 2, none⟩ = some (.int .i64 h.t) ∧ V.cell? ⟨w.heap.size, 3, none⟩ = some (.int .u32 h.i) ∧ V.cell? ⟨w.heap.size, 4, none⟩ = some (.int .u32 h.v) ∧ V.cell? ⟨w.heap.size, 5, none⟩ = some (.int .u32 h.q) ∧ V.cell? ⟨w.heap.size, 6, none⟩ = some (.int .i64 h.s) ∧ V.cell? ⟨w.heap.size, 7, none⟩ = some (.int .i64 h.n) ∧ V.cell? ⟨w.heap.size, 8, none⟩ = some (.slice A n c)) := Lib.hid (fun V hV => kb9_new hW0 hV)
 have HB : Hid (Below w.heap.size w W0) := Lib.hid bW0
 have q1 := hb.step bW0
 have CM := fun V => rmayad_any h A n c l V hn hl
 obtain ⟨i0, hi0, hz0, hz1, hz2⟩ := info_of info5
 have HN := Lib.hid hn
 have HY := Lib.hid hy
 have tt : Below W0.heap.size W0 W0 := Below.refl _ _
 clear bW0 hb hn hy
 go_enter Tryz.func36, Tryz.ntmps36
 go_wp2_with fail
 refine wp_region_held_drew (S := fun V => V.cell? ⟨w.heap.size, 0, none⟩ = some (.int .i64 h.a) ∧ V.cell? ⟨w.heap.size, 1, none⟩ = some (.int .i64 h.o) ∧ V.cell? ⟨w.heap.size, 2, none⟩ = some (.int .i64 h.t) ∧ V.cell? ⟨w.heap.size, 3, none⟩ = some (.int .u32 h.i) ∧ V.cell? ⟨w.heap.size, 4, none⟩ = some (.int .u32 h.v) ∧ V.cell? ⟨w.heap.size, 5, none⟩ = some (.int .u32 h.q) ∧ V.cell? ⟨w.heap.size, 6, none⟩ = some (.int .i64 h.s) ∧ V.cell? ⟨w.heap.size, 7, none⟩ = some (.int .i64 h.n) ∧ V.cell? ⟨w.heap.size, 8, none⟩ = some (.slice A n c)) (by kernel_rfl) (KX.out _ tt.drew) (fun hHeld => ?_)
 replace tt : Below W0.heap.size W0 W0.drew := tt.drew
 replace q1 : Bt W0.drew A l := q1
 generalize hX0 : W0.drew = X0 at tt q1 hHeld ⊢
 clear hX0
 refine wpAnyH_take (i := 0) (v := ?_) rfl (by kernel_rfl) (by kernel_rfl) (by kernel_rfl) (fun _ _ _ h => h) (Or.inl ⟨by rfl, ?_⟩) (by assumption) ?_
 rotate_left
 ·(intro w' hSw; (try dsimp only at hSw); go_simp; try with_reducible rfl)
 simp only [Act.put, getElem_toArray, getElem_cons_zero, setIfInBounds_toArray, set_cons_zero, set_cons_succ]
 refine wpAnyH_take (i := 1) (v := ?_) rfl (by kernel_rfl) (by kernel_rfl) (by kernel_rfl) (fun _ _ _ h => h) (Or.inl ⟨by rfl, ?_⟩) (by assumption) ?_
 rotate_left
 ·(intro w' hSw; (try dsimp only at hSw); go_simp; try with_reducible rfl)
 simp only [Act.put, getElem_toArray, getElem_cons_zero, getElem_cons_succ, setIfInBounds_toArray, set_cons_zero, set_cons_succ]
 refine wpAnyH_take (i := 3) (v := ?_) rfl (by kernel_rfl) (by kernel_rfl) (by kernel_rfl) (fun _ _ _ h => h) (Or.inl ⟨by rfl, ?_⟩) (by assumption) ?_
 rotate_left
 ·(intro w' hSw; (try dsimp only at hSw); go_simp; try with_reducible rfl)
 simp only [Act.put, getElem_toArray, getElem_cons_zero, getElem_cons_succ, setIfInBounds_toArray, set_cons_zero, set_cons_succ]
 refine wpAnyH_take (i := 4) (v := ?_) rfl (by kernel_rfl) (by kernel_rfl) (by kernel_rfl) (fun _ _ _ h => h) (Or.inl ⟨by rfl, ?_⟩) (by assumption) ?_
 rotate_left
 ·(intro w' hSw; (try dsimp only at hSw); go_simp; try with_reducible rfl)
 simp only [Act.put, getElem_toArray, getElem_cons_zero, getElem_cons_succ, setIfInBounds_toArray, set_cons_zero, set_cons_succ]
 refine wpAnyH_ready (rs := [2]) (by kernel_rfl) (by simp) ?_
 refine AllReadyH.cons rfl (fun K hK => ?_) AllReadyH.nil
 go_simp
 go_at_call 59
 refine (raw_gen h X0 ok).mono ?_
 rintro e Y11 ⟨A11, c11, X, ⟨lX, hX⟩, rfl, o11, u11⟩
 have t_Y11 : Below W0.heap.size W0 Y11 := tt.trans (u11.mono tt.size)
 replace q1 := q1.step u11
 have oa := o11.lower (base' := W0.heap.size) tt.size
 clear o11
 refine hK.out _ _ (KX.out _ t_Y11) (fun _ => ?_)
 clear hK K
 refine wpAnyH_ready (rs := [5]) (by kernel_rfl) (by simp) ?_
 refine AllReadyH.cons rfl (fun K hK => ?_) AllReadyH.nil
 obtain ⟨A12, c12, Y12, rY12, oY12, tY12⟩ := run_apn (P := Tryz.prog) Y11 W0.heap.size 38 38 5 .u8 i0 _ 1 Tryz.underlying38 hi0 hz0 hz1 hz2 rfl _ _ _ oa _ A c _ q1 20 n lX HN.out (by unfold maxLen; omega) (by omega) t_Y11.size
 have t_Y12 : Below W0.heap.size W0 Y12 := t_Y11.trans tY12
 refine step_runb _ rfl (.tmp 6) (.tmp 8) 38 rfl rfl rfl rY12 ?_
 refine hK.out _ _ (KX.out _ t_Y12) (fun _ => ?_)
 clear hK K
 refine wpAnyH_ready (rs := [6]) (by kernel_rfl) (by simp) ?_
 refine AllReadyH.cons rfl (fun K hK => ?_) AllReadyH.nil
 go_simp
 refine hK.out _ _ (KX.out _ t_Y12) (fun _ => ?_)
 clear hK K
 refine wpAnyH_done (by kernel_rfl) ?_ _
 have HO := Lib.hid oY12
 have HT := Lib.hid t_Y12
 have HX := Lib.hid hX
 have HLX := Lib.hid lX
 clear t_Y12 tY12 rY12 oa hX oY12
 obtain ⟨k0, k1, k2, k3, k4, k5, k6, k7, k8⟩ := KX.out _ HT.out
 obtain ⟨q, hq⟩ : ∃ q, maya h l = q := ⟨_, rfl⟩
 rw [hq] at CM
 cases q with
 | false =>
  have e : whl h l = false := by rw [whl, hq]; rfl
  have HE := Lib.hid e
  clear e hq
  go_wp2_with fail
  refine (CM _).mono ?_
  rintro e Z1 ⟨rfl, u1⟩
  clear k0 k1 k2 k3 k4 k5 k6 k7 k8
  go_wp2
  go_ret
  exact ⟨ret_bool HE.out.symm, HB.out.trans ((HT.out.trans (u1.mono HT.out.size)).mono HB.out.size)⟩
 | true =>
  have hmd : mayd h = true := by unfold maya at hq; simp only [Bool.and_eq_true] at hq; exact hq.1
  have hXe := HX.out hmd
  subst hXe
  have HW : Hid (whl h l = (p0 ((ehd h ++ l).drop 2) == 0 && p1 ((ehd h ++ l).drop 2) == 0)) := Lib.hid (by rw [whl, hq]; rfl)
  clear hq hmd
  go_wp2_with fail
  refine (CM _).mono ?_
  rintro e Z1 ⟨rfl, u1⟩
  clear k0 k1 k2 k3 k4 k5 k6 k7 k8 CM
  have o2 := Own.step HO.out u1
  have hcc := o2.cap_le
  have hll : (ehd h ++ l).length = 20 + n := by rw [List.length_append, HLX.out, HN.out]
  rw [hll] at hcc
  obtain ⟨g, hg, _, hgl⟩ := own_some o2 (by omega)
  have qd : Bt Z1 (some ⟨g, 2, none⟩) ((ehd h ++ l).drop 2) := o2.bs.drop 2 _ (fun _ => by rw [hg]; simp [addr_add])
  have FT := rfits_any (some ⟨g, 2, none⟩) (c12 - 2) ((ehd h ++ l).drop 2) Z1.heap.size Z1 qd (((ehd_byt h).append HY.out).drop 2) (by rw [List.length_drop, hll]; omega)
  have hl2 : ((ehd h ++ l).drop 2).length = 18 + n := by rw [List.length_drop, hll]; omega
  rw [hl2] at FT
  subst hg
  have hcn : ¬ (c12 = 2) := by omega
  have hci : (2 : Int) ≤ (c12 : Int) := by omega
  have hni : (2 : Int) ≤ 20 + (n : Int) := by omega
  have hn3 : (20 + n : Nat) - 2 = 18 + n := by omega
  have hn4 : (20 + (n : Int)) ≤ (c12 : Int) := by omega
  have HU := Lib.hid (HB.out.trans ((HT.out.trans (u1.mono HT.out.size)).mono HB.out.size))
  clear o2 qd hl2 hll u1
  go_wp2_with fail
  refine FT.mono ?_
  rintro e _ ⟨rfl, rfl⟩
  go_wp2
  go_ret
  exact ⟨ret_bool HW.out.symm, HU.out⟩
end Go.Proofs.YtadcicmccdphkaaGreat
