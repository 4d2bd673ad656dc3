/-
  Contracts of the reference's raw and Head. The contract of the reference's ReadHead. Contracts of the reference's Pair and Fits. No statement is proved here; no conditions.
-/
import Derived.Test.YtadcicmccdphkaaGreatG06
import Derived.Test.YtadcicmccdphkaaGreatG04
import Derived.Test.YtadcicmccdphkaaGreatG21
import Derived.Test.YtadcicmccdphkaaGreatG03
namespace Go.Proofs.YtadcicmccdphkaaGreat
open Go.RowKit Go.Joins
open List (getElem_toArray getElem_cons_zero getElem_cons_succ setIfInBounds_toArray set_cons_zero set_cons_succ)

set_option maxRecDepth 100000 in
set_option maxHeartbeats 4000000 in
theorem raw_any (h : Hd) (w : World) (ok : Okd h) (hm : mayd h = true) :
  Calls Tryz.prog 59 #[.agg #[.int .i64 h.a, .int .i64 h.o, .int .i64 h.t, .int .u32 h.i, .int .u32 h.v, .int .u32 h.q, .int .i64 h.s, .int .i64 h.n]] w fun e w' => ∃ A' c', e = .returned (.slice A' 20 c') ∧ Own .u8 5 w' w.heap.size A' c' (ehd h) ∧ Below w.heap.size w w' := by
 obtain ⟨W0, hW0⟩ : ∃ V, w.alloc (.cells #[.int .i64 h.a, .int .i64 h.o, .int .i64 h.t, .int .u32 h.i, .int .u32 h.v, .int .u32 h.q, .int .i64 h.s, .int .i64 h.n] 37) = V := ⟨_, rfl⟩
 have bW0 : Below w.heap.size w W0 := by rw [← hW0]; exact below_alloc1 _ _
 have sW0 : W0.heap.size = w.heap.size + 1 := by rw [← hW0]; simp
 have KX : Hid (∀ V, Below W0.heap.size W0 V → V.cell? ⟨w.heap.size, 0, none⟩ = some (.int .i64 h.a) ∧ V.cell? ⟨w.heap.size, 1, none⟩ = some (.int .i64 h.o) ∧ V.cell? ⟨w.heap.size, 2, none⟩ = some (.int .i64 h.t) ∧ V.cell? ⟨w.heap.size, 3, none⟩ = some (.int .u32 h.i) ∧ V.cell? ⟨w.heap.size, 4, none⟩ = some (.int .u32 h.v) ∧ V.cell? ⟨w.heap.size, 5, none⟩ = some (.int .u32 h.q) ∧ V.cell? ⟨w.heap.size, 6, none⟩ = some (.int .i64 h.s) ∧ V.cell? ⟨w.heap.size, 7, none⟩ = some (.int .i64 h.n)) := Lib.hid (fun V hV => kb8_new hW0 hV)
 have HB : Hid (Below w.heap.size w W0) := Lib.hid bW0
 obtain ⟨⟨ha0, ha1⟩, ⟨ho0, ho1⟩, ⟨ht0, ht1⟩, -, ⟨hs0, hs1⟩, ⟨hn0, hn1⟩⟩ := (mayd_iff h).1 hm
 obtain ⟨hi0, hi1⟩ := ok.i
 obtain ⟨hv0, hv1⟩ := ok.v
 obtain ⟨hq0, hq1⟩ := ok.q
 obtain ⟨i0, hii, hz0, hz1, hz2⟩ := info_of info5
 have t0 : Below W0.heap.size W0 W0 := Below.refl _ _
 have HL : Hid (ehd h = be h.a 2 ++ [h.o, h.t] ++ be h.i 4 ++ be h.v 4 ++ be h.q 4 ++ be h.s 2 ++ be h.n 2) := Lib.hid (by
  rw [ehd, be1 h.o (by omega) (by omega), be1 h.t (by omega) (by omega)]
  simp)
 clear bW0 hm ok
 go_enter Tryz.func59, Tryz.ntmps59
 go_wp2_with fail
 refine wp_region_held_drew (S := fun V => V.cell? ⟨w.heap.size, 0, none⟩ = some (.int .i64 h.a) ∧ V.cell? ⟨w.heap.size, 1, none⟩ = some (.int .i64 h.o) ∧ V.cell? ⟨w.heap.size, 2, none⟩ = some (.int .i64 h.t) ∧ V.cell? ⟨w.heap.size, 3, none⟩ = some (.int .u32 h.i) ∧ V.cell? ⟨w.heap.size, 4, none⟩ = some (.int .u32 h.v) ∧ V.cell? ⟨w.heap.size, 5, none⟩ = some (.int .u32 h.q) ∧ V.cell? ⟨w.heap.size, 6, none⟩ = some (.int .i64 h.s) ∧ V.cell? ⟨w.heap.size, 7, none⟩ = some (.int .i64 h.n)) (by kernel_rfl) (KX.out _ t0.drew) (fun hHeld => ?_)
 replace t0 : Below W0.heap.size W0 W0.drew := t0.drew
 generalize hX0 : W0.drew = Y0 at t0 hHeld ⊢
 clear hX0
 refine wpAnyH_take (i := 0) (v := ?_) rfl (by kernel_rfl) (by kernel_rfl) (by kernel_rfl) (fun _ _ _ h => h) (Or.inl ⟨by rfl, ?_⟩) (by assumption) ?_
 rotate_left
 ·(intro w' hSw; (try dsimp only at hSw); go_simp; try with_reducible rfl)
 simp only [Act.put, getElem_toArray, getElem_cons_zero, setIfInBounds_toArray, set_cons_zero, set_cons_succ]
 refine wpAnyH_take (i := 1) (v := ?_) rfl (by kernel_rfl) (by kernel_rfl) (by kernel_rfl) (fun _ _ _ h => h) (Or.inl ⟨by rfl, ?_⟩) (by assumption) ?_
 rotate_left
 ·(intro w' hSw; (try dsimp only at hSw); go_simp; try with_reducible rfl)
 simp only [Act.put, getElem_toArray, getElem_cons_zero, getElem_cons_succ, setIfInBounds_toArray, set_cons_zero, set_cons_succ]
 refine wpAnyH_take (i := 3) (v := ?_) rfl (by kernel_rfl) (by kernel_rfl) (by kernel_rfl) (fun _ _ _ h => h) (Or.inl ⟨by rfl, ?_⟩) (by assumption) ?_
 rotate_left
 ·(intro w' hSw; (try dsimp only at hSw); go_simp; try with_reducible rfl)
 simp only [Act.put, getElem_toArray, getElem_cons_zero, getElem_cons_succ, setIfInBounds_toArray, set_cons_zero, set_cons_succ]
 refine wpAnyH_take (i := 4) (v := ?_) rfl (by kernel_rfl) (by kernel_rfl) (by kernel_rfl) (fun _ _ _ h => h) (Or.inl ⟨by rfl, ?_⟩) (by assumption) ?_
 rotate_left
 ·(intro w' hSw; (try dsimp only at hSw); go_simp; try with_reducible rfl)
 simp only [Act.put, getElem_toArray, getElem_cons_zero, getElem_cons_succ, setIfInBounds_toArray, set_cons_zero, set_cons_succ]
 refine wpAnyH_take (i := 5) (v := .int .u8 h.o) rfl (by kernel_rfl) (by kernel_rfl) (by kernel_rfl) (fun _ _ _ h => h) (Or.inl ⟨by rfl, ?_⟩) (by assumption) ?_
 ·(intro w' hSw; (try dsimp only at hSw); go_simp; rw [wrap_u8 (by omega) (by omega)])
 simp only [Act.put, getElem_toArray, getElem_cons_zero, getElem_cons_succ, setIfInBounds_toArray, set_cons_zero, set_cons_succ]
 refine wpAnyH_take (i := 6) (v := ?_) rfl (by kernel_rfl) (by kernel_rfl) (by kernel_rfl) (fun _ _ _ h => h) (Or.inl ⟨by rfl, ?_⟩) (by assumption) ?_
 rotate_left
 ·(intro w' hSw; (try dsimp only at hSw); go_simp; try with_reducible rfl)
 simp only [Act.put, getElem_toArray, getElem_cons_zero, getElem_cons_succ, setIfInBounds_toArray, set_cons_zero, set_cons_succ]
 refine wpAnyH_take (i := 7) (v := ?_) rfl (by kernel_rfl) (by kernel_rfl) (by kernel_rfl) (fun _ _ _ h => h) (Or.inl ⟨by rfl, ?_⟩) (by assumption) ?_
 rotate_left
 ·(intro w' hSw; (try dsimp only at hSw); go_simp; try with_reducible rfl)
 simp only [Act.put, getElem_toArray, getElem_cons_zero, getElem_cons_succ, setIfInBounds_toArray, set_cons_zero, set_cons_succ]
 refine wpAnyH_take (i := 8) (v := .int .u8 h.t) rfl (by kernel_rfl) (by kernel_rfl) (by kernel_rfl) (fun _ _ _ h => h) (Or.inl ⟨by rfl, ?_⟩) (by assumption) ?_
 ·(intro w' hSw; (try dsimp only at hSw); go_simp; rw [wrap_u8 (by omega) (by omega)])
 simp only [Act.put, getElem_toArray, getElem_cons_zero, getElem_cons_succ, setIfInBounds_toArray, set_cons_zero, set_cons_succ]
 refine wpAnyH_ready (rs := [2, 9]) (by kernel_rfl) (by simp) ?_
 refine AllReadyH.cons rfl (fun K hK => ?_) ?_
 ·go_simp
  go_at_call 85
  refine (two_any h.a Y0 (by omega) (by omega)).mono ?_
  rintro e Y1 ⟨A1, c1, rfl, o1, u1⟩
  have t_Y1 : Below W0.heap.size W0 Y1 := t0.trans (u1.mono t0.size)
  have oa := o1.lower (base' := W0.heap.size) t0.size
  clear o1
  refine hK.out _ _ (KX.out _ t_Y1) (fun _ => ?_)
  clear hK K
  refine wpAnyH_ready (rs := [9]) (by kernel_rfl) (by simp) ?_
  refine AllReadyH.cons rfl (fun K hK => ?_) AllReadyH.nil
  go_simp
  obtain ⟨Y2, hY2⟩ : ∃ V, Y1.alloc (.cells #[.int .u8 h.o, .int .u8 h.t] 5) = V := ⟨_, rfl⟩
  have u2 : Below Y1.heap.size Y1 Y2 := by rw [← hY2]; exact below_alloc1 _ _
  have t_Y2 : Below W0.heap.size W0 Y2 := t_Y1.trans (u2.mono t_Y1.size)
  replace oa := oa.step u2
  obtain ⟨k2, hk2⟩ : ∃ k, Y1.heap.size = k := ⟨_, rfl⟩
  have zr : Bt Y2 (some ⟨k2, 0, none⟩) [h.o, h.t] := by
   rw [← hY2]
   exact Bs.mk _ _ _ _ _ _ hk2 (by simp [maxLen]) rfl
  try rw [hY2]
  try rw [hk2]
  refine hK.out _ _ (KX.out _ t_Y2) (fun _ => ?_)
  clear hK K
  refine wpAnyH_ready (rs := [10]) (by kernel_rfl) (by simp) ?_
  refine AllReadyH.cons rfl (fun K hK => ?_) AllReadyH.nil
  obtain ⟨A3, c3, Y3, rY3, oY3, tY3⟩ := run_app (P := Tryz.prog) Y2 W0.heap.size 38 38 5 .u8 i0 _ 1 Tryz.underlying38 hii hz0 hz1 hz2 rfl _ _ _ oa _ (some ⟨k2, 0, none⟩) 2 _ zr (by simp only [maxLen, be_length, List.length_cons, List.length_nil] <;> omega) (by simp only [be_length, List.length_cons, List.length_nil] <;> omega) t_Y2.size
  simp only [List.length_append, be_length, List.length_cons, List.length_nil, Nat.reduceAdd] at rY3
  have t_Y3 : Below W0.heap.size W0 Y3 := t_Y2.trans tY3
  refine step_runb _ rfl (.tmp 6) (.tmp 13) 38 rfl rfl rfl rY3 ?_
  refine hK.out _ _ (KX.out _ t_Y3) (fun _ => ?_)
  clear hK K
  refine wpAnyH_ready (rs := [11]) (by kernel_rfl) (by simp) ?_
  refine AllReadyH.cons rfl (fun K hK => ?_) AllReadyH.nil
  go_simp
  refine hK.out _ _ (KX.out _ t_Y3) (fun _ => ?_)
  clear hK K
  refine wpAnyH_done (by kernel_rfl) ?_ _
  clear oa zr
  obtain ⟨k0, k1, k2, k3, k4, k5, k6, k7⟩ := KX.out _ t_Y3
  go_wp2_with fail
  refine (four_any h.i _ (by omega) (by omega)).mono ?_
  rintro e Y4 ⟨A4, c4, rfl, o4, u4⟩
  clear k0 k1 k2 k3 k4 k5 k6 k7
  have t_Y4 : Below W0.heap.size W0 Y4 := t_Y3.trans (u4.mono t_Y3.size)
  have p4 := oY3.step u4
  obtain ⟨A5, c5, Y5, rY5, oY5, tY5⟩ := run_app (P := Tryz.prog) Y4 W0.heap.size 38 38 5 .u8 i0 _ 1 Tryz.underlying38 hii hz0 hz1 hz2 rfl _ _ _ p4 _ A4 c4 _ o4.bs (by simp only [maxLen, List.length_append, be_length, List.length_cons, List.length_nil] <;> omega) (by simp only [List.length_append, be_length, List.length_cons, List.length_nil] <;> omega) t_Y4.size
  simp only [List.length_append, be_length, List.length_cons, List.length_nil, Nat.reduceAdd] at rY5
  have t_Y5 : Below W0.heap.size W0 Y5 := t_Y4.trans tY5
  clear oY3 u4 o4 p4
  obtain ⟨k0, k1, k2, k3, k4, k5, k6, k7⟩ := KX.out _ t_Y5
  go_wp2_with (at_builtin; refine wpList_runb _ rfl (.tmp 15) (.tmp 18) 38 rfl rfl rfl rY5 ?_)
  clear rY5
  refine (four_any h.v _ (by omega) (by omega)).mono ?_
  rintro e Y6 ⟨A6, c6, rfl, o6, u6⟩
  clear k0 k1 k2 k3 k4 k5 k6 k7
  have t_Y6 : Below W0.heap.size W0 Y6 := t_Y5.trans (u6.mono t_Y5.size)
  have p6 := oY5.step u6
  obtain ⟨A7, c7, Y7, rY7, oY7, tY7⟩ := run_app (P := Tryz.prog) Y6 W0.heap.size 38 38 5 .u8 i0 _ 1 Tryz.underlying38 hii hz0 hz1 hz2 rfl _ _ _ p6 _ A6 c6 _ o6.bs (by simp only [maxLen, List.length_append, be_length, List.length_cons, List.length_nil] <;> omega) (by simp only [List.length_append, be_length, List.length_cons, List.length_nil] <;> omega) t_Y6.size
  simp only [List.length_append, be_length, List.length_cons, List.length_nil, Nat.reduceAdd] at rY7
  have t_Y7 : Below W0.heap.size W0 Y7 := t_Y6.trans tY7
  clear oY5 u6 o6 p6
  obtain ⟨k0, k1, k2, k3, k4, k5, k6, k7⟩ := KX.out _ t_Y7
  go_wp2_with (at_builtin; refine wpList_runb _ rfl (.tmp 20) (.tmp 23) 38 rfl rfl rfl rY7 ?_)
  clear rY7
  refine (four_any h.q _ (by omega) (by omega)).mono ?_
  rintro e Y8 ⟨A8, c8, rfl, o8, u8⟩
  clear k0 k1 k2 k3 k4 k5 k6 k7
  have t_Y8 : Below W0.heap.size W0 Y8 := t_Y7.trans (u8.mono t_Y7.size)
  have p8 := oY7.step u8
  obtain ⟨A9, c9, Y9, rY9, oY9, tY9⟩ := run_app (P := Tryz.prog) Y8 W0.heap.size 38 38 5 .u8 i0 _ 1 Tryz.underlying38 hii hz0 hz1 hz2 rfl _ _ _ p8 _ A8 c8 _ o8.bs (by simp only [maxLen, List.length_append, be_length, List.length_cons, List.length_nil] <;> omega) (by simp only [List.length_append, be_length, List.length_cons, List.length_nil] <;> omega) t_Y8.size
  simp only [List.length_append, be_length, List.length_cons, List.length_nil, Nat.reduceAdd] at rY9
  have t_Y9 : Below W0.heap.size W0 Y9 := t_Y8.trans tY9
  clear oY7 u8 o8 p8
  obtain ⟨k0, k1, k2, k3, k4, k5, k6, k7⟩ := KX.out _ t_Y9
  go_wp2_with (at_builtin; refine wpList_runb _ rfl (.tmp 25) (.tmp 28) 38 rfl rfl rfl rY9 ?_)
  clear rY9
  refine (two_any h.s _ (by omega) (by omega)).mono ?_
  rintro e Y10 ⟨A10, c10, rfl, o10, u10⟩
  clear k0 k1 k2 k3 k4 k5 k6 k7
  have t_Y10 : Below W0.heap.size W0 Y10 := t_Y9.trans (u10.mono t_Y9.size)
  have p10 := oY9.step u10
  obtain ⟨A11, c11, Y11, rY11, oY11, tY11⟩ := run_app (P := Tryz.prog) Y10 W0.heap.size 38 38 5 .u8 i0 _ 1 Tryz.underlying38 hii hz0 hz1 hz2 rfl _ _ _ p10 _ A10 c10 _ o10.bs (by simp only [maxLen, List.length_append, be_length, List.length_cons, List.length_nil] <;> omega) (by simp only [List.length_append, be_length, List.length_cons, List.length_nil] <;> omega) t_Y10.size
  simp only [List.length_append, be_length, List.length_cons, List.length_nil, Nat.reduceAdd] at rY11
  have t_Y11 : Below W0.heap.size W0 Y11 := t_Y10.trans tY11
  clear oY9 u10 o10 p10
  obtain ⟨k0, k1, k2, k3, k4, k5, k6, k7⟩ := KX.out _ t_Y11
  go_wp2_with (at_builtin; refine wpList_runb _ rfl (.tmp 30) (.tmp 33) 38 rfl rfl rfl rY11 ?_)
  clear rY11
  refine (two_any h.n _ (by omega) (by omega)).mono ?_
  rintro e Y12 ⟨A12, c12, rfl, o12, u12⟩
  clear k0 k1 k2 k3 k4 k5 k6 k7
  have t_Y12 : Below W0.heap.size W0 Y12 := t_Y11.trans (u12.mono t_Y11.size)
  have p12 := oY11.step u12
  obtain ⟨A13, c13, Y13, rY13, oY13, tY13⟩ := run_app (P := Tryz.prog) Y12 W0.heap.size 38 38 5 .u8 i0 _ 1 Tryz.underlying38 hii hz0 hz1 hz2 rfl _ _ _ p12 _ A12 c12 _ o12.bs (by simp only [maxLen, List.length_append, be_length, List.length_cons, List.length_nil] <;> omega) (by simp only [List.length_append, be_length, List.length_cons, List.length_nil] <;> omega) t_Y12.size
  simp only [List.length_append, be_length, List.length_cons, List.length_nil, Nat.reduceAdd] at rY13
  have t_Y13 : Below W0.heap.size W0 Y13 := t_Y12.trans tY13
  clear oY11 u12 o12 p12
  obtain ⟨k0, k1, k2, k3, k4, k5, k6, k7⟩ := KX.out _ t_Y13
  go_wp2_with (at_builtin; refine wpList_runb _ rfl (.tmp 35) (.tmp 38) 38 rfl rfl rfl rY13 ?_)
  clear rY13
  go_ret
  exact ⟨_, _, rfl, by rw [HL.out]; exact oY13.lower HB.out.size, HB.out.trans (t_Y13.mono HB.out.size)⟩
 refine AllReadyH.cons rfl (fun K hK => ?_) AllReadyH.nil
 go_simp
 obtain ⟨Y1, hY1⟩ : ∃ V, Y0.alloc (.cells #[.int .u8 h.o, .int .u8 h.t] 5) = V := ⟨_, rfl⟩
 have u1 : Below Y0.heap.size Y0 Y1 := by rw [← hY1]; exact below_alloc1 _ _
 have t_Y1 : Below W0.heap.size W0 Y1 := t0.trans (u1.mono t0.size)
 obtain ⟨k1, hk1⟩ : ∃ k, Y0.heap.size = k := ⟨_, rfl⟩
 have zr : Bt Y1 (some ⟨k1, 0, none⟩) [h.o, h.t] := by
  rw [← hY1]
  exact Bs.mk _ _ _ _ _ _ hk1 (by simp [maxLen]) rfl
 try rw [hY1]
 try rw [hk1]
 refine hK.out _ _ (KX.out _ t_Y1) (fun _ => ?_)
 clear hK K
 refine wpAnyH_ready (rs := [2]) (by kernel_rfl) (by simp) ?_
 refine AllReadyH.cons rfl (fun K hK => ?_) AllReadyH.nil
 go_simp
 go_at_call 85
 refine (two_any h.a Y1 (by omega) (by omega)).mono ?_
 rintro e Y2 ⟨A2, c2, rfl, o2, u2⟩
 have t_Y2 : Below W0.heap.size W0 Y2 := t_Y1.trans (u2.mono t_Y1.size)
 replace zr := zr.step u2
 have oa := o2.lower (base' := W0.heap.size) t_Y1.size
 clear o2
 refine hK.out _ _ (KX.out _ t_Y2) (fun _ => ?_)
 clear hK K
 refine wpAnyH_ready (rs := [10]) (by kernel_rfl) (by simp) ?_
 refine AllReadyH.cons rfl (fun K hK => ?_) AllReadyH.nil
 obtain ⟨A3, c3, Y3, rY3, oY3, tY3⟩ := run_app (P := Tryz.prog) Y2 W0.heap.size 38 38 5 .u8 i0 _ 1 Tryz.underlying38 hii hz0 hz1 hz2 rfl _ _ _ oa _ (some ⟨k1, 0, none⟩) 2 _ zr (by simp only [maxLen, be_length, List.length_cons, List.length_nil] <;> omega) (by simp only [be_length, List.length_cons, List.length_nil] <;> omega) t_Y2.size
 simp only [List.length_append, be_length, List.length_cons, List.length_nil, Nat.reduceAdd] at rY3
 have t_Y3 : Below W0.heap.size W0 Y3 := t_Y2.trans tY3
 refine step_runb _ rfl (.tmp 6) (.tmp 13) 38 rfl rfl rfl rY3 ?_
 refine hK.out _ _ (KX.out _ t_Y3) (fun _ => ?_)
 clear hK K
 refine wpAnyH_ready (rs := [11]) (by kernel_rfl) (by simp) ?_
 refine AllReadyH.cons rfl (fun K hK => ?_) AllReadyH.nil
 go_simp
 refine hK.out _ _ (KX.out _ t_Y3) (fun _ => ?_)
 clear hK K
 refine wpAnyH_done (by kernel_rfl) ?_ _
 clear oa zr
 obtain ⟨k0, k1, k2, k3, k4, k5, k6, k7⟩ := KX.out _ t_Y3
 go_wp2_with fail
 refine (four_any h.i _ (by omega) (by omega)).mono ?_
 rintro e Y4 ⟨A4, c4, rfl, o4, u4⟩
 clear k0 k1 k2 k3 k4 k5 k6 k7
 have t_Y4 : Below W0.heap.size W0 Y4 := t_Y3.trans (u4.mono t_Y3.size)
 have p4 := oY3.step u4
 obtain ⟨A5, c5, Y5, rY5, oY5, tY5⟩ := run_app (P := Tryz.prog) Y4 W0.heap.size 38 38 5 .u8 i0 _ 1 Tryz.underlying38 hii hz0 hz1 hz2 rfl _ _ _ p4 _ A4 c4 _ o4.bs (by simp only [maxLen, List.length_append, be_length, List.length_cons, List.length_nil] <;> omega) (by simp only [List.length_append, be_length, List.length_cons, List.length_nil] <;> omega) t_Y4.size
 simp only [List.length_append, be_length, List.length_cons, List.length_nil, Nat.reduceAdd] at rY5
 have t_Y5 : Below W0.heap.size W0 Y5 := t_Y4.trans tY5
 clear oY3 u4 o4 p4
 obtain ⟨k0, k1, k2, k3, k4, k5, k6, k7⟩ := KX.out _ t_Y5
 go_wp2_with (at_builtin; refine wpList_runb _ rfl (.tmp 15) (.tmp 18) 38 rfl rfl rfl rY5 ?_)
 clear rY5
 refine (four_any h.v _ (by omega) (by omega)).mono ?_
 rintro e Y6 ⟨A6, c6, rfl, o6, u6⟩
 clear k0 k1 k2 k3 k4 k5 k6 k7
 have t_Y6 : Below W0.heap.size W0 Y6 := t_Y5.trans (u6.mono t_Y5.size)
 have p6 := oY5.step u6
 obtain ⟨A7, c7, Y7, rY7, oY7, tY7⟩ := run_app (P := Tryz.prog) Y6 W0.heap.size 38 38 5 .u8 i0 _ 1 Tryz.underlying38 hii hz0 hz1 hz2 rfl _ _ _ p6 _ A6 c6 _ o6.bs (by simp only [maxLen, List.length_append, be_length, List.length_cons, List.length_nil] <;> omega) (by simp only [List.length_append, be_length, List.length_cons, List.length_nil] <;> omega) t_Y6.size
 simp only [List.length_append, be_length, List.length_cons, List.length_nil, Nat.reduceAdd] at rY7
 have t_Y7 : Below W0.heap.size W0 Y7 := t_Y6.trans tY7
 clear oY5 u6 o6 p6
 obtain ⟨k0, k1, k2, k3, k4, k5, k6, k7⟩ := KX.out _ t_Y7
 go_wp2_with (at_builtin; refine wpList_runb _ rfl (.tmp 20) (.tmp 23) 38 rfl rfl rfl rY7 ?_)
 clear rY7
 refine (four_any h.q _ (by omega) (by omega)).mono ?_
 rintro e Y8 ⟨A8, c8, rfl, o8, u8⟩
 clear k0 k1 k2 k3 k4 k5 k6 k7
 have t_Y8 : Below W0.heap.size W0 Y8 := t_Y7.trans (u8.mono t_Y7.size)
 have p8 := oY7.step u8
 obtain ⟨A9, c9, Y9, rY9, oY9, tY9⟩ := run_app (P := Tryz.prog) Y8 W0.heap.size 38 38 5 .u8 i0 _ 1 Tryz.underlying38 hii hz0 hz1 hz2 rfl _ _ _ p8 _ A8 c8 _ o8.bs (by simp only [maxLen, List.length_append, be_length, List.length_cons, List.length_nil] <;> omega) (by simp only [List.length_append, be_length, List.length_cons, List.length_nil] <;> omega) t_Y8.size
 simp only [List.length_append, be_length, List.length_cons, List.length_nil, Nat.reduceAdd] at rY9
 have t_Y9 : Below W0.heap.size W0 Y9 := t_Y8.trans tY9
 clear oY7 u8 o8 p8
 obtain ⟨k0, k1, k2, k3, k4, k5, k6, k7⟩ := KX.out _ t_Y9
 go_wp2_with (at_builtin; refine wpList_runb _ rfl (.tmp 25) (.tmp 28) 38 rfl rfl rfl rY9 ?_)
 clear rY9
 refine (two_any h.s _ (by omega) (by omega)).mono ?_
 rintro e Y10 ⟨A10, c10, rfl, o10, u10⟩
 clear k0 k1 k2 k3 k4 k5 k6 k7
 have t_Y10 : Below W0.heap.size W0 Y10 := t_Y9.trans (u10.mono t_Y9.size)
 have p10 := oY9.step u10
 obtain ⟨A11, c11, Y11, rY11, oY11, tY11⟩ := run_app (P := Tryz.prog) Y10 W0.heap.size 38 38 5 .u8 i0 _ 1 Tryz.underlying38 hii hz0 hz1 hz2 rfl _ _ _ p10 _ A10 c10 _ o10.bs (by simp only [maxLen, List.length_append, be_length, List.length_cons, List.length_nil] <;> omega) (by simp only [List.length_append, be_length, List.length_cons, List.length_nil] <;> omega) t_Y10.size
 simp only [List.length_append, be_length, List.length_cons, List.length_nil, Nat.reduceAdd] at rY11
 have t_Y11 : Below W0.heap.size W0 Y11 := t_Y10.trans tY11
 clear oY9 u10 o10 p10
 obtain ⟨k0, k1, k2, k3, k4, k5, k6, k7⟩ := KX.out _ t_Y11
 go_wp2_with (at_builtin; refine wpList_runb _ rfl (.tmp 30) (.tmp 33) 38 rfl rfl rfl rY11 ?_)
 clear rY11
 refine (two_any h.n _ (by omega) (by omega)).mono ?_
 rintro e Y12 ⟨A12, c12, rfl, o12, u12⟩
 clear k0 k1 k2 k3 k4 k5 k6 k7
 have t_Y12 : Below W0.heap.size W0 Y12 := t_Y11.trans (u12.mono t_Y11.size)
 have p12 := oY11.step u12
 obtain ⟨A13, c13, Y13, rY13, oY13, tY13⟩ := run_app (P := Tryz.prog) Y12 W0.heap.size 38 38 5 .u8 i0 _ 1 Tryz.underlying38 hii hz0 hz1 hz2 rfl _ _ _ p12 _ A12 c12 _ o12.bs (by simp only [maxLen, List.length_append, be_length, List.length_cons, List.length_nil] <;> omega) (by simp only [List.length_append, be_length, List.length_cons, List.length_nil] <;> omega) t_Y12.size
 simp only [List.length_append, be_length, List.length_cons, List.length_nil, Nat.reduceAdd] at rY13
 have t_Y13 : Below W0.heap.size W0 Y13 := t_Y12.trans tY13
 clear oY11 u12 o12 p12
 obtain ⟨k0, k1, k2, k3, k4, k5, k6, k7⟩ := KX.out _ t_Y13
 go_wp2_with (at_builtin; refine wpList_runb _ rfl (.tmp 35) (.tmp 38) 38 rfl rfl rfl rY13 ?_)
 clear rY13
 go_ret
 exact ⟨_, _, rfl, by rw [HL.out]; exact oY13.lower HB.out.size, HB.out.trans (t_Y13.mono HB.out.size)⟩
end Go.Proofs.YtadcicmccdphkaaGreat
namespace Go.Proofs.YtadcicmccdphkaaGreat
open Go.RowKit Go.Joins

theorem own_some {k : IntKind} {e : TypeId} {w : World} {base c : Nat} {A : Option Addr} {l : List Int} (h : Own k e w base A c l) (hl : 0 < l.length) : ∃ g, A = some ⟨g, 0, none⟩ ∧ base ≤ g ∧ g < w.heap.size := by
 rcases h.form with ⟨_, _, rfl⟩ | ⟨g, _, h1, h2, h3, _⟩
 ·simp at hl
 ·exact ⟨g, h1, h2, h3⟩
theorem own_cellAt {k : IntKind} {e : TypeId} {w : World} {base g c : Nat} {l : List Int} (h : Own k e w base (some ⟨g, 0, none⟩) c l) {i : Nat} (hi : i < l.length) : w.cell? ⟨g, i, none⟩ = some (.int k (l.getD i 0)) := by
 obtain ⟨b, off, hA, -, hc⟩ := h.bs.at_ hi
 injection hA with hA
 injection hA with h1 h2
 subst h1 h2
 rwa [Nat.zero_add] at hc
end Go.Proofs.YtadcicmccdphkaaGreat
namespace Go.Proofs.YtadcicmccdphkaaGreat
open Go.RowKit

set_option maxHeartbeats 1000000 in
theorem rpair_any (A : Option Addr) (c : Nat) (l : List Int) (B : Nat) (w : World) (hb : Bs .u8 w B A l) (hy : Byt l) (hl : l.length ≤ 10000) :
  Calls Tryz.prog 88 #[.slice A l.length c] w fun e w' => e = .returned (.tuple #[.int .i64 (p0 l), .int .i64 (p1 l)]) ∧ w = w' := by
 go_enter Tryz.func88, Tryz.ntmps88
 go_wp2
 go_loop [4, 5, 6] (fun x y i => ∃ (j : Nat) (X Y : Int), j ≤ l.length ∧ i = .int .i64 j ∧ x = .int .i64 X ∧ y = .int .i64 Y ∧ 0 ≤ X ∧ X < 255 ∧ 0 ≤ Y ∧ Y < 255 ∧ Hid (X = p0 (l.take j) ∧ Y = p1 (l.take j))) (fun _ _ i => l.length - (intOf i).toNat)
 case atStart => exact ⟨0, 0, 0, Nat.zero_le _, rfl, rfl, rfl, by decide, by decide, by decide, by decide, rfl, rfl⟩
 case round =>
  obtain ⟨j, X, Y, hj, rfl, rfl, rfl, hX0, hX1, hY0, hY1, hXY⟩ := hrel
  by_cases hlt : j < l.length
  ·obtain ⟨b, off, rfl, _, hc⟩ := hb.at_ hlt
   have hx := hy l[j] (List.getElem_mem hlt)
   obtain ⟨hx0, hx1⟩ := hx
   go_wp2
   go_round
   case rel =>
    have h1 := p0_take l j hlt
    have h2 := p1_take l j hlt
    rw [← hXY.out.1] at h1
    rw [← hXY.out.2, h1] at h2
    exact ⟨j + 1, (X + l[j]) % 255, (Y + (X + l[j]) % 255) % 255, by omega, by go_num, val_int (by omega), val_int (by omega), by omega, by omega, by omega, by omega, ⟨h1.symm, h2.symm⟩⟩
   case measure => simp [intOf]; omega
  ·have hE : Hid (X = p0 l ∧ Y = p1 l) := by have := hXY.out; rwa [List.take_of_length_le (by omega)] at this
   go_wp2
   go_ret2
   rw [← hE.out.1, ← hE.out.2]
   exact ⟨rfl, rfl⟩
theorem rfits_any (A : Option Addr) (c : Nat) (l : List Int) (B : Nat) (w : World) (hb : Bs .u8 w B A l) (hy : Byt l) (hl : l.length ≤ 10000) :
  Calls Tryz.prog 61 #[.slice A l.length c] w fun e w' => e = .returned (.bool (p0 l == 0 && p1 l == 0)) ∧ w = w' := by
 by_cases h : (p0 l == 0) = true
 ·go_enter Tryz.func61, Tryz.ntmps61
  go_wp2_with (go_at_call 88; refine (rpair_any A c l B w hb hy hl).mono ?_; rintro e w' ⟨rfl, rfl⟩)
  go_ret
  rw [h]
  exact ⟨rfl, rfl⟩
 ·have h' : (p0 l == 0) = false := by simpa using h
  clear h
  go_enter Tryz.func61, Tryz.ntmps61
  go_wp2_with (go_at_call 88; refine (rpair_any A c l B w hb hy hl).mono ?_; rintro e w' ⟨rfl, rfl⟩)
  go_ret
  rw [h']
  exact ⟨rfl, rfl⟩
end Go.Proofs.YtadcicmccdphkaaGreat
