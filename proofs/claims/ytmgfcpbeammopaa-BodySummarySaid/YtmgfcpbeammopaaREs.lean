/-
  Contracts of the reference's Summary and External. No statement is proved here; no conditions.
-/
import Derived.Test.YtmgfcpbeammopaaEs
namespace Go.Proofs.Ytmgfcpbeammopaa
open Go.RowKit Go.Joins

theorem Own.step {k : IntKind} {e : TypeId} {w w' : World} {base : Nat} {A : Option Addr} {c : Nat} {l : List Int} (h : Own k e w base A c l) (hb : Below w.heap.size w w') : Own k e w' base A c l := h.below hb (Nat.le_refl _)
theorem be_four (s c : Int) (_hs0 : 0 ≤ s) (_hs1 : s < 256) (hc0 : 0 ≤ c) (hc1 : c < 16777216) : be (s * 16777216 + c) 4 = be s 1 ++ be c 3 := by
  simp only [be, List.nil_append, List.cons_append]
  simp only [List.cons.injEq, and_true]
  refine ⟨?_, ?_, ?_, ?_⟩ <;> omega
set_option maxRecDepth 100000 in
set_option maxHeartbeats 4000000 in
theorem rsummary_any (m x : Int) (w : World) (hm0 : 0 ≤ m) (hm1 : m < 4294967296) :
    Calls Try.prog 15 #[.agg #[.int .u32 m, .int .i64 x]] w fun e w' => ∃ A' c', e = .returned (.tuple #[.slice A' (encSL m x).length c', .int .i64 (encSE m x)]) ∧ Own .u8 5 w' w.heap.size A' c' (encSL m x) ∧ Below w.heap.size w w' := by
  obtain ⟨W0, hW0⟩ : ∃ V, w.alloc (.cells #[.int .u32 m, .int .i64 x] 44) = V := ⟨_, rfl⟩
  have bW0 : Below w.heap.size w W0 := by rw [← hW0]; exact below_alloc1 _ _
  have sW0 : W0.heap.size = w.heap.size + 1 := by rw [← hW0]; simp
  have KX : Hid (∀ V, Below W0.heap.size W0 V → V.cell? ⟨w.heap.size, 0, none⟩ = some (.int .u32 m) ∧ V.cell? ⟨w.heap.size, 1, none⟩ = some (.int .i64 x)) := Lib.hid (fun V hV => kb2_new hW0 hV)
  have HB : Hid (Below w.heap.size w W0) := Lib.hid bW0
  clear bW0
  obtain ⟨k0, k1⟩ := KX.out _ (Below.refl _ _)
  have CM := fun V => risMask_any (m) V hm0
  have CW := fun V => rcost_any (x) V
  have HE : Hid (mayc m x = (isM (m) && win (x) 0 16777215)) := Lib.hid rfl
  cases hT : isM (m)
  · rw [hT] at CM
    have hmn : mayc m x = false := by rw [HE.out, hT]; rfl
    have e1 : encSE m x = 1 := by simp [encSE, hmn]
    have e2 : encSL m x = [] := by simp [encSL, hmn]
    rw [e1, e2]
    clear e1 e2 hmn
    go_enter Try.func15, Try.ntmps15
    go_wp2_with fail
    refine (CM _).mono ?_
    rintro e _ ⟨rfl, rfl⟩
    go_wp2
    go_ret2
    exact ⟨none, 0, rfl, Own.nil _ _, HB.out⟩
  rw [hT] at CM
  cases hU : win (x) 0 16777215
  · rw [hU] at CW
    have hmn : mayc m x = false := by rw [HE.out, hT, hU]; rfl
    have e1 : encSE m x = 1 := by simp [encSE, hmn]
    have e2 : encSL m x = [] := by simp [encSL, hmn]
    rw [e1, e2]
    clear e1 e2 hmn
    go_enter Try.func15, Try.ntmps15
    go_wp2_with fail
    refine (CM _).mono ?_
    rintro e _ ⟨rfl, rfl⟩
    go_wp2_with fail
    refine (CW _).mono ?_
    rintro e _ ⟨rfl, rfl⟩
    go_wp2
    go_ret2
    exact ⟨none, 0, rfl, Own.nil _ _, HB.out⟩
  rw [hU] at CW
  have hmn : mayc m x = true := by rw [HE.out, hT, hU]; rfl
  have e1 : encSE m x = 0 := by simp [encSE, hmn]
  have e2 : encSL m x = enS m x := by simp [encSL, hmn]
  rw [e1, e2, enS_length]
  obtain ⟨hx0, hx1⟩ := (win_iff _ _ _).1 hU
  have HL : Hid (enS m x = be m 4 ++ be x 4) := Lib.hid (by
    have := be_four 0 x (by decide) (by decide) hx0 (by omega)
    rw [enS, ← this]
    simp)
  obtain ⟨i0, hi0, hz0, hz1, hz2⟩ := info_of info5
  clear e1 e2 hmn hT hU
  have tt : Below W0.heap.size W0 W0 := Below.refl _ _
  go_enter Try.func15, Try.ntmps15
  go_wp2_with fail
  refine (CM _).mono ?_
  rintro e _ ⟨rfl, rfl⟩
  go_wp2_with fail
  refine (CW _).mono ?_
  rintro e _ ⟨rfl, rfl⟩
  clear k0 k1 CM CW
  go_wp2_with fail
  refine wp_region_held_drew (S := fun V => V.cell? ⟨w.heap.size, 0, none⟩ = some (.int .u32 m) ∧ V.cell? ⟨w.heap.size, 1, none⟩ = some (.int .i64 x)) (by kernel_rfl) (KX.out _ tt.drew) (fun hHeld => ?_)
  replace tt : Below W0.heap.size W0 W0.drew := tt.drew
  generalize hX0 : W0.drew = Y0 at tt hHeld ⊢
  clear hX0
  refine wpAnyH_take (i := 0) (v := ?_) rfl (by kernel_rfl) (by kernel_rfl) (by kernel_rfl) (fun _ _ _ h => h) (Or.inl ⟨by rfl, ?_⟩) (by assumption) ?_
  rotate_left
  · (intro w' hSw; (try dsimp only at hSw); go_simp; try with_reducible rfl)
  simp only [Act.put, List.getElem_toArray, List.getElem_cons_zero, List.setIfInBounds_toArray, List.set_cons_zero, List.set_cons_succ]
  refine wpAnyH_take (i := 1) (v := ?_) rfl (by kernel_rfl) (by kernel_rfl) (by kernel_rfl) (fun _ _ _ h => h) (Or.inl ⟨by rfl, ?_⟩) (by assumption) ?_
  rotate_left
  · (intro w' hSw; (try dsimp only at hSw); go_simp; try with_reducible rfl)
  simp only [Act.put, List.getElem_toArray, List.getElem_cons_zero, List.getElem_cons_succ, List.setIfInBounds_toArray, List.set_cons_zero, List.set_cons_succ]
  refine wpAnyH_take (i := 3) (v := ?_) rfl (by kernel_rfl) (by kernel_rfl) (by kernel_rfl) (fun _ _ _ h => h) (Or.inl ⟨by rfl, ?_⟩) (by assumption) ?_
  rotate_left
  · (intro w' hSw; (try dsimp only at hSw); go_simp; try with_reducible rfl)
  simp only [Act.put, List.getElem_toArray, List.getElem_cons_zero, List.getElem_cons_succ, List.setIfInBounds_toArray, List.set_cons_zero, List.set_cons_succ]
  refine wpAnyH_take (i := 4) (v := ?_) rfl (by kernel_rfl) (by kernel_rfl) (by kernel_rfl) (fun _ _ _ h => h) (Or.inl ⟨by rfl, ?_⟩) (by assumption) ?_
  rotate_left
  · (intro w' hSw; (try dsimp only at hSw); go_simp; try with_reducible rfl)
  simp only [Act.put, List.getElem_toArray, List.getElem_cons_zero, List.getElem_cons_succ, List.setIfInBounds_toArray, List.set_cons_zero, List.set_cons_succ]
  refine wpAnyH_take (i := 5) (v := .int .u32 x) rfl (by kernel_rfl) (by kernel_rfl) (by kernel_rfl) (fun _ _ _ h => h) (Or.inl ⟨by rfl, ?_⟩) (by assumption) ?_
  · (intro w' hSw; (try dsimp only at hSw); go_simp; rw [wrap_u32 (by omega) (by omega)])
  simp only [Act.put, List.getElem_toArray, List.getElem_cons_zero, List.getElem_cons_succ, List.setIfInBounds_toArray, List.set_cons_zero, List.set_cons_succ]
  refine wpAnyH_ready (rs := [2]) (by kernel_rfl) (by simp) ?_
  refine AllReadyH.cons rfl (fun K hK => ?_) AllReadyH.nil
  go_simp
  go_at_call 29
  refine (four_any m Y0 (by omega) (by omega)).mono ?_
  rintro e Y1 ⟨A1, c1, rfl, o1, u1⟩
  have t_Y1 : Below W0.heap.size W0 Y1 := tt.trans (u1.mono tt.size)
  have oa := o1.lower (base' := W0.heap.size) tt.size
  clear o1
  refine hK.out _ _ (KX.out _ t_Y1) (fun _ => ?_)
  clear hK K
  refine wpAnyH_ready (rs := [6]) (by kernel_rfl) (by simp) ?_
  refine AllReadyH.cons rfl (fun K hK => ?_) AllReadyH.nil
  go_simp
  go_at_call 29
  refine (four_any x Y1 (by omega) (by omega)).mono ?_
  rintro e Y2 ⟨A2, c2, rfl, o2, u2⟩
  have t_Y2 : Below W0.heap.size W0 Y2 := t_Y1.trans (u2.mono t_Y1.size)
  replace oa := oa.step u2
  have ob := o2.lower (base' := W0.heap.size) t_Y1.size
  clear o2
  refine hK.out _ _ (KX.out _ t_Y2) (fun _ => ?_)
  clear hK K
  refine wpAnyH_ready (rs := [7]) (by kernel_rfl) (by simp) ?_
  refine AllReadyH.cons rfl (fun K hK => ?_) AllReadyH.nil
  obtain ⟨A3, c3, Y3, rY3, oY3, tY3⟩ := run_apn (P := Try.prog) Y2 W0.heap.size 25 25 5 .u8 i0 _ 1 Try.underlying25 hi0 hz0 hz1 hz2 rfl _ _ _ oa _ A2 c2 _ ob.bs 4 4 (be_length _ _) (be_length _ _) (by unfold maxLen; omega) (by omega) t_Y2.size
  have t_Y3 : Below W0.heap.size W0 Y3 := t_Y2.trans tY3
  refine step_runb _ rfl (.tmp 16) (.tmp 20) 25 rfl rfl rfl rY3 ?_
  refine hK.out _ _ (KX.out _ t_Y3) (fun _ => ?_)
  clear hK K
  refine wpAnyH_ready (rs := [8]) (by kernel_rfl) (by simp) ?_
  refine AllReadyH.cons rfl (fun K hK => ?_) AllReadyH.nil
  go_simp
  refine hK.out _ _ (KX.out _ t_Y3) (fun _ => ?_)
  clear hK K
  refine wpAnyH_ready (rs := [9]) (by kernel_rfl) (by simp) ?_
  refine AllReadyH.cons rfl (fun K hK => ?_) AllReadyH.nil
  go_simp
  refine hK.out _ _ (KX.out _ t_Y3) (fun _ => ?_)
  clear hK K
  refine wpAnyH_done (by kernel_rfl) ?_ _
  go_wp2
  go_ret2
  exact ⟨A3, c3, rfl, by rw [HL.out]; exact oY3.lower HB.out.size, HB.out.trans (t_Y3.mono HB.out.size)⟩
set_option maxRecDepth 100000 in
set_option maxHeartbeats 4000000 in
theorem rexternal_any (x : Xb) (w : World) (ok : Okx x) :
    Calls Try.prog 19 #[.agg #[.int .u32 x.m, .bool x.s, .int .i64 x.c, .int .u32 x.f, .int .u32 x.t]] w fun e w' => ∃ A' c', e = .returned (.tuple #[.slice A' (encXL x).length c', .int .i64 (encXE x)]) ∧ Own .u8 5 w' w.heap.size A' c' (encXL x) ∧ Below w.heap.size w w' := by
  obtain ⟨W0, hW0⟩ : ∃ V, w.alloc (.cells #[.int .u32 x.m, .bool x.s, .int .i64 x.c, .int .u32 x.f, .int .u32 x.t] 54) = V := ⟨_, rfl⟩
  have bW0 : Below w.heap.size w W0 := by rw [← hW0]; exact below_alloc1 _ _
  have sW0 : W0.heap.size = w.heap.size + 1 := by rw [← hW0]; simp
  have KX : Hid (∀ V, Below W0.heap.size W0 V → V.cell? ⟨w.heap.size, 0, none⟩ = some (.int .u32 x.m) ∧ V.cell? ⟨w.heap.size, 1, none⟩ = some (.bool x.s) ∧ V.cell? ⟨w.heap.size, 2, none⟩ = some (.int .i64 x.c) ∧ V.cell? ⟨w.heap.size, 3, none⟩ = some (.int .u32 x.f) ∧ V.cell? ⟨w.heap.size, 4, none⟩ = some (.int .u32 x.t)) := Lib.hid (fun V hV => kb5_new hW0 hV)
  have HB : Hid (Below w.heap.size w W0) := Lib.hid bW0
  clear bW0
  obtain ⟨k0, k1, k2, k3, k4⟩ := KX.out _ (Below.refl _ _)
  obtain ⟨⟨hm0, hm1⟩, ⟨hf0, hf1⟩, ht0, ht1⟩ := ok
  have CM := fun V => risMask_any (x.m) V hm0
  have CW := fun V => rcost_any (x.c) V
  have HE : Hid (mayc x.m x.c = (isM (x.m) && win (x.c) 0 16777215)) := Lib.hid rfl
  cases hT : isM (x.m)
  · rw [hT] at CM
    have hmn : mayc x.m x.c = false := by rw [HE.out, hT]; rfl
    have e1 : encXE x = 1 := by simp [encXE, hmn]
    have e2 : encXL x = [] := by simp [encXL, hmn]
    rw [e1, e2]
    clear e1 e2 hmn
    go_enter Try.func19, Try.ntmps19
    go_wp2_with fail
    refine (CM _).mono ?_
    rintro e _ ⟨rfl, rfl⟩
    go_wp2
    go_ret2
    exact ⟨none, 0, rfl, Own.nil _ _, HB.out⟩
  rw [hT] at CM
  cases hU : win (x.c) 0 16777215
  · rw [hU] at CW
    have hmn : mayc x.m x.c = false := by rw [HE.out, hT, hU]; rfl
    have e1 : encXE x = 1 := by simp [encXE, hmn]
    have e2 : encXL x = [] := by simp [encXL, hmn]
    rw [e1, e2]
    clear e1 e2 hmn
    go_enter Try.func19, Try.ntmps19
    go_wp2_with fail
    refine (CM _).mono ?_
    rintro e _ ⟨rfl, rfl⟩
    go_wp2_with fail
    refine (CW _).mono ?_
    rintro e _ ⟨rfl, rfl⟩
    go_wp2
    go_ret2
    exact ⟨none, 0, rfl, Own.nil _ _, HB.out⟩
  rw [hU] at CW
  have hmn : mayc x.m x.c = true := by rw [HE.out, hT, hU]; rfl
  have e1 : encXE x = 0 := by simp [encXE, hmn]
  have e2 : encXL x = enX x := by simp [encXL, hmn]
  rw [e1, e2, enX_length]
  obtain ⟨hx0, hx1⟩ := (win_iff _ _ _).1 hU
  have HL0 : ∀ y, sec x.s * 16777216 + x.c = y → Hid ((be x.m 4 ++ be y 4) ++ be x.f 4 ++ be x.t 4 = enX x) := fun y hy => Lib.hid (by
    have := sec_bd x.s
    rw [← hy, be_four (sec x.s) x.c this.1 this.2 hx0 (by omega), enX]
    simp [flat, List.append_assoc])
  obtain ⟨i0, hi0, hz0, hz1, hz2⟩ := info_of info5
  clear e1 e2 hmn hT hU
  have tt : Below W0.heap.size W0 W0 := Below.refl _ _
  have hwc : IntKind.u32.wrap x.c = x.c := wrap_u32 (by omega) (by omega)
  cases hS : x.s
  · have HL := HL0 x.c (by rw [hS]; simp [sec])
    rw [hS] at KX k1 hW0
    clear HL0 hS
    go_enter Try.func19, Try.ntmps19
    go_wp2_with fail
    refine (CM _).mono ?_
    rintro e _ ⟨rfl, rfl⟩
    go_wp2_with fail
    refine (CW _).mono ?_
    rintro e _ ⟨rfl, rfl⟩
    clear CM CW
    go_wp2_with fail
    refine (four_any (x.m) _ (by omega) (by omega)).mono ?_
    rintro e X1 ⟨A1, c1, rfl, o1, u1⟩
    have t1 : Below W0.heap.size W0 X1 := tt.trans (u1.mono tt.size)
    have p1 := o1.lower (base' := W0.heap.size) tt.size
    clear o1 u1 k0 k1 k2 k3 k4
    obtain ⟨k0, k1, k2, k3, k4⟩ := KX.out _ t1
    go_wp2_with fail
    refine (four_any (x.c) _ (by omega) (by omega)).mono ?_
    rintro e X2 ⟨A2, c2, rfl, o2, u2⟩
    have t2 : Below W0.heap.size W0 X2 := t1.trans (u2.mono t1.size)
    replace p1 := p1.step u2
    have p2 := o2.lower (base' := W0.heap.size) t1.size
    clear o2 u2 k0 k1 k2 k3 k4
    obtain ⟨k0, k1, k2, k3, k4⟩ := KX.out _ t2
    have hq3 : (be x.m 4).length = 4 := by exact be_length _ _
    obtain ⟨A3, c3, X3, rX3, oX3, tX3⟩ := run_apn (P := Try.prog) X2 W0.heap.size 25 25 5 .u8 i0 _ 1 Try.underlying25 hi0 hz0 hz1 hz2 rfl _ _ _ p1 _ A2 c2 _ p2.bs 4 4 hq3 (be_length _ _) (by unfold maxLen; omega) (by omega) t2.size
    have t3 : Below W0.heap.size W0 X3 := t2.trans tX3
    clear hq3 p1 p2 tX3 k0 k1 k2 k3 k4
    obtain ⟨k0, k1, k2, k3, k4⟩ := KX.out _ t3
    go_wp2_with (at_builtin; refine wpList_runb _ rfl (.tmp 25) (.tmp 27) 25 rfl rfl rfl rX3 ?_)
    clear rX3
    refine (four_any (x.f) _ (by omega) (by omega)).mono ?_
    rintro e X4 ⟨A4, c4, rfl, o4, u4⟩
    have t4 : Below W0.heap.size W0 X4 := t3.trans (u4.mono t3.size)
    replace oX3 := oX3.step u4
    have p4 := o4.lower (base' := W0.heap.size) t3.size
    clear o4 u4 k0 k1 k2 k3 k4
    obtain ⟨k0, k1, k2, k3, k4⟩ := KX.out _ t4
    have hq5 : (be x.m 4 ++ be (x.c) 4).length = (4 + 4) := by simp [be_length]
    obtain ⟨A5, c5, X5, rX5, oX5, tX5⟩ := run_apn (P := Try.prog) X4 W0.heap.size 25 25 5 .u8 i0 _ 1 Try.underlying25 hi0 hz0 hz1 hz2 rfl _ _ _ oX3 _ A4 c4 _ p4.bs (4 + 4) 4 hq5 (be_length _ _) (by unfold maxLen; omega) (by omega) t4.size
    have t5 : Below W0.heap.size W0 X5 := t4.trans tX5
    clear hq5 oX3 p4 tX5 k0 k1 k2 k3 k4
    obtain ⟨k0, k1, k2, k3, k4⟩ := KX.out _ t5
    go_wp2_with (at_builtin; refine wpList_runb _ rfl (.tmp 29) (.tmp 32) 25 rfl rfl rfl rX5 ?_)
    clear rX5
    refine (four_any (x.t) _ (by omega) (by omega)).mono ?_
    rintro e X6 ⟨A6, c6, rfl, o6, u6⟩
    have t6 : Below W0.heap.size W0 X6 := t5.trans (u6.mono t5.size)
    replace oX5 := oX5.step u6
    have p6 := o6.lower (base' := W0.heap.size) t5.size
    clear o6 u6 k0 k1 k2 k3 k4
    obtain ⟨k0, k1, k2, k3, k4⟩ := KX.out _ t6
    have hq7 : (be x.m 4 ++ be (x.c) 4 ++ be x.f 4).length = (4 + 4 + 4) := by simp [be_length]
    obtain ⟨A7, c7, X7, rX7, oX7, tX7⟩ := run_apn (P := Try.prog) X6 W0.heap.size 25 25 5 .u8 i0 _ 1 Try.underlying25 hi0 hz0 hz1 hz2 rfl _ _ _ oX5 _ A6 c6 _ p6.bs (4 + 4 + 4) 4 hq7 (be_length _ _) (by unfold maxLen; omega) (by omega) t6.size
    have t7 : Below W0.heap.size W0 X7 := t6.trans tX7
    clear hq7 oX5 p6 tX7 k0 k1 k2 k3 k4
    obtain ⟨k0, k1, k2, k3, k4⟩ := KX.out _ t7
    go_wp2_with (at_builtin; refine wpList_runb _ rfl (.tmp 34) (.tmp 37) 25 rfl rfl rfl rX7 ?_)
    clear rX7
    go_ret2
    exact ⟨A7, c7, rfl, by rw [← HL.out]; exact oX7.lower HB.out.size, HB.out.trans (t7.mono HB.out.size)⟩
  · have hwd : IntKind.u32.wrap (x.c + 2147483648) = x.c + 2147483648 := wrap_u32 (by omega) (by omega)
    have HL := HL0 (x.c + 2147483648) (by rw [hS]; simp [sec]; omega)
    rw [hS] at KX k1 hW0
    clear HL0 hS
    go_enter Try.func19, Try.ntmps19
    go_wp2_with fail
    refine (CM _).mono ?_
    rintro e _ ⟨rfl, rfl⟩
    go_wp2_with fail
    refine (CW _).mono ?_
    rintro e _ ⟨rfl, rfl⟩
    clear CM CW
    go_wp2_with fail
    refine (four_any (x.m) _ (by omega) (by omega)).mono ?_
    rintro e X1 ⟨A1, c1, rfl, o1, u1⟩
    have t1 : Below W0.heap.size W0 X1 := tt.trans (u1.mono tt.size)
    have p1 := o1.lower (base' := W0.heap.size) tt.size
    clear o1 u1 k0 k1 k2 k3 k4
    obtain ⟨k0, k1, k2, k3, k4⟩ := KX.out _ t1
    go_wp2_with fail
    refine (four_any ((x.c + 2147483648)) _ (by omega) (by omega)).mono ?_
    rintro e X2 ⟨A2, c2, rfl, o2, u2⟩
    have t2 : Below W0.heap.size W0 X2 := t1.trans (u2.mono t1.size)
    replace p1 := p1.step u2
    have p2 := o2.lower (base' := W0.heap.size) t1.size
    clear o2 u2 k0 k1 k2 k3 k4
    obtain ⟨k0, k1, k2, k3, k4⟩ := KX.out _ t2
    have hq3 : (be x.m 4).length = 4 := by exact be_length _ _
    obtain ⟨A3, c3, X3, rX3, oX3, tX3⟩ := run_apn (P := Try.prog) X2 W0.heap.size 25 25 5 .u8 i0 _ 1 Try.underlying25 hi0 hz0 hz1 hz2 rfl _ _ _ p1 _ A2 c2 _ p2.bs 4 4 hq3 (be_length _ _) (by unfold maxLen; omega) (by omega) t2.size
    have t3 : Below W0.heap.size W0 X3 := t2.trans tX3
    clear hq3 p1 p2 tX3 k0 k1 k2 k3 k4
    obtain ⟨k0, k1, k2, k3, k4⟩ := KX.out _ t3
    go_wp2_with (at_builtin; refine wpList_runb _ rfl (.tmp 25) (.tmp 27) 25 rfl rfl rfl rX3 ?_)
    clear rX3
    refine (four_any (x.f) _ (by omega) (by omega)).mono ?_
    rintro e X4 ⟨A4, c4, rfl, o4, u4⟩
    have t4 : Below W0.heap.size W0 X4 := t3.trans (u4.mono t3.size)
    replace oX3 := oX3.step u4
    have p4 := o4.lower (base' := W0.heap.size) t3.size
    clear o4 u4 k0 k1 k2 k3 k4
    obtain ⟨k0, k1, k2, k3, k4⟩ := KX.out _ t4
    have hq5 : (be x.m 4 ++ be ((x.c + 2147483648)) 4).length = (4 + 4) := by simp [be_length]
    obtain ⟨A5, c5, X5, rX5, oX5, tX5⟩ := run_apn (P := Try.prog) X4 W0.heap.size 25 25 5 .u8 i0 _ 1 Try.underlying25 hi0 hz0 hz1 hz2 rfl _ _ _ oX3 _ A4 c4 _ p4.bs (4 + 4) 4 hq5 (be_length _ _) (by unfold maxLen; omega) (by omega) t4.size
    have t5 : Below W0.heap.size W0 X5 := t4.trans tX5
    clear hq5 oX3 p4 tX5 k0 k1 k2 k3 k4
    obtain ⟨k0, k1, k2, k3, k4⟩ := KX.out _ t5
    go_wp2_with (at_builtin; refine wpList_runb _ rfl (.tmp 29) (.tmp 32) 25 rfl rfl rfl rX5 ?_)
    clear rX5
    refine (four_any (x.t) _ (by omega) (by omega)).mono ?_
    rintro e X6 ⟨A6, c6, rfl, o6, u6⟩
    have t6 : Below W0.heap.size W0 X6 := t5.trans (u6.mono t5.size)
    replace oX5 := oX5.step u6
    have p6 := o6.lower (base' := W0.heap.size) t5.size
    clear o6 u6 k0 k1 k2 k3 k4
    obtain ⟨k0, k1, k2, k3, k4⟩ := KX.out _ t6
    have hq7 : (be x.m 4 ++ be ((x.c + 2147483648)) 4 ++ be x.f 4).length = (4 + 4 + 4) := by simp [be_length]
    obtain ⟨A7, c7, X7, rX7, oX7, tX7⟩ := run_apn (P := Try.prog) X6 W0.heap.size 25 25 5 .u8 i0 _ 1 Try.underlying25 hi0 hz0 hz1 hz2 rfl _ _ _ oX5 _ A6 c6 _ p6.bs (4 + 4 + 4) 4 hq7 (be_length _ _) (by unfold maxLen; omega) (by omega) t6.size
    have t7 : Below W0.heap.size W0 X7 := t6.trans tX7
    clear hq7 oX5 p6 tX7 k0 k1 k2 k3 k4
    obtain ⟨k0, k1, k2, k3, k4⟩ := KX.out _ t7
    go_wp2_with (at_builtin; refine wpList_runb _ rfl (.tmp 34) (.tmp 37) 25 rfl rfl rfl rX7 ?_)
    clear rX7
    go_ret2
    exact ⟨A7, c7, rfl, by rw [← HL.out]; exact oX7.lower HB.out.size, HB.out.trans (t7.mono HB.out.size)⟩
end Go.Proofs.Ytmgfcpbeammopaa
