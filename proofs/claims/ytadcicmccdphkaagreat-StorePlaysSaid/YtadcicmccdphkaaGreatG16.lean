/-
  Contracts of body.Summary, body.External and body.Network. No statement is proved here; no conditions.
-/
import Derived.Test.YtadcicmccdphkaaGreatG15
namespace Go.Proofs.YtadcicmccdphkaaGreat
open Go.RowKit Go.Joins
open List (getElem_toArray getElem_cons_zero getElem_cons_succ setIfInBounds_toArray set_cons_zero set_cons_succ)

def enS (m x : Int) : List Int := be m 4 ++ (be 0 1 ++ be x 3)
theorem enS_length (m x : Int) : (enS m x).length = 8 := by simp [enS, be_length]
theorem enS_byt (m x : Int) : Byt (enS m x) := (be_byt _ _).append ((be_byt _ _).append (be_byt _ _))
def encSE (m x : Int) : Int := if mayc m x = true then 0 else 1
def encSL (m x : Int) : List Int := if mayc m x = true then enS m x else []
theorem mayc_iff (m x : Int) : mayc m x = true ↔ isM m = true ∧ 0 ≤ x ∧ x ≤ 16777215 := by simp [mayc, win]
structure Okx (x : Xb) : Prop where
 m : 0 ≤ x.m ∧ x.m < 4294967296
 f : 0 ≤ x.f ∧ x.f < 4294967296
 t : 0 ≤ x.t ∧ x.t < 4294967296
def enX (x : Xb) : List Int := be x.m 4 ++ (be (sec x.s) 1 ++ (be x.c 3 ++ flat 4 [x.f, x.t]))
theorem enX_length (x : Xb) : (enX x).length = 16 := by simp [enX, be_length, flat_length]
theorem flat_byt (k : Nat) (l : List Int) : Byt (flat k l) := by
 intro y hy
 obtain ⟨a, ha, h⟩ := List.mem_flatten.1 hy
 obtain ⟨b, _, rfl⟩ := List.mem_map.1 ha
 exact be_byt _ _ y h
theorem enX_byt (x : Xb) : Byt (enX x) := (be_byt _ _).append ((be_byt _ _).append ((be_byt _ _).append (flat_byt _ _)))
def encXE (x : Xb) : Int := if mayc x.m x.c = true then 0 else 1
def encXL (x : Xb) : List Int := if mayc x.m x.c = true then enX x else []
theorem sec_bd (s : Bool) : 0 ≤ sec s ∧ sec s < 256 := by cases s <;> decide
def mayN (m : Int) (l : List Int) : Bool := isM m && win (l.length : Int) 1 200
theorem mayN_iff (m : Int) (l : List Int) : mayN m l = true ↔ isM m = true ∧ 1 ≤ l.length ∧ l.length ≤ 200 := by simp [mayN, win]; omega
def enN (m : Int) (l : List Int) : List Int := be m 4 ++ flat 4 l
theorem enN_length (m : Int) (l : List Int) : (enN m l).length = 4 + l.length * 4 := by simp [enN, be_length, flat_length]
theorem enN_byt (m : Int) (l : List Int) : Byt (enN m l) := (be_byt _ _).append (flat_byt _ _)
def encNE (m : Int) (l : List Int) : Int := if mayN m l = true then 0 else 1
def encNL (m : Int) (l : List Int) : List Int := if mayN m l = true then enN m l else []
set_option maxRecDepth 100000 in
set_option maxHeartbeats 4000000 in
theorem summary_any (m x : Int) (w : World) (hm0 : 0 ≤ m) (hm1 : m < 4294967296) :
  Calls Tryz.prog 105 #[.agg #[.int .u32 m, .int .i64 x]] w fun e w' => ∃ A' c', e = .returned (.tuple #[.slice A' (encSL m x).length c', .int .i64 (encSE m x)]) ∧ Own .u8 5 w' w.heap.size A' c' (encSL m x) ∧ Below w.heap.size w w' := by
 obtain ⟨W0, hW0⟩ : ∃ V, w.alloc (.cells #[.int .u32 m, .int .i64 x] 130) = V := ⟨_, rfl⟩
 have bW0 : Below w.heap.size w W0 := by rw [← hW0]; exact below_alloc1 _ _
 have sW0 : W0.heap.size = w.heap.size + 1 := by rw [← hW0]; simp
 have KX : Hid (∀ V, Below W0.heap.size W0 V → V.cell? ⟨w.heap.size, 0, none⟩ = some (.int .u32 m) ∧ V.cell? ⟨w.heap.size, 1, none⟩ = some (.int .i64 x)) := Lib.hid (fun V hV => kb2_new hW0 hV)
 have HB : Hid (Below w.heap.size w W0) := Lib.hid bW0
 have CM := mayCost_any m x W0 hm0 hm1
 clear bW0
 obtain ⟨k0, k1⟩ := KX.out _ (Below.refl _ _)
 by_cases hm : mayc m x = true
 case neg =>
  have e1 : encSE m x = 1 := by simp [encSE, hm]
  have e2 : encSL m x = [] := by simp [encSL, hm]
  rw [e1, e2]
  have hm2 : mayc m x = false := by simpa using hm
  clear e1 e2 hm
  go_enter Tryz.func105, Tryz.ntmps105
  go_wp2_with fail
  refine CM.mono ?_
  rintro e X0 ⟨rfl, t0⟩
  rw [hm2]
  go_wp2
  go_ret2
  exact ⟨none, 0, rfl, Own.nil _ _, HB.out.trans (t0.mono HB.out.size)⟩
 have e1 : encSE m x = 0 := by simp [encSE, hm]
 have e2 : encSL m x = enS m x := by simp [encSL, hm]
 rw [e1, e2, enS_length]
 have hmi := (mayc_iff m x).1 hm
 obtain ⟨-, hx0, hx1⟩ := hmi
 have HM := Lib.hid hm
 clear e1 e2 hm
 go_enter Tryz.func105, Tryz.ntmps105
 go_wp2_with fail
 refine CM.mono ?_
 rintro e X0 ⟨rfl, t0⟩
 rw [HM.out]
 clear k0 k1 CM
 go_wp2_with fail
 refine wp_region_held_drew (S := fun V => V.cell? ⟨w.heap.size, 0, none⟩ = some (.int .u32 m) ∧ V.cell? ⟨w.heap.size, 1, none⟩ = some (.int .i64 x)) (by kernel_rfl) (KX.out _ t0.drew) (fun hHeld => ?_)
 replace t0 : Below W0.heap.size W0 X0.drew := t0.drew
 generalize hX0 : X0.drew = Y0 at t0 hHeld ⊢
 clear hX0
 refine wpAnyH_take (i := 0) (v := ?_) rfl (by kernel_rfl) (by kernel_rfl) (by kernel_rfl) (fun _ _ _ h => h) (Or.inl ⟨by rfl, ?_⟩) (by assumption) ?_
 rotate_left
 ·(intro w' hSw; (try dsimp only at hSw); go_simp; try with_reducible rfl)
 simp only [Act.put, getElem_toArray, getElem_cons_zero, setIfInBounds_toArray, set_cons_zero, set_cons_succ]
 refine wpAnyH_take (i := 1) (v := ?_) rfl (by kernel_rfl) (by kernel_rfl) (by kernel_rfl) (fun _ _ _ h => h) (Or.inl ⟨by rfl, ?_⟩) (by assumption) ?_
 rotate_left
 ·(intro w' hSw; (try dsimp only at hSw); go_simp; try with_reducible rfl)
 simp only [Act.put, getElem_toArray, getElem_cons_zero, getElem_cons_succ, setIfInBounds_toArray, set_cons_zero, set_cons_succ]
 refine wpAnyH_take (i := 4) (v := ?_) rfl (by kernel_rfl) (by kernel_rfl) (by kernel_rfl) (fun _ _ _ h => h) (Or.inl ⟨by rfl, ?_⟩) (by assumption) ?_
 rotate_left
 ·(intro w' hSw; (try dsimp only at hSw); go_simp; try with_reducible rfl)
 simp only [Act.put, getElem_toArray, getElem_cons_zero, getElem_cons_succ, setIfInBounds_toArray, set_cons_zero, set_cons_succ]
 refine wpAnyH_take (i := 5) (v := ?_) rfl (by kernel_rfl) (by kernel_rfl) (by kernel_rfl) (fun _ _ _ h => h) (Or.inl ⟨by rfl, ?_⟩) (by assumption) ?_
 rotate_left
 ·(intro w' hSw; (try dsimp only at hSw); go_simp; try with_reducible rfl)
 simp only [Act.put, getElem_toArray, getElem_cons_zero, getElem_cons_succ, setIfInBounds_toArray, set_cons_zero, set_cons_succ]
 refine wpAnyH_take (i := 6) (v := .int .u32 x) rfl (by kernel_rfl) (by kernel_rfl) (by kernel_rfl) (fun _ _ _ h => h) (Or.inl ⟨by rfl, ?_⟩) (by assumption) ?_
 ·(intro w' hSw; (try dsimp only at hSw); go_simp; rw [wrap_u32 (by omega) (by omega)])
 simp only [Act.put, getElem_toArray, getElem_cons_zero, getElem_cons_succ, setIfInBounds_toArray, set_cons_zero, set_cons_succ]
 refine wpAnyH_ready (rs := [2]) (by kernel_rfl) (by simp) ?_
 refine AllReadyH.cons rfl (fun K hK => ?_) AllReadyH.nil
 go_simp
 go_at_call 125
 refine (yfield_any m 4 4 Y0 rfl (by decide) (by decide) (by omega) (by omega) (by omega)).mono ?_
 rintro e Y1 ⟨A1, c1, rfl, o1, u1⟩
 have t_Y1 : Below W0.heap.size W0 Y1 := t0.trans (u1.mono t0.size)
 have z1 := o1.bs
 clear o1
 refine hK.out _ _ (KX.out _ t_Y1) (fun _ => ?_)
 clear hK K
 refine wpAnyH_ready (rs := [3]) (by kernel_rfl) (by simp) ?_
 refine AllReadyH.cons rfl (fun K hK => ?_) AllReadyH.nil
 go_simp
 go_at_call 125
 refine (yfield_any 0 1 1 Y1 rfl (by decide) (by decide) (by omega) (by omega) (by omega)).mono ?_
 rintro e Y2 ⟨A2, c2, rfl, o2, u2⟩
 have t_Y2 : Below W0.heap.size W0 Y2 := t_Y1.trans (u2.mono t_Y1.size)
 replace z1 := z1.step u2
 have z2 := o2.bs
 clear o2
 refine hK.out _ _ (KX.out _ t_Y2) (fun _ => ?_)
 clear hK K
 refine wpAnyH_ready (rs := [7]) (by kernel_rfl) (by simp) ?_
 refine AllReadyH.cons rfl (fun K hK => ?_) AllReadyH.nil
 go_simp
 go_at_call 125
 refine (yfield_any x 3 3 Y2 rfl (by decide) (by decide) (by omega) (by omega) (by omega)).mono ?_
 rintro e Y3 ⟨A3, c3, rfl, o3, u3⟩
 have t_Y3 : Below W0.heap.size W0 Y3 := t_Y2.trans (u3.mono t_Y2.size)
 replace z1 := z1.step u3
 replace z2 := z2.step u3
 have z3 := o3.bs
 clear o3
 refine hK.out _ _ (KX.out _ t_Y3) (fun _ => ?_)
 clear hK K
 refine wpAnyH_ready (rs := [8]) (by kernel_rfl) (by simp) ?_
 refine AllReadyH.cons rfl (fun K hK => ?_) AllReadyH.nil
 go_simp
 obtain ⟨Y4, hY4⟩ : ∃ V, Y3.alloc (.cells #[.slice A1 4 c1, .slice A2 1 c2, .slice A3 3 c3] 38) = V := ⟨_, rfl⟩
 have u4 : Below Y3.heap.size Y3 Y4 := by rw [← hY4]; exact below_alloc1 _ _
 have t_Y4 : Below W0.heap.size W0 Y4 := t_Y3.trans (u4.mono t_Y3.size)
 replace z1 := z1.step u4
 replace z2 := z2.step u4
 replace z3 := z3.step u4
 obtain ⟨k4, hk4⟩ : ∃ k, Y3.heap.size = k := ⟨_, rfl⟩
 have hP : Ps Y4 (some ⟨k4, 0, none⟩) [⟨A1, c1, be m 4⟩, ⟨A2, c2, be 0 1⟩, ⟨A3, c3, be x 3⟩] := by
  rw [← hY4]
  exact Ps.mk _ _ _ _ _ hk4 (by simp [be_length])
 try rw [hY4]
 try rw [hk4]
 refine hK.out _ _ (KX.out _ t_Y4) (fun _ => ?_)
 clear hK K
 refine wpAnyH_ready (rs := [9]) (by kernel_rfl) (by simp) ?_
 refine AllReadyH.cons rfl (fun K hK => ?_) AllReadyH.nil
 go_simp
 have cc := concat_n (some ⟨k4, 0, none⟩) 3 3 _ Y4 rfl hP (fun p' hp => by
  simp only [List.mem_cons, List.not_mem_nil, or_false] at hp
  rcases hp with rfl | rfl | rfl
  ·exact z1
  ·exact z2
  ·exact z3) (by simp) (by simp [cat, be_length] <;> omega)
 have hcat : cat [⟨A1, c1, be m 4⟩, ⟨A2, c2, be 0 1⟩, ⟨A3, c3, be x 3⟩] = enS m x := by simp [cat, enS]
 rw [hcat] at cc
 rw [enS_length] at cc
 clear hcat
 go_at_call 93
 refine (cc).mono ?_
 rintro e Y5 ⟨A5, c5, rfl, o5, u5⟩
 have t_Y5 : Below W0.heap.size W0 Y5 := t_Y4.trans (u5.mono t_Y4.size)
 replace z1 := z1.step u5
 replace z2 := z2.step u5
 replace z3 := z3.step u5
 replace hP := hP.step u5
 refine hK.out _ _ (KX.out _ t_Y5) (fun _ => ?_)
 clear hK K
 refine wpAnyH_ready (rs := [10]) (by kernel_rfl) (by simp) ?_
 refine AllReadyH.cons rfl (fun K hK => ?_) AllReadyH.nil
 go_simp
 refine hK.out _ _ (KX.out _ t_Y5) (fun _ => ?_)
 clear hK K
 refine wpAnyH_ready (rs := [11]) (by kernel_rfl) (by simp) ?_
 refine AllReadyH.cons rfl (fun K hK => ?_) AllReadyH.nil
 go_simp
 refine hK.out _ _ (KX.out _ t_Y5) (fun _ => ?_)
 clear hK K
 refine wpAnyH_done (by kernel_rfl) ?_ _
 go_wp2
 go_ret2
 exact ⟨A5, c5, rfl, o5.lower (Nat.le_trans HB.out.size t_Y4.size), HB.out.trans (t_Y5.mono HB.out.size)⟩
set_option maxRecDepth 100000 in
set_option maxHeartbeats 4000000 in
theorem external_any (x : Xb) (w : World) (ok : Okx x) :
  Calls Tryz.prog 107 #[.agg #[.int .u32 x.m, .bool x.s, .int .i64 x.c, .int .u32 x.f, .int .u32 x.t]] w fun e w' => ∃ A' c', e = .returned (.tuple #[.slice A' (encXL x).length c', .int .i64 (encXE x)]) ∧ Own .u8 5 w' w.heap.size A' c' (encXL x) ∧ Below w.heap.size w w' := by
 obtain ⟨W0, hW0⟩ : ∃ V, w.alloc (.cells #[.int .u32 x.m, .bool x.s, .int .i64 x.c, .int .u32 x.f, .int .u32 x.t] 133) = V := ⟨_, rfl⟩
 have bW0 : Below w.heap.size w W0 := by rw [← hW0]; exact below_alloc1 _ _
 have sW0 : W0.heap.size = w.heap.size + 1 := by rw [← hW0]; simp
 have KX : Hid (∀ V, Below W0.heap.size W0 V → V.cell? ⟨w.heap.size, 0, none⟩ = some (.int .u32 x.m) ∧ V.cell? ⟨w.heap.size, 1, none⟩ = some (.bool x.s) ∧ V.cell? ⟨w.heap.size, 2, none⟩ = some (.int .i64 x.c) ∧ V.cell? ⟨w.heap.size, 3, none⟩ = some (.int .u32 x.f) ∧ V.cell? ⟨w.heap.size, 4, none⟩ = some (.int .u32 x.t)) := Lib.hid (fun V hV => kb5_new hW0 hV)
 have HB : Hid (Below w.heap.size w W0) := Lib.hid bW0
 have CM := mayCost_any x.m x.c W0 ok.m.1 ok.m.2
 clear bW0
 obtain ⟨k0, k1, k2, k3, k4⟩ := KX.out _ (Below.refl _ _)
 by_cases hm : mayc x.m x.c = true
 case neg =>
  have e1 : encXE x = 1 := by simp [encXE, hm]
  have e2 : encXL x = [] := by simp [encXL, hm]
  rw [e1, e2]
  have hm2 : mayc x.m x.c = false := by simpa using hm
  clear e1 e2 hm
  go_enter Tryz.func107, Tryz.ntmps107
  go_wp2_with fail
  refine CM.mono ?_
  rintro e X0 ⟨rfl, t0⟩
  rw [hm2]
  go_wp2
  go_ret2
  exact ⟨none, 0, rfl, Own.nil _ _, HB.out.trans (t0.mono HB.out.size)⟩
 have e1 : encXE x = 0 := by simp [encXE, hm]
 have e2 : encXL x = enX x := by simp [encXL, hm]
 rw [e1, e2, enX_length]
 have hmi := (mayc_iff x.m x.c).1 hm
 obtain ⟨-, hx0, hx1⟩ := hmi
 obtain ⟨⟨hm0, hm1⟩, ⟨hf0, hf1⟩, ht0, ht1⟩ := ok
 have HW : Hid (Wrd [x.f, x.t]) := Lib.hid (fun y hy => by
  simp only [List.mem_cons, List.not_mem_nil, or_false] at hy
  rcases hy with rfl | rfl
  ·exact ⟨hf0, hf1⟩
  ·exact ⟨ht0, ht1⟩)
 obtain ⟨y, hy⟩ : ∃ y, sec x.s = y := ⟨_, rfl⟩
 obtain ⟨hy0, hy1⟩ := sec_bd x.s
 rw [hy] at hy0 hy1
 have CS := fun V => second_any x V
 rw [hy] at CS
 have HX : Hid (be x.m 4 ++ (be y 1 ++ (be x.c 3 ++ flat 4 [x.f, x.t])) = enX x) := Lib.hid (by rw [enX, hy])
 clear hy
 have HM := Lib.hid hm
 clear e1 e2 hm
 go_enter Tryz.func107, Tryz.ntmps107
 go_wp2_with fail
 refine CM.mono ?_
 rintro e X0 ⟨rfl, t0⟩
 rw [HM.out]
 clear k0 k1 k2 k3 k4 CM
 go_wp2_with fail
 refine wp_region_held_drew (S := fun V => V.cell? ⟨w.heap.size, 0, none⟩ = some (.int .u32 x.m) ∧ V.cell? ⟨w.heap.size, 1, none⟩ = some (.bool x.s) ∧ V.cell? ⟨w.heap.size, 2, none⟩ = some (.int .i64 x.c) ∧ V.cell? ⟨w.heap.size, 3, none⟩ = some (.int .u32 x.f) ∧ V.cell? ⟨w.heap.size, 4, none⟩ = some (.int .u32 x.t)) (by kernel_rfl) (KX.out _ t0.drew) (fun hHeld => ?_)
 replace t0 : Below W0.heap.size W0 X0.drew := t0.drew
 generalize hX0 : X0.drew = Y0 at t0 hHeld ⊢
 clear hX0
 refine wpAnyH_take (i := 0) (v := ?_) rfl (by kernel_rfl) (by kernel_rfl) (by kernel_rfl) (fun _ _ _ h => h) (Or.inl ⟨by rfl, ?_⟩) (by assumption) ?_
 rotate_left
 ·(intro w' hSw; (try dsimp only at hSw); go_simp; try with_reducible rfl)
 simp only [Act.put, getElem_toArray, getElem_cons_zero, setIfInBounds_toArray, set_cons_zero, set_cons_succ]
 refine wpAnyH_take (i := 1) (v := ?_) rfl (by kernel_rfl) (by kernel_rfl) (by kernel_rfl) (fun _ _ _ h => h) (Or.inl ⟨by rfl, ?_⟩) (by assumption) ?_
 rotate_left
 ·(intro w' hSw; (try dsimp only at hSw); go_simp; try with_reducible rfl)
 simp only [Act.put, getElem_toArray, getElem_cons_zero, getElem_cons_succ, setIfInBounds_toArray, set_cons_zero, set_cons_succ]
 refine wpAnyH_take (i := 3) (v := ?_) rfl (by kernel_rfl) (by kernel_rfl) (by kernel_rfl) (fun _ _ _ h => h) (Or.inl ⟨by rfl, ?_⟩) (by assumption) ?_
 rotate_left
 ·(intro w' hSw; (try dsimp only at hSw); go_simp; try with_reducible rfl)
 simp only [Act.put, getElem_toArray, getElem_cons_zero, getElem_cons_succ, setIfInBounds_toArray, set_cons_zero, set_cons_succ]
 refine wpAnyH_take (i := 6) (v := ?_) rfl (by kernel_rfl) (by kernel_rfl) (by kernel_rfl) (fun _ _ _ h => h) (Or.inl ⟨by rfl, ?_⟩) (by assumption) ?_
 rotate_left
 ·(intro w' hSw; (try dsimp only at hSw); go_simp; try with_reducible rfl)
 simp only [Act.put, getElem_toArray, getElem_cons_zero, getElem_cons_succ, setIfInBounds_toArray, set_cons_zero, set_cons_succ]
 refine wpAnyH_take (i := 7) (v := ?_) rfl (by kernel_rfl) (by kernel_rfl) (by kernel_rfl) (fun _ _ _ h => h) (Or.inl ⟨by rfl, ?_⟩) (by assumption) ?_
 rotate_left
 ·(intro w' hSw; (try dsimp only at hSw); go_simp; try with_reducible rfl)
 simp only [Act.put, getElem_toArray, getElem_cons_zero, getElem_cons_succ, setIfInBounds_toArray, set_cons_zero, set_cons_succ]
 refine wpAnyH_take (i := 8) (v := .int .u32 x.c) rfl (by kernel_rfl) (by kernel_rfl) (by kernel_rfl) (fun _ _ _ h => h) (Or.inl ⟨by rfl, ?_⟩) (by assumption) ?_
 ·(intro w' hSw; (try dsimp only at hSw); go_simp; rw [wrap_u32 (by omega) (by omega)])
 simp only [Act.put, getElem_toArray, getElem_cons_zero, getElem_cons_succ, setIfInBounds_toArray, set_cons_zero, set_cons_succ]
 refine wpAnyH_take (i := 10) (v := ?_) rfl (by kernel_rfl) (by kernel_rfl) (by kernel_rfl) (fun _ _ _ h => h) (Or.inl ⟨by rfl, ?_⟩) (by assumption) ?_
 rotate_left
 ·(intro w' hSw; (try dsimp only at hSw); go_simp; try with_reducible rfl)
 simp only [Act.put, getElem_toArray, getElem_cons_zero, getElem_cons_succ, setIfInBounds_toArray, set_cons_zero, set_cons_succ]
 refine wpAnyH_take (i := 11) (v := ?_) rfl (by kernel_rfl) (by kernel_rfl) (by kernel_rfl) (fun _ _ _ h => h) (Or.inl ⟨by rfl, ?_⟩) (by assumption) ?_
 rotate_left
 ·(intro w' hSw; (try dsimp only at hSw); go_simp; try with_reducible rfl)
 simp only [Act.put, getElem_toArray, getElem_cons_zero, getElem_cons_succ, setIfInBounds_toArray, set_cons_zero, set_cons_succ]
 refine wpAnyH_take (i := 12) (v := ?_) rfl (by kernel_rfl) (by kernel_rfl) (by kernel_rfl) (fun _ _ _ h => h) (Or.inl ⟨by rfl, ?_⟩) (by assumption) ?_
 rotate_left
 ·(intro w' hSw; (try dsimp only at hSw); go_simp; try with_reducible rfl)
 simp only [Act.put, getElem_toArray, getElem_cons_zero, getElem_cons_succ, setIfInBounds_toArray, set_cons_zero, set_cons_succ]
 refine wpAnyH_take (i := 13) (v := ?_) rfl (by kernel_rfl) (by kernel_rfl) (by kernel_rfl) (fun _ _ _ h => h) (Or.inl ⟨by rfl, ?_⟩) (by assumption) ?_
 rotate_left
 ·(intro w' hSw; (try dsimp only at hSw); go_simp; try with_reducible rfl)
 simp only [Act.put, getElem_toArray, getElem_cons_zero, getElem_cons_succ, setIfInBounds_toArray, set_cons_zero, set_cons_succ]
 refine wpAnyH_ready (rs := [2, 14]) (by kernel_rfl) (by simp) ?_
 refine AllReadyH.cons rfl (fun K hK => ?_) ?_
 ·go_simp
  go_at_call 125
  refine (yfield_any x.m 4 4 Y0 rfl (by decide) (by decide) (by omega) (by omega) (by omega)).mono ?_
  rintro e Y1 ⟨A1, c1, rfl, o1, u1⟩
  have t_Y1 : Below W0.heap.size W0 Y1 := t0.trans (u1.mono t0.size)
  have z1 := o1.bs
  clear o1
  refine hK.out _ _ (KX.out _ t_Y1) (fun _ => ?_)
  clear hK K
  refine wpAnyH_ready (rs := [4, 14]) (by kernel_rfl) (by simp) ?_
  refine AllReadyH.cons rfl (fun K hK => ?_) ?_
  ·go_simp
   go_at_call 131
   refine (CS _).mono ?_
   rintro e Y2 ⟨rfl, u2⟩
   have t_Y2 : Below W0.heap.size W0 Y2 := t_Y1.trans (u2.mono t_Y1.size)
   replace z1 := z1.step u2
   refine hK.out _ _ (KX.out _ t_Y2) (fun _ => ?_)
   clear hK K
   refine wpAnyH_ready (rs := [5, 14]) (by kernel_rfl) (by simp) ?_
   refine AllReadyH.cons rfl (fun K hK => ?_) ?_
   ·go_simp
    go_at_call 125
    refine (yfield_any y 1 1 Y2 rfl (by decide) (by decide) (by omega) (by omega) (by omega)).mono ?_
    rintro e Y3 ⟨A3, c3, rfl, o3, u3⟩
    have t_Y3 : Below W0.heap.size W0 Y3 := t_Y2.trans (u3.mono t_Y2.size)
    replace z1 := z1.step u3
    have z2 := o3.bs
    clear o3
    refine hK.out _ _ (KX.out _ t_Y3) (fun _ => ?_)
    clear hK K
    refine wpAnyH_ready (rs := [9, 14]) (by kernel_rfl) (by simp) ?_
    refine AllReadyH.cons rfl (fun K hK => ?_) ?_
    ·go_simp
     go_at_call 125
     refine (yfield_any x.c 3 3 Y3 rfl (by decide) (by decide) (by omega) (by omega) (by omega)).mono ?_
     rintro e Y4 ⟨A4, c4, rfl, o4, u4⟩
     have t_Y4 : Below W0.heap.size W0 Y4 := t_Y3.trans (u4.mono t_Y3.size)
     replace z1 := z1.step u4
     replace z2 := z2.step u4
     have z3 := o4.bs
     clear o4
     refine hK.out _ _ (KX.out _ t_Y4) (fun _ => ?_)
     clear hK K
     refine wpAnyH_ready (rs := [14]) (by kernel_rfl) (by simp) ?_
     refine AllReadyH.cons rfl (fun K hK => ?_) AllReadyH.nil
     go_simp
     obtain ⟨Y5, hY5⟩ : ∃ V, Y4.alloc (.cells #[.int .u32 x.f, .int .u32 x.t] 23) = V := ⟨_, rfl⟩
     have u5 : Below Y4.heap.size Y4 Y5 := by rw [← hY5]; exact below_alloc1 _ _
     have t_Y5 : Below W0.heap.size W0 Y5 := t_Y4.trans (u5.mono t_Y4.size)
     replace z1 := z1.step u5
     replace z2 := z2.step u5
     replace z3 := z3.step u5
     obtain ⟨k5, hk5⟩ : ∃ k, Y4.heap.size = k := ⟨_, rfl⟩
     have zr : Bs .u32 Y5 Y5.heap.size (some ⟨k5, 0, none⟩) [x.f, x.t] := by
      rw [← hY5]
      exact Bs.mk _ _ _ _ _ _ hk5 (by simp [maxLen]) rfl
     try rw [hY5]
     try rw [hk5]
     refine hK.out _ _ (KX.out _ t_Y5) (fun _ => ?_)
     clear hK K
     refine wpAnyH_ready (rs := [15]) (by kernel_rfl) (by simp) ?_
     refine AllReadyH.cons rfl (fun K hK => ?_) AllReadyH.nil
     go_simp
     go_at_call 129
     refine (brow_any (some ⟨k5, 0, none⟩) 2 2 8 [x.f, x.t] Y5 rfl rfl zr HW.out (by decide)).mono ?_
     rintro e Y6 ⟨A6, c6, rfl, o6, u6⟩
     have t_Y6 : Below W0.heap.size W0 Y6 := t_Y5.trans (u6.mono t_Y5.size)
     replace z1 := z1.step u6
     replace z2 := z2.step u6
     replace z3 := z3.step u6
     replace zr := zr.step u6
     have z4 := o6.bs
     clear o6
     refine hK.out _ _ (KX.out _ t_Y6) (fun _ => ?_)
     clear hK K
     refine wpAnyH_ready (rs := [16]) (by kernel_rfl) (by simp) ?_
     refine AllReadyH.cons rfl (fun K hK => ?_) AllReadyH.nil
     go_simp
     obtain ⟨Y7, hY7⟩ : ∃ V, Y6.alloc (.cells #[.slice A1 4 c1, .slice A3 1 c3, .slice A4 3 c4, .slice A6 8 c6] 38) = V := ⟨_, rfl⟩
     have u7 : Below Y6.heap.size Y6 Y7 := by rw [← hY7]; exact below_alloc1 _ _
     have t_Y7 : Below W0.heap.size W0 Y7 := t_Y6.trans (u7.mono t_Y6.size)
     replace z1 := z1.step u7
     replace z2 := z2.step u7
     replace z3 := z3.step u7
     replace zr := zr.step u7
     replace z4 := z4.step u7
     obtain ⟨k7, hk7⟩ : ∃ k, Y6.heap.size = k := ⟨_, rfl⟩
     have hP : Ps Y7 (some ⟨k7, 0, none⟩) [⟨A1, c1, be x.m 4⟩, ⟨A3, c3, be y 1⟩, ⟨A4, c4, be x.c 3⟩, ⟨A6, c6, flat 4 [x.f, x.t]⟩] := by
      rw [← hY7]
      exact Ps.mk _ _ _ _ _ hk7 (by simp [be_length, flat_length])
     try rw [hY7]
     try rw [hk7]
     refine hK.out _ _ (KX.out _ t_Y7) (fun _ => ?_)
     clear hK K
     refine wpAnyH_ready (rs := [17]) (by kernel_rfl) (by simp) ?_
     refine AllReadyH.cons rfl (fun K hK => ?_) AllReadyH.nil
     go_simp
     have cc := concat_n (some ⟨k7, 0, none⟩) 4 4 _ Y7 rfl hP (fun p' hp => by
      simp only [List.mem_cons, List.not_mem_nil, or_false] at hp
      rcases hp with rfl | rfl | rfl | rfl
      ·exact z1
      ·exact z2
      ·exact z3
      ·exact z4) (by simp) (by simp [cat, be_length, flat_length] <;> omega)
     have hcat : cat [⟨A1, c1, be x.m 4⟩, ⟨A3, c3, be y 1⟩, ⟨A4, c4, be x.c 3⟩, ⟨A6, c6, flat 4 [x.f, x.t]⟩] = enX x := by rw [← HX.out]; simp [cat]
     rw [hcat] at cc
     rw [enX_length] at cc
     clear hcat
     go_at_call 93
     refine (cc).mono ?_
     rintro e Y8 ⟨A8, c8, rfl, o8, u8⟩
     have t_Y8 : Below W0.heap.size W0 Y8 := t_Y7.trans (u8.mono t_Y7.size)
     replace z1 := z1.step u8
     replace z2 := z2.step u8
     replace z3 := z3.step u8
     replace zr := zr.step u8
     replace z4 := z4.step u8
     replace hP := hP.step u8
     refine hK.out _ _ (KX.out _ t_Y8) (fun _ => ?_)
     clear hK K
     refine wpAnyH_ready (rs := [18]) (by kernel_rfl) (by simp) ?_
     refine AllReadyH.cons rfl (fun K hK => ?_) AllReadyH.nil
     go_simp
     refine hK.out _ _ (KX.out _ t_Y8) (fun _ => ?_)
     clear hK K
     refine wpAnyH_ready (rs := [19]) (by kernel_rfl) (by simp) ?_
     refine AllReadyH.cons rfl (fun K hK => ?_) AllReadyH.nil
     go_simp
     refine hK.out _ _ (KX.out _ t_Y8) (fun _ => ?_)
     clear hK K
     refine wpAnyH_done (by kernel_rfl) ?_ _
     go_wp2
     go_ret2
     exact ⟨A8, c8, rfl, o8.lower (Nat.le_trans HB.out.size t_Y7.size), HB.out.trans (t_Y8.mono HB.out.size)⟩
    refine AllReadyH.cons rfl (fun K hK => ?_) AllReadyH.nil
    go_simp
    obtain ⟨Y4, hY4⟩ : ∃ V, Y3.alloc (.cells #[.int .u32 x.f, .int .u32 x.t] 23) = V := ⟨_, rfl⟩
    have u4 : Below Y3.heap.size Y3 Y4 := by rw [← hY4]; exact below_alloc1 _ _
    have t_Y4 : Below W0.heap.size W0 Y4 := t_Y3.trans (u4.mono t_Y3.size)
    replace z1 := z1.step u4
    replace z2 := z2.step u4
    obtain ⟨k4, hk4⟩ : ∃ k, Y3.heap.size = k := ⟨_, rfl⟩
    have zr : Bs .u32 Y4 Y4.heap.size (some ⟨k4, 0, none⟩) [x.f, x.t] := by
     rw [← hY4]
     exact Bs.mk _ _ _ _ _ _ hk4 (by simp [maxLen]) rfl
    try rw [hY4]
    try rw [hk4]
    refine hK.out _ _ (KX.out _ t_Y4) (fun _ => ?_)
    clear hK K
    refine wpAnyH_ready (rs := [9]) (by kernel_rfl) (by simp) ?_
    refine AllReadyH.cons rfl (fun K hK => ?_) AllReadyH.nil
    go_simp
    go_at_call 125
    refine (yfield_any x.c 3 3 Y4 rfl (by decide) (by decide) (by omega) (by omega) (by omega)).mono ?_
    rintro e Y5 ⟨A5, c5, rfl, o5, u5⟩
    have t_Y5 : Below W0.heap.size W0 Y5 := t_Y4.trans (u5.mono t_Y4.size)
    replace z1 := z1.step u5
    replace z2 := z2.step u5
    replace zr := zr.step u5
    have z3 := o5.bs
    clear o5
    refine hK.out _ _ (KX.out _ t_Y5) (fun _ => ?_)
    clear hK K
    refine wpAnyH_ready (rs := [15]) (by kernel_rfl) (by simp) ?_
    refine AllReadyH.cons rfl (fun K hK => ?_) AllReadyH.nil
    go_simp
    go_at_call 129
    refine (brow_any (some ⟨k4, 0, none⟩) 2 2 8 [x.f, x.t] Y5 rfl rfl zr HW.out (by decide)).mono ?_
    rintro e Y6 ⟨A6, c6, rfl, o6, u6⟩
    have t_Y6 : Below W0.heap.size W0 Y6 := t_Y5.trans (u6.mono t_Y5.size)
    replace z1 := z1.step u6
    replace z2 := z2.step u6
    replace zr := zr.step u6
    replace z3 := z3.step u6
    have z4 := o6.bs
    clear o6
    refine hK.out _ _ (KX.out _ t_Y6) (fun _ => ?_)
    clear hK K
    refine wpAnyH_ready (rs := [16]) (by kernel_rfl) (by simp) ?_
    refine AllReadyH.cons rfl (fun K hK => ?_) AllReadyH.nil
    go_simp
    obtain ⟨Y7, hY7⟩ : ∃ V, Y6.alloc (.cells #[.slice A1 4 c1, .slice A3 1 c3, .slice A5 3 c5, .slice A6 8 c6] 38) = V := ⟨_, rfl⟩
    have u7 : Below Y6.heap.size Y6 Y7 := by rw [← hY7]; exact below_alloc1 _ _
    have t_Y7 : Below W0.heap.size W0 Y7 := t_Y6.trans (u7.mono t_Y6.size)
    replace z1 := z1.step u7
    replace z2 := z2.step u7
    replace zr := zr.step u7
    replace z3 := z3.step u7
    replace z4 := z4.step u7
    obtain ⟨k7, hk7⟩ : ∃ k, Y6.heap.size = k := ⟨_, rfl⟩
    have hP : Ps Y7 (some ⟨k7, 0, none⟩) [⟨A1, c1, be x.m 4⟩, ⟨A3, c3, be y 1⟩, ⟨A5, c5, be x.c 3⟩, ⟨A6, c6, flat 4 [x.f, x.t]⟩] := by
     rw [← hY7]
     exact Ps.mk _ _ _ _ _ hk7 (by simp [be_length, flat_length])
    try rw [hY7]
    try rw [hk7]
    refine hK.out _ _ (KX.out _ t_Y7) (fun _ => ?_)
    clear hK K
    refine wpAnyH_ready (rs := [17]) (by kernel_rfl) (by simp) ?_
    refine AllReadyH.cons rfl (fun K hK => ?_) AllReadyH.nil
    go_simp
    have cc := concat_n (some ⟨k7, 0, none⟩) 4 4 _ Y7 rfl hP (fun p' hp => by
     simp only [List.mem_cons, List.not_mem_nil, or_false] at hp
     rcases hp with rfl | rfl | rfl | rfl
     ·exact z1
     ·exact z2
     ·exact z3
     ·exact z4) (by simp) (by simp [cat, be_length, flat_length] <;> omega)
    have hcat : cat [⟨A1, c1, be x.m 4⟩, ⟨A3, c3, be y 1⟩, ⟨A5, c5, be x.c 3⟩, ⟨A6, c6, flat 4 [x.f, x.t]⟩] = enX x := by rw [← HX.out]; simp [cat]
    rw [hcat] at cc
    rw [enX_length] at cc
    clear hcat
    go_at_call 93
    refine (cc).mono ?_
    rintro e Y8 ⟨A8, c8, rfl, o8, u8⟩
    have t_Y8 : Below W0.heap.size W0 Y8 := t_Y7.trans (u8.mono t_Y7.size)
    replace z1 := z1.step u8
    replace z2 := z2.step u8
    replace zr := zr.step u8
    replace z3 := z3.step u8
    replace z4 := z4.step u8
    replace hP := hP.step u8
    refine hK.out _ _ (KX.out _ t_Y8) (fun _ => ?_)
    clear hK K
    refine wpAnyH_ready (rs := [18]) (by kernel_rfl) (by simp) ?_
    refine AllReadyH.cons rfl (fun K hK => ?_) AllReadyH.nil
    go_simp
    refine hK.out _ _ (KX.out _ t_Y8) (fun _ => ?_)
    clear hK K
    refine wpAnyH_ready (rs := [19]) (by kernel_rfl) (by simp) ?_
    refine AllReadyH.cons rfl (fun K hK => ?_) AllReadyH.nil
    go_simp
    refine hK.out _ _ (KX.out _ t_Y8) (fun _ => ?_)
    clear hK K
    refine wpAnyH_done (by kernel_rfl) ?_ _
    go_wp2
    go_ret2
    exact ⟨A8, c8, rfl, o8.lower (Nat.le_trans HB.out.size t_Y7.size), HB.out.trans (t_Y8.mono HB.out.size)⟩
   refine AllReadyH.cons rfl (fun K hK => ?_) AllReadyH.nil
   go_simp
   obtain ⟨Y3, hY3⟩ : ∃ V, Y2.alloc (.cells #[.int .u32 x.f, .int .u32 x.t] 23) = V := ⟨_, rfl⟩
   have u3 : Below Y2.heap.size Y2 Y3 := by rw [← hY3]; exact below_alloc1 _ _
   have t_Y3 : Below W0.heap.size W0 Y3 := t_Y2.trans (u3.mono t_Y2.size)
   replace z1 := z1.step u3
   obtain ⟨k3, hk3⟩ : ∃ k, Y2.heap.size = k := ⟨_, rfl⟩
   have zr : Bs .u32 Y3 Y3.heap.size (some ⟨k3, 0, none⟩) [x.f, x.t] := by
    rw [← hY3]
    exact Bs.mk _ _ _ _ _ _ hk3 (by simp [maxLen]) rfl
   try rw [hY3]
   try rw [hk3]
   refine hK.out _ _ (KX.out _ t_Y3) (fun _ => ?_)
   clear hK K
   refine wpAnyH_ready (rs := [5]) (by kernel_rfl) (by simp) ?_
   refine AllReadyH.cons rfl (fun K hK => ?_) AllReadyH.nil
   go_simp
   go_at_call 125
   refine (yfield_any y 1 1 Y3 rfl (by decide) (by decide) (by omega) (by omega) (by omega)).mono ?_
   rintro e Y4 ⟨A4, c4, rfl, o4, u4⟩
   have t_Y4 : Below W0.heap.size W0 Y4 := t_Y3.trans (u4.mono t_Y3.size)
   replace z1 := z1.step u4
   replace zr := zr.step u4
   have z2 := o4.bs
   clear o4
   refine hK.out _ _ (KX.out _ t_Y4) (fun _ => ?_)
   clear hK K
   refine wpAnyH_ready (rs := [9]) (by kernel_rfl) (by simp) ?_
   refine AllReadyH.cons rfl (fun K hK => ?_) AllReadyH.nil
   go_simp
   go_at_call 125
   refine (yfield_any x.c 3 3 Y4 rfl (by decide) (by decide) (by omega) (by omega) (by omega)).mono ?_
   rintro e Y5 ⟨A5, c5, rfl, o5, u5⟩
   have t_Y5 : Below W0.heap.size W0 Y5 := t_Y4.trans (u5.mono t_Y4.size)
   replace z1 := z1.step u5
   replace zr := zr.step u5
   replace z2 := z2.step u5
   have z3 := o5.bs
   clear o5
   refine hK.out _ _ (KX.out _ t_Y5) (fun _ => ?_)
   clear hK K
   refine wpAnyH_ready (rs := [15]) (by kernel_rfl) (by simp) ?_
   refine AllReadyH.cons rfl (fun K hK => ?_) AllReadyH.nil
   go_simp
   go_at_call 129
   refine (brow_any (some ⟨k3, 0, none⟩) 2 2 8 [x.f, x.t] Y5 rfl rfl zr HW.out (by decide)).mono ?_
   rintro e Y6 ⟨A6, c6, rfl, o6, u6⟩
   have t_Y6 : Below W0.heap.size W0 Y6 := t_Y5.trans (u6.mono t_Y5.size)
   replace z1 := z1.step u6
   replace zr := zr.step u6
   replace z2 := z2.step u6
   replace z3 := z3.step u6
   have z4 := o6.bs
   clear o6
   refine hK.out _ _ (KX.out _ t_Y6) (fun _ => ?_)
   clear hK K
   refine wpAnyH_ready (rs := [16]) (by kernel_rfl) (by simp) ?_
   refine AllReadyH.cons rfl (fun K hK => ?_) AllReadyH.nil
   go_simp
   obtain ⟨Y7, hY7⟩ : ∃ V, Y6.alloc (.cells #[.slice A1 4 c1, .slice A4 1 c4, .slice A5 3 c5, .slice A6 8 c6] 38) = V := ⟨_, rfl⟩
   have u7 : Below Y6.heap.size Y6 Y7 := by rw [← hY7]; exact below_alloc1 _ _
   have t_Y7 : Below W0.heap.size W0 Y7 := t_Y6.trans (u7.mono t_Y6.size)
   replace z1 := z1.step u7
   replace zr := zr.step u7
   replace z2 := z2.step u7
   replace z3 := z3.step u7
   replace z4 := z4.step u7
   obtain ⟨k7, hk7⟩ : ∃ k, Y6.heap.size = k := ⟨_, rfl⟩
   have hP : Ps Y7 (some ⟨k7, 0, none⟩) [⟨A1, c1, be x.m 4⟩, ⟨A4, c4, be y 1⟩, ⟨A5, c5, be x.c 3⟩, ⟨A6, c6, flat 4 [x.f, x.t]⟩] := by
    rw [← hY7]
    exact Ps.mk _ _ _ _ _ hk7 (by simp [be_length, flat_length])
   try rw [hY7]
   try rw [hk7]
   refine hK.out _ _ (KX.out _ t_Y7) (fun _ => ?_)
   clear hK K
   refine wpAnyH_ready (rs := [17]) (by kernel_rfl) (by simp) ?_
   refine AllReadyH.cons rfl (fun K hK => ?_) AllReadyH.nil
   go_simp
   have cc := concat_n (some ⟨k7, 0, none⟩) 4 4 _ Y7 rfl hP (fun p' hp => by
    simp only [List.mem_cons, List.not_mem_nil, or_false] at hp
    rcases hp with rfl | rfl | rfl | rfl
    ·exact z1
    ·exact z2
    ·exact z3
    ·exact z4) (by simp) (by simp [cat, be_length, flat_length] <;> omega)
   have hcat : cat [⟨A1, c1, be x.m 4⟩, ⟨A4, c4, be y 1⟩, ⟨A5, c5, be x.c 3⟩, ⟨A6, c6, flat 4 [x.f, x.t]⟩] = enX x := by rw [← HX.out]; simp [cat]
   rw [hcat] at cc
   rw [enX_length] at cc
   clear hcat
   go_at_call 93
   refine (cc).mono ?_
   rintro e Y8 ⟨A8, c8, rfl, o8, u8⟩
   have t_Y8 : Below W0.heap.size W0 Y8 := t_Y7.trans (u8.mono t_Y7.size)
   replace z1 := z1.step u8
   replace zr := zr.step u8
   replace z2 := z2.step u8
   replace z3 := z3.step u8
   replace z4 := z4.step u8
   replace hP := hP.step u8
   refine hK.out _ _ (KX.out _ t_Y8) (fun _ => ?_)
   clear hK K
   refine wpAnyH_ready (rs := [18]) (by kernel_rfl) (by simp) ?_
   refine AllReadyH.cons rfl (fun K hK => ?_) AllReadyH.nil
   go_simp
   refine hK.out _ _ (KX.out _ t_Y8) (fun _ => ?_)
   clear hK K
   refine wpAnyH_ready (rs := [19]) (by kernel_rfl) (by simp) ?_
   refine AllReadyH.cons rfl (fun K hK => ?_) AllReadyH.nil
   go_simp
   refine hK.out _ _ (KX.out _ t_Y8) (fun _ => ?_)
   clear hK K
   refine wpAnyH_done (by kernel_rfl) ?_ _
   go_wp2
   go_ret2
   exact ⟨A8, c8, rfl, o8.lower (Nat.le_trans HB.out.size t_Y7.size), HB.out.trans (t_Y8.mono HB.out.size)⟩
  refine AllReadyH.cons rfl (fun K hK => ?_) AllReadyH.nil
  go_simp
  obtain ⟨Y2, hY2⟩ : ∃ V, Y1.alloc (.cells #[.int .u32 x.f, .int .u32 x.t] 23) = V := ⟨_, rfl⟩
  have u2 : Below Y1.heap.size Y1 Y2 := by rw [← hY2]; exact below_alloc1 _ _
  have t_Y2 : Below W0.heap.size W0 Y2 := t_Y1.trans (u2.mono t_Y1.size)
  replace z1 := z1.step u2
  obtain ⟨k2, hk2⟩ : ∃ k, Y1.heap.size = k := ⟨_, rfl⟩
  have zr : Bs .u32 Y2 Y2.heap.size (some ⟨k2, 0, none⟩) [x.f, x.t] := by
   rw [← hY2]
   exact Bs.mk _ _ _ _ _ _ hk2 (by simp [maxLen]) rfl
  try rw [hY2]
  try rw [hk2]
  refine hK.out _ _ (KX.out _ t_Y2) (fun _ => ?_)
  clear hK K
  refine wpAnyH_ready (rs := [4]) (by kernel_rfl) (by simp) ?_
  refine AllReadyH.cons rfl (fun K hK => ?_) AllReadyH.nil
  go_simp
  go_at_call 131
  refine (CS _).mono ?_
  rintro e Y3 ⟨rfl, u3⟩
  have t_Y3 : Below W0.heap.size W0 Y3 := t_Y2.trans (u3.mono t_Y2.size)
  replace z1 := z1.step u3
  replace zr := zr.step u3
  refine hK.out _ _ (KX.out _ t_Y3) (fun _ => ?_)
  clear hK K
  refine wpAnyH_ready (rs := [5]) (by kernel_rfl) (by simp) ?_
  refine AllReadyH.cons rfl (fun K hK => ?_) AllReadyH.nil
  go_simp
  go_at_call 125
  refine (yfield_any y 1 1 Y3 rfl (by decide) (by decide) (by omega) (by omega) (by omega)).mono ?_
  rintro e Y4 ⟨A4, c4, rfl, o4, u4⟩
  have t_Y4 : Below W0.heap.size W0 Y4 := t_Y3.trans (u4.mono t_Y3.size)
  replace z1 := z1.step u4
  replace zr := zr.step u4
  have z2 := o4.bs
  clear o4
  refine hK.out _ _ (KX.out _ t_Y4) (fun _ => ?_)
  clear hK K
  refine wpAnyH_ready (rs := [9]) (by kernel_rfl) (by simp) ?_
  refine AllReadyH.cons rfl (fun K hK => ?_) AllReadyH.nil
  go_simp
  go_at_call 125
  refine (yfield_any x.c 3 3 Y4 rfl (by decide) (by decide) (by omega) (by omega) (by omega)).mono ?_
  rintro e Y5 ⟨A5, c5, rfl, o5, u5⟩
  have t_Y5 : Below W0.heap.size W0 Y5 := t_Y4.trans (u5.mono t_Y4.size)
  replace z1 := z1.step u5
  replace zr := zr.step u5
  replace z2 := z2.step u5
  have z3 := o5.bs
  clear o5
  refine hK.out _ _ (KX.out _ t_Y5) (fun _ => ?_)
  clear hK K
  refine wpAnyH_ready (rs := [15]) (by kernel_rfl) (by simp) ?_
  refine AllReadyH.cons rfl (fun K hK => ?_) AllReadyH.nil
  go_simp
  go_at_call 129
  refine (brow_any (some ⟨k2, 0, none⟩) 2 2 8 [x.f, x.t] Y5 rfl rfl zr HW.out (by decide)).mono ?_
  rintro e Y6 ⟨A6, c6, rfl, o6, u6⟩
  have t_Y6 : Below W0.heap.size W0 Y6 := t_Y5.trans (u6.mono t_Y5.size)
  replace z1 := z1.step u6
  replace zr := zr.step u6
  replace z2 := z2.step u6
  replace z3 := z3.step u6
  have z4 := o6.bs
  clear o6
  refine hK.out _ _ (KX.out _ t_Y6) (fun _ => ?_)
  clear hK K
  refine wpAnyH_ready (rs := [16]) (by kernel_rfl) (by simp) ?_
  refine AllReadyH.cons rfl (fun K hK => ?_) AllReadyH.nil
  go_simp
  obtain ⟨Y7, hY7⟩ : ∃ V, Y6.alloc (.cells #[.slice A1 4 c1, .slice A4 1 c4, .slice A5 3 c5, .slice A6 8 c6] 38) = V := ⟨_, rfl⟩
  have u7 : Below Y6.heap.size Y6 Y7 := by rw [← hY7]; exact below_alloc1 _ _
  have t_Y7 : Below W0.heap.size W0 Y7 := t_Y6.trans (u7.mono t_Y6.size)
  replace z1 := z1.step u7
  replace zr := zr.step u7
  replace z2 := z2.step u7
  replace z3 := z3.step u7
  replace z4 := z4.step u7
  obtain ⟨k7, hk7⟩ : ∃ k, Y6.heap.size = k := ⟨_, rfl⟩
  have hP : Ps Y7 (some ⟨k7, 0, none⟩) [⟨A1, c1, be x.m 4⟩, ⟨A4, c4, be y 1⟩, ⟨A5, c5, be x.c 3⟩, ⟨A6, c6, flat 4 [x.f, x.t]⟩] := by
   rw [← hY7]
   exact Ps.mk _ _ _ _ _ hk7 (by simp [be_length, flat_length])
  try rw [hY7]
  try rw [hk7]
  refine hK.out _ _ (KX.out _ t_Y7) (fun _ => ?_)
  clear hK K
  refine wpAnyH_ready (rs := [17]) (by kernel_rfl) (by simp) ?_
  refine AllReadyH.cons rfl (fun K hK => ?_) AllReadyH.nil
  go_simp
  have cc := concat_n (some ⟨k7, 0, none⟩) 4 4 _ Y7 rfl hP (fun p' hp => by
   simp only [List.mem_cons, List.not_mem_nil, or_false] at hp
   rcases hp with rfl | rfl | rfl | rfl
   ·exact z1
   ·exact z2
   ·exact z3
   ·exact z4) (by simp) (by simp [cat, be_length, flat_length] <;> omega)
  have hcat : cat [⟨A1, c1, be x.m 4⟩, ⟨A4, c4, be y 1⟩, ⟨A5, c5, be x.c 3⟩, ⟨A6, c6, flat 4 [x.f, x.t]⟩] = enX x := by rw [← HX.out]; simp [cat]
  rw [hcat] at cc
  rw [enX_length] at cc
  clear hcat
  go_at_call 93
  refine (cc).mono ?_
  rintro e Y8 ⟨A8, c8, rfl, o8, u8⟩
  have t_Y8 : Below W0.heap.size W0 Y8 := t_Y7.trans (u8.mono t_Y7.size)
  replace z1 := z1.step u8
  replace zr := zr.step u8
  replace z2 := z2.step u8
  replace z3 := z3.step u8
  replace z4 := z4.step u8
  replace hP := hP.step u8
  refine hK.out _ _ (KX.out _ t_Y8) (fun _ => ?_)
  clear hK K
  refine wpAnyH_ready (rs := [18]) (by kernel_rfl) (by simp) ?_
  refine AllReadyH.cons rfl (fun K hK => ?_) AllReadyH.nil
  go_simp
  refine hK.out _ _ (KX.out _ t_Y8) (fun _ => ?_)
  clear hK K
  refine wpAnyH_ready (rs := [19]) (by kernel_rfl) (by simp) ?_
  refine AllReadyH.cons rfl (fun K hK => ?_) AllReadyH.nil
  go_simp
  refine hK.out _ _ (KX.out _ t_Y8) (fun _ => ?_)
  clear hK K
  refine wpAnyH_done (by kernel_rfl) ?_ _
  go_wp2
  go_ret2
  exact ⟨A8, c8, rfl, o8.lower (Nat.le_trans HB.out.size t_Y7.size), HB.out.trans (t_Y8.mono HB.out.size)⟩
 refine AllReadyH.cons rfl (fun K hK => ?_) AllReadyH.nil
 go_simp
 obtain ⟨Y1, hY1⟩ : ∃ V, Y0.alloc (.cells #[.int .u32 x.f, .int .u32 x.t] 23) = V := ⟨_, rfl⟩
 have u1 : Below Y0.heap.size Y0 Y1 := by rw [← hY1]; exact below_alloc1 _ _
 have t_Y1 : Below W0.heap.size W0 Y1 := t0.trans (u1.mono t0.size)
 obtain ⟨k1, hk1⟩ : ∃ k, Y0.heap.size = k := ⟨_, rfl⟩
 have zr : Bs .u32 Y1 Y1.heap.size (some ⟨k1, 0, none⟩) [x.f, x.t] := by
  rw [← hY1]
  exact Bs.mk _ _ _ _ _ _ hk1 (by simp [maxLen]) rfl
 try rw [hY1]
 try rw [hk1]
 refine hK.out _ _ (KX.out _ t_Y1) (fun _ => ?_)
 clear hK K
 refine wpAnyH_ready (rs := [2]) (by kernel_rfl) (by simp) ?_
 refine AllReadyH.cons rfl (fun K hK => ?_) AllReadyH.nil
 go_simp
 go_at_call 125
 refine (yfield_any x.m 4 4 Y1 rfl (by decide) (by decide) (by omega) (by omega) (by omega)).mono ?_
 rintro e Y2 ⟨A2, c2, rfl, o2, u2⟩
 have t_Y2 : Below W0.heap.size W0 Y2 := t_Y1.trans (u2.mono t_Y1.size)
 replace zr := zr.step u2
 have z1 := o2.bs
 clear o2
 refine hK.out _ _ (KX.out _ t_Y2) (fun _ => ?_)
 clear hK K
 refine wpAnyH_ready (rs := [4]) (by kernel_rfl) (by simp) ?_
 refine AllReadyH.cons rfl (fun K hK => ?_) AllReadyH.nil
 go_simp
 go_at_call 131
 refine (CS _).mono ?_
 rintro e Y3 ⟨rfl, u3⟩
 have t_Y3 : Below W0.heap.size W0 Y3 := t_Y2.trans (u3.mono t_Y2.size)
 replace zr := zr.step u3
 replace z1 := z1.step u3
 refine hK.out _ _ (KX.out _ t_Y3) (fun _ => ?_)
 clear hK K
 refine wpAnyH_ready (rs := [5]) (by kernel_rfl) (by simp) ?_
 refine AllReadyH.cons rfl (fun K hK => ?_) AllReadyH.nil
 go_simp
 go_at_call 125
 refine (yfield_any y 1 1 Y3 rfl (by decide) (by decide) (by omega) (by omega) (by omega)).mono ?_
 rintro e Y4 ⟨A4, c4, rfl, o4, u4⟩
 have t_Y4 : Below W0.heap.size W0 Y4 := t_Y3.trans (u4.mono t_Y3.size)
 replace zr := zr.step u4
 replace z1 := z1.step u4
 have z2 := o4.bs
 clear o4
 refine hK.out _ _ (KX.out _ t_Y4) (fun _ => ?_)
 clear hK K
 refine wpAnyH_ready (rs := [9]) (by kernel_rfl) (by simp) ?_
 refine AllReadyH.cons rfl (fun K hK => ?_) AllReadyH.nil
 go_simp
 go_at_call 125
 refine (yfield_any x.c 3 3 Y4 rfl (by decide) (by decide) (by omega) (by omega) (by omega)).mono ?_
 rintro e Y5 ⟨A5, c5, rfl, o5, u5⟩
 have t_Y5 : Below W0.heap.size W0 Y5 := t_Y4.trans (u5.mono t_Y4.size)
 replace zr := zr.step u5
 replace z1 := z1.step u5
 replace z2 := z2.step u5
 have z3 := o5.bs
 clear o5
 refine hK.out _ _ (KX.out _ t_Y5) (fun _ => ?_)
 clear hK K
 refine wpAnyH_ready (rs := [15]) (by kernel_rfl) (by simp) ?_
 refine AllReadyH.cons rfl (fun K hK => ?_) AllReadyH.nil
 go_simp
 go_at_call 129
 refine (brow_any (some ⟨k1, 0, none⟩) 2 2 8 [x.f, x.t] Y5 rfl rfl zr HW.out (by decide)).mono ?_
 rintro e Y6 ⟨A6, c6, rfl, o6, u6⟩
 have t_Y6 : Below W0.heap.size W0 Y6 := t_Y5.trans (u6.mono t_Y5.size)
 replace zr := zr.step u6
 replace z1 := z1.step u6
 replace z2 := z2.step u6
 replace z3 := z3.step u6
 have z4 := o6.bs
 clear o6
 refine hK.out _ _ (KX.out _ t_Y6) (fun _ => ?_)
 clear hK K
 refine wpAnyH_ready (rs := [16]) (by kernel_rfl) (by simp) ?_
 refine AllReadyH.cons rfl (fun K hK => ?_) AllReadyH.nil
 go_simp
 obtain ⟨Y7, hY7⟩ : ∃ V, Y6.alloc (.cells #[.slice A2 4 c2, .slice A4 1 c4, .slice A5 3 c5, .slice A6 8 c6] 38) = V := ⟨_, rfl⟩
 have u7 : Below Y6.heap.size Y6 Y7 := by rw [← hY7]; exact below_alloc1 _ _
 have t_Y7 : Below W0.heap.size W0 Y7 := t_Y6.trans (u7.mono t_Y6.size)
 replace zr := zr.step u7
 replace z1 := z1.step u7
 replace z2 := z2.step u7
 replace z3 := z3.step u7
 replace z4 := z4.step u7
 obtain ⟨k7, hk7⟩ : ∃ k, Y6.heap.size = k := ⟨_, rfl⟩
 have hP : Ps Y7 (some ⟨k7, 0, none⟩) [⟨A2, c2, be x.m 4⟩, ⟨A4, c4, be y 1⟩, ⟨A5, c5, be x.c 3⟩, ⟨A6, c6, flat 4 [x.f, x.t]⟩] := by
  rw [← hY7]
  exact Ps.mk _ _ _ _ _ hk7 (by simp [be_length, flat_length])
 try rw [hY7]
 try rw [hk7]
 refine hK.out _ _ (KX.out _ t_Y7) (fun _ => ?_)
 clear hK K
 refine wpAnyH_ready (rs := [17]) (by kernel_rfl) (by simp) ?_
 refine AllReadyH.cons rfl (fun K hK => ?_) AllReadyH.nil
 go_simp
 have cc := concat_n (some ⟨k7, 0, none⟩) 4 4 _ Y7 rfl hP (fun p' hp => by
  simp only [List.mem_cons, List.not_mem_nil, or_false] at hp
  rcases hp with rfl | rfl | rfl | rfl
  ·exact z1
  ·exact z2
  ·exact z3
  ·exact z4) (by simp) (by simp [cat, be_length, flat_length] <;> omega)
 have hcat : cat [⟨A2, c2, be x.m 4⟩, ⟨A4, c4, be y 1⟩, ⟨A5, c5, be x.c 3⟩, ⟨A6, c6, flat 4 [x.f, x.t]⟩] = enX x := by rw [← HX.out]; simp [cat]
 rw [hcat] at cc
 rw [enX_length] at cc
 clear hcat
 go_at_call 93
 refine (cc).mono ?_
 rintro e Y8 ⟨A8, c8, rfl, o8, u8⟩
 have t_Y8 : Below W0.heap.size W0 Y8 := t_Y7.trans (u8.mono t_Y7.size)
 replace zr := zr.step u8
 replace z1 := z1.step u8
 replace z2 := z2.step u8
 replace z3 := z3.step u8
 replace z4 := z4.step u8
 replace hP := hP.step u8
 refine hK.out _ _ (KX.out _ t_Y8) (fun _ => ?_)
 clear hK K
 refine wpAnyH_ready (rs := [18]) (by kernel_rfl) (by simp) ?_
 refine AllReadyH.cons rfl (fun K hK => ?_) AllReadyH.nil
 go_simp
 refine hK.out _ _ (KX.out _ t_Y8) (fun _ => ?_)
 clear hK K
 refine wpAnyH_ready (rs := [19]) (by kernel_rfl) (by simp) ?_
 refine AllReadyH.cons rfl (fun K hK => ?_) AllReadyH.nil
 go_simp
 refine hK.out _ _ (KX.out _ t_Y8) (fun _ => ?_)
 clear hK K
 refine wpAnyH_done (by kernel_rfl) ?_ _
 go_wp2
 go_ret2
 exact ⟨A8, c8, rfl, o8.lower (Nat.le_trans HB.out.size t_Y7.size), HB.out.trans (t_Y8.mono HB.out.size)⟩
set_option maxRecDepth 100000 in
set_option maxHeartbeats 4000000 in
theorem network_any (m : Int) (A : Option Addr) (n c : Nat) (l : List Int) (w : World) (hm0 : 0 ≤ m) (hm1 : m < 4294967296) (hn : l.length = n) (hb : Bs .u32 w w.heap.size A l) (hy : Wrd l) (hl : n ≤ 10000) :
  Calls Tryz.prog 103 #[.agg #[.int .u32 m, .slice A n c]] w fun e w' => ∃ A' c', e = .returned (.tuple #[.slice A' (encNL m l).length c', .int .i64 (encNE m l)]) ∧ Own .u8 5 w' w.heap.size A' c' (encNL m l) ∧ Below w.heap.size w w' := by
 obtain ⟨W0, hW0⟩ : ∃ V, w.alloc (.cells #[.int .u32 m, .slice A n c] 127) = V := ⟨_, rfl⟩
 have bW0 : Below w.heap.size w W0 := by rw [← hW0]; exact below_alloc1 _ _
 have sW0 : W0.heap.size = w.heap.size + 1 := by rw [← hW0]; simp
 have KX : Hid (∀ V, Below W0.heap.size W0 V → V.cell? ⟨w.heap.size, 0, none⟩ = some (.int .u32 m) ∧ V.cell? ⟨w.heap.size, 1, none⟩ = some (.slice A n c)) := Lib.hid (fun V hV => kb2_new hW0 hV)
 have HB : Hid (Below w.heap.size w W0) := Lib.hid bW0
 have CM := isMask_any m W0 hm0 hm1
 have CW := fun V => ywithin_any (n : Int) 1 200 V
 have q0 := hb.step bW0
 have HN := Lib.hid hn
 have HY := Lib.hid hy
 clear hb hy
 clear bW0
 obtain ⟨k0, k1⟩ := KX.out _ (Below.refl _ _)
 have HE : Hid (mayN m l = (isM m && win (n : Int) 1 200)) := Lib.hid (by rw [mayN, hn])
 cases hT : isM m
 ·rw [hT] at CM
  have hmn : mayN m l = false := by rw [HE.out, hT]; rfl
  have e1 : encNE m l = 1 := by simp [encNE, hmn]
  have e2 : encNL m l = [] := by simp [encNL, hmn]
  rw [e1, e2]
  clear e1 e2 hmn hn
  go_enter Tryz.func103, Tryz.ntmps103
  go_wp2_with fail
  refine CM.mono ?_
  rintro e X0 ⟨rfl, t0⟩
  obtain ⟨a0, a1⟩ := KX.out _ t0
  go_wp2
  go_ret2
  exact ⟨none, 0, rfl, Own.nil _ _, HB.out.trans (t0.mono HB.out.size)⟩
 rw [hT] at CM
 cases hU : win (n : Int) 1 200
 ·rw [hU] at CW
  have hmn : mayN m l = false := by rw [HE.out, hT, hU]; rfl
  have e1 : encNE m l = 1 := by simp [encNE, hmn]
  have e2 : encNL m l = [] := by simp [encNL, hmn]
  rw [e1, e2]
  clear e1 e2 hmn hn
  go_enter Tryz.func103, Tryz.ntmps103
  go_wp2_with fail
  refine CM.mono ?_
  rintro e X0 ⟨rfl, t0⟩
  obtain ⟨a0, a1⟩ := KX.out _ t0
  go_wp2_with fail
  refine (CW _).mono ?_
  rintro e _ ⟨rfl, rfl⟩
  go_wp2
  go_ret2
  exact ⟨none, 0, rfl, Own.nil _ _, HB.out.trans (t0.mono HB.out.size)⟩
 rw [hU] at CW
 have hmn : mayN m l = true := by rw [HE.out, hT, hU]; rfl
 have e1 : encNE m l = 0 := by simp [encNE, hmn]
 have e2 : encNL m l = enN m l := by simp [encNL, hmn]
 rw [e1, e2, enN_length]
 obtain ⟨hn1, hn2⟩ := (win_iff _ _ _).1 hU
 rw [hn]
 clear e1 e2 hmn hT hU hn
 go_enter Tryz.func103, Tryz.ntmps103
 go_wp2_with fail
 refine CM.mono ?_
 rintro e X0 ⟨rfl, t0⟩
 clear k0 k1 CM
 obtain ⟨k0, k1⟩ := KX.out _ t0
 go_wp2_with fail
 refine (CW _).mono ?_
 rintro e _ ⟨rfl, rfl⟩
 clear k0 k1 CW
 have q1 := q0.step t0
 go_wp2_with fail
 refine wp_region_held_drew (S := fun V => V.cell? ⟨w.heap.size, 0, none⟩ = some (.int .u32 m) ∧ V.cell? ⟨w.heap.size, 1, none⟩ = some (.slice A n c)) (by kernel_rfl) (KX.out _ t0.drew) (fun hHeld => ?_)
 replace t0 : Below W0.heap.size W0 X0.drew := t0.drew
 replace q1 : Bs .u32 X0.drew X0.drew.heap.size A l := q1
 generalize hX0 : X0.drew = Y0 at t0 q1 hHeld ⊢
 clear hX0
 refine wpAnyH_take (i := 0) (v := ?_) rfl (by kernel_rfl) (by kernel_rfl) (by kernel_rfl) (fun _ _ _ h => h) (Or.inl ⟨by rfl, ?_⟩) (by assumption) ?_
 rotate_left
 ·(intro w' hSw; (try dsimp only at hSw); go_simp; try with_reducible rfl)
 simp only [Act.put, getElem_toArray, getElem_cons_zero, setIfInBounds_toArray, set_cons_zero, set_cons_succ]
 refine wpAnyH_take (i := 1) (v := ?_) rfl (by kernel_rfl) (by kernel_rfl) (by kernel_rfl) (fun _ _ _ h => h) (Or.inl ⟨by rfl, ?_⟩) (by assumption) ?_
 rotate_left
 ·(intro w' hSw; (try dsimp only at hSw); go_simp; try with_reducible rfl)
 simp only [Act.put, getElem_toArray, getElem_cons_zero, getElem_cons_succ, setIfInBounds_toArray, set_cons_zero, set_cons_succ]
 refine wpAnyH_take (i := 3) (v := ?_) rfl (by kernel_rfl) (by kernel_rfl) (by kernel_rfl) (fun _ _ _ h => h) (Or.inl ⟨by rfl, ?_⟩) (by assumption) ?_
 rotate_left
 ·(intro w' hSw; (try dsimp only at hSw); go_simp; try with_reducible rfl)
 simp only [Act.put, getElem_toArray, getElem_cons_zero, getElem_cons_succ, setIfInBounds_toArray, set_cons_zero, set_cons_succ]
 refine wpAnyH_take (i := 4) (v := ?_) rfl (by kernel_rfl) (by kernel_rfl) (by kernel_rfl) (fun _ _ _ h => h) (Or.inl ⟨by rfl, ?_⟩) (by assumption) ?_
 rotate_left
 ·(intro w' hSw; (try dsimp only at hSw); go_simp; try with_reducible rfl)
 simp only [Act.put, getElem_toArray, getElem_cons_zero, getElem_cons_succ, setIfInBounds_toArray, set_cons_zero, set_cons_succ]
 refine wpAnyH_ready (rs := [2]) (by kernel_rfl) (by simp) ?_
 refine AllReadyH.cons rfl (fun K hK => ?_) AllReadyH.nil
 go_simp
 go_at_call 125
 refine (yfield_any m 4 4 Y0 rfl (by decide) (by decide) (by omega) (by omega) (by omega)).mono ?_
 rintro e Y1 ⟨A1, c1, rfl, o1, u1⟩
 have t_Y1 : Below W0.heap.size W0 Y1 := t0.trans (u1.mono t0.size)
 replace q1 := q1.step u1
 have z1 := o1.bs
 clear o1
 refine hK.out _ _ (KX.out _ t_Y1) (fun _ => ?_)
 clear hK K
 refine wpAnyH_ready (rs := [5]) (by kernel_rfl) (by simp) ?_
 refine AllReadyH.cons rfl (fun K hK => ?_) AllReadyH.nil
 go_simp
 go_at_call 129
 refine (brow_any A n c (n * 4) l Y1 HN.out rfl q1 HY.out hl).mono ?_
 rintro e Y2 ⟨A2, c2, rfl, o2, u2⟩
 have t_Y2 : Below W0.heap.size W0 Y2 := t_Y1.trans (u2.mono t_Y1.size)
 replace q1 := q1.step u2
 replace z1 := z1.step u2
 have z2 := o2.bs
 clear o2
 refine hK.out _ _ (KX.out _ t_Y2) (fun _ => ?_)
 clear hK K
 refine wpAnyH_ready (rs := [6]) (by kernel_rfl) (by simp) ?_
 refine AllReadyH.cons rfl (fun K hK => ?_) AllReadyH.nil
 go_simp
 obtain ⟨Y3, hY3⟩ : ∃ V, Y2.alloc (.cells #[.slice A1 4 c1, .slice A2 (n * 4) c2] 38) = V := ⟨_, rfl⟩
 have u3 : Below Y2.heap.size Y2 Y3 := by rw [← hY3]; exact below_alloc1 _ _
 have t_Y3 : Below W0.heap.size W0 Y3 := t_Y2.trans (u3.mono t_Y2.size)
 replace q1 := q1.step u3
 replace z1 := z1.step u3
 replace z2 := z2.step u3
 obtain ⟨k3, hk3⟩ : ∃ k, Y2.heap.size = k := ⟨_, rfl⟩
 have hP : Ps Y3 (some ⟨k3, 0, none⟩) [⟨A1, c1, be m 4⟩, ⟨A2, c2, flat 4 l⟩] := by
  rw [← hY3]
  exact Ps.mk _ _ _ _ _ hk3 (by simp [be_length, flat_length, HN.out])
 try rw [hY3]
 try rw [hk3]
 refine hK.out _ _ (KX.out _ t_Y3) (fun _ => ?_)
 clear hK K
 refine wpAnyH_ready (rs := [7]) (by kernel_rfl) (by simp) ?_
 refine AllReadyH.cons rfl (fun K hK => ?_) AllReadyH.nil
 go_simp
 have cc := concat_n (some ⟨k3, 0, none⟩) 2 2 _ Y3 rfl hP (fun p' hp => by
  simp only [List.mem_cons, List.not_mem_nil, or_false] at hp
  rcases hp with rfl | rfl
  ·exact z1
  ·exact z2) (by simp) (by simp only [cat, List.length_append, be_length, flat_length, List.length_nil, HN.out]; omega)
 have hcat : cat [⟨A1, c1, be m 4⟩, ⟨A2, c2, flat 4 l⟩] = enN m l := by simp [cat, enN]
 rw [hcat] at cc
 rw [enN_length, HN.out] at cc
 clear hcat
 go_at_call 93
 refine (cc).mono ?_
 rintro e Y4 ⟨A4, c4, rfl, o4, u4⟩
 have t_Y4 : Below W0.heap.size W0 Y4 := t_Y3.trans (u4.mono t_Y3.size)
 replace q1 := q1.step u4
 replace z1 := z1.step u4
 replace z2 := z2.step u4
 replace hP := hP.step u4
 refine hK.out _ _ (KX.out _ t_Y4) (fun _ => ?_)
 clear hK K
 refine wpAnyH_ready (rs := [8]) (by kernel_rfl) (by simp) ?_
 refine AllReadyH.cons rfl (fun K hK => ?_) AllReadyH.nil
 go_simp
 refine hK.out _ _ (KX.out _ t_Y4) (fun _ => ?_)
 clear hK K
 refine wpAnyH_ready (rs := [9]) (by kernel_rfl) (by simp) ?_
 refine AllReadyH.cons rfl (fun K hK => ?_) AllReadyH.nil
 go_simp
 refine hK.out _ _ (KX.out _ t_Y4) (fun _ => ?_)
 clear hK K
 refine wpAnyH_done (by kernel_rfl) ?_ _
 go_wp2
 go_ret2
 exact ⟨A4, c4, rfl, o4.lower (Nat.le_trans HB.out.size t_Y3.size), HB.out.trans (t_Y4.mono HB.out.size)⟩
end Go.Proofs.YtadcicmccdphkaaGreat
