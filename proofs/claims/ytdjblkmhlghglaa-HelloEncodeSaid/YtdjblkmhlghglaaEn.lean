/-
  The contract of hello's Encode. No statement is proved here; no conditions.
-/
import Derived.Test.YtdjblkmhlghglaaGe
namespace Go.Proofs.Ytdjblkmhlghglaa
open Go.RowKit Go.Joins

/-- A greeting's bytes. -/
def enc (h : He) : List Int := be h.m 4 ++ (be h.i 2 ++ (be h.o 1 ++ (be h.p 1 ++ (flat 4 [h.d, h.r, h.b] ++ flat 4 h.s))))
theorem enc_length (h : He) : (enc h).length = 20 + h.s.length * 4 := by
  simp [enc, be_length, flat_length]
  omega
theorem enc_byt (h : He) : Byt (enc h) := (be_byt _ _).append ((be_byt _ _).append ((be_byt _ _).append ((be_byt _ _).append ((flat_byt _ _).append (flat_byt _ _)))))
def encE (h : He) : Int := if mayh h = true then 0 else 1
def encL (h : He) : List Int := if mayh h = true then enc h else []
theorem encL_byt (h : He) : Byt (encL h) := by
  unfold encL
  split
  · exact enc_byt h
  · intro x hx; cases hx
theorem encL_le (h : He) : (encL h).length ≤ 1220 := by
  unfold encL
  split
  · rename_i q
    have := (mayh_iff h).1 q
    rw [enc_length]; omega
  · simp
theorem wrd_three {h : He} (ok : Okh h) : Wrd [h.d, h.r, h.b] := by
  intro x hx
  simp only [List.mem_cons, List.not_mem_nil, or_false] at hx
  rcases hx with rfl | rfl | rfl
  · exact ok.d
  · exact ok.r
  · exact ok.b
set_option maxRecDepth 100000 in
set_option maxHeartbeats 2000000 in
theorem encode_any (h : He) (A : Option Addr) (n c : Nat) (w : World) (hn : h.s.length = n) (ok : Okh h) (hb : Wt w A h.s) :
    Calls Try.prog 8 #[.agg #[.int .u32 h.m, .int .i64 h.i, .int .i64 h.o, .int .i64 h.p, .int .u32 h.d, .int .u32 h.r, .int .u32 h.b, .slice A n c]] w fun e w' => ∃ A' c', e = .returned (.tuple #[.slice A' (encL h).length c', .int .i64 (encE h)]) ∧ Own .u8 5 w' w.heap.size A' c' (encL h) ∧ Below w.heap.size w w' := by
  obtain ⟨W0, hW0⟩ : ∃ V, w.alloc (.cells #[.int .u32 h.m, .int .i64 h.i, .int .i64 h.o, .int .i64 h.p, .int .u32 h.d, .int .u32 h.r, .int .u32 h.b, .slice A n c] 25) = V := ⟨_, rfl⟩
  have bW0 : Below w.heap.size w W0 := by rw [← hW0]; exact below_alloc1 _ _
  have sW0 : W0.heap.size = w.heap.size + 1 := by rw [← hW0]; simp
  have KX : Hid (∀ V, Below W0.heap.size W0 V → V.cell? ⟨w.heap.size, 0, none⟩ = some (.int .u32 h.m) ∧ V.cell? ⟨w.heap.size, 1, none⟩ = some (.int .i64 h.i) ∧ V.cell? ⟨w.heap.size, 2, none⟩ = some (.int .i64 h.o) ∧ V.cell? ⟨w.heap.size, 3, none⟩ = some (.int .i64 h.p) ∧ V.cell? ⟨w.heap.size, 4, none⟩ = some (.int .u32 h.d) ∧ V.cell? ⟨w.heap.size, 5, none⟩ = some (.int .u32 h.r) ∧ V.cell? ⟨w.heap.size, 6, none⟩ = some (.int .u32 h.b) ∧ V.cell? ⟨w.heap.size, 7, none⟩ = some (.slice A n c)) := Lib.hid (fun V hV => kb8_new hW0 hV)
  have q0 := hb.step bW0
  have HB : Hid (Below w.heap.size w W0) := Lib.hid bW0
  have CM := fun V => may_any h A n c V hn
  clear bW0 hb
  obtain ⟨k0, k1, k2, k3, k4, k5, k6, k7⟩ := KX.out _ (Below.refl _ _)
  by_cases hm : mayh h = true
  case neg =>
    have e1 : encE h = 1 := by simp [encE, hm]
    have e2 : encL h = [] := by simp [encL, hm]
    rw [e1, e2]
    have hm2 : mayh h = false := by simpa using hm
    clear e1 e2 hm
    go_enter Try.func8, Try.ntmps8
    go_wp2_with fail
    refine (CM _).mono ?_
    rintro e X0 ⟨rfl, t0⟩
    rw [hm2]
    go_wp2
    go_ret2
    exact ⟨none, 0, rfl, Own.nil _ _, HB.out.trans (t0.mono HB.out.size)⟩
  have e1 : encE h = 0 := by simp [encE, hm]
  have e2 : encL h = enc h := by simp [encL, hm]
  rw [e1, e2, enc_length, hn]
  obtain ⟨⟨hi0, hi1⟩, ⟨ho0, ho1⟩, ⟨hp0, hp1⟩, hl⟩ := (mayh_iff h).1 hm
  obtain ⟨hm0, hm1⟩ := ok.m
  have HM := Lib.hid hm
  have HN := Lib.hid hn
  have w3 := wrd_three ok
  have ws := ok.s
  have HL : Hid (enc h = be h.m 4 ++ (be h.i 2 ++ (be h.o 1 ++ (be h.p 1 ++ (flat 4 [h.d, h.r, h.b] ++ flat 4 h.s))))) := Lib.hid rfl
  rw [hn] at hl
  clear e1 e2 hm hn ok
  go_enter Try.func8, Try.ntmps8
  go_wp2_with fail
  refine (CM _).mono ?_
  rintro e X0 ⟨rfl, t0⟩
  rw [HM.out]
  clear k0 k1 k2 k3 k4 k5 k6 k7 CM
  go_wp2_with fail
  refine wp_region_held_drew (S := fun V => V.cell? ⟨w.heap.size, 0, none⟩ = some (.int .u32 h.m) ∧ V.cell? ⟨w.heap.size, 1, none⟩ = some (.int .i64 h.i) ∧ V.cell? ⟨w.heap.size, 2, none⟩ = some (.int .i64 h.o) ∧ V.cell? ⟨w.heap.size, 3, none⟩ = some (.int .i64 h.p) ∧ V.cell? ⟨w.heap.size, 4, none⟩ = some (.int .u32 h.d) ∧ V.cell? ⟨w.heap.size, 5, none⟩ = some (.int .u32 h.r) ∧ V.cell? ⟨w.heap.size, 6, none⟩ = some (.int .u32 h.b) ∧ V.cell? ⟨w.heap.size, 7, none⟩ = some (.slice A n c)) (by kernel_rfl) (KX.out _ t0.drew) (fun hHeld => ?_)
  replace t0 : Below W0.heap.size W0 X0.drew := t0.drew
  replace q0 := q0.step t0
  generalize hX0 : X0.drew = Y0 at t0 q0 hHeld ⊢
  clear hX0
  refine wpAnyH_take (i := 0) (v := ?_) rfl (by kernel_rfl) (by kernel_rfl) (by kernel_rfl) (fun _ _ _ h => h) (Or.inl ⟨by rfl, ?_⟩) (by assumption) ?_
  rotate_left
  · (intro w' hSw; (try dsimp only at hSw); go_simp; try with_reducible rfl)
  simp only [Act.put, List.getElem_toArray, List.getElem_cons_zero, List.setIfInBounds_toArray, List.set_cons_zero, List.set_cons_succ]
  refine wpAnyH_take (i := 1) (v := ?_) rfl (by kernel_rfl) (by kernel_rfl) (by kernel_rfl) (fun _ _ _ h => h) (Or.inl ⟨by rfl, ?_⟩) (by assumption) ?_
  rotate_left
  · (intro w' hSw; (try dsimp only at hSw); go_simp; try with_reducible rfl)
  simp only [Act.put, List.getElem_toArray, List.getElem_cons_zero, List.getElem_cons_succ, List.setIfInBounds_toArray, List.set_cons_zero, List.set_cons_succ]
  refine wpAnyH_take (i := 3) (v := ?_) rfl (by kernel_rfl) (by kernel_rfl) (by kernel_rfl) (fun _ _ _ h => h) (Or.inl ⟨by rfl, ?_⟩) (by assumption) ?_
  rotate_left
  · (intro w' hSw; (try dsimp only at hSw); go_simp; try with_reducible rfl)
  simp only [Act.put, List.getElem_toArray, List.getElem_cons_zero, List.getElem_cons_succ, List.setIfInBounds_toArray, List.set_cons_zero, List.set_cons_succ]
  refine wpAnyH_take (i := 4) (v := ?_) rfl (by kernel_rfl) (by kernel_rfl) (by kernel_rfl) (fun _ _ _ h => h) (Or.inl ⟨by rfl, ?_⟩) (by assumption) ?_
  rotate_left
  · (intro w' hSw; (try dsimp only at hSw); go_simp; try with_reducible rfl)
  simp only [Act.put, List.getElem_toArray, List.getElem_cons_zero, List.getElem_cons_succ, List.setIfInBounds_toArray, List.set_cons_zero, List.set_cons_succ]
  refine wpAnyH_take (i := 5) (v := .int .u32 h.i) rfl (by kernel_rfl) (by kernel_rfl) (by kernel_rfl) (fun _ _ _ h => h) (Or.inl ⟨by rfl, ?_⟩) (by assumption) ?_
  · (intro w' hSw; (try dsimp only at hSw); go_simp; rw [wrap_u32 (by omega) (by omega)])
  simp only [Act.put, List.getElem_toArray, List.getElem_cons_zero, List.getElem_cons_succ, List.setIfInBounds_toArray, List.set_cons_zero, List.set_cons_succ]
  refine wpAnyH_take (i := 7) (v := ?_) rfl (by kernel_rfl) (by kernel_rfl) (by kernel_rfl) (fun _ _ _ h => h) (Or.inl ⟨by rfl, ?_⟩) (by assumption) ?_
  rotate_left
  · (intro w' hSw; (try dsimp only at hSw); go_simp; try with_reducible rfl)
  simp only [Act.put, List.getElem_toArray, List.getElem_cons_zero, List.getElem_cons_succ, List.setIfInBounds_toArray, List.set_cons_zero, List.set_cons_succ]
  refine wpAnyH_take (i := 8) (v := ?_) rfl (by kernel_rfl) (by kernel_rfl) (by kernel_rfl) (fun _ _ _ h => h) (Or.inl ⟨by rfl, ?_⟩) (by assumption) ?_
  rotate_left
  · (intro w' hSw; (try dsimp only at hSw); go_simp; try with_reducible rfl)
  simp only [Act.put, List.getElem_toArray, List.getElem_cons_zero, List.getElem_cons_succ, List.setIfInBounds_toArray, List.set_cons_zero, List.set_cons_succ]
  refine wpAnyH_take (i := 9) (v := .int .u32 h.o) rfl (by kernel_rfl) (by kernel_rfl) (by kernel_rfl) (fun _ _ _ h => h) (Or.inl ⟨by rfl, ?_⟩) (by assumption) ?_
  · (intro w' hSw; (try dsimp only at hSw); go_simp; rw [wrap_u32 (by omega) (by omega)])
  simp only [Act.put, List.getElem_toArray, List.getElem_cons_zero, List.getElem_cons_succ, List.setIfInBounds_toArray, List.set_cons_zero, List.set_cons_succ]
  refine wpAnyH_take (i := 11) (v := ?_) rfl (by kernel_rfl) (by kernel_rfl) (by kernel_rfl) (fun _ _ _ h => h) (Or.inl ⟨by rfl, ?_⟩) (by assumption) ?_
  rotate_left
  · (intro w' hSw; (try dsimp only at hSw); go_simp; try with_reducible rfl)
  simp only [Act.put, List.getElem_toArray, List.getElem_cons_zero, List.getElem_cons_succ, List.setIfInBounds_toArray, List.set_cons_zero, List.set_cons_succ]
  refine wpAnyH_take (i := 12) (v := ?_) rfl (by kernel_rfl) (by kernel_rfl) (by kernel_rfl) (fun _ _ _ h => h) (Or.inl ⟨by rfl, ?_⟩) (by assumption) ?_
  rotate_left
  · (intro w' hSw; (try dsimp only at hSw); go_simp; try with_reducible rfl)
  simp only [Act.put, List.getElem_toArray, List.getElem_cons_zero, List.getElem_cons_succ, List.setIfInBounds_toArray, List.set_cons_zero, List.set_cons_succ]
  refine wpAnyH_take (i := 13) (v := .int .u32 h.p) rfl (by kernel_rfl) (by kernel_rfl) (by kernel_rfl) (fun _ _ _ h => h) (Or.inl ⟨by rfl, ?_⟩) (by assumption) ?_
  · (intro w' hSw; (try dsimp only at hSw); go_simp; rw [wrap_u32 (by omega) (by omega)])
  simp only [Act.put, List.getElem_toArray, List.getElem_cons_zero, List.getElem_cons_succ, List.setIfInBounds_toArray, List.set_cons_zero, List.set_cons_succ]
  refine wpAnyH_take (i := 15) (v := ?_) rfl (by kernel_rfl) (by kernel_rfl) (by kernel_rfl) (fun _ _ _ h => h) (Or.inl ⟨by rfl, ?_⟩) (by assumption) ?_
  rotate_left
  · (intro w' hSw; (try dsimp only at hSw); go_simp; try with_reducible rfl)
  simp only [Act.put, List.getElem_toArray, List.getElem_cons_zero, List.getElem_cons_succ, List.setIfInBounds_toArray, List.set_cons_zero, List.set_cons_succ]
  refine wpAnyH_take (i := 16) (v := ?_) rfl (by kernel_rfl) (by kernel_rfl) (by kernel_rfl) (fun _ _ _ h => h) (Or.inl ⟨by rfl, ?_⟩) (by assumption) ?_
  rotate_left
  · (intro w' hSw; (try dsimp only at hSw); go_simp; try with_reducible rfl)
  simp only [Act.put, List.getElem_toArray, List.getElem_cons_zero, List.getElem_cons_succ, List.setIfInBounds_toArray, List.set_cons_zero, List.set_cons_succ]
  refine wpAnyH_take (i := 17) (v := ?_) rfl (by kernel_rfl) (by kernel_rfl) (by kernel_rfl) (fun _ _ _ h => h) (Or.inl ⟨by rfl, ?_⟩) (by assumption) ?_
  rotate_left
  · (intro w' hSw; (try dsimp only at hSw); go_simp; try with_reducible rfl)
  simp only [Act.put, List.getElem_toArray, List.getElem_cons_zero, List.getElem_cons_succ, List.setIfInBounds_toArray, List.set_cons_zero, List.set_cons_succ]
  refine wpAnyH_take (i := 18) (v := ?_) rfl (by kernel_rfl) (by kernel_rfl) (by kernel_rfl) (fun _ _ _ h => h) (Or.inl ⟨by rfl, ?_⟩) (by assumption) ?_
  rotate_left
  · (intro w' hSw; (try dsimp only at hSw); go_simp; try with_reducible rfl)
  simp only [Act.put, List.getElem_toArray, List.getElem_cons_zero, List.getElem_cons_succ, List.setIfInBounds_toArray, List.set_cons_zero, List.set_cons_succ]
  refine wpAnyH_take (i := 19) (v := ?_) rfl (by kernel_rfl) (by kernel_rfl) (by kernel_rfl) (fun _ _ _ h => h) (Or.inl ⟨by rfl, ?_⟩) (by assumption) ?_
  rotate_left
  · (intro w' hSw; (try dsimp only at hSw); go_simp; try with_reducible rfl)
  simp only [Act.put, List.getElem_toArray, List.getElem_cons_zero, List.getElem_cons_succ, List.setIfInBounds_toArray, List.set_cons_zero, List.set_cons_succ]
  refine wpAnyH_take (i := 20) (v := ?_) rfl (by kernel_rfl) (by kernel_rfl) (by kernel_rfl) (fun _ _ _ h => h) (Or.inl ⟨by rfl, ?_⟩) (by assumption) ?_
  rotate_left
  · (intro w' hSw; (try dsimp only at hSw); go_simp; try with_reducible rfl)
  simp only [Act.put, List.getElem_toArray, List.getElem_cons_zero, List.getElem_cons_succ, List.setIfInBounds_toArray, List.set_cons_zero, List.set_cons_succ]
  refine wpAnyH_take (i := 23) (v := ?_) rfl (by kernel_rfl) (by kernel_rfl) (by kernel_rfl) (fun _ _ _ h => h) (Or.inl ⟨by rfl, ?_⟩) (by assumption) ?_
  rotate_left
  · (intro w' hSw; (try dsimp only at hSw); go_simp; try with_reducible rfl)
  simp only [Act.put, List.getElem_toArray, List.getElem_cons_zero, List.getElem_cons_succ, List.setIfInBounds_toArray, List.set_cons_zero, List.set_cons_succ]
  refine wpAnyH_take (i := 24) (v := ?_) rfl (by kernel_rfl) (by kernel_rfl) (by kernel_rfl) (fun _ _ _ h => h) (Or.inl ⟨by rfl, ?_⟩) (by assumption) ?_
  rotate_left
  · (intro w' hSw; (try dsimp only at hSw); go_simp; try with_reducible rfl)
  simp only [Act.put, List.getElem_toArray, List.getElem_cons_zero, List.getElem_cons_succ, List.setIfInBounds_toArray, List.set_cons_zero, List.set_cons_succ]
  refine wpAnyH_ready (rs := [2, 21]) (by kernel_rfl) (by simp) ?_
  refine AllReadyH.cons rfl (fun K hK => ?_) ?_
  · go_simp
    go_at_call 24
    refine (field_any h.m 4 4 Y0 rfl (by decide) (by decide) (by omega) (by omega) (by omega)).mono ?_
    rintro e Y1 ⟨A1, c1, rfl, o1, u1⟩
    have t_Y1 : Below W0.heap.size W0 Y1 := t0.trans (u1.mono t0.size)
    replace q0 := q0.step u1
    have z1 := o1.bs
    clear o1
    refine hK.out _ _ (KX.out _ t_Y1) (fun _ => ?_)
    clear hK K
    refine wpAnyH_ready (rs := [6, 21]) (by kernel_rfl) (by simp) ?_
    refine AllReadyH.cons rfl (fun K hK => ?_) ?_
    · go_simp
      go_at_call 24
      refine (field_any h.i 2 2 Y1 rfl (by decide) (by decide) (by omega) (by omega) (by omega)).mono ?_
      rintro e Y2 ⟨A2, c2, rfl, o2, u2⟩
      have t_Y2 : Below W0.heap.size W0 Y2 := t_Y1.trans (u2.mono t_Y1.size)
      replace q0 := q0.step u2
      replace z1 := z1.step u2
      have z2 := o2.bs
      clear o2
      refine hK.out _ _ (KX.out _ t_Y2) (fun _ => ?_)
      clear hK K
      refine wpAnyH_ready (rs := [10, 21]) (by kernel_rfl) (by simp) ?_
      refine AllReadyH.cons rfl (fun K hK => ?_) ?_
      · go_simp
        go_at_call 24
        refine (field_any h.o 1 1 Y2 rfl (by decide) (by decide) (by omega) (by omega) (by omega)).mono ?_
        rintro e Y3 ⟨A3, c3, rfl, o3, u3⟩
        have t_Y3 : Below W0.heap.size W0 Y3 := t_Y2.trans (u3.mono t_Y2.size)
        replace q0 := q0.step u3
        replace z1 := z1.step u3
        replace z2 := z2.step u3
        have z3 := o3.bs
        clear o3
        refine hK.out _ _ (KX.out _ t_Y3) (fun _ => ?_)
        clear hK K
        refine wpAnyH_ready (rs := [14, 21]) (by kernel_rfl) (by simp) ?_
        refine AllReadyH.cons rfl (fun K hK => ?_) ?_
        · go_simp
          go_at_call 24
          refine (field_any h.p 1 1 Y3 rfl (by decide) (by decide) (by omega) (by omega) (by omega)).mono ?_
          rintro e Y4 ⟨A4, c4, rfl, o4, u4⟩
          have t_Y4 : Below W0.heap.size W0 Y4 := t_Y3.trans (u4.mono t_Y3.size)
          replace q0 := q0.step u4
          replace z1 := z1.step u4
          replace z2 := z2.step u4
          replace z3 := z3.step u4
          have z4 := o4.bs
          clear o4
          refine hK.out _ _ (KX.out _ t_Y4) (fun _ => ?_)
          clear hK K
          refine wpAnyH_ready (rs := [21]) (by kernel_rfl) (by simp) ?_
          refine AllReadyH.cons rfl (fun K hK => ?_) AllReadyH.nil
          go_simp
          obtain ⟨Y5, hY5⟩ : ∃ V, Y4.alloc (.cells #[.int .u32 h.d, .int .u32 h.r, .int .u32 h.b] 22) = V := ⟨_, rfl⟩
          have u5 : Below Y4.heap.size Y4 Y5 := by rw [← hY5]; exact below_alloc1 _ _
          have t_Y5 : Below W0.heap.size W0 Y5 := t_Y4.trans (u5.mono t_Y4.size)
          replace q0 := q0.step u5
          replace z1 := z1.step u5
          replace z2 := z2.step u5
          replace z3 := z3.step u5
          replace z4 := z4.step u5
          obtain ⟨k5, hk5⟩ : ∃ k, Y4.heap.size = k := ⟨_, rfl⟩
          have z5 : Wt Y5 (some ⟨k5, 0, none⟩) [h.d, h.r, h.b] := by
            rw [← hY5]
            exact Bs.mk _ _ _ _ _ _ hk5 (by simp [maxLen]) rfl
          try rw [hY5]
          try rw [hk5]
          refine hK.out _ _ (KX.out _ t_Y5) (fun _ => ?_)
          clear hK K
          refine wpAnyH_ready (rs := [22]) (by kernel_rfl) (by simp) ?_
          refine AllReadyH.cons rfl (fun K hK => ?_) AllReadyH.nil
          go_simp
          go_at_call 25
          refine (rowf_any (some ⟨k5, 0, none⟩) 3 3 _ _ z5 w3 rfl (by simp)).mono ?_
          rintro e Y6 ⟨A6, c6, rfl, o6, u6⟩
          have t_Y6 : Below W0.heap.size W0 Y6 := t_Y5.trans (u6.mono t_Y5.size)
          replace q0 := q0.step u6
          replace z1 := z1.step u6
          replace z2 := z2.step u6
          replace z3 := z3.step u6
          replace z4 := z4.step u6
          replace z5 := z5.step u6
          have z6 := o6.bs
          clear o6
          refine hK.out _ _ (KX.out _ t_Y6) (fun _ => ?_)
          clear hK K
          refine wpAnyH_ready (rs := [25]) (by kernel_rfl) (by simp) ?_
          refine AllReadyH.cons rfl (fun K hK => ?_) AllReadyH.nil
          go_simp
          go_at_call 25
          refine (rowf_any A n c _ _ q0 ws HN.out (by rw [HN.out]; omega)).mono ?_
          rintro e Y7 ⟨A7, c7, rfl, o7, u7⟩
          have t_Y7 : Below W0.heap.size W0 Y7 := t_Y6.trans (u7.mono t_Y6.size)
          replace q0 := q0.step u7
          replace z1 := z1.step u7
          replace z2 := z2.step u7
          replace z3 := z3.step u7
          replace z4 := z4.step u7
          replace z5 := z5.step u7
          replace z6 := z6.step u7
          have z7 := o7.bs
          clear o7
          refine hK.out _ _ (KX.out _ t_Y7) (fun _ => ?_)
          clear hK K
          refine wpAnyH_ready (rs := [26]) (by kernel_rfl) (by simp) ?_
          refine AllReadyH.cons rfl (fun K hK => ?_) AllReadyH.nil
          go_simp
          obtain ⟨Y8, hY8⟩ : ∃ V, Y7.alloc (.cells #[.slice A1 4 c1, .slice A2 2 c2, .slice A3 1 c3, .slice A4 1 c4, .slice A6 (3 * 4) c6, .slice A7 (n * 4) c7] 27) = V := ⟨_, rfl⟩
          have u8 : Below Y7.heap.size Y7 Y8 := by rw [← hY8]; exact below_alloc1 _ _
          have t_Y8 : Below W0.heap.size W0 Y8 := t_Y7.trans (u8.mono t_Y7.size)
          replace q0 := q0.step u8
          replace z1 := z1.step u8
          replace z2 := z2.step u8
          replace z3 := z3.step u8
          replace z4 := z4.step u8
          replace z5 := z5.step u8
          replace z6 := z6.step u8
          replace z7 := z7.step u8
          obtain ⟨k8, hk8⟩ : ∃ k, Y7.heap.size = k := ⟨_, rfl⟩
          have hP : Ps Y8 (some ⟨k8, 0, none⟩) [⟨A1, c1, be h.m 4⟩, ⟨A2, c2, be h.i 2⟩, ⟨A3, c3, be h.o 1⟩, ⟨A4, c4, be h.p 1⟩, ⟨A6, c6, flat 4 [h.d, h.r, h.b]⟩, ⟨A7, c7, flat 4 h.s⟩] := by
            rw [← hY8]
            exact Ps.mk _ _ _ _ _ hk8 (by simp [be_length, flat_length, HN.out])
          try rw [hY8]
          try rw [hk8]
          refine hK.out _ _ (KX.out _ t_Y8) (fun _ => ?_)
          clear hK K
          refine wpAnyH_ready (rs := [27]) (by kernel_rfl) (by simp) ?_
          refine AllReadyH.cons rfl (fun K hK => ?_) AllReadyH.nil
          go_simp
          have cc := concat_n (some ⟨k8, 0, none⟩) 6 6 _ Y8 rfl hP (fun p' hp => by
            simp only [List.mem_cons, List.not_mem_nil, or_false] at hp
            rcases hp with rfl | rfl | rfl | rfl | rfl | rfl
            · exact z1
            · exact z2
            · exact z3
            · exact z4
            · exact z6
            · exact z7) (by simp) (by simp [cat, be_length, flat_length, HN.out]; omega)
          have hcat : cat [⟨A1, c1, be h.m 4⟩, ⟨A2, c2, be h.i 2⟩, ⟨A3, c3, be h.o 1⟩, ⟨A4, c4, be h.p 1⟩, ⟨A6, c6, flat 4 [h.d, h.r, h.b]⟩, ⟨A7, c7, flat 4 h.s⟩] = enc h := by rw [HL.out]; simp [cat]
          have hlen : (enc h).length = 20 + n * 4 := by rw [enc_length, HN.out]
          rw [hcat, hlen] at cc
          clear hcat hlen
          go_at_call 23
          refine (cc).mono ?_
          rintro e Y9 ⟨A9, c9, rfl, o9, u9⟩
          have t_Y9 : Below W0.heap.size W0 Y9 := t_Y8.trans (u9.mono t_Y8.size)
          replace q0 := q0.step u9
          replace z1 := z1.step u9
          replace z2 := z2.step u9
          replace z3 := z3.step u9
          replace z4 := z4.step u9
          replace z5 := z5.step u9
          replace z6 := z6.step u9
          replace z7 := z7.step u9
          replace hP := hP.step u9
          refine hK.out _ _ (KX.out _ t_Y9) (fun _ => ?_)
          clear hK K
          refine wpAnyH_ready (rs := [28]) (by kernel_rfl) (by simp) ?_
          refine AllReadyH.cons rfl (fun K hK => ?_) AllReadyH.nil
          go_simp
          refine hK.out _ _ (KX.out _ t_Y9) (fun _ => ?_)
          clear hK K
          refine wpAnyH_ready (rs := [29]) (by kernel_rfl) (by simp) ?_
          refine AllReadyH.cons rfl (fun K hK => ?_) AllReadyH.nil
          go_simp
          refine hK.out _ _ (KX.out _ t_Y9) (fun _ => ?_)
          clear hK K
          refine wpAnyH_done (by kernel_rfl) ?_ _
          go_wp2
          go_ret2
          exact ⟨A9, c9, rfl, o9.lower (Nat.le_trans HB.out.size t_Y8.size), HB.out.trans (t_Y9.mono HB.out.size)⟩
        refine AllReadyH.cons rfl (fun K hK => ?_) AllReadyH.nil
        go_simp
        obtain ⟨Y4, hY4⟩ : ∃ V, Y3.alloc (.cells #[.int .u32 h.d, .int .u32 h.r, .int .u32 h.b] 22) = V := ⟨_, rfl⟩
        have u4 : Below Y3.heap.size Y3 Y4 := by rw [← hY4]; exact below_alloc1 _ _
        have t_Y4 : Below W0.heap.size W0 Y4 := t_Y3.trans (u4.mono t_Y3.size)
        replace q0 := q0.step u4
        replace z1 := z1.step u4
        replace z2 := z2.step u4
        replace z3 := z3.step u4
        obtain ⟨k4, hk4⟩ : ∃ k, Y3.heap.size = k := ⟨_, rfl⟩
        have z5 : Wt Y4 (some ⟨k4, 0, none⟩) [h.d, h.r, h.b] := by
          rw [← hY4]
          exact Bs.mk _ _ _ _ _ _ hk4 (by simp [maxLen]) rfl
        try rw [hY4]
        try rw [hk4]
        refine hK.out _ _ (KX.out _ t_Y4) (fun _ => ?_)
        clear hK K
        refine wpAnyH_ready (rs := [14]) (by kernel_rfl) (by simp) ?_
        refine AllReadyH.cons rfl (fun K hK => ?_) AllReadyH.nil
        go_simp
        go_at_call 24
        refine (field_any h.p 1 1 Y4 rfl (by decide) (by decide) (by omega) (by omega) (by omega)).mono ?_
        rintro e Y5 ⟨A5, c5, rfl, o5, u5⟩
        have t_Y5 : Below W0.heap.size W0 Y5 := t_Y4.trans (u5.mono t_Y4.size)
        replace q0 := q0.step u5
        replace z1 := z1.step u5
        replace z2 := z2.step u5
        replace z3 := z3.step u5
        replace z5 := z5.step u5
        have z4 := o5.bs
        clear o5
        refine hK.out _ _ (KX.out _ t_Y5) (fun _ => ?_)
        clear hK K
        refine wpAnyH_ready (rs := [22]) (by kernel_rfl) (by simp) ?_
        refine AllReadyH.cons rfl (fun K hK => ?_) AllReadyH.nil
        go_simp
        go_at_call 25
        refine (rowf_any (some ⟨k4, 0, none⟩) 3 3 _ _ z5 w3 rfl (by simp)).mono ?_
        rintro e Y6 ⟨A6, c6, rfl, o6, u6⟩
        have t_Y6 : Below W0.heap.size W0 Y6 := t_Y5.trans (u6.mono t_Y5.size)
        replace q0 := q0.step u6
        replace z1 := z1.step u6
        replace z2 := z2.step u6
        replace z3 := z3.step u6
        replace z5 := z5.step u6
        replace z4 := z4.step u6
        have z6 := o6.bs
        clear o6
        refine hK.out _ _ (KX.out _ t_Y6) (fun _ => ?_)
        clear hK K
        refine wpAnyH_ready (rs := [25]) (by kernel_rfl) (by simp) ?_
        refine AllReadyH.cons rfl (fun K hK => ?_) AllReadyH.nil
        go_simp
        go_at_call 25
        refine (rowf_any A n c _ _ q0 ws HN.out (by rw [HN.out]; omega)).mono ?_
        rintro e Y7 ⟨A7, c7, rfl, o7, u7⟩
        have t_Y7 : Below W0.heap.size W0 Y7 := t_Y6.trans (u7.mono t_Y6.size)
        replace q0 := q0.step u7
        replace z1 := z1.step u7
        replace z2 := z2.step u7
        replace z3 := z3.step u7
        replace z5 := z5.step u7
        replace z4 := z4.step u7
        replace z6 := z6.step u7
        have z7 := o7.bs
        clear o7
        refine hK.out _ _ (KX.out _ t_Y7) (fun _ => ?_)
        clear hK K
        refine wpAnyH_ready (rs := [26]) (by kernel_rfl) (by simp) ?_
        refine AllReadyH.cons rfl (fun K hK => ?_) AllReadyH.nil
        go_simp
        obtain ⟨Y8, hY8⟩ : ∃ V, Y7.alloc (.cells #[.slice A1 4 c1, .slice A2 2 c2, .slice A3 1 c3, .slice A5 1 c5, .slice A6 (3 * 4) c6, .slice A7 (n * 4) c7] 27) = V := ⟨_, rfl⟩
        have u8 : Below Y7.heap.size Y7 Y8 := by rw [← hY8]; exact below_alloc1 _ _
        have t_Y8 : Below W0.heap.size W0 Y8 := t_Y7.trans (u8.mono t_Y7.size)
        replace q0 := q0.step u8
        replace z1 := z1.step u8
        replace z2 := z2.step u8
        replace z3 := z3.step u8
        replace z5 := z5.step u8
        replace z4 := z4.step u8
        replace z6 := z6.step u8
        replace z7 := z7.step u8
        obtain ⟨k8, hk8⟩ : ∃ k, Y7.heap.size = k := ⟨_, rfl⟩
        have hP : Ps Y8 (some ⟨k8, 0, none⟩) [⟨A1, c1, be h.m 4⟩, ⟨A2, c2, be h.i 2⟩, ⟨A3, c3, be h.o 1⟩, ⟨A5, c5, be h.p 1⟩, ⟨A6, c6, flat 4 [h.d, h.r, h.b]⟩, ⟨A7, c7, flat 4 h.s⟩] := by
          rw [← hY8]
          exact Ps.mk _ _ _ _ _ hk8 (by simp [be_length, flat_length, HN.out])
        try rw [hY8]
        try rw [hk8]
        refine hK.out _ _ (KX.out _ t_Y8) (fun _ => ?_)
        clear hK K
        refine wpAnyH_ready (rs := [27]) (by kernel_rfl) (by simp) ?_
        refine AllReadyH.cons rfl (fun K hK => ?_) AllReadyH.nil
        go_simp
        have cc := concat_n (some ⟨k8, 0, none⟩) 6 6 _ Y8 rfl hP (fun p' hp => by
          simp only [List.mem_cons, List.not_mem_nil, or_false] at hp
          rcases hp with rfl | rfl | rfl | rfl | rfl | rfl
          · exact z1
          · exact z2
          · exact z3
          · exact z4
          · exact z6
          · exact z7) (by simp) (by simp [cat, be_length, flat_length, HN.out]; omega)
        have hcat : cat [⟨A1, c1, be h.m 4⟩, ⟨A2, c2, be h.i 2⟩, ⟨A3, c3, be h.o 1⟩, ⟨A5, c5, be h.p 1⟩, ⟨A6, c6, flat 4 [h.d, h.r, h.b]⟩, ⟨A7, c7, flat 4 h.s⟩] = enc h := by rw [HL.out]; simp [cat]
        have hlen : (enc h).length = 20 + n * 4 := by rw [enc_length, HN.out]
        rw [hcat, hlen] at cc
        clear hcat hlen
        go_at_call 23
        refine (cc).mono ?_
        rintro e Y9 ⟨A9, c9, rfl, o9, u9⟩
        have t_Y9 : Below W0.heap.size W0 Y9 := t_Y8.trans (u9.mono t_Y8.size)
        replace q0 := q0.step u9
        replace z1 := z1.step u9
        replace z2 := z2.step u9
        replace z3 := z3.step u9
        replace z5 := z5.step u9
        replace z4 := z4.step u9
        replace z6 := z6.step u9
        replace z7 := z7.step u9
        replace hP := hP.step u9
        refine hK.out _ _ (KX.out _ t_Y9) (fun _ => ?_)
        clear hK K
        refine wpAnyH_ready (rs := [28]) (by kernel_rfl) (by simp) ?_
        refine AllReadyH.cons rfl (fun K hK => ?_) AllReadyH.nil
        go_simp
        refine hK.out _ _ (KX.out _ t_Y9) (fun _ => ?_)
        clear hK K
        refine wpAnyH_ready (rs := [29]) (by kernel_rfl) (by simp) ?_
        refine AllReadyH.cons rfl (fun K hK => ?_) AllReadyH.nil
        go_simp
        refine hK.out _ _ (KX.out _ t_Y9) (fun _ => ?_)
        clear hK K
        refine wpAnyH_done (by kernel_rfl) ?_ _
        go_wp2
        go_ret2
        exact ⟨A9, c9, rfl, o9.lower (Nat.le_trans HB.out.size t_Y8.size), HB.out.trans (t_Y9.mono HB.out.size)⟩
      refine AllReadyH.cons rfl (fun K hK => ?_) AllReadyH.nil
      go_simp
      obtain ⟨Y3, hY3⟩ : ∃ V, Y2.alloc (.cells #[.int .u32 h.d, .int .u32 h.r, .int .u32 h.b] 22) = V := ⟨_, rfl⟩
      have u3 : Below Y2.heap.size Y2 Y3 := by rw [← hY3]; exact below_alloc1 _ _
      have t_Y3 : Below W0.heap.size W0 Y3 := t_Y2.trans (u3.mono t_Y2.size)
      replace q0 := q0.step u3
      replace z1 := z1.step u3
      replace z2 := z2.step u3
      obtain ⟨k3, hk3⟩ : ∃ k, Y2.heap.size = k := ⟨_, rfl⟩
      have z5 : Wt Y3 (some ⟨k3, 0, none⟩) [h.d, h.r, h.b] := by
        rw [← hY3]
        exact Bs.mk _ _ _ _ _ _ hk3 (by simp [maxLen]) rfl
      try rw [hY3]
      try rw [hk3]
      refine hK.out _ _ (KX.out _ t_Y3) (fun _ => ?_)
      clear hK K
      refine wpAnyH_ready (rs := [10]) (by kernel_rfl) (by simp) ?_
      refine AllReadyH.cons rfl (fun K hK => ?_) AllReadyH.nil
      go_simp
      go_at_call 24
      refine (field_any h.o 1 1 Y3 rfl (by decide) (by decide) (by omega) (by omega) (by omega)).mono ?_
      rintro e Y4 ⟨A4, c4, rfl, o4, u4⟩
      have t_Y4 : Below W0.heap.size W0 Y4 := t_Y3.trans (u4.mono t_Y3.size)
      replace q0 := q0.step u4
      replace z1 := z1.step u4
      replace z2 := z2.step u4
      replace z5 := z5.step u4
      have z3 := o4.bs
      clear o4
      refine hK.out _ _ (KX.out _ t_Y4) (fun _ => ?_)
      clear hK K
      refine wpAnyH_ready (rs := [14]) (by kernel_rfl) (by simp) ?_
      refine AllReadyH.cons rfl (fun K hK => ?_) AllReadyH.nil
      go_simp
      go_at_call 24
      refine (field_any h.p 1 1 Y4 rfl (by decide) (by decide) (by omega) (by omega) (by omega)).mono ?_
      rintro e Y5 ⟨A5, c5, rfl, o5, u5⟩
      have t_Y5 : Below W0.heap.size W0 Y5 := t_Y4.trans (u5.mono t_Y4.size)
      replace q0 := q0.step u5
      replace z1 := z1.step u5
      replace z2 := z2.step u5
      replace z5 := z5.step u5
      replace z3 := z3.step u5
      have z4 := o5.bs
      clear o5
      refine hK.out _ _ (KX.out _ t_Y5) (fun _ => ?_)
      clear hK K
      refine wpAnyH_ready (rs := [22]) (by kernel_rfl) (by simp) ?_
      refine AllReadyH.cons rfl (fun K hK => ?_) AllReadyH.nil
      go_simp
      go_at_call 25
      refine (rowf_any (some ⟨k3, 0, none⟩) 3 3 _ _ z5 w3 rfl (by simp)).mono ?_
      rintro e Y6 ⟨A6, c6, rfl, o6, u6⟩
      have t_Y6 : Below W0.heap.size W0 Y6 := t_Y5.trans (u6.mono t_Y5.size)
      replace q0 := q0.step u6
      replace z1 := z1.step u6
      replace z2 := z2.step u6
      replace z5 := z5.step u6
      replace z3 := z3.step u6
      replace z4 := z4.step u6
      have z6 := o6.bs
      clear o6
      refine hK.out _ _ (KX.out _ t_Y6) (fun _ => ?_)
      clear hK K
      refine wpAnyH_ready (rs := [25]) (by kernel_rfl) (by simp) ?_
      refine AllReadyH.cons rfl (fun K hK => ?_) AllReadyH.nil
      go_simp
      go_at_call 25
      refine (rowf_any A n c _ _ q0 ws HN.out (by rw [HN.out]; omega)).mono ?_
      rintro e Y7 ⟨A7, c7, rfl, o7, u7⟩
      have t_Y7 : Below W0.heap.size W0 Y7 := t_Y6.trans (u7.mono t_Y6.size)
      replace q0 := q0.step u7
      replace z1 := z1.step u7
      replace z2 := z2.step u7
      replace z5 := z5.step u7
      replace z3 := z3.step u7
      replace z4 := z4.step u7
      replace z6 := z6.step u7
      have z7 := o7.bs
      clear o7
      refine hK.out _ _ (KX.out _ t_Y7) (fun _ => ?_)
      clear hK K
      refine wpAnyH_ready (rs := [26]) (by kernel_rfl) (by simp) ?_
      refine AllReadyH.cons rfl (fun K hK => ?_) AllReadyH.nil
      go_simp
      obtain ⟨Y8, hY8⟩ : ∃ V, Y7.alloc (.cells #[.slice A1 4 c1, .slice A2 2 c2, .slice A4 1 c4, .slice A5 1 c5, .slice A6 (3 * 4) c6, .slice A7 (n * 4) c7] 27) = V := ⟨_, rfl⟩
      have u8 : Below Y7.heap.size Y7 Y8 := by rw [← hY8]; exact below_alloc1 _ _
      have t_Y8 : Below W0.heap.size W0 Y8 := t_Y7.trans (u8.mono t_Y7.size)
      replace q0 := q0.step u8
      replace z1 := z1.step u8
      replace z2 := z2.step u8
      replace z5 := z5.step u8
      replace z3 := z3.step u8
      replace z4 := z4.step u8
      replace z6 := z6.step u8
      replace z7 := z7.step u8
      obtain ⟨k8, hk8⟩ : ∃ k, Y7.heap.size = k := ⟨_, rfl⟩
      have hP : Ps Y8 (some ⟨k8, 0, none⟩) [⟨A1, c1, be h.m 4⟩, ⟨A2, c2, be h.i 2⟩, ⟨A4, c4, be h.o 1⟩, ⟨A5, c5, be h.p 1⟩, ⟨A6, c6, flat 4 [h.d, h.r, h.b]⟩, ⟨A7, c7, flat 4 h.s⟩] := by
        rw [← hY8]
        exact Ps.mk _ _ _ _ _ hk8 (by simp [be_length, flat_length, HN.out])
      try rw [hY8]
      try rw [hk8]
      refine hK.out _ _ (KX.out _ t_Y8) (fun _ => ?_)
      clear hK K
      refine wpAnyH_ready (rs := [27]) (by kernel_rfl) (by simp) ?_
      refine AllReadyH.cons rfl (fun K hK => ?_) AllReadyH.nil
      go_simp
      have cc := concat_n (some ⟨k8, 0, none⟩) 6 6 _ Y8 rfl hP (fun p' hp => by
        simp only [List.mem_cons, List.not_mem_nil, or_false] at hp
        rcases hp with rfl | rfl | rfl | rfl | rfl | rfl
        · exact z1
        · exact z2
        · exact z3
        · exact z4
        · exact z6
        · exact z7) (by simp) (by simp [cat, be_length, flat_length, HN.out]; omega)
      have hcat : cat [⟨A1, c1, be h.m 4⟩, ⟨A2, c2, be h.i 2⟩, ⟨A4, c4, be h.o 1⟩, ⟨A5, c5, be h.p 1⟩, ⟨A6, c6, flat 4 [h.d, h.r, h.b]⟩, ⟨A7, c7, flat 4 h.s⟩] = enc h := by rw [HL.out]; simp [cat]
      have hlen : (enc h).length = 20 + n * 4 := by rw [enc_length, HN.out]
      rw [hcat, hlen] at cc
      clear hcat hlen
      go_at_call 23
      refine (cc).mono ?_
      rintro e Y9 ⟨A9, c9, rfl, o9, u9⟩
      have t_Y9 : Below W0.heap.size W0 Y9 := t_Y8.trans (u9.mono t_Y8.size)
      replace q0 := q0.step u9
      replace z1 := z1.step u9
      replace z2 := z2.step u9
      replace z5 := z5.step u9
      replace z3 := z3.step u9
      replace z4 := z4.step u9
      replace z6 := z6.step u9
      replace z7 := z7.step u9
      replace hP := hP.step u9
      refine hK.out _ _ (KX.out _ t_Y9) (fun _ => ?_)
      clear hK K
      refine wpAnyH_ready (rs := [28]) (by kernel_rfl) (by simp) ?_
      refine AllReadyH.cons rfl (fun K hK => ?_) AllReadyH.nil
      go_simp
      refine hK.out _ _ (KX.out _ t_Y9) (fun _ => ?_)
      clear hK K
      refine wpAnyH_ready (rs := [29]) (by kernel_rfl) (by simp) ?_
      refine AllReadyH.cons rfl (fun K hK => ?_) AllReadyH.nil
      go_simp
      refine hK.out _ _ (KX.out _ t_Y9) (fun _ => ?_)
      clear hK K
      refine wpAnyH_done (by kernel_rfl) ?_ _
      go_wp2
      go_ret2
      exact ⟨A9, c9, rfl, o9.lower (Nat.le_trans HB.out.size t_Y8.size), HB.out.trans (t_Y9.mono HB.out.size)⟩
    refine AllReadyH.cons rfl (fun K hK => ?_) AllReadyH.nil
    go_simp
    obtain ⟨Y2, hY2⟩ : ∃ V, Y1.alloc (.cells #[.int .u32 h.d, .int .u32 h.r, .int .u32 h.b] 22) = V := ⟨_, rfl⟩
    have u2 : Below Y1.heap.size Y1 Y2 := by rw [← hY2]; exact below_alloc1 _ _
    have t_Y2 : Below W0.heap.size W0 Y2 := t_Y1.trans (u2.mono t_Y1.size)
    replace q0 := q0.step u2
    replace z1 := z1.step u2
    obtain ⟨k2, hk2⟩ : ∃ k, Y1.heap.size = k := ⟨_, rfl⟩
    have z5 : Wt Y2 (some ⟨k2, 0, none⟩) [h.d, h.r, h.b] := by
      rw [← hY2]
      exact Bs.mk _ _ _ _ _ _ hk2 (by simp [maxLen]) rfl
    try rw [hY2]
    try rw [hk2]
    refine hK.out _ _ (KX.out _ t_Y2) (fun _ => ?_)
    clear hK K
    refine wpAnyH_ready (rs := [6]) (by kernel_rfl) (by simp) ?_
    refine AllReadyH.cons rfl (fun K hK => ?_) AllReadyH.nil
    go_simp
    go_at_call 24
    refine (field_any h.i 2 2 Y2 rfl (by decide) (by decide) (by omega) (by omega) (by omega)).mono ?_
    rintro e Y3 ⟨A3, c3, rfl, o3, u3⟩
    have t_Y3 : Below W0.heap.size W0 Y3 := t_Y2.trans (u3.mono t_Y2.size)
    replace q0 := q0.step u3
    replace z1 := z1.step u3
    replace z5 := z5.step u3
    have z2 := o3.bs
    clear o3
    refine hK.out _ _ (KX.out _ t_Y3) (fun _ => ?_)
    clear hK K
    refine wpAnyH_ready (rs := [10]) (by kernel_rfl) (by simp) ?_
    refine AllReadyH.cons rfl (fun K hK => ?_) AllReadyH.nil
    go_simp
    go_at_call 24
    refine (field_any h.o 1 1 Y3 rfl (by decide) (by decide) (by omega) (by omega) (by omega)).mono ?_
    rintro e Y4 ⟨A4, c4, rfl, o4, u4⟩
    have t_Y4 : Below W0.heap.size W0 Y4 := t_Y3.trans (u4.mono t_Y3.size)
    replace q0 := q0.step u4
    replace z1 := z1.step u4
    replace z5 := z5.step u4
    replace z2 := z2.step u4
    have z3 := o4.bs
    clear o4
    refine hK.out _ _ (KX.out _ t_Y4) (fun _ => ?_)
    clear hK K
    refine wpAnyH_ready (rs := [14]) (by kernel_rfl) (by simp) ?_
    refine AllReadyH.cons rfl (fun K hK => ?_) AllReadyH.nil
    go_simp
    go_at_call 24
    refine (field_any h.p 1 1 Y4 rfl (by decide) (by decide) (by omega) (by omega) (by omega)).mono ?_
    rintro e Y5 ⟨A5, c5, rfl, o5, u5⟩
    have t_Y5 : Below W0.heap.size W0 Y5 := t_Y4.trans (u5.mono t_Y4.size)
    replace q0 := q0.step u5
    replace z1 := z1.step u5
    replace z5 := z5.step u5
    replace z2 := z2.step u5
    replace z3 := z3.step u5
    have z4 := o5.bs
    clear o5
    refine hK.out _ _ (KX.out _ t_Y5) (fun _ => ?_)
    clear hK K
    refine wpAnyH_ready (rs := [22]) (by kernel_rfl) (by simp) ?_
    refine AllReadyH.cons rfl (fun K hK => ?_) AllReadyH.nil
    go_simp
    go_at_call 25
    refine (rowf_any (some ⟨k2, 0, none⟩) 3 3 _ _ z5 w3 rfl (by simp)).mono ?_
    rintro e Y6 ⟨A6, c6, rfl, o6, u6⟩
    have t_Y6 : Below W0.heap.size W0 Y6 := t_Y5.trans (u6.mono t_Y5.size)
    replace q0 := q0.step u6
    replace z1 := z1.step u6
    replace z5 := z5.step u6
    replace z2 := z2.step u6
    replace z3 := z3.step u6
    replace z4 := z4.step u6
    have z6 := o6.bs
    clear o6
    refine hK.out _ _ (KX.out _ t_Y6) (fun _ => ?_)
    clear hK K
    refine wpAnyH_ready (rs := [25]) (by kernel_rfl) (by simp) ?_
    refine AllReadyH.cons rfl (fun K hK => ?_) AllReadyH.nil
    go_simp
    go_at_call 25
    refine (rowf_any A n c _ _ q0 ws HN.out (by rw [HN.out]; omega)).mono ?_
    rintro e Y7 ⟨A7, c7, rfl, o7, u7⟩
    have t_Y7 : Below W0.heap.size W0 Y7 := t_Y6.trans (u7.mono t_Y6.size)
    replace q0 := q0.step u7
    replace z1 := z1.step u7
    replace z5 := z5.step u7
    replace z2 := z2.step u7
    replace z3 := z3.step u7
    replace z4 := z4.step u7
    replace z6 := z6.step u7
    have z7 := o7.bs
    clear o7
    refine hK.out _ _ (KX.out _ t_Y7) (fun _ => ?_)
    clear hK K
    refine wpAnyH_ready (rs := [26]) (by kernel_rfl) (by simp) ?_
    refine AllReadyH.cons rfl (fun K hK => ?_) AllReadyH.nil
    go_simp
    obtain ⟨Y8, hY8⟩ : ∃ V, Y7.alloc (.cells #[.slice A1 4 c1, .slice A3 2 c3, .slice A4 1 c4, .slice A5 1 c5, .slice A6 (3 * 4) c6, .slice A7 (n * 4) c7] 27) = V := ⟨_, rfl⟩
    have u8 : Below Y7.heap.size Y7 Y8 := by rw [← hY8]; exact below_alloc1 _ _
    have t_Y8 : Below W0.heap.size W0 Y8 := t_Y7.trans (u8.mono t_Y7.size)
    replace q0 := q0.step u8
    replace z1 := z1.step u8
    replace z5 := z5.step u8
    replace z2 := z2.step u8
    replace z3 := z3.step u8
    replace z4 := z4.step u8
    replace z6 := z6.step u8
    replace z7 := z7.step u8
    obtain ⟨k8, hk8⟩ : ∃ k, Y7.heap.size = k := ⟨_, rfl⟩
    have hP : Ps Y8 (some ⟨k8, 0, none⟩) [⟨A1, c1, be h.m 4⟩, ⟨A3, c3, be h.i 2⟩, ⟨A4, c4, be h.o 1⟩, ⟨A5, c5, be h.p 1⟩, ⟨A6, c6, flat 4 [h.d, h.r, h.b]⟩, ⟨A7, c7, flat 4 h.s⟩] := by
      rw [← hY8]
      exact Ps.mk _ _ _ _ _ hk8 (by simp [be_length, flat_length, HN.out])
    try rw [hY8]
    try rw [hk8]
    refine hK.out _ _ (KX.out _ t_Y8) (fun _ => ?_)
    clear hK K
    refine wpAnyH_ready (rs := [27]) (by kernel_rfl) (by simp) ?_
    refine AllReadyH.cons rfl (fun K hK => ?_) AllReadyH.nil
    go_simp
    have cc := concat_n (some ⟨k8, 0, none⟩) 6 6 _ Y8 rfl hP (fun p' hp => by
      simp only [List.mem_cons, List.not_mem_nil, or_false] at hp
      rcases hp with rfl | rfl | rfl | rfl | rfl | rfl
      · exact z1
      · exact z2
      · exact z3
      · exact z4
      · exact z6
      · exact z7) (by simp) (by simp [cat, be_length, flat_length, HN.out]; omega)
    have hcat : cat [⟨A1, c1, be h.m 4⟩, ⟨A3, c3, be h.i 2⟩, ⟨A4, c4, be h.o 1⟩, ⟨A5, c5, be h.p 1⟩, ⟨A6, c6, flat 4 [h.d, h.r, h.b]⟩, ⟨A7, c7, flat 4 h.s⟩] = enc h := by rw [HL.out]; simp [cat]
    have hlen : (enc h).length = 20 + n * 4 := by rw [enc_length, HN.out]
    rw [hcat, hlen] at cc
    clear hcat hlen
    go_at_call 23
    refine (cc).mono ?_
    rintro e Y9 ⟨A9, c9, rfl, o9, u9⟩
    have t_Y9 : Below W0.heap.size W0 Y9 := t_Y8.trans (u9.mono t_Y8.size)
    replace q0 := q0.step u9
    replace z1 := z1.step u9
    replace z5 := z5.step u9
    replace z2 := z2.step u9
    replace z3 := z3.step u9
    replace z4 := z4.step u9
    replace z6 := z6.step u9
    replace z7 := z7.step u9
    replace hP := hP.step u9
    refine hK.out _ _ (KX.out _ t_Y9) (fun _ => ?_)
    clear hK K
    refine wpAnyH_ready (rs := [28]) (by kernel_rfl) (by simp) ?_
    refine AllReadyH.cons rfl (fun K hK => ?_) AllReadyH.nil
    go_simp
    refine hK.out _ _ (KX.out _ t_Y9) (fun _ => ?_)
    clear hK K
    refine wpAnyH_ready (rs := [29]) (by kernel_rfl) (by simp) ?_
    refine AllReadyH.cons rfl (fun K hK => ?_) AllReadyH.nil
    go_simp
    refine hK.out _ _ (KX.out _ t_Y9) (fun _ => ?_)
    clear hK K
    refine wpAnyH_done (by kernel_rfl) ?_ _
    go_wp2
    go_ret2
    exact ⟨A9, c9, rfl, o9.lower (Nat.le_trans HB.out.size t_Y8.size), HB.out.trans (t_Y9.mono HB.out.size)⟩
  refine AllReadyH.cons rfl (fun K hK => ?_) AllReadyH.nil
  go_simp
  obtain ⟨Y1, hY1⟩ : ∃ V, Y0.alloc (.cells #[.int .u32 h.d, .int .u32 h.r, .int .u32 h.b] 22) = V := ⟨_, rfl⟩
  have u1 : Below Y0.heap.size Y0 Y1 := by rw [← hY1]; exact below_alloc1 _ _
  have t_Y1 : Below W0.heap.size W0 Y1 := t0.trans (u1.mono t0.size)
  replace q0 := q0.step u1
  obtain ⟨k1, hk1⟩ : ∃ k, Y0.heap.size = k := ⟨_, rfl⟩
  have z5 : Wt Y1 (some ⟨k1, 0, none⟩) [h.d, h.r, h.b] := by
    rw [← hY1]
    exact Bs.mk _ _ _ _ _ _ hk1 (by simp [maxLen]) rfl
  try rw [hY1]
  try rw [hk1]
  refine hK.out _ _ (KX.out _ t_Y1) (fun _ => ?_)
  clear hK K
  refine wpAnyH_ready (rs := [2]) (by kernel_rfl) (by simp) ?_
  refine AllReadyH.cons rfl (fun K hK => ?_) AllReadyH.nil
  go_simp
  go_at_call 24
  refine (field_any h.m 4 4 Y1 rfl (by decide) (by decide) (by omega) (by omega) (by omega)).mono ?_
  rintro e Y2 ⟨A2, c2, rfl, o2, u2⟩
  have t_Y2 : Below W0.heap.size W0 Y2 := t_Y1.trans (u2.mono t_Y1.size)
  replace q0 := q0.step u2
  replace z5 := z5.step u2
  have z1 := o2.bs
  clear o2
  refine hK.out _ _ (KX.out _ t_Y2) (fun _ => ?_)
  clear hK K
  refine wpAnyH_ready (rs := [6]) (by kernel_rfl) (by simp) ?_
  refine AllReadyH.cons rfl (fun K hK => ?_) AllReadyH.nil
  go_simp
  go_at_call 24
  refine (field_any h.i 2 2 Y2 rfl (by decide) (by decide) (by omega) (by omega) (by omega)).mono ?_
  rintro e Y3 ⟨A3, c3, rfl, o3, u3⟩
  have t_Y3 : Below W0.heap.size W0 Y3 := t_Y2.trans (u3.mono t_Y2.size)
  replace q0 := q0.step u3
  replace z5 := z5.step u3
  replace z1 := z1.step u3
  have z2 := o3.bs
  clear o3
  refine hK.out _ _ (KX.out _ t_Y3) (fun _ => ?_)
  clear hK K
  refine wpAnyH_ready (rs := [10]) (by kernel_rfl) (by simp) ?_
  refine AllReadyH.cons rfl (fun K hK => ?_) AllReadyH.nil
  go_simp
  go_at_call 24
  refine (field_any h.o 1 1 Y3 rfl (by decide) (by decide) (by omega) (by omega) (by omega)).mono ?_
  rintro e Y4 ⟨A4, c4, rfl, o4, u4⟩
  have t_Y4 : Below W0.heap.size W0 Y4 := t_Y3.trans (u4.mono t_Y3.size)
  replace q0 := q0.step u4
  replace z5 := z5.step u4
  replace z1 := z1.step u4
  replace z2 := z2.step u4
  have z3 := o4.bs
  clear o4
  refine hK.out _ _ (KX.out _ t_Y4) (fun _ => ?_)
  clear hK K
  refine wpAnyH_ready (rs := [14]) (by kernel_rfl) (by simp) ?_
  refine AllReadyH.cons rfl (fun K hK => ?_) AllReadyH.nil
  go_simp
  go_at_call 24
  refine (field_any h.p 1 1 Y4 rfl (by decide) (by decide) (by omega) (by omega) (by omega)).mono ?_
  rintro e Y5 ⟨A5, c5, rfl, o5, u5⟩
  have t_Y5 : Below W0.heap.size W0 Y5 := t_Y4.trans (u5.mono t_Y4.size)
  replace q0 := q0.step u5
  replace z5 := z5.step u5
  replace z1 := z1.step u5
  replace z2 := z2.step u5
  replace z3 := z3.step u5
  have z4 := o5.bs
  clear o5
  refine hK.out _ _ (KX.out _ t_Y5) (fun _ => ?_)
  clear hK K
  refine wpAnyH_ready (rs := [22]) (by kernel_rfl) (by simp) ?_
  refine AllReadyH.cons rfl (fun K hK => ?_) AllReadyH.nil
  go_simp
  go_at_call 25
  refine (rowf_any (some ⟨k1, 0, none⟩) 3 3 _ _ z5 w3 rfl (by simp)).mono ?_
  rintro e Y6 ⟨A6, c6, rfl, o6, u6⟩
  have t_Y6 : Below W0.heap.size W0 Y6 := t_Y5.trans (u6.mono t_Y5.size)
  replace q0 := q0.step u6
  replace z5 := z5.step u6
  replace z1 := z1.step u6
  replace z2 := z2.step u6
  replace z3 := z3.step u6
  replace z4 := z4.step u6
  have z6 := o6.bs
  clear o6
  refine hK.out _ _ (KX.out _ t_Y6) (fun _ => ?_)
  clear hK K
  refine wpAnyH_ready (rs := [25]) (by kernel_rfl) (by simp) ?_
  refine AllReadyH.cons rfl (fun K hK => ?_) AllReadyH.nil
  go_simp
  go_at_call 25
  refine (rowf_any A n c _ _ q0 ws HN.out (by rw [HN.out]; omega)).mono ?_
  rintro e Y7 ⟨A7, c7, rfl, o7, u7⟩
  have t_Y7 : Below W0.heap.size W0 Y7 := t_Y6.trans (u7.mono t_Y6.size)
  replace q0 := q0.step u7
  replace z5 := z5.step u7
  replace z1 := z1.step u7
  replace z2 := z2.step u7
  replace z3 := z3.step u7
  replace z4 := z4.step u7
  replace z6 := z6.step u7
  have z7 := o7.bs
  clear o7
  refine hK.out _ _ (KX.out _ t_Y7) (fun _ => ?_)
  clear hK K
  refine wpAnyH_ready (rs := [26]) (by kernel_rfl) (by simp) ?_
  refine AllReadyH.cons rfl (fun K hK => ?_) AllReadyH.nil
  go_simp
  obtain ⟨Y8, hY8⟩ : ∃ V, Y7.alloc (.cells #[.slice A2 4 c2, .slice A3 2 c3, .slice A4 1 c4, .slice A5 1 c5, .slice A6 (3 * 4) c6, .slice A7 (n * 4) c7] 27) = V := ⟨_, rfl⟩
  have u8 : Below Y7.heap.size Y7 Y8 := by rw [← hY8]; exact below_alloc1 _ _
  have t_Y8 : Below W0.heap.size W0 Y8 := t_Y7.trans (u8.mono t_Y7.size)
  replace q0 := q0.step u8
  replace z5 := z5.step u8
  replace z1 := z1.step u8
  replace z2 := z2.step u8
  replace z3 := z3.step u8
  replace z4 := z4.step u8
  replace z6 := z6.step u8
  replace z7 := z7.step u8
  obtain ⟨k8, hk8⟩ : ∃ k, Y7.heap.size = k := ⟨_, rfl⟩
  have hP : Ps Y8 (some ⟨k8, 0, none⟩) [⟨A2, c2, be h.m 4⟩, ⟨A3, c3, be h.i 2⟩, ⟨A4, c4, be h.o 1⟩, ⟨A5, c5, be h.p 1⟩, ⟨A6, c6, flat 4 [h.d, h.r, h.b]⟩, ⟨A7, c7, flat 4 h.s⟩] := by
    rw [← hY8]
    exact Ps.mk _ _ _ _ _ hk8 (by simp [be_length, flat_length, HN.out])
  try rw [hY8]
  try rw [hk8]
  refine hK.out _ _ (KX.out _ t_Y8) (fun _ => ?_)
  clear hK K
  refine wpAnyH_ready (rs := [27]) (by kernel_rfl) (by simp) ?_
  refine AllReadyH.cons rfl (fun K hK => ?_) AllReadyH.nil
  go_simp
  have cc := concat_n (some ⟨k8, 0, none⟩) 6 6 _ Y8 rfl hP (fun p' hp => by
    simp only [List.mem_cons, List.not_mem_nil, or_false] at hp
    rcases hp with rfl | rfl | rfl | rfl | rfl | rfl
    · exact z1
    · exact z2
    · exact z3
    · exact z4
    · exact z6
    · exact z7) (by simp) (by simp [cat, be_length, flat_length, HN.out]; omega)
  have hcat : cat [⟨A2, c2, be h.m 4⟩, ⟨A3, c3, be h.i 2⟩, ⟨A4, c4, be h.o 1⟩, ⟨A5, c5, be h.p 1⟩, ⟨A6, c6, flat 4 [h.d, h.r, h.b]⟩, ⟨A7, c7, flat 4 h.s⟩] = enc h := by rw [HL.out]; simp [cat]
  have hlen : (enc h).length = 20 + n * 4 := by rw [enc_length, HN.out]
  rw [hcat, hlen] at cc
  clear hcat hlen
  go_at_call 23
  refine (cc).mono ?_
  rintro e Y9 ⟨A9, c9, rfl, o9, u9⟩
  have t_Y9 : Below W0.heap.size W0 Y9 := t_Y8.trans (u9.mono t_Y8.size)
  replace q0 := q0.step u9
  replace z5 := z5.step u9
  replace z1 := z1.step u9
  replace z2 := z2.step u9
  replace z3 := z3.step u9
  replace z4 := z4.step u9
  replace z6 := z6.step u9
  replace z7 := z7.step u9
  replace hP := hP.step u9
  refine hK.out _ _ (KX.out _ t_Y9) (fun _ => ?_)
  clear hK K
  refine wpAnyH_ready (rs := [28]) (by kernel_rfl) (by simp) ?_
  refine AllReadyH.cons rfl (fun K hK => ?_) AllReadyH.nil
  go_simp
  refine hK.out _ _ (KX.out _ t_Y9) (fun _ => ?_)
  clear hK K
  refine wpAnyH_ready (rs := [29]) (by kernel_rfl) (by simp) ?_
  refine AllReadyH.cons rfl (fun K hK => ?_) AllReadyH.nil
  go_simp
  refine hK.out _ _ (KX.out _ t_Y9) (fun _ => ?_)
  clear hK K
  refine wpAnyH_done (by kernel_rfl) ?_ _
  go_wp2
  go_ret2
  exact ⟨A9, c9, rfl, o9.lower (Nat.le_trans HB.out.size t_Y8.size), HB.out.trans (t_Y9.mono HB.out.size)⟩
end Go.Proofs.Ytdjblkmhlghglaa
