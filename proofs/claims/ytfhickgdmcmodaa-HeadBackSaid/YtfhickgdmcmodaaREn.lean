/-
  The contract of the reference's Encode. No statement is proved here; no conditions.
-/
import Derived.Test.YtfhickgdmcmodaaAh
import Derived.Test.YtfhickgdmcmodaaR2
namespace Go.Proofs.Ytfhickgdmcmodaa
open Go.RowKit Go.Joins

set_option maxRecDepth 100000 in
set_option maxHeartbeats 1000000 in
theorem rencode_any (p : Pk) (A : Option Addr) (c : Nat) (w : World) (ok : Okp p) (hb : Bt w A p.b) :
    Calls Try.prog 9 #[pv' p A c] w fun e w' => ∃ A' c', e = .returned (.tuple #[.slice A' (encL p).length c', .int .i64 (encE p)]) ∧ Own .u8 5 w' w.heap.size A' c' (encL p) ∧ Below w.heap.size w w' := by
  obtain ⟨n, hn⟩ : ∃ n, p.b.length = n := ⟨_, rfl⟩
  have HN := Lib.hid hn
  have CM : ∀ V, Calls Try.prog 12 #[.agg #[.int .i64 p.t, .int .u32 p.r, .int .u32 p.a, .int .i64 p.u, .int .u8 p.h0, .int .u8 p.h1, .int .u8 p.h2, .int .u8 p.h3, .int .u8 p.h4, .int .u8 p.h5, .int .u8 p.h6, .int .u8 p.h7, .slice A n c]] V fun e w' => e = .returned (.bool (mayp p)) ∧ Below V.heap.size V w' := fun V => by
    have := rmay_any p A c V
    unfold pv' at this
    rwa [hn] at this
  unfold pv'
  rw [hn]
  obtain ⟨W0, hW0⟩ : ∃ W0, w.alloc (.cells #[.int .i64 p.t, .int .u32 p.r, .int .u32 p.a, .int .i64 p.u, .int .u8 p.h0, .int .u8 p.h1, .int .u8 p.h2, .int .u8 p.h3, .int .u8 p.h4, .int .u8 p.h5, .int .u8 p.h6, .int .u8 p.h7, .slice A n c] 32) = W0 := ⟨_, rfl⟩
  have b0 : Below w.heap.size w W0 := by rw [← hW0]; exact below_alloc1 _ _
  have s0 : W0.heap.size = w.heap.size + 1 := by rw [← hW0]; simp
  have KX : Hid (∀ V, Below W0.heap.size W0 V → V.cell? ⟨w.heap.size, 0, none⟩ = some (.int .i64 p.t) ∧ V.cell? ⟨w.heap.size, 1, none⟩ = some (.int .u32 p.r) ∧ V.cell? ⟨w.heap.size, 2, none⟩ = some (.int .u32 p.a) ∧ V.cell? ⟨w.heap.size, 3, none⟩ = some (.int .i64 p.u) ∧ V.cell? ⟨w.heap.size, 4, none⟩ = some (.int .u8 p.h0) ∧ V.cell? ⟨w.heap.size, 5, none⟩ = some (.int .u8 p.h1) ∧ V.cell? ⟨w.heap.size, 6, none⟩ = some (.int .u8 p.h2) ∧ V.cell? ⟨w.heap.size, 7, none⟩ = some (.int .u8 p.h3) ∧ V.cell? ⟨w.heap.size, 8, none⟩ = some (.int .u8 p.h4) ∧ V.cell? ⟨w.heap.size, 9, none⟩ = some (.int .u8 p.h5) ∧ V.cell? ⟨w.heap.size, 10, none⟩ = some (.int .u8 p.h6) ∧ V.cell? ⟨w.heap.size, 11, none⟩ = some (.int .u8 p.h7) ∧ V.cell? ⟨w.heap.size, 12, none⟩ = some (.slice A n c)) := Lib.hid (fun V hV => kb_new hW0 hV)
  have q0 := hb.step b0
  have HB : Hid (Below w.heap.size w W0) := Lib.hid b0
  clear b0 hb
  by_cases hm : mayp p = true
  case neg =>
    have e1 : encE p = 1 := by simp [encE, hm]
    have e2 : encL p = [] := by simp [encL, hm]
    rw [e1, e2]
    have hm2 : mayp p = false := by simpa using hm
    clear e1 e2 hm
    obtain ⟨k0, k1, k2, k3, k4, k5, k6, k7, k8, k9, k10, k11, k12⟩ := KX.out _ (Below.refl _ _)
    go_enter Try.func9, Try.ntmps9
    go_wp2_with fail
    refine (CM _).mono ?_
    rintro e X0 ⟨rfl, t0⟩
    rw [hm2]
    go_wp2
    go_ret2
    exact ⟨none, 0, rfl, Own.nil _ _, HB.out.trans (t0.mono HB.out.size)⟩
  have e1 : encE p = 0 := by simp [encE, hm]
  have e2 : encL p = enc p := by simp [encL, hm]
  rw [e1, e2, enc_length, hn]
  clear e1 e2
  obtain ⟨⟨ht0, ht1⟩, ⟨hu0, hu1⟩, hl⟩ := (mayp_iff p).1 hm
  have CL : ∀ V s, Below W0.heap.size W0 V → 0 ≤ s → s < 65536 → Calls Try.prog 20 #[.agg #[.int .i64 p.t, .int .u32 p.r, .int .u32 p.a, .int .i64 p.u, .int .u8 p.h0, .int .u8 p.h1, .int .u8 p.h2, .int .u8 p.h3, .int .u8 p.h4, .int .u8 p.h5, .int .u8 p.h6, .int .u8 p.h7, .slice A n c], .int .i64 s] V fun e w' => ∃ A' c', e = .returned (.slice A' 16 c') ∧ Own .u8 5 w' V.heap.size A' c' (ahd p s) ∧ Below V.heap.size V w' := fun V s _ h0 h1 => by
    have := ahead_any p A c s V ok ⟨by omega, by omega⟩ ⟨by omega, by omega⟩ (by omega) h0 h1
    unfold pv' at this
    rwa [hn] at this
  obtain ⟨L, hL⟩ : ∃ L, ahd p 0 ++ p.b = L := ⟨_, rfl⟩
  have hLn : L.length = 16 + n := by rw [← hL, List.length_append, ahd_length, hn]
  have hy : Byt L := by rw [← hL]; exact (ahd_byt p 0).append ok.b
  have hk := inet_bd L hy
  obtain ⟨N, hN⟩ : ∃ N, inet L = N := ⟨_, rfl⟩
  have HE : Hid (enc p = ahd p N ++ (au p ++ p.b)) := Lib.hid (by rw [← hN, ← hL, ← lay_ahd]; unfold enc; rw [ck_lay])
  have HL := Lib.hid hL
  have CI : ∀ V A' c', Bt V A' L → Calls Try.prog 21 #[.slice A' (16 + n) c'] V fun e w' => e = .returned (.int .i64 N) ∧ V = w' := fun V A' c' h => by
    have := rinet_any A' c' L _ V h hy (by omega)
    rwa [hN, hLn] at this
  rw [hN] at hk
  have hnn := hn
  rw [hn] at hl
  obtain ⟨i0, hi0, hz0, hz1, hz2⟩ := info_of info5
  have HM := Lib.hid hm
  clear hL hN hy hn hm ht0 ht1 hu0 hu1
  obtain ⟨k0, k1, k2, k3, k4, k5, k6, k7, k8, k9, k10, k11, k12⟩ := KX.out _ (Below.refl _ _)
  go_enter Try.func9, Try.ntmps9
  go_wp2_with fail
  refine (CM _).mono ?_
  rintro e X0 ⟨rfl, t0⟩
  rw [HM.out]
  clear k0 k1 k2 k3 k4 k5 k6 k7 k8 k9 k10 k11 k12
  go_wp2_with fail
  refine wp_region_held_drew (S := fun V => V.cell? ⟨w.heap.size, 0, none⟩ = some (.int .i64 p.t) ∧ V.cell? ⟨w.heap.size, 1, none⟩ = some (.int .u32 p.r) ∧ V.cell? ⟨w.heap.size, 2, none⟩ = some (.int .u32 p.a) ∧ V.cell? ⟨w.heap.size, 3, none⟩ = some (.int .i64 p.u) ∧ V.cell? ⟨w.heap.size, 4, none⟩ = some (.int .u8 p.h0) ∧ V.cell? ⟨w.heap.size, 5, none⟩ = some (.int .u8 p.h1) ∧ V.cell? ⟨w.heap.size, 6, none⟩ = some (.int .u8 p.h2) ∧ V.cell? ⟨w.heap.size, 7, none⟩ = some (.int .u8 p.h3) ∧ V.cell? ⟨w.heap.size, 8, none⟩ = some (.int .u8 p.h4) ∧ V.cell? ⟨w.heap.size, 9, none⟩ = some (.int .u8 p.h5) ∧ V.cell? ⟨w.heap.size, 10, none⟩ = some (.int .u8 p.h6) ∧ V.cell? ⟨w.heap.size, 11, none⟩ = some (.int .u8 p.h7) ∧ V.cell? ⟨w.heap.size, 12, none⟩ = some (.slice A n c)) (by kernel_rfl) (KX.out _ t0.drew) (fun hHeld => ?_)
  refine wpAnyH_take (i := 0) (v := ?_) rfl (by kernel_rfl) (by kernel_rfl) (by kernel_rfl) (fun _ _ _ h => h) (Or.inl ⟨by rfl, ?_⟩) (by assumption) ?_
  rotate_left
  · (intro w' hSw; (try dsimp only at hSw); go_simp; try with_reducible rfl)
  simp only [Act.put, List.getElem_toArray, List.getElem_cons_zero, List.setIfInBounds_toArray, List.set_cons_zero, List.set_cons_succ]
  refine wpAnyH_take (i := 2) (v := ?_) rfl (by kernel_rfl) (by kernel_rfl) (by kernel_rfl) (fun _ _ _ h => h) (Or.inl ⟨by rfl, ?_⟩) (by assumption) ?_
  rotate_left
  · (intro w' hSw; (try dsimp only at hSw); go_simp; try with_reducible rfl)
  simp only [Act.put, List.getElem_toArray, List.getElem_cons_zero, List.getElem_cons_succ, List.setIfInBounds_toArray, List.set_cons_zero, List.set_cons_succ]
  refine wpAnyH_take (i := 3) (v := ?_) rfl (by kernel_rfl) (by kernel_rfl) (by kernel_rfl) (fun _ _ _ h => h) (Or.inl ⟨by rfl, ?_⟩) (by assumption) ?_
  rotate_left
  · (intro w' hSw; (try dsimp only at hSw); go_simp; try with_reducible rfl)
  simp only [Act.put, List.getElem_toArray, List.getElem_cons_zero, List.getElem_cons_succ, List.setIfInBounds_toArray, List.set_cons_zero, List.set_cons_succ]
  replace t0 : Below W0.heap.size W0 X0.drew := t0.drew
  generalize hX0 : X0.drew = X1 at t0 ⊢
  clear hX0 hHeld
  refine wpAnyH_ready (rs := [1]) (by kernel_rfl) (by simp) ?_
  refine AllReadyH.cons rfl (fun K hK => ?_) AllReadyH.nil
  go_simp
  go_at_call 20
  refine (CL _ 0 t0 (by omega) (by omega)).mono ?_
  rintro e X2 ⟨A2, c2, rfl, o2, u2⟩
  have t2 : Below W0.heap.size W0 X2 := t0.trans (u2.mono t0.size)
  refine hK.out _ _ (KX.out _ t2) (fun _ => ?_)
  clear hK K
  have sz0 := t0.size
  have sz2 := u2.size
  obtain ⟨A3, c3, X3, rX3, oX3, tX3⟩ := run_app (P := Try.prog) X2 X1.heap.size 24 24 5 .u8 i0 _ 1 Try.underlying24 hi0 hz0 hz1 hz2 rfl _ _ _ o2 _ A c _ (q0.step t2) (by simp only [maxLen, ahd_length, hnn] <;> omega) (by simp only [ahd_length, hnn] <;> omega) sz2
  rw [List.length_append, ahd_length, hnn] at rX3
  rw [HL.out] at oX3
  have t3 : Below W0.heap.size W0 X3 := t2.trans (tX3.mono sz0)
  refine wpAnyH_ready (rs := [4]) (by kernel_rfl) (by simp) ?_
  refine AllReadyH.cons rfl (fun K hK => ?_) AllReadyH.nil
  refine step_runb _ rfl (.tmp 10) (.tmp 12) 24 rfl rfl rfl rX3 ?_
  refine hK.out _ _ (KX.out _ t3) (fun _ => ?_)
  clear hK K rX3
  refine wpAnyH_ready (rs := [5]) (by kernel_rfl) (by simp) ?_
  refine AllReadyH.cons rfl (fun K hK => ?_) AllReadyH.nil
  go_simp
  refine hK.out _ _ (KX.out _ t3) (fun _ => ?_)
  clear hK K
  refine wpAnyH_done (by kernel_rfl) ?_ _
  go_wp2_with fail
  refine wp_region_held_drew (S := fun V => V.cell? ⟨w.heap.size, 0, none⟩ = some (.int .i64 p.t) ∧ V.cell? ⟨w.heap.size, 1, none⟩ = some (.int .u32 p.r) ∧ V.cell? ⟨w.heap.size, 2, none⟩ = some (.int .u32 p.a) ∧ V.cell? ⟨w.heap.size, 3, none⟩ = some (.int .i64 p.u) ∧ V.cell? ⟨w.heap.size, 4, none⟩ = some (.int .u8 p.h0) ∧ V.cell? ⟨w.heap.size, 5, none⟩ = some (.int .u8 p.h1) ∧ V.cell? ⟨w.heap.size, 6, none⟩ = some (.int .u8 p.h2) ∧ V.cell? ⟨w.heap.size, 7, none⟩ = some (.int .u8 p.h3) ∧ V.cell? ⟨w.heap.size, 8, none⟩ = some (.int .u8 p.h4) ∧ V.cell? ⟨w.heap.size, 9, none⟩ = some (.int .u8 p.h5) ∧ V.cell? ⟨w.heap.size, 10, none⟩ = some (.int .u8 p.h6) ∧ V.cell? ⟨w.heap.size, 11, none⟩ = some (.int .u8 p.h7) ∧ V.cell? ⟨w.heap.size, 12, none⟩ = some (.slice A n c)) (by kernel_rfl) (KX.out _ t3.drew) (fun hHeld => ?_)
  refine wpAnyH_take (i := 0) (v := ?_) rfl (by kernel_rfl) (by kernel_rfl) (by kernel_rfl) (fun _ _ _ h => h) (Or.inl ⟨by rfl, ?_⟩) (by assumption) ?_
  rotate_left
  · (intro w' hSw; (try dsimp only at hSw); go_simp; try with_reducible rfl)
  simp only [Act.put, List.getElem_toArray, List.getElem_cons_zero, List.setIfInBounds_toArray, List.set_cons_zero, List.set_cons_succ]
  refine wpAnyH_take (i := 1) (v := ?_) rfl (by kernel_rfl) (by kernel_rfl) (by kernel_rfl) (fun _ _ _ h => h) (Or.inl ⟨by rfl, ?_⟩) (by assumption) ?_
  rotate_left
  · (intro w' hSw; (try dsimp only at hSw); go_simp; try with_reducible rfl)
  simp only [Act.put, List.getElem_toArray, List.getElem_cons_zero, List.getElem_cons_succ, List.setIfInBounds_toArray, List.set_cons_zero, List.set_cons_succ]
  have t4 : Below W0.heap.size W0 X3.drew := t3.drew
  have bX := oX3.drew.bs
  generalize hX4 : X3.drew = X4 at t4 bX ⊢
  clear hX4 hHeld
  refine wpAnyH_ready (rs := [2]) (by kernel_rfl) (by simp) ?_
  refine AllReadyH.cons rfl (fun K hK => ?_) AllReadyH.nil
  go_simp
  go_at_call 21
  refine (CI _ A3 c3 bX).mono ?_
  rintro e X5 ⟨rfl, rfl⟩
  refine hK.out _ _ (KX.out _ t4) (fun _ => ?_)
  clear hK K
  refine wpAnyH_ready (rs := [3]) (by kernel_rfl) (by simp) ?_
  refine AllReadyH.cons rfl (fun K hK => ?_) AllReadyH.nil
  go_simp
  go_at_call 20
  refine (CL _ N t4 hk.1 (by omega)).mono ?_
  rintro e X5 ⟨A5, c5, rfl, o5, u5⟩
  have t5 : Below W0.heap.size W0 X5 := t4.trans (u5.mono t4.size)
  refine hK.out _ _ (KX.out _ t5) (fun _ => ?_)
  clear hK K
  refine wpAnyH_ready (rs := [4]) (by kernel_rfl) (by simp) ?_
  refine AllReadyH.cons rfl (fun K hK => ?_) AllReadyH.nil
  go_simp
  refine hK.out _ _ (KX.out _ t5) (fun _ => ?_)
  clear hK K
  refine wpAnyH_done (by kernel_rfl) ?_ _
  have sz4 := t4.size
  have sz5 := u5.size
  have qa : Bt X5 (some ⟨w.heap.size, 4, none⟩) (au p) := by
    obtain ⟨k0, k1, k2, k3, k4, k5, k6, k7, k8, k9, k10, k11, k12⟩ := KX.out _ t5
    exact bt_au p X5 _ (by omega) ⟨k4, k5, k6, k7, k8, k9, k10, k11⟩
  obtain ⟨A6, c6, X6, rX6, oX6, tX6⟩ := run_app (P := Try.prog) X5 X4.heap.size 24 24 5 .u8 i0 _ 1 Try.underlying24 hi0 hz0 hz1 hz2 rfl _ _ _ o5 _ (some ⟨w.heap.size, 4, none⟩) 8 _ qa (by simp only [maxLen, ahd_length, List.length_cons, List.length_nil] <;> omega) (by simp only [ahd_length, List.length_cons, List.length_nil] <;> omega) sz5
  have t6 : Below W0.heap.size W0 X6 := t5.trans (tX6.mono sz4)
  have sz6 := tX6.size
  obtain ⟨A7, c7, X7, rX7, oX7, tX7⟩ := run_app (P := Try.prog) X6 X4.heap.size 24 24 5 .u8 i0 _ 1 Try.underlying24 hi0 hz0 hz1 hz2 rfl _ _ _ oX6 _ A c _ (q0.step t6) (by simp only [maxLen, ahd_length, hnn, List.length_append, List.length_cons, List.length_nil] <;> omega) (by simp only [ahd_length, hnn, List.length_append, List.length_cons, List.length_nil] <;> omega) (by omega)
  have t7 : Below W0.heap.size W0 X7 := t6.trans (tX7.mono sz4)
  have OF : Hid (Own .u8 5 X7 X4.heap.size A7 c7 (enc p)) := Lib.hid (by rw [HE.out, ← List.append_assoc]; exact oX7)
  rw [List.length_append, ahd_length] at rX6
  rw [List.length_append, List.length_append, ahd_length, hnn] at rX7
  simp only [List.length_cons, List.length_nil] at rX6 rX7
  obtain ⟨k0, k1, k2, k3, k4, k5, k6, k7, k8, k9, k10, k11, k12⟩ := KX.out _ t5
  obtain ⟨j0, j1, j2, j3, j4, j5, j6, j7, j8, j9, j10, j11, j12⟩ := KX.out _ t6
  clear oX7 oX6 o5 u5 hnn qa oX3 o2 u2 bX
  go_wp2_with (first | (at_builtin; refine wpList_runb _ rfl (.tmp 18) (.tmp 20) 24 rfl rfl rfl rX6 ?_) | (at_builtin; refine wpList_runb _ rfl (.tmp 22) (.tmp 24) 24 rfl rfl rfl rX7 ?_))
  go_ret2
  have hwb := HB.out.size
  refine ⟨A7, c7, ?_, OF.out.lower (by omega), HB.out.trans (t7.mono HB.out.size)⟩
  rfl
end Go.Proofs.Ytfhickgdmcmodaa
