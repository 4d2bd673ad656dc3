/-
  Contracts of the reference's Encode and Whole. No statement is proved here; no conditions.
-/
import Derived.Test.YtefbpaebimagaaaRWh
import Derived.Test.YtefbpaebimagaaaEn
namespace Go.Proofs.Ytefbpaebimagaaa
open Go.RowKit Go.Joins

set_option maxRecDepth 100000 in
set_option maxHeartbeats 4000000 in
theorem rencode_any (h : Hd) (A : Option Addr) (n c : Nat) (l : List Int) (w : World) (hn : l.length = n) (ok : Okd h) (hb : Bt w A l) (hl : n ≤ 5000) :
    Calls Try.prog 51 #[.agg #[.int .i64 h.a, .int .i64 h.o, .int .i64 h.t, .int .u32 h.i, .int .u32 h.v, .int .u32 h.q, .int .i64 h.s, .int .i64 h.n, .slice A n c]] w fun e w' => ∃ A' c', e = .returned (.tuple #[.slice A' (encA h l).length c', .int .i64 (encAE h l)]) ∧ Own .u8 5 w' w.heap.size A' c' (encA h l) ∧ Below w.heap.size w w' := by
  obtain ⟨W0, hW0⟩ : ∃ V, w.alloc (.cells #[.int .i64 h.a, .int .i64 h.o, .int .i64 h.t, .int .u32 h.i, .int .u32 h.v, .int .u32 h.q, .int .i64 h.s, .int .i64 h.n, .slice A n c] 87) = V := ⟨_, rfl⟩
  have bW0 : Below w.heap.size w W0 := by rw [← hW0]; exact below_alloc1 _ _
  have sW0 : W0.heap.size = w.heap.size + 1 := by rw [← hW0]; simp
  have KX : Hid (∀ V, Below W0.heap.size W0 V → V.cell? ⟨w.heap.size, 0, none⟩ = some (.int .i64 h.a) ∧ V.cell? ⟨w.heap.size, 1, none⟩ = some (.int .i64 h.o) ∧ V.cell? ⟨w.heap.size, 2, none⟩ = some (.int .i64 h.t) ∧ V.cell? ⟨w.heap.size, 3, none⟩ = some (.int .u32 h.i) ∧ V.cell? ⟨w.heap.size, 4, none⟩ = some (.int .u32 h.v) ∧ V.cell? ⟨w.heap.size, 5, none⟩ = some (.int .u32 h.q) ∧ V.cell? ⟨w.heap.size, 6, none⟩ = some (.int .i64 h.s) ∧ V.cell? ⟨w.heap.size, 7, none⟩ = some (.int .i64 h.n) ∧ V.cell? ⟨w.heap.size, 8, none⟩ = some (.slice A n c)) := Lib.hid (fun V hV => kb9_new hW0 hV)
  have HB : Hid (Below w.heap.size w W0) := Lib.hid bW0
  have CM := rmayad_any h A n c l W0 hn hl
  have q0 := hb.step bW0
  obtain ⟨k0, k1, k2, k3, k4, k5, k6, k7, k8⟩ := KX.out _ (Below.refl _ _)
  clear bW0 hb
  by_cases hm : maya h l = true
  case neg =>
    have e1 : encAE h l = 1 := by simp [encAE, hm]
    have e2 : encA h l = [] := by simp [encA, hm]
    rw [e1, e2]
    have hm2 : maya h l = false := by simpa using hm
    rw [hm2] at CM
    clear e1 e2 hm hm2 hn
    go_enter Try.func51, Try.ntmps51
    go_wp2_with fail
    refine CM.mono ?_
    rintro e Y1 ⟨rfl, u1⟩
    clear k0 k1 k2 k3 k4 k5 k6 k7 k8
    go_wp2
    go_ret2
    exact ⟨none, 0, rfl, Own.nil _ _, HB.out.trans (u1.mono HB.out.size)⟩
  have e1 : encAE h l = 0 := by simp [encAE, hm]
  have e2 : encA h l = ehd h ++ l := by simp [encA, hm]
  have hmd : mayd h = true := by unfold maya at hm; simp only [Bool.and_eq_true] at hm; exact hm.1
  have hlen : (ehd h ++ l).length = 20 + n := by rw [List.length_append, ehd_length, hn]
  rw [e1, e2, hlen]
  rw [hm] at CM
  have HMD := Lib.hid hmd
  obtain ⟨i0, hi0, hz0, hz1, hz2⟩ := info_of info5
  have HN := Lib.hid hn
  clear e1 e2 hm hmd hlen hn
  go_enter Try.func51, Try.ntmps51
  go_wp2_with fail
  refine CM.mono ?_
  rintro e Y1 ⟨rfl, u1⟩
  clear k0 k1 k2 k3 k4 k5 k6 k7 k8
  have tt : Below W0.heap.size W0 Y1 := u1
  have q1 := q0.step u1
  clear u1 CM q0
  go_upto_region 3 with fail
  refine wp_region_held_drew (S := fun V => V.cell? ⟨w.heap.size, 0, none⟩ = some (.int .i64 h.a) ∧ V.cell? ⟨w.heap.size, 1, none⟩ = some (.int .i64 h.o) ∧ V.cell? ⟨w.heap.size, 2, none⟩ = some (.int .i64 h.t) ∧ V.cell? ⟨w.heap.size, 3, none⟩ = some (.int .u32 h.i) ∧ V.cell? ⟨w.heap.size, 4, none⟩ = some (.int .u32 h.v) ∧ V.cell? ⟨w.heap.size, 5, none⟩ = some (.int .u32 h.q) ∧ V.cell? ⟨w.heap.size, 6, none⟩ = some (.int .i64 h.s) ∧ V.cell? ⟨w.heap.size, 7, none⟩ = some (.int .i64 h.n) ∧ V.cell? ⟨w.heap.size, 8, none⟩ = some (.slice A n c)) (by kernel_rfl) (KX.out _ tt.drew) (fun hHeld => ?_)
  replace tt : Below W0.heap.size W0 Y1.drew := tt.drew
  replace q1 : Bt Y1.drew A l := q1
  generalize hX0 : Y1.drew = X0 at tt q1 hHeld ⊢
  clear hX0
  refine wpAnyH_take (i := 0) (v := ?_) rfl (by kernel_rfl) (by kernel_rfl) (by kernel_rfl) (fun _ _ _ h => h) (Or.inl ⟨by rfl, ?_⟩) (by assumption) ?_
  rotate_left
  · (intro w' hSw; (try dsimp only at hSw); go_simp; try with_reducible rfl)
  simp only [Act.put, List.getElem_toArray, List.getElem_cons_zero, List.setIfInBounds_toArray, List.set_cons_zero, List.set_cons_succ]
  refine wpAnyH_take (i := 1) (v := ?_) rfl (by kernel_rfl) (by kernel_rfl) (by kernel_rfl) (fun _ _ _ h => h) (Or.inl ⟨by rfl, ?_⟩) (by assumption) ?_
  rotate_left
  · (intro w' hSw; (try dsimp only at hSw); go_simp; try with_reducible rfl)
  simp only [Act.put, List.getElem_toArray, List.getElem_cons_zero, List.getElem_cons_succ, List.setIfInBounds_toArray, List.set_cons_zero, List.set_cons_succ]
  refine wpAnyH_take (i := 3) (v := ?_) rfl (by kernel_rfl) (by kernel_rfl) (by kernel_rfl) (fun _ _ _ h => h) (Or.inl ⟨by rfl, ?_⟩) (by assumption) ?_
  rotate_left
  · (intro w' hSw; (try dsimp only at hSw); go_simp; try with_reducible rfl)
  simp only [Act.put, List.getElem_toArray, List.getElem_cons_zero, List.getElem_cons_succ, List.setIfInBounds_toArray, List.set_cons_zero, List.set_cons_succ]
  refine wpAnyH_take (i := 4) (v := ?_) rfl (by kernel_rfl) (by kernel_rfl) (by kernel_rfl) (fun _ _ _ h => h) (Or.inl ⟨by rfl, ?_⟩) (by assumption) ?_
  rotate_left
  · (intro w' hSw; (try dsimp only at hSw); go_simp; try with_reducible rfl)
  simp only [Act.put, List.getElem_toArray, List.getElem_cons_zero, List.getElem_cons_succ, List.setIfInBounds_toArray, List.set_cons_zero, List.set_cons_succ]
  refine wpAnyH_ready (rs := [2]) (by kernel_rfl) (by simp) ?_
  refine AllReadyH.cons rfl (fun K hK => ?_) AllReadyH.nil
  go_simp
  go_at_call 72
  refine (raw_any h X0 ok HMD.out).mono ?_
  rintro e Y11 ⟨A11, c11, rfl, o11, u11⟩
  have t_Y11 : Below W0.heap.size W0 Y11 := tt.trans (u11.mono tt.size)
  replace q1 := q1.step u11
  have oa := o11.lower (base' := W0.heap.size) tt.size
  clear o11
  refine hK.out _ _ (KX.out _ t_Y11) (fun _ => ?_)
  clear hK K
  refine wpAnyH_ready (rs := [5]) (by kernel_rfl) (by simp) ?_
  refine AllReadyH.cons rfl (fun K hK => ?_) AllReadyH.nil
  obtain ⟨A12, c12, Y12, rY12, oY12, tY12⟩ := run_apn (P := Try.prog) Y11 W0.heap.size 26 26 5 .u8 i0 _ 1 Try.underlying26 hi0 hz0 hz1 hz2 rfl _ _ _ oa _ A c _ q1 20 n (ehd_length _) HN.out (by unfold maxLen; omega) (by omega) t_Y11.size
  have t_Y12 : Below W0.heap.size W0 Y12 := t_Y11.trans tY12
  refine step_runb _ rfl (.tmp 9) (.tmp 11) 26 rfl rfl rfl rY12 ?_
  refine hK.out _ _ (KX.out _ t_Y12) (fun _ => ?_)
  clear hK K
  refine wpAnyH_ready (rs := [6]) (by kernel_rfl) (by simp) ?_
  refine AllReadyH.cons rfl (fun K hK => ?_) AllReadyH.nil
  go_simp
  refine hK.out _ _ (KX.out _ t_Y12) (fun _ => ?_)
  clear hK K
  refine wpAnyH_ready (rs := [7]) (by kernel_rfl) (by simp) ?_
  refine AllReadyH.cons rfl (fun K hK => ?_) AllReadyH.nil
  go_simp
  refine hK.out _ _ (KX.out _ t_Y12) (fun _ => ?_)
  clear hK K
  refine wpAnyH_done (by kernel_rfl) ?_ _
  go_wp2_with fail
  go_ret2
  exact ⟨A12, c12, rfl, oY12.lower HB.out.size, HB.out.trans (t_Y12.mono HB.out.size)⟩
set_option maxRecDepth 100000 in
set_option maxHeartbeats 4000000 in
theorem rwhole_any (h : Hd) (A : Option Addr) (n c : Nat) (l : List Int) (w : World) (hn : l.length = n) (ok : Okd h) (hb : Bt w A l) (hy : Byt l) (hl : n ≤ 5000) :
    Calls Try.prog 52 #[.agg #[.int .i64 h.a, .int .i64 h.o, .int .i64 h.t, .int .u32 h.i, .int .u32 h.v, .int .u32 h.q, .int .i64 h.s, .int .i64 h.n, .slice A n c]] w fun e w' => e = .returned (.bool (whl h l)) ∧ Below w.heap.size w w' := by
  obtain ⟨W0, hW0⟩ : ∃ V, w.alloc (.cells #[.int .i64 h.a, .int .i64 h.o, .int .i64 h.t, .int .u32 h.i, .int .u32 h.v, .int .u32 h.q, .int .i64 h.s, .int .i64 h.n, .slice A n c] 87) = V := ⟨_, rfl⟩
  have bW0 : Below w.heap.size w W0 := by rw [← hW0]; exact below_alloc1 _ _
  have sW0 : W0.heap.size = w.heap.size + 1 := by rw [← hW0]; simp
  have KX : Hid (∀ V, Below W0.heap.size W0 V → V.cell? ⟨w.heap.size, 0, none⟩ = some (.int .i64 h.a) ∧ V.cell? ⟨w.heap.size, 1, none⟩ = some (.int .i64 h.o) ∧ V.cell? ⟨w.heap.size, 2, none⟩ = some (.int .i64 h.t) ∧ V.cell? ⟨w.heap.size, 3, none⟩ = some (.int .u32 h.i) ∧ V.cell? ⟨w.heap.size, 4, none⟩ = some (.int .u32 h.v) ∧ V.cell? ⟨w.heap.size, 5, none⟩ = some (.int .u32 h.q) ∧ V.cell? ⟨w.heap.size, 6, none⟩ = some (.int .i64 h.s) ∧ V.cell? ⟨w.heap.size, 7, none⟩ = some (.int .i64 h.n) ∧ V.cell? ⟨w.heap.size, 8, none⟩ = some (.slice A n c)) := Lib.hid (fun V hV => kb9_new hW0 hV)
  have HB : Hid (Below w.heap.size w W0) := Lib.hid bW0
  have q1 := hb.step bW0
  have CM := fun V => rmayad_any h A n c l V hn hl
  obtain ⟨i0, hi0, hz0, hz1, hz2⟩ := info_of info5
  have HN := Lib.hid hn
  have HY := Lib.hid hy
  have tt : Below W0.heap.size W0 W0 := Below.refl _ _
  clear bW0 hb hn hy
  go_enter Try.func52, Try.ntmps52
  go_wp2_with fail
  refine wp_region_held_drew (S := fun V => V.cell? ⟨w.heap.size, 0, none⟩ = some (.int .i64 h.a) ∧ V.cell? ⟨w.heap.size, 1, none⟩ = some (.int .i64 h.o) ∧ V.cell? ⟨w.heap.size, 2, none⟩ = some (.int .i64 h.t) ∧ V.cell? ⟨w.heap.size, 3, none⟩ = some (.int .u32 h.i) ∧ V.cell? ⟨w.heap.size, 4, none⟩ = some (.int .u32 h.v) ∧ V.cell? ⟨w.heap.size, 5, none⟩ = some (.int .u32 h.q) ∧ V.cell? ⟨w.heap.size, 6, none⟩ = some (.int .i64 h.s) ∧ V.cell? ⟨w.heap.size, 7, none⟩ = some (.int .i64 h.n) ∧ V.cell? ⟨w.heap.size, 8, none⟩ = some (.slice A n c)) (by kernel_rfl) (KX.out _ tt.drew) (fun hHeld => ?_)
  replace tt : Below W0.heap.size W0 W0.drew := tt.drew
  replace q1 : Bt W0.drew A l := q1
  generalize hX0 : W0.drew = X0 at tt q1 hHeld ⊢
  clear hX0
  refine wpAnyH_take (i := 0) (v := ?_) rfl (by kernel_rfl) (by kernel_rfl) (by kernel_rfl) (fun _ _ _ h => h) (Or.inl ⟨by rfl, ?_⟩) (by assumption) ?_
  rotate_left
  · (intro w' hSw; (try dsimp only at hSw); go_simp; try with_reducible rfl)
  simp only [Act.put, List.getElem_toArray, List.getElem_cons_zero, List.setIfInBounds_toArray, List.set_cons_zero, List.set_cons_succ]
  refine wpAnyH_take (i := 1) (v := ?_) rfl (by kernel_rfl) (by kernel_rfl) (by kernel_rfl) (fun _ _ _ h => h) (Or.inl ⟨by rfl, ?_⟩) (by assumption) ?_
  rotate_left
  · (intro w' hSw; (try dsimp only at hSw); go_simp; try with_reducible rfl)
  simp only [Act.put, List.getElem_toArray, List.getElem_cons_zero, List.getElem_cons_succ, List.setIfInBounds_toArray, List.set_cons_zero, List.set_cons_succ]
  refine wpAnyH_take (i := 3) (v := ?_) rfl (by kernel_rfl) (by kernel_rfl) (by kernel_rfl) (fun _ _ _ h => h) (Or.inl ⟨by rfl, ?_⟩) (by assumption) ?_
  rotate_left
  · (intro w' hSw; (try dsimp only at hSw); go_simp; try with_reducible rfl)
  simp only [Act.put, List.getElem_toArray, List.getElem_cons_zero, List.getElem_cons_succ, List.setIfInBounds_toArray, List.set_cons_zero, List.set_cons_succ]
  refine wpAnyH_take (i := 4) (v := ?_) rfl (by kernel_rfl) (by kernel_rfl) (by kernel_rfl) (fun _ _ _ h => h) (Or.inl ⟨by rfl, ?_⟩) (by assumption) ?_
  rotate_left
  · (intro w' hSw; (try dsimp only at hSw); go_simp; try with_reducible rfl)
  simp only [Act.put, List.getElem_toArray, List.getElem_cons_zero, List.getElem_cons_succ, List.setIfInBounds_toArray, List.set_cons_zero, List.set_cons_succ]
  refine wpAnyH_ready (rs := [2]) (by kernel_rfl) (by simp) ?_
  refine AllReadyH.cons rfl (fun K hK => ?_) AllReadyH.nil
  go_simp
  go_at_call 72
  refine (raw_gen h X0 ok).mono ?_
  rintro e Y11 ⟨A11, c11, X, ⟨lX, hX⟩, rfl, o11, u11⟩
  have t_Y11 : Below W0.heap.size W0 Y11 := tt.trans (u11.mono tt.size)
  replace q1 := q1.step u11
  have oa := o11.lower (base' := W0.heap.size) tt.size
  clear o11
  refine hK.out _ _ (KX.out _ t_Y11) (fun _ => ?_)
  clear hK K
  refine wpAnyH_ready (rs := [5]) (by kernel_rfl) (by simp) ?_
  refine AllReadyH.cons rfl (fun K hK => ?_) AllReadyH.nil
  obtain ⟨A12, c12, Y12, rY12, oY12, tY12⟩ := run_apn (P := Try.prog) Y11 W0.heap.size 26 26 5 .u8 i0 _ 1 Try.underlying26 hi0 hz0 hz1 hz2 rfl _ _ _ oa _ A c _ q1 20 n lX HN.out (by unfold maxLen; omega) (by omega) t_Y11.size
  have t_Y12 : Below W0.heap.size W0 Y12 := t_Y11.trans tY12
  refine step_runb _ rfl (.tmp 6) (.tmp 8) 26 rfl rfl rfl rY12 ?_
  refine hK.out _ _ (KX.out _ t_Y12) (fun _ => ?_)
  clear hK K
  refine wpAnyH_ready (rs := [6]) (by kernel_rfl) (by simp) ?_
  refine AllReadyH.cons rfl (fun K hK => ?_) AllReadyH.nil
  go_simp
  refine hK.out _ _ (KX.out _ t_Y12) (fun _ => ?_)
  clear hK K
  refine wpAnyH_done (by kernel_rfl) ?_ _
  have HO := Lib.hid oY12
  have HT := Lib.hid t_Y12
  have HX := Lib.hid hX
  have HLX := Lib.hid lX
  clear t_Y12 tY12 rY12 oa hX oY12
  obtain ⟨k0, k1, k2, k3, k4, k5, k6, k7, k8⟩ := KX.out _ HT.out
  obtain ⟨q, hq⟩ : ∃ q, maya h l = q := ⟨_, rfl⟩
  rw [hq] at CM
  cases q with
  | false =>
    have e : whl h l = false := by rw [whl, hq]; rfl
    have HE := Lib.hid e
    clear e hq
    go_wp2_with fail
    refine (CM _).mono ?_
    rintro e Z1 ⟨rfl, u1⟩
    clear k0 k1 k2 k3 k4 k5 k6 k7 k8
    go_wp2
    go_ret
    exact ⟨ret_bool HE.out.symm, HB.out.trans ((HT.out.trans (u1.mono HT.out.size)).mono HB.out.size)⟩
  | true =>
    have hmd : mayd h = true := by unfold maya at hq; simp only [Bool.and_eq_true] at hq; exact hq.1
    have hXe := HX.out hmd
    subst hXe
    have HW : Hid (whl h l = (p0 ((ehd h ++ l).drop 2) == 0 && p1 ((ehd h ++ l).drop 2) == 0)) := Lib.hid (by rw [whl, hq]; rfl)
    clear hq hmd
    go_wp2_with fail
    refine (CM _).mono ?_
    rintro e Z1 ⟨rfl, u1⟩
    clear k0 k1 k2 k3 k4 k5 k6 k7 k8 CM
    have o2 := Own.step HO.out u1
    have hcc := o2.cap_le
    have hll : (ehd h ++ l).length = 20 + n := by rw [List.length_append, HLX.out, HN.out]
    rw [hll] at hcc
    obtain ⟨g, hg, _, hgl⟩ := own_some o2 (by omega)
    have qd : Bt Z1 (some ⟨g, 2, none⟩) ((ehd h ++ l).drop 2) := o2.bs.drop 2 _ (fun _ => by rw [hg]; simp [addr_add])
    have FT := rfits_any (some ⟨g, 2, none⟩) (c12 - 2) ((ehd h ++ l).drop 2) Z1.heap.size Z1 qd (((ehd_byt h).append HY.out).drop 2) (by rw [List.length_drop, hll]; omega)
    have hl2 : ((ehd h ++ l).drop 2).length = 18 + n := by rw [List.length_drop, hll]; omega
    rw [hl2] at FT
    subst hg
    have hcn : ¬ (c12 = 2) := by omega
    have hci : (2 : Int) ≤ (c12 : Int) := by omega
    have hni : (2 : Int) ≤ 20 + (n : Int) := by omega
    have hn3 : (20 + n : Nat) - 2 = 18 + n := by omega
    have hn4 : (20 + (n : Int)) ≤ (c12 : Int) := by omega
    have HU := Lib.hid (HB.out.trans ((HT.out.trans (u1.mono HT.out.size)).mono HB.out.size))
    clear o2 qd hl2 hll u1
    go_wp2_with fail
    refine FT.mono ?_
    rintro e _ ⟨rfl, rfl⟩
    go_wp2
    go_ret
    exact ⟨ret_bool HW.out.symm, HU.out⟩
end Go.Proofs.Ytefbpaebimagaaa
