/-
  The contract of lsa's Less. No statement is proved here; no conditions.
-/
import Derived.Test.YtadcicmccdphkaaOr
namespace Go.Proofs.Ytadcicmccdphkaa
open Go.RowKit Go.Joins

set_option maxRecDepth 100000 in
set_option maxHeartbeats 10000000 in
theorem less_any (a b : Hd) (w : World) :
    Calls Try.prog 22 #[.agg #[.int .i64 a.t, .int .u32 a.i, .int .u32 a.v], .agg #[.int .i64 b.t, .int .u32 b.i, .int .u32 b.v]] w fun e w' => e = .returned (.bool (lessK a b)) ∧ Below w.heap.size w w' := by
  obtain ⟨W0, hW0⟩ : ∃ V, w.alloc (.cells #[.int .i64 a.t, .int .u32 a.i, .int .u32 a.v] 40) = V := ⟨_, rfl⟩
  have bW0 : Below w.heap.size w W0 := by rw [← hW0]; exact below_alloc1 _ _
  have sW0 : W0.heap.size = w.heap.size + 1 := by rw [← hW0]; simp
  have KX : Hid (∀ V, Below W0.heap.size W0 V → V.cell? ⟨w.heap.size, 0, none⟩ = some (.int .i64 a.t) ∧ V.cell? ⟨w.heap.size, 1, none⟩ = some (.int .u32 a.i) ∧ V.cell? ⟨w.heap.size, 2, none⟩ = some (.int .u32 a.v)) := Lib.hid (fun V hV => kb3_new hW0 hV)
  obtain ⟨W1, hW1⟩ : ∃ V, W0.alloc (.cells #[.int .i64 b.t, .int .u32 b.i, .int .u32 b.v] 40) = V := ⟨_, rfl⟩
  have bW1 : Below W0.heap.size W0 W1 := by rw [← hW1]; exact below_alloc1 _ _
  have sW1 : W1.heap.size = W0.heap.size + 1 := by rw [← hW1]; simp
  have KY : Hid (∀ V, Below W1.heap.size W1 V → V.cell? ⟨W0.heap.size, 0, none⟩ = some (.int .i64 b.t) ∧ V.cell? ⟨W0.heap.size, 1, none⟩ = some (.int .u32 b.i) ∧ V.cell? ⟨W0.heap.size, 2, none⟩ = some (.int .u32 b.v)) := Lib.hid (fun V hV => kb3_new hW1 hV)
  have b2 : Below w.heap.size w W1 := bW0.trans (bW1.mono bW0.size)
  have B2 := Lib.hid b2
  have KZ : Hid (∀ V, Below W1.heap.size W1 V → (V.cell? ⟨w.heap.size, 0, none⟩ = some (.int .i64 a.t) ∧ V.cell? ⟨w.heap.size, 1, none⟩ = some (.int .u32 a.i) ∧ V.cell? ⟨w.heap.size, 2, none⟩ = some (.int .u32 a.v)) ∧ (V.cell? ⟨(w.heap.size + 1), 0, none⟩ = some (.int .i64 b.t) ∧ V.cell? ⟨(w.heap.size + 1), 1, none⟩ = some (.int .u32 b.i) ∧ V.cell? ⟨(w.heap.size + 1), 2, none⟩ = some (.int .u32 b.v))) := Lib.hid (fun V hV => by
    have q1 := KX.out V (bW1.trans (hV.mono bW1.size))
    have q2 := KY.out V hV
    rw [sW0] at q2
    exact ⟨q1, q2⟩)
  have HC : Hid (lessK a b = decide (fstn [cmpI a.t b.t, cmpI a.i b.i, cmpI a.v b.v] < 0)) := Lib.hid rfl
  have tt : Below W1.heap.size W1 W1 := Below.refl _ _
  clear KX KY bW0 bW1 b2 sW1
  go_enter Try.func22, Try.ntmps22
  go_wp2_with fail
  refine wp_region_held_drew (S := fun V => (V.cell? ⟨w.heap.size, 0, none⟩ = some (.int .i64 a.t) ∧ V.cell? ⟨w.heap.size, 1, none⟩ = some (.int .u32 a.i) ∧ V.cell? ⟨w.heap.size, 2, none⟩ = some (.int .u32 a.v)) ∧ (V.cell? ⟨(w.heap.size + 1), 0, none⟩ = some (.int .i64 b.t) ∧ V.cell? ⟨(w.heap.size + 1), 1, none⟩ = some (.int .u32 b.i) ∧ V.cell? ⟨(w.heap.size + 1), 2, none⟩ = some (.int .u32 b.v))) (by kernel_rfl) (KZ.out _ tt.drew) (fun hHeld => ?_)
  replace tt : Below W1.heap.size W1 W1.drew := tt.drew
  generalize hX0 : W1.drew = X0 at tt hHeld ⊢
  clear hX0
  refine wpAnyH_take (i := 0) (v := ?_) rfl (by kernel_rfl) (by kernel_rfl) (by kernel_rfl) (fun _ _ _ h => h) (Or.inl ⟨by rfl, ?_⟩) (by assumption) ?_
  rotate_left
  · (intro w' hSw; (try dsimp only at hSw); go_simp; try with_reducible rfl)
  simp only [Act.put, List.getElem_toArray, List.getElem_cons_zero, List.setIfInBounds_toArray, List.set_cons_zero, List.set_cons_succ]
  refine wpAnyH_take (i := 1) (v := ?_) rfl (by kernel_rfl) (by kernel_rfl) (by kernel_rfl) (fun _ _ _ h => h) (Or.inl ⟨by rfl, ?_⟩) (by assumption) ?_
  rotate_left
  · (intro w' hSw; (try dsimp only at hSw); go_simp; try with_reducible rfl)
  simp only [Act.put, List.getElem_toArray, List.getElem_cons_zero, List.getElem_cons_succ, List.setIfInBounds_toArray, List.set_cons_zero, List.set_cons_succ]
  refine wpAnyH_take (i := 2) (v := ?_) rfl (by kernel_rfl) (by kernel_rfl) (by kernel_rfl) (fun _ _ _ h => h) (Or.inl ⟨by rfl, ?_⟩) (by assumption) ?_
  rotate_left
  · (intro w' hSw; (try dsimp only at hSw); go_simp; try with_reducible rfl)
  simp only [Act.put, List.getElem_toArray, List.getElem_cons_zero, List.getElem_cons_succ, List.setIfInBounds_toArray, List.set_cons_zero, List.set_cons_succ]
  refine wpAnyH_take (i := 3) (v := ?_) rfl (by kernel_rfl) (by kernel_rfl) (by kernel_rfl) (fun _ _ _ h => h) (Or.inl ⟨by rfl, ?_⟩) (by assumption) ?_
  rotate_left
  · (intro w' hSw; (try dsimp only at hSw); go_simp; try with_reducible rfl)
  simp only [Act.put, List.getElem_toArray, List.getElem_cons_zero, List.getElem_cons_succ, List.setIfInBounds_toArray, List.set_cons_zero, List.set_cons_succ]
  refine wpAnyH_take (i := 5) (v := ?_) rfl (by kernel_rfl) (by kernel_rfl) (by kernel_rfl) (fun _ _ _ h => h) (Or.inl ⟨by rfl, ?_⟩) (by assumption) ?_
  rotate_left
  · (intro w' hSw; (try dsimp only at hSw); go_simp; try with_reducible rfl)
  simp only [Act.put, List.getElem_toArray, List.getElem_cons_zero, List.getElem_cons_succ, List.setIfInBounds_toArray, List.set_cons_zero, List.set_cons_succ]
  refine wpAnyH_take (i := 6) (v := ?_) rfl (by kernel_rfl) (by kernel_rfl) (by kernel_rfl) (fun _ _ _ h => h) (Or.inl ⟨by rfl, ?_⟩) (by assumption) ?_
  rotate_left
  · (intro w' hSw; (try dsimp only at hSw); go_simp; try with_reducible rfl)
  simp only [Act.put, List.getElem_toArray, List.getElem_cons_zero, List.getElem_cons_succ, List.setIfInBounds_toArray, List.set_cons_zero, List.set_cons_succ]
  refine wpAnyH_take (i := 7) (v := ?_) rfl (by kernel_rfl) (by kernel_rfl) (by kernel_rfl) (fun _ _ _ h => h) (Or.inl ⟨by rfl, ?_⟩) (by assumption) ?_
  rotate_left
  · (intro w' hSw; (try dsimp only at hSw); go_simp; try with_reducible rfl)
  simp only [Act.put, List.getElem_toArray, List.getElem_cons_zero, List.getElem_cons_succ, List.setIfInBounds_toArray, List.set_cons_zero, List.set_cons_succ]
  refine wpAnyH_take (i := 8) (v := ?_) rfl (by kernel_rfl) (by kernel_rfl) (by kernel_rfl) (fun _ _ _ h => h) (Or.inl ⟨by rfl, ?_⟩) (by assumption) ?_
  rotate_left
  · (intro w' hSw; (try dsimp only at hSw); go_simp; try with_reducible rfl)
  simp only [Act.put, List.getElem_toArray, List.getElem_cons_zero, List.getElem_cons_succ, List.setIfInBounds_toArray, List.set_cons_zero, List.set_cons_succ]
  refine wpAnyH_take (i := 10) (v := ?_) rfl (by kernel_rfl) (by kernel_rfl) (by kernel_rfl) (fun _ _ _ h => h) (Or.inl ⟨by rfl, ?_⟩) (by assumption) ?_
  rotate_left
  · (intro w' hSw; (try dsimp only at hSw); go_simp; try with_reducible rfl)
  simp only [Act.put, List.getElem_toArray, List.getElem_cons_zero, List.getElem_cons_succ, List.setIfInBounds_toArray, List.set_cons_zero, List.set_cons_succ]
  refine wpAnyH_take (i := 11) (v := ?_) rfl (by kernel_rfl) (by kernel_rfl) (by kernel_rfl) (fun _ _ _ h => h) (Or.inl ⟨by rfl, ?_⟩) (by assumption) ?_
  rotate_left
  · (intro w' hSw; (try dsimp only at hSw); go_simp; try with_reducible rfl)
  simp only [Act.put, List.getElem_toArray, List.getElem_cons_zero, List.getElem_cons_succ, List.setIfInBounds_toArray, List.set_cons_zero, List.set_cons_succ]
  refine wpAnyH_take (i := 12) (v := ?_) rfl (by kernel_rfl) (by kernel_rfl) (by kernel_rfl) (fun _ _ _ h => h) (Or.inl ⟨by rfl, ?_⟩) (by assumption) ?_
  rotate_left
  · (intro w' hSw; (try dsimp only at hSw); go_simp; try with_reducible rfl)
  simp only [Act.put, List.getElem_toArray, List.getElem_cons_zero, List.getElem_cons_succ, List.setIfInBounds_toArray, List.set_cons_zero, List.set_cons_succ]
  refine wpAnyH_take (i := 13) (v := ?_) rfl (by kernel_rfl) (by kernel_rfl) (by kernel_rfl) (fun _ _ _ h => h) (Or.inl ⟨by rfl, ?_⟩) (by assumption) ?_
  rotate_left
  · (intro w' hSw; (try dsimp only at hSw); go_simp; try with_reducible rfl)
  simp only [Act.put, List.getElem_toArray, List.getElem_cons_zero, List.getElem_cons_succ, List.setIfInBounds_toArray, List.set_cons_zero, List.set_cons_succ]
  refine wpAnyH_ready (rs := [4]) (by kernel_rfl) (by simp) ?_
  refine AllReadyH.cons rfl (fun K hK => ?_) AllReadyH.nil
  go_simp
  go_at_call 30
  refine (cmp_i64 _ _ _).mono ?_
  rintro e _ ⟨rfl, rfl⟩
  refine hK.out _ _ (KZ.out _ tt) (fun _ => ?_)
  clear hK K
  refine wpAnyH_ready (rs := [9]) (by kernel_rfl) (by simp) ?_
  refine AllReadyH.cons rfl (fun K hK => ?_) AllReadyH.nil
  go_simp
  go_at_call 45
  refine (cmp_u32 _ _ _).mono ?_
  rintro e _ ⟨rfl, rfl⟩
  refine hK.out _ _ (KZ.out _ tt) (fun _ => ?_)
  clear hK K
  refine wpAnyH_ready (rs := [14]) (by kernel_rfl) (by simp) ?_
  refine AllReadyH.cons rfl (fun K hK => ?_) AllReadyH.nil
  go_simp
  go_at_call 45
  refine (cmp_u32 _ _ _).mono ?_
  rintro e _ ⟨rfl, rfl⟩
  refine hK.out _ _ (KZ.out _ tt) (fun _ => ?_)
  clear hK K
  refine wpAnyH_ready (rs := [15]) (by kernel_rfl) (by simp) ?_
  refine AllReadyH.cons rfl (fun K hK => ?_) AllReadyH.nil
  go_simp
  obtain ⟨Y1, hY1⟩ : ∃ V, X0.alloc (.cells #[.int .i64 (cmpI a.t b.t), .int .i64 (cmpI a.i b.i), .int .i64 (cmpI a.v b.v)] 3) = V := ⟨_, rfl⟩
  have u1 : Below X0.heap.size X0 Y1 := by rw [← hY1]; exact below_alloc1 _ _
  have t_Y1 : Below W1.heap.size W1 Y1 := tt.trans (u1.mono tt.size)
  obtain ⟨k1, hk1⟩ : ∃ k, X0.heap.size = k := ⟨_, rfl⟩
  have zr : Bs .i64 Y1 Y1.heap.size (some ⟨k1, 0, none⟩) [cmpI a.t b.t, cmpI a.i b.i, cmpI a.v b.v] := by
    rw [← hY1]
    exact Bs.mk _ _ _ _ _ _ hk1 (by simp [maxLen]) rfl
  try rw [hY1]
  try rw [hk1]
  refine hK.out _ _ (KZ.out _ t_Y1) (fun _ => ?_)
  clear hK K
  refine wpAnyH_ready (rs := [16]) (by kernel_rfl) (by simp) ?_
  refine AllReadyH.cons rfl (fun K hK => ?_) AllReadyH.nil
  go_simp
  go_at_call 28
  refine (first_any (some ⟨k1, 0, none⟩) 3 3 _ Y1 rfl zr (by decide)).mono ?_
  rintro e _ ⟨rfl, rfl⟩
  refine hK.out _ _ (KZ.out _ t_Y1) (fun _ => ?_)
  clear hK K
  refine wpAnyH_take (i := 17) (v := ?_) rfl (by kernel_rfl) (by kernel_rfl) (by kernel_rfl) (fun _ _ _ h => h) (Or.inl ⟨by rfl, ?_⟩) (by assumption) ?_
  rotate_left
  · (intro w' hSw; (try dsimp only at hSw); go_simp; try with_reducible rfl)
  simp only [Act.put, List.getElem_toArray, List.getElem_cons_zero, List.getElem_cons_succ, List.setIfInBounds_toArray, List.set_cons_zero, List.set_cons_succ]
  refine wpAnyH_ready (rs := [18]) (by kernel_rfl) (by simp) ?_
  refine AllReadyH.cons rfl (fun K hK => ?_) AllReadyH.nil
  go_simp
  refine hK.out _ _ (KZ.out _ t_Y1) (fun _ => ?_)
  clear hK K
  refine wpAnyH_done (by kernel_rfl) ?_ _
  go_wp2
  go_ret
  exact ⟨ret_bool (by rw [HC.out]), B2.out.trans (t_Y1.mono B2.out.size)⟩
end Go.Proofs.Ytadcicmccdphkaa
