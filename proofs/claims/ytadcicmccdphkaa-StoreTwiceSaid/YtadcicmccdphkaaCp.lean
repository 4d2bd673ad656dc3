/-
  Contracts of lsa's Compare and Less. No statement is proved here; no conditions.
-/
import Derived.Test.YtadcicmccdphkaaOr
namespace Go.Proofs.Ytadcicmccdphkaa
open Go.RowKit Go.Joins

set_option maxRecDepth 100000 in
set_option maxHeartbeats 10000000 in
theorem compare_any (a b : Hd) (w : World) (oa : 0 ≤ a.q ∧ a.q < 4294967296) (ob : 0 ≤ b.q ∧ b.q < 4294967296) (ha : 0 ≤ a.a ∧ a.a ≤ 3600) (hb : 0 ≤ b.a ∧ b.a ≤ 3600) :
    Calls Try.prog 10 #[.agg #[.int .i64 a.a, .int .i64 a.o, .int .i64 a.t, .int .u32 a.i, .int .u32 a.v, .int .u32 a.q, .int .i64 a.s, .int .i64 a.n], .agg #[.int .i64 b.a, .int .i64 b.o, .int .i64 b.t, .int .u32 b.i, .int .u32 b.v, .int .u32 b.q, .int .i64 b.s, .int .i64 b.n]] w fun e w' => e = .returned (.int .i64 (cmpH a b)) ∧ Below w.heap.size w w' := by
  obtain ⟨W0, hW0⟩ : ∃ V, w.alloc (.cells #[.int .i64 a.a, .int .i64 a.o, .int .i64 a.t, .int .u32 a.i, .int .u32 a.v, .int .u32 a.q, .int .i64 a.s, .int .i64 a.n] 31) = V := ⟨_, rfl⟩
  have bW0 : Below w.heap.size w W0 := by rw [← hW0]; exact below_alloc1 _ _
  have sW0 : W0.heap.size = w.heap.size + 1 := by rw [← hW0]; simp
  have KX : Hid (∀ V, Below W0.heap.size W0 V → V.cell? ⟨w.heap.size, 0, none⟩ = some (.int .i64 a.a) ∧ V.cell? ⟨w.heap.size, 1, none⟩ = some (.int .i64 a.o) ∧ V.cell? ⟨w.heap.size, 2, none⟩ = some (.int .i64 a.t) ∧ V.cell? ⟨w.heap.size, 3, none⟩ = some (.int .u32 a.i) ∧ V.cell? ⟨w.heap.size, 4, none⟩ = some (.int .u32 a.v) ∧ V.cell? ⟨w.heap.size, 5, none⟩ = some (.int .u32 a.q) ∧ V.cell? ⟨w.heap.size, 6, none⟩ = some (.int .i64 a.s) ∧ V.cell? ⟨w.heap.size, 7, none⟩ = some (.int .i64 a.n)) := Lib.hid (fun V hV => kb8_new hW0 hV)
  obtain ⟨W1, hW1⟩ : ∃ V, W0.alloc (.cells #[.int .i64 b.a, .int .i64 b.o, .int .i64 b.t, .int .u32 b.i, .int .u32 b.v, .int .u32 b.q, .int .i64 b.s, .int .i64 b.n] 31) = V := ⟨_, rfl⟩
  have bW1 : Below W0.heap.size W0 W1 := by rw [← hW1]; exact below_alloc1 _ _
  have sW1 : W1.heap.size = W0.heap.size + 1 := by rw [← hW1]; simp
  have KY : Hid (∀ V, Below W1.heap.size W1 V → V.cell? ⟨W0.heap.size, 0, none⟩ = some (.int .i64 b.a) ∧ V.cell? ⟨W0.heap.size, 1, none⟩ = some (.int .i64 b.o) ∧ V.cell? ⟨W0.heap.size, 2, none⟩ = some (.int .i64 b.t) ∧ V.cell? ⟨W0.heap.size, 3, none⟩ = some (.int .u32 b.i) ∧ V.cell? ⟨W0.heap.size, 4, none⟩ = some (.int .u32 b.v) ∧ V.cell? ⟨W0.heap.size, 5, none⟩ = some (.int .u32 b.q) ∧ V.cell? ⟨W0.heap.size, 6, none⟩ = some (.int .i64 b.s) ∧ V.cell? ⟨W0.heap.size, 7, none⟩ = some (.int .i64 b.n)) := Lib.hid (fun V hV => kb8_new hW1 hV)
  have b2 : Below w.heap.size w W1 := bW0.trans (bW1.mono bW0.size)
  have B2 := Lib.hid b2
  have KZ : Hid (∀ V, Below W1.heap.size W1 V → (V.cell? ⟨w.heap.size, 0, none⟩ = some (.int .i64 a.a) ∧ V.cell? ⟨w.heap.size, 1, none⟩ = some (.int .i64 a.o) ∧ V.cell? ⟨w.heap.size, 2, none⟩ = some (.int .i64 a.t) ∧ V.cell? ⟨w.heap.size, 3, none⟩ = some (.int .u32 a.i) ∧ V.cell? ⟨w.heap.size, 4, none⟩ = some (.int .u32 a.v) ∧ V.cell? ⟨w.heap.size, 5, none⟩ = some (.int .u32 a.q) ∧ V.cell? ⟨w.heap.size, 6, none⟩ = some (.int .i64 a.s) ∧ V.cell? ⟨w.heap.size, 7, none⟩ = some (.int .i64 a.n)) ∧ (V.cell? ⟨(w.heap.size + 1), 0, none⟩ = some (.int .i64 b.a) ∧ V.cell? ⟨(w.heap.size + 1), 1, none⟩ = some (.int .i64 b.o) ∧ V.cell? ⟨(w.heap.size + 1), 2, none⟩ = some (.int .i64 b.t) ∧ V.cell? ⟨(w.heap.size + 1), 3, none⟩ = some (.int .u32 b.i) ∧ V.cell? ⟨(w.heap.size + 1), 4, none⟩ = some (.int .u32 b.v) ∧ V.cell? ⟨(w.heap.size + 1), 5, none⟩ = some (.int .u32 b.q) ∧ V.cell? ⟨(w.heap.size + 1), 6, none⟩ = some (.int .i64 b.s) ∧ V.cell? ⟨(w.heap.size + 1), 7, none⟩ = some (.int .i64 b.n))) := Lib.hid (fun V hV => by
    have q1 := KX.out V (bW1.trans (hV.mono bW1.size))
    have q2 := KY.out V hV
    rw [sW0] at q2
    exact ⟨q1, q2⟩)
  obtain ⟨oa0, oa1⟩ := oa
  obtain ⟨ob0, ob1⟩ := ob
  obtain ⟨ha0, ha1⟩ := ha
  obtain ⟨hb0, hb1⟩ := hb
  have HC : Hid (cmpH a b = fstn [cmpI (sg a.q) (sg b.q), cmpI a.s b.s, cmpI (endd a.a) (endd b.a), yng a.a b.a]) := Lib.hid rfl
  have tt : Below W1.heap.size W1 W1 := Below.refl _ _
  clear KX KY bW0 bW1 b2 sW1
  go_enter Try.func10, Try.ntmps10
  go_wp2_with fail
  refine wp_region_held_drew (S := fun V => (V.cell? ⟨w.heap.size, 0, none⟩ = some (.int .i64 a.a) ∧ V.cell? ⟨w.heap.size, 1, none⟩ = some (.int .i64 a.o) ∧ V.cell? ⟨w.heap.size, 2, none⟩ = some (.int .i64 a.t) ∧ V.cell? ⟨w.heap.size, 3, none⟩ = some (.int .u32 a.i) ∧ V.cell? ⟨w.heap.size, 4, none⟩ = some (.int .u32 a.v) ∧ V.cell? ⟨w.heap.size, 5, none⟩ = some (.int .u32 a.q) ∧ V.cell? ⟨w.heap.size, 6, none⟩ = some (.int .i64 a.s) ∧ V.cell? ⟨w.heap.size, 7, none⟩ = some (.int .i64 a.n)) ∧ (V.cell? ⟨(w.heap.size + 1), 0, none⟩ = some (.int .i64 b.a) ∧ V.cell? ⟨(w.heap.size + 1), 1, none⟩ = some (.int .i64 b.o) ∧ V.cell? ⟨(w.heap.size + 1), 2, none⟩ = some (.int .i64 b.t) ∧ V.cell? ⟨(w.heap.size + 1), 3, none⟩ = some (.int .u32 b.i) ∧ V.cell? ⟨(w.heap.size + 1), 4, none⟩ = some (.int .u32 b.v) ∧ V.cell? ⟨(w.heap.size + 1), 5, none⟩ = some (.int .u32 b.q) ∧ V.cell? ⟨(w.heap.size + 1), 6, none⟩ = some (.int .i64 b.s) ∧ V.cell? ⟨(w.heap.size + 1), 7, none⟩ = some (.int .i64 b.n))) (by kernel_rfl) (KZ.out _ tt.drew) (fun hHeld => ?_)
  replace tt : Below W1.heap.size W1 W1.drew := tt.drew
  generalize hX0 : W1.drew = X0 at tt hHeld ⊢
  clear hX0
  refine wpAnyH_take (i := 0) (v := ?_) rfl (by kernel_rfl) (by kernel_rfl) (by kernel_rfl) (fun _ _ _ h => h) (Or.inl ⟨by rfl, ?_⟩) (by assumption) ?_
  rotate_left
  · (intro w' hSw; (try dsimp only at hSw); go_simp; try with_reducible rfl)
  simp only [Act.put, List.getElem_toArray, List.getElem_cons_zero, List.setIfInBounds_toArray, List.set_cons_zero, List.set_cons_succ]
  refine wpAnyH_take (i := 1) (v := ?_) rfl (by kernel_rfl) (by kernel_rfl) (by kernel_rfl) (fun _ _ _ h => h) (Or.inl ⟨by rfl, ?_⟩) (by assumption) ?_
  rotate_left
  · (intro w' hSw; (try dsimp only at hSw); go_simp; try with_reducible rfl)
  simp only [Act.put, List.getElem_toArray, List.getElem_cons_zero, List.getElem_cons_succ, List.setIfInBounds_toArray, List.set_cons_zero, List.set_cons_succ]
  refine wpAnyH_take (i := 2) (v := .int .i32 (sg a.q)) rfl (by kernel_rfl) (by kernel_rfl) (by kernel_rfl) (fun _ _ _ h => h) (Or.inl ⟨by rfl, ?_⟩) (by assumption) ?_
  · (intro w' hSw; (try dsimp only at hSw); go_simp; rw [wrap_i32 _ (by omega) (by omega)])
  simp only [Act.put, List.getElem_toArray, List.getElem_cons_zero, List.getElem_cons_succ, List.setIfInBounds_toArray, List.set_cons_zero, List.set_cons_succ]
  refine wpAnyH_take (i := 3) (v := ?_) rfl (by kernel_rfl) (by kernel_rfl) (by kernel_rfl) (fun _ _ _ h => h) (Or.inl ⟨by rfl, ?_⟩) (by assumption) ?_
  rotate_left
  · (intro w' hSw; (try dsimp only at hSw); go_simp; try with_reducible rfl)
  simp only [Act.put, List.getElem_toArray, List.getElem_cons_zero, List.getElem_cons_succ, List.setIfInBounds_toArray, List.set_cons_zero, List.set_cons_succ]
  refine wpAnyH_take (i := 4) (v := ?_) rfl (by kernel_rfl) (by kernel_rfl) (by kernel_rfl) (fun _ _ _ h => h) (Or.inl ⟨by rfl, ?_⟩) (by assumption) ?_
  rotate_left
  · (intro w' hSw; (try dsimp only at hSw); go_simp; try with_reducible rfl)
  simp only [Act.put, List.getElem_toArray, List.getElem_cons_zero, List.getElem_cons_succ, List.setIfInBounds_toArray, List.set_cons_zero, List.set_cons_succ]
  refine wpAnyH_take (i := 5) (v := .int .i32 (sg b.q)) rfl (by kernel_rfl) (by kernel_rfl) (by kernel_rfl) (fun _ _ _ h => h) (Or.inl ⟨by rfl, ?_⟩) (by assumption) ?_
  · (intro w' hSw; (try dsimp only at hSw); go_simp; rw [wrap_i32 _ (by omega) (by omega)])
  simp only [Act.put, List.getElem_toArray, List.getElem_cons_zero, List.getElem_cons_succ, List.setIfInBounds_toArray, List.set_cons_zero, List.set_cons_succ]
  refine wpAnyH_take (i := 7) (v := ?_) rfl (by kernel_rfl) (by kernel_rfl) (by kernel_rfl) (fun _ _ _ h => h) (Or.inl ⟨by rfl, ?_⟩) (by assumption) ?_
  rotate_left
  · (intro w' hSw; (try dsimp only at hSw); go_simp; try with_reducible rfl)
  simp only [Act.put, List.getElem_toArray, List.getElem_cons_zero, List.getElem_cons_succ, List.setIfInBounds_toArray, List.set_cons_zero, List.set_cons_succ]
  refine wpAnyH_take (i := 8) (v := ?_) rfl (by kernel_rfl) (by kernel_rfl) (by kernel_rfl) (fun _ _ _ h => h) (Or.inl ⟨by rfl, ?_⟩) (by assumption) ?_
  rotate_left
  · (intro w' hSw; (try dsimp only at hSw); go_simp; try with_reducible rfl)
  simp only [Act.put, List.getElem_toArray, List.getElem_cons_zero, List.getElem_cons_succ, List.setIfInBounds_toArray, List.set_cons_zero, List.set_cons_succ]
  refine wpAnyH_take (i := 9) (v := ?_) rfl (by kernel_rfl) (by kernel_rfl) (by kernel_rfl) (fun _ _ _ h => h) (Or.inl ⟨by rfl, ?_⟩) (by assumption) ?_
  rotate_left
  · (intro w' hSw; (try dsimp only at hSw); go_simp; try with_reducible rfl)
  simp only [Act.put, List.getElem_toArray, List.getElem_cons_zero, List.getElem_cons_succ, List.setIfInBounds_toArray, List.set_cons_zero, List.set_cons_succ]
  refine wpAnyH_take (i := 10) (v := ?_) rfl (by kernel_rfl) (by kernel_rfl) (by kernel_rfl) (fun _ _ _ h => h) (Or.inl ⟨by rfl, ?_⟩) (by assumption) ?_
  rotate_left
  · (intro w' hSw; (try dsimp only at hSw); go_simp; try with_reducible rfl)
  simp only [Act.put, List.getElem_toArray, List.getElem_cons_zero, List.getElem_cons_succ, List.setIfInBounds_toArray, List.set_cons_zero, List.set_cons_succ]
  refine wpAnyH_take (i := 12) (v := ?_) rfl (by kernel_rfl) (by kernel_rfl) (by kernel_rfl) (fun _ _ _ h => h) (Or.inl ⟨by rfl, ?_⟩) (by assumption) ?_
  rotate_left
  · (intro w' hSw; (try dsimp only at hSw); go_simp; try with_reducible rfl)
  simp only [Act.put, List.getElem_toArray, List.getElem_cons_zero, List.getElem_cons_succ, List.setIfInBounds_toArray, List.set_cons_zero, List.set_cons_succ]
  refine wpAnyH_take (i := 14) (v := ?_) rfl (by kernel_rfl) (by kernel_rfl) (by kernel_rfl) (fun _ _ _ h => h) (Or.inl ⟨by rfl, ?_⟩) (by assumption) ?_
  rotate_left
  · (intro w' hSw; (try dsimp only at hSw); go_simp; try with_reducible rfl)
  simp only [Act.put, List.getElem_toArray, List.getElem_cons_zero, List.getElem_cons_succ, List.setIfInBounds_toArray, List.set_cons_zero, List.set_cons_succ]
  refine wpAnyH_take (i := 17) (v := ?_) rfl (by kernel_rfl) (by kernel_rfl) (by kernel_rfl) (fun _ _ _ h => h) (Or.inl ⟨by rfl, ?_⟩) (by assumption) ?_
  rotate_left
  · (intro w' hSw; (try dsimp only at hSw); go_simp; try with_reducible rfl)
  simp only [Act.put, List.getElem_toArray, List.getElem_cons_zero, List.getElem_cons_succ, List.setIfInBounds_toArray, List.set_cons_zero, List.set_cons_succ]
  refine wpAnyH_take (i := 18) (v := ?_) rfl (by kernel_rfl) (by kernel_rfl) (by kernel_rfl) (fun _ _ _ h => h) (Or.inl ⟨by rfl, ?_⟩) (by assumption) ?_
  rotate_left
  · (intro w' hSw; (try dsimp only at hSw); go_simp; try with_reducible rfl)
  simp only [Act.put, List.getElem_toArray, List.getElem_cons_zero, List.getElem_cons_succ, List.setIfInBounds_toArray, List.set_cons_zero, List.set_cons_succ]
  refine wpAnyH_take (i := 19) (v := ?_) rfl (by kernel_rfl) (by kernel_rfl) (by kernel_rfl) (fun _ _ _ h => h) (Or.inl ⟨by rfl, ?_⟩) (by assumption) ?_
  rotate_left
  · (intro w' hSw; (try dsimp only at hSw); go_simp; try with_reducible rfl)
  simp only [Act.put, List.getElem_toArray, List.getElem_cons_zero, List.getElem_cons_succ, List.setIfInBounds_toArray, List.set_cons_zero, List.set_cons_succ]
  refine wpAnyH_take (i := 20) (v := ?_) rfl (by kernel_rfl) (by kernel_rfl) (by kernel_rfl) (fun _ _ _ h => h) (Or.inl ⟨by rfl, ?_⟩) (by assumption) ?_
  rotate_left
  · (intro w' hSw; (try dsimp only at hSw); go_simp; try with_reducible rfl)
  simp only [Act.put, List.getElem_toArray, List.getElem_cons_zero, List.getElem_cons_succ, List.setIfInBounds_toArray, List.set_cons_zero, List.set_cons_succ]
  refine wpAnyH_ready (rs := [6]) (by kernel_rfl) (by simp) ?_
  refine AllReadyH.cons rfl (fun K hK => ?_) AllReadyH.nil
  go_simp
  go_at_call 29
  refine (cmp_i32 _ _ _).mono ?_
  rintro e _ ⟨rfl, rfl⟩
  refine hK.out _ _ (KZ.out _ tt) (fun _ => ?_)
  clear hK K
  refine wpAnyH_ready (rs := [11]) (by kernel_rfl) (by simp) ?_
  refine AllReadyH.cons rfl (fun K hK => ?_) AllReadyH.nil
  go_simp
  go_at_call 30
  refine (cmp_i64 _ _ _).mono ?_
  rintro e _ ⟨rfl, rfl⟩
  refine hK.out _ _ (KZ.out _ tt) (fun _ => ?_)
  clear hK K
  refine wpAnyH_ready (rs := [13]) (by kernel_rfl) (by simp) ?_
  refine AllReadyH.cons rfl (fun K hK => ?_) AllReadyH.nil
  go_simp
  go_at_call 31
  refine (endd_any a X0).mono ?_
  rintro e Y1 ⟨rfl, u1⟩
  have t_Y1 : Below W1.heap.size W1 Y1 := tt.trans (u1.mono tt.size)
  refine hK.out _ _ (KZ.out _ t_Y1) (fun _ => ?_)
  clear hK K
  refine wpAnyH_ready (rs := [15]) (by kernel_rfl) (by simp) ?_
  refine AllReadyH.cons rfl (fun K hK => ?_) AllReadyH.nil
  go_simp
  go_at_call 31
  refine (endd_any b Y1).mono ?_
  rintro e Y2 ⟨rfl, u2⟩
  have t_Y2 : Below W1.heap.size W1 Y2 := t_Y1.trans (u2.mono t_Y1.size)
  refine hK.out _ _ (KZ.out _ t_Y2) (fun _ => ?_)
  clear hK K
  refine wpAnyH_ready (rs := [16]) (by kernel_rfl) (by simp) ?_
  refine AllReadyH.cons rfl (fun K hK => ?_) AllReadyH.nil
  go_simp
  go_at_call 30
  refine (cmp_i64 _ _ _).mono ?_
  rintro e _ ⟨rfl, rfl⟩
  refine hK.out _ _ (KZ.out _ t_Y2) (fun _ => ?_)
  clear hK K
  refine wpAnyH_ready (rs := [21]) (by kernel_rfl) (by simp) ?_
  refine AllReadyH.cons rfl (fun K hK => ?_) AllReadyH.nil
  go_simp
  go_at_call 32
  refine (yng_any _ _ _ ha0 ha1 hb0 hb1).mono ?_
  rintro e _ ⟨rfl, rfl⟩
  refine hK.out _ _ (KZ.out _ t_Y2) (fun _ => ?_)
  clear hK K
  refine wpAnyH_ready (rs := [22]) (by kernel_rfl) (by simp) ?_
  refine AllReadyH.cons rfl (fun K hK => ?_) AllReadyH.nil
  go_simp
  obtain ⟨Y3, hY3⟩ : ∃ V, Y2.alloc (.cells #[.int .i64 (cmpI (sg a.q) (sg b.q)), .int .i64 (cmpI a.s b.s), .int .i64 (cmpI (endd a.a) (endd b.a)), .int .i64 (yng a.a b.a)] 3) = V := ⟨_, rfl⟩
  have u3 : Below Y2.heap.size Y2 Y3 := by rw [← hY3]; exact below_alloc1 _ _
  have t_Y3 : Below W1.heap.size W1 Y3 := t_Y2.trans (u3.mono t_Y2.size)
  obtain ⟨k3, hk3⟩ : ∃ k, Y2.heap.size = k := ⟨_, rfl⟩
  have zr : Bs .i64 Y3 Y3.heap.size (some ⟨k3, 0, none⟩) [cmpI (sg a.q) (sg b.q), cmpI a.s b.s, cmpI (endd a.a) (endd b.a), yng a.a b.a] := by
    rw [← hY3]
    exact Bs.mk _ _ _ _ _ _ hk3 (by simp [maxLen]) rfl
  try rw [hY3]
  try rw [hk3]
  refine hK.out _ _ (KZ.out _ t_Y3) (fun _ => ?_)
  clear hK K
  refine wpAnyH_ready (rs := [23]) (by kernel_rfl) (by simp) ?_
  refine AllReadyH.cons rfl (fun K hK => ?_) AllReadyH.nil
  go_simp
  go_at_call 28
  refine (first_any (some ⟨k3, 0, none⟩) 4 4 _ Y3 rfl zr (by decide)).mono ?_
  rintro e _ ⟨rfl, rfl⟩
  refine hK.out _ _ (KZ.out _ t_Y3) (fun _ => ?_)
  clear hK K
  refine wpAnyH_ready (rs := [24]) (by kernel_rfl) (by simp) ?_
  refine AllReadyH.cons rfl (fun K hK => ?_) AllReadyH.nil
  go_simp
  refine hK.out _ _ (KZ.out _ t_Y3) (fun _ => ?_)
  clear hK K
  refine wpAnyH_done (by kernel_rfl) ?_ _
  go_wp2
  go_ret
  exact ⟨ret_int (by rw [HC.out]), B2.out.trans (t_Y3.mono B2.out.size)⟩
end Go.Proofs.Ytadcicmccdphkaa
