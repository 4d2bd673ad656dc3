/-
  Contracts of Make, of the program and of the reference. No statement is proved here; no conditions.
-/
import Derived.Test.YtdjblkmhlghglaaDe
namespace Go.Proofs.Ytdjblkmhlghglaa
open Go.RowKit Go.Joins

set_option maxRecDepth 100000 in
set_option maxHeartbeats 2000000 in
theorem make_any (f : If) (p dr bdr : Int) (A : Option Addr) (n c : Nat) (l : List Int) (w : World) (hn : l.length = n) (hb : Wt w A l) (hl : n ≤ 100000) :
    Calls Try.prog 21 #[.agg #[.int .u32 f.m, .int .i64 f.i, .int .i64 f.o, .int .u32 f.d, .int .u32 f.r, .bool f.pp], .int .i64 p, .int .u32 dr, .int .u32 bdr, .slice A n c] w fun e w' => ∃ A' c', e = .returned (.agg #[.int .u32 f.m, .int .i64 f.i, .int .i64 f.o, .int .i64 p, .int .u32 f.d, .int .u32 dr, .int .u32 bdr, .slice A' n c']) ∧ Own .u32 22 w' w.heap.size A' c' l ∧ Below w.heap.size w w' := by
  obtain ⟨W0, hW0⟩ : ∃ V, w.alloc (.cells #[.int .u32 f.m, .int .i64 f.i, .int .i64 f.o, .int .u32 f.d, .int .u32 f.r, .bool f.pp] 43) = V := ⟨_, rfl⟩
  have bW0 : Below w.heap.size w W0 := by rw [← hW0]; exact below_alloc1 _ _
  have sW0 : W0.heap.size = w.heap.size + 1 := by rw [← hW0]; simp
  have KX : Hid (∀ V, Below W0.heap.size W0 V → V.cell? ⟨w.heap.size, 0, none⟩ = some (.int .u32 f.m) ∧ V.cell? ⟨w.heap.size, 1, none⟩ = some (.int .i64 f.i) ∧ V.cell? ⟨w.heap.size, 2, none⟩ = some (.int .i64 f.o) ∧ V.cell? ⟨w.heap.size, 3, none⟩ = some (.int .u32 f.d) ∧ V.cell? ⟨w.heap.size, 4, none⟩ = some (.int .u32 f.r) ∧ V.cell? ⟨w.heap.size, 5, none⟩ = some (.bool f.pp)) := Lib.hid (fun V hV => kb6_new hW0 hV)
  obtain ⟨W1, hW1⟩ : ∃ V, W0.alloc (.cells #[Value.int .u32 0, .int .i64 0, .int .i64 0, .int .i64 0, .int .u32 0, .int .u32 0, .int .u32 0, .slice none 0 0] 25) = V := ⟨_, rfl⟩
  have bW1 : Below W0.heap.size W0 W1 := by rw [← hW1]; exact below_alloc1 _ _
  have sW1 : W1.heap.size = w.heap.size + 2 := by rw [← hW1]; simp [sW0]
  have KZ : Hid (∀ V, Below W1.heap.size W1 V → V.heap[w.heap.size + 1]? = some (.cells #[Value.int .u32 0, .int .i64 0, .int .i64 0, .int .i64 0, .int .u32 0, .int .u32 0, .int .u32 0, .slice none 0 0] 25)) :=
    Lib.hid (fun V hV => by rw [hV.block _ (by omega), ← hW1]; exact alloc_at _ _ _ sW0.symm)
  have HB : Hid (Below w.heap.size w W1) := Lib.hid (bW0.trans (bW1.mono bW0.size))
  have KS : Hid (∀ V, Below W1.heap.size W1 V → V.cell? ⟨w.heap.size, 0, none⟩ = some (.int .u32 f.m) ∧ V.cell? ⟨w.heap.size, 1, none⟩ = some (.int .i64 f.i) ∧ V.cell? ⟨w.heap.size, 2, none⟩ = some (.int .i64 f.o) ∧ V.cell? ⟨w.heap.size, 3, none⟩ = some (.int .u32 f.d) ∧ V.cell? ⟨w.heap.size, 4, none⟩ = some (.int .u32 f.r) ∧ V.cell? ⟨w.heap.size, 5, none⟩ = some (.bool f.pp)) := Lib.hid (fun V hV => KX.out V (bW1.trans (hV.mono bW1.size)))
  have tt : Below W1.heap.size W1 W1 := Below.refl _ _
  have q0 := hb.step HB.out
  have HN := Lib.hid hn
  obtain ⟨i0, hi0, hz0, hz1, hz2⟩ := info_of info23
  clear hb bW0 bW1 KX hn
  go_enter Try.func21, Try.ntmps21
  go_wp2_with fail
  refine wp_region_held_drew (S := fun V => V.cell? ⟨w.heap.size, 0, none⟩ = some (.int .u32 f.m) ∧ V.cell? ⟨w.heap.size, 1, none⟩ = some (.int .i64 f.i) ∧ V.cell? ⟨w.heap.size, 2, none⟩ = some (.int .i64 f.o) ∧ V.cell? ⟨w.heap.size, 3, none⟩ = some (.int .u32 f.d) ∧ V.cell? ⟨w.heap.size, 4, none⟩ = some (.int .u32 f.r) ∧ V.cell? ⟨w.heap.size, 5, none⟩ = some (.bool f.pp)) (by kernel_rfl) (KS.out _ tt.drew) (fun hHeld => ?_)
  replace q0 := q0.step tt.drew
  replace tt : Below W1.heap.size W1 W1.drew := tt.drew
  generalize hX0 : W1.drew = Y0 at tt q0 hHeld ⊢
  clear hX0
  refine wpAnyH_take (i := 0) (v := ?_) rfl (by kernel_rfl) (by kernel_rfl) (by kernel_rfl) (fun _ _ _ h => h) (Or.inl ⟨by rfl, ?_⟩) (by assumption) ?_
  rotate_left
  · (intro w' hSw; (try dsimp only at hSw); go_simp; try with_reducible rfl)
  simp only [Act.put, List.getElem_toArray, List.getElem_cons_zero, List.setIfInBounds_toArray, List.set_cons_zero, List.set_cons_succ]
  refine wpAnyH_take (i := 1) (v := ?_) rfl (by kernel_rfl) (by kernel_rfl) (by kernel_rfl) (fun _ _ _ h => h) (Or.inl ⟨by rfl, ?_⟩) (by assumption) ?_
  rotate_left
  · (intro w' hSw; (try dsimp only at hSw); go_simp; try with_reducible rfl)
  simp only [Act.put, List.getElem_toArray, List.getElem_cons_zero, List.getElem_cons_succ, List.setIfInBounds_toArray, List.set_cons_zero, List.set_cons_succ]
  refine wpAnyH_take (i := 2) (v := ?_) rfl (by kernel_rfl) (by kernel_rfl) (by kernel_rfl) (fun _ _ _ h => h) (Or.inl ⟨by rfl, ?_⟩) (by assumption) ?_
  rotate_left
  · (intro w' hSw; (try dsimp only at hSw); go_simp; try with_reducible rfl)
  simp only [Act.put, List.getElem_toArray, List.getElem_cons_zero, List.getElem_cons_succ, List.setIfInBounds_toArray, List.set_cons_zero, List.set_cons_succ]
  refine wpAnyH_take (i := 3) (v := ?_) rfl (by kernel_rfl) (by kernel_rfl) (by kernel_rfl) (fun _ _ _ h => h) (Or.inl ⟨by rfl, ?_⟩) (by assumption) ?_
  rotate_left
  · (intro w' hSw; (try dsimp only at hSw); go_simp; try with_reducible rfl)
  simp only [Act.put, List.getElem_toArray, List.getElem_cons_zero, List.getElem_cons_succ, List.setIfInBounds_toArray, List.set_cons_zero, List.set_cons_succ]
  refine wpAnyH_take (i := 4) (v := ?_) rfl (by kernel_rfl) (by kernel_rfl) (by kernel_rfl) (fun _ _ _ h => h) (Or.inl ⟨by rfl, ?_⟩) (by assumption) ?_
  rotate_left
  · (intro w' hSw; (try dsimp only at hSw); go_simp; try with_reducible rfl)
  simp only [Act.put, List.getElem_toArray, List.getElem_cons_zero, List.getElem_cons_succ, List.setIfInBounds_toArray, List.set_cons_zero, List.set_cons_succ]
  refine wpAnyH_take (i := 5) (v := ?_) rfl (by kernel_rfl) (by kernel_rfl) (by kernel_rfl) (fun _ _ _ h => h) (Or.inl ⟨by rfl, ?_⟩) (by assumption) ?_
  rotate_left
  · (intro w' hSw; (try dsimp only at hSw); go_simp; try with_reducible rfl)
  simp only [Act.put, List.getElem_toArray, List.getElem_cons_zero, List.getElem_cons_succ, List.setIfInBounds_toArray, List.set_cons_zero, List.set_cons_succ]
  refine wpAnyH_take (i := 6) (v := ?_) rfl (by kernel_rfl) (by kernel_rfl) (by kernel_rfl) (fun _ _ _ h => h) (Or.inl ⟨by rfl, ?_⟩) (by assumption) ?_
  rotate_left
  · (intro w' hSw; (try dsimp only at hSw); go_simp; try with_reducible rfl)
  simp only [Act.put, List.getElem_toArray, List.getElem_cons_zero, List.getElem_cons_succ, List.setIfInBounds_toArray, List.set_cons_zero, List.set_cons_succ]
  refine wpAnyH_take (i := 7) (v := ?_) rfl (by kernel_rfl) (by kernel_rfl) (by kernel_rfl) (fun _ _ _ h => h) (Or.inl ⟨by rfl, ?_⟩) (by assumption) ?_
  rotate_left
  · (intro w' hSw; (try dsimp only at hSw); go_simp; try with_reducible rfl)
  simp only [Act.put, List.getElem_toArray, List.getElem_cons_zero, List.getElem_cons_succ, List.setIfInBounds_toArray, List.set_cons_zero, List.set_cons_succ]
  refine wpAnyH_take (i := 8) (v := ?_) rfl (by kernel_rfl) (by kernel_rfl) (by kernel_rfl) (fun _ _ _ h => h) (Or.inl ⟨by rfl, ?_⟩) (by assumption) ?_
  rotate_left
  · (intro w' hSw; (try dsimp only at hSw); go_simp; try with_reducible rfl)
  simp only [Act.put, List.getElem_toArray, List.getElem_cons_zero, List.getElem_cons_succ, List.setIfInBounds_toArray, List.set_cons_zero, List.set_cons_succ]
  refine wpAnyH_take (i := 9) (v := ?_) rfl (by kernel_rfl) (by kernel_rfl) (by kernel_rfl) (fun _ _ _ h => h) (Or.inl ⟨by rfl, ?_⟩) (by assumption) ?_
  rotate_left
  · (intro w' hSw; (try dsimp only at hSw); go_simp; try with_reducible rfl)
  simp only [Act.put, List.getElem_toArray, List.getElem_cons_zero, List.getElem_cons_succ, List.setIfInBounds_toArray, List.set_cons_zero, List.set_cons_succ]
  refine wpAnyH_take (i := 10) (v := ?_) rfl (by kernel_rfl) (by kernel_rfl) (by kernel_rfl) (fun _ _ _ h => h) (Or.inl ⟨by rfl, ?_⟩) (by assumption) ?_
  rotate_left
  · (intro w' hSw; (try dsimp only at hSw); go_simp; try with_reducible rfl)
  simp only [Act.put, List.getElem_toArray, List.getElem_cons_zero, List.getElem_cons_succ, List.setIfInBounds_toArray, List.set_cons_zero, List.set_cons_succ]
  refine wpAnyH_take (i := 11) (v := ?_) rfl (by kernel_rfl) (by kernel_rfl) (by kernel_rfl) (fun _ _ _ h => h) (Or.inl ⟨by rfl, ?_⟩) (by assumption) ?_
  rotate_left
  · (intro w' hSw; (try dsimp only at hSw); go_simp; try with_reducible rfl)
  simp only [Act.put, List.getElem_toArray, List.getElem_cons_zero, List.getElem_cons_succ, List.setIfInBounds_toArray, List.set_cons_zero, List.set_cons_succ]
  refine wpAnyH_ready (rs := [12]) (by kernel_rfl) (by simp) ?_
  refine AllReadyH.cons rfl (fun K hK => ?_) AllReadyH.nil
  obtain ⟨A1, c1, Y1, rY1, oY1, tY1⟩ := run_app (P := Try.prog) Y0 Y0.heap.size 23 23 22 .u32 i0 _ 4 Try.underlying23 hi0 hz0 hz1 hz2 rfl _ _ _ (Own.nil Y0 _) _ A c _ q0 (by simp only [maxLen, HN.out, List.length_nil] <;> omega) (by simp only [HN.out, List.length_nil] <;> omega) (Nat.le_refl _)
  simp only [List.nil_append, List.length_nil, HN.out] at rY1
  rw [List.nil_append] at oY1
  have t_Y1 : Below W1.heap.size W1 Y1 := tt.trans (tY1.mono tt.size)
  have kb : W1.heap.size ≤ Y0.heap.size := tt.size
  refine step_runb _ rfl (.const (.slice none 0 0)) (.tmp 22) 23 rfl rfl rfl rY1 ?_
  refine hK.out _ _ (KS.out _ t_Y1) (fun _ => ?_)
  clear hK K
  refine wpAnyH_take (i := 13) (v := .agg #[.int .u32 f.m, .int .i64 f.i, .int .i64 f.o, .int .i64 p, .int .u32 f.d, .int .u32 dr, .int .u32 bdr, .slice A1 n c1]) rfl (by kernel_rfl) (by kernel_rfl) (by kernel_rfl) (fun _ _ _ h => h) (Or.inl ⟨by rfl, ?_⟩) (by assumption) ?_
  · (intro w' hSw; (try dsimp only at hSw); go_simp; try rfl)
  simp only [Act.put, List.getElem_toArray, List.getElem_cons_zero, List.getElem_cons_succ, List.setIfInBounds_toArray, List.set_cons_zero, List.set_cons_succ]
  refine wpAnyH_ready (rs := [14]) (by kernel_rfl) (by simp) ?_
  refine AllReadyH.cons rfl (fun K hK => ?_) AllReadyH.nil
  obtain ⟨a0, a1, a2, a3, a4, a5, a6, a7, f0, f1, f2, f3, f4, f5, f6, f7, hzl⟩ := kz8_at (KZ.out _ t_Y1)
  have KR := Lib.hid <| kz8_get (KZ.out _ t_Y1) (Value.int .u32 f.m) (.int .i64 f.i) (.int .i64 f.o) (.int .i64 p) (.int .u32 f.d) (.int .u32 dr) (.int .u32 bdr) (.slice A1 n c1)
  have TF : Hid (Below w.heap.size w (st8 Y1 (w.heap.size + 1) (.int .u32 f.m) (.int .i64 f.i) (.int .i64 f.o) (.int .i64 p) (.int .u32 f.d) (.int .u32 dr) (.int .u32 bdr) (.slice A1 n c1)) ) := Lib.hid <| below_st8 (HB.out.trans (t_Y1.mono HB.out.size)) (by omega) _ _ _ _ _ _ _ _
  have OF := Lib.hid <| (oY1.far8 (b := w.heap.size + 1) (by omega) (.int .u32 f.m) (.int .i64 f.i) (.int .i64 f.o) (.int .i64 p) (.int .u32 f.d) (.int .u32 dr) (.int .u32 bdr) (.slice A1 n c1)).lower (base' := w.heap.size) (by omega)
  have KF : Hid ((st8 Y1 (w.heap.size + 1) (.int .u32 f.m) (.int .i64 f.i) (.int .i64 f.o) (.int .i64 p) (.int .u32 f.d) (.int .u32 dr) (.int .u32 bdr) (.slice A1 n c1)).cell? ⟨w.heap.size, 0, none⟩ = some (.int .u32 f.m) ∧ (st8 Y1 (w.heap.size + 1) (.int .u32 f.m) (.int .i64 f.i) (.int .i64 f.o) (.int .i64 p) (.int .u32 f.d) (.int .u32 dr) (.int .u32 bdr) (.slice A1 n c1)).cell? ⟨w.heap.size, 1, none⟩ = some (.int .i64 f.i) ∧ (st8 Y1 (w.heap.size + 1) (.int .u32 f.m) (.int .i64 f.i) (.int .i64 f.o) (.int .i64 p) (.int .u32 f.d) (.int .u32 dr) (.int .u32 bdr) (.slice A1 n c1)).cell? ⟨w.heap.size, 2, none⟩ = some (.int .i64 f.o) ∧ (st8 Y1 (w.heap.size + 1) (.int .u32 f.m) (.int .i64 f.i) (.int .i64 f.o) (.int .i64 p) (.int .u32 f.d) (.int .u32 dr) (.int .u32 bdr) (.slice A1 n c1)).cell? ⟨w.heap.size, 3, none⟩ = some (.int .u32 f.d) ∧ (st8 Y1 (w.heap.size + 1) (.int .u32 f.m) (.int .i64 f.i) (.int .i64 f.o) (.int .i64 p) (.int .u32 f.d) (.int .u32 dr) (.int .u32 bdr) (.slice A1 n c1)).cell? ⟨w.heap.size, 4, none⟩ = some (.int .u32 f.r) ∧ (st8 Y1 (w.heap.size + 1) (.int .u32 f.m) (.int .i64 f.i) (.int .i64 f.o) (.int .i64 p) (.int .u32 f.d) (.int .u32 dr) (.int .u32 bdr) (.slice A1 n c1)).cell? ⟨w.heap.size, 5, none⟩ = some (.bool f.pp)) := Lib.hid <| by
    obtain ⟨e0, e1, e2, e3, e4, e5⟩ := KS.out _ t_Y1
    exact ⟨(cell_st8 (p := ⟨w.heap.size, 0, none⟩) (show w.heap.size ≠ w.heap.size + 1 by omega) _ _ _ _ _ _ _ _).trans e0, (cell_st8 (p := ⟨w.heap.size, 1, none⟩) (show w.heap.size ≠ w.heap.size + 1 by omega) _ _ _ _ _ _ _ _).trans e1, (cell_st8 (p := ⟨w.heap.size, 2, none⟩) (show w.heap.size ≠ w.heap.size + 1 by omega) _ _ _ _ _ _ _ _).trans e2, (cell_st8 (p := ⟨w.heap.size, 3, none⟩) (show w.heap.size ≠ w.heap.size + 1 by omega) _ _ _ _ _ _ _ _).trans e3, (cell_st8 (p := ⟨w.heap.size, 4, none⟩) (show w.heap.size ≠ w.heap.size + 1 by omega) _ _ _ _ _ _ _ _).trans e4, (cell_st8 (p := ⟨w.heap.size, 5, none⟩) (show w.heap.size ≠ w.heap.size + 1 by omega) _ _ _ _ _ _ _ _).trans e5⟩
  go_simp
  refine hK.out _ _ KF.out (fun _ => ?_)
  clear hK K
  refine wpAnyH_done (by kernel_rfl) ?_ _
  go_wp2
  obtain ⟨r0, r1, r2, r3, r4, r5, r6, r7⟩ := KR.out
  refine bodyPost_ret (v := .agg #[.int .u32 f.m, .int .i64 f.i, .int .i64 f.o, .int .i64 p, .int .u32 f.d, .int .u32 dr, .int .u32 bdr, .slice A1 n c1]) (by simp [results, Try.results21, go_sem, r0, r1, r2, r3, r4, r5, r6, r7]) rfl ⟨_, _, rfl, OF.out, TF.out⟩
set_option maxRecDepth 100000 in
set_option maxHeartbeats 2000000 in
theorem rmake_any (f : If) (p dr bdr : Int) (A : Option Addr) (n c : Nat) (l : List Int) (w : World) (hn : l.length = n) (hb : Wt w A l) (hl : n ≤ 100000) :
    Calls Try.prog 22 #[.agg #[.int .u32 f.m, .int .i64 f.i, .int .i64 f.o, .int .u32 f.d, .int .u32 f.r, .bool f.pp], .int .i64 p, .int .u32 dr, .int .u32 bdr, .slice A n c] w fun e w' => ∃ A' c', e = .returned (.agg #[.int .u32 f.m, .int .i64 f.i, .int .i64 f.o, .int .i64 p, .int .u32 f.d, .int .u32 dr, .int .u32 bdr, .slice A' n c']) ∧ Own .u32 22 w' w.heap.size A' c' l ∧ Below w.heap.size w w' := by
  obtain ⟨W0, hW0⟩ : ∃ V, w.alloc (.cells #[.int .u32 f.m, .int .i64 f.i, .int .i64 f.o, .int .u32 f.d, .int .u32 f.r, .bool f.pp] 46) = V := ⟨_, rfl⟩
  have bW0 : Below w.heap.size w W0 := by rw [← hW0]; exact below_alloc1 _ _
  have sW0 : W0.heap.size = w.heap.size + 1 := by rw [← hW0]; simp
  have KX : Hid (∀ V, Below W0.heap.size W0 V → V.cell? ⟨w.heap.size, 0, none⟩ = some (.int .u32 f.m) ∧ V.cell? ⟨w.heap.size, 1, none⟩ = some (.int .i64 f.i) ∧ V.cell? ⟨w.heap.size, 2, none⟩ = some (.int .i64 f.o) ∧ V.cell? ⟨w.heap.size, 3, none⟩ = some (.int .u32 f.d) ∧ V.cell? ⟨w.heap.size, 4, none⟩ = some (.int .u32 f.r) ∧ V.cell? ⟨w.heap.size, 5, none⟩ = some (.bool f.pp)) := Lib.hid (fun V hV => kb6_new hW0 hV)
  obtain ⟨W1, hW1⟩ : ∃ V, W0.alloc (.cells #[Value.int .u32 0, .int .i64 0, .int .i64 0, .int .i64 0, .int .u32 0, .int .u32 0, .int .u32 0, .slice none 0 0] 32) = V := ⟨_, rfl⟩
  have bW1 : Below W0.heap.size W0 W1 := by rw [← hW1]; exact below_alloc1 _ _
  have sW1 : W1.heap.size = w.heap.size + 2 := by rw [← hW1]; simp [sW0]
  have KZ : Hid (∀ V, Below W1.heap.size W1 V → V.heap[w.heap.size + 1]? = some (.cells #[Value.int .u32 0, .int .i64 0, .int .i64 0, .int .i64 0, .int .u32 0, .int .u32 0, .int .u32 0, .slice none 0 0] 32)) :=
    Lib.hid (fun V hV => by rw [hV.block _ (by omega), ← hW1]; exact alloc_at _ _ _ sW0.symm)
  have HB : Hid (Below w.heap.size w W1) := Lib.hid (bW0.trans (bW1.mono bW0.size))
  have KS : Hid (∀ V, Below W1.heap.size W1 V → V.cell? ⟨w.heap.size, 0, none⟩ = some (.int .u32 f.m) ∧ V.cell? ⟨w.heap.size, 1, none⟩ = some (.int .i64 f.i) ∧ V.cell? ⟨w.heap.size, 2, none⟩ = some (.int .i64 f.o) ∧ V.cell? ⟨w.heap.size, 3, none⟩ = some (.int .u32 f.d) ∧ V.cell? ⟨w.heap.size, 4, none⟩ = some (.int .u32 f.r) ∧ V.cell? ⟨w.heap.size, 5, none⟩ = some (.bool f.pp)) := Lib.hid (fun V hV => KX.out V (bW1.trans (hV.mono bW1.size)))
  have tt : Below W1.heap.size W1 W1 := Below.refl _ _
  have q0 := hb.step HB.out
  have HN := Lib.hid hn
  obtain ⟨i0, hi0, hz0, hz1, hz2⟩ := info_of info23
  clear hb bW0 bW1 KX hn
  go_enter Try.func22, Try.ntmps22
  go_wp2_with fail
  refine wp_region_held_drew (S := fun V => V.cell? ⟨w.heap.size, 0, none⟩ = some (.int .u32 f.m) ∧ V.cell? ⟨w.heap.size, 1, none⟩ = some (.int .i64 f.i) ∧ V.cell? ⟨w.heap.size, 2, none⟩ = some (.int .i64 f.o) ∧ V.cell? ⟨w.heap.size, 3, none⟩ = some (.int .u32 f.d) ∧ V.cell? ⟨w.heap.size, 4, none⟩ = some (.int .u32 f.r) ∧ V.cell? ⟨w.heap.size, 5, none⟩ = some (.bool f.pp)) (by kernel_rfl) (KS.out _ tt.drew) (fun hHeld => ?_)
  replace q0 := q0.step tt.drew
  replace tt : Below W1.heap.size W1 W1.drew := tt.drew
  generalize hX0 : W1.drew = Y0 at tt q0 hHeld ⊢
  clear hX0
  refine wpAnyH_take (i := 0) (v := ?_) rfl (by kernel_rfl) (by kernel_rfl) (by kernel_rfl) (fun _ _ _ h => h) (Or.inl ⟨by rfl, ?_⟩) (by assumption) ?_
  rotate_left
  · (intro w' hSw; (try dsimp only at hSw); go_simp; try with_reducible rfl)
  simp only [Act.put, List.getElem_toArray, List.getElem_cons_zero, List.setIfInBounds_toArray, List.set_cons_zero, List.set_cons_succ]
  refine wpAnyH_take (i := 1) (v := ?_) rfl (by kernel_rfl) (by kernel_rfl) (by kernel_rfl) (fun _ _ _ h => h) (Or.inl ⟨by rfl, ?_⟩) (by assumption) ?_
  rotate_left
  · (intro w' hSw; (try dsimp only at hSw); go_simp; try with_reducible rfl)
  simp only [Act.put, List.getElem_toArray, List.getElem_cons_zero, List.getElem_cons_succ, List.setIfInBounds_toArray, List.set_cons_zero, List.set_cons_succ]
  refine wpAnyH_take (i := 2) (v := ?_) rfl (by kernel_rfl) (by kernel_rfl) (by kernel_rfl) (fun _ _ _ h => h) (Or.inl ⟨by rfl, ?_⟩) (by assumption) ?_
  rotate_left
  · (intro w' hSw; (try dsimp only at hSw); go_simp; try with_reducible rfl)
  simp only [Act.put, List.getElem_toArray, List.getElem_cons_zero, List.getElem_cons_succ, List.setIfInBounds_toArray, List.set_cons_zero, List.set_cons_succ]
  refine wpAnyH_take (i := 3) (v := ?_) rfl (by kernel_rfl) (by kernel_rfl) (by kernel_rfl) (fun _ _ _ h => h) (Or.inl ⟨by rfl, ?_⟩) (by assumption) ?_
  rotate_left
  · (intro w' hSw; (try dsimp only at hSw); go_simp; try with_reducible rfl)
  simp only [Act.put, List.getElem_toArray, List.getElem_cons_zero, List.getElem_cons_succ, List.setIfInBounds_toArray, List.set_cons_zero, List.set_cons_succ]
  refine wpAnyH_take (i := 4) (v := ?_) rfl (by kernel_rfl) (by kernel_rfl) (by kernel_rfl) (fun _ _ _ h => h) (Or.inl ⟨by rfl, ?_⟩) (by assumption) ?_
  rotate_left
  · (intro w' hSw; (try dsimp only at hSw); go_simp; try with_reducible rfl)
  simp only [Act.put, List.getElem_toArray, List.getElem_cons_zero, List.getElem_cons_succ, List.setIfInBounds_toArray, List.set_cons_zero, List.set_cons_succ]
  refine wpAnyH_take (i := 5) (v := ?_) rfl (by kernel_rfl) (by kernel_rfl) (by kernel_rfl) (fun _ _ _ h => h) (Or.inl ⟨by rfl, ?_⟩) (by assumption) ?_
  rotate_left
  · (intro w' hSw; (try dsimp only at hSw); go_simp; try with_reducible rfl)
  simp only [Act.put, List.getElem_toArray, List.getElem_cons_zero, List.getElem_cons_succ, List.setIfInBounds_toArray, List.set_cons_zero, List.set_cons_succ]
  refine wpAnyH_take (i := 6) (v := ?_) rfl (by kernel_rfl) (by kernel_rfl) (by kernel_rfl) (fun _ _ _ h => h) (Or.inl ⟨by rfl, ?_⟩) (by assumption) ?_
  rotate_left
  · (intro w' hSw; (try dsimp only at hSw); go_simp; try with_reducible rfl)
  simp only [Act.put, List.getElem_toArray, List.getElem_cons_zero, List.getElem_cons_succ, List.setIfInBounds_toArray, List.set_cons_zero, List.set_cons_succ]
  refine wpAnyH_take (i := 7) (v := ?_) rfl (by kernel_rfl) (by kernel_rfl) (by kernel_rfl) (fun _ _ _ h => h) (Or.inl ⟨by rfl, ?_⟩) (by assumption) ?_
  rotate_left
  · (intro w' hSw; (try dsimp only at hSw); go_simp; try with_reducible rfl)
  simp only [Act.put, List.getElem_toArray, List.getElem_cons_zero, List.getElem_cons_succ, List.setIfInBounds_toArray, List.set_cons_zero, List.set_cons_succ]
  refine wpAnyH_take (i := 8) (v := ?_) rfl (by kernel_rfl) (by kernel_rfl) (by kernel_rfl) (fun _ _ _ h => h) (Or.inl ⟨by rfl, ?_⟩) (by assumption) ?_
  rotate_left
  · (intro w' hSw; (try dsimp only at hSw); go_simp; try with_reducible rfl)
  simp only [Act.put, List.getElem_toArray, List.getElem_cons_zero, List.getElem_cons_succ, List.setIfInBounds_toArray, List.set_cons_zero, List.set_cons_succ]
  refine wpAnyH_take (i := 9) (v := ?_) rfl (by kernel_rfl) (by kernel_rfl) (by kernel_rfl) (fun _ _ _ h => h) (Or.inl ⟨by rfl, ?_⟩) (by assumption) ?_
  rotate_left
  · (intro w' hSw; (try dsimp only at hSw); go_simp; try with_reducible rfl)
  simp only [Act.put, List.getElem_toArray, List.getElem_cons_zero, List.getElem_cons_succ, List.setIfInBounds_toArray, List.set_cons_zero, List.set_cons_succ]
  refine wpAnyH_take (i := 10) (v := ?_) rfl (by kernel_rfl) (by kernel_rfl) (by kernel_rfl) (fun _ _ _ h => h) (Or.inl ⟨by rfl, ?_⟩) (by assumption) ?_
  rotate_left
  · (intro w' hSw; (try dsimp only at hSw); go_simp; try with_reducible rfl)
  simp only [Act.put, List.getElem_toArray, List.getElem_cons_zero, List.getElem_cons_succ, List.setIfInBounds_toArray, List.set_cons_zero, List.set_cons_succ]
  refine wpAnyH_take (i := 12) (v := ?_) rfl (by kernel_rfl) (by kernel_rfl) (by kernel_rfl) (fun _ _ _ h => h) (Or.inl ⟨by rfl, ?_⟩) (by assumption) ?_
  rotate_left
  · (intro w' hSw; (try dsimp only at hSw); go_simp; try with_reducible rfl)
  simp only [Act.put, List.getElem_toArray, List.getElem_cons_zero, List.getElem_cons_succ, List.setIfInBounds_toArray, List.set_cons_zero, List.set_cons_succ]
  refine wpAnyH_ready (rs := [11]) (by kernel_rfl) (by simp) ?_
  refine AllReadyH.cons rfl (fun K hK => ?_) AllReadyH.nil
  go_simp
  obtain ⟨Y1, hY1⟩ : ∃ V, Y0.alloc (.cells #[] 22) = V := ⟨_, rfl⟩
  have u1 : Below Y0.heap.size Y0 Y1 := by rw [← hY1]; exact below_alloc1 _ _
  have t_Y1 : Below W1.heap.size W1 Y1 := tt.trans (u1.mono tt.size)
  replace q0 := q0.step u1
  obtain ⟨k1, hk1⟩ : ∃ k, Y0.heap.size = k := ⟨_, rfl⟩
  have oe : Own .u32 22 Y1 k1 (some ⟨k1, 0, none⟩) 0 [] := by
    rw [← hY1, ← hk1]
    exact Own.empty _ _ (Nat.le_refl _) _ _
  have ke : W1.heap.size ≤ k1 := by rw [← hk1]; exact tt.size
  have kf : k1 ≤ Y1.heap.size := by rw [← hk1]; exact u1.size
  try rw [hY1]
  try rw [hk1]
  refine hK.out _ _ (KS.out _ t_Y1) (fun _ => ?_)
  clear hK K
  refine wpAnyH_ready (rs := [13]) (by kernel_rfl) (by simp) ?_
  refine AllReadyH.cons rfl (fun K hK => ?_) AllReadyH.nil
  obtain ⟨A2, c2, Y2, rY2, oY2, tY2⟩ := run_app (P := Try.prog) Y1 k1 23 23 22 .u32 i0 _ 4 Try.underlying23 hi0 hz0 hz1 hz2 rfl _ _ _ oe _ A c _ q0 (by simp only [maxLen, HN.out, List.length_nil] <;> omega) (by simp only [HN.out, List.length_nil] <;> omega) kf
  simp only [List.nil_append, List.length_nil, HN.out] at rY2
  rw [List.nil_append] at oY2
  have t_Y2 : Below W1.heap.size W1 Y2 := t_Y1.trans (tY2.mono ke)
  have kb : W1.heap.size ≤ k1 := ke
  refine step_runb _ rfl (.tmp 22) (.tmp 23) 23 rfl rfl rfl rY2 ?_
  refine hK.out _ _ (KS.out _ t_Y2) (fun _ => ?_)
  clear hK K
  refine wpAnyH_take (i := 14) (v := .agg #[.int .u32 f.m, .int .i64 f.i, .int .i64 f.o, .int .i64 p, .int .u32 f.d, .int .u32 dr, .int .u32 bdr, .slice A2 n c2]) rfl (by kernel_rfl) (by kernel_rfl) (by kernel_rfl) (fun _ _ _ h => h) (Or.inl ⟨by rfl, ?_⟩) (by assumption) ?_
  · (intro w' hSw; (try dsimp only at hSw); go_simp; try rfl)
  simp only [Act.put, List.getElem_toArray, List.getElem_cons_zero, List.getElem_cons_succ, List.setIfInBounds_toArray, List.set_cons_zero, List.set_cons_succ]
  refine wpAnyH_ready (rs := [15]) (by kernel_rfl) (by simp) ?_
  refine AllReadyH.cons rfl (fun K hK => ?_) AllReadyH.nil
  obtain ⟨a0, a1, a2, a3, a4, a5, a6, a7, f0, f1, f2, f3, f4, f5, f6, f7, hzl⟩ := kz8_at (KZ.out _ t_Y2)
  have KR := Lib.hid <| kz8_get (KZ.out _ t_Y2) (Value.int .u32 f.m) (.int .i64 f.i) (.int .i64 f.o) (.int .i64 p) (.int .u32 f.d) (.int .u32 dr) (.int .u32 bdr) (.slice A2 n c2)
  have TF : Hid (Below w.heap.size w (st8 Y2 (w.heap.size + 1) (.int .u32 f.m) (.int .i64 f.i) (.int .i64 f.o) (.int .i64 p) (.int .u32 f.d) (.int .u32 dr) (.int .u32 bdr) (.slice A2 n c2)) ) := Lib.hid <| below_st8 (HB.out.trans (t_Y2.mono HB.out.size)) (by omega) _ _ _ _ _ _ _ _
  have OF := Lib.hid <| (oY2.far8 (b := w.heap.size + 1) (by omega) (.int .u32 f.m) (.int .i64 f.i) (.int .i64 f.o) (.int .i64 p) (.int .u32 f.d) (.int .u32 dr) (.int .u32 bdr) (.slice A2 n c2)).lower (base' := w.heap.size) (by omega)
  have KF : Hid ((st8 Y2 (w.heap.size + 1) (.int .u32 f.m) (.int .i64 f.i) (.int .i64 f.o) (.int .i64 p) (.int .u32 f.d) (.int .u32 dr) (.int .u32 bdr) (.slice A2 n c2)).cell? ⟨w.heap.size, 0, none⟩ = some (.int .u32 f.m) ∧ (st8 Y2 (w.heap.size + 1) (.int .u32 f.m) (.int .i64 f.i) (.int .i64 f.o) (.int .i64 p) (.int .u32 f.d) (.int .u32 dr) (.int .u32 bdr) (.slice A2 n c2)).cell? ⟨w.heap.size, 1, none⟩ = some (.int .i64 f.i) ∧ (st8 Y2 (w.heap.size + 1) (.int .u32 f.m) (.int .i64 f.i) (.int .i64 f.o) (.int .i64 p) (.int .u32 f.d) (.int .u32 dr) (.int .u32 bdr) (.slice A2 n c2)).cell? ⟨w.heap.size, 2, none⟩ = some (.int .i64 f.o) ∧ (st8 Y2 (w.heap.size + 1) (.int .u32 f.m) (.int .i64 f.i) (.int .i64 f.o) (.int .i64 p) (.int .u32 f.d) (.int .u32 dr) (.int .u32 bdr) (.slice A2 n c2)).cell? ⟨w.heap.size, 3, none⟩ = some (.int .u32 f.d) ∧ (st8 Y2 (w.heap.size + 1) (.int .u32 f.m) (.int .i64 f.i) (.int .i64 f.o) (.int .i64 p) (.int .u32 f.d) (.int .u32 dr) (.int .u32 bdr) (.slice A2 n c2)).cell? ⟨w.heap.size, 4, none⟩ = some (.int .u32 f.r) ∧ (st8 Y2 (w.heap.size + 1) (.int .u32 f.m) (.int .i64 f.i) (.int .i64 f.o) (.int .i64 p) (.int .u32 f.d) (.int .u32 dr) (.int .u32 bdr) (.slice A2 n c2)).cell? ⟨w.heap.size, 5, none⟩ = some (.bool f.pp)) := Lib.hid <| by
    obtain ⟨e0, e1, e2, e3, e4, e5⟩ := KS.out _ t_Y2
    exact ⟨(cell_st8 (p := ⟨w.heap.size, 0, none⟩) (show w.heap.size ≠ w.heap.size + 1 by omega) _ _ _ _ _ _ _ _).trans e0, (cell_st8 (p := ⟨w.heap.size, 1, none⟩) (show w.heap.size ≠ w.heap.size + 1 by omega) _ _ _ _ _ _ _ _).trans e1, (cell_st8 (p := ⟨w.heap.size, 2, none⟩) (show w.heap.size ≠ w.heap.size + 1 by omega) _ _ _ _ _ _ _ _).trans e2, (cell_st8 (p := ⟨w.heap.size, 3, none⟩) (show w.heap.size ≠ w.heap.size + 1 by omega) _ _ _ _ _ _ _ _).trans e3, (cell_st8 (p := ⟨w.heap.size, 4, none⟩) (show w.heap.size ≠ w.heap.size + 1 by omega) _ _ _ _ _ _ _ _).trans e4, (cell_st8 (p := ⟨w.heap.size, 5, none⟩) (show w.heap.size ≠ w.heap.size + 1 by omega) _ _ _ _ _ _ _ _).trans e5⟩
  go_simp
  refine hK.out _ _ KF.out (fun _ => ?_)
  clear hK K
  refine wpAnyH_done (by kernel_rfl) ?_ _
  go_wp2
  obtain ⟨r0, r1, r2, r3, r4, r5, r6, r7⟩ := KR.out
  refine bodyPost_ret (v := .agg #[.int .u32 f.m, .int .i64 f.i, .int .i64 f.o, .int .i64 p, .int .u32 f.d, .int .u32 dr, .int .u32 bdr, .slice A2 n c2]) (by simp [results, Try.results22, go_sem, r0, r1, r2, r3, r4, r5, r6, r7]) rfl ⟨_, _, rfl, OF.out, TF.out⟩
end Go.Proofs.Ytdjblkmhlghglaa
