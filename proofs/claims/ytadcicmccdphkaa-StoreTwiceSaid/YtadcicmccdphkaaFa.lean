/-
  The contract of store.freshAd. No statement is proved here; no conditions.
-/
import Derived.Test.YtadcicmccdphkaaFr
namespace Go.Proofs.Ytadcicmccdphkaa
open Go.RowKit Go.Joins

set_option maxRecDepth 100000 in
theorem fad_any (h : Hd) (A : Option Addr) (n c : Nat) (l : List Int) (w : World) (hn : l.length = n) (hb : Bt w A l) (hl : n ≤ 100000) :
    Calls Try.prog 24 #[.agg #[.int .i64 h.a, .int .i64 h.o, .int .i64 h.t, .int .u32 h.i, .int .u32 h.v, .int .u32 h.q, .int .i64 h.s, .int .i64 h.n, .slice A n c]] w fun e w' => ∃ A' c', e = .returned (.agg #[.int .i64 h.a, .int .i64 h.o, .int .i64 h.t, .int .u32 h.i, .int .u32 h.v, .int .u32 h.q, .int .i64 h.s, .int .i64 h.n, .slice A' n c']) ∧ Own .u8 5 w' w.heap.size A' c' l ∧ Below w.heap.size w w' := by
  obtain ⟨W0, hW0⟩ : ∃ V, w.alloc (.cells #[.int .i64 h.a, .int .i64 h.o, .int .i64 h.t, .int .u32 h.i, .int .u32 h.v, .int .u32 h.q, .int .i64 h.s, .int .i64 h.n, .slice A n c] 34) = V := ⟨_, rfl⟩
  have bW0 : Below w.heap.size w W0 := by rw [← hW0]; exact below_alloc1 _ _
  have sW0 : W0.heap.size = w.heap.size + 1 := by rw [← hW0]; simp
  have KX : Hid (∀ V, Below W0.heap.size W0 V → V.cell? ⟨w.heap.size, 0, none⟩ = some (.int .i64 h.a) ∧ V.cell? ⟨w.heap.size, 1, none⟩ = some (.int .i64 h.o) ∧ V.cell? ⟨w.heap.size, 2, none⟩ = some (.int .i64 h.t) ∧ V.cell? ⟨w.heap.size, 3, none⟩ = some (.int .u32 h.i) ∧ V.cell? ⟨w.heap.size, 4, none⟩ = some (.int .u32 h.v) ∧ V.cell? ⟨w.heap.size, 5, none⟩ = some (.int .u32 h.q) ∧ V.cell? ⟨w.heap.size, 6, none⟩ = some (.int .i64 h.s) ∧ V.cell? ⟨w.heap.size, 7, none⟩ = some (.int .i64 h.n) ∧ V.cell? ⟨w.heap.size, 8, none⟩ = some (.slice A n c)) := Lib.hid (fun V hV => kb9_new hW0 hV)
  obtain ⟨W1, hW1⟩ : ∃ V, W0.alloc (.cells #[Value.int .i64 0, .int .i64 0, .int .i64 0, .int .u32 0, .int .u32 0, .int .u32 0, .int .i64 0, .int .i64 0, .slice none 0 0] 34) = V := ⟨_, rfl⟩
  have bW1 : Below W0.heap.size W0 W1 := by rw [← hW1]; exact below_alloc1 _ _
  have sW1 : W1.heap.size = W0.heap.size + 1 := by rw [← hW1]; simp
  have KZ : Hid (∀ V, Below W1.heap.size W1 V → V.heap[w.heap.size + 1]? = some (.cells #[Value.int .i64 0, .int .i64 0, .int .i64 0, .int .u32 0, .int .u32 0, .int .u32 0, .int .i64 0, .int .i64 0, .slice none 0 0] 34)) :=
    Lib.hid (fun V hV => by rw [hV.block _ (by omega), ← hW1]; exact alloc_at _ _ _ (by omega))
  have HB : Hid (Below w.heap.size w W1) := Lib.hid (bW0.trans (bW1.mono bW0.size))
  have KS : Hid (∀ V, Below W1.heap.size W1 V → V.cell? ⟨w.heap.size, 0, none⟩ = some (.int .i64 h.a) ∧ V.cell? ⟨w.heap.size, 1, none⟩ = some (.int .i64 h.o) ∧ V.cell? ⟨w.heap.size, 2, none⟩ = some (.int .i64 h.t) ∧ V.cell? ⟨w.heap.size, 3, none⟩ = some (.int .u32 h.i) ∧ V.cell? ⟨w.heap.size, 4, none⟩ = some (.int .u32 h.v) ∧ V.cell? ⟨w.heap.size, 5, none⟩ = some (.int .u32 h.q) ∧ V.cell? ⟨w.heap.size, 6, none⟩ = some (.int .i64 h.s) ∧ V.cell? ⟨w.heap.size, 7, none⟩ = some (.int .i64 h.n) ∧ V.cell? ⟨w.heap.size, 8, none⟩ = some (.slice A n c)) := Lib.hid (fun V hV => KX.out V (bW1.trans (hV.mono bW1.size)))
  have tt : Below W1.heap.size W1 W1 := Below.refl _ _
  have q0 := hb.step HB.out
  have hs1 : W1.heap.size = w.heap.size + 2 := by omega
  have HS1 := Lib.hid hs1
  have HN := Lib.hid hn
  clear hb bW0 bW1 KX hn hs1
  go_enter Try.func24, Try.ntmps24
  go_wp2_with fail
  refine wp_region_held_drew (S := fun V => V.cell? ⟨w.heap.size, 0, none⟩ = some (.int .i64 h.a) ∧ V.cell? ⟨w.heap.size, 1, none⟩ = some (.int .i64 h.o) ∧ V.cell? ⟨w.heap.size, 2, none⟩ = some (.int .i64 h.t) ∧ V.cell? ⟨w.heap.size, 3, none⟩ = some (.int .u32 h.i) ∧ V.cell? ⟨w.heap.size, 4, none⟩ = some (.int .u32 h.v) ∧ V.cell? ⟨w.heap.size, 5, none⟩ = some (.int .u32 h.q) ∧ V.cell? ⟨w.heap.size, 6, none⟩ = some (.int .i64 h.s) ∧ V.cell? ⟨w.heap.size, 7, none⟩ = some (.int .i64 h.n) ∧ V.cell? ⟨w.heap.size, 8, none⟩ = some (.slice A n c)) (by kernel_rfl) (KS.out _ tt.drew) (fun hHeld => ?_)
  replace q0 := q0.step tt.drew
  replace tt : Below W1.heap.size W1 W1.drew := tt.drew
  generalize hX0 : W1.drew = Y0 at tt q0 hHeld ⊢
  clear hX0
  refine wpAnyH_take (i := 0) (v := ?_) rfl (by kernel_rfl) (by kernel_rfl) (by kernel_rfl) (fun _ _ _ h => h) (Or.inl ⟨by rfl, ?_⟩) (by assumption) ?_
  rotate_left
  · (intro w' hSw; (try dsimp only at hSw); go_simp; try with_reducible rfl)
  simp only [Act.put, List.getElem_toArray, List.getElem_cons_zero, List.setIfInBounds_toArray, List.set_cons_zero, List.set_cons_succ]
  refine wpAnyH_take (i := 1) (v := ?_) rfl (by kernel_rfl) (by kernel_rfl) (by kernel_rfl) (fun _ _ _ h => h) (Or.inl ⟨by rfl, ?_⟩) (by assumption) ?_
  rotate_left
  · (intro w' hSw; (try dsimp only at hSw); go_simp; try with_reducible rfl)
  simp only [Act.put, List.getElem_toArray, List.getElem_cons_zero, List.getElem_cons_succ, List.setIfInBounds_toArray, List.set_cons_zero, List.set_cons_succ]
  refine wpAnyH_take (i := 2) (v := ?_) rfl (by kernel_rfl) (by kernel_rfl) (by kernel_rfl) (fun _ _ _ h => h) (Or.inl ⟨by rfl, ?_⟩) (by assumption) ?_
  rotate_left
  · (intro w' hSw; (try dsimp only at hSw); go_simp; try with_reducible rfl)
  simp only [Act.put, List.getElem_toArray, List.getElem_cons_zero, List.getElem_cons_succ, List.setIfInBounds_toArray, List.set_cons_zero, List.set_cons_succ]
  refine wpAnyH_take (i := 3) (v := ?_) rfl (by kernel_rfl) (by kernel_rfl) (by kernel_rfl) (fun _ _ _ h => h) (Or.inl ⟨by rfl, ?_⟩) (by assumption) ?_
  rotate_left
  · (intro w' hSw; (try dsimp only at hSw); go_simp; try with_reducible rfl)
  simp only [Act.put, List.getElem_toArray, List.getElem_cons_zero, List.getElem_cons_succ, List.setIfInBounds_toArray, List.set_cons_zero, List.set_cons_succ]
  refine wpAnyH_ready (rs := [4]) (by kernel_rfl) (by simp) ?_
  refine AllReadyH.cons rfl (fun K hK => ?_) AllReadyH.nil
  go_simp
  go_at_call 46
  refine (clone_any A n c l Y0 HN.out q0 hl).mono ?_
  rintro e Y1 ⟨A1, c1, rfl, o1, u1⟩
  have t_Y1 : Below W1.heap.size W1 Y1 := tt.trans (u1.mono tt.size)
  replace q0 := q0.step u1
  refine hK.out _ _ (KS.out _ t_Y1) (fun _ => ?_)
  clear hK K
  refine wpAnyH_take (i := 5) (v := .agg #[.int .i64 h.a, .int .i64 h.o, .int .i64 h.t, .int .u32 h.i, .int .u32 h.v, .int .u32 h.q, .int .i64 h.s, .int .i64 h.n, .slice A1 n c1]) rfl (by kernel_rfl) (by kernel_rfl) (by kernel_rfl) (fun _ _ _ h => h) (Or.inl ⟨by rfl, ?_⟩) (by assumption) ?_
  · (intro w' hSw; (try dsimp only at hSw); go_simp; try rfl)
  simp only [Act.put, List.getElem_toArray, List.getElem_cons_zero, List.getElem_cons_succ, List.setIfInBounds_toArray, List.set_cons_zero, List.set_cons_succ]
  refine wpAnyH_ready (rs := [6]) (by kernel_rfl) (by simp) ?_
  refine AllReadyH.cons rfl (fun K hK => ?_) AllReadyH.nil
  obtain ⟨a0, a1, a2, a3, a4, a5, a6, a7, a8, f0, f1, f2, f3, f4, f5, f6, f7, f8, hzl⟩ := kz9_at (KZ.out _ t_Y1)
  have KR := Lib.hid <| kz9_get (KZ.out _ t_Y1) (Value.int .i64 h.a) (.int .i64 h.o) (.int .i64 h.t) (.int .u32 h.i) (.int .u32 h.v) (.int .u32 h.q) (.int .i64 h.s) (.int .i64 h.n) (.slice A1 n c1)
  have TF : Hid (Below w.heap.size w (st9 Y1 (w.heap.size + 1) (.int .i64 h.a) (.int .i64 h.o) (.int .i64 h.t) (.int .u32 h.i) (.int .u32 h.v) (.int .u32 h.q) (.int .i64 h.s) (.int .i64 h.n) (.slice A1 n c1))) := Lib.hid <| below_st9 (HB.out.trans (t_Y1.mono HB.out.size)) (by omega) _ _ _ _ _ _ _ _ _
  have OF := Lib.hid <| (o1.far9 (b := w.heap.size + 1) (by have := tt.size; have := HS1.out; omega) (.int .i64 h.a) (.int .i64 h.o) (.int .i64 h.t) (.int .u32 h.i) (.int .u32 h.v) (.int .u32 h.q) (.int .i64 h.s) (.int .i64 h.n) (.slice A1 n c1)).lower (base' := w.heap.size) (by have := tt.size; have := HS1.out; omega)
  have KF : Hid ((st9 Y1 (w.heap.size + 1) (.int .i64 h.a) (.int .i64 h.o) (.int .i64 h.t) (.int .u32 h.i) (.int .u32 h.v) (.int .u32 h.q) (.int .i64 h.s) (.int .i64 h.n) (.slice A1 n c1)).cell? ⟨w.heap.size, 0, none⟩ = some (.int .i64 h.a) ∧ (st9 Y1 (w.heap.size + 1) (.int .i64 h.a) (.int .i64 h.o) (.int .i64 h.t) (.int .u32 h.i) (.int .u32 h.v) (.int .u32 h.q) (.int .i64 h.s) (.int .i64 h.n) (.slice A1 n c1)).cell? ⟨w.heap.size, 1, none⟩ = some (.int .i64 h.o) ∧ (st9 Y1 (w.heap.size + 1) (.int .i64 h.a) (.int .i64 h.o) (.int .i64 h.t) (.int .u32 h.i) (.int .u32 h.v) (.int .u32 h.q) (.int .i64 h.s) (.int .i64 h.n) (.slice A1 n c1)).cell? ⟨w.heap.size, 2, none⟩ = some (.int .i64 h.t) ∧ (st9 Y1 (w.heap.size + 1) (.int .i64 h.a) (.int .i64 h.o) (.int .i64 h.t) (.int .u32 h.i) (.int .u32 h.v) (.int .u32 h.q) (.int .i64 h.s) (.int .i64 h.n) (.slice A1 n c1)).cell? ⟨w.heap.size, 3, none⟩ = some (.int .u32 h.i) ∧ (st9 Y1 (w.heap.size + 1) (.int .i64 h.a) (.int .i64 h.o) (.int .i64 h.t) (.int .u32 h.i) (.int .u32 h.v) (.int .u32 h.q) (.int .i64 h.s) (.int .i64 h.n) (.slice A1 n c1)).cell? ⟨w.heap.size, 4, none⟩ = some (.int .u32 h.v) ∧ (st9 Y1 (w.heap.size + 1) (.int .i64 h.a) (.int .i64 h.o) (.int .i64 h.t) (.int .u32 h.i) (.int .u32 h.v) (.int .u32 h.q) (.int .i64 h.s) (.int .i64 h.n) (.slice A1 n c1)).cell? ⟨w.heap.size, 5, none⟩ = some (.int .u32 h.q) ∧ (st9 Y1 (w.heap.size + 1) (.int .i64 h.a) (.int .i64 h.o) (.int .i64 h.t) (.int .u32 h.i) (.int .u32 h.v) (.int .u32 h.q) (.int .i64 h.s) (.int .i64 h.n) (.slice A1 n c1)).cell? ⟨w.heap.size, 6, none⟩ = some (.int .i64 h.s) ∧ (st9 Y1 (w.heap.size + 1) (.int .i64 h.a) (.int .i64 h.o) (.int .i64 h.t) (.int .u32 h.i) (.int .u32 h.v) (.int .u32 h.q) (.int .i64 h.s) (.int .i64 h.n) (.slice A1 n c1)).cell? ⟨w.heap.size, 7, none⟩ = some (.int .i64 h.n) ∧ (st9 Y1 (w.heap.size + 1) (.int .i64 h.a) (.int .i64 h.o) (.int .i64 h.t) (.int .u32 h.i) (.int .u32 h.v) (.int .u32 h.q) (.int .i64 h.s) (.int .i64 h.n) (.slice A1 n c1)).cell? ⟨w.heap.size, 8, none⟩ = some (.slice A n c)) := Lib.hid <| by
    obtain ⟨e0, e1, e2, e3, e4, e5, e6, e7, e8⟩ := KS.out _ t_Y1
    exact ⟨(cell_st9 (p := ⟨w.heap.size, 0, none⟩) (show w.heap.size ≠ w.heap.size + 1 by omega) _ _ _ _ _ _ _ _ _).trans e0, (cell_st9 (p := ⟨w.heap.size, 1, none⟩) (show w.heap.size ≠ w.heap.size + 1 by omega) _ _ _ _ _ _ _ _ _).trans e1, (cell_st9 (p := ⟨w.heap.size, 2, none⟩) (show w.heap.size ≠ w.heap.size + 1 by omega) _ _ _ _ _ _ _ _ _).trans e2, (cell_st9 (p := ⟨w.heap.size, 3, none⟩) (show w.heap.size ≠ w.heap.size + 1 by omega) _ _ _ _ _ _ _ _ _).trans e3, (cell_st9 (p := ⟨w.heap.size, 4, none⟩) (show w.heap.size ≠ w.heap.size + 1 by omega) _ _ _ _ _ _ _ _ _).trans e4, (cell_st9 (p := ⟨w.heap.size, 5, none⟩) (show w.heap.size ≠ w.heap.size + 1 by omega) _ _ _ _ _ _ _ _ _).trans e5, (cell_st9 (p := ⟨w.heap.size, 6, none⟩) (show w.heap.size ≠ w.heap.size + 1 by omega) _ _ _ _ _ _ _ _ _).trans e6, (cell_st9 (p := ⟨w.heap.size, 7, none⟩) (show w.heap.size ≠ w.heap.size + 1 by omega) _ _ _ _ _ _ _ _ _).trans e7, (cell_st9 (p := ⟨w.heap.size, 8, none⟩) (show w.heap.size ≠ w.heap.size + 1 by omega) _ _ _ _ _ _ _ _ _).trans e8⟩
  go_simp
  refine hK.out _ _ KF.out (fun _ => ?_)
  clear hK K
  refine wpAnyH_done (by kernel_rfl) ?_ _
  go_wp2
  obtain ⟨r0, r1, r2, r3, r4, r5, r6, r7, r8⟩ := KR.out
  refine bodyPost_ret (v := .agg #[.int .i64 h.a, .int .i64 h.o, .int .i64 h.t, .int .u32 h.i, .int .u32 h.v, .int .u32 h.q, .int .i64 h.s, .int .i64 h.n, .slice A1 n c1]) (by simp [results, Try.results24, go_sem, r0, r1, r2, r3, r4, r5, r6, r7, r8]) rfl ⟨_, _, rfl, OF.out, TF.out⟩
end Go.Proofs.Ytadcicmccdphkaa
