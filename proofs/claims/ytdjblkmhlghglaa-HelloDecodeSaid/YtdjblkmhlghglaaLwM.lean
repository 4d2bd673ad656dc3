/-
  The walk of the law HelloMake. No statement is proved here; no conditions.
-/
import Derived.Test.YtdjblkmhlghglaaAl
namespace Go.Proofs.Ytdjblkmhlghglaa
open Go.RowKit Go.Joins

/-- Block b holds this. -/
def At (w : World) (b : Nat) (o : Obj) : Prop := w.heap[b]? = some o
theorem At.step {w w' : World} {b : Nat} {o : Obj} (h : At w b o) (hb : Below w.heap.size w w') : At w' b o := (hb.block b (lt_of_block h)).trans h
theorem At.lt {w : World} {b : Nat} {o : Obj} (h : At w b o) : b < w.heap.size := lt_of_block h
theorem At.mk {w w' : World} {o : Obj} (h : w.alloc o = w') : At w' w.heap.size o := by subst h; exact alloc_at _ _ _ rfl
theorem Own.step {k : IntKind} {e : TypeId} {w w' : World} {base c : Nat} {A : Option Addr} {l : List Int} (h : Own k e w base A c l) (hb : Below w.heap.size w w') : Own k e w' base A c l := h.below hb (Nat.le_refl _)
theorem Own.far8ne {k : IntKind} {e : TypeId} {W : World} {base c b : Nat} {A : Option Addr} {l : List Int} (h : Own k e W base A c l) (hne : ∀ g, blk A = some g → g ≠ b) (u0 u1 u2 u3 u4 u5 u6 u7 : Value) : Own k e (st8 W b u0 u1 u2 u3 u4 u5 u6 u7) base A c l := by
  rcases h.form with ⟨rfl, rfl, rfl⟩ | ⟨g, cur, rfl, hb, hlt, hg, h1, h2, h3, h4⟩
  · exact Own.nil _ _
  · exact Own.of_form hb ((far_st8 (hne g rfl) u0 u1 u2 u3 u4 u5 u6 u7).trans hg) h1 h2 h3 h4
set_option maxRecDepth 100000 in
set_option maxHeartbeats 4000000 in
theorem make_walk (f : If) (x y z : Int) (A : Option Addr) (n c : Nat) (l : List Int) (w : World) (hn : l.length = n) (hb : Wt w A l) (ok : Okh (mk f x y z l)) :
    Calls Try.prog 6 #[.agg #[.int .u32 f.m, .int .i64 f.i, .int .i64 f.o, .int .u32 f.d, .int .u32 f.r, .bool f.pp], .agg #[.int .i64 x, .int .u32 y, .int .u32 z, .slice A n c]] w fun e w' => e = .returned (.bool true) ∧ Below w.heap.size w w' := by
  obtain ⟨W0, hW0⟩ : ∃ V, w.alloc (.cells #[.int .u32 f.m, .int .i64 f.i, .int .i64 f.o, .int .u32 f.d, .int .u32 f.r, .bool f.pp] 43) = V := ⟨_, rfl⟩
  have bW0 : Below w.heap.size w W0 := by rw [← hW0]; exact below_alloc1 _ _
  have sW0 : W0.heap.size = w.heap.size + 1 := by rw [← hW0]; simp
  have KX : Hid (∀ V, Below W0.heap.size W0 V → V.cell? ⟨w.heap.size, 0, none⟩ = some (.int .u32 f.m) ∧ V.cell? ⟨w.heap.size, 1, none⟩ = some (.int .i64 f.i) ∧ V.cell? ⟨w.heap.size, 2, none⟩ = some (.int .i64 f.o) ∧ V.cell? ⟨w.heap.size, 3, none⟩ = some (.int .u32 f.d) ∧ V.cell? ⟨w.heap.size, 4, none⟩ = some (.int .u32 f.r) ∧ V.cell? ⟨w.heap.size, 5, none⟩ = some (.bool f.pp)) := Lib.hid (fun V hV => kb6_new hW0 hV)
  obtain ⟨W1, hW1⟩ : ∃ V, W0.alloc (.cells #[.int .i64 x, .int .u32 y, .int .u32 z, .slice A n c] 51) = V := ⟨_, rfl⟩
  have bW1 : Below W0.heap.size W0 W1 := by rw [← hW1]; exact below_alloc1 _ _
  have sW1 : W1.heap.size = W0.heap.size + 1 := by rw [← hW1]; simp
  have KY : Hid (∀ V, Below W1.heap.size W1 V → V.cell? ⟨W0.heap.size, 0, none⟩ = some (.int .i64 x) ∧ V.cell? ⟨W0.heap.size, 1, none⟩ = some (.int .u32 y) ∧ V.cell? ⟨W0.heap.size, 2, none⟩ = some (.int .u32 z) ∧ V.cell? ⟨W0.heap.size, 3, none⟩ = some (.slice A n c)) := Lib.hid (fun V hV => kb4_new hW1 hV)
  have b2 : Below w.heap.size w W1 := bW0.trans (bW1.mono bW0.size)
  have HB := Lib.hid b2
  have q0 := hb.step b2
  have AF : At W1 w.heap.size (.cells #[.int .u32 f.m, .int .i64 f.i, .int .i64 f.o, .int .u32 f.d, .int .u32 f.r, .bool f.pp] 43) := (At.mk hW0).step bW1
  have KS : Hid (∀ V, Below W1.heap.size W1 V → (V.cell? ⟨w.heap.size, 0, none⟩ = some (.int .u32 f.m) ∧ V.cell? ⟨w.heap.size, 1, none⟩ = some (.int .i64 f.i) ∧ V.cell? ⟨w.heap.size, 2, none⟩ = some (.int .i64 f.o) ∧ V.cell? ⟨w.heap.size, 3, none⟩ = some (.int .u32 f.d) ∧ V.cell? ⟨w.heap.size, 4, none⟩ = some (.int .u32 f.r) ∧ V.cell? ⟨w.heap.size, 5, none⟩ = some (.bool f.pp)) ∧ V.cell? ⟨(w.heap.size + 1), 0, none⟩ = some (.int .i64 x) ∧ V.cell? ⟨(w.heap.size + 1), 1, none⟩ = some (.int .u32 y) ∧ V.cell? ⟨(w.heap.size + 1), 2, none⟩ = some (.int .u32 z) ∧ V.cell? ⟨(w.heap.size + 1), 3, none⟩ = some (.slice A n c)) := Lib.hid (fun V hV => by
    have k := KX.out V (bW1.trans (hV.mono bW1.size))
    have j := KY.out V hV
    rw [sW0] at j
    exact ⟨k, j⟩)
  have sw1 : W1.heap.size = w.heap.size + 2 := by omega
  have HSW := Lib.hid sw1
  clear b2 hb KX KY
  obtain ⟨⟨k0, k1, k2, k3, k4, k5⟩, j0, j1, j2, j3⟩ := KS.out _ (Below.refl _ _)
  by_cases h1 : 1300 < n
  · have h2 : (n : Int) > 1300 := by omega
    clear bW0 bW1
    go_enter Try.func6, Try.ntmps6
    go_wp2_with fail
    refine (alive_any _).mono ?_
    rintro e V1 ⟨rfl, hv1⟩
    go_wp2
    go_ret
    exact ⟨rfl, HB.out.trans (hv1.mono HB.out.size)⟩
  have h2 : ¬ ((n : Int) > 1300) := by omega
  clear bW0 bW1
  obtain ⟨W2, hW2⟩ : ∃ V, W1.alloc (.cells #[] 22) = V := ⟨_, rfl⟩
  have bW2 : Below W1.heap.size W1 W2 := by rw [← hW2]; exact below_alloc1 _ _
  have o2 : Own .u32 22 W2 W1.heap.size (some ⟨w.heap.size + 2, 0, none⟩) 0 [] := by
    rw [← hW2, ← sw1]
    exact Own.empty W1 _ (Nat.le_refl _) _ _
  obtain ⟨i0, hi0, hz0, hz1, hz2⟩ := info_of info23
  obtain ⟨A3, c3, W3, rW3, oW3, tW3⟩ := run_app (P := Try.prog) W2 W1.heap.size 23 23 22 .u32 i0 _ 4 Try.underlying23 hi0 hz0 hz1 hz2 rfl _ _ _ o2 _ A c _ (q0.step bW2) (by simp only [maxLen, List.length_nil] <;> omega) (by simp only [List.length_nil] <;> omega) bW2.size
  have t3 : Below W1.heap.size W1 W3 := bW2.trans tW3
  rw [List.nil_append] at oW3
  simp only [List.nil_append, List.length_nil, hn] at rW3
  have O3 := Lib.hid oW3
  have T3 := Lib.hid t3
  have HN := Lib.hid hn
  obtain ⟨⟨a0, a1, a2, a3, a4, a5⟩, b0, b1, b2, b3⟩ := KS.out _ bW2
  obtain ⟨⟨d0, d1, d2, d3, d4, d5⟩, g0, g1, g2, g3⟩ := KS.out _ t3
  clear o2 bW2 oW3 tW3 t3 hn
  go_enter Try.func6, Try.ntmps6
  go_wp2_with (at_builtin; refine wpList_runb _ rfl (.tmp 18) (.tmp 20) 23 rfl rfl rfl rW3 ?_)
  clear k0 k1 k2 k3 k4 k5 j0 j1 j2 j3 a0 a1 a2 a3 a4 a5 b0 b1 b2 b3 d0 d1 d2 d3 d4 d5 g0 g1 g2 g3 hW2 rW3
  refine (make_any f x y z A3 n c3 l _ HN.out O3.out.bs (by omega)).mono ?_
  rintro e W4 ⟨A4, c4, rfl, o4, u4⟩
  obtain ⟨W5, hW5⟩ : ∃ V, W4.alloc (.cells #[.int .u32 f.m, .int .i64 f.i, .int .i64 f.o, .int .i64 x, .int .u32 f.d, .int .u32 y, .int .u32 z, .slice A4 n c4] 25) = V := ⟨_, rfl⟩
  have u5 : Below W4.heap.size W4 W5 := by rw [← hW5]; exact below_alloc1 _ _
  have u35 : Below W3.heap.size W3 W5 := u4.trans (u5.mono u4.size)
  have O4 := Lib.hid (o4.step u5)
  have O35 := Lib.hid (O3.out.step u35)
  have AH : At W5 W4.heap.size (.cells #[.int .u32 f.m, .int .i64 f.i, .int .i64 f.o, .int .i64 x, .int .u32 f.d, .int .u32 y, .int .u32 z, .slice A4 n c4] 25) := At.mk hW5
  have t5 : Below W1.heap.size W1 W5 := T3.out.trans (u35.mono T3.out.size)
  have AF5 : At W5 w.heap.size (.cells #[.int .u32 f.m, .int .i64 f.i, .int .i64 f.o, .int .u32 f.d, .int .u32 f.r, .bool f.pp] 43) := AF.step t5
  have S34 : Hid (W1.heap.size ≤ W3.heap.size ∧ W3.heap.size ≤ W4.heap.size ∧ W4.heap.size < W5.heap.size) := Lib.hid ⟨T3.out.size, u4.size, AH.lt⟩
  have T5 := Lib.hid t5
  have G3 : Hid (∀ g, blk A3 = some g → W1.heap.size ≤ g ∧ g < W3.heap.size) := Lib.hid O3.out.blk_lt
  have KS5 : Hid (∀ V, Below W5.heap.size W5 V → (V.cell? ⟨w.heap.size, 0, none⟩ = some (.int .u32 f.m) ∧ V.cell? ⟨w.heap.size, 1, none⟩ = some (.int .i64 f.i) ∧ V.cell? ⟨w.heap.size, 2, none⟩ = some (.int .i64 f.o) ∧ V.cell? ⟨w.heap.size, 3, none⟩ = some (.int .u32 f.d) ∧ V.cell? ⟨w.heap.size, 4, none⟩ = some (.int .u32 f.r) ∧ V.cell? ⟨w.heap.size, 5, none⟩ = some (.bool f.pp)) ∧ V.cell? ⟨(w.heap.size + 1), 0, none⟩ = some (.int .i64 x) ∧ V.cell? ⟨(w.heap.size + 1), 1, none⟩ = some (.int .u32 y) ∧ V.cell? ⟨(w.heap.size + 1), 2, none⟩ = some (.int .u32 z) ∧ V.cell? ⟨(w.heap.size + 1), 3, none⟩ = some (.slice A n c)) := Lib.hid (fun V hV => KS.out V (T5.out.trans (hV.mono T5.out.size)))
  have KQ : Hid (∀ V, Below W5.heap.size W5 V → Wt V A l) := Lib.hid (fun V hV => q0.step (T5.out.trans (hV.mono T5.out.size)))
  have AH' := Lib.hid AH
  have AF' := Lib.hid AF5
  have tt : Below W5.heap.size W5 W5 := Below.refl _ _
  have hn9 : n ≤ 100000 := by omega
  clear o4 u4 u5 u35 t5 AH AF AF5 O3 KS T3 q0 hW0 hW1
  go_upto_region 5 with fail
  clear hW5
  go_cut [7] (fun v7 wx => ∃ (a : Nat) (A6 : Option Addr) (c6 : Nat), v7 = .pointer (some ⟨a, 0, none⟩) ∧ Hid (W5.heap.size ≤ a) ∧ Hid (Below W5.heap.size W5 wx) ∧ Hid (At wx a (.cells #[.int .u32 f.m, .int .i64 f.i, .int .i64 f.o, .int .i64 x, .int .u32 f.d, .int .u32 y, .int .u32 z, .slice A6 n c6] 32)) ∧ Hid (Own .u32 22 wx W5.heap.size A6 c6 l))
  case first =>
    refine wp_region_held_drew (S := fun V => (V.cell? ⟨w.heap.size, 0, none⟩ = some (.int .u32 f.m) ∧ V.cell? ⟨w.heap.size, 1, none⟩ = some (.int .i64 f.i) ∧ V.cell? ⟨w.heap.size, 2, none⟩ = some (.int .i64 f.o) ∧ V.cell? ⟨w.heap.size, 3, none⟩ = some (.int .u32 f.d) ∧ V.cell? ⟨w.heap.size, 4, none⟩ = some (.int .u32 f.r) ∧ V.cell? ⟨w.heap.size, 5, none⟩ = some (.bool f.pp)) ∧ V.cell? ⟨(w.heap.size + 1), 0, none⟩ = some (.int .i64 x) ∧ V.cell? ⟨(w.heap.size + 1), 1, none⟩ = some (.int .u32 y) ∧ V.cell? ⟨(w.heap.size + 1), 2, none⟩ = some (.int .u32 z) ∧ V.cell? ⟨(w.heap.size + 1), 3, none⟩ = some (.slice A n c)) (by kernel_rfl) (KS5.out _ tt.drew) (fun hHeld => ?_)
    replace tt : Below W5.heap.size W5 W5.drew := tt.drew
    generalize hX0 : W5.drew = Y0 at tt hHeld ⊢
    clear hX0
    refine wpAnyH_take (i := 0) (v := ?_) rfl (by kernel_rfl) (by kernel_rfl) (by kernel_rfl) (fun _ _ _ h => h) (Or.inl ⟨by rfl, ?_⟩) (by assumption) ?_
    rotate_left
    · (intro w' hSw; (try dsimp only at hSw); go_simp; try with_reducible rfl)
    simp only [Act.put, List.getElem_toArray, List.getElem_cons_zero, List.setIfInBounds_toArray, List.set_cons_zero, List.set_cons_succ]
    refine wpAnyH_take (i := 2) (v := ?_) rfl (by kernel_rfl) (by kernel_rfl) (by kernel_rfl) (fun _ _ _ h => h) (Or.inl ⟨by rfl, ?_⟩) (by assumption) ?_
    rotate_left
    · (intro w' hSw; (try dsimp only at hSw); go_simp; try with_reducible rfl)
    simp only [Act.put, List.getElem_toArray, List.getElem_cons_zero, List.getElem_cons_succ, List.setIfInBounds_toArray, List.set_cons_zero, List.set_cons_succ]
    refine wpAnyH_take (i := 3) (v := ?_) rfl (by kernel_rfl) (by kernel_rfl) (by kernel_rfl) (fun _ _ _ h => h) (Or.inl ⟨by rfl, ?_⟩) (by assumption) ?_
    rotate_left
    · (intro w' hSw; (try dsimp only at hSw); go_simp; try with_reducible rfl)
    simp only [Act.put, List.getElem_toArray, List.getElem_cons_zero, List.getElem_cons_succ, List.setIfInBounds_toArray, List.set_cons_zero, List.set_cons_succ]
    refine wpAnyH_take (i := 4) (v := ?_) rfl (by kernel_rfl) (by kernel_rfl) (by kernel_rfl) (fun _ _ _ h => h) (Or.inl ⟨by rfl, ?_⟩) (by assumption) ?_
    rotate_left
    · (intro w' hSw; (try dsimp only at hSw); go_simp; try with_reducible rfl)
    simp only [Act.put, List.getElem_toArray, List.getElem_cons_zero, List.getElem_cons_succ, List.setIfInBounds_toArray, List.set_cons_zero, List.set_cons_succ]
    refine wpAnyH_take (i := 5) (v := ?_) rfl (by kernel_rfl) (by kernel_rfl) (by kernel_rfl) (fun _ _ _ h => h) (Or.inl ⟨by rfl, ?_⟩) (by assumption) ?_
    rotate_left
    · (intro w' hSw; (try dsimp only at hSw); go_simp; try with_reducible rfl)
    simp only [Act.put, List.getElem_toArray, List.getElem_cons_zero, List.getElem_cons_succ, List.setIfInBounds_toArray, List.set_cons_zero, List.set_cons_succ]
    refine wpAnyH_take (i := 6) (v := ?_) rfl (by kernel_rfl) (by kernel_rfl) (by kernel_rfl) (fun _ _ _ h => h) (Or.inl ⟨by rfl, ?_⟩) (by assumption) ?_
    rotate_left
    · (intro w' hSw; (try dsimp only at hSw); go_simp; try with_reducible rfl)
    simp only [Act.put, List.getElem_toArray, List.getElem_cons_zero, List.getElem_cons_succ, List.setIfInBounds_toArray, List.set_cons_zero, List.set_cons_succ]
    refine wpAnyH_take (i := 7) (v := ?_) rfl (by kernel_rfl) (by kernel_rfl) (by kernel_rfl) (fun _ _ _ h => h) (Or.inl ⟨by rfl, ?_⟩) (by assumption) ?_
    rotate_left
    · (intro w' hSw; (try dsimp only at hSw); go_simp; try with_reducible rfl)
    simp only [Act.put, List.getElem_toArray, List.getElem_cons_zero, List.getElem_cons_succ, List.setIfInBounds_toArray, List.set_cons_zero, List.set_cons_succ]
    refine wpAnyH_take (i := 8) (v := ?_) rfl (by kernel_rfl) (by kernel_rfl) (by kernel_rfl) (fun _ _ _ h => h) (Or.inl ⟨by rfl, ?_⟩) (by assumption) ?_
    rotate_left
    · (intro w' hSw; (try dsimp only at hSw); go_simp; try with_reducible rfl)
    simp only [Act.put, List.getElem_toArray, List.getElem_cons_zero, List.getElem_cons_succ, List.setIfInBounds_toArray, List.set_cons_zero, List.set_cons_succ]
    refine wpAnyH_take (i := 9) (v := ?_) rfl (by kernel_rfl) (by kernel_rfl) (by kernel_rfl) (fun _ _ _ h => h) (Or.inl ⟨by rfl, ?_⟩) (by assumption) ?_
    rotate_left
    · (intro w' hSw; (try dsimp only at hSw); go_simp; try with_reducible rfl)
    simp only [Act.put, List.getElem_toArray, List.getElem_cons_zero, List.getElem_cons_succ, List.setIfInBounds_toArray, List.set_cons_zero, List.set_cons_succ]
    refine wpAnyH_ready (rs := [1, 11]) (by kernel_rfl) (by simp) ?_
    refine AllReadyH.cons rfl (fun K hK => ?_) ?_
    · go_simp
      go_at_call 18
      refine (iface_any f _).mono ?_
      rintro e Y1 ⟨rfl, u1⟩
      have t_Y1 : Below W5.heap.size W5 Y1 := tt.trans (u1.mono tt.size)
      refine hK.out _ _ (KS5.out _ t_Y1) (fun _ => ?_)
      clear hK K
      refine wpAnyH_ready (rs := [10, 11]) (by kernel_rfl) (by simp) ?_
      refine AllReadyH.cons rfl (fun K hK => ?_) ?_
      · go_simp
        go_at_call 22
        refine (rmake_any f x y z A n c l _ HN.out (KQ.out _ t_Y1) hn9).mono ?_
        rintro e Y2 ⟨A2, c2, rfl, o2, u2⟩
        have t_Y2 : Below W5.heap.size W5 Y2 := t_Y1.trans (u2.mono t_Y1.size)
        replace o2 := o2.lower (base' := W5.heap.size) t_Y1.size
        refine hK.out _ _ (KS5.out _ t_Y2) (fun _ => ?_)
        clear hK K
        refine wpAnyH_ready (rs := [11]) (by kernel_rfl) (by simp) ?_
        refine AllReadyH.cons rfl (fun K hK => ?_) AllReadyH.nil
        go_simp
        obtain ⟨Y3, hY3⟩ : ∃ V, Y2.alloc (.cells #[Value.int .u32 0, .int .i64 0, .int .i64 0, .int .i64 0, .int .u32 0, .int .u32 0, .int .u32 0, .slice none 0 0] 32) = V := ⟨_, rfl⟩
        have u3 : Below Y2.heap.size Y2 Y3 := by rw [← hY3]; exact below_alloc1 _ _
        have kz := At.mk hY3
        have hne : Hid (∀ g, blk A2 = some g → g ≠ Y2.heap.size) := Lib.hid (fun g hg => by have := (o2.blk_lt g hg).2; omega)
        have t_Y3 : Below W5.heap.size W5 Y3 := t_Y2.trans (u3.mono t_Y2.size)
        replace o2 := o2.step u3
        obtain ⟨k3, hk3⟩ : ∃ k, Y2.heap.size = k := ⟨_, rfl⟩
        rw [hk3] at kz
        rw [hk3] at hne
        have ga : Hid (W5.heap.size ≤ k3) := Lib.hid (by rw [← hk3]; exact t_Y2.size)
        have hlt0 := kz.lt
        try rw [hY3]
        try rw [hk3]
        refine hK.out _ _ (KS5.out _ t_Y3) (fun _ => ?_)
        clear hK K
        refine wpAnyH_ready (rs := [12]) (by kernel_rfl) (by simp) ?_
        refine AllReadyH.cons rfl (fun K hK => ?_) AllReadyH.nil
        obtain ⟨a0, a1, a2, a3, a4, a5, a6, a7, f0, f1, f2, f3, f4, f5, f6, f7, hzl⟩ := kz8_at kz
        have KR : Hid (At (st8 Y3 k3 (.int .u32 f.m) (.int .i64 f.i) (.int .i64 f.o) (.int .i64 x) (.int .u32 f.d) (.int .u32 y) (.int .u32 z) (.slice A2 n c2)) k3 (.cells #[.int .u32 f.m, .int .i64 f.i, .int .i64 f.o, .int .i64 x, .int .u32 f.d, .int .u32 y, .int .u32 z, .slice A2 n c2] 32)) := Lib.hid (kz8_set kz (Value.int .u32 f.m) (.int .i64 f.i) (.int .i64 f.o) (.int .i64 x) (.int .u32 f.d) (.int .u32 y) (.int .u32 z) (.slice A2 n c2))
        have TF : Hid (Below W5.heap.size W5 (st8 Y3 k3 (.int .u32 f.m) (.int .i64 f.i) (.int .i64 f.o) (.int .i64 x) (.int .u32 f.d) (.int .u32 y) (.int .u32 z) (.slice A2 n c2))) := Lib.hid (below_st8 t_Y3 ga.out _ _ _ _ _ _ _ _)
        have OF := Lib.hid (o2.far8ne hne.out (.int .u32 f.m) (.int .i64 f.i) (.int .i64 f.o) (.int .i64 x) (.int .u32 f.d) (.int .u32 y) (.int .u32 z) (.slice A2 n c2))
        clear tt hHeld
        go_simp
        refine hK.out _ _ (KS5.out _ TF.out) (fun _ => ?_)
        clear hK K
        refine wpAnyH_done (by kernel_rfl) ?_ _
        go_wp2_with fail
        go_meet
        case rel => exact ⟨_, _, _, rfl, ga, TF, KR, OF⟩
      refine AllReadyH.cons rfl (fun K hK => ?_) AllReadyH.nil
      go_simp
      obtain ⟨Y2, hY2⟩ : ∃ V, Y1.alloc (.cells #[Value.int .u32 0, .int .i64 0, .int .i64 0, .int .i64 0, .int .u32 0, .int .u32 0, .int .u32 0, .slice none 0 0] 32) = V := ⟨_, rfl⟩
      have u2 : Below Y1.heap.size Y1 Y2 := by rw [← hY2]; exact below_alloc1 _ _
      have kz := At.mk hY2
      have t_Y2 : Below W5.heap.size W5 Y2 := t_Y1.trans (u2.mono t_Y1.size)
      obtain ⟨k2, hk2⟩ : ∃ k, Y1.heap.size = k := ⟨_, rfl⟩
      rw [hk2] at kz
      have ga : Hid (W5.heap.size ≤ k2) := Lib.hid (by rw [← hk2]; exact t_Y1.size)
      have hlt0 := kz.lt
      try rw [hY2]
      try rw [hk2]
      refine hK.out _ _ (KS5.out _ t_Y2) (fun _ => ?_)
      clear hK K
      refine wpAnyH_ready (rs := [10]) (by kernel_rfl) (by simp) ?_
      refine AllReadyH.cons rfl (fun K hK => ?_) AllReadyH.nil
      have hlt9 := kz.lt
      go_simp
      go_at_call 22
      refine (rmake_any f x y z A n c l _ HN.out (KQ.out _ t_Y2) hn9).mono ?_
      rintro e Y3 ⟨A3, c3, rfl, o3, u3⟩
      have t_Y3 : Below W5.heap.size W5 Y3 := t_Y2.trans (u3.mono t_Y2.size)
      replace kz := kz.step u3
      have hne : Hid (∀ g, blk A3 = some g → g ≠ k2) := Lib.hid (fun g hg => by have := (o3.blk_lt g hg).1; have := hlt9; omega)
      replace o3 := o3.lower (base' := W5.heap.size) t_Y2.size
      refine hK.out _ _ (KS5.out _ t_Y3) (fun _ => ?_)
      clear hK K
      refine wpAnyH_ready (rs := [12]) (by kernel_rfl) (by simp) ?_
      refine AllReadyH.cons rfl (fun K hK => ?_) AllReadyH.nil
      obtain ⟨a0, a1, a2, a3, a4, a5, a6, a7, f0, f1, f2, f3, f4, f5, f6, f7, hzl⟩ := kz8_at kz
      have KR : Hid (At (st8 Y3 k2 (.int .u32 f.m) (.int .i64 f.i) (.int .i64 f.o) (.int .i64 x) (.int .u32 f.d) (.int .u32 y) (.int .u32 z) (.slice A3 n c3)) k2 (.cells #[.int .u32 f.m, .int .i64 f.i, .int .i64 f.o, .int .i64 x, .int .u32 f.d, .int .u32 y, .int .u32 z, .slice A3 n c3] 32)) := Lib.hid (kz8_set kz (Value.int .u32 f.m) (.int .i64 f.i) (.int .i64 f.o) (.int .i64 x) (.int .u32 f.d) (.int .u32 y) (.int .u32 z) (.slice A3 n c3))
      have TF : Hid (Below W5.heap.size W5 (st8 Y3 k2 (.int .u32 f.m) (.int .i64 f.i) (.int .i64 f.o) (.int .i64 x) (.int .u32 f.d) (.int .u32 y) (.int .u32 z) (.slice A3 n c3))) := Lib.hid (below_st8 t_Y3 ga.out _ _ _ _ _ _ _ _)
      have OF := Lib.hid (o3.far8ne hne.out (.int .u32 f.m) (.int .i64 f.i) (.int .i64 f.o) (.int .i64 x) (.int .u32 f.d) (.int .u32 y) (.int .u32 z) (.slice A3 n c3))
      clear tt hHeld
      go_simp
      refine hK.out _ _ (KS5.out _ TF.out) (fun _ => ?_)
      clear hK K
      refine wpAnyH_done (by kernel_rfl) ?_ _
      go_wp2_with fail
      go_meet
      case rel => exact ⟨_, _, _, rfl, ga, TF, KR, OF⟩
    refine AllReadyH.cons rfl (fun K hK => ?_) AllReadyH.nil
    go_simp
    obtain ⟨Y1, hY1⟩ : ∃ V, Y0.alloc (.cells #[Value.int .u32 0, .int .i64 0, .int .i64 0, .int .i64 0, .int .u32 0, .int .u32 0, .int .u32 0, .slice none 0 0] 32) = V := ⟨_, rfl⟩
    have u1 : Below Y0.heap.size Y0 Y1 := by rw [← hY1]; exact below_alloc1 _ _
    have kz := At.mk hY1
    have t_Y1 : Below W5.heap.size W5 Y1 := tt.trans (u1.mono tt.size)
    obtain ⟨k1, hk1⟩ : ∃ k, Y0.heap.size = k := ⟨_, rfl⟩
    rw [hk1] at kz
    have ga : Hid (W5.heap.size ≤ k1) := Lib.hid (by rw [← hk1]; exact tt.size)
    have hlt0 := kz.lt
    try rw [hY1]
    try rw [hk1]
    refine hK.out _ _ (KS5.out _ t_Y1) (fun _ => ?_)
    clear hK K
    refine wpAnyH_ready (rs := [1]) (by kernel_rfl) (by simp) ?_
    refine AllReadyH.cons rfl (fun K hK => ?_) AllReadyH.nil
    go_simp
    go_at_call 18
    refine (iface_any f _).mono ?_
    rintro e Y2 ⟨rfl, u2⟩
    have t_Y2 : Below W5.heap.size W5 Y2 := t_Y1.trans (u2.mono t_Y1.size)
    replace kz := kz.step u2
    refine hK.out _ _ (KS5.out _ t_Y2) (fun _ => ?_)
    clear hK K
    refine wpAnyH_ready (rs := [10]) (by kernel_rfl) (by simp) ?_
    refine AllReadyH.cons rfl (fun K hK => ?_) AllReadyH.nil
    have hlt9 := kz.lt
    go_simp
    go_at_call 22
    refine (rmake_any f x y z A n c l _ HN.out (KQ.out _ t_Y2) hn9).mono ?_
    rintro e Y3 ⟨A3, c3, rfl, o3, u3⟩
    have t_Y3 : Below W5.heap.size W5 Y3 := t_Y2.trans (u3.mono t_Y2.size)
    replace kz := kz.step u3
    have hne : Hid (∀ g, blk A3 = some g → g ≠ k1) := Lib.hid (fun g hg => by have := (o3.blk_lt g hg).1; have := hlt9; omega)
    replace o3 := o3.lower (base' := W5.heap.size) t_Y2.size
    refine hK.out _ _ (KS5.out _ t_Y3) (fun _ => ?_)
    clear hK K
    refine wpAnyH_ready (rs := [12]) (by kernel_rfl) (by simp) ?_
    refine AllReadyH.cons rfl (fun K hK => ?_) AllReadyH.nil
    obtain ⟨a0, a1, a2, a3, a4, a5, a6, a7, f0, f1, f2, f3, f4, f5, f6, f7, hzl⟩ := kz8_at kz
    have KR : Hid (At (st8 Y3 k1 (.int .u32 f.m) (.int .i64 f.i) (.int .i64 f.o) (.int .i64 x) (.int .u32 f.d) (.int .u32 y) (.int .u32 z) (.slice A3 n c3)) k1 (.cells #[.int .u32 f.m, .int .i64 f.i, .int .i64 f.o, .int .i64 x, .int .u32 f.d, .int .u32 y, .int .u32 z, .slice A3 n c3] 32)) := Lib.hid (kz8_set kz (Value.int .u32 f.m) (.int .i64 f.i) (.int .i64 f.o) (.int .i64 x) (.int .u32 f.d) (.int .u32 y) (.int .u32 z) (.slice A3 n c3))
    have TF : Hid (Below W5.heap.size W5 (st8 Y3 k1 (.int .u32 f.m) (.int .i64 f.i) (.int .i64 f.o) (.int .i64 x) (.int .u32 f.d) (.int .u32 y) (.int .u32 z) (.slice A3 n c3))) := Lib.hid (below_st8 t_Y3 ga.out _ _ _ _ _ _ _ _)
    have OF := Lib.hid (o3.far8ne hne.out (.int .u32 f.m) (.int .i64 f.i) (.int .i64 f.o) (.int .i64 x) (.int .u32 f.d) (.int .u32 y) (.int .u32 z) (.slice A3 n c3))
    clear tt hHeld
    go_simp
    refine hK.out _ _ (KS5.out _ TF.out) (fun _ => ?_)
    clear hK K
    refine wpAnyH_done (by kernel_rfl) ?_ _
    go_wp2_with fail
    go_meet
    case rel => exact ⟨_, _, _, rfl, ga, TF, KR, OF⟩
  case rest =>
    obtain ⟨a, A6, c6, rfl, ha, T6, K6, O6⟩ := hcut
    have AHc := Lib.hid (AH'.out.step T6.out)
    have AFc := Lib.hid (AF'.out.step T6.out)
    have O4c := Lib.hid (O4.out.step T6.out)
    have O3c := Lib.hid (O35.out.step T6.out)
    have KP0 : Hid (Kp (fun g => blk A3 = some g) wc wc) := Lib.hid (Kp.refl _ _)
    clear O4 O35 AH' AF' KS5 KQ tt
    go_wp2_with fail
    go_loopg [8] n (fun gf v8 wx => ∃ (j : Nat) (B' : List Int), v8 = .int .i64 (j : Int) ∧ Hid (gf + j = n) ∧ Hid (B'.length = n) ∧ Hid (Own .u32 22 wx W1.heap.size A3 c3 B') ∧ Hid (Kp (fun g => blk A3 = some g) wc wx))
    case atStart => exact ⟨0, l, rfl, Lib.hid (by omega), HN, O3c, KP0⟩
    case round =>
      obtain ⟨j, B', rfl, hj, hB', hO, hK⟩ := hrel
      have hj' := hj.out
      clear O3c KP0
      cases gk with
      | succ gf =>
        have lt0 : (j : Int) < (n : Int) := by omega
        have lt1 : j < n := by omega
        have hji2 : (0 : Int) ≤ (j : Int) := by omega
        have hw1 : (j : Int) + 1 ≤ 1000000 := by omega
        obtain ⟨g, hA3, hcx, hfr, hOs⟩ : ∃ g, A3 = some ⟨g, 0, none⟩ ∧ wr.cell? ⟨g, j, none⟩ = some (.int .u32 (B'.getD j 0)) ∧ wr.frozen? ⟨g, j, none⟩ = false ∧ ∀ v, Own .u32 22 (wr.setCell ⟨g, j, none⟩ (.int .u32 v)) W1.heap.size A3 c3 (B'.set j v) := by
          have hOO := hO.out
          rcases hOO.form with ⟨_, _, q⟩ | ⟨g, _, rfl, _⟩
          · have := hB'.out; rw [q] at this; simp at this; omega
          · exact ⟨g, rfl, hOO.cellAt (by rw [hB'.out]; omega), hOO.frozen j, fun v => hOO.set j v⟩
        have HOS := Lib.hid hOs
        have HA3 := Lib.hid hA3
        subst hA3
        generalize hbv : B'.getD j 0 = bv at hcx
        clear hOs hbv
        go_wp2
        go_roundg gf
        case measure => omega
        case rel => exact ⟨j + 1, B'.set j _, by go_num, Lib.hid (by omega), Lib.hid (by rw [List.length_set]; exact hB'.out), Lib.hid (HOS.out _), Lib.hid (hK.out.then_set ⟨g, j, none⟩ _ rfl)⟩
      | zero =>
        have lt0 : decide ((j : Int) < (n : Int)) = false := by simp; omega
        have lt1 : decide (j < n) = false := by simp; omega
        have KN : Hid (∀ b, b < W1.heap.size ∨ W3.heap.size ≤ b → b < wc.heap.size → wr.heap[b]? = wc.heap[b]?) := Lib.hid (fun b hb hl => hK.out.block b hl (fun q => by have := G3.out b q; omega))
        have AHr := Lib.hid (show At wr W4.heap.size _ from (KN.out _ (.inr S34.out.2.1) AHc.out.lt).trans AHc.out)
        have AFr := Lib.hid (show At wr w.heap.size _ from (KN.out _ (.inl (by have := HSW.out; omega)) AFc.out.lt).trans AFc.out)
        have AWr := Lib.hid (show At wr a _ from (KN.out _ (.inr (by have := S34.out; have := ha.out; omega)) K6.out.lt).trans K6.out)
        have O4r := Lib.hid (O4c.out.kept (fun g hg hl => KN.out g (.inr (by have := S34.out; omega)) hl))
        have O6r := Lib.hid (O6.out.kept (fun g hg hl => KN.out g (.inr (by have := S34.out; omega)) hl))
        have T5w : Hid (Below w.heap.size w wc) := Lib.hid (HB.out.trans ((T5.out.trans (T6.out.mono T5.out.size)).mono HB.out.size))
        have Tr : Hid (Below w.heap.size w wr) := Lib.hid (T5w.out.trans (hK.out.below (fun g hg => by have := G3.out g hg; have := HSW.out; omega) T5w.out.size))
        have q4 : Wt wr A4 l := O4r.out.bs
        have q6 : Wt wr A6 l := O6r.out.bs
        obtain ⟨k0, k1, k2, k3, k4, k5, k6, k7, -⟩ := kz8_at AHr.out
        obtain ⟨j0, j1, j2, j3, j4, j5, j6, j7, -⟩ := kz8_at AWr.out
        obtain ⟨g0, g1, g2, g3, g4, g5, -⟩ := kz6_at AFr.out
        have cP : ∀ V A' c', Calls Try.prog 10 #[.agg #[.int .u32 f.m, .int .i64 f.i, .int .i64 f.o, .int .i64 x, .int .u32 f.d, .int .u32 y, .int .u32 z, .slice A' n c']] V fun e w' => e = .returned (.agg #[.int .u32 f.m, .int .i64 f.i, .int .i64 f.o, .int .i64 x, .int .u32 f.d, .int .u32 y, .int .u32 z, .slice A' n c']) ∧ Below V.heap.size V w' := fun V A' c' => plain_any (mk f x y z l) A' n c' V
        have cS : ∀ V A1 c1 A2 c2, Wt V A1 l → Wt V A2 l → Calls Try.prog 15 #[.agg #[.int .u32 f.m, .int .i64 f.i, .int .i64 f.o, .int .i64 x, .int .u32 f.d, .int .u32 y, .int .u32 z, .slice A1 n c1], .agg #[.int .u32 f.m, .int .i64 f.i, .int .i64 f.o, .int .i64 x, .int .u32 f.d, .int .u32 y, .int .u32 z, .slice A2 n c2]] V fun e w' => e = .returned (.bool true) ∧ Below V.heap.size V w' := fun V A1 c1 A2 c2 g1 g2 => same_any (mk f x y z l) A1 A2 n c1 c2 V HN.out g1 g2 hn9
        have cC : ∀ V A' c', Calls Try.prog 16 #[.agg #[.int .u32 f.m, .int .i64 f.i, .int .i64 f.o, .int .u32 f.d, .int .u32 f.r, .bool f.pp], .agg #[.int .u32 f.m, .int .i64 f.i, .int .i64 f.o, .int .i64 x, .int .u32 f.d, .int .u32 y, .int .u32 z, .slice A' n c']] V fun e w' => e = .returned (.int .i64 0) ∧ Below V.heap.size V w' := fun V A' c' => by
          have := check_any f (mk f x y z l) A' n c' V
          rwa [chk_mk] at this
        have cM : ∀ V A' c', Calls Try.prog 11 #[.agg #[.int .u32 f.m, .int .i64 f.i, .int .i64 f.o, .int .i64 x, .int .u32 f.d, .int .u32 y, .int .u32 z, .slice A' n c']] V fun e w' => e = .returned (.bool (mayh (mk f x y z l))) ∧ Below V.heap.size V w' := fun V A' c' => may_any (mk f x y z l) A' n c' V HN.out
        have cE : ∀ V A' c', Wt V A' l → Calls Try.prog 8 #[.agg #[.int .u32 f.m, .int .i64 f.i, .int .i64 f.o, .int .i64 x, .int .u32 f.d, .int .u32 y, .int .u32 z, .slice A' n c']] V fun e w' => ∃ A'' c'', e = .returned (.tuple #[.slice A'' (encL (mk f x y z l)).length c'', .int .i64 (encE (mk f x y z l))]) ∧ Own .u8 5 w' V.heap.size A'' c'' (encL (mk f x y z l)) ∧ Below V.heap.size V w' := fun V A' c' hV => encode_any (mk f x y z l) A' n c' V HN.out ok hV
        have cD : ∀ V A' c' n', Bt V A' (enc (mk f x y z l)) → n' ≤ c' → n' = (enc (mk f x y z l)).length → mayh (mk f x y z l) = true → Calls Try.prog 13 #[.slice A' n' c'] V fun e w' => ∃ A'' c'', e = .returned (.tuple #[.agg #[.int .u32 f.m, .int .i64 f.i, .int .i64 f.o, .int .i64 x, .int .u32 f.d, .int .u32 y, .int .u32 z, .slice A'' n c''], .int .i64 0]) ∧ Own .u32 22 w' V.heap.size A'' c'' l ∧ Below V.heap.size V w' := fun V A' c' n' hV hc' hn' hm => by
          have hle := encL_le (mk f x y z l)
          rw [encL, if_pos hm] at hle
          have := decode_any A' n' c' (enc (mk f x y z l)) V hn'.symm hV (enc_byt _) hc' (by omega)
          rw [decp_enc _ ok hm, flt_enc _ hm] at this
          rw [← HN.out]
          exact this
        obtain ⟨M, hM⟩ : ∃ M, mayh (mk f x y z l) = M := ⟨_, rfl⟩
        have HM := Lib.hid hM
        rw [hM] at cM
        clear hM AHc AFc K6 O4c O6 T6 hO hK KN O4r O6r T5w hB' T5 ok ha G3 S34 HB hj
        go_wp2_with fail
        refine wp_region_quiet_below (by kernel_rfl) (by kernel_rfl) ?_
        have gg0 := cell_regrown k0
        have gg1 := cell_regrown k1
        have gg2 := cell_regrown k2
        have gg3 := cell_regrown k3
        have gg4 := cell_regrown k4
        have gg5 := cell_regrown k5
        have gg6 := cell_regrown k6
        have gg7 := cell_regrown k7
        have gg8 := cell_regrown j0
        have gg9 := cell_regrown j1
        have gg10 := cell_regrown j2
        have gg11 := cell_regrown j3
        have gg12 := cell_regrown j4
        have gg13 := cell_regrown j5
        have gg14 := cell_regrown j6
        have gg15 := cell_regrown j7
        have gg16 := cell_regrown g0
        have gg17 := cell_regrown g1
        have gg18 := cell_regrown g2
        have gg19 := cell_regrown g3
        have gg20 := cell_regrown g4
        have gg21 := cell_regrown g5
        have zz0 : ∀ d os, _ := fun d os => Calls.regrown_of (w := wr) (d := d) (os := os) (cP _ A4 c4)
        have zz1 : ∀ d os, _ := fun d os => Calls.regrown_of (w := wr) (d := d) (os := os) (cS _ A4 c4 A6 c6 (Bs.step q4 (below_regrown wr d os)) (Bs.step q6 (below_regrown wr d os)))
        have zz2 : ∀ d os, _ := fun d os => Calls.regrown_of (w := wr) (d := d) (os := os) (cC _ A4 c4)
        repeat (first | go_big_quiet_step (with_reducible exact zz0 _ _) | go_big_quiet_step (with_reducible exact zz1 _ _) | go_big_quiet_step (with_reducible exact zz2 _ _) | go_big_quiet_step (fail) | go_big_quiet_skip)
        refine wpQuiet_nil ?_
        intro W9 hw'
        obtain ⟨⟨dq, osq⟩, hw''⟩ := hw'
        have hbz := below_regrown wr dq osq
        rw [← hw''] at hbz
        clear hw'' gg0 gg1 gg2 gg3 gg4 gg5 gg6 gg7 gg8 gg9 gg10 gg11 gg12 gg13 gg14 gg15 gg16 gg17 gg18 gg19 gg20 gg21 zz0 zz1 zz2 
        have AH9 := Lib.hid (AHr.out.step hbz)
        have AW9 := Lib.hid (AWr.out.step hbz)
        have T9 := Lib.hid (Tr.out.trans (hbz.mono Tr.out.size))
        replace q4 := Bs.step q4 hbz
        replace q6 := Bs.step q6 hbz
        clear k0 k1 k2 k3 k4 k5 k6 k7 j0 j1 j2 j3 j4 j5 j6 j7 g0 g1 g2 g3 g4 g5 hbz AHr AWr AFr Tr
        obtain ⟨k0, k1, k2, k3, k4, k5, k6, k7, -⟩ := kz8_at AH9.out
        go_wp2_with fail
        refine (cE _ _ _ q4).mono ?_
        rintro e W10 ⟨A10, c10, rfl, o10, u10⟩
        have AHx := Lib.hid (AH9.out.step u10)
        have AWx := Lib.hid (AW9.out.step u10)
        have Tx := Lib.hid (T9.out.trans (u10.mono T9.out.size))
        replace q4 := Bs.step q4 u10
        replace q6 := Bs.step q6 u10
        clear k0 k1 k2 k3 k4 k5 k6 k7 cE cC AH9 AW9 T9 u10
        obtain ⟨k0, k1, k2, k3, k4, k5, k6, k7, -⟩ := kz8_at AHx.out
        cases M
        · have e1 : encE (mk f x y z l) = 1 := by simp [encE, HM.out]
          rw [e1]
          clear e1 o10 cD cP cS
          generalize (encL (mk f x y z l)).length = L
          go_wp2_with fail
          refine (alive_any _).mono ?_
          rintro e W11 ⟨rfl, u11⟩
          have Ty := Lib.hid (Tx.out.trans (u11.mono Tx.out.size))
          clear k0 k1 k2 k3 k4 k5 k6 k7
          obtain ⟨k0, k1, k2, k3, k4, k5, k6, k7, -⟩ := kz8_at (AHx.out.step u11)
          clear u11 q4 q6
          go_wp2_with fail
          refine (cM _ _ _).mono ?_
          rintro e W12 ⟨rfl, u12⟩
          go_wp2
          go_ret
          exact ⟨rfl, Ty.out.trans (u12.mono Ty.out.size)⟩
        · have e1 : encE (mk f x y z l) = 0 := by simp [encE, HM.out]
          have e2 : encL (mk f x y z l) = enc (mk f x y z l) := by simp [encL, HM.out]
          have hc10 := o10.cap_le
          rw [e2] at o10 hc10
          rw [e1, e2]
          have q10 := o10.bs
          obtain ⟨L, hL⟩ : ∃ L, (enc (mk f x y z l)).length = L := ⟨_, rfl⟩
          rw [hL] at hc10 ⊢
          have HL := Lib.hid hL
          clear e1 e2 o10 hL cM
          go_wp2_with fail
          refine (cD _ _ _ _ q10 hc10 HL.out.symm HM.out).mono ?_
          rintro e W11 ⟨A11, c11, rfl, o11, u11⟩
          obtain ⟨W12, hW12⟩ : ∃ V, W11.alloc (.cells #[.int .u32 f.m, .int .i64 f.i, .int .i64 f.o, .int .i64 x, .int .u32 f.d, .int .u32 y, .int .u32 z, .slice A11 n c11] 25) = V := ⟨_, rfl⟩
          have u12 : Below W11.heap.size W11 W12 := by rw [← hW12]; exact below_alloc1 _ _
          have uu : Below W10.heap.size W10 W12 := u11.trans (u12.mono u11.size)
          have AK : At W12 W11.heap.size (.cells #[.int .u32 f.m, .int .i64 f.i, .int .i64 f.o, .int .i64 x, .int .u32 f.d, .int .u32 y, .int .u32 z, .slice A11 n c11] 25) := At.mk hW12
          have Ty := Lib.hid (Tx.out.trans (uu.mono Tx.out.size))
          have q11 := Bs.step o11.bs u12
          replace q6 := Bs.step q6 uu
          clear k0 k1 k2 k3 k4 k5 k6 k7
          obtain ⟨k0, k1, k2, k3, k4, k5, k6, k7, -⟩ := kz8_at AK
          obtain ⟨j0, j1, j2, j3, j4, j5, j6, j7, -⟩ := kz8_at (AWx.out.step uu)
          clear o11 u11 u12 uu q10 q4 AK
          go_wp2_with fail
          clear hW12
          refine wp_region_quiet_below (by kernel_rfl) (by kernel_rfl) ?_
          have gg0 := cell_regrown k0
          have gg1 := cell_regrown k1
          have gg2 := cell_regrown k2
          have gg3 := cell_regrown k3
          have gg4 := cell_regrown k4
          have gg5 := cell_regrown k5
          have gg6 := cell_regrown k6
          have gg7 := cell_regrown k7
          have gg8 := cell_regrown j0
          have gg9 := cell_regrown j1
          have gg10 := cell_regrown j2
          have gg11 := cell_regrown j3
          have gg12 := cell_regrown j4
          have gg13 := cell_regrown j5
          have gg14 := cell_regrown j6
          have gg15 := cell_regrown j7
          have zz0 : ∀ d os, _ := fun d os => Calls.regrown_of (w := W12) (d := d) (os := os) (alive_any _)
          have zz1 : ∀ d os, _ := fun d os => Calls.regrown_of (w := W12) (d := d) (os := os) (cP _ A11 c11)
          have zz2 : ∀ d os, _ := fun d os => Calls.regrown_of (w := W12) (d := d) (os := os) (cS _ A11 c11 A6 c6 (Bs.step q11 (below_regrown W12 d os)) (Bs.step q6 (below_regrown W12 d os)))
          repeat (first | go_big_quiet_step (with_reducible exact zz0 _ _) | go_big_quiet_step (with_reducible exact zz1 _ _) | go_big_quiet_step (with_reducible exact zz2 _ _) | go_big_quiet_step (fail) | go_big_quiet_skip)
          refine wpQuiet_nil ?_
          intro W9 hw'
          obtain ⟨⟨dq, osq⟩, hw''⟩ := hw'
          have hbz := below_regrown W12 dq osq
          rw [← hw''] at hbz
          clear hw'' gg0 gg1 gg2 gg3 gg4 gg5 gg6 gg7 gg8 gg9 gg10 gg11 gg12 gg13 gg14 gg15 zz0 zz1 zz2 
          go_wp2
          go_ret
          exact ⟨rfl, Ty.out.trans (hbz.mono Ty.out.size)⟩
end Go.Proofs.Ytdjblkmhlghglaa
