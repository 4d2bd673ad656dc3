/-
  The walk of the law HeadAccept. No statement is proved here; no conditions.
-/
import Derived.Test.YtfhickgdmcmodaaLwE
namespace Go.Proofs.Ytfhickgdmcmodaa
open Go.RowKit Go.Joins

theorem gate_new {w W0 W : World} {t : TypeId} {v0 v1 v2 v3 v4 v5 v6 v7 v8 v9 : Value} (h0 : w.alloc (.cells #[v0, v1, v2, v3, v4, v5, v6, v7, v8, v9] t) = W0) (h : Below W0.heap.size W0 W) :
    W.cell? ⟨w.heap.size, 0, none⟩ = some v0 ∧ W.cell? ⟨w.heap.size, 1, none⟩ = some v1 ∧ W.cell? ⟨w.heap.size, 2, none⟩ = some v2 ∧ W.cell? ⟨w.heap.size, 3, none⟩ = some v3 ∧ W.cell? ⟨w.heap.size, 4, none⟩ = some v4 ∧ W.cell? ⟨w.heap.size, 5, none⟩ = some v5 ∧ W.cell? ⟨w.heap.size, 6, none⟩ = some v6 ∧ W.cell? ⟨w.heap.size, 7, none⟩ = some v7 ∧ W.cell? ⟨w.heap.size, 8, none⟩ = some v8 ∧ W.cell? ⟨w.heap.size, 9, none⟩ = some v9 := by
  subst h0
  have k := (h.block w.heap.size (by simp)).trans (alloc_at _ _ _ rfl)
  exact ⟨(cell_of_block k 0).trans rfl, (cell_of_block k 1).trans rfl, (cell_of_block k 2).trans rfl, (cell_of_block k 3).trans rfl, (cell_of_block k 4).trans rfl, (cell_of_block k 5).trans rfl, (cell_of_block k 6).trans rfl, (cell_of_block k 7).trans rfl, (cell_of_block k 8).trans rfl, (cell_of_block k 9).trans rfl⟩
set_option maxRecDepth 100000 in
set_option maxHeartbeats 2000000 in
theorem accept_walk (p : Pk) (A : Option Addr) (c : Nat) (ga gu y0 y1 y2 y3 y4 y5 y6 y7 : Int) (w : World) :
    Calls Try.prog 5 #[pv' p A c, .agg #[.int .u32 ga, .int .i64 gu, .int .u8 y0, .int .u8 y1, .int .u8 y2, .int .u8 y3, .int .u8 y4, .int .u8 y5, .int .u8 y6, .int .u8 y7]] w fun e w' => e = .returned (.bool true) ∧ Below w.heap.size w w' := by
  obtain ⟨n, hn⟩ : ∃ n, p.b.length = n := ⟨_, rfl⟩
  obtain ⟨E, hE⟩ : ∃ E, acc p ga gu [y0, y1, y2, y3, y4, y5, y6, y7] = E := ⟨_, rfl⟩
  have e0 : acc p p.a p.u (au p) = 0 := by simp [acc]
  have cA : ∀ V, Calls Try.prog 16 #[.agg #[.int .i64 p.t, .int .u32 p.r, .int .u32 p.a, .int .i64 p.u, .int .u8 p.h0, .int .u8 p.h1, .int .u8 p.h2, .int .u8 p.h3, .int .u8 p.h4, .int .u8 p.h5, .int .u8 p.h6, .int .u8 p.h7, .slice A n c], .int .u32 ga, .int .i64 gu, .agg #[.int .u8 y0, .int .u8 y1, .int .u8 y2, .int .u8 y3, .int .u8 y4, .int .u8 y5, .int .u8 y6, .int .u8 y7]] V fun e w' => e = .returned (.int .i64 E) ∧ Below V.heap.size V w' := fun V => by
    have := accept_any p A c ga gu y0 y1 y2 y3 y4 y5 y6 y7 V
    unfold pv' at this
    rwa [hn, hE] at this
  have cB : ∀ V, Calls Try.prog 17 #[.agg #[.int .i64 p.t, .int .u32 p.r, .int .u32 p.a, .int .i64 p.u, .int .u8 p.h0, .int .u8 p.h1, .int .u8 p.h2, .int .u8 p.h3, .int .u8 p.h4, .int .u8 p.h5, .int .u8 p.h6, .int .u8 p.h7, .slice A n c], .int .u32 ga, .int .i64 gu, .agg #[.int .u8 y0, .int .u8 y1, .int .u8 y2, .int .u8 y3, .int .u8 y4, .int .u8 y5, .int .u8 y6, .int .u8 y7]] V fun e w' => e = .returned (.int .i64 E) ∧ Below V.heap.size V w' := fun V => by
    have := raccept_any p A c ga gu y0 y1 y2 y3 y4 y5 y6 y7 V
    unfold pv' at this
    rwa [hn, hE] at this
  have cC : ∀ V, Calls Try.prog 16 #[.agg #[.int .i64 p.t, .int .u32 p.r, .int .u32 p.a, .int .i64 p.u, .int .u8 p.h0, .int .u8 p.h1, .int .u8 p.h2, .int .u8 p.h3, .int .u8 p.h4, .int .u8 p.h5, .int .u8 p.h6, .int .u8 p.h7, .slice A n c], .int .u32 p.a, .int .i64 p.u, .agg #[.int .u8 p.h0, .int .u8 p.h1, .int .u8 p.h2, .int .u8 p.h3, .int .u8 p.h4, .int .u8 p.h5, .int .u8 p.h6, .int .u8 p.h7]] V fun e w' => e = .returned (.int .i64 0) ∧ Below V.heap.size V w' := fun V => by
    have := accept_any p A c p.a p.u p.h0 p.h1 p.h2 p.h3 p.h4 p.h5 p.h6 p.h7 V
    unfold pv' at this
    rw [hn] at this
    rw [show acc p p.a p.u [p.h0, p.h1, p.h2, p.h3, p.h4, p.h5, p.h6, p.h7] = 0 from e0] at this
    exact this
  have cP : ∀ V, Calls Try.prog 10 #[.agg #[.int .i64 p.t, .int .u32 p.r, .int .u32 p.a, .int .i64 p.u, .int .u8 p.h0, .int .u8 p.h1, .int .u8 p.h2, .int .u8 p.h3, .int .u8 p.h4, .int .u8 p.h5, .int .u8 p.h6, .int .u8 p.h7, .slice A n c]] V fun e w' => e = .returned (.agg #[.int .i64 p.t, .int .u32 p.r, .int .u32 p.a, .int .i64 p.u, .int .u8 p.h0, .int .u8 p.h1, .int .u8 p.h2, .int .u8 p.h3, .int .u8 p.h4, .int .u8 p.h5, .int .u8 p.h6, .int .u8 p.h7, .slice A n c]) ∧ Below V.heap.size V w' := fun V => by
    have := plain_any p A c V
    unfold pv' at this
    rwa [hn] at this
  unfold pv'
  rw [hn]
  obtain ⟨W0, hW0⟩ : ∃ W0, w.alloc (.cells #[.int .i64 p.t, .int .u32 p.r, .int .u32 p.a, .int .i64 p.u, .int .u8 p.h0, .int .u8 p.h1, .int .u8 p.h2, .int .u8 p.h3, .int .u8 p.h4, .int .u8 p.h5, .int .u8 p.h6, .int .u8 p.h7, .slice A n c] 26) = W0 := ⟨_, rfl⟩
  have b0 : Below w.heap.size w W0 := by rw [← hW0]; exact below_alloc1 _ _
  have s0 : W0.heap.size = w.heap.size + 1 := by rw [← hW0]; simp
  have KX : Hid (∀ V, Below W0.heap.size W0 V → V.cell? ⟨w.heap.size, 0, none⟩ = some (.int .i64 p.t) ∧ V.cell? ⟨w.heap.size, 1, none⟩ = some (.int .u32 p.r) ∧ V.cell? ⟨w.heap.size, 2, none⟩ = some (.int .u32 p.a) ∧ V.cell? ⟨w.heap.size, 3, none⟩ = some (.int .i64 p.u) ∧ V.cell? ⟨w.heap.size, 4, none⟩ = some (.int .u8 p.h0) ∧ V.cell? ⟨w.heap.size, 5, none⟩ = some (.int .u8 p.h1) ∧ V.cell? ⟨w.heap.size, 6, none⟩ = some (.int .u8 p.h2) ∧ V.cell? ⟨w.heap.size, 7, none⟩ = some (.int .u8 p.h3) ∧ V.cell? ⟨w.heap.size, 8, none⟩ = some (.int .u8 p.h4) ∧ V.cell? ⟨w.heap.size, 9, none⟩ = some (.int .u8 p.h5) ∧ V.cell? ⟨w.heap.size, 10, none⟩ = some (.int .u8 p.h6) ∧ V.cell? ⟨w.heap.size, 11, none⟩ = some (.int .u8 p.h7) ∧ V.cell? ⟨w.heap.size, 12, none⟩ = some (.slice A n c)) := Lib.hid (fun V hV => kb_new hW0 hV)
  obtain ⟨W1, hW1⟩ : ∃ V, W0.alloc (.cells #[.int .u32 ga, .int .i64 gu, .int .u8 y0, .int .u8 y1, .int .u8 y2, .int .u8 y3, .int .u8 y4, .int .u8 y5, .int .u8 y6, .int .u8 y7] 43) = V := ⟨_, rfl⟩
  have b1 : Below W0.heap.size W0 W1 := by rw [← hW1]; exact below_alloc1 _ _
  have B1 : Below w.heap.size w W1 := b0.trans (b1.mono b0.size)
  obtain ⟨k0, k1, k2, k3, k4, k5, k6, k7, k8, k9, k10, k11, k12⟩ := KX.out _ b1
  have hg := gate_new hW1 (Below.refl _ _)
  rw [s0] at hg
  obtain ⟨g0, g1, g2, g3, g4, g5, g6, g7, g8, g9⟩ := hg
  clear b0 b1 hE e0
  go_enter Try.func5, Try.ntmps5
  go_wp2_with fail
  refine wp_region_quiet_below (by kernel_rfl) (by kernel_rfl) ?_
  have gg0 := cell_regrown k0
  have gg1 := cell_regrown k1
  have gg2 := cell_regrown k2
  have gg3 := cell_regrown k3
  have gg4 := cell_regrown k4
  have gg5 := cell_regrown k5
  have gg6 := cell_regrown k6
  have gg7 := cell_regrown k7
  have gg8 := cell_regrown k8
  have gg9 := cell_regrown k9
  have gg10 := cell_regrown k10
  have gg11 := cell_regrown k11
  have gg12 := cell_regrown k12
  have gg13 := cell_regrown g0
  have gg14 := cell_regrown g1
  have gg15 := cell_regrown g2
  have gg16 := cell_regrown g3
  have gg17 := cell_regrown g4
  have gg18 := cell_regrown g5
  have gg19 := cell_regrown g6
  have gg20 := cell_regrown g7
  have gg21 := cell_regrown g8
  have gg22 := cell_regrown g9
  have zz0 : ∀ d os, _ := fun d os => Calls.regrown_of (w := W1) (d := d) (os := os) (alive_any _)
  have zz1 : ∀ d os, _ := fun d os => Calls.regrown_of (w := W1) (d := d) (os := os) (cA _)
  have zz2 : ∀ d os, _ := fun d os => Calls.regrown_of (w := W1) (d := d) (os := os) (cP _)
  have zz3 : ∀ d os, _ := fun d os => Calls.regrown_of (w := W1) (d := d) (os := os) (cB _)
  have zz4 : ∀ d os, _ := fun d os => Calls.regrown_of (w := W1) (d := d) (os := os) (cC _)
  repeat (first | go_big_quiet_step (with_reducible exact zz0 _ _) | go_big_quiet_step (with_reducible exact zz1 _ _) | go_big_quiet_step (with_reducible exact zz2 _ _) | go_big_quiet_step (with_reducible exact zz3 _ _) | go_big_quiet_step (with_reducible exact zz4 _ _) | go_big_quiet_step (fail) | go_big_quiet_skip)
  refine wpQuiet_nil ?_
  intro W9 hw'
  obtain ⟨⟨dq, osq⟩, hw''⟩ := hw'
  have hbz := below_regrown W1 dq osq
  rw [← hw''] at hbz
  clear hw'' gg0 gg1 gg2 gg3 gg4 gg5 gg6 gg7 gg8 gg9 gg10 gg11 gg12 gg13 gg14 gg15 gg16 gg17 gg18 gg19 gg20 gg21 gg22 zz0 zz1 zz2 zz3 zz4 
  go_wp2
  go_ret
  exact ⟨rfl, B1.trans (hbz.mono B1.size)⟩
end Go.Proofs.Ytfhickgdmcmodaa
