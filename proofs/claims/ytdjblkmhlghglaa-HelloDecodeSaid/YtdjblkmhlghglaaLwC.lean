/-
  The walk of the law HelloCheck. No statement is proved here; no conditions.
-/
import Derived.Test.YtdjblkmhlghglaaAl
namespace Go.Proofs.Ytdjblkmhlghglaa
open Go.RowKit Go.Joins

set_option maxRecDepth 100000 in
set_option maxHeartbeats 2000000 in
theorem check_walk (f : If) (h : He) (A : Option Addr) (n c : Nat) (w : World) (hn : h.s.length = n) (hb : Wt w A h.s) :
    Calls Try.prog 5 #[.agg #[.int .u32 f.m, .int .i64 f.i, .int .i64 f.o, .int .u32 f.d, .int .u32 f.r, .bool f.pp], .agg #[.int .u32 h.m, .int .i64 h.i, .int .i64 h.o, .int .i64 h.p, .int .u32 h.d, .int .u32 h.r, .int .u32 h.b, .slice A n c]] w fun e w' => e = .returned (.bool true) ∧ Below w.heap.size w w' := by
  obtain ⟨W0, hW0⟩ : ∃ V, w.alloc (.cells #[.int .u32 f.m, .int .i64 f.i, .int .i64 f.o, .int .u32 f.d, .int .u32 f.r, .bool f.pp] 43) = V := ⟨_, rfl⟩
  have bW0 : Below w.heap.size w W0 := by rw [← hW0]; exact below_alloc1 _ _
  have sW0 : W0.heap.size = w.heap.size + 1 := by rw [← hW0]; simp
  have KX : Hid (∀ V, Below W0.heap.size W0 V → V.cell? ⟨w.heap.size, 0, none⟩ = some (.int .u32 f.m) ∧ V.cell? ⟨w.heap.size, 1, none⟩ = some (.int .i64 f.i) ∧ V.cell? ⟨w.heap.size, 2, none⟩ = some (.int .i64 f.o) ∧ V.cell? ⟨w.heap.size, 3, none⟩ = some (.int .u32 f.d) ∧ V.cell? ⟨w.heap.size, 4, none⟩ = some (.int .u32 f.r) ∧ V.cell? ⟨w.heap.size, 5, none⟩ = some (.bool f.pp)) := Lib.hid (fun V hV => kb6_new hW0 hV)
  obtain ⟨W1, hW1⟩ : ∃ V, W0.alloc (.cells #[.int .u32 h.m, .int .i64 h.i, .int .i64 h.o, .int .i64 h.p, .int .u32 h.d, .int .u32 h.r, .int .u32 h.b, .slice A n c] 25) = V := ⟨_, rfl⟩
  have bW1 : Below W0.heap.size W0 W1 := by rw [← hW1]; exact below_alloc1 _ _
  have sW1 : W1.heap.size = W0.heap.size + 1 := by rw [← hW1]; simp
  have KY : Hid (∀ V, Below W1.heap.size W1 V → V.cell? ⟨W0.heap.size, 0, none⟩ = some (.int .u32 h.m) ∧ V.cell? ⟨W0.heap.size, 1, none⟩ = some (.int .i64 h.i) ∧ V.cell? ⟨W0.heap.size, 2, none⟩ = some (.int .i64 h.o) ∧ V.cell? ⟨W0.heap.size, 3, none⟩ = some (.int .i64 h.p) ∧ V.cell? ⟨W0.heap.size, 4, none⟩ = some (.int .u32 h.d) ∧ V.cell? ⟨W0.heap.size, 5, none⟩ = some (.int .u32 h.r) ∧ V.cell? ⟨W0.heap.size, 6, none⟩ = some (.int .u32 h.b) ∧ V.cell? ⟨W0.heap.size, 7, none⟩ = some (.slice A n c)) := Lib.hid (fun V hV => kb8_new hW1 hV)
  have b2 : Below w.heap.size w W1 := bW0.trans (bW1.mono bW0.size)
  obtain ⟨k0, k1, k2, k3, k4, k5⟩ := KX.out _ bW1
  have kj := KY.out _ (Below.refl _ _)
  rw [sW0] at kj
  obtain ⟨j0, j1, j2, j3, j4, j5, j6, j7⟩ := kj
  have q0 := hb.step b2
  have B2 := Lib.hid b2
  clear bW0 bW1 KX KY b2 hb
  by_cases h1 : 1300 < n
  · have h2 : (n : Int) > 1300 := by omega
    go_enter Try.func5, Try.ntmps5
    go_wp2_with fail
    refine (alive_any _).mono ?_
    rintro e V1 ⟨rfl, hv1⟩
    go_wp2
    go_ret
    exact ⟨rfl, B2.out.trans (hv1.mono B2.out.size)⟩
  have h2 : ¬ ((n : Int) > 1300) := by omega
  have cC := fun V => check_any f h A n c V
  have cD := fun V => rcheck_any f h A n c V
  have cP := fun V => plain_any h A n c V
  have cI := fun V => iface_any f V
  have cB : ∀ V, Below W1.heap.size W1 V → _ := fun V hV => both_any f h A n c V hn (q0.step hV) (by omega)
  have cR : ∀ V, Below W1.heap.size W1 V → _ := fun V hV => rboth_any f h A n c V hn (q0.step hV) (by omega)
  generalize chk f h = E at *
  generalize decide (f.r ∈ h.s) = D at *
  clear hn h1
  go_enter Try.func5, Try.ntmps5
  go_wp2_with fail
  refine wp_region_quiet_below (by kernel_rfl) (by kernel_rfl) ?_
  have gg0 := cell_regrown k0
  have gg1 := cell_regrown k1
  have gg2 := cell_regrown k2
  have gg3 := cell_regrown k3
  have gg4 := cell_regrown k4
  have gg5 := cell_regrown k5
  have gg6 := cell_regrown j0
  have gg7 := cell_regrown j1
  have gg8 := cell_regrown j2
  have gg9 := cell_regrown j3
  have gg10 := cell_regrown j4
  have gg11 := cell_regrown j5
  have gg12 := cell_regrown j6
  have gg13 := cell_regrown j7
  have zz0 : ∀ d os, _ := fun d os => Calls.regrown_of (w := W1) (d := d) (os := os) (alive_any _)
  have zz1 : ∀ d os, _ := fun d os => Calls.regrown_of (w := W1) (d := d) (os := os) (cC _)
  have zz2 : ∀ d os, _ := fun d os => Calls.regrown_of (w := W1) (d := d) (os := os) (cD _)
  have zz3 : ∀ d os, _ := fun d os => Calls.regrown_of (w := W1) (d := d) (os := os) (cP _)
  have zz4 : ∀ d os, _ := fun d os => Calls.regrown_of (w := W1) (d := d) (os := os) (cI _)
  have zz5 : ∀ d os, _ := fun d os => Calls.regrown_of (w := W1) (d := d) (os := os) (cB _ (below_regrown W1 d os))
  have zz6 : ∀ d os, _ := fun d os => Calls.regrown_of (w := W1) (d := d) (os := os) (cR _ (below_regrown W1 d os))
  repeat (first | go_big_quiet_step (with_reducible exact zz0 _ _) | go_big_quiet_step (with_reducible exact zz1 _ _) | go_big_quiet_step (with_reducible exact zz2 _ _) | go_big_quiet_step (with_reducible exact zz3 _ _) | go_big_quiet_step (with_reducible exact zz4 _ _) | go_big_quiet_step (with_reducible exact zz5 _ _) | go_big_quiet_step (with_reducible exact zz6 _ _) | go_big_quiet_step (fail) | go_big_quiet_skip)
  refine wpQuiet_nil ?_
  intro W9 hw'
  obtain ⟨⟨dq, osq⟩, hw''⟩ := hw'
  have hbz := below_regrown W1 dq osq
  rw [← hw''] at hbz
  clear hw'' gg0 gg1 gg2 gg3 gg4 gg5 gg6 gg7 gg8 gg9 gg10 gg11 gg12 gg13 zz0 zz1 zz2 zz3 zz4 zz5 zz6 
  go_wp2
  go_ret
  exact ⟨rfl, B2.out.trans (hbz.mono B2.out.size)⟩
end Go.Proofs.Ytdjblkmhlghglaa
