/-
  The walk of the law BodyRight. No statement is proved here; no conditions.
-/
import Derived.Test.YtmgfcpbeammopaaAl
namespace Go.Proofs.Ytmgfcpbeammopaa
open Go.RowKit Go.Joins

set_option maxRecDepth 100000 in
set_option maxHeartbeats 4000000 in
theorem right_walk (a o t i v q s z : Int) (A : Option Addr) (n c : Nat) (l : List Int) (w : World) (hn : l.length = n) (hb : Bt w A l) (hy : Byt l) (hc : n ≤ c) :
    Calls Try.prog 6 #[.agg #[.int .i64 a, .int .i64 o, .int .i64 t, .int .u32 i, .int .u32 v, .int .u32 q, .int .i64 s, .int .i64 z, .slice A n c]] w fun e w' => e = .returned (.bool true) ∧ Below w.heap.size w w' := by
  obtain ⟨W0, hW0⟩ : ∃ V, w.alloc (.cells #[.int .i64 a, .int .i64 o, .int .i64 t, .int .u32 i, .int .u32 v, .int .u32 q, .int .i64 s, .int .i64 z, .slice A n c] 63) = V := ⟨_, rfl⟩
  have bW0 : Below w.heap.size w W0 := by rw [← hW0]; exact below_alloc1 _ _
  have sW0 : W0.heap.size = w.heap.size + 1 := by rw [← hW0]; simp
  have KX : Hid (∀ V, Below W0.heap.size W0 V → V.cell? ⟨w.heap.size, 0, none⟩ = some (.int .i64 a) ∧ V.cell? ⟨w.heap.size, 1, none⟩ = some (.int .i64 o) ∧ V.cell? ⟨w.heap.size, 2, none⟩ = some (.int .i64 t) ∧ V.cell? ⟨w.heap.size, 3, none⟩ = some (.int .u32 i) ∧ V.cell? ⟨w.heap.size, 4, none⟩ = some (.int .u32 v) ∧ V.cell? ⟨w.heap.size, 5, none⟩ = some (.int .u32 q) ∧ V.cell? ⟨w.heap.size, 6, none⟩ = some (.int .i64 s) ∧ V.cell? ⟨w.heap.size, 7, none⟩ = some (.int .i64 z) ∧ V.cell? ⟨w.heap.size, 8, none⟩ = some (.slice A n c)) := Lib.hid (fun V hV => kb9_new hW0 hV)
  have q0 := hb.step bW0
  have HB := Lib.hid bW0
  obtain ⟨k0, k1, k2, k3, k4, k5, k6, k7, k8⟩ := KX.out _ (Below.refl _ _)
  by_cases h1 : 1400 < n
  · have h2 : (n : Int) > 1400 := by omega
    clear hn hb hy hc q0 bW0 KX
    go_enter Try.func6, Try.ntmps6
    go_wp2_with fail
    refine (alive_any _).mono ?_
    rintro e V1 ⟨rfl, hv1⟩
    go_wp2
    go_ret
    exact ⟨rfl, HB.out.trans (hv1.mono HB.out.size)⟩
  have h2 : ¬ ((n : Int) > 1400) := by omega
  have CA := fun V hV => right_any a o t i v q s z A n c l V hn hV hy hc (by omega)
  have CB := fun V hV => rright_any a o t i v q s z A n c l V hn hV hy hc (by omega)
  have r0 := run_str (P := Try.prog) (w := W0) 25 5 9 Try.underlying25 Try.underlying5 Try.underlying9 _ A c l q0
  rw [hn] at r0
  generalize rgt t l = G at *
  clear hb hy hc bW0 KX h1
  go_enter Try.func6, Try.ntmps6
  go_wp2_with fail
  refine wp_region_quiet_below (by kernel_rfl) (by kernel_rfl) ?_
  have gg0 := cell_regrown k0
  have gg1 := cell_regrown k1
  have gg2 := cell_regrown k2
  have gg3 := cell_regrown k3
  have gg4 := cell_regrown k4
  have gg5 := cell_regrown k5
  have gg6 := cell_regrown k6
  have gg7 := cell_regrown k7
  have gg8 := cell_regrown k8
  have ss0 := str_regrown (c := c) q0 hn.symm
  have zz0 : ∀ d os, _ := fun d os => Calls.regrown_of (w := W0) (d := d) (os := os) (alive_any _)
  have zz1 : ∀ d os, _ := fun d os => Calls.regrown_of (w := W0) (d := d) (os := os) (CA _ (q0.step (below_regrown W0 d os)))
  have zz2 : ∀ d os, _ := fun d os => Calls.regrown_of (w := W0) (d := d) (os := os) (CB _ (q0.step (below_regrown W0 d os)))
  repeat (first | go_big_quiet_step (with_reducible exact zz0 _ _) | go_big_quiet_step (with_reducible exact zz1 _ _) | go_big_quiet_step (with_reducible exact zz2 _ _) | go_big_quiet_step (fail) | go_big_quiet_skip)
  refine wpQuiet_nil ?_
  intro W9 hw'
  obtain ⟨⟨dq, osq⟩, hw''⟩ := hw'
  have hbz := below_regrown W0 dq osq
  rw [← hw''] at hbz
  clear hw'' gg0 gg1 gg2 gg3 gg4 gg5 gg6 gg7 gg8 zz0 zz1 zz2 ss0
  go_wp2
  go_ret
  exact ⟨rfl, HB.out.trans (hbz.mono HB.out.size)⟩
end Go.Proofs.Ytmgfcpbeammopaa
