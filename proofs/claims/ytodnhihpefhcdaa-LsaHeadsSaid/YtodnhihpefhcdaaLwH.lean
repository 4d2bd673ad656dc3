/-
  The walk of the law LsaHeads. No statement is proved here; no conditions.
-/
import Derived.Test.YtodnhihpefhcdaaAl
import Derived.Test.YtodnhihpefhcdaaRHe
namespace Go.Proofs.Ytodnhihpefhcdaa
open Go.RowKit Go.Joins

set_option maxRecDepth 100000 in
set_option maxHeartbeats 4000000 in
theorem heads_walk (h : Hd) (w : World) (ok : Okd h) :
    Calls Try.prog 3 #[.agg #[.int .i64 h.a, .int .i64 h.o, .int .i64 h.t, .int .u32 h.i, .int .u32 h.v, .int .u32 h.q, .int .i64 h.s, .int .i64 h.n]] w fun e w' => e = .returned (.bool true) ∧ Below w.heap.size w w' := by
  obtain ⟨X, hX⟩ : ∃ X, encH h = X := ⟨_, rfl⟩
  obtain ⟨m, hm⟩ : ∃ m, X.length = m := ⟨_, rfl⟩
  obtain ⟨E, hE⟩ : ∃ E, encE h = E := ⟨_, rfl⟩
  have cH : ∀ V, Calls Try.prog 6 #[.agg #[.int .i64 h.a, .int .i64 h.o, .int .i64 h.t, .int .u32 h.i, .int .u32 h.v, .int .u32 h.q, .int .i64 h.s, .int .i64 h.n]] V fun e w' => ∃ A' c', e = .returned (.tuple #[.slice A' m c', .int .i64 E]) ∧ Own .u8 5 w' V.heap.size A' c' X ∧ Below V.heap.size V w' := fun V => by
    have := head_any h V ok
    rwa [hX, hm, hE] at this
  have cR : ∀ V, Calls Try.prog 7 #[.agg #[.int .i64 h.a, .int .i64 h.o, .int .i64 h.t, .int .u32 h.i, .int .u32 h.v, .int .u32 h.q, .int .i64 h.s, .int .i64 h.n]] V fun e w' => ∃ A' c', e = .returned (.tuple #[.slice A' m c', .int .i64 E]) ∧ Own .u8 5 w' V.heap.size A' c' X ∧ Below V.heap.size V w' := fun V => by
    have := rhead_any h V ok
    rwa [hX, hm, hE] at this
  have cM := fun V => may_any h V
  have cN := fun V => rmay_any h V
  have cK := fun V => key_any h V
  have cL := fun V => rkey_any h V
  have cX := fun V => next_any h.q V ok.q.1 ok.q.2
  have cY := fun V => rnext_any h.q V ok.q.1 ok.q.2
  generalize mayd h = M at *
  generalize nxt h.q = q1 at *
  generalize nxtE h.q = q2 at *
  obtain ⟨W0, hW0⟩ : ∃ V, w.alloc (.cells #[.int .i64 h.a, .int .i64 h.o, .int .i64 h.t, .int .u32 h.i, .int .u32 h.v, .int .u32 h.q, .int .i64 h.s, .int .i64 h.n] 24) = V := ⟨_, rfl⟩
  have bW0 : Below w.heap.size w W0 := by rw [← hW0]; exact below_alloc1 _ _
  have sW0 : W0.heap.size = w.heap.size + 1 := by rw [← hW0]; simp
  have KX : Hid (∀ V, Below W0.heap.size W0 V → V.cell? ⟨w.heap.size, 0, none⟩ = some (.int .i64 h.a) ∧ V.cell? ⟨w.heap.size, 1, none⟩ = some (.int .i64 h.o) ∧ V.cell? ⟨w.heap.size, 2, none⟩ = some (.int .i64 h.t) ∧ V.cell? ⟨w.heap.size, 3, none⟩ = some (.int .u32 h.i) ∧ V.cell? ⟨w.heap.size, 4, none⟩ = some (.int .u32 h.v) ∧ V.cell? ⟨w.heap.size, 5, none⟩ = some (.int .u32 h.q) ∧ V.cell? ⟨w.heap.size, 6, none⟩ = some (.int .i64 h.s) ∧ V.cell? ⟨w.heap.size, 7, none⟩ = some (.int .i64 h.n)) := Lib.hid (fun V hV => kb8_new hW0 hV)
  have HB : Hid (Below w.heap.size w W0) := Lib.hid bW0
  have T0 : Below W0.heap.size W0 W0 := Below.refl _ _
  clear hX hE bW0 ok
  obtain ⟨k0, k1, k2, k3, k4, k5, k6, k7⟩ := KX.out _ T0
  go_enter Try.func3, Try.ntmps3
  go_wp2_with fail
  refine (cH _).mono ?_
  rintro e W3 ⟨A3, c3, rfl, o3, u3⟩
  have T3 := Lib.hid u3
  have B3 := Lib.hid o3.bs
  clear k0 k1 k2 k3 k4 k5 k6 k7 hW0 o3 u3
  obtain ⟨k0, k1, k2, k3, k4, k5, k6, k7⟩ := KX.out _ T3.out
  go_wp2_with fail
  refine (cR _).mono ?_
  rintro e W5 ⟨A5, c5, rfl, o5, u5⟩
  have T5 := Lib.hid (T3.out.trans (u5.mono T3.out.size))
  have q5 := o5.bs
  have q3 := Bs.step B3.out u5
  clear k0 k1 k2 k3 k4 k5 k6 k7 o5 u5
  obtain ⟨k0, k1, k2, k3, k4, k5, k6, k7⟩ := KX.out _ T5.out
  go_wp2_with fail
  refine (cX _).mono ?_
  rintro e _ ⟨rfl, rfl⟩
  go_wp2_with fail
  refine (cY _).mono ?_
  rintro e _ ⟨rfl, rfl⟩
  go_wp2_with fail
  refine wp_region_quiet_below (by kernel_rfl) (by kernel_rfl) ?_
  have gg0 := cell_regrown k0
  have gg1 := cell_regrown k1
  have gg2 := cell_regrown k2
  have gg3 := cell_regrown k3
  have gg4 := cell_regrown k4
  have gg5 := cell_regrown k5
  have gg6 := cell_regrown k6
  have gg7 := cell_regrown k7
  have ss0 := str_regrown (c := c3) q3 hm.symm
  have ss1 := str_regrown (c := c5) q5 hm.symm
  have zz0 : ∀ d os, _ := fun d os => Calls.regrown_of (w := W5) (d := d) (os := os) (alive_any _)
  have zz1 : ∀ d os, _ := fun d os => Calls.regrown_of (w := W5) (d := d) (os := os) (cM _)
  have zz2 : ∀ d os, _ := fun d os => Calls.regrown_of (w := W5) (d := d) (os := os) (cN _)
  have zz3 : ∀ d os, _ := fun d os => Calls.regrown_of (w := W5) (d := d) (os := os) (cK _)
  have zz4 : ∀ d os, _ := fun d os => Calls.regrown_of (w := W5) (d := d) (os := os) (cL _)
  repeat (first | go_big_quiet_step (with_reducible exact zz0 _ _) | go_big_quiet_step (with_reducible exact zz1 _ _) | go_big_quiet_step (with_reducible exact zz2 _ _) | go_big_quiet_step (with_reducible exact zz3 _ _) | go_big_quiet_step (with_reducible exact zz4 _ _) | go_big_quiet_step (fail) | go_big_quiet_skip)
  refine wpQuiet_nil ?_
  intro W9 hw'
  obtain ⟨⟨dq, osq⟩, hw''⟩ := hw'
  have hbz := below_regrown W5 dq osq
  rw [← hw''] at hbz
  clear hw'' gg0 gg1 gg2 gg3 gg4 gg5 gg6 gg7 zz0 zz1 zz2 zz3 zz4 ss0 ss1
  go_wp2
  go_ret
  have T9 := T5.out.trans (hbz.mono T5.out.size)
  exact ⟨rfl, HB.out.trans (T9.mono HB.out.size)⟩
end Go.Proofs.Ytodnhihpefhcdaa
