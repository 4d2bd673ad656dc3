/-
  The walk of the law HelloEncode. No statement is proved here; no conditions.
-/
import Derived.Test.YtdjblkmhlghglaaAl
namespace Go.Proofs.Ytdjblkmhlghglaa
open Go.RowKit Go.Joins

set_option maxRecDepth 100000 in
set_option maxHeartbeats 2000000 in
theorem encode_walk (h : He) (A : Option Addr) (n c : Nat) (w : World) (hn : h.s.length = n) (ok : Okh h) (hb : Wt w A h.s) :
    Calls Try.prog 3 #[.agg #[.int .u32 h.m, .int .i64 h.i, .int .i64 h.o, .int .i64 h.p, .int .u32 h.d, .int .u32 h.r, .int .u32 h.b, .slice A n c]] w fun e w' => e = .returned (.bool true) ∧ Below w.heap.size w w' := by
  obtain ⟨X, hX⟩ : ∃ X, encL h = X := ⟨_, rfl⟩
  obtain ⟨m, hm⟩ : ∃ m, X.length = m := ⟨_, rfl⟩
  have cP := fun V => plain_any h A n c V
  have cM := fun V => may_any h A n c V hn
  have cN := fun V => rmay_any h A n c V hn
  have cE : ∀ V, Wt V A h.s → Calls Try.prog 8 #[.agg #[.int .u32 h.m, .int .i64 h.i, .int .i64 h.o, .int .i64 h.p, .int .u32 h.d, .int .u32 h.r, .int .u32 h.b, .slice A n c]] V fun e w' => ∃ A' c', e = .returned (.tuple #[.slice A' m c', .int .i64 (encE h)]) ∧ Own .u8 5 w' V.heap.size A' c' X ∧ Below V.heap.size V w' := fun V hV => by
    have := encode_any h A n c V hn ok hV
    rwa [hX, hm] at this
  have cR : ∀ V, Wt V A h.s → Calls Try.prog 9 #[.agg #[.int .u32 h.m, .int .i64 h.i, .int .i64 h.o, .int .i64 h.p, .int .u32 h.d, .int .u32 h.r, .int .u32 h.b, .slice A n c]] V fun e w' => ∃ A' c', e = .returned (.tuple #[.slice A' m c', .int .i64 (encE h)]) ∧ Own .u8 5 w' V.heap.size A' c' X ∧ Below V.heap.size V w' := fun V hV => by
    have := rencode_any h A n c V hn ok hV
    rwa [hX, hm] at this
  obtain ⟨W0, hW0⟩ : ∃ V, w.alloc (.cells #[.int .u32 h.m, .int .i64 h.i, .int .i64 h.o, .int .i64 h.p, .int .u32 h.d, .int .u32 h.r, .int .u32 h.b, .slice A n c] 25) = V := ⟨_, rfl⟩
  have bW0 : Below w.heap.size w W0 := by rw [← hW0]; exact below_alloc1 _ _
  have sW0 : W0.heap.size = w.heap.size + 1 := by rw [← hW0]; simp
  have KX : Hid (∀ V, Below W0.heap.size W0 V → V.cell? ⟨w.heap.size, 0, none⟩ = some (.int .u32 h.m) ∧ V.cell? ⟨w.heap.size, 1, none⟩ = some (.int .i64 h.i) ∧ V.cell? ⟨w.heap.size, 2, none⟩ = some (.int .i64 h.o) ∧ V.cell? ⟨w.heap.size, 3, none⟩ = some (.int .i64 h.p) ∧ V.cell? ⟨w.heap.size, 4, none⟩ = some (.int .u32 h.d) ∧ V.cell? ⟨w.heap.size, 5, none⟩ = some (.int .u32 h.r) ∧ V.cell? ⟨w.heap.size, 6, none⟩ = some (.int .u32 h.b) ∧ V.cell? ⟨w.heap.size, 7, none⟩ = some (.slice A n c)) := Lib.hid (fun V hV => kb8_new hW0 hV)
  have hb0 := hb.step bW0
  have HB : Hid (Below w.heap.size w W0) := Lib.hid bW0
  have T0 : Below W0.heap.size W0 W0 := Below.refl _ _
  clear hX bW0 ok hn
  obtain ⟨k0, k1, k2, k3, k4, k5, k6, k7⟩ := KX.out _ T0
  by_cases h1 : 1300 < n
  · have h2 : (n : Int) > 1300 := by omega
    go_enter Try.func3, Try.ntmps3
    go_wp2_with fail
    refine (alive_any _).mono ?_
    rintro e V1 ⟨rfl, hv1⟩
    go_wp2
    go_ret
    exact ⟨rfl, HB.out.trans (hv1.mono HB.out.size)⟩
  have h2 : ¬ ((n : Int) > 1300) := by omega
  go_enter Try.func3, Try.ntmps3
  go_wp2_with fail
  refine (cE _ hb0).mono ?_
  rintro e W3 ⟨A3, c3, rfl, o3, u3⟩
  have T3 := Lib.hid u3
  have B3 := Lib.hid o3.bs
  clear k0 k1 k2 k3 k4 k5 k6 k7 hW0 o3 u3
  obtain ⟨k0, k1, k2, k3, k4, k5, k6, k7⟩ := KX.out _ T3.out
  go_wp2_with fail
  refine (cP _).mono ?_
  rintro e W4 ⟨rfl, u4⟩
  have T4 := Lib.hid (T3.out.trans (u4.mono T3.out.size))
  go_wp2_with fail
  refine (cR _ (hb0.step T4.out)).mono ?_
  rintro e W5 ⟨A5, c5, rfl, o5, u5⟩
  have T5 := Lib.hid (T4.out.trans (u5.mono T4.out.size))
  have q5 := o5.bs
  have q3 := Bs.step (Bs.step B3.out u4) u5
  clear k0 k1 k2 k3 k4 k5 k6 k7 o5 u5 u4
  obtain ⟨k0, k1, k2, k3, k4, k5, k6, k7⟩ := KX.out _ T5.out
  generalize encE h = E at *
  go_wp2_with fail
  refine wp_region_quiet_below (by kernel_rfl) (by kernel_rfl) ?_
  have gg0 := cell_regrown k0
  have gg1 := cell_regrown k1
  have gg2 := cell_regrown k2
  have gg3 := cell_regrown k3
  have gg4 := cell_regrown k4
  have gg5 := cell_regrown k5
  have gg6 := cell_regrown k6
  have gg7 := cell_regrown k7
  have ss0 := str_regrown (c := c3) q3 hm.symm
  have ss1 := str_regrown (c := c5) q5 hm.symm
  have zz0 : ∀ d os, _ := fun d os => Calls.regrown_of (w := W5) (d := d) (os := os) (alive_any _)
  have zz1 : ∀ d os, _ := fun d os => Calls.regrown_of (w := W5) (d := d) (os := os) (cP _)
  have zz2 : ∀ d os, _ := fun d os => Calls.regrown_of (w := W5) (d := d) (os := os) (cM _)
  have zz3 : ∀ d os, _ := fun d os => Calls.regrown_of (w := W5) (d := d) (os := os) (cN _)
  repeat (first | go_big_quiet_step (with_reducible exact zz0 _ _) | go_big_quiet_step (with_reducible exact zz1 _ _) | go_big_quiet_step (with_reducible exact zz2 _ _) | go_big_quiet_step (with_reducible exact zz3 _ _) | go_big_quiet_step (fail) | go_big_quiet_skip)
  refine wpQuiet_nil ?_
  intro W9 hw'
  obtain ⟨⟨dq, osq⟩, hw''⟩ := hw'
  have hbz := below_regrown W5 dq osq
  rw [← hw''] at hbz
  clear hw'' gg0 gg1 gg2 gg3 gg4 gg5 gg6 gg7 zz0 zz1 zz2 zz3 ss0 ss1
  go_wp2
  go_ret
  have T9 := T5.out.trans (hbz.mono T5.out.size)
  exact ⟨rfl, HB.out.trans (T9.mono HB.out.size)⟩
end Go.Proofs.Ytdjblkmhlghglaa
