/-
  The walk of the law PlistRule. No statement is proved here; no conditions.
-/
import Derived.Test.YtkofpijhihghpaaDoorAlv
namespace Go.Proofs.YtkofpijhihghpaaDoor
open Go.RowKit Go.Joins

set_option maxRecDepth 100000 in
set_option maxHeartbeats 4000000 in
theorem rule_walk (x : Ru) (B : Nat) (M : Int) (w : World) (ht : Tab w) (hx : Wf x) (hB : B < 4294967296) : Calls Tryd.prog 3 #[rv x, pf B M] w fun e w' => e = .returned (.bool true) ∧ Below w.heap.size w w' := by
  have cT : ∀ W, Tab W → _ := fun W hT => ptext_any x W hx hT
  have cU := fun W => qtext_any x W hx
  have cP := fun W => pparse_any (rtx x) W (Nat.le_trans (rtx_len hx) (by omega))
  have cM := fun W => pmay_any x W hx.A
  have cN := fun W => qmay_any x W hx.A
  have cE := fun W => means_any x B M W hx.A hB
  have cF := fun W => qmeans_any x B M W hx.A hB
  have cp := fun W => plain_any x W
  obtain ⟨f1, f2⟩ := pw_rtx hx.A
  generalize rtx x = T at *
  obtain ⟨R, hR⟩ : ∃ R, pw (wds T) = R := ⟨_, rfl⟩
  rw [hR] at cP f1 f2
  clear hR
  generalize mns x B M = MN at *
  obtain ⟨OK, hOK⟩ : ∃ v, okr x = v := ⟨_, rfl⟩
  rw [hOK] at cM cN f1 f2
  obtain ⟨y, E⟩ := R
  simp only at cP f1 f2
  clear hOK hx
  obtain ⟨s, p, A, N, g, h⟩ := x
  obtain ⟨s', p', A', N', g', h'⟩ := y
  obtain ⟨W0, hW0⟩ : ∃ W0, w.alloc (.cells #[.int .i64 s, .bool p, .int .u32 (A : Int), .int .i64 N, .int .i64 g, .int .i64 h] 26) = W0 := ⟨_, rfl⟩
  have s0 : W0.heap.size = w.heap.size + 1 := by rw [← hW0]; simp
  obtain ⟨W1, hW1⟩ : ∃ W1, W0.alloc (.cells #[.int .u32 (B : Int), .int .i64 M] 24) = W1 := ⟨_, rfl⟩
  have b0 : Below w.heap.size w W0 := by rw [← hW0]; exact below_alloc1 _ _
  have b1 : Below W0.heap.size W0 W1 := by rw [← hW1]; exact below_alloc1 _ _
  have hb1 : Below w.heap.size w W1 := b0.trans (b1.mono (by omega))
  have HB : Hid (Below w.heap.size w W1) := Lib.hid hb1
  have KX : Hid (∀ V, Below W1.heap.size W1 V → _) := Lib.hid (fun V hV => rb_new hW0 (b1.trans (hV.mono b1.size)))
  have KQ : Hid (∀ V, Below W1.heap.size W1 V → V.cell? ⟨w.heap.size + 1, 0, none⟩ = some (.int .u32 (B : Int)) ∧ V.cell? ⟨w.heap.size + 1, 1, none⟩ = some (.int .i64 M)) :=
    Lib.hid (fun V hV => by have := pb_new hW1 hV; rwa [s0] at this)
  have HT := Lib.hid (ht.step hb1)
  clear b0 b1 hb1 ht
  obtain ⟨k0, k1, k2, k3, k4, k5⟩ := KX.out _ (Below.refl _ _)
  go_enter Tryd.func3, Tryd.ntmps3
  go_wp2_with fail
  refine (cT _ HT.out).mono ?_
  rintro e V1 ⟨rfl, hv1⟩
  clear hW0 hW1 s0
  go_wp2_with fail
  refine (cP _).mono ?_
  rintro e V2 ⟨rfl, hv2⟩
  replace hv2 := hv1.trans (hv2.mono hv1.size)
  obtain ⟨V3, hV3⟩ : ∃ V, V2.alloc (.cells #[.int .i64 s', .bool p', .int .u32 (A' : Int), .int .i64 N', .int .i64 g', .int .i64 h'] 26) = V := ⟨_, rfl⟩
  have b3 : Below V2.heap.size V2 V3 := by rw [← hV3]; exact below_alloc1 _ _
  have hv3 : Below W1.heap.size W1 V3 := hv2.trans (b3.mono hv2.size)
  have KY : Hid (∀ V, Below V3.heap.size V3 V → _) := Lib.hid (fun V hV => rb_new hV3 hV)
  have HV3 := Lib.hid hv3
  clear hv1 hv2 b3 k0 k1 k2 k3 k4 k5 cP
  obtain ⟨k0, k1, k2, k3, k4, k5⟩ := KX.out _ hv3
  go_wp2_with fail
  refine (cM _).mono ?_
  rintro e V4 ⟨rfl, hv4⟩
  have HV4 : Hid (Below W1.heap.size W1 V4) := Lib.hid (hv3.trans (hv4.mono hv3.size))
  obtain ⟨j0, j1, j2, j3, j4, j5⟩ := KY.out _ hv4
  clear hV3 hv3 k0 k1 k2 k3 k4 k5 hv4
  obtain ⟨k0, k1, k2, k3, k4, k5⟩ := KX.out _ HV4.out
  obtain ⟨q0, q1⟩ := KQ.out _ HV4.out
  cases OK with
  | true =>
    have hE : E = 0 := by simpa using f1
    have hy := f2 rfl
    simp only [Ru.mk.injEq] at hy
    obtain ⟨e1, e2, e3, e4, e5, e6⟩ := hy
    subst e1 e2 e3 e4 e5 e6 hE
    clear f1 f2
    go_upto_region 4 with fail
    refine wp_region_quiet_below (by kernel_rfl) (by kernel_rfl) ?_
    have gg0 := cell_regrown k0
    have gg1 := cell_regrown k1
    have gg2 := cell_regrown k2
    have gg3 := cell_regrown k3
    have gg4 := cell_regrown k4
    have gg5 := cell_regrown k5
    have gg6 := cell_regrown q0
    have gg7 := cell_regrown q1
    have zz0 : ∀ d os, _ := fun d os => Calls.regrown_of (w := V4) (d := d) (os := os) (alive_any _ (HT.out.step (HV4.out.trans ((below_regrown _ _ _).mono HV4.out.size))))
    have zz1 : ∀ d os, _ := fun d os => Calls.regrown_of (w := V4) (d := d) (os := os) (cM _)
    have zz2 : ∀ d os, _ := fun d os => Calls.regrown_of (w := V4) (d := d) (os := os) (cp _)
    have zz3 : ∀ d os, _ := fun d os => Calls.regrown_of (w := V4) (d := d) (os := os) (cN _)
    have zz4 : ∀ d os, _ := fun d os => Calls.regrown_of (w := V4) (d := d) (os := os) (cE _)
    have zz5 : ∀ d os, _ := fun d os => Calls.regrown_of (w := V4) (d := d) (os := os) (cF _)
    have zz6 : ∀ d os, _ := fun d os => Calls.regrown_of (w := V4) (d := d) (os := os) (cT _ (HT.out.step (HV4.out.trans ((below_regrown _ _ _).mono HV4.out.size))))
    have zz7 : ∀ d os, _ := fun d os => Calls.regrown_of (w := V4) (d := d) (os := os) (cU _)
    repeat (first | go_big_quiet_step (with_reducible exact zz0 _ _) | go_big_quiet_step (with_reducible exact zz1 _ _) | go_big_quiet_step (with_reducible exact zz2 _ _) | go_big_quiet_step (with_reducible exact zz3 _ _) | go_big_quiet_step (with_reducible exact zz4 _ _) | go_big_quiet_step (with_reducible exact zz5 _ _) | go_big_quiet_step (with_reducible exact zz6 _ _) | go_big_quiet_step (with_reducible exact zz7 _ _) | go_big_quiet_step (fail) | go_big_quiet_skip)
    refine wpQuiet_nil ?_
    intro W9 hw'
    obtain ⟨⟨dq, osq⟩, hw''⟩ := hw'
    have hbz := below_regrown V4 dq osq
    rw [← hw''] at hbz
    clear hw'' gg0 gg1 gg2 gg3 gg4 gg5 gg6 gg7 zz0 zz1 zz2 zz3 zz4 zz5 zz6 zz7
    clear k0 k1 k2 k3 k4 k5 q0 q1
    go_wp2
    go_ret
    exact ⟨rfl, HB.out.trans ((HV4.out.trans (hbz.mono HV4.out.size)).mono HB.out.size)⟩
  | false =>
    have hE : (E == 0) = false := by simpa using f1
    clear f1 f2
    go_upto_region 4 with fail
    refine wp_region_quiet_below (by kernel_rfl) (by kernel_rfl) ?_
    have gg0 := cell_regrown k0
    have gg1 := cell_regrown k1
    have gg2 := cell_regrown k2
    have gg3 := cell_regrown k3
    have gg4 := cell_regrown k4
    have gg5 := cell_regrown k5
    have gg6 := cell_regrown q0
    have gg7 := cell_regrown q1
    have zz0 : ∀ d os, _ := fun d os => Calls.regrown_of (w := V4) (d := d) (os := os) (alive_any _ (HT.out.step (HV4.out.trans ((below_regrown _ _ _).mono HV4.out.size))))
    have zz1 : ∀ d os, _ := fun d os => Calls.regrown_of (w := V4) (d := d) (os := os) (cM _)
    have zz2 : ∀ d os, _ := fun d os => Calls.regrown_of (w := V4) (d := d) (os := os) (cp _)
    have zz3 : ∀ d os, _ := fun d os => Calls.regrown_of (w := V4) (d := d) (os := os) (cN _)
    have zz4 : ∀ d os, _ := fun d os => Calls.regrown_of (w := V4) (d := d) (os := os) (cE _)
    have zz5 : ∀ d os, _ := fun d os => Calls.regrown_of (w := V4) (d := d) (os := os) (cF _)
    have zz6 : ∀ d os, _ := fun d os => Calls.regrown_of (w := V4) (d := d) (os := os) (cT _ (HT.out.step (HV4.out.trans ((below_regrown _ _ _).mono HV4.out.size))))
    have zz7 : ∀ d os, _ := fun d os => Calls.regrown_of (w := V4) (d := d) (os := os) (cU _)
    repeat (first | go_big_quiet_step (with_reducible exact zz0 _ _) | go_big_quiet_step (with_reducible exact zz1 _ _) | go_big_quiet_step (with_reducible exact zz2 _ _) | go_big_quiet_step (with_reducible exact zz3 _ _) | go_big_quiet_step (with_reducible exact zz4 _ _) | go_big_quiet_step (with_reducible exact zz5 _ _) | go_big_quiet_step (with_reducible exact zz6 _ _) | go_big_quiet_step (with_reducible exact zz7 _ _) | go_big_quiet_step (fail) | go_big_quiet_skip)
    refine wpQuiet_nil ?_
    intro W9 hw'
    obtain ⟨⟨dq, osq⟩, hw''⟩ := hw'
    have hbz := below_regrown V4 dq osq
    rw [← hw''] at hbz
    clear hw'' gg0 gg1 gg2 gg3 gg4 gg5 gg6 gg7 zz0 zz1 zz2 zz3 zz4 zz5 zz6 zz7
    clear k0 k1 k2 k3 k4 k5 q0 q1
    go_wp2
    go_ret
    exact ⟨rfl, HB.out.trans ((HV4.out.trans (hbz.mono HV4.out.size)).mono HB.out.size)⟩
end Go.Proofs.YtkofpijhihghpaaDoor
