/-
  The walk of the law HeadEncode. No statement is proved here; no conditions.
-/
import Derived.Test.YtfhickgdmcmodaaAl
namespace Go.Proofs.Ytfhickgdmcmodaa
open Go.RowKit Go.Joins

/-- A string out of bytes that are read, in every world of the class. -/
theorem str_regrown {w : World} {A : Option Addr} {l : List Int} {n c : Nat} (h : Bt w A l) (hn : n = l.length) (d : Nat) (os : Array Obj) : (convert 24 9 (.slice A n c)).run Try.prog (Go.Sort.grow (redrawn w d) os) = .ok (.string (strOfNums l)) (Go.Sort.grow (redrawn w d) os) := by
  subst hn
  exact run_str _ 24 5 9 Try.underlying24 Try.underlying5 Try.underlying9 _ A c l (h.step (below_regrown w d os))
set_option maxRecDepth 100000 in
set_option maxHeartbeats 2000000 in
theorem encode_walk (p : Pk) (A : Option Addr) (c : Nat) (w : World) (ok : Okp p) (hb : Bt w A p.b) :
    Calls Try.prog 3 #[pv' p A c] w fun e w' => e = .returned (.bool true) ∧ Below w.heap.size w w' := by
  obtain ⟨n, hn⟩ : ∃ n, p.b.length = n := ⟨_, rfl⟩
  obtain ⟨X, hX⟩ : ∃ X, encL p = X := ⟨_, rfl⟩
  obtain ⟨m, hm⟩ : ∃ m, X.length = m := ⟨_, rfl⟩
  have cP : ∀ V, Calls Try.prog 10 #[.agg #[.int .i64 p.t, .int .u32 p.r, .int .u32 p.a, .int .i64 p.u, .int .u8 p.h0, .int .u8 p.h1, .int .u8 p.h2, .int .u8 p.h3, .int .u8 p.h4, .int .u8 p.h5, .int .u8 p.h6, .int .u8 p.h7, .slice A n c]] V fun e w' => e = .returned (.agg #[.int .i64 p.t, .int .u32 p.r, .int .u32 p.a, .int .i64 p.u, .int .u8 p.h0, .int .u8 p.h1, .int .u8 p.h2, .int .u8 p.h3, .int .u8 p.h4, .int .u8 p.h5, .int .u8 p.h6, .int .u8 p.h7, .slice A n c]) ∧ Below V.heap.size V w' := fun V => by
    have := plain_any p A c V
    unfold pv' at this
    rwa [hn] at this
  have cM : ∀ V, Calls Try.prog 11 #[.agg #[.int .i64 p.t, .int .u32 p.r, .int .u32 p.a, .int .i64 p.u, .int .u8 p.h0, .int .u8 p.h1, .int .u8 p.h2, .int .u8 p.h3, .int .u8 p.h4, .int .u8 p.h5, .int .u8 p.h6, .int .u8 p.h7, .slice A n c]] V fun e w' => e = .returned (.bool (mayp p)) ∧ Below V.heap.size V w' := fun V => by
    have := may_any p A c V
    unfold pv' at this
    rwa [hn] at this
  have cN : ∀ V, Calls Try.prog 12 #[.agg #[.int .i64 p.t, .int .u32 p.r, .int .u32 p.a, .int .i64 p.u, .int .u8 p.h0, .int .u8 p.h1, .int .u8 p.h2, .int .u8 p.h3, .int .u8 p.h4, .int .u8 p.h5, .int .u8 p.h6, .int .u8 p.h7, .slice A n c]] V fun e w' => e = .returned (.bool (mayp p)) ∧ Below V.heap.size V w' := fun V => by
    have := rmay_any p A c V
    unfold pv' at this
    rwa [hn] at this
  have cE : ∀ V, Bt V A p.b → Calls Try.prog 8 #[.agg #[.int .i64 p.t, .int .u32 p.r, .int .u32 p.a, .int .i64 p.u, .int .u8 p.h0, .int .u8 p.h1, .int .u8 p.h2, .int .u8 p.h3, .int .u8 p.h4, .int .u8 p.h5, .int .u8 p.h6, .int .u8 p.h7, .slice A n c]] V fun e w' => ∃ A' c', e = .returned (.tuple #[.slice A' m c', .int .i64 (encE p)]) ∧ Own .u8 5 w' V.heap.size A' c' X ∧ Below V.heap.size V w' := fun V hV => by
    have := encode_any p A c V ok hV
    unfold pv' at this
    rw [hn, hX, hm] at this
    exact this
  have cR : ∀ V, Bt V A p.b → Calls Try.prog 9 #[.agg #[.int .i64 p.t, .int .u32 p.r, .int .u32 p.a, .int .i64 p.u, .int .u8 p.h0, .int .u8 p.h1, .int .u8 p.h2, .int .u8 p.h3, .int .u8 p.h4, .int .u8 p.h5, .int .u8 p.h6, .int .u8 p.h7, .slice A n c]] V fun e w' => ∃ A' c', e = .returned (.tuple #[.slice A' m c', .int .i64 (encE p)]) ∧ Own .u8 5 w' V.heap.size A' c' X ∧ Below V.heap.size V w' := fun V hV => by
    have := rencode_any p A c V ok hV
    unfold pv' at this
    rw [hn, hX, hm] at this
    exact this
  unfold pv'
  rw [hn]
  obtain ⟨W0, hW0⟩ : ∃ W0, w.alloc (.cells #[.int .i64 p.t, .int .u32 p.r, .int .u32 p.a, .int .i64 p.u, .int .u8 p.h0, .int .u8 p.h1, .int .u8 p.h2, .int .u8 p.h3, .int .u8 p.h4, .int .u8 p.h5, .int .u8 p.h6, .int .u8 p.h7, .slice A n c] 26) = W0 := ⟨_, rfl⟩
  have b0 : Below w.heap.size w W0 := by rw [← hW0]; exact below_alloc1 _ _
  have s0 : W0.heap.size = w.heap.size + 1 := by rw [← hW0]; simp
  have KX : Hid (∀ V, Below W0.heap.size W0 V → V.cell? ⟨w.heap.size, 0, none⟩ = some (.int .i64 p.t) ∧ V.cell? ⟨w.heap.size, 1, none⟩ = some (.int .u32 p.r) ∧ V.cell? ⟨w.heap.size, 2, none⟩ = some (.int .u32 p.a) ∧ V.cell? ⟨w.heap.size, 3, none⟩ = some (.int .i64 p.u) ∧ V.cell? ⟨w.heap.size, 4, none⟩ = some (.int .u8 p.h0) ∧ V.cell? ⟨w.heap.size, 5, none⟩ = some (.int .u8 p.h1) ∧ V.cell? ⟨w.heap.size, 6, none⟩ = some (.int .u8 p.h2) ∧ V.cell? ⟨w.heap.size, 7, none⟩ = some (.int .u8 p.h3) ∧ V.cell? ⟨w.heap.size, 8, none⟩ = some (.int .u8 p.h4) ∧ V.cell? ⟨w.heap.size, 9, none⟩ = some (.int .u8 p.h5) ∧ V.cell? ⟨w.heap.size, 10, none⟩ = some (.int .u8 p.h6) ∧ V.cell? ⟨w.heap.size, 11, none⟩ = some (.int .u8 p.h7) ∧ V.cell? ⟨w.heap.size, 12, none⟩ = some (.slice A n c)) := Lib.hid (fun V hV => kb_new hW0 hV)
  have hb0 := hb.step b0
  have HB : Hid (Below w.heap.size w W0) := Lib.hid b0
  have T0 : Below W0.heap.size W0 W0 := Below.refl _ _
  clear hX b0 ok
  obtain ⟨k0, k1, k2, k3, k4, k5, k6, k7, k8, k9, k10, k11, k12⟩ := KX.out _ T0
  by_cases h1 : 1600 < n
  · have h2 : (n : Int) > 1600 := by omega
    go_enter Try.func3, Try.ntmps3
    go_wp2_with fail
    refine (alive_any _).mono ?_
    rintro e V1 ⟨rfl, hv1⟩
    go_wp2
    go_ret
    exact ⟨rfl, HB.out.trans (hv1.mono HB.out.size)⟩
  have h2 : ¬ ((n : Int) > 1600) := by omega
  obtain ⟨W1, hW1⟩ : ∃ V, W0.alloc (.cells #[] 5) = V := ⟨_, rfl⟩
  have b1 : Below W0.heap.size W0 W1 := by rw [← hW1]; exact below_alloc1 _ _
  have o1 : Own .u8 5 W1 W0.heap.size (some ⟨w.heap.size + 1, 0, none⟩) 0 [] := by
    rw [← hW1, ← s0]
    exact Own.empty W0 _ (Nat.le_refl _) _ _
  obtain ⟨i0, hi0, hz0, hz1, hz2⟩ := info_of info5
  obtain ⟨A2, c2, W2, rW2, oW2, tW2⟩ := run_app (P := Try.prog) W1 W0.heap.size 24 24 5 .u8 i0 _ 1 Try.underlying24 hi0 hz0 hz1 hz2 rfl _ _ _ o1 _ A c _ (hb0.step b1) (by simp only [maxLen, List.length_nil] <;> omega) (by simp only [List.length_nil] <;> omega) b1.size
  have t2 : Below W0.heap.size W0 W2 := b1.trans tW2
  rw [List.nil_append] at oW2
  simp only [List.nil_append, List.length_nil, hn] at rW2
  obtain ⟨j0, j1, j2, j3, j4, j5, j6, j7, j8, j9, j10, j11, j12⟩ := KX.out _ b1
  obtain ⟨l0, l1, l2, l3, l4, l5, l6, l7, l8, l9, l10, l11, l12⟩ := KX.out _ t2
  have T2 := Lib.hid t2
  have O2 := Lib.hid oW2
  clear t2 o1 tW2 oW2 b1
  go_enter Try.func3, Try.ntmps3
  go_wp2_with (at_builtin; refine wpList_runb _ rfl (.tmp 13) (.tmp 15) 24 rfl rfl rfl rW2 ?_)
  clear hW0 hW1 rW2 k0 k1 k2 k3 k4 k5 k6 k7 k8 k9 k10 k11 k12 j0 j1 j2 j3 j4 j5 j6 j7 j8 j9 j10 j11 j12 l0 l1 l2 l3 l4 l5 l6 l7 l8 l9 l10 l11 l12
  refine (cE _ (hb0.step T2.out)).mono ?_
  rintro e W3 ⟨A3, c3, rfl, o3, u3⟩
  have T3 := Lib.hid (T2.out.trans (u3.mono T2.out.size))
  have B3 := Lib.hid o3.bs
  have B2 := Lib.hid (Bs.step O2.out.bs u3)
  obtain ⟨k0, k1, k2, k3, k4, k5, k6, k7, k8, k9, k10, k11, k12⟩ := KX.out _ T3.out
  clear o3 u3 O2
  go_wp2_with fail
  refine (cP _).mono ?_
  rintro e W4 ⟨rfl, u4⟩
  have T4 := Lib.hid (T3.out.trans (u4.mono T3.out.size))
  go_wp2_with fail
  refine (cR _ (hb0.step T4.out)).mono ?_
  rintro e W5 ⟨A5, c5, rfl, o5, u5⟩
  have T5 := Lib.hid (T4.out.trans (u5.mono T4.out.size))
  have q5 := o5.bs
  have q3 := Bs.step (Bs.step B3.out u4) u5
  have q2 := Bs.step (Bs.step B2.out u4) u5
  have q0 := hb0.step T5.out
  clear k0 k1 k2 k3 k4 k5 k6 k7 k8 k9 k10 k11 k12 o5 u5 u4
  obtain ⟨k0, k1, k2, k3, k4, k5, k6, k7, k8, k9, k10, k11, k12⟩ := KX.out _ T5.out
  generalize encE p = E at *
  go_wp2_with fail
  refine wp_region_quiet_below (by kernel_rfl) (by kernel_rfl) ?_
  have gg0 := cell_regrown k0
  have gg1 := cell_regrown k1
  have gg2 := cell_regrown k2
  have gg3 := cell_regrown k3
  have gg4 := cell_regrown k4
  have gg5 := cell_regrown k5
  have gg6 := cell_regrown k6
  have gg7 := cell_regrown k7
  have gg8 := cell_regrown k8
  have gg9 := cell_regrown k9
  have gg10 := cell_regrown k10
  have gg11 := cell_regrown k11
  have gg12 := cell_regrown k12
  have ss0 := str_regrown (c := c3) q3 hm.symm
  have ss1 := str_regrown (c := c5) q5 hm.symm
  have ss2 := str_regrown (c := c2) q2 hn.symm
  have ss3 := str_regrown (c := c) q0 hn.symm
  have zz0 : ∀ d os, _ := fun d os => Calls.regrown_of (w := W5) (d := d) (os := os) (alive_any _)
  have zz1 : ∀ d os, _ := fun d os => Calls.regrown_of (w := W5) (d := d) (os := os) (cP _)
  have zz2 : ∀ d os, _ := fun d os => Calls.regrown_of (w := W5) (d := d) (os := os) (cM _)
  have zz3 : ∀ d os, _ := fun d os => Calls.regrown_of (w := W5) (d := d) (os := os) (cN _)
  repeat (first | go_big_quiet_step (with_reducible exact zz0 _ _) | go_big_quiet_step (with_reducible exact zz1 _ _) | go_big_quiet_step (with_reducible exact zz2 _ _) | go_big_quiet_step (with_reducible exact zz3 _ _) | go_big_quiet_step (fail) | go_big_quiet_skip)
  refine wpQuiet_nil ?_
  intro W9 hw'
  obtain ⟨⟨dq, osq⟩, hw''⟩ := hw'
  have hbz := below_regrown W5 dq osq
  rw [← hw''] at hbz
  clear hw'' gg0 gg1 gg2 gg3 gg4 gg5 gg6 gg7 gg8 gg9 gg10 gg11 gg12 zz0 zz1 zz2 zz3 ss0 ss1 ss2 ss3
  go_wp2
  go_ret
  have T9 := T5.out.trans (hbz.mono T5.out.size)
  exact ⟨rfl, HB.out.trans (T9.mono HB.out.size)⟩
end Go.Proofs.Ytfhickgdmcmodaa
