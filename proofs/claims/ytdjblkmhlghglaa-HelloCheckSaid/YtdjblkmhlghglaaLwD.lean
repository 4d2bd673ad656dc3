/-
  The walk of the law HelloDecode. No statement is proved here; no conditions.
-/
import Derived.Test.YtdjblkmhlghglaaAl
namespace Go.Proofs.Ytdjblkmhlghglaa
open Go.RowKit Go.Joins

set_option maxRecDepth 100000 in
set_option maxHeartbeats 4000000 in
theorem decode_walk (A : Option Addr) (n c : Nat) (l : List Int) (w : World) (hn : l.length = n) (hb : Bt w A l) (hy : Byt l) (hc : n ≤ c) :
    Calls Try.prog 4 #[.slice A n c] w fun e w' => e = .returned (.bool true) ∧ Below w.heap.size w w' := by
  by_cases h1 : 1300 < n
  · have h2 : (n : Int) > 1300 := by omega
    go_enter Try.func4, Try.ntmps4
    go_wp2_with fail
    refine (alive_any _).mono ?_
    rintro e V1 ⟨rfl, hv1⟩
    go_wp2
    go_ret
    exact ⟨rfl, hv1⟩
  have h2 : ¬ ((n : Int) > 1300) := by omega
  have hd := decp_len (l := l)
  have okd := decp_ok hy
  obtain ⟨d, hdd⟩ : ∃ d, decp l = d := ⟨_, rfl⟩
  obtain ⟨m, hm⟩ : ∃ m, d.s.length = m := ⟨_, rfl⟩
  obtain ⟨E, hE⟩ : ∃ E, flt l = E := ⟨_, rfl⟩
  obtain ⟨X, hX⟩ : ∃ X, encL d = X := ⟨_, rfl⟩
  obtain ⟨x, hx⟩ : ∃ x, X.length = x := ⟨_, rfl⟩
  have HE1 : Hid (E = 0 → X = l ∧ encE d = 0) := Lib.hid (fun h => by
    have := encL_decp hy (hE.trans h)
    rwa [hdd, hX] at this)
  rw [hdd] at hd okd
  rw [hm] at hd
  have cD : ∀ V A' c', Bt V A' l → n ≤ c' → Calls Try.prog 13 #[.slice A' n c'] V fun e w' => ∃ A'' c'', e = .returned (.tuple #[.agg #[.int .u32 d.m, .int .i64 d.i, .int .i64 d.o, .int .i64 d.p, .int .u32 d.d, .int .u32 d.r, .int .u32 d.b, .slice A'' m c''], .int .i64 E]) ∧ Own .u32 22 w' V.heap.size A'' c'' d.s ∧ Below V.heap.size V w' := fun V A' c' hV hc' => by
    have := decode_any A' n c' l V hn hV hy hc' (by omega)
    rwa [hdd, hE, hm] at this
  have cR : ∀ V, Bt V A l → Calls Try.prog 14 #[.slice A n c] V fun e w' => ∃ A'' c'', e = .returned (.tuple #[.agg #[.int .u32 d.m, .int .i64 d.i, .int .i64 d.o, .int .i64 d.p, .int .u32 d.d, .int .u32 d.r, .int .u32 d.b, .slice A'' m c''], .int .i64 E]) ∧ Wt w' A'' d.s ∧ Below V.heap.size V w' := fun V hV => by
    have := rdecode_any A n c l V hn hV hy hc (by omega)
    unfold RD at this
    rwa [hdd, hE, hm] at this
  have cE : ∀ V A' c', Wt V A' d.s → Calls Try.prog 8 #[.agg #[.int .u32 d.m, .int .i64 d.i, .int .i64 d.o, .int .i64 d.p, .int .u32 d.d, .int .u32 d.r, .int .u32 d.b, .slice A' m c']] V fun e w' => ∃ A'' c'', e = .returned (.tuple #[.slice A'' x c'', .int .i64 (encE d)]) ∧ Own .u8 5 w' V.heap.size A'' c'' X ∧ Below V.heap.size V w' := fun V A' c' hV => by
    have := encode_any d A' m c' V hm okd hV
    rwa [hX, hx] at this
  have cP := fun V A' c' => plain_any d A' m c' V
  have cS := fun V A1 c1 A2 c2 g1 g2 => same_any d A1 A2 m c1 c2 V hm g1 g2 (by omega)
  clear hdd hE hX okd
  obtain ⟨W1, hW1⟩ : ∃ V, w.alloc (.cells #[] 5) = V := ⟨_, rfl⟩
  have b1 : Below w.heap.size w W1 := by rw [← hW1]; exact below_alloc1 _ _
  have o1 : Own .u8 5 W1 w.heap.size (some ⟨w.heap.size, 0, none⟩) 0 [] := by
    rw [← hW1]
    exact Own.empty w _ (Nat.le_refl _) _ _
  obtain ⟨i0, hi0, hz0, hz1, hz2⟩ := info_of info5
  obtain ⟨A2, c2, W2, rW2, oW2, tW2⟩ := run_app (P := Try.prog) W1 w.heap.size 27 27 5 .u8 i0 _ 1 Try.underlying27 hi0 hz0 hz1 hz2 rfl _ _ _ o1 _ A c _ (hb.step b1) (by simp only [maxLen, List.length_nil] <;> omega) (by simp only [List.length_nil] <;> omega) b1.size
  have t2 : Below w.heap.size w W2 := b1.trans tW2
  rw [List.nil_append] at oW2
  simp only [List.nil_append, List.length_nil, hn] at rW2
  have hc2 := oW2.cap_le
  rw [hn] at hc2
  have T2 := Lib.hid t2
  have B2 := Lib.hid oW2.bs
  have HN := Lib.hid hn
  have HX := Lib.hid hx
  clear t2 o1 tW2 oW2 b1 hn hx
  go_enter Try.func4, Try.ntmps4
  go_wp2_with (at_builtin; refine wpList_runb _ rfl (.tmp 14) (.tmp 15) 27 rfl rfl rfl rW2 ?_)
  clear hW1 rW2
  refine (cD _ _ _ B2.out hc2).mono ?_
  rintro e W3 ⟨A3, c3, rfl, o3, u3⟩
  have s2 := T2.out.size
  have s3 := u3.size
  have O3 := Lib.hid o3.bs
  have T3 := Lib.hid (T2.out.trans (u3.mono s2))
  have B3 := Lib.hid (Bs.step B2.out u3)
  obtain ⟨W4, hW4⟩ : ∃ V, W3.alloc (.cells #[.int .u32 d.m, .int .i64 d.i, .int .i64 d.o, .int .i64 d.p, .int .u32 d.d, .int .u32 d.r, .int .u32 d.b, .slice A3 m c3] 25) = V := ⟨_, rfl⟩
  have u4 : Below W3.heap.size W3 W4 := by rw [← hW4]; exact below_alloc1 _ _
  have K4 : Hid (∀ V, Below W4.heap.size W4 V → V.cell? ⟨W3.heap.size, 0, none⟩ = some (.int .u32 d.m) ∧ V.cell? ⟨W3.heap.size, 1, none⟩ = some (.int .i64 d.i) ∧ V.cell? ⟨W3.heap.size, 2, none⟩ = some (.int .i64 d.o) ∧ V.cell? ⟨W3.heap.size, 3, none⟩ = some (.int .i64 d.p) ∧ V.cell? ⟨W3.heap.size, 4, none⟩ = some (.int .u32 d.d) ∧ V.cell? ⟨W3.heap.size, 5, none⟩ = some (.int .u32 d.r) ∧ V.cell? ⟨W3.heap.size, 6, none⟩ = some (.int .u32 d.b) ∧ V.cell? ⟨W3.heap.size, 7, none⟩ = some (.slice A3 m c3)) := Lib.hid (fun V hV => kb8_new hW4 hV)
  have T4 := Lib.hid (T3.out.trans (u4.mono T3.out.size))
  clear o3
  go_wp2_with fail
  refine (cR _ (hb.step T4.out)).mono ?_
  rintro e W5 ⟨A5, c5, rfl, o5, u5⟩
  have s4 := u4.size
  have s5 := u5.size
  obtain ⟨W6, hW6⟩ : ∃ V, W5.alloc (.cells #[.int .u32 d.m, .int .i64 d.i, .int .i64 d.o, .int .i64 d.p, .int .u32 d.d, .int .u32 d.r, .int .u32 d.b, .slice A5 m c5] 32) = V := ⟨_, rfl⟩
  have u6 : Below W5.heap.size W5 W6 := by rw [← hW6]; exact below_alloc1 _ _
  have u46 : Below W4.heap.size W4 W6 := u5.trans (u6.mono s5)
  have u36 : Below W3.heap.size W3 W6 := u4.trans (u46.mono s4)
  have K6 : Hid (∀ V, Below W6.heap.size W6 V → V.cell? ⟨W5.heap.size, 0, none⟩ = some (.int .u32 d.m) ∧ V.cell? ⟨W5.heap.size, 1, none⟩ = some (.int .i64 d.i) ∧ V.cell? ⟨W5.heap.size, 2, none⟩ = some (.int .i64 d.o) ∧ V.cell? ⟨W5.heap.size, 3, none⟩ = some (.int .i64 d.p) ∧ V.cell? ⟨W5.heap.size, 4, none⟩ = some (.int .u32 d.d) ∧ V.cell? ⟨W5.heap.size, 5, none⟩ = some (.int .u32 d.r) ∧ V.cell? ⟨W5.heap.size, 6, none⟩ = some (.int .u32 d.b) ∧ V.cell? ⟨W5.heap.size, 7, none⟩ = some (.slice A5 m c5)) := Lib.hid (fun V hV => kb8_new hW6 hV)
  have q3 := Bs.step O3.out u36
  have q5 := Bs.step o5 u6
  have q2 := Bs.step B3.out u36
  obtain ⟨k0, k1, k2, k3, k4, k5, k6, k7⟩ := K4.out _ u46
  clear o5 u5 u6
  go_wp2_with fail
  clear hW4 hW6
  refine (cE _ _ _ q3).mono ?_
  rintro e W7 ⟨A7, c7, rfl, o7, u7⟩
  have u47 := u46.trans (u7.mono u46.size)
  have T7 := Lib.hid (T3.out.trans ((u36.trans (u7.mono u36.size)).mono T3.out.size))
  clear k0 k1 k2 k3 k4 k5 k6 k7
  obtain ⟨k0, k1, k2, k3, k4, k5, k6, k7⟩ := K4.out _ u47
  obtain ⟨j0, j1, j2, j3, j4, j5, j6, j7⟩ := K6.out _ u7
  replace q3 := Bs.step q3 u7
  replace q5 := Bs.step q5 u7
  replace q2 := Bs.step q2 u7
  have q7 := o7.bs
  have q0 := hb.step T7.out
  clear u47 u46 u36 u7 u4 o7 cD cR cE hb B2 B3 O3 T3 T4
  go_wp2_with fail
  by_cases h0 : E = 0
  · obtain ⟨hx1, hx2⟩ := HE1.out h0
    subst h0
    rw [hx1] at q7
    have HXX := HX.out
    rw [hx1, HN.out] at HXX
    subst HXX
    rw [hx2]
    clear HE1 HX hx1 hx2
    refine wp_region_quiet_below (by kernel_rfl) (by kernel_rfl) ?_
    have gg0 := cell_regrown k0
    have gg1 := cell_regrown k1
    have gg2 := cell_regrown k2
    have gg3 := cell_regrown k3
    have gg4 := cell_regrown k4
    have gg5 := cell_regrown k5
    have gg6 := cell_regrown k6
    have gg7 := cell_regrown k7
    have gg8 := cell_regrown j0
    have gg9 := cell_regrown j1
    have gg10 := cell_regrown j2
    have gg11 := cell_regrown j3
    have gg12 := cell_regrown j4
    have gg13 := cell_regrown j5
    have gg14 := cell_regrown j6
    have gg15 := cell_regrown j7
    have ss0 := str_regrown (c := c2) q2 HN.out.symm
    have ss1 := str_regrown (c := c) q0 HN.out.symm
    have ss2 := str_regrown (c := c7) q7 HN.out.symm
    have zz0 : ∀ d os, _ := fun dd os => Calls.regrown_of (w := W7) (d := dd) (os := os) (alive_any _)
    have zz1 : ∀ d os, _ := fun dd os => Calls.regrown_of (w := W7) (d := dd) (os := os) (cP _ A3 c3)
    have zz2 : ∀ d os, _ := fun dd os => Calls.regrown_of (w := W7) (d := dd) (os := os) (cS _ A3 c3 A5 c5 (Bs.step q3 (below_regrown W7 dd os)) (Bs.step q5 (below_regrown W7 dd os)))
    repeat (first | go_big_quiet_step (with_reducible exact zz0 _ _) | go_big_quiet_step (with_reducible exact zz1 _ _) | go_big_quiet_step (with_reducible exact zz2 _ _) | go_big_quiet_step (fail) | go_big_quiet_skip)
    refine wpQuiet_nil ?_
    intro W9 hw'
    obtain ⟨⟨dq, osq⟩, hw''⟩ := hw'
    have hbz := below_regrown W7 dq osq
    rw [← hw''] at hbz
    clear hw'' gg0 gg1 gg2 gg3 gg4 gg5 gg6 gg7 gg8 gg9 gg10 gg11 gg12 gg13 gg14 gg15 zz0 zz1 zz2 ss0 ss1 ss2
    go_wp2
    go_ret
    exact ⟨rfl, T7.out.trans (hbz.mono T7.out.size)⟩
  · have h3 : (E == 0) = false := by simpa using h0
    have h4 : (E != 0) = true := by simpa using h0
    clear HE1 h0
    refine wp_region_quiet_below (by kernel_rfl) (by kernel_rfl) ?_
    have gg0 := cell_regrown k0
    have gg1 := cell_regrown k1
    have gg2 := cell_regrown k2
    have gg3 := cell_regrown k3
    have gg4 := cell_regrown k4
    have gg5 := cell_regrown k5
    have gg6 := cell_regrown k6
    have gg7 := cell_regrown k7
    have gg8 := cell_regrown j0
    have gg9 := cell_regrown j1
    have gg10 := cell_regrown j2
    have gg11 := cell_regrown j3
    have gg12 := cell_regrown j4
    have gg13 := cell_regrown j5
    have gg14 := cell_regrown j6
    have gg15 := cell_regrown j7
    have ss0 := str_regrown (c := c2) q2 HN.out.symm
    have ss1 := str_regrown (c := c) q0 HN.out.symm
    have ss2 := str_regrown (c := c7) q7 HX.out.symm
    have zz0 : ∀ d os, _ := fun dd os => Calls.regrown_of (w := W7) (d := dd) (os := os) (alive_any _)
    have zz1 : ∀ d os, _ := fun dd os => Calls.regrown_of (w := W7) (d := dd) (os := os) (cP _ A3 c3)
    have zz2 : ∀ d os, _ := fun dd os => Calls.regrown_of (w := W7) (d := dd) (os := os) (cS _ A3 c3 A5 c5 (Bs.step q3 (below_regrown W7 dd os)) (Bs.step q5 (below_regrown W7 dd os)))
    repeat (first | go_big_quiet_step (with_reducible exact zz0 _ _) | go_big_quiet_step (with_reducible exact zz1 _ _) | go_big_quiet_step (with_reducible exact zz2 _ _) | go_big_quiet_step (fail) | go_big_quiet_skip)
    refine wpQuiet_nil ?_
    intro W9 hw'
    obtain ⟨⟨dq, osq⟩, hw''⟩ := hw'
    have hbz := below_regrown W7 dq osq
    rw [← hw''] at hbz
    clear hw'' gg0 gg1 gg2 gg3 gg4 gg5 gg6 gg7 gg8 gg9 gg10 gg11 gg12 gg13 gg14 gg15 zz0 zz1 zz2 ss0 ss1 ss2
    go_wp2
    go_ret
    exact ⟨rfl, T7.out.trans (hbz.mono T7.out.size)⟩
end Go.Proofs.Ytdjblkmhlghglaa
