/-
  The walk of the law HeadDecode. No statement is proved here; no conditions.
-/
import Derived.Test.YtfhickgdmcmodaaLwE
namespace Go.Proofs.Ytfhickgdmcmodaa
open Go.RowKit Go.Joins

set_option maxRecDepth 100000 in
set_option maxHeartbeats 4000000 in
theorem decode_walk (A : Option Addr) (c : Nat) (l : List Int) (w : World) (hb : Bt w A l) (hy : Byt l) (hc : l.length ≤ c) :
    Calls Try.prog 4 #[.slice A l.length c] w fun e w' => e = .returned (.bool true) ∧ Below w.heap.size w w' := by
  by_cases h1 : 1600 < l.length
  · have h2 : (l.length : Int) > 1600 := by omega
    go_enter Try.func4, Try.ntmps4
    go_wp2_with fail
    refine (alive_any _).mono ?_
    rintro e V1 ⟨rfl, hv1⟩
    go_wp2
    go_ret
    exact ⟨rfl, hv1⟩
  have h2 : ¬ ((l.length : Int) > 1600) := by omega
  have hd : (decp l).b.length ≤ 1600 := by
    unfold decp
    split
    · rw [dec_b, List.length_drop]; omega
    · simp [zpk]
  obtain ⟨d, hdd⟩ : ∃ d, decp l = d := ⟨_, rfl⟩
  obtain ⟨m, hm⟩ : ∃ m, d.b.length = m := ⟨_, rfl⟩
  obtain ⟨E, hE⟩ : ∃ E, flt l = E := ⟨_, rfl⟩
  obtain ⟨n, hn⟩ : ∃ n, l.length = n := ⟨_, rfl⟩
  have cD : ∀ V A' c', Bt V A' l → n ≤ c' → Calls Try.prog 13 #[.slice A' n c'] V fun e w' => ∃ A'' c'', e = .returned (.tuple #[.agg #[.int .i64 d.t, .int .u32 d.r, .int .u32 d.a, .int .i64 d.u, .int .u8 d.h0, .int .u8 d.h1, .int .u8 d.h2, .int .u8 d.h3, .int .u8 d.h4, .int .u8 d.h5, .int .u8 d.h6, .int .u8 d.h7, .slice A'' m c''], .int .i64 E]) ∧ Own .u8 5 w' V.heap.size A'' c'' d.b ∧ Below V.heap.size V w' := fun V A' c' hV hc' => by
    have := decode_any A' c' l V hV hy (by omega) (by omega)
    unfold pv' at this
    rwa [hdd, hE, hm, hn] at this
  have cR : ∀ V, Bt V A l → Calls Try.prog 14 #[.slice A n c] V fun e w' => ∃ A'' c'', e = .returned (.tuple #[.agg #[.int .i64 d.t, .int .u32 d.r, .int .u32 d.a, .int .i64 d.u, .int .u8 d.h0, .int .u8 d.h1, .int .u8 d.h2, .int .u8 d.h3, .int .u8 d.h4, .int .u8 d.h5, .int .u8 d.h6, .int .u8 d.h7, .slice A'' m c''], .int .i64 E]) ∧ Own .u8 5 w' V.heap.size A'' c'' d.b ∧ Below V.heap.size V w' := fun V hV => by
    have := rdecode_any A c l V hV hy hc (by omega)
    unfold pv' at this
    rwa [hdd, hE, hm, hn] at this
  have cP : ∀ V A' c', Calls Try.prog 10 #[.agg #[.int .i64 d.t, .int .u32 d.r, .int .u32 d.a, .int .i64 d.u, .int .u8 d.h0, .int .u8 d.h1, .int .u8 d.h2, .int .u8 d.h3, .int .u8 d.h4, .int .u8 d.h5, .int .u8 d.h6, .int .u8 d.h7, .slice A' m c']] V fun e w' => e = .returned (.agg #[.int .i64 d.t, .int .u32 d.r, .int .u32 d.a, .int .i64 d.u, .int .u8 d.h0, .int .u8 d.h1, .int .u8 d.h2, .int .u8 d.h3, .int .u8 d.h4, .int .u8 d.h5, .int .u8 d.h6, .int .u8 d.h7, .slice A' m c']) ∧ Below V.heap.size V w' := fun V A' c' => by
    have := plain_any d A' c' V
    unfold pv' at this
    rwa [hm] at this
  have cS : ∀ V A1 c1 A2 c2, Bt V A1 d.b → Bt V A2 d.b → Calls Try.prog 15 #[.agg #[.int .i64 d.t, .int .u32 d.r, .int .u32 d.a, .int .i64 d.u, .int .u8 d.h0, .int .u8 d.h1, .int .u8 d.h2, .int .u8 d.h3, .int .u8 d.h4, .int .u8 d.h5, .int .u8 d.h6, .int .u8 d.h7, .slice A1 m c1], .agg #[.int .i64 d.t, .int .u32 d.r, .int .u32 d.a, .int .i64 d.u, .int .u8 d.h0, .int .u8 d.h1, .int .u8 d.h2, .int .u8 d.h3, .int .u8 d.h4, .int .u8 d.h5, .int .u8 d.h6, .int .u8 d.h7, .slice A2 m c2]] V fun e w' => e = .returned (.bool true) ∧ Below V.heap.size V w' := fun V A1 c1 A2 c2 g1 g2 => by
    have := same_any d A1 A2 c1 c2 V g1 g2
    unfold pv' at this
    rwa [hm] at this
  rw [hdd, hm] at hd
  rw [hn] at h1 h2 hc ⊢
  clear hdd hE
  obtain ⟨W1, hW1⟩ : ∃ V, w.alloc (.cells #[] 5) = V := ⟨_, rfl⟩
  have b1 : Below w.heap.size w W1 := by rw [← hW1]; exact below_alloc1 _ _
  have o1 : Own .u8 5 W1 w.heap.size (some ⟨w.heap.size, 0, none⟩) 0 [] := by
    rw [← hW1]
    exact Own.empty w _ (Nat.le_refl _) _ _
  obtain ⟨i0, hi0, hz0, hz1, hz2⟩ := info_of info5
  obtain ⟨A2, c2, W2, rW2, oW2, tW2⟩ := run_app (P := Try.prog) W1 w.heap.size 24 24 5 .u8 i0 _ 1 Try.underlying24 hi0 hz0 hz1 hz2 rfl _ _ _ o1 _ A c _ (hb.step b1) (by simp only [maxLen, List.length_nil] <;> omega) (by simp only [List.length_nil] <;> omega) b1.size
  have t2 : Below w.heap.size w W2 := b1.trans tW2
  rw [List.nil_append] at oW2
  simp only [List.nil_append, List.length_nil, hn] at rW2
  have hc2 := oW2.cap_le
  rw [hn] at hc2
  have T2 := Lib.hid t2
  have B2 := Lib.hid oW2.bs
  have HN := Lib.hid hn
  clear t2 o1 tW2 oW2 b1 hn
  go_enter Try.func4, Try.ntmps4
  go_wp2_with (at_builtin; refine wpList_runb _ rfl (.tmp 14) (.tmp 15) 24 rfl rfl rfl rW2 ?_)
  clear hW1 rW2
  refine (cD _ _ _ B2.out hc2).mono ?_
  rintro e W3 ⟨A3, c3, rfl, o3, u3⟩
  have s2 := T2.out.size
  have s3 := u3.size
  have O3 := Lib.hid o3
  have T3 := Lib.hid (T2.out.trans (u3.mono s2))
  have B3 := Lib.hid (Bs.step B2.out u3)
  obtain ⟨W4, hW4⟩ : ∃ V, W3.alloc (.cells #[.int .i64 d.t, .int .u32 d.r, .int .u32 d.a, .int .i64 d.u, .int .u8 d.h0, .int .u8 d.h1, .int .u8 d.h2, .int .u8 d.h3, .int .u8 d.h4, .int .u8 d.h5, .int .u8 d.h6, .int .u8 d.h7, .slice A3 m c3] 26) = V := ⟨_, rfl⟩
  have u4 : Below W3.heap.size W3 W4 := by rw [← hW4]; exact below_alloc1 _ _
  have K4 : Hid (∀ V, Below W4.heap.size W4 V → V.cell? ⟨W3.heap.size, 0, none⟩ = some (.int .i64 d.t) ∧ V.cell? ⟨W3.heap.size, 1, none⟩ = some (.int .u32 d.r) ∧ V.cell? ⟨W3.heap.size, 2, none⟩ = some (.int .u32 d.a) ∧ V.cell? ⟨W3.heap.size, 3, none⟩ = some (.int .i64 d.u) ∧ V.cell? ⟨W3.heap.size, 4, none⟩ = some (.int .u8 d.h0) ∧ V.cell? ⟨W3.heap.size, 5, none⟩ = some (.int .u8 d.h1) ∧ V.cell? ⟨W3.heap.size, 6, none⟩ = some (.int .u8 d.h2) ∧ V.cell? ⟨W3.heap.size, 7, none⟩ = some (.int .u8 d.h3) ∧ V.cell? ⟨W3.heap.size, 8, none⟩ = some (.int .u8 d.h4) ∧ V.cell? ⟨W3.heap.size, 9, none⟩ = some (.int .u8 d.h5) ∧ V.cell? ⟨W3.heap.size, 10, none⟩ = some (.int .u8 d.h6) ∧ V.cell? ⟨W3.heap.size, 11, none⟩ = some (.int .u8 d.h7) ∧ V.cell? ⟨W3.heap.size, 12, none⟩ = some (.slice A3 m c3)) := Lib.hid (fun V hV => kb_new hW4 hV)
  have T4 := Lib.hid (T3.out.trans (u4.mono T3.out.size))
  clear o3
  go_wp2_with fail
  refine (cR _ (hb.step T4.out)).mono ?_
  rintro e W5 ⟨A5, c5, rfl, o5, u5⟩
  have s4 := u4.size
  have s5 := u5.size
  obtain ⟨W6, hW6⟩ : ∃ V, W5.alloc (.cells #[.int .i64 d.t, .int .u32 d.r, .int .u32 d.a, .int .i64 d.u, .int .u8 d.h0, .int .u8 d.h1, .int .u8 d.h2, .int .u8 d.h3, .int .u8 d.h4, .int .u8 d.h5, .int .u8 d.h6, .int .u8 d.h7, .slice A5 m c5] 32) = V := ⟨_, rfl⟩
  have u6 : Below W5.heap.size W5 W6 := by rw [← hW6]; exact below_alloc1 _ _
  have u46 : Below W4.heap.size W4 W6 := u5.trans (u6.mono s5)
  have u36 : Below W3.heap.size W3 W6 := u4.trans (u46.mono s4)
  have T6 := Lib.hid (T3.out.trans (u36.mono T3.out.size))
  have B6 := Lib.hid (Bs.step B3.out u36)
  have O6 := Lib.hid (O3.out.below u36 (Nat.le_refl _))
  have q3 := O6.out.bs
  have q5 := Bs.step o5.bs u6
  obtain ⟨k0, k1, k2, k3, k4, k5, k6, k7, k8, k9, k10, k11, k12⟩ := K4.out _ u46
  obtain ⟨j0, j1, j2, j3, j4, j5, j6, j7, j8, j9, j10, j11, j12⟩ := kb_new hW6 (Below.refl _ _)
  have sz6 := u36.size
  clear o5 u5 u6
  go_wp2_with fail
  clear hW4 hW6
  refine wp_region_quiet_below (by kernel_rfl) (by kernel_rfl) ?_
  have gg0 := cell_regrown k0
  have gg1 := cell_regrown k1
  have gg2 := cell_regrown k2
  have gg3 := cell_regrown k3
  have gg4 := cell_regrown k4
  have gg5 := cell_regrown k5
  have gg6 := cell_regrown k6
  have gg7 := cell_regrown k7
  have gg8 := cell_regrown k8
  have gg9 := cell_regrown k9
  have gg10 := cell_regrown k10
  have gg11 := cell_regrown k11
  have gg12 := cell_regrown k12
  have gg13 := cell_regrown j0
  have gg14 := cell_regrown j1
  have gg15 := cell_regrown j2
  have gg16 := cell_regrown j3
  have gg17 := cell_regrown j4
  have gg18 := cell_regrown j5
  have gg19 := cell_regrown j6
  have gg20 := cell_regrown j7
  have gg21 := cell_regrown j8
  have gg22 := cell_regrown j9
  have gg23 := cell_regrown j10
  have gg24 := cell_regrown j11
  have gg25 := cell_regrown j12
  have zz0 : ∀ d os, _ := fun d os => Calls.regrown_of (w := W6) (d := d) (os := os) (cP _ A3 c3)
  have zz1 : ∀ d os, _ := fun d os => Calls.regrown_of (w := W6) (d := d) (os := os) (cS _ A3 c3 A5 c5 (Bs.step q3 (below_regrown W6 d os)) (Bs.step q5 (below_regrown W6 d os)))
  repeat (first | go_big_quiet_step (with_reducible exact zz0 _ _) | go_big_quiet_step (with_reducible exact zz1 _ _) | go_big_quiet_step (fail) | go_big_quiet_skip)
  refine wpQuiet_nil ?_
  intro W9 hw'
  obtain ⟨⟨dq, osq⟩, hw''⟩ := hw'
  have hbz := below_regrown W6 dq osq
  rw [← hw''] at hbz
  clear hw'' gg0 gg1 gg2 gg3 gg4 gg5 gg6 gg7 gg8 gg9 gg10 gg11 gg12 gg13 gg14 gg15 gg16 gg17 gg18 gg19 gg20 gg21 gg22 gg23 gg24 gg25 zz0 zz1 
  have T9 := Lib.hid (T6.out.trans (hbz.mono T6.out.size))
  have B9 := Lib.hid (Bs.step B6.out hbz)
  have O9 := Lib.hid (O6.out.below hbz (Nat.le_refl _))
  have u49 := u46.trans (hbz.mono u46.size)
  clear k0 k1 k2 k3 k4 k5 k6 k7 k8 k9 k10 k11 k12 j0 j1 j2 j3 j4 j5 j6 j7 j8 j9 j10 j11 j12 q3 q5
  have K9 : Hid (W9.cell? ⟨W3.heap.size, 12, none⟩ = some (.slice A3 m c3)) := Lib.hid (by
    obtain ⟨-, -, -, -, -, -, -, -, -, -, -, -, h⟩ := K4.out _ u49
    exact h)
  have D9 : Hid (Below W2.heap.size W2 W9) := Lib.hid (u3.trans ((u36.trans (hbz.mono u36.size)).mono s3))
  have HM := Lib.hid hm
  clear u46 u36 hbz u49 K4 cD cR cP cS hm T3 T4 T6 T9 B3 B6 B9 O6 u4
  go_wp2_with fail
  go_loopw [9] (fun i wr => ∃ (j : Nat) (B' : List Int), j ≤ m ∧ i = .int .i64 (j : Int) ∧ Hid (B'.length = m) ∧ Hid (Own .u8 5 wr W2.heap.size A3 c3 B') ∧ Hid (wr.cell? ⟨W3.heap.size, 12, none⟩ = some (.slice A3 m c3)) ∧ Hid (Below W2.heap.size W2 wr)) (fun i _ => m - (intOf i).toNat)
  case atStart => exact ⟨0, d.b, by omega, rfl, HM, O9, K9, D9⟩
  case round =>
    obtain ⟨j, B', hj, rfl, hB', hO, hK, hD⟩ := hrel
    clear O9 K9 D9
    have hk := hK.out
    by_cases hlt : j < m
    · have hOO := hO.out
      rcases hOO.form with ⟨rfl, _, h⟩ | ⟨g, _, rfl, hg1, hg2, _⟩
      · have := hB'.out; rw [h] at this; simp at this; omega
      have hg3 : g < W3.heap.size := (O3.out.blk_lt g rfl).2
      have hcx := hOO.cellAt (i := j) (by rw [hB'.out]; exact hlt)
      have hfr := hOO.frozen j
      have hji : (j : Int) < (m : Int) := by omega
      have hji2 : (0 : Int) ≤ (j : Int) := by omega
      have hm3 : (j : Int) + 1 ≤ 100000 := by omega
      clear hOO hg2
      go_wp2
      go_roundw
      case rel => exact ⟨j + 1, B'.set j 7, by omega, by go_num, Lib.hid (by rw [List.length_set]; exact hB'.out), Lib.hid (hO.out.set j 7), Lib.hid ((World.cell?_of_block (Below.heap_setCell _ ⟨g, j, none⟩ _ _ (by show W3.heap.size ≠ g; omega))).trans hK.out), Lib.hid (hD.out.setCell (p := ⟨g, j, none⟩) hg1 _)⟩
      case measure => simp [intOf]; omega
    · have hlt2 : decide ((j : Int) < (m : Int)) = false := by simp; omega
      have hlt3 : decide (j < m) = false := by simp; omega
      go_wp2_with fail
      refine (alive_any _).mono ?_
      rintro e WA ⟨rfl, ua⟩
      have DA : Below W2.heap.size W2 WA := hD.out.trans (ua.mono hD.out.size)
      have TA := Lib.hid (T2.out.trans (DA.mono s2))
      have r1 : (convert 24 9 (.slice A2 n c2)).run Try.prog WA = .ok (.string (strOfNums l)) WA := by rw [← HN.out]; exact run_str WA 24 5 9 Try.underlying24 Try.underlying5 Try.underlying9 _ A2 c2 l (Bs.step B2.out DA)
      have r2 : (convert 24 9 (.slice A n c)).run Try.prog WA = .ok (.string (strOfNums l)) WA := by rw [← HN.out]; exact run_str WA 24 5 9 Try.underlying24 Try.underlying5 Try.underlying9 _ A c l (hb.step TA.out)
      clear DA ua hk hlt hlt2 hlt3
      go_wp2
      go_ret
      exact ⟨rfl, TA.out⟩
end Go.Proofs.Ytfhickgdmcmodaa
