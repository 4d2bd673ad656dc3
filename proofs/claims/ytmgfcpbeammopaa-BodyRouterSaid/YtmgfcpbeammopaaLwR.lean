/-
  The walk of the law BodyRouter. No statement is proved here; no conditions.
-/
import Derived.Test.YtmgfcpbeammopaaAl
import Derived.Test.YtmgfcpbeammopaaREr
namespace Go.Proofs.Ytmgfcpbeammopaa
open Go.RowKit Go.Joins

set_option maxRecDepth 100000 in
set_option maxHeartbeats 8000000 in
theorem router_walk (f : Int) (Ax : Option Addr) (nx cx : Nat) (L : List Lk) (A : Option Addr) (n c : Nat) (l : List Int) (w : World) (hnx : L.length = nx) (okL : Okls L) (hL : Lr w Ax L) (hn : l.length = n) (hb : Bt w A l) (hy : Byt l) (hc : n ≤ c) :
    Calls Try.prog 3 #[.agg #[.int .i64 f, .slice Ax nx cx], .slice A n c] w fun e w' => e = .returned (.bool true) ∧ Below w.heap.size w w' := by
  obtain ⟨W0, hW0⟩ : ∃ V, w.alloc (.cells #[.int .i64 f, .slice Ax nx cx] 24) = V := ⟨_, rfl⟩
  have bW0 : Below w.heap.size w W0 := by rw [← hW0]; exact below_alloc1 _ _
  have sW0 : W0.heap.size = w.heap.size + 1 := by rw [← hW0]; simp
  have KX : Hid (∀ V, Below W0.heap.size W0 V → V.cell? ⟨w.heap.size, 0, none⟩ = some (.int .i64 f) ∧ V.cell? ⟨w.heap.size, 1, none⟩ = some (.slice Ax nx cx)) := Lib.hid (fun V hV => kb2_new hW0 hV)
  have q0 := hb.step bW0
  have p0 := hL.step bW0
  have HB := Lib.hid bW0
  obtain ⟨k0, k1⟩ := KX.out _ (Below.refl _ _)
  by_cases g1 : 110 < nx
  · have g2 : (nx : Int) > 110 := by omega
    clear hnx okL hL hn hb hy hc q0 p0 bW0 KX
    go_enter Try.func3, Try.ntmps3
    go_wp2_with fail
    refine (alive_any _).mono ?_
    rintro e V1 ⟨rfl, hv1⟩
    go_wp2
    go_ret
    exact ⟨rfl, HB.out.trans (hv1.mono HB.out.size)⟩
  have g2 : ¬ ((nx : Int) > 110) := by omega
  by_cases h1 : 1400 < n
  · have h2 : (n : Int) > 1400 := by omega
    clear hnx okL hL hn hb hy hc q0 p0 bW0 KX
    go_enter Try.func3, Try.ntmps3
    go_wp2_with fail
    refine (alive_any _).mono ?_
    rintro e V1 ⟨rfl, hv1⟩
    go_wp2
    go_ret
    exact ⟨rfl, HB.out.trans (hv1.mono HB.out.size)⟩
  have h2 : ¬ ((n : Int) > 1400) := by omega
  have hl : n ≤ 5000 := by omega
  obtain ⟨X, hX⟩ : ∃ X, encRL f L = X := ⟨_, rfl⟩
  obtain ⟨mX, hmX⟩ : ∃ mX, X.length = mX := ⟨_, rfl⟩
  obtain ⟨E, hE⟩ : ∃ E, encRE f L = E := ⟨_, rfl⟩
  have yX : Byt X := by rw [← hX]; unfold encRL; split; exact enR_byt _ _; intro z hz; cases hz
  have lX : mX ≤ 5000 := by rw [← hmX, ← hX]; unfold encRL; split; rw [enR_length]; omega; simp
  have C1 := fun V hV => router_any f Ax nx cx L V hnx okL hV (by omega)
  have C2 := fun V hV => rrouter_any f Ax nx cx L V hnx okL hV (by omega)
  rw [hX, hE, hmX] at C1 C2
  have C3 := fun V hV => readrouter_any A n c l V hn hV hy hc hl
  have C4 := fun V hV => rreadrouter_any A n c l V hn hV hy hc hl
  have C5 := fun V A' c' hV hc' => readrouter_any A' mX c' X V hmX hV yX hc' lX
  have ll : (rdRL l).length ≤ 10000 := by
    have h3 := rdRL_length (l := l)
    by_cases h4 : rdRE l = 0
    · have := (rdRE_0 h4).1
      unfold shR at this
      omega
    · unfold rdRL
      rw [if_neg h4]
      simp
  have okl := rdRL_ok hy
  have C6 := fun V A' m' c' (hm : (rdRL l).length = m') hV (hm' : m' ≤ 10000) => router_any (rdRF l) A' m' c' (rdRL l) V hm okl hV hm'
  have HBA : Hid (E = 0 → rdRE X = 0 ∧ rdRF X = f ∧ rdRL X = L) := Lib.hid (fun h => by
    have hm : mayR f L = true := by
      by_cases q : mayR f L = true
      · exact q
      · rw [← hE] at h; unfold encRE at h; rw [if_neg q] at h; omega
    have e : X = enR f L := by rw [← hX]; unfold encRL; rw [if_pos hm]
    rw [e]
    exact dec_enR okL hm)
  have HFO0 : rdRE l = 0 → encRE (rdRF l) (rdRL l) = 0 ∧ encRL (rdRF l) (rdRL l) = l := fun h => by
    obtain ⟨q1, q2⟩ := en_dec h
    exact ⟨by unfold encRE; rw [if_pos q1], by unfold encRL; rw [if_pos q1, q2]⟩
  have HMX := Lib.hid hmX
  generalize rdRE l = G at *
  generalize encRE (rdRF l) (rdRL l) = J at *
  generalize encRL (rdRF l) (rdRL l) = X6 at *
  generalize rdRF l = F1 at *
  generalize rdRL l = L1 at *
  generalize rdRE X = I at *
  generalize rdRF X = F2 at *
  generalize rdRL X = L2 at *
  have HFO := Lib.hid HFO0
  obtain ⟨m6, hm6⟩ : ∃ m6, X6.length = m6 := ⟨_, rfl⟩
  rw [hm6] at C6
  have HM6 := Lib.hid hm6
  have HLL := Lib.hid ll
  have HNX := Lib.hid hnx
  clear hX hmX hE yX lX HFO0 hm6 okL okl ll hnx hb bW0 hy hc h1 hl hL g1
  have T0 : Below W0.heap.size W0 W0 := Below.refl _ _
  go_enter Try.func3, Try.ntmps3
  go_wp2_with fail
  refine (C1 W0 p0).mono ?_
  rintro e Y1 ⟨A1, c1, rfl, o1, u1⟩
  have T1 := Lib.hid u1
  have Q1 : Hid (∀ V, Below Y1.heap.size Y1 V → Bt V A1 X) := Lib.hid (fun V hV => Bs.step o1.bs hV)
  have D1 : Hid (mX ≤ c1) := Lib.hid (by have := o1.cap_le; rwa [HMX.out] at this)
  clear o1 u1 k0 k1
  obtain ⟨k0, k1⟩ := KX.out _ T1.out
  go_wp2_with fail
  refine (conv_any _ _ _ _ _).mono ?_
  rintro e Y1' ⟨rfl, u1'⟩
  have T1' := Lib.hid (T1.out.trans (u1'.mono T1.out.size))
  have T11 : Hid (Below Y1.heap.size Y1 Y1') := Lib.hid u1'
  clear k0 k1 u1'
  go_wp2_with fail
  refine (C2 Y1' (p0.step T1'.out)).mono ?_
  rintro e Y2 ⟨A2, c2, rfl, o2, u2⟩
  have T2 := Lib.hid (T1'.out.trans (u2.mono T1'.out.size))
  have T12 : Hid (Below Y1.heap.size Y1 Y2) := Lib.hid (T11.out.trans (u2.mono T11.out.size))
  have Q2 : Hid (∀ V, Below Y2.heap.size Y2 V → Bt V A2 X) := Lib.hid (fun V hV => Bs.step o2.bs hV)
  clear o2 u2
  go_wp2_with fail
  refine (C3 Y2 (q0.step T2.out)).mono ?_
  rintro e Y3 ⟨A3, m3, c3, hm3, rfl, r3, u3⟩
  have HM3 := Lib.hid hm3.symm
  obtain ⟨X3, hX3⟩ : ∃ V, Y3.alloc (.cells #[Value.int .i64 F1, .slice A3 m3 c3] 24) = V := ⟨_, rfl⟩
  have v3 : Below Y3.heap.size Y3 X3 := by rw [← hX3]; exact below_alloc1 _ _
  have T23 : Hid (Below Y2.heap.size Y2 X3) := Lib.hid (u3.trans (v3.mono u3.size))
  have K3 : Hid (∀ V, Below X3.heap.size X3 V → V.cell? ⟨Y3.heap.size, 0, none⟩ = some (.int .i64 F1) ∧ V.cell? ⟨Y3.heap.size, 1, none⟩ = some (.slice A3 m3 c3)) := Lib.hid (fun V hV => kb2_new hX3 hV)
  have P3 : Hid (∀ V, Below X3.heap.size X3 V → Lr V A3 L1) := Lib.hid (fun V hV => (r3.step v3).step hV)
  have q3 := Bs.step (q0.step T2.out) T23.out
  clear u3 v3 r3 hm3
  go_wp2_with fail
  refine (C4 X3 q3).mono ?_
  rintro e Y4 ⟨A4, m4, c4, hm4, rfl, r4, u4⟩
  obtain rfl : m4 = m3 := by rw [hm4, HM3.out]
  obtain ⟨X4, hX4⟩ : ∃ V, Y4.alloc (.cells #[Value.int .i64 F1, .slice A4 m4 c4] 31) = V := ⟨_, rfl⟩
  have v4 : Below Y4.heap.size Y4 X4 := by rw [← hX4]; exact below_alloc1 _ _
  have T34 : Hid (Below X3.heap.size X3 X4) := Lib.hid (u4.trans (v4.mono u4.size))
  have K4 : Hid (∀ V, Below X4.heap.size X4 V → V.cell? ⟨Y4.heap.size, 0, none⟩ = some (.int .i64 F1) ∧ V.cell? ⟨Y4.heap.size, 1, none⟩ = some (.slice A4 m4 c4)) := Lib.hid (fun V hV => kb2_new hX4 hV)
  have P4 : Hid (∀ V, Below X4.heap.size X4 V → Lr V A4 L1) := Lib.hid (fun V hV => (r4.step v4).step hV)
  have T14 : Hid (Below Y1.heap.size Y1 X4) := Lib.hid ((T12.out.trans (T23.out.mono T12.out.size)).trans (T34.out.mono (Nat.le_trans T12.out.size T23.out.size)))
  clear u4 v4 q3 r4 hm4
  go_wp2_with fail
  refine (C5 X4 A1 c1 (Q1.out _ T14.out) D1.out).mono ?_
  rintro e Y5 ⟨A5, m5, c5, hm5, rfl, r5, u5⟩
  have HM5 := Lib.hid hm5.symm
  obtain ⟨X5, hX5⟩ : ∃ V, Y5.alloc (.cells #[Value.int .i64 F2, .slice A5 m5 c5] 24) = V := ⟨_, rfl⟩
  have v5 : Below Y5.heap.size Y5 X5 := by rw [← hX5]; exact below_alloc1 _ _
  have T45 : Hid (Below X4.heap.size X4 X5) := Lib.hid (u5.trans (v5.mono u5.size))
  have K5 : Hid (∀ V, Below X5.heap.size X5 V → V.cell? ⟨Y5.heap.size, 0, none⟩ = some (.int .i64 F2) ∧ V.cell? ⟨Y5.heap.size, 1, none⟩ = some (.slice A5 m5 c5)) := Lib.hid (fun V hV => kb2_new hX5 hV)
  have P5 : Hid (∀ V, Below X5.heap.size X5 V → Lr V A5 L2) := Lib.hid (fun V hV => (r5.step v5).step hV)
  have T35 : Hid (Below X3.heap.size X3 X5) := Lib.hid (T34.out.trans (T45.out.mono T34.out.size))
  clear u5 v5 r5 hm5
  obtain ⟨y0, y1⟩ := K3.out _ T35.out
  have hm99 : m4 ≤ 10000 := by have := HM3.out; have := HLL.out; omega
  go_wp2_with fail
  refine (C6 X5 A3 m4 c3 HM3.out (P3.out _ T35.out) hm99).mono ?_
  rintro e Y6 ⟨A6, c6, rfl, o6, u6⟩
  have T56 : Hid (Below X5.heap.size X5 Y6) := Lib.hid u6
  have Q6 : Hid (Bt Y6 A6 X6) := Lib.hid o6.bs
  have T46 : Hid (Below X4.heap.size X4 Y6) := Lib.hid (T45.out.trans (u6.mono T45.out.size))
  have T36 : Hid (Below X3.heap.size X3 Y6) := Lib.hid (T35.out.trans (u6.mono T35.out.size))
  have T26 : Hid (Below Y2.heap.size Y2 Y6) := Lib.hid (T23.out.trans (T36.out.mono T23.out.size))
  have T16 : Hid (Below Y1.heap.size Y1 Y6) := Lib.hid (T12.out.trans (T26.out.mono T12.out.size))
  have T06 : Hid (Below W0.heap.size W0 Y6) := Lib.hid (T2.out.trans (T26.out.mono T2.out.size))
  clear o6 u6 y0 y1 hX3 hX4 hX5
  go_upto_region 9 with fail
  go_cut [17] (fun v wx => v = .bool true ∧ Hid (Below Y6.heap.size Y6 wx))
  case first =>
    obtain ⟨x0, x1⟩ := K5.out _ T56.out
    obtain ⟨k0, k1⟩ := KX.out _ T06.out
    by_cases hE : E = 0
    · obtain ⟨hI, hF, hD⟩ := HBA.out hE
      subst hE hI hF hD
      obtain rfl : m5 = nx := by rw [← HM5.out, HNX.out]
      have S1 := fun V (hV : Below Y6.heap.size Y6 V) => same_any F2 A5 Ax m5 c5 cx L2 V HM5.out (P5.out V (T56.out.trans (hV.mono T56.out.size))) (p0.step (T06.out.trans (hV.mono T06.out.size))) (by omega)
      refine wp_region_quiet_below (by kernel_rfl) (by kernel_rfl) ?_
      have gg0 := cell_regrown x0
      have gg1 := cell_regrown x1
      have gg2 := cell_regrown k0
      have gg3 := cell_regrown k1
      have zz0 : ∀ d os, _ := fun d os => Calls.regrown_of (w := Y6) (d := d) (os := os) (conv_any F2 A5 m5 c5 _)
      have zz1 : ∀ d os, _ := fun d os => Calls.regrown_of (w := Y6) (d := d) (os := os) (conv_any F2 Ax m5 cx _)
      have zz2 : ∀ d os, _ := fun d os => Calls.regrown_of (w := Y6) (d := d) (os := os) (S1 _ (below_regrown Y6 d os))
      repeat (first | go_big_quiet_step (with_reducible exact zz0 _ _) | go_big_quiet_step (with_reducible exact zz1 _ _) | go_big_quiet_step (with_reducible exact zz2 _ _) | go_big_quiet_step (fail) | go_big_quiet_skip)
      refine wpQuiet_nil ?_
      intro W9 hw'
      obtain ⟨⟨dq, osq⟩, hw''⟩ := hw'
      have hbz := below_regrown Y6 dq osq
      rw [← hw''] at hbz
      clear hw'' gg0 gg1 gg2 gg3 zz0 zz1 zz2 
      have TZ := Lib.hid hbz
      clear hbz
      go_wp2_with fail
      go_meet
      case rel => exact ⟨rfl, TZ⟩
    · have d : (E == 0) = false := by simpa using hE
      have d2 : (E != 0) = true := by simp [bne, d]
      clear hE
      refine wp_region_quiet_below (by kernel_rfl) (by kernel_rfl) ?_
      have gg0 := cell_regrown x0
      have gg1 := cell_regrown x1
      have gg2 := cell_regrown k0
      have gg3 := cell_regrown k1
      repeat (first | go_big_quiet_step (fail) | go_big_quiet_skip)
      refine wpQuiet_nil ?_
      intro W9 hw'
      obtain ⟨⟨dq, osq⟩, hw''⟩ := hw'
      have hbz := below_regrown Y6 dq osq
      rw [← hw''] at hbz
      clear hw'' gg0 gg1 gg2 gg3  
      have TZ := Lib.hid hbz
      clear hbz
      go_wp2_with fail
      go_meet
      case rel => exact ⟨rfl, TZ⟩
  case rest =>
    obtain ⟨rfl, TZ⟩ := hcut
    obtain ⟨Y7, hY7⟩ : ∃ V, V = wc := ⟨_, rfl⟩
    subst hY7
    have T67 := TZ.out
    go_upto_region 10 with fail
    go_cut [18] (fun v wx => v = .bool true ∧ wx = Y7)
    case first =>
      by_cases hG : G = 0
      · obtain ⟨hJ, h6⟩ := HFO.out hG
        have r1 := run_str (P := Try.prog) (w := Y7) 25 5 9 Try.underlying25 Try.underlying5 Try.underlying9 _ A6 c6 X6 (Bs.step Q6.out T67)
        have r2 := run_str (P := Try.prog) (w := Y7) 25 5 9 Try.underlying25 Try.underlying5 Try.underlying9 _ A c l (q0.step (T06.out.trans (T67.mono T06.out.size)))
        rw [HM6.out] at r1
        rw [hn] at r2
        rw [h6] at r1
        subst hG hJ
        clear h6
        go_wp2_with fail
        go_meet
        case rel => exact ⟨rfl, rfl⟩
      · have d : (G == 0) = false := by simpa using hG
        have d2 : (G != 0) = true := by simp [bne, d]
        clear hG
        go_wp2_with fail
        go_meet
        case rel => exact ⟨rfl, rfl⟩
    case rest =>
      obtain ⟨rfl, hwc⟩ := hcut
      replace hwc := hwc.symm
      subst hwc
      clear C1 C2 C3 C4 C5 C6
      have T37 := T36.out.trans (T67.mono T36.out.size)
      have T47 := T46.out.trans (T67.mono T46.out.size)
      have T17 := T16.out.trans (T67.mono T16.out.size)
      have T27 := T26.out.trans (T67.mono T26.out.size)
      have T07 := T06.out.trans (T67.mono T06.out.size)
      obtain ⟨y0, y1⟩ := K3.out _ T37
      obtain ⟨z0, z1⟩ := K4.out _ T47
      have qa := Q1.out _ T17
      have qb := Q2.out _ T27
      have S1 := fun V (hV : Below Y7.heap.size Y7 V) => same_any F1 A3 A4 m4 c3 c4 L1 V HM3.out (P3.out V (T37.trans (hV.mono T37.size))) (P4.out V (T47.trans (hV.mono T47.size))) hm99
      go_wp2_with fail
      refine wp_region_quiet_below (by kernel_rfl) (by kernel_rfl) ?_
      have gg0 := cell_regrown y0
      have gg1 := cell_regrown y1
      have gg2 := cell_regrown z0
      have gg3 := cell_regrown z1
      have ss0 := str_regrown (c := c1) qa HMX.out.symm
      have ss1 := str_regrown (c := c2) qb HMX.out.symm
      have zz0 : ∀ d os, _ := fun d os => Calls.regrown_of (w := Y7) (d := d) (os := os) (alive_any _)
      have zz1 : ∀ d os, _ := fun d os => Calls.regrown_of (w := Y7) (d := d) (os := os) (conv_any F1 A3 m4 c3 _)
      have zz2 : ∀ d os, _ := fun d os => Calls.regrown_of (w := Y7) (d := d) (os := os) (S1 _ (below_regrown Y7 d os))
      repeat (first | go_big_quiet_step (with_reducible exact zz0 _ _) | go_big_quiet_step (with_reducible exact zz1 _ _) | go_big_quiet_step (with_reducible exact zz2 _ _) | go_big_quiet_step (fail) | go_big_quiet_skip)
      refine wpQuiet_nil ?_
      intro W9 hw'
      obtain ⟨⟨dq, osq⟩, hw''⟩ := hw'
      have hbz := below_regrown Y7 dq osq
      rw [← hw''] at hbz
      clear hw'' gg0 gg1 gg2 gg3 zz0 zz1 zz2 ss0 ss1
      go_wp2
      go_ret
      have T9 := T07.trans (hbz.mono T07.size)
      exact ⟨rfl, HB.out.trans (T9.mono HB.out.size)⟩
end Go.Proofs.Ytmgfcpbeammopaa
