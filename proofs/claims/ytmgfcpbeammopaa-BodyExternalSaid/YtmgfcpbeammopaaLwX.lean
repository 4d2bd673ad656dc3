/-
  The walk of the law BodyExternal. No statement is proved here; no conditions.
-/
import Derived.Test.YtmgfcpbeammopaaAl
import Derived.Test.YtmgfcpbeammopaaREs
namespace Go.Proofs.Ytmgfcpbeammopaa
open Go.RowKit Go.Joins

set_option maxRecDepth 100000 in
set_option maxHeartbeats 8000000 in
theorem external_walk (x : Xb) (A : Option Addr) (n c : Nat) (l : List Int) (w : World) (okx : Okx x) (hn : l.length = n) (hb : Bt w A l) (hy : Byt l) (hc : n ≤ c) :
    Calls Try.prog 5 #[.agg #[.int .u32 x.m, .bool x.s, .int .i64 x.c, .int .u32 x.f, .int .u32 x.t], .slice A n c] w fun e w' => e = .returned (.bool true) ∧ Below w.heap.size w w' := by
  obtain ⟨W0, hW0⟩ : ∃ V, w.alloc (.cells #[.int .u32 x.m, .bool x.s, .int .i64 x.c, .int .u32 x.f, .int .u32 x.t] 51) = V := ⟨_, rfl⟩
  have bW0 : Below w.heap.size w W0 := by rw [← hW0]; exact below_alloc1 _ _
  have sW0 : W0.heap.size = w.heap.size + 1 := by rw [← hW0]; simp
  have KX : Hid (∀ V, Below W0.heap.size W0 V → V.cell? ⟨w.heap.size, 0, none⟩ = some (.int .u32 x.m) ∧ V.cell? ⟨w.heap.size, 1, none⟩ = some (.bool x.s) ∧ V.cell? ⟨w.heap.size, 2, none⟩ = some (.int .i64 x.c) ∧ V.cell? ⟨w.heap.size, 3, none⟩ = some (.int .u32 x.f) ∧ V.cell? ⟨w.heap.size, 4, none⟩ = some (.int .u32 x.t)) := Lib.hid (fun V hV => kb5_new hW0 hV)
  have q0 := hb.step bW0
  have HB := Lib.hid bW0
  obtain ⟨k0, k1, k2, k3, k4⟩ := KX.out _ (Below.refl _ _)
  by_cases h1 : 1400 < n
  · have h2 : (n : Int) > 1400 := by omega
    clear hn hb hy hc q0 bW0 KX
    go_enter Try.func5, Try.ntmps5
    go_wp2_with fail
    refine (alive_any _).mono ?_
    rintro e V1 ⟨rfl, hv1⟩
    go_wp2
    go_ret
    exact ⟨rfl, HB.out.trans (hv1.mono HB.out.size)⟩
  have h2 : ¬ ((n : Int) > 1400) := by omega
  have hl : n ≤ 5000 := by omega
  obtain ⟨X, hX⟩ : ∃ X, encXL x = X := ⟨_, rfl⟩
  obtain ⟨mX, hmX⟩ : ∃ mX, X.length = mX := ⟨_, rfl⟩
  obtain ⟨E, hE⟩ : ∃ E, encXE x = E := ⟨_, rfl⟩
  have yX : Byt X := by rw [← hX]; unfold encXL; split; exact enX_byt _; intro z hz; cases hz
  have lX : mX ≤ 5000 := by rw [← hmX, ← hX]; unfold encXL; split; rw [enX_length]; omega; simp
  have C1 := fun V => external_any x V okx
  have C2 := fun V => rexternal_any x V okx
  rw [hX, hE, hmX] at C1 C2
  have C3 := fun V hV => readexternal_any A n c l V hn hV hy hc hl
  have C4 := fun V hV => rreadexternal_any A n c l V hn hV hy hc hl
  have C5 := fun V A' c' hV hc' => readexternal_any A' mX c' X V hmX hV yX hc' lX
  have C6 := fun V => external_any (rdX l) V (rdX_ok hy)
  have HBA : Hid (E = 0 → rdXE X = 0 ∧ rdX X = x) := Lib.hid (fun h => by
    have hm : mayc x.m x.c = true := by
      by_cases q : mayc x.m x.c = true
      · exact q
      · rw [← hE] at h; unfold encXE at h; rw [if_neg q] at h; omega
    have e : X = enX x := by rw [← hX]; unfold encXL; rw [if_pos hm]
    rw [e]
    exact dec_enX okx hm)
  have HFO0 : rdXE l = 0 → encXE (rdX l) = 0 ∧ encXL (rdX l) = l := fun h => by
    obtain ⟨q1, q2⟩ := en_decX h
    exact ⟨by unfold encXE; rw [if_pos q1], by unfold encXL; rw [if_pos q1, q2]⟩
  have HMX := Lib.hid hmX
  generalize rdXE l = G at *
  generalize encXE (rdX l) = J at *
  generalize encXL (rdX l) = X6 at *
  generalize rdX l = y at *
  generalize rdXE X = I at *
  generalize rdX X = x2 at *
  have HFO := Lib.hid HFO0
  obtain ⟨m6, hm6⟩ : ∃ m6, X6.length = m6 := ⟨_, rfl⟩
  rw [hm6] at C6
  have HM6 := Lib.hid hm6
  clear hX hmX hE yX lX HFO0 hm6 okx
  clear hb bW0 hy hc h1 hl
  have T0 : Below W0.heap.size W0 W0 := Below.refl _ _
  go_enter Try.func5, Try.ntmps5
  go_wp2_with fail
  refine (C1 W0).mono ?_
  rintro e Y1 ⟨A1, c1, rfl, o1, u1⟩
  have T1 := Lib.hid u1
  have Q1 : Hid (∀ V, Below Y1.heap.size Y1 V → Bt V A1 X) := Lib.hid (fun V hV => Bs.step o1.bs hV)
  have D1 : Hid (mX ≤ c1) := Lib.hid (by have := o1.cap_le; rwa [HMX.out] at this)
  clear o1 u1 k0 k1 k2 k3 k4
  obtain ⟨k0, k1, k2, k3, k4⟩ := KX.out _ T1.out
  go_wp2_with fail
  refine (C2 Y1).mono ?_
  rintro e Y2 ⟨A2, c2, rfl, o2, u2⟩
  have T2 := Lib.hid (T1.out.trans (u2.mono T1.out.size))
  have T12 : Hid (Below Y1.heap.size Y1 Y2) := Lib.hid u2
  have Q2 : Hid (∀ V, Below Y2.heap.size Y2 V → Bt V A2 X) := Lib.hid (fun V hV => Bs.step o2.bs hV)
  clear o2 u2 k0 k1 k2 k3 k4
  go_wp2_with fail
  refine (C3 Y2 (q0.step T2.out)).mono ?_
  rintro e Y3 ⟨rfl, u3⟩
  obtain ⟨X3, hX3⟩ : ∃ V, Y3.alloc (.cells #[Value.int .u32 y.m, .bool y.s, .int .i64 y.c, .int .u32 y.f, .int .u32 y.t] 51) = V := ⟨_, rfl⟩
  have v3 : Below Y3.heap.size Y3 X3 := by rw [← hX3]; exact below_alloc1 _ _
  have T23 : Hid (Below Y2.heap.size Y2 X3) := Lib.hid (u3.trans (v3.mono u3.size))
  have K3 : Hid (∀ V, Below X3.heap.size X3 V → V.cell? ⟨Y3.heap.size, 0, none⟩ = some (.int .u32 y.m) ∧ V.cell? ⟨Y3.heap.size, 1, none⟩ = some (.bool y.s) ∧ V.cell? ⟨Y3.heap.size, 2, none⟩ = some (.int .i64 y.c) ∧ V.cell? ⟨Y3.heap.size, 3, none⟩ = some (.int .u32 y.f) ∧ V.cell? ⟨Y3.heap.size, 4, none⟩ = some (.int .u32 y.t)) := Lib.hid (fun V hV => kb5_new hX3 hV)
  have q3 := Bs.step (q0.step T2.out) T23.out
  clear u3 v3
  go_wp2_with fail
  refine (C4 X3 q3).mono ?_
  rintro e Y4 ⟨rfl, u4⟩
  obtain ⟨X4, hX4⟩ : ∃ V, Y4.alloc (.cells #[Value.int .u32 y.m, .bool y.s, .int .i64 y.c, .int .u32 y.f, .int .u32 y.t] 54) = V := ⟨_, rfl⟩
  have v4 : Below Y4.heap.size Y4 X4 := by rw [← hX4]; exact below_alloc1 _ _
  have T34 : Hid (Below X3.heap.size X3 X4) := Lib.hid (u4.trans (v4.mono u4.size))
  have K4 : Hid (∀ V, Below X4.heap.size X4 V → V.cell? ⟨Y4.heap.size, 0, none⟩ = some (.int .u32 y.m) ∧ V.cell? ⟨Y4.heap.size, 1, none⟩ = some (.bool y.s) ∧ V.cell? ⟨Y4.heap.size, 2, none⟩ = some (.int .i64 y.c) ∧ V.cell? ⟨Y4.heap.size, 3, none⟩ = some (.int .u32 y.f) ∧ V.cell? ⟨Y4.heap.size, 4, none⟩ = some (.int .u32 y.t)) := Lib.hid (fun V hV => kb5_new hX4 hV)
  have T14 : Hid (Below Y1.heap.size Y1 X4) := Lib.hid ((T12.out.trans (T23.out.mono T12.out.size)).trans (T34.out.mono (Nat.le_trans T12.out.size T23.out.size)))
  clear u4 v4 q3
  go_wp2_with fail
  refine (C5 X4 A1 c1 (Q1.out _ T14.out) D1.out).mono ?_
  rintro e Y5 ⟨rfl, u5⟩
  obtain ⟨X5, hX5⟩ : ∃ V, Y5.alloc (.cells #[Value.int .u32 x2.m, .bool x2.s, .int .i64 x2.c, .int .u32 x2.f, .int .u32 x2.t] 51) = V := ⟨_, rfl⟩
  have v5 : Below Y5.heap.size Y5 X5 := by rw [← hX5]; exact below_alloc1 _ _
  have T45 : Hid (Below X4.heap.size X4 X5) := Lib.hid (u5.trans (v5.mono u5.size))
  have K5 : Hid (∀ V, Below X5.heap.size X5 V → V.cell? ⟨Y5.heap.size, 0, none⟩ = some (.int .u32 x2.m) ∧ V.cell? ⟨Y5.heap.size, 1, none⟩ = some (.bool x2.s) ∧ V.cell? ⟨Y5.heap.size, 2, none⟩ = some (.int .i64 x2.c) ∧ V.cell? ⟨Y5.heap.size, 3, none⟩ = some (.int .u32 x2.f) ∧ V.cell? ⟨Y5.heap.size, 4, none⟩ = some (.int .u32 x2.t)) := Lib.hid (fun V hV => kb5_new hX5 hV)
  have T35 : Hid (Below X3.heap.size X3 X5) := Lib.hid (T34.out.trans (T45.out.mono T34.out.size))
  clear u5 v5
  obtain ⟨y0, y1, y2, y3, y4⟩ := K3.out _ T35.out
  go_wp2_with fail
  refine (C6 X5).mono ?_
  rintro e Y6 ⟨A6, c6, rfl, o6, u6⟩
  have T56 : Hid (Below X5.heap.size X5 Y6) := Lib.hid u6
  have Q6 : Hid (Bt Y6 A6 X6) := Lib.hid o6.bs
  have T46 : Hid (Below X4.heap.size X4 Y6) := Lib.hid (T45.out.trans (u6.mono T45.out.size))
  have T36 : Hid (Below X3.heap.size X3 Y6) := Lib.hid (T35.out.trans (u6.mono T35.out.size))
  have T26 : Hid (Below Y2.heap.size Y2 Y6) := Lib.hid (T23.out.trans (T36.out.mono T23.out.size))
  have T16 : Hid (Below Y1.heap.size Y1 Y6) := Lib.hid (T12.out.trans (T26.out.mono T12.out.size))
  have T06 : Hid (Below W0.heap.size W0 Y6) := Lib.hid (T2.out.trans (T26.out.mono T2.out.size))
  clear o6 u6 y0 y1 y2 y3 y4 hX3 hX4 hX5
  go_upto_region 9 with fail
  go_cut [17] (fun v wx => v = .bool true ∧ wx = Y6)
  case first =>
    obtain ⟨x0, x1, x2, x3, x4⟩ := K5.out _ T56.out
    obtain ⟨k0, k1, k2, k3, k4⟩ := KX.out _ T06.out
    by_cases hE : E = 0
    · obtain ⟨hI, hD⟩ := HBA.out hE
      subst hE hI hD
      go_wp2_with fail
      go_meet
      case rel => exact ⟨rfl, rfl⟩
    · have d : (E == 0) = false := by simpa using hE
      have d2 : (E != 0) = true := by simp [bne, d]
      clear hE
      go_wp2_with fail
      go_meet
      case rel => exact ⟨rfl, rfl⟩
  case rest =>
    obtain ⟨rfl, hwc⟩ := hcut
    replace hwc := hwc.symm
    subst hwc
    go_upto_region 10 with fail
    go_cut [18] (fun v wx => v = .bool true ∧ wx = Y6)
    case first =>
      by_cases hG : G = 0
      · obtain ⟨hJ, h6⟩ := HFO.out hG
        have r1 := run_str (P := Try.prog) (w := Y6) 25 5 9 Try.underlying25 Try.underlying5 Try.underlying9 _ A6 c6 X6 Q6.out
        have r2 := run_str (P := Try.prog) (w := Y6) 25 5 9 Try.underlying25 Try.underlying5 Try.underlying9 _ A c l (q0.step T06.out)
        rw [HM6.out] at r1
        rw [hn] at r2
        rw [h6] at r1
        subst hG hJ
        clear h6
        go_wp2_with fail
        go_meet
        case rel => exact ⟨rfl, rfl⟩
      · have d : (G == 0) = false := by simpa using hG
        have d2 : (G != 0) = true := by simp [bne, d]
        clear hG
        go_wp2_with fail
        go_meet
        case rel => exact ⟨rfl, rfl⟩
    case rest =>
      obtain ⟨rfl, hwc⟩ := hcut
      replace hwc := hwc.symm
      subst hwc
      clear C1 C2 C3 C4 C5 C6
      obtain ⟨y0, y1, y2, y3, y4⟩ := K3.out _ T36.out
      obtain ⟨z0, z1, z2, z3, z4⟩ := K4.out _ T46.out
      go_wp2_with fail
      refine (alive_any _).mono ?_
      rintro e V9 ⟨rfl, u9⟩
      clear y0 y1 y2 y3 y4 z0 z1 z2 z3 z4
      obtain ⟨y0, y1, y2, y3, y4⟩ := K3.out _ (T36.out.trans (u9.mono T36.out.size))
      obtain ⟨z0, z1, z2, z3, z4⟩ := K4.out _ (T46.out.trans (u9.mono T46.out.size))
      have r1 := run_str (P := Try.prog) (w := V9) 25 5 9 Try.underlying25 Try.underlying5 Try.underlying9 _ A1 c1 X (Q1.out _ (T16.out.trans (u9.mono T16.out.size)))
      have r2 := run_str (P := Try.prog) (w := V9) 25 5 9 Try.underlying25 Try.underlying5 Try.underlying9 _ A2 c2 X (Q2.out _ (T26.out.trans (u9.mono T26.out.size)))
      rw [HMX.out] at r1 r2
      have T9 := T06.out.trans (u9.mono T06.out.size)
      clear u9
      go_wp2
      go_ret
      exact ⟨rfl, HB.out.trans (T9.mono HB.out.size)⟩
end Go.Proofs.Ytmgfcpbeammopaa
