/-
  The walk of StoreTwice. No statement is proved here; no conditions.
-/
import Derived.Test.YtadcicmccdphkaaAl
import Derived.Test.YtadcicmccdphkaaFd
import Derived.Test.YtadcicmccdphkaaFrame
import Derived.Test.YtadcicmccdphkaaVt
namespace Go.Proofs.Ytadcicmccdphkaa
open Go.RowKit Go.Joins

/-- What holds between two rounds: the store is one that may be, with no more than k. -/
structure TJ (w : World) (y : Ae) (m : Int) (kS k : Nat) (wx : World) : Prop where
  ex : ∃ As ns cs os Ls, Bk wx kS (.cells #[.int .i64 m, .slice As ns cs, .bool os] 24) ∧ Ls.length = ns ∧ Aro w.heap.size wx As cs Ls ∧ Vs (cons Ls) ∧ ns ≤ k
  ga : Bk wx w.heap.size (.cells #[.int .i64 y.h.a, .int .i64 y.h.o, .int .i64 y.h.t, .int .u32 y.h.i, .int .u32 y.h.v, .int .u32 y.h.q, .int .i64 y.h.s, .int .i64 y.h.n, .slice y.A y.l.length y.c] 34)
  bel : Below w.heap.size w wx
  ks : w.heap.size < kS
theorem kp_stB (W : World) (g : Nat) (u0 u1 u2 u3 u4 u5 u6 u7 u8 : Value) : Kp (· = g) W ((((((((((W).setCell ⟨g, 0, none⟩ (u0)).setCell ⟨g, 1, none⟩ (u1)).setCell ⟨g, 2, none⟩ (u2)).setCell ⟨g, 3, none⟩ (u3)).setCell ⟨g, 4, none⟩ (u4)).setCell ⟨g, 5, none⟩ (u5)).setCell ⟨g, 6, none⟩ (u6)).setCell ⟨g, 7, none⟩ (u7)).setCell ⟨g, 8, none⟩ (u8)) :=
  ((((((((Kp.setCell (S := (· = g)) W ⟨g, 0, none⟩ u0 rfl).then_set ⟨g, 1, none⟩ u1 rfl).then_set ⟨g, 2, none⟩ u2 rfl).then_set ⟨g, 3, none⟩ u3 rfl).then_set ⟨g, 4, none⟩ u4 rfl).then_set ⟨g, 5, none⟩ u5 rfl).then_set ⟨g, 6, none⟩ u6 rfl).then_set ⟨g, 7, none⟩ u7 rfl).then_set ⟨g, 8, none⟩ u8 rfl
set_option maxRecDepth 100000 in
set_option maxHeartbeats 8000000 in
theorem twice_walk (A0 : Option Addr) (n c0 : Nat) (LL : List Ae) (y : Ae) (w : World) (hn : LL.length = n) (okx : ∀ x ∈ LL, Okd x.h ∧ Byt x.l ∧ x.l.length ≤ x.c) (hr : Arr w A0 LL) (_hc : n ≤ c0) (oky : Okd y.h ∧ Byt y.l ∧ Bt w y.A y.l ∧ y.l.length ≤ y.c) :
    Calls Try.prog 4 #[.slice A0 n c0, av y] w fun e w' => e = .returned (.bool true) ∧ Below w.heap.size w w' := by
  have HN := Lib.hid hn
  have HO := Lib.hid okx
  have HR := Lib.hid hr
  have HY := Lib.hid oky
  clear hn okx hr oky
  obtain ⟨m, hm⟩ : ∃ m : Int, 200 = m := ⟨_, rfl⟩
  obtain ⟨W0, hW0⟩ : ∃ V, w.alloc (.cells #[.int .i64 y.h.a, .int .i64 y.h.o, .int .i64 y.h.t, .int .u32 y.h.i, .int .u32 y.h.v, .int .u32 y.h.q, .int .i64 y.h.s, .int .i64 y.h.n, .slice y.A y.l.length y.c] 34) = V := ⟨_, rfl⟩
  have bW0 : Below w.heap.size w W0 := by rw [← hW0]; exact below_alloc1 _ _
  have G0 := Bk.mk hW0
  have CNw := snew_any 200 W0
  simp only [show nwM 200 = 200 from rfl, show nwE 200 = 0 from rfl] at CNw
  rw [hm] at CNw
  go_enter Try.func4, Try.ntmps4
  go_wp2_with (simp only [hm])
  refine CNw.mono ?_
  rintro e W1 ⟨rfl, u1⟩
  obtain ⟨ka, hka⟩ : ∃ q, W1.heap.size = q := ⟨_, rfl⟩
  obtain ⟨Va, hVa⟩ : ∃ V, W1.alloc (.cells #[Value.int .i64 0, .slice none 0 0, .bool false] 24) = V := ⟨_, rfl⟩
  have uVa : Below W1.heap.size W1 Va := by rw [← hVa]; exact below_alloc1 _ _
  have GVa : Bk Va ka (.cells #[Value.int .i64 0, .slice none 0 0, .bool false] 24) := by rw [← hka]; exact Bk.mk hVa
  obtain ⟨Xa, hXa⟩ : ∃ V, ((Va.setCell ⟨ka, 0, none⟩ (.int .i64 m)).setCell ⟨ka, 1, none⟩ (.slice none 0 0)).setCell ⟨ka, 2, none⟩ (.bool false) = V := ⟨_, rfl⟩
  have Ga : Bk Xa ka (.cells #[.int .i64 m, .slice none 0 0, .bool false] 24) := by rw [← hXa]; exact kz3_set GVa _ _ _
  have ua : Below W1.heap.size W1 Xa := by rw [← hXa]; exact below_st3 uVa (by rw [← hka]; exact Nat.le_refl _) _ _ _
  obtain ⟨ya0, ya1, ya2, fa0, fa1, fa2, hza⟩ := kz3_at GVa
  have J0 : Hid (TJ w y m ka 0 Xa) := Lib.hid ⟨⟨none, 0, 0, false, [], Ga, rfl, Aro.nil _ _, Vs.nil, by omega⟩, (G0.step u1).step ua, (bW0.trans (u1.mono bW0.size)).trans (ua.mono (bW0.trans (u1.mono bW0.size)).size), by rw [← hka]; exact Nat.lt_of_lt_of_le G0.lt u1.size⟩
  have CAl := fun V => alive_any V
  clear CNw u1 ua Ga G0 bW0
  go_wp2_with fail
  go_loopg [7] n (fun gf v7 wx => ∃ (k : Nat), v7 = .int .i64 (k : Int) ∧ Hid (gf + k = n) ∧ Hid (k ≤ 80) ∧ Hid (TJ w y m ka k wx))
  case atStart => exact ⟨0, rfl, Lib.hid (by omega), Lib.hid (by omega), J0⟩
  case round =>
    obtain ⟨k, rfl, hk, hk8, hJ⟩ := hrel
    have hk' := hk.out
    have hk80' := hk8.out
    clear J0 ya0 ya1 ya2 fa0 fa1 fa2 hza hXa hVa hka GVa uVa hW0
    obtain ⟨⟨As, ns, cs, os, Ls, GS, hls, has, hvs, hnm⟩, GA, hb, hks⟩ := hJ.out
    have HB := Lib.hid hb
    have HLS := Lib.hid hls
    have HAS := Lib.hid has
    have HVS := Lib.hid hvs
    have HNM := Lib.hid hnm
    have HGS := Lib.hid GS
    have HGA := Lib.hid GA
    have HKS := Lib.hid hks
    have hns : ns ≤ 80 := by omega
    clear hls has hvs hnm hb
    by_cases hend : gk = 0 ∨ 80 ≤ k
    · go_upto_region 3 with fail
      go_cut [32] (fun v wx => v = .bool false ∧ wx = wr)
      case first =>
        rcases Nat.eq_zero_or_pos gk with rfl | hpos
        · have lt0 : decide ((k : Int) < (n : Int)) = false := by simp; omega
          have lt1 : decide (k < n) = false := by simp; omega
          clear GS GA
          go_wp2_with fail
          go_meet
          case rel => exact ⟨rfl, rfl⟩
        · have h80 : 80 ≤ k := by omega
          have lt0 : (k : Int) < (n : Int) := by omega
          have lt1 : decide ((k : Int) < 80) = false := by simp; omega
          have lt2 : decide (k < 80) = false := by simp; omega
          clear GS GA
          go_wp2_with fail
          go_meet
          case rel => exact ⟨rfl, rfl⟩
      case rest =>
        obtain ⟨rfl, hwc⟩ := hcut
        replace hwc := hwc.symm
        subst hwc
        by_cases hyl : 300 < y.l.length
        · have hg : ((y.l.length : Nat) : Int) > 300 := by omega
          obtain ⟨a0, a1, a2, a3, a4, a5, a6, a7, a8, -⟩ := kz9_at GA
          clear GS
          go_wp2_with fail
          refine (CAl _).mono ?_
          rintro e W2 ⟨rfl, u2⟩
          go_wp2
          go_ret
          exact ⟨rfl, HB.out.trans (u2.mono HB.out.size)⟩
        have hg : ¬ ((y.l.length : Nat) : Int) > 300 := by omega
        obtain ⟨RC, Ro, Rk, Re, hR⟩ : ∃ a b c d, putR m (cons Ls) os (y.h, y.l) = ⟨a, b, c, d⟩ := ⟨_, _, _, _, rfl⟩
        have hlp := put_len (m := m) (o := os) (x := (y.h, y.l)) HVS.out
        have hvp := put_vs (m := m) (o := os) (x := (y.h, y.l)) HVS.out HY.out.1 HY.out.2.1
        have hwy := put_ways (m := m) (o := os) (x := (y.h, y.l)) HVS.out
        have htw := put_twice (m := m) (o := os) (x := (y.h, y.l)) HVS.out HY.out.1 HY.out.2.1
        rw [hR] at hlp hvp hwy htw
        simp only [cons_length, HLS.out] at hlp hvp htw
        have hbad : Re ≠ 0 → RC = cons Ls ∧ Ro = os := fun h => by
          rcases hwy with ⟨h1, h2, _⟩ | ⟨_, _, ⟨j, hj, _, _, ⟨_, h3⟩ | ⟨_, h3⟩⟩ | ⟨_, ⟨h4, h3⟩ | ⟨_, h3⟩⟩⟩
          · exact ⟨h1, h2⟩
          · injection h3 with _ _ _ h3; exact absurd h3 h
          · injection h3 with _ _ _ h3; exact absurd h3 h
          · rw [cons_length, HLS.out] at h4; omega
          · injection h3 with _ _ _ h3; exact absurd h3 h
        have HBAD := Lib.hid hbad
        have HTW := Lib.hid htw
        have HVP := Lib.hid hvp
        have HYB : Hid (∀ V, Below w.heap.size w V → Bt V y.A y.l) := Lib.hid (fun V hV => HY.out.2.2.1.step hV)
        have CP := sput_any y.h y.A y.l.length y.c y.l m As ns cs os Ls wr HLS.out HAS.out.arr (by omega) (fun z hz => (HVS.out.e z hz).sok) HY.out.1 HY.out.2.1 rfl (by omega) HY.out.2.2.2 (HYB.out _ HB.out)
        simp only [hR, PP] at CP
        clear hR hvp hwy htw hbad
        obtain ⟨a0, a1, a2, a3, a4, a5, a6, a7, a8, -⟩ := kz9_at GA
        obtain ⟨s0, s1, s2, -⟩ := kz3_at GS
        go_wp2_with fail
        refine CP.mono ?_
        rintro e W2 ⟨Ap, cp, np, Lp, rfl, hnp, hcp, hap, u2⟩
        have hnp2 : np = RC.length := by rw [← hnp, ← cons_length, hcp]
        have hnp81 : np ≤ 81 := by rw [hnp2]; have := hlp.2.1; omega
        have HNP := Lib.hid hnp
        have HCP := Lib.hid hcp
        have HNP2 := Lib.hid hnp2
        clear a0 a1 a2 a3 a4 a5 a6 a7 a8 s0 s1 s2 GS GA CP hnp hcp hlp hnp2
        obtain ⟨kb, hkb⟩ : ∃ q, W2.heap.size = q := ⟨_, rfl⟩
        obtain ⟨Vb, hVb⟩ : ∃ V, W2.alloc (.cells #[Value.int .i64 0, .slice none 0 0, .bool false] 24) = V := ⟨_, rfl⟩
        have uVb : Below W2.heap.size W2 Vb := by rw [← hVb]; exact below_alloc1 _ _
        have GVb : Bk Vb kb (.cells #[Value.int .i64 0, .slice none 0 0, .bool false] 24) := by rw [← hkb]; exact Bk.mk hVb
        obtain ⟨Xb, hXb⟩ : ∃ V, ((Vb.setCell ⟨kb, 0, none⟩ (.int .i64 m)).setCell ⟨kb, 1, none⟩ (.slice Ap np cp)).setCell ⟨kb, 2, none⟩ (.bool Ro) = V := ⟨_, rfl⟩
        have Gb : Bk Xb kb (.cells #[.int .i64 m, .slice Ap np cp, .bool Ro] 24) := by rw [← hXb]; exact kz3_set GVb _ _ _
        have ub : Below W2.heap.size W2 Xb := by rw [← hXb]; exact below_st3 uVb (by rw [← hkb]; exact Nat.le_refl _) _ _ _
        obtain ⟨yb0, yb1, yb2, fb0, fb1, fb2, hzb⟩ := kz3_at GVb
        have T2 := Lib.hid (u2.trans (ub.mono u2.size))
        have HAb : Hid (Aro w.heap.size Xb Ap cp Lp) := Lib.hid (by
          have h1 := (hap.lower HB.out.size).step uVb
          rw [← hXb]
          exact ((h1.set GVb (by decide) (by decide) _).set (i := 1) (Bk.set3 (i := 0) GVb) (by decide) (by decide) _).set (i := 2) (Bk.set3 (i := 1) (Bk.set3 (i := 0) GVb)) (by decide) (by decide) _)
        have HGSb := Lib.hid (HGS.out.step T2.out)
        have HGAb := Lib.hid (HGA.out.step T2.out)
        have HASb := Lib.hid (HAS.out.step T2.out)
        have HBb := Lib.hid (HB.out.trans (T2.out.mono HB.out.size))
        have HGTb := Lib.hid Gb
        clear u2 ub hap Gb
        by_cases he : Re = 0
        · subst he
          have htw := HTW.out rfl
          have CP2 := sput_any y.h y.A y.l.length y.c y.l m Ap np cp Ro Lp Xb HNP.out HAb.out.arr (by omega) (fun z hz => (HVP.out.e z (by rw [← HCP.out]; exact hz)).sok) HY.out.1 HY.out.2.1 rfl (by omega) HY.out.2.2.2 (HYB.out _ HBb.out)
          rw [HCP.out, htw.1] at CP2
          simp only [PP] at CP2
          have HFL := Lib.hid htw.2
          obtain ⟨k2, hk2⟩ : ∃ k2 : Int, (if Rk = 0 then 0 else 1) = k2 := ⟨_, rfl⟩
          rw [hk2] at CP2
          have HK2 := Lib.hid hk2
          clear htw hk2
          obtain ⟨a0, a1, a2, a3, a4, a5, a6, a7, a8, -⟩ := kz9_at HGAb.out
          obtain ⟨t0, t1, t2, -⟩ := kz3_at HGTb.out
          go_wp2_with fail
          clear yb0 yb1 yb2 fb0 fb1 fb2 hzb hXb hVb hkb GVb uVb
          refine CP2.mono ?_
          rintro e W3 ⟨Aq, cq, nq, Lq, rfl, hnq, hcq, haq, u3⟩
          have hnq2 : nq = np := by rw [← hnq, ← cons_length, hcq, HNP2.out]
          have HNQ := Lib.hid hnq
          have HCQ := Lib.hid hcq
          subst hnq2
          clear a0 a1 a2 a3 a4 a5 a6 a7 a8 t0 t1 t2 CP2 hnq hcq
          obtain ⟨kd, hkd⟩ : ∃ q, W3.heap.size = q := ⟨_, rfl⟩
          obtain ⟨Vd, hVd⟩ : ∃ V, W3.alloc (.cells #[Value.int .i64 0, .slice none 0 0, .bool false] 24) = V := ⟨_, rfl⟩
          have uVd : Below W3.heap.size W3 Vd := by rw [← hVd]; exact below_alloc1 _ _
          have GVd : Bk Vd kd (.cells #[Value.int .i64 0, .slice none 0 0, .bool false] 24) := by rw [← hkd]; exact Bk.mk hVd
          obtain ⟨Xd, hXd⟩ : ∃ V, ((Vd.setCell ⟨kd, 0, none⟩ (.int .i64 m)).setCell ⟨kd, 1, none⟩ (.slice Aq nq cq)).setCell ⟨kd, 2, none⟩ (.bool Ro) = V := ⟨_, rfl⟩
          have Gd : Bk Xd kd (.cells #[.int .i64 m, .slice Aq nq cq, .bool Ro] 24) := by rw [← hXd]; exact kz3_set GVd _ _ _
          have ud : Below W3.heap.size W3 Xd := by rw [← hXd]; exact below_st3 uVd (by rw [← hkd]; exact Nat.le_refl _) _ _ _
          obtain ⟨yd0, yd1, yd2, fd0, fd1, fd2, hzd⟩ := kz3_at GVd
          have T3 := Lib.hid (u3.trans (ud.mono u3.size))
          have HAd : Hid (Aro w.heap.size Xd Aq cq Lq) := Lib.hid (by
            have h1 := (haq.lower HBb.out.size).step uVd
            rw [← hXd]
            exact ((h1.set GVd (by decide) (by decide) _).set (i := 1) (Bk.set3 (i := 0) GVd) (by decide) (by decide) _).set (i := 2) (Bk.set3 (i := 1) (Bk.set3 (i := 0) GVd)) (by decide) (by decide) _)
          have HGAd := Lib.hid (HGAb.out.step T3.out)
          have HGTd := Lib.hid (HGTb.out.step T3.out)
          have HAPd := Lib.hid (HAb.out.step T3.out)
          have HBd := Lib.hid (HBb.out.trans (T3.out.mono HBb.out.size))
          have HGUd := Lib.hid Gd
          clear u3 ud haq Gd
          have hsm : ∀ z ∈ Lq, z.l.length ≤ 100000 := fun z hz => by
            have h2 := (HVP.out.e (con z) (by rw [← HCQ.out]; exact List.mem_map.2 ⟨_, hz, rfl⟩)).sok.n
            simp only [con] at h2
            omega
          have CD := fun V (hV : Below Xd.heap.size Xd V) => sdrop_any y.h m Aq nq cq Ro Lq V HNQ.out (HAd.out.step hV).arr (by omega) hsm
          simp only [DrP, HCQ.out] at CD
          have KS : Hid (∀ V, Below Xd.heap.size Xd V → (V.cell? ⟨kd, 0, none⟩ = some (.int .i64 m) ∧ V.cell? ⟨kd, 1, none⟩ = some (.slice Aq nq cq) ∧ V.cell? ⟨kd, 2, none⟩ = some (.bool Ro)) ∧ (V.cell? ⟨w.heap.size, 0, none⟩ = some (.int .i64 y.h.a) ∧ V.cell? ⟨w.heap.size, 1, none⟩ = some (.int .i64 y.h.o) ∧ V.cell? ⟨w.heap.size, 2, none⟩ = some (.int .i64 y.h.t) ∧ V.cell? ⟨w.heap.size, 3, none⟩ = some (.int .u32 y.h.i) ∧ V.cell? ⟨w.heap.size, 4, none⟩ = some (.int .u32 y.h.v) ∧ V.cell? ⟨w.heap.size, 5, none⟩ = some (.int .u32 y.h.q) ∧ V.cell? ⟨w.heap.size, 6, none⟩ = some (.int .i64 y.h.s) ∧ V.cell? ⟨w.heap.size, 7, none⟩ = some (.int .i64 y.h.n) ∧ V.cell? ⟨w.heap.size, 8, none⟩ = some (.slice y.A y.l.length y.c))) := Lib.hid (fun V hV => by
            obtain ⟨q0, q1, q2, -⟩ := kz3_at (HGUd.out.step hV)
            obtain ⟨p0, p1, p2, p3, p4, p5, p6, p7, p8, -⟩ := kz9_at (HGAd.out.step hV)
            exact ⟨⟨q0, q1, q2⟩, p0, p1, p2, p3, p4, p5, p6, p7, p8⟩)
          have HFL2 : Hid ((RC.filter (fun z => !kq y.h z.1)).length + 1 = nq) := Lib.hid (by rw [HNP2.out]; exact HFL.out)
          clear hsm
          go_upto_region 14 with fail
          clear yd0 yd1 yd2 fd0 fd1 fd2 hzd hXd hVd hkd GVd uVd
          go_cut [17, 18] (fun v17 v18 wx => ∃ kv : Nat, v17 = .pointer (some ⟨kv, 0, none⟩) ∧ v18 = .bool true ∧ Hid (Below Xd.heap.size Xd wx) ∧ Hid (∃ Av nv cv Lv, Bk wx kv (.cells #[.int .i64 m, .slice Av nv cv, .bool Ro] 24) ∧ Lv.length = nv ∧ cons Lv = RC.filter (fun z => !kq y.h z.1) ∧ Aro w.heap.size wx Av cv Lv))
          case first =>
            have tt : Below Xd.heap.size Xd Xd := Below.refl _ _
            refine wp_region_held_drew (S := fun V => (V.cell? ⟨kd, 0, none⟩ = some (.int .i64 m) ∧ V.cell? ⟨kd, 1, none⟩ = some (.slice Aq nq cq) ∧ V.cell? ⟨kd, 2, none⟩ = some (.bool Ro)) ∧ (V.cell? ⟨w.heap.size, 0, none⟩ = some (.int .i64 y.h.a) ∧ V.cell? ⟨w.heap.size, 1, none⟩ = some (.int .i64 y.h.o) ∧ V.cell? ⟨w.heap.size, 2, none⟩ = some (.int .i64 y.h.t) ∧ V.cell? ⟨w.heap.size, 3, none⟩ = some (.int .u32 y.h.i) ∧ V.cell? ⟨w.heap.size, 4, none⟩ = some (.int .u32 y.h.v) ∧ V.cell? ⟨w.heap.size, 5, none⟩ = some (.int .u32 y.h.q) ∧ V.cell? ⟨w.heap.size, 6, none⟩ = some (.int .i64 y.h.s) ∧ V.cell? ⟨w.heap.size, 7, none⟩ = some (.int .i64 y.h.n) ∧ V.cell? ⟨w.heap.size, 8, none⟩ = some (.slice y.A y.l.length y.c))) (by kernel_rfl) (KS.out _ tt.drew) (fun hHeld => ?_)
            replace tt : Below Xd.heap.size Xd Xd.drew := tt.drew
            generalize hX0 : Xd.drew = X0 at tt  hHeld ⊢
            clear hX0
            refine wpAnyH_take (i := 0) (v := ?_) rfl (by kernel_rfl) (by kernel_rfl) (by kernel_rfl) (fun _ _ _ h => h) (Or.inl ⟨by rfl, ?_⟩) (by assumption) ?_
            rotate_left
            · (intro w' hSw; (try dsimp only at hSw); go_simp; try with_reducible rfl)
            simp only [Act.put, List.getElem_toArray, List.getElem_cons_zero, List.setIfInBounds_toArray, List.set_cons_zero, List.set_cons_succ]
            refine wpAnyH_take (i := 1) (v := ?_) rfl (by kernel_rfl) (by kernel_rfl) (by kernel_rfl) (fun _ _ _ h => h) (Or.inl ⟨by rfl, ?_⟩) (by assumption) ?_
            rotate_left
            · (intro w' hSw; (try dsimp only at hSw); go_simp; try with_reducible rfl)
            simp only [Act.put, List.getElem_toArray, List.getElem_cons_zero, List.getElem_cons_succ, List.setIfInBounds_toArray, List.set_cons_zero, List.set_cons_succ]
            refine wpAnyH_take (i := 2) (v := ?_) rfl (by kernel_rfl) (by kernel_rfl) (by kernel_rfl) (fun _ _ _ h => h) (Or.inl ⟨by rfl, ?_⟩) (by assumption) ?_
            rotate_left
            · (intro w' hSw; (try dsimp only at hSw); go_simp; try with_reducible rfl)
            simp only [Act.put, List.getElem_toArray, List.getElem_cons_zero, List.getElem_cons_succ, List.setIfInBounds_toArray, List.set_cons_zero, List.set_cons_succ]
            refine wpAnyH_ready (rs := [3, 8]) (by kernel_rfl) (by simp) ?_
            refine AllReadyH.cons rfl (fun K hK => ?_) ?_
            · go_simp
              go_at_call 9
              refine (key_any y.h X0).mono ?_
              rintro e Y1 ⟨rfl, u1⟩
              have t_Y1 : Below Xd.heap.size Xd Y1 := tt.trans (u1.mono tt.size)
              refine hK.out _ _ (KS.out _ t_Y1) (fun _ => ?_)
              clear hK K
              refine wpAnyH_ready (rs := [4, 8]) (by kernel_rfl) (by simp) ?_
              refine AllReadyH.cons rfl (fun K hK => ?_) ?_
              · go_simp
                go_at_call 14
                refine (CD Y1 t_Y1).mono ?_
                rintro e Y2 ⟨Av, cv, nv, Lv, rfl, hnv, hcv, hap, u2⟩
                have t_Y2 : Below Xd.heap.size Xd Y2 := t_Y1.trans (u2.mono t_Y1.size)
                replace hap := hap.lower (Nat.le_trans HBd.out.size t_Y1.size)
                have hlt : decide (nv < nq) = true := by have h1 := HFL2.out; rw [← hcv, cons_length, hnv] at h1; simp; omega
                have hlt2 : nv < nq := by simpa using hlt
                refine hK.out _ _ (KS.out _ t_Y2) (fun _ => ?_)
                clear hK K
                refine wpAnyH_take (i := 5) (v := ?_) rfl (by kernel_rfl) (by kernel_rfl) (by kernel_rfl) (fun _ _ _ h => h) (Or.inl ⟨by rfl, ?_⟩) (by assumption) ?_
                rotate_left
                · (intro w' hSw; (try dsimp only at hSw); go_simp; try with_reducible rfl)
                simp only [Act.put, List.getElem_toArray, List.getElem_cons_zero, List.getElem_cons_succ, List.setIfInBounds_toArray, List.set_cons_zero, List.set_cons_succ]
                refine wpAnyH_take (i := 6) (v := ?_) rfl (by kernel_rfl) (by kernel_rfl) (by kernel_rfl) (fun _ _ _ h => h) (Or.inl ⟨by rfl, ?_⟩) (by assumption) ?_
                rotate_left
                · (intro w' hSw; (try dsimp only at hSw); go_simp; try with_reducible rfl)
                simp only [Act.put, List.getElem_toArray, List.getElem_cons_zero, List.getElem_cons_succ, List.setIfInBounds_toArray, List.set_cons_zero, List.set_cons_succ]
                refine wpAnyH_take (i := 7) (v := ?_) rfl (by kernel_rfl) (by kernel_rfl) (by kernel_rfl) (fun _ _ _ h => h) (Or.inl ⟨by rfl, ?_⟩) (by assumption) ?_
                rotate_left
                · (intro w' hSw; (try dsimp only at hSw); go_simp; try with_reducible rfl)
                simp only [Act.put, List.getElem_toArray, List.getElem_cons_zero, List.getElem_cons_succ, List.setIfInBounds_toArray, List.set_cons_zero, List.set_cons_succ]
                refine wpAnyH_ready (rs := [8]) (by kernel_rfl) (by simp) ?_
                refine AllReadyH.cons rfl (fun K hK => ?_) AllReadyH.nil
                go_simp
                obtain ⟨Y3, hY3⟩ : ∃ V, Y2.alloc (.cells #[Value.int .i64 0, .slice none 0 0, .bool false] 24) = V := ⟨_, rfl⟩
                have u3 : Below Y2.heap.size Y2 Y3 := by rw [← hY3]; exact below_alloc1 _ _
                have kz := Bk.mk hY3
                have t_Y3 : Below Xd.heap.size Xd Y3 := t_Y2.trans (u3.mono t_Y2.size)
                replace hap := hap.step u3
                obtain ⟨kv, hkt⟩ : ∃ q, Y2.heap.size = q := ⟨_, rfl⟩
                rw [hkt] at kz
                have ga : Hid (Xd.heap.size ≤ kv) := Lib.hid (by rw [← hkt]; exact t_Y2.size)
                try rw [hY3]
                try rw [hkt]
                clear hY3 hkt
                refine hK.out _ _ (KS.out _ t_Y3) (fun _ => ?_)
                clear hK K
                refine wpAnyH_ready (rs := [9]) (by kernel_rfl) (by simp) ?_
                refine AllReadyH.cons rfl (fun K hK => ?_) AllReadyH.nil
                have TW : Hid (Below Xd.heap.size Xd ((((Y3).setCell ⟨kv, 0, none⟩ (.int .i64 m)).setCell ⟨kv, 1, none⟩ (.slice Av nv cv)).setCell ⟨kv, 2, none⟩ (.bool Ro))) := Lib.hid (below_st3 t_Y3 ga.out (.int .i64 m) (.slice Av nv cv) (.bool Ro))
                have GW : Hid (Bk ((((Y3).setCell ⟨kv, 0, none⟩ (.int .i64 m)).setCell ⟨kv, 1, none⟩ (.slice Av nv cv)).setCell ⟨kv, 2, none⟩ (.bool Ro)) kv (.cells #[.int .i64 m, .slice Av nv cv, .bool Ro] 24)) := Lib.hid (kz3_set kz (.int .i64 m) (.slice Av nv cv) (.bool Ro))
                have HAV : Hid (Aro w.heap.size ((((Y3).setCell ⟨kv, 0, none⟩ (.int .i64 m)).setCell ⟨kv, 1, none⟩ (.slice Av nv cv)).setCell ⟨kv, 2, none⟩ (.bool Ro)) Av cv Lv) := Lib.hid (((hap.set kz (by decide) (by decide) (.int .i64 m)).set (i := 1) (Bk.set3 (i := 0) kz) (by decide) (by decide) (.slice Av nv cv)).set (i := 2) (Bk.set3 (i := 1) (Bk.set3 (i := 0) kz)) (by decide) (by decide) (.bool Ro))
                clear hap
                obtain ⟨z0, z1, z2, g0, g1, g2, hzl⟩ := kz3_at kz
                clear kz
                go_simp
                obtain ⟨ZX, hZX⟩ : ∃ V, ((((Y3).setCell ⟨kv, 0, none⟩ (.int .i64 m)).setCell ⟨kv, 1, none⟩ (.slice Av nv cv)).setCell ⟨kv, 2, none⟩ (.bool Ro)) = V := ⟨_, rfl⟩
                rw [hZX] at TW GW HAV ⊢
                clear z0 z1 z2 g0 g1 g2 hzl hZX
                refine hK.out _ _ (KS.out _ TW.out) (fun _ => ?_)
                clear hK K
                refine wpAnyH_ready (rs := [10]) (by kernel_rfl) (by simp) ?_
                refine AllReadyH.cons rfl (fun K hK => ?_) AllReadyH.nil
                go_simp
                refine hK.out _ _ (KS.out _ TW.out) (fun _ => ?_)
                clear hK K
                refine wpAnyH_done (by kernel_rfl) ?_ _
                go_wp2
                go_meet
                case rel => exact ⟨kv, rfl, rfl, TW, Lib.hid ⟨Av, nv, cv, Lv, GW.out, hnv, hcv, HAV.out⟩⟩
              refine AllReadyH.cons rfl (fun K hK => ?_) AllReadyH.nil
              go_simp
              obtain ⟨Y2, hY2⟩ : ∃ V, Y1.alloc (.cells #[Value.int .i64 0, .slice none 0 0, .bool false] 24) = V := ⟨_, rfl⟩
              have u2 : Below Y1.heap.size Y1 Y2 := by rw [← hY2]; exact below_alloc1 _ _
              have kz := Bk.mk hY2
              have t_Y2 : Below Xd.heap.size Xd Y2 := t_Y1.trans (u2.mono t_Y1.size)
              obtain ⟨kv, hkt⟩ : ∃ q, Y1.heap.size = q := ⟨_, rfl⟩
              rw [hkt] at kz
              have ga : Hid (Xd.heap.size ≤ kv) := Lib.hid (by rw [← hkt]; exact t_Y1.size)
              try rw [hY2]
              try rw [hkt]
              clear hY2 hkt
              refine hK.out _ _ (KS.out _ t_Y2) (fun _ => ?_)
              clear hK K
              refine wpAnyH_ready (rs := [4]) (by kernel_rfl) (by simp) ?_
              refine AllReadyH.cons rfl (fun K hK => ?_) AllReadyH.nil
              go_simp
              go_at_call 14
              refine (CD Y2 t_Y2).mono ?_
              rintro e Y3 ⟨Av, cv, nv, Lv, rfl, hnv, hcv, hap, u3⟩
              have t_Y3 : Below Xd.heap.size Xd Y3 := t_Y2.trans (u3.mono t_Y2.size)
              replace kz := kz.step u3
              replace hap := hap.lower (Nat.le_trans HBd.out.size t_Y2.size)
              have hlt : decide (nv < nq) = true := by have h1 := HFL2.out; rw [← hcv, cons_length, hnv] at h1; simp; omega
              have hlt2 : nv < nq := by simpa using hlt
              refine hK.out _ _ (KS.out _ t_Y3) (fun _ => ?_)
              clear hK K
              refine wpAnyH_take (i := 5) (v := ?_) rfl (by kernel_rfl) (by kernel_rfl) (by kernel_rfl) (fun _ _ _ h => h) (Or.inl ⟨by rfl, ?_⟩) (by assumption) ?_
              rotate_left
              · (intro w' hSw; (try dsimp only at hSw); go_simp; try with_reducible rfl)
              simp only [Act.put, List.getElem_toArray, List.getElem_cons_zero, List.getElem_cons_succ, List.setIfInBounds_toArray, List.set_cons_zero, List.set_cons_succ]
              refine wpAnyH_take (i := 6) (v := ?_) rfl (by kernel_rfl) (by kernel_rfl) (by kernel_rfl) (fun _ _ _ h => h) (Or.inl ⟨by rfl, ?_⟩) (by assumption) ?_
              rotate_left
              · (intro w' hSw; (try dsimp only at hSw); go_simp; try with_reducible rfl)
              simp only [Act.put, List.getElem_toArray, List.getElem_cons_zero, List.getElem_cons_succ, List.setIfInBounds_toArray, List.set_cons_zero, List.set_cons_succ]
              refine wpAnyH_take (i := 7) (v := ?_) rfl (by kernel_rfl) (by kernel_rfl) (by kernel_rfl) (fun _ _ _ h => h) (Or.inl ⟨by rfl, ?_⟩) (by assumption) ?_
              rotate_left
              · (intro w' hSw; (try dsimp only at hSw); go_simp; try with_reducible rfl)
              simp only [Act.put, List.getElem_toArray, List.getElem_cons_zero, List.getElem_cons_succ, List.setIfInBounds_toArray, List.set_cons_zero, List.set_cons_succ]
              refine wpAnyH_ready (rs := [9]) (by kernel_rfl) (by simp) ?_
              refine AllReadyH.cons rfl (fun K hK => ?_) AllReadyH.nil
              have TW : Hid (Below Xd.heap.size Xd ((((Y3).setCell ⟨kv, 0, none⟩ (.int .i64 m)).setCell ⟨kv, 1, none⟩ (.slice Av nv cv)).setCell ⟨kv, 2, none⟩ (.bool Ro))) := Lib.hid (below_st3 t_Y3 ga.out (.int .i64 m) (.slice Av nv cv) (.bool Ro))
              have GW : Hid (Bk ((((Y3).setCell ⟨kv, 0, none⟩ (.int .i64 m)).setCell ⟨kv, 1, none⟩ (.slice Av nv cv)).setCell ⟨kv, 2, none⟩ (.bool Ro)) kv (.cells #[.int .i64 m, .slice Av nv cv, .bool Ro] 24)) := Lib.hid (kz3_set kz (.int .i64 m) (.slice Av nv cv) (.bool Ro))
              have HAV : Hid (Aro w.heap.size ((((Y3).setCell ⟨kv, 0, none⟩ (.int .i64 m)).setCell ⟨kv, 1, none⟩ (.slice Av nv cv)).setCell ⟨kv, 2, none⟩ (.bool Ro)) Av cv Lv) := Lib.hid (((hap.set kz (by decide) (by decide) (.int .i64 m)).set (i := 1) (Bk.set3 (i := 0) kz) (by decide) (by decide) (.slice Av nv cv)).set (i := 2) (Bk.set3 (i := 1) (Bk.set3 (i := 0) kz)) (by decide) (by decide) (.bool Ro))
              clear hap
              obtain ⟨z0, z1, z2, g0, g1, g2, hzl⟩ := kz3_at kz
              clear kz
              go_simp
              obtain ⟨ZX, hZX⟩ : ∃ V, ((((Y3).setCell ⟨kv, 0, none⟩ (.int .i64 m)).setCell ⟨kv, 1, none⟩ (.slice Av nv cv)).setCell ⟨kv, 2, none⟩ (.bool Ro)) = V := ⟨_, rfl⟩
              rw [hZX] at TW GW HAV ⊢
              clear z0 z1 z2 g0 g1 g2 hzl hZX
              refine hK.out _ _ (KS.out _ TW.out) (fun _ => ?_)
              clear hK K
              refine wpAnyH_ready (rs := [10]) (by kernel_rfl) (by simp) ?_
              refine AllReadyH.cons rfl (fun K hK => ?_) AllReadyH.nil
              go_simp
              refine hK.out _ _ (KS.out _ TW.out) (fun _ => ?_)
              clear hK K
              refine wpAnyH_done (by kernel_rfl) ?_ _
              go_wp2
              go_meet
              case rel => exact ⟨kv, rfl, rfl, TW, Lib.hid ⟨Av, nv, cv, Lv, GW.out, hnv, hcv, HAV.out⟩⟩
            refine AllReadyH.cons rfl (fun K hK => ?_) AllReadyH.nil
            go_simp
            obtain ⟨Y1, hY1⟩ : ∃ V, X0.alloc (.cells #[Value.int .i64 0, .slice none 0 0, .bool false] 24) = V := ⟨_, rfl⟩
            have u1 : Below X0.heap.size X0 Y1 := by rw [← hY1]; exact below_alloc1 _ _
            have kz := Bk.mk hY1
            have t_Y1 : Below Xd.heap.size Xd Y1 := tt.trans (u1.mono tt.size)
            obtain ⟨kv, hkt⟩ : ∃ q, X0.heap.size = q := ⟨_, rfl⟩
            rw [hkt] at kz
            have ga : Hid (Xd.heap.size ≤ kv) := Lib.hid (by rw [← hkt]; exact tt.size)
            try rw [hY1]
            try rw [hkt]
            clear hY1 hkt
            refine hK.out _ _ (KS.out _ t_Y1) (fun _ => ?_)
            clear hK K
            refine wpAnyH_ready (rs := [3]) (by kernel_rfl) (by simp) ?_
            refine AllReadyH.cons rfl (fun K hK => ?_) AllReadyH.nil
            go_simp
            go_at_call 9
            refine (key_any y.h Y1).mono ?_
            rintro e Y2 ⟨rfl, u2⟩
            have t_Y2 : Below Xd.heap.size Xd Y2 := t_Y1.trans (u2.mono t_Y1.size)
            replace kz := kz.step u2
            refine hK.out _ _ (KS.out _ t_Y2) (fun _ => ?_)
            clear hK K
            refine wpAnyH_ready (rs := [4]) (by kernel_rfl) (by simp) ?_
            refine AllReadyH.cons rfl (fun K hK => ?_) AllReadyH.nil
            go_simp
            go_at_call 14
            refine (CD Y2 t_Y2).mono ?_
            rintro e Y3 ⟨Av, cv, nv, Lv, rfl, hnv, hcv, hap, u3⟩
            have t_Y3 : Below Xd.heap.size Xd Y3 := t_Y2.trans (u3.mono t_Y2.size)
            replace kz := kz.step u3
            replace hap := hap.lower (Nat.le_trans HBd.out.size t_Y2.size)
            have hlt : decide (nv < nq) = true := by have h1 := HFL2.out; rw [← hcv, cons_length, hnv] at h1; simp; omega
            have hlt2 : nv < nq := by simpa using hlt
            refine hK.out _ _ (KS.out _ t_Y3) (fun _ => ?_)
            clear hK K
            refine wpAnyH_take (i := 5) (v := ?_) rfl (by kernel_rfl) (by kernel_rfl) (by kernel_rfl) (fun _ _ _ h => h) (Or.inl ⟨by rfl, ?_⟩) (by assumption) ?_
            rotate_left
            · (intro w' hSw; (try dsimp only at hSw); go_simp; try with_reducible rfl)
            simp only [Act.put, List.getElem_toArray, List.getElem_cons_zero, List.getElem_cons_succ, List.setIfInBounds_toArray, List.set_cons_zero, List.set_cons_succ]
            refine wpAnyH_take (i := 6) (v := ?_) rfl (by kernel_rfl) (by kernel_rfl) (by kernel_rfl) (fun _ _ _ h => h) (Or.inl ⟨by rfl, ?_⟩) (by assumption) ?_
            rotate_left
            · (intro w' hSw; (try dsimp only at hSw); go_simp; try with_reducible rfl)
            simp only [Act.put, List.getElem_toArray, List.getElem_cons_zero, List.getElem_cons_succ, List.setIfInBounds_toArray, List.set_cons_zero, List.set_cons_succ]
            refine wpAnyH_take (i := 7) (v := ?_) rfl (by kernel_rfl) (by kernel_rfl) (by kernel_rfl) (fun _ _ _ h => h) (Or.inl ⟨by rfl, ?_⟩) (by assumption) ?_
            rotate_left
            · (intro w' hSw; (try dsimp only at hSw); go_simp; try with_reducible rfl)
            simp only [Act.put, List.getElem_toArray, List.getElem_cons_zero, List.getElem_cons_succ, List.setIfInBounds_toArray, List.set_cons_zero, List.set_cons_succ]
            refine wpAnyH_ready (rs := [9]) (by kernel_rfl) (by simp) ?_
            refine AllReadyH.cons rfl (fun K hK => ?_) AllReadyH.nil
            have TW : Hid (Below Xd.heap.size Xd ((((Y3).setCell ⟨kv, 0, none⟩ (.int .i64 m)).setCell ⟨kv, 1, none⟩ (.slice Av nv cv)).setCell ⟨kv, 2, none⟩ (.bool Ro))) := Lib.hid (below_st3 t_Y3 ga.out (.int .i64 m) (.slice Av nv cv) (.bool Ro))
            have GW : Hid (Bk ((((Y3).setCell ⟨kv, 0, none⟩ (.int .i64 m)).setCell ⟨kv, 1, none⟩ (.slice Av nv cv)).setCell ⟨kv, 2, none⟩ (.bool Ro)) kv (.cells #[.int .i64 m, .slice Av nv cv, .bool Ro] 24)) := Lib.hid (kz3_set kz (.int .i64 m) (.slice Av nv cv) (.bool Ro))
            have HAV : Hid (Aro w.heap.size ((((Y3).setCell ⟨kv, 0, none⟩ (.int .i64 m)).setCell ⟨kv, 1, none⟩ (.slice Av nv cv)).setCell ⟨kv, 2, none⟩ (.bool Ro)) Av cv Lv) := Lib.hid (((hap.set kz (by decide) (by decide) (.int .i64 m)).set (i := 1) (Bk.set3 (i := 0) kz) (by decide) (by decide) (.slice Av nv cv)).set (i := 2) (Bk.set3 (i := 1) (Bk.set3 (i := 0) kz)) (by decide) (by decide) (.bool Ro))
            clear hap
            obtain ⟨z0, z1, z2, g0, g1, g2, hzl⟩ := kz3_at kz
            clear kz
            go_simp
            obtain ⟨ZX, hZX⟩ : ∃ V, ((((Y3).setCell ⟨kv, 0, none⟩ (.int .i64 m)).setCell ⟨kv, 1, none⟩ (.slice Av nv cv)).setCell ⟨kv, 2, none⟩ (.bool Ro)) = V := ⟨_, rfl⟩
            rw [hZX] at TW GW HAV ⊢
            clear z0 z1 z2 g0 g1 g2 hzl hZX
            refine hK.out _ _ (KS.out _ TW.out) (fun _ => ?_)
            clear hK K
            refine wpAnyH_ready (rs := [10]) (by kernel_rfl) (by simp) ?_
            refine AllReadyH.cons rfl (fun K hK => ?_) AllReadyH.nil
            go_simp
            refine hK.out _ _ (KS.out _ TW.out) (fun _ => ?_)
            clear hK K
            refine wpAnyH_done (by kernel_rfl) ?_ _
            go_wp2
            go_meet
            case rel => exact ⟨kv, rfl, rfl, TW, Lib.hid ⟨Av, nv, cv, Lv, GW.out, hnv, hcv, HAV.out⟩⟩
          case rest =>
            obtain ⟨kv, rfl, rfl, T4, HV4⟩ := hcut
            clear KS CD
            obtain ⟨Av, nv, cv, Lv, gv, hnv, hcv, hav⟩ := HV4.out
            have HNV := Lib.hid hnv
            have HCV := Lib.hid hcv
            have HGV := Lib.hid gv
            have HAV := Lib.hid hav
            have hnv1 : nv + 1 = nq := by have h1 := HFL2.out; rw [← hcv, cons_length, hnv] at h1; exact h1
            have HG4 := Lib.hid (HGAd.out.step T4.out)
            have hsm : ∀ z ∈ Lv, z.l.length ≤ 100000 := fun z hz => by
              have h3 : con z ∈ RC.filter (fun z => !kq y.h z.1) := by rw [← HCV.out]; exact List.mem_map.2 ⟨_, hz, rfl⟩
              have h2 := (HVP.out.e (con z) (List.mem_filter.1 h3).1).sok.n
              simp only [con] at h2
              omega
            have CD := fun V (hV : Below wc.heap.size wc V) => sfind_any y.h m Av nv cv Ro Lv V HNV.out (HAV.out.step hV).arr (by omega) hsm
            obtain ⟨zh, zl, hfz⟩ : ∃ p q, fnd (RC.filter (fun z => !kq y.h z.1)) y.h = (p, q) := ⟨_, _, rfl⟩
            obtain ⟨zn, hzn⟩ : ∃ zn, zl.length = zn := ⟨_, rfl⟩
            simp only [FP, HCV.out, filt_none, hfz, hzn] at CD
            have KS : Hid (∀ V, Below wc.heap.size wc V → (V.cell? ⟨kv, 0, none⟩ = some (.int .i64 m) ∧ V.cell? ⟨kv, 1, none⟩ = some (.slice Av nv cv) ∧ V.cell? ⟨kv, 2, none⟩ = some (.bool Ro)) ∧ (V.cell? ⟨w.heap.size, 0, none⟩ = some (.int .i64 y.h.a) ∧ V.cell? ⟨w.heap.size, 1, none⟩ = some (.int .i64 y.h.o) ∧ V.cell? ⟨w.heap.size, 2, none⟩ = some (.int .i64 y.h.t) ∧ V.cell? ⟨w.heap.size, 3, none⟩ = some (.int .u32 y.h.i) ∧ V.cell? ⟨w.heap.size, 4, none⟩ = some (.int .u32 y.h.v) ∧ V.cell? ⟨w.heap.size, 5, none⟩ = some (.int .u32 y.h.q) ∧ V.cell? ⟨w.heap.size, 6, none⟩ = some (.int .i64 y.h.s) ∧ V.cell? ⟨w.heap.size, 7, none⟩ = some (.int .i64 y.h.n) ∧ V.cell? ⟨w.heap.size, 8, none⟩ = some (.slice y.A y.l.length y.c))) := Lib.hid (fun V hV => by
              obtain ⟨q0, q1, q2, -⟩ := kz3_at (HGV.out.step hV)
              obtain ⟨p0, p1, p2, p3, p4, p5, p6, p7, p8, -⟩ := kz9_at (HG4.out.step hV)
              exact ⟨⟨q0, q1, q2⟩, p0, p1, p2, p3, p4, p5, p6, p7, p8⟩)
            clear hsm hfz hzn hnv hcv gv hav HV4
            go_upto_region 15 with fail
            go_cut [20] (fun v20 wx => v20 = .bool false ∧ Hid (Below wc.heap.size wc wx))
            case first =>
              have tt : Below wc.heap.size wc wc := Below.refl _ _
              refine wp_region_held_drew (S := fun V => (V.cell? ⟨kv, 0, none⟩ = some (.int .i64 m) ∧ V.cell? ⟨kv, 1, none⟩ = some (.slice Av nv cv) ∧ V.cell? ⟨kv, 2, none⟩ = some (.bool Ro)) ∧ (V.cell? ⟨w.heap.size, 0, none⟩ = some (.int .i64 y.h.a) ∧ V.cell? ⟨w.heap.size, 1, none⟩ = some (.int .i64 y.h.o) ∧ V.cell? ⟨w.heap.size, 2, none⟩ = some (.int .i64 y.h.t) ∧ V.cell? ⟨w.heap.size, 3, none⟩ = some (.int .u32 y.h.i) ∧ V.cell? ⟨w.heap.size, 4, none⟩ = some (.int .u32 y.h.v) ∧ V.cell? ⟨w.heap.size, 5, none⟩ = some (.int .u32 y.h.q) ∧ V.cell? ⟨w.heap.size, 6, none⟩ = some (.int .i64 y.h.s) ∧ V.cell? ⟨w.heap.size, 7, none⟩ = some (.int .i64 y.h.n) ∧ V.cell? ⟨w.heap.size, 8, none⟩ = some (.slice y.A y.l.length y.c))) (by kernel_rfl) (KS.out _ tt.drew) (fun hHeld => ?_)
              replace tt : Below wc.heap.size wc wc.drew := tt.drew
              generalize hX0 : wc.drew = X0 at tt  hHeld ⊢
              clear hX0
              refine wpAnyH_take (i := 0) (v := ?_) rfl (by kernel_rfl) (by kernel_rfl) (by kernel_rfl) (fun _ _ _ h => h) (Or.inl ⟨by rfl, ?_⟩) (by assumption) ?_
              rotate_left
              · (intro w' hSw; (try dsimp only at hSw); go_simp; try with_reducible rfl)
              simp only [Act.put, List.getElem_toArray, List.getElem_cons_zero, List.setIfInBounds_toArray, List.set_cons_zero, List.set_cons_succ]
              refine wpAnyH_take (i := 1) (v := ?_) rfl (by kernel_rfl) (by kernel_rfl) (by kernel_rfl) (fun _ _ _ h => h) (Or.inl ⟨by rfl, ?_⟩) (by assumption) ?_
              rotate_left
              · (intro w' hSw; (try dsimp only at hSw); go_simp; try with_reducible rfl)
              simp only [Act.put, List.getElem_toArray, List.getElem_cons_zero, List.getElem_cons_succ, List.setIfInBounds_toArray, List.set_cons_zero, List.set_cons_succ]
              refine wpAnyH_take (i := 2) (v := ?_) rfl (by kernel_rfl) (by kernel_rfl) (by kernel_rfl) (fun _ _ _ h => h) (Or.inl ⟨by rfl, ?_⟩) (by assumption) ?_
              rotate_left
              · (intro w' hSw; (try dsimp only at hSw); go_simp; try with_reducible rfl)
              simp only [Act.put, List.getElem_toArray, List.getElem_cons_zero, List.getElem_cons_succ, List.setIfInBounds_toArray, List.set_cons_zero, List.set_cons_succ]
              refine wpAnyH_ready (rs := [3, 8]) (by kernel_rfl) (by simp) ?_
              refine AllReadyH.cons rfl (fun K hK => ?_) ?_
              · go_simp
                go_at_call 9
                refine (key_any y.h X0).mono ?_
                rintro e Y1 ⟨rfl, u1⟩
                have t_Y1 : Below wc.heap.size wc Y1 := tt.trans (u1.mono tt.size)
                refine hK.out _ _ (KS.out _ t_Y1) (fun _ => ?_)
                clear hK K
                refine wpAnyH_ready (rs := [4, 8]) (by kernel_rfl) (by simp) ?_
                refine AllReadyH.cons rfl (fun K hK => ?_) ?_
                · go_simp
                  go_at_call 8
                  refine (CD Y1 t_Y1).mono ?_
                  rintro e Y2 ⟨A8, c8, rfl, -, u2⟩
                  have t_Y2 : Below wc.heap.size wc Y2 := t_Y1.trans (u2.mono t_Y1.size)
                  refine hK.out _ _ (KS.out _ t_Y2) (fun _ => ?_)
                  clear hK K
                  refine wpAnyH_take (i := 5) (v := ?_) rfl (by kernel_rfl) (by kernel_rfl) (by kernel_rfl) (fun _ _ _ h => h) (Or.inl ⟨by rfl, ?_⟩) (by assumption) ?_
                  rotate_left
                  · (intro w' hSw; (try dsimp only at hSw); go_simp; try with_reducible rfl)
                  simp only [Act.put, List.getElem_toArray, List.getElem_cons_zero, List.getElem_cons_succ, List.setIfInBounds_toArray, List.set_cons_zero, List.set_cons_succ]
                  refine wpAnyH_take (i := 6) (v := ?_) rfl (by kernel_rfl) (by kernel_rfl) (by kernel_rfl) (fun _ _ _ h => h) (Or.inl ⟨by rfl, ?_⟩) (by assumption) ?_
                  rotate_left
                  · (intro w' hSw; (try dsimp only at hSw); go_simp; try with_reducible rfl)
                  simp only [Act.put, List.getElem_toArray, List.getElem_cons_zero, List.getElem_cons_succ, List.setIfInBounds_toArray, List.set_cons_zero, List.set_cons_succ]
                  refine wpAnyH_take (i := 7) (v := ?_) rfl (by kernel_rfl) (by kernel_rfl) (by kernel_rfl) (fun _ _ _ h => h) (Or.inl ⟨by rfl, ?_⟩) (by assumption) ?_
                  rotate_left
                  · (intro w' hSw; (try dsimp only at hSw); go_simp; try with_reducible rfl)
                  simp only [Act.put, List.getElem_toArray, List.getElem_cons_zero, List.getElem_cons_succ, List.setIfInBounds_toArray, List.set_cons_zero, List.set_cons_succ]
                  refine wpAnyH_ready (rs := [8]) (by kernel_rfl) (by simp) ?_
                  refine AllReadyH.cons rfl (fun K hK => ?_) AllReadyH.nil
                  go_simp
                  obtain ⟨Y3, hY3⟩ : ∃ V, Y2.alloc (.cells #[Value.int .i64 0, .int .i64 0, .int .i64 0, .int .u32 0, .int .u32 0, .int .u32 0, .int .i64 0, .int .i64 0, .slice none 0 0] 34) = V := ⟨_, rfl⟩
                  have u3 : Below Y2.heap.size Y2 Y3 := by rw [← hY3]; exact below_alloc1 _ _
                  have kz := Bk.mk hY3
                  have t_Y3 : Below wc.heap.size wc Y3 := t_Y2.trans (u3.mono t_Y2.size)
                  obtain ⟨kf, hkt⟩ : ∃ q, Y2.heap.size = q := ⟨_, rfl⟩
                  rw [hkt] at kz
                  have ga : Hid (wc.heap.size ≤ kf) := Lib.hid (by rw [← hkt]; exact t_Y2.size)
                  try rw [hY3]
                  try rw [hkt]
                  clear hY3 hkt
                  refine hK.out _ _ (KS.out _ t_Y3) (fun _ => ?_)
                  clear hK K
                  refine wpAnyH_ready (rs := [9]) (by kernel_rfl) (by simp) ?_
                  refine AllReadyH.cons rfl (fun K hK => ?_) AllReadyH.nil
                  have TW : Hid (Below wc.heap.size wc ((((((((((Y3).setCell ⟨kf, 0, none⟩ (.int .i64 zh.a)).setCell ⟨kf, 1, none⟩ (.int .i64 zh.o)).setCell ⟨kf, 2, none⟩ (.int .i64 zh.t)).setCell ⟨kf, 3, none⟩ (.int .u32 zh.i)).setCell ⟨kf, 4, none⟩ (.int .u32 zh.v)).setCell ⟨kf, 5, none⟩ (.int .u32 zh.q)).setCell ⟨kf, 6, none⟩ (.int .i64 zh.s)).setCell ⟨kf, 7, none⟩ (.int .i64 zh.n)).setCell ⟨kf, 8, none⟩ (.slice A8 zn c8))) := Lib.hid (below_st9 t_Y3 ga.out (.int .i64 zh.a) (.int .i64 zh.o) (.int .i64 zh.t) (.int .u32 zh.i) (.int .u32 zh.v) (.int .u32 zh.q) (.int .i64 zh.s) (.int .i64 zh.n) (.slice A8 zn c8))
                  have GW : Hid (Bk ((((((((((Y3).setCell ⟨kf, 0, none⟩ (.int .i64 zh.a)).setCell ⟨kf, 1, none⟩ (.int .i64 zh.o)).setCell ⟨kf, 2, none⟩ (.int .i64 zh.t)).setCell ⟨kf, 3, none⟩ (.int .u32 zh.i)).setCell ⟨kf, 4, none⟩ (.int .u32 zh.v)).setCell ⟨kf, 5, none⟩ (.int .u32 zh.q)).setCell ⟨kf, 6, none⟩ (.int .i64 zh.s)).setCell ⟨kf, 7, none⟩ (.int .i64 zh.n)).setCell ⟨kf, 8, none⟩ (.slice A8 zn c8)) kf (.cells #[.int .i64 zh.a, .int .i64 zh.o, .int .i64 zh.t, .int .u32 zh.i, .int .u32 zh.v, .int .u32 zh.q, .int .i64 zh.s, .int .i64 zh.n, .slice A8 zn c8] 34)) := Lib.hid (kz9_set kz (.int .i64 zh.a) (.int .i64 zh.o) (.int .i64 zh.t) (.int .u32 zh.i) (.int .u32 zh.v) (.int .u32 zh.q) (.int .i64 zh.s) (.int .i64 zh.n) (.slice A8 zn c8))
                  obtain ⟨z0, z1, z2, z3, z4, z5, z6, z7, z8, g0, g1, g2, g3, g4, g5, g6, g7, g8, hzl⟩ := kz9_at kz
                  clear kz
                  go_simp
                  obtain ⟨ZX, hZX⟩ : ∃ V, ((((((((((Y3).setCell ⟨kf, 0, none⟩ (.int .i64 zh.a)).setCell ⟨kf, 1, none⟩ (.int .i64 zh.o)).setCell ⟨kf, 2, none⟩ (.int .i64 zh.t)).setCell ⟨kf, 3, none⟩ (.int .u32 zh.i)).setCell ⟨kf, 4, none⟩ (.int .u32 zh.v)).setCell ⟨kf, 5, none⟩ (.int .u32 zh.q)).setCell ⟨kf, 6, none⟩ (.int .i64 zh.s)).setCell ⟨kf, 7, none⟩ (.int .i64 zh.n)).setCell ⟨kf, 8, none⟩ (.slice A8 zn c8)) = V := ⟨_, rfl⟩
                  rw [hZX] at TW GW  ⊢
                  clear z0 z1 z2 z3 z4 z5 z6 z7 z8 g0 g1 g2 g3 g4 g5 g6 g7 g8 hzl hZX
                  refine hK.out _ _ (KS.out _ TW.out) (fun _ => ?_)
                  clear hK K
                  refine wpAnyH_ready (rs := [10]) (by kernel_rfl) (by simp) ?_
                  refine AllReadyH.cons rfl (fun K hK => ?_) AllReadyH.nil
                  go_simp
                  refine hK.out _ _ (KS.out _ TW.out) (fun _ => ?_)
                  clear hK K
                  refine wpAnyH_done (by kernel_rfl) ?_ _
                  go_wp2
                  go_meet
                  case rel => exact ⟨rfl, TW⟩
                refine AllReadyH.cons rfl (fun K hK => ?_) AllReadyH.nil
                go_simp
                obtain ⟨Y2, hY2⟩ : ∃ V, Y1.alloc (.cells #[Value.int .i64 0, .int .i64 0, .int .i64 0, .int .u32 0, .int .u32 0, .int .u32 0, .int .i64 0, .int .i64 0, .slice none 0 0] 34) = V := ⟨_, rfl⟩
                have u2 : Below Y1.heap.size Y1 Y2 := by rw [← hY2]; exact below_alloc1 _ _
                have kz := Bk.mk hY2
                have t_Y2 : Below wc.heap.size wc Y2 := t_Y1.trans (u2.mono t_Y1.size)
                obtain ⟨kf, hkt⟩ : ∃ q, Y1.heap.size = q := ⟨_, rfl⟩
                rw [hkt] at kz
                have ga : Hid (wc.heap.size ≤ kf) := Lib.hid (by rw [← hkt]; exact t_Y1.size)
                try rw [hY2]
                try rw [hkt]
                clear hY2 hkt
                refine hK.out _ _ (KS.out _ t_Y2) (fun _ => ?_)
                clear hK K
                refine wpAnyH_ready (rs := [4]) (by kernel_rfl) (by simp) ?_
                refine AllReadyH.cons rfl (fun K hK => ?_) AllReadyH.nil
                go_simp
                go_at_call 8
                refine (CD Y2 t_Y2).mono ?_
                rintro e Y3 ⟨A8, c8, rfl, -, u3⟩
                have t_Y3 : Below wc.heap.size wc Y3 := t_Y2.trans (u3.mono t_Y2.size)
                replace kz := kz.step u3
                refine hK.out _ _ (KS.out _ t_Y3) (fun _ => ?_)
                clear hK K
                refine wpAnyH_take (i := 5) (v := ?_) rfl (by kernel_rfl) (by kernel_rfl) (by kernel_rfl) (fun _ _ _ h => h) (Or.inl ⟨by rfl, ?_⟩) (by assumption) ?_
                rotate_left
                · (intro w' hSw; (try dsimp only at hSw); go_simp; try with_reducible rfl)
                simp only [Act.put, List.getElem_toArray, List.getElem_cons_zero, List.getElem_cons_succ, List.setIfInBounds_toArray, List.set_cons_zero, List.set_cons_succ]
                refine wpAnyH_take (i := 6) (v := ?_) rfl (by kernel_rfl) (by kernel_rfl) (by kernel_rfl) (fun _ _ _ h => h) (Or.inl ⟨by rfl, ?_⟩) (by assumption) ?_
                rotate_left
                · (intro w' hSw; (try dsimp only at hSw); go_simp; try with_reducible rfl)
                simp only [Act.put, List.getElem_toArray, List.getElem_cons_zero, List.getElem_cons_succ, List.setIfInBounds_toArray, List.set_cons_zero, List.set_cons_succ]
                refine wpAnyH_take (i := 7) (v := ?_) rfl (by kernel_rfl) (by kernel_rfl) (by kernel_rfl) (fun _ _ _ h => h) (Or.inl ⟨by rfl, ?_⟩) (by assumption) ?_
                rotate_left
                · (intro w' hSw; (try dsimp only at hSw); go_simp; try with_reducible rfl)
                simp only [Act.put, List.getElem_toArray, List.getElem_cons_zero, List.getElem_cons_succ, List.setIfInBounds_toArray, List.set_cons_zero, List.set_cons_succ]
                refine wpAnyH_ready (rs := [9]) (by kernel_rfl) (by simp) ?_
                refine AllReadyH.cons rfl (fun K hK => ?_) AllReadyH.nil
                have TW : Hid (Below wc.heap.size wc ((((((((((Y3).setCell ⟨kf, 0, none⟩ (.int .i64 zh.a)).setCell ⟨kf, 1, none⟩ (.int .i64 zh.o)).setCell ⟨kf, 2, none⟩ (.int .i64 zh.t)).setCell ⟨kf, 3, none⟩ (.int .u32 zh.i)).setCell ⟨kf, 4, none⟩ (.int .u32 zh.v)).setCell ⟨kf, 5, none⟩ (.int .u32 zh.q)).setCell ⟨kf, 6, none⟩ (.int .i64 zh.s)).setCell ⟨kf, 7, none⟩ (.int .i64 zh.n)).setCell ⟨kf, 8, none⟩ (.slice A8 zn c8))) := Lib.hid (below_st9 t_Y3 ga.out (.int .i64 zh.a) (.int .i64 zh.o) (.int .i64 zh.t) (.int .u32 zh.i) (.int .u32 zh.v) (.int .u32 zh.q) (.int .i64 zh.s) (.int .i64 zh.n) (.slice A8 zn c8))
                have GW : Hid (Bk ((((((((((Y3).setCell ⟨kf, 0, none⟩ (.int .i64 zh.a)).setCell ⟨kf, 1, none⟩ (.int .i64 zh.o)).setCell ⟨kf, 2, none⟩ (.int .i64 zh.t)).setCell ⟨kf, 3, none⟩ (.int .u32 zh.i)).setCell ⟨kf, 4, none⟩ (.int .u32 zh.v)).setCell ⟨kf, 5, none⟩ (.int .u32 zh.q)).setCell ⟨kf, 6, none⟩ (.int .i64 zh.s)).setCell ⟨kf, 7, none⟩ (.int .i64 zh.n)).setCell ⟨kf, 8, none⟩ (.slice A8 zn c8)) kf (.cells #[.int .i64 zh.a, .int .i64 zh.o, .int .i64 zh.t, .int .u32 zh.i, .int .u32 zh.v, .int .u32 zh.q, .int .i64 zh.s, .int .i64 zh.n, .slice A8 zn c8] 34)) := Lib.hid (kz9_set kz (.int .i64 zh.a) (.int .i64 zh.o) (.int .i64 zh.t) (.int .u32 zh.i) (.int .u32 zh.v) (.int .u32 zh.q) (.int .i64 zh.s) (.int .i64 zh.n) (.slice A8 zn c8))
                obtain ⟨z0, z1, z2, z3, z4, z5, z6, z7, z8, g0, g1, g2, g3, g4, g5, g6, g7, g8, hzl⟩ := kz9_at kz
                clear kz
                go_simp
                obtain ⟨ZX, hZX⟩ : ∃ V, ((((((((((Y3).setCell ⟨kf, 0, none⟩ (.int .i64 zh.a)).setCell ⟨kf, 1, none⟩ (.int .i64 zh.o)).setCell ⟨kf, 2, none⟩ (.int .i64 zh.t)).setCell ⟨kf, 3, none⟩ (.int .u32 zh.i)).setCell ⟨kf, 4, none⟩ (.int .u32 zh.v)).setCell ⟨kf, 5, none⟩ (.int .u32 zh.q)).setCell ⟨kf, 6, none⟩ (.int .i64 zh.s)).setCell ⟨kf, 7, none⟩ (.int .i64 zh.n)).setCell ⟨kf, 8, none⟩ (.slice A8 zn c8)) = V := ⟨_, rfl⟩
                rw [hZX] at TW GW  ⊢
                clear z0 z1 z2 z3 z4 z5 z6 z7 z8 g0 g1 g2 g3 g4 g5 g6 g7 g8 hzl hZX
                refine hK.out _ _ (KS.out _ TW.out) (fun _ => ?_)
                clear hK K
                refine wpAnyH_ready (rs := [10]) (by kernel_rfl) (by simp) ?_
                refine AllReadyH.cons rfl (fun K hK => ?_) AllReadyH.nil
                go_simp
                refine hK.out _ _ (KS.out _ TW.out) (fun _ => ?_)
                clear hK K
                refine wpAnyH_done (by kernel_rfl) ?_ _
                go_wp2
                go_meet
                case rel => exact ⟨rfl, TW⟩
              refine AllReadyH.cons rfl (fun K hK => ?_) AllReadyH.nil
              go_simp
              obtain ⟨Y1, hY1⟩ : ∃ V, X0.alloc (.cells #[Value.int .i64 0, .int .i64 0, .int .i64 0, .int .u32 0, .int .u32 0, .int .u32 0, .int .i64 0, .int .i64 0, .slice none 0 0] 34) = V := ⟨_, rfl⟩
              have u1 : Below X0.heap.size X0 Y1 := by rw [← hY1]; exact below_alloc1 _ _
              have kz := Bk.mk hY1
              have t_Y1 : Below wc.heap.size wc Y1 := tt.trans (u1.mono tt.size)
              obtain ⟨kf, hkt⟩ : ∃ q, X0.heap.size = q := ⟨_, rfl⟩
              rw [hkt] at kz
              have ga : Hid (wc.heap.size ≤ kf) := Lib.hid (by rw [← hkt]; exact tt.size)
              try rw [hY1]
              try rw [hkt]
              clear hY1 hkt
              refine hK.out _ _ (KS.out _ t_Y1) (fun _ => ?_)
              clear hK K
              refine wpAnyH_ready (rs := [3]) (by kernel_rfl) (by simp) ?_
              refine AllReadyH.cons rfl (fun K hK => ?_) AllReadyH.nil
              go_simp
              go_at_call 9
              refine (key_any y.h Y1).mono ?_
              rintro e Y2 ⟨rfl, u2⟩
              have t_Y2 : Below wc.heap.size wc Y2 := t_Y1.trans (u2.mono t_Y1.size)
              replace kz := kz.step u2
              refine hK.out _ _ (KS.out _ t_Y2) (fun _ => ?_)
              clear hK K
              refine wpAnyH_ready (rs := [4]) (by kernel_rfl) (by simp) ?_
              refine AllReadyH.cons rfl (fun K hK => ?_) AllReadyH.nil
              go_simp
              go_at_call 8
              refine (CD Y2 t_Y2).mono ?_
              rintro e Y3 ⟨A8, c8, rfl, -, u3⟩
              have t_Y3 : Below wc.heap.size wc Y3 := t_Y2.trans (u3.mono t_Y2.size)
              replace kz := kz.step u3
              refine hK.out _ _ (KS.out _ t_Y3) (fun _ => ?_)
              clear hK K
              refine wpAnyH_take (i := 5) (v := ?_) rfl (by kernel_rfl) (by kernel_rfl) (by kernel_rfl) (fun _ _ _ h => h) (Or.inl ⟨by rfl, ?_⟩) (by assumption) ?_
              rotate_left
              · (intro w' hSw; (try dsimp only at hSw); go_simp; try with_reducible rfl)
              simp only [Act.put, List.getElem_toArray, List.getElem_cons_zero, List.getElem_cons_succ, List.setIfInBounds_toArray, List.set_cons_zero, List.set_cons_succ]
              refine wpAnyH_take (i := 6) (v := ?_) rfl (by kernel_rfl) (by kernel_rfl) (by kernel_rfl) (fun _ _ _ h => h) (Or.inl ⟨by rfl, ?_⟩) (by assumption) ?_
              rotate_left
              · (intro w' hSw; (try dsimp only at hSw); go_simp; try with_reducible rfl)
              simp only [Act.put, List.getElem_toArray, List.getElem_cons_zero, List.getElem_cons_succ, List.setIfInBounds_toArray, List.set_cons_zero, List.set_cons_succ]
              refine wpAnyH_take (i := 7) (v := ?_) rfl (by kernel_rfl) (by kernel_rfl) (by kernel_rfl) (fun _ _ _ h => h) (Or.inl ⟨by rfl, ?_⟩) (by assumption) ?_
              rotate_left
              · (intro w' hSw; (try dsimp only at hSw); go_simp; try with_reducible rfl)
              simp only [Act.put, List.getElem_toArray, List.getElem_cons_zero, List.getElem_cons_succ, List.setIfInBounds_toArray, List.set_cons_zero, List.set_cons_succ]
              refine wpAnyH_ready (rs := [9]) (by kernel_rfl) (by simp) ?_
              refine AllReadyH.cons rfl (fun K hK => ?_) AllReadyH.nil
              have TW : Hid (Below wc.heap.size wc ((((((((((Y3).setCell ⟨kf, 0, none⟩ (.int .i64 zh.a)).setCell ⟨kf, 1, none⟩ (.int .i64 zh.o)).setCell ⟨kf, 2, none⟩ (.int .i64 zh.t)).setCell ⟨kf, 3, none⟩ (.int .u32 zh.i)).setCell ⟨kf, 4, none⟩ (.int .u32 zh.v)).setCell ⟨kf, 5, none⟩ (.int .u32 zh.q)).setCell ⟨kf, 6, none⟩ (.int .i64 zh.s)).setCell ⟨kf, 7, none⟩ (.int .i64 zh.n)).setCell ⟨kf, 8, none⟩ (.slice A8 zn c8))) := Lib.hid (below_st9 t_Y3 ga.out (.int .i64 zh.a) (.int .i64 zh.o) (.int .i64 zh.t) (.int .u32 zh.i) (.int .u32 zh.v) (.int .u32 zh.q) (.int .i64 zh.s) (.int .i64 zh.n) (.slice A8 zn c8))
              have GW : Hid (Bk ((((((((((Y3).setCell ⟨kf, 0, none⟩ (.int .i64 zh.a)).setCell ⟨kf, 1, none⟩ (.int .i64 zh.o)).setCell ⟨kf, 2, none⟩ (.int .i64 zh.t)).setCell ⟨kf, 3, none⟩ (.int .u32 zh.i)).setCell ⟨kf, 4, none⟩ (.int .u32 zh.v)).setCell ⟨kf, 5, none⟩ (.int .u32 zh.q)).setCell ⟨kf, 6, none⟩ (.int .i64 zh.s)).setCell ⟨kf, 7, none⟩ (.int .i64 zh.n)).setCell ⟨kf, 8, none⟩ (.slice A8 zn c8)) kf (.cells #[.int .i64 zh.a, .int .i64 zh.o, .int .i64 zh.t, .int .u32 zh.i, .int .u32 zh.v, .int .u32 zh.q, .int .i64 zh.s, .int .i64 zh.n, .slice A8 zn c8] 34)) := Lib.hid (kz9_set kz (.int .i64 zh.a) (.int .i64 zh.o) (.int .i64 zh.t) (.int .u32 zh.i) (.int .u32 zh.v) (.int .u32 zh.q) (.int .i64 zh.s) (.int .i64 zh.n) (.slice A8 zn c8))
              obtain ⟨z0, z1, z2, z3, z4, z5, z6, z7, z8, g0, g1, g2, g3, g4, g5, g6, g7, g8, hzl⟩ := kz9_at kz
              clear kz
              go_simp
              obtain ⟨ZX, hZX⟩ : ∃ V, ((((((((((Y3).setCell ⟨kf, 0, none⟩ (.int .i64 zh.a)).setCell ⟨kf, 1, none⟩ (.int .i64 zh.o)).setCell ⟨kf, 2, none⟩ (.int .i64 zh.t)).setCell ⟨kf, 3, none⟩ (.int .u32 zh.i)).setCell ⟨kf, 4, none⟩ (.int .u32 zh.v)).setCell ⟨kf, 5, none⟩ (.int .u32 zh.q)).setCell ⟨kf, 6, none⟩ (.int .i64 zh.s)).setCell ⟨kf, 7, none⟩ (.int .i64 zh.n)).setCell ⟨kf, 8, none⟩ (.slice A8 zn c8)) = V := ⟨_, rfl⟩
              rw [hZX] at TW GW  ⊢
              clear z0 z1 z2 z3 z4 z5 z6 z7 z8 g0 g1 g2 g3 g4 g5 g6 g7 g8 hzl hZX
              refine hK.out _ _ (KS.out _ TW.out) (fun _ => ?_)
              clear hK K
              refine wpAnyH_ready (rs := [10]) (by kernel_rfl) (by simp) ?_
              refine AllReadyH.cons rfl (fun K hK => ?_) AllReadyH.nil
              go_simp
              refine hK.out _ _ (KS.out _ TW.out) (fun _ => ?_)
              clear hK K
              refine wpAnyH_done (by kernel_rfl) ?_ _
              go_wp2
              go_meet
              case rel => exact ⟨rfl, TW⟩
            case rest =>
              obtain ⟨rfl, T5⟩ := hcut
              clear KS CD
              have T45 := Lib.hid (T4.out.trans (T5.out.mono T4.out.size))
              obtain ⟨t0, t1, t2, -⟩ := kz3_at (HGTd.out.step T45.out)
              obtain ⟨p0, p1, p2, -⟩ := kz3_at (HGUd.out.step T45.out)
              obtain ⟨s0, s1, s2, -⟩ := kz3_at (HGV.out.step T5.out)
              have q1 := (HAd.out.step T45.out).arr
              have q2 := (HAPd.out.step T45.out).arr
              have hwn : IntKind.i64.wrap ((nq : Int) - 1) = (nq : Int) - 1 := wrap_i64 (by omega) (by omega)
              have hne1 : ((nv : Int) == (nq : Int) - 1) = true := by simp; omega
              have HB5 := Lib.hid (HBd.out.trans (T45.out.mono HBd.out.size))
              have CS : ∀ V, Below wc.heap.size wc V → Calls Try.prog 12 #[.agg #[.int .i64 m, .slice Aq nq cq, .bool Ro], .agg #[.int .i64 m, .slice Ap nq cp, .bool Ro]] V fun e w' => e = .returned (.bool true) ∧ Below V.heap.size V w' := fun V hV => lsame_any m Aq Ap nq nq cq cp Ro Lq Lp V HNQ.out rfl (by rw [HCQ.out, HCP.out]) (q1.step hV) (q2.step hV) (by omega)
              clear q1 q2
              have hk2 := HK2.out
              go_upto_region 16 with fail
              by_cases hr0 : Rk = 0
              · rw [if_pos hr0] at hk2
                subst hr0
                obtain rfl : k2 = 0 := hk2.symm
                refine wp_region_quiet_below (by kernel_rfl) (by kernel_rfl) ?_
                have gg0 := cell_regrown t0
                have gg1 := cell_regrown t1
                have gg2 := cell_regrown t2
                have gg3 := cell_regrown p0
                have gg4 := cell_regrown p1
                have gg5 := cell_regrown p2
                have gg6 := cell_regrown s0
                have gg7 := cell_regrown s1
                have gg8 := cell_regrown s2
                have zz0 : ∀ d os, _ := fun dd os => Calls.regrown_of (w := wc) (d := dd) (os := os) (alive_any _)
                have zz1 : ∀ d os, _ := fun dd os => Calls.regrown_of (w := wc) (d := dd) (os := os) (plain_any m Ap nq cp Ro _)
                have zz2 : ∀ d os, _ := fun dd os => Calls.regrown_of (w := wc) (d := dd) (os := os) (CS _ (below_regrown wc dd os))
                repeat (first | go_big_quiet_step (with_reducible exact zz0 _ _) | go_big_quiet_step (with_reducible exact zz1 _ _) | go_big_quiet_step (with_reducible exact zz2 _ _) | go_big_quiet_step (fail) | go_big_quiet_skip)
                refine wpQuiet_nil ?_
                intro W9 hw'
                obtain ⟨⟨dq, osq⟩, hw''⟩ := hw'
                have hbz := below_regrown wc dq osq
                rw [← hw''] at hbz
                clear hw'' gg0 gg1 gg2 gg3 gg4 gg5 gg6 gg7 gg8 zz0 zz1 zz2 
                go_wp2
                go_ret
                exact ⟨ret_bool (by simp), HB5.out.trans (hbz.mono HB5.out.size)⟩
              · rw [if_neg hr0] at hk2
                obtain rfl : k2 = 1 := hk2.symm
                have hb0 : (Rk == 0) = false := by simpa using hr0
                have hb1 : (Rk != 0) = true := by simpa using hr0
                refine wp_region_quiet_below (by kernel_rfl) (by kernel_rfl) ?_
                have gg0 := cell_regrown t0
                have gg1 := cell_regrown t1
                have gg2 := cell_regrown t2
                have gg3 := cell_regrown p0
                have gg4 := cell_regrown p1
                have gg5 := cell_regrown p2
                have gg6 := cell_regrown s0
                have gg7 := cell_regrown s1
                have gg8 := cell_regrown s2
                have zz0 : ∀ d os, _ := fun dd os => Calls.regrown_of (w := wc) (d := dd) (os := os) (alive_any _)
                have zz1 : ∀ d os, _ := fun dd os => Calls.regrown_of (w := wc) (d := dd) (os := os) (plain_any m Ap nq cp Ro _)
                have zz2 : ∀ d os, _ := fun dd os => Calls.regrown_of (w := wc) (d := dd) (os := os) (CS _ (below_regrown wc dd os))
                repeat (first | go_big_quiet_step (with_reducible exact zz0 _ _) | go_big_quiet_step (with_reducible exact zz1 _ _) | go_big_quiet_step (with_reducible exact zz2 _ _) | go_big_quiet_step (fail) | go_big_quiet_skip)
                refine wpQuiet_nil ?_
                intro W9 hw'
                obtain ⟨⟨dq, osq⟩, hw''⟩ := hw'
                have hbz := below_regrown wc dq osq
                rw [← hw''] at hbz
                clear hw'' gg0 gg1 gg2 gg3 gg4 gg5 gg6 gg7 gg8 zz0 zz1 zz2 
                go_wp2
                go_ret
                exact ⟨ret_bool (by simp), HB5.out.trans (hbz.mono HB5.out.size)⟩
        · obtain ⟨h1, h2⟩ := HBAD.out he
          have hne : (Re != 0) = true := by simpa using he
          subst h2
          have q1 := HAb.out.arr
          have q2 := HASb.out.arr
          have hpn : np = ns := by rw [HNP2.out, h1, cons_length, HLS.out]
          subst hpn
          have CS : ∀ V, Below Xb.heap.size Xb V → Calls Try.prog 12 #[.agg #[.int .i64 m, .slice Ap np cp, .bool Ro], .agg #[.int .i64 m, .slice As np cs, .bool Ro]] V fun e w' => e = .returned (.bool true) ∧ Below V.heap.size V w' := fun V hV => lsame_any m Ap As np np cp cs Ro Lp Ls V HNP.out rfl (by rw [HCP.out, h1]) (q1.step hV) (q2.step hV) (by omega)
          obtain ⟨t0, t1, t2, -⟩ := kz3_at HGTb.out
          obtain ⟨s0, s1, s2, -⟩ := kz3_at HGSb.out
          clear q1 q2 h1 he
          go_upto_region 12 with fail
          clear yb0 yb1 yb2 fb0 fb1 fb2 hzb hXb hVb hkb GVb uVb
          refine wp_region_quiet_below (by kernel_rfl) (by kernel_rfl) ?_
          have gg0 := cell_regrown t0
          have gg1 := cell_regrown t1
          have gg2 := cell_regrown t2
          have gg3 := cell_regrown s0
          have gg4 := cell_regrown s1
          have gg5 := cell_regrown s2
          have zz0 : ∀ d os, _ := fun d os => Calls.regrown_of (w := Xb) (d := d) (os := os) (alive_any _)
          have zz1 : ∀ d os, _ := fun d os => Calls.regrown_of (w := Xb) (d := d) (os := os) (plain_any m As np cs Ro _)
          have zz2 : ∀ d os, _ := fun d os => Calls.regrown_of (w := Xb) (d := d) (os := os) (CS _ (below_regrown Xb d os))
          repeat (first | go_big_quiet_step (with_reducible exact zz0 _ _) | go_big_quiet_step (with_reducible exact zz1 _ _) | go_big_quiet_step (with_reducible exact zz2 _ _) | go_big_quiet_step (fail) | go_big_quiet_skip)
          refine wpQuiet_nil ?_
          intro W9 hw'
          obtain ⟨⟨dq, osq⟩, hw''⟩ := hw'
          have hbz := below_regrown Xb dq osq
          rw [← hw''] at hbz
          clear hw'' gg0 gg1 gg2 gg3 gg4 gg5 zz0 zz1 zz2 
          go_wp2
          go_ret
          exact ⟨rfl, HBb.out.trans (hbz.mono HBb.out.size)⟩
    cases gk with
    | zero => exact absurd (.inl rfl) hend
    | succ gf =>
      have hk80 : k < 80 := by omega
      have hkl : k < LL.length := by rw [HN.out]; omega
      have lt0 : (k : Int) < (n : Int) := by omega
      have lt80 : (k : Int) < 80 := by omega
      have hw1 : (k : Int) + 1 ≤ 10000 := by omega
      have har := Arr.step HR.out HB.out
      obtain ⟨b, off, hA, _, e0, e1, e2, e3, e4, e5, e6, e7, e8⟩ := ard_at har.1 hkl
      have HOX := Lib.hid (HO.out _ (ag_mem hkl))
      have HBX := Lib.hid (har.2 _ (ag_mem hkl))
      obtain ⟨x, hx⟩ : ∃ x, ag LL k = x := ⟨_, rfl⟩
      rw [hx] at HOX HBX e0 e1 e2 e3 e4 e5 e6 e7 e8
      have HAR : Hid (∀ V, Below wr.heap.size wr V → V.cell? ⟨b, off + k * 9, none⟩ = some (.int .i64 x.h.a) ∧ V.cell? ⟨b, off + k * 9 + 1, none⟩ = some (.int .i64 x.h.o) ∧ V.cell? ⟨b, off + k * 9 + 2, none⟩ = some (.int .i64 x.h.t) ∧ V.cell? ⟨b, off + k * 9 + 3, none⟩ = some (.int .u32 x.h.i) ∧ V.cell? ⟨b, off + k * 9 + 4, none⟩ = some (.int .u32 x.h.v) ∧ V.cell? ⟨b, off + k * 9 + 5, none⟩ = some (.int .u32 x.h.q) ∧ V.cell? ⟨b, off + k * 9 + 6, none⟩ = some (.int .i64 x.h.s) ∧ V.cell? ⟨b, off + k * 9 + 7, none⟩ = some (.int .i64 x.h.n) ∧ V.cell? ⟨b, off + k * 9 + 8, none⟩ = some (.slice x.A x.l.length x.c)) := Lib.hid (fun V hV => by
        obtain ⟨b2, off2, hA2, _, q0, q1, q2, q3, q4, q5, q6, q7, q8⟩ := ard_at (har.step hV).1 hkl
        rw [hx] at q0 q1 q2 q3 q4 q5 q6 q7 q8
        rw [hA] at hA2
        injection hA2 with hA2
        injection hA2 with h1 h2
        subst h1 h2
        exact ⟨q0, q1, q2, q3, q4, q5, q6, q7, q8⟩)
      subst hA
      clear hx har hkl GA
      by_cases hlen : 300 < x.l.length
      · have hg : ¬ ((x.l.length : Nat) : Int) ≤ 300 := by omega
        clear GS
        go_wp2
        go_roundg gf
        case measure => omega
        case rel => exact ⟨k + 1, by go_num, Lib.hid (by omega), Lib.hid (by omega), Lib.hid ⟨⟨As, ns, cs, os, Ls, HGS.out, HLS.out, HAS.out, HVS.out, by have := HNM.out; omega⟩, HGA.out, HB.out, HKS.out⟩⟩
      have hg : ((x.l.length : Nat) : Int) ≤ 300 := by omega
      obtain ⟨RC, Ro, Rk, Re, hR⟩ : ∃ a b c d, putR m (cons Ls) os (x.h, x.l) = ⟨a, b, c, d⟩ := ⟨_, _, _, _, rfl⟩
      have hlp := put_len (m := m) (o := os) (x := (x.h, x.l)) HVS.out
      have hvp := put_vs (m := m) (o := os) (x := (x.h, x.l)) HVS.out HOX.out.1 HOX.out.2.1
      rw [hR] at hlp hvp
      simp only [cons_length, HLS.out] at hlp hvp
      have HVP := Lib.hid hvp
      have CP := fun V (hV : Below wr.heap.size wr V) => sput_any x.h x.A x.l.length x.c x.l m As ns cs os Ls V HLS.out (HAS.out.arr.step hV) (by omega) (fun z hz => (HVS.out.e z hz).sok) HOX.out.1 HOX.out.2.1 rfl (by omega) HOX.out.2.2 (HBX.out.step hV)
      simp only [hR, PP] at CP
      have KS : Hid (∀ V, Below wr.heap.size wr V → (V.cell? ⟨ka, 0, none⟩ = some (.int .i64 m) ∧ V.cell? ⟨ka, 1, none⟩ = some (.slice As ns cs) ∧ V.cell? ⟨ka, 2, none⟩ = some (.bool os)) ∧ (V.cell? ⟨b, off + k * 9, none⟩ = some (.int .i64 x.h.a) ∧ V.cell? ⟨b, off + k * 9 + 1, none⟩ = some (.int .i64 x.h.o) ∧ V.cell? ⟨b, off + k * 9 + 2, none⟩ = some (.int .i64 x.h.t) ∧ V.cell? ⟨b, off + k * 9 + 3, none⟩ = some (.int .u32 x.h.i) ∧ V.cell? ⟨b, off + k * 9 + 4, none⟩ = some (.int .u32 x.h.v) ∧ V.cell? ⟨b, off + k * 9 + 5, none⟩ = some (.int .u32 x.h.q) ∧ V.cell? ⟨b, off + k * 9 + 6, none⟩ = some (.int .i64 x.h.s) ∧ V.cell? ⟨b, off + k * 9 + 7, none⟩ = some (.int .i64 x.h.n) ∧ V.cell? ⟨b, off + k * 9 + 8, none⟩ = some (.slice x.A x.l.length x.c))) := Lib.hid (fun V hV => by
        obtain ⟨s0, s1, s2, -⟩ := kz3_at (HGS.out.step hV)
        exact ⟨⟨s0, s1, s2⟩, HAR.out V hV⟩)
      clear hR hvp
      go_upto_region 6 with fail
      clear e0 e1 e2 e3 e4 e5 e6 e7 e8 GS
      go_cut [8, 9, 10] (fun v8 v9 v10 wx => ∃ kt : Nat, v8 = .pointer (some ⟨kt, 0, none⟩) ∧ v9 = .int .i64 Rk ∧ v10 = .int .i64 Re ∧ Hid (Below wr.heap.size wr wx) ∧ Hid (wr.heap.size ≤ kt) ∧ Hid (∃ Ap np cp Lp, Bk wx kt (.cells #[.int .i64 m, .slice Ap np cp, .bool Ro] 24) ∧ Lp.length = np ∧ cons Lp = RC ∧ Aro w.heap.size wx Ap cp Lp))
      case first =>
        have tt : Below wr.heap.size wr wr := Below.refl _ _
        refine wp_region_held_drew (S := fun V => (V.cell? ⟨ka, 0, none⟩ = some (.int .i64 m) ∧ V.cell? ⟨ka, 1, none⟩ = some (.slice As ns cs) ∧ V.cell? ⟨ka, 2, none⟩ = some (.bool os)) ∧ (V.cell? ⟨b, off + k * 9, none⟩ = some (.int .i64 x.h.a) ∧ V.cell? ⟨b, off + k * 9 + 1, none⟩ = some (.int .i64 x.h.o) ∧ V.cell? ⟨b, off + k * 9 + 2, none⟩ = some (.int .i64 x.h.t) ∧ V.cell? ⟨b, off + k * 9 + 3, none⟩ = some (.int .u32 x.h.i) ∧ V.cell? ⟨b, off + k * 9 + 4, none⟩ = some (.int .u32 x.h.v) ∧ V.cell? ⟨b, off + k * 9 + 5, none⟩ = some (.int .u32 x.h.q) ∧ V.cell? ⟨b, off + k * 9 + 6, none⟩ = some (.int .i64 x.h.s) ∧ V.cell? ⟨b, off + k * 9 + 7, none⟩ = some (.int .i64 x.h.n) ∧ V.cell? ⟨b, off + k * 9 + 8, none⟩ = some (.slice x.A x.l.length x.c))) (by kernel_rfl) (KS.out _ tt.drew) (fun hHeld => ?_)
        replace tt : Below wr.heap.size wr wr.drew := tt.drew
        generalize hX0 : wr.drew = X0 at tt  hHeld ⊢
        clear hX0
        refine wpAnyH_take (i := 0) (v := ?_) rfl (by kernel_rfl) (by kernel_rfl) (by kernel_rfl) (fun _ _ _ h => h) (Or.inl ⟨by rfl, ?_⟩) (by assumption) ?_
        rotate_left
        · (intro w' hSw; (try dsimp only at hSw); go_simp; try with_reducible rfl)
        simp only [Act.put, List.getElem_toArray, List.getElem_cons_zero, List.setIfInBounds_toArray, List.set_cons_zero, List.set_cons_succ]
        refine wpAnyH_take (i := 1) (v := ?_) rfl (by kernel_rfl) (by kernel_rfl) (by kernel_rfl) (fun _ _ _ h => h) (Or.inl ⟨by rfl, ?_⟩) (by assumption) ?_
        rotate_left
        · (intro w' hSw; (try dsimp only at hSw); go_simp; try with_reducible rfl)
        simp only [Act.put, List.getElem_toArray, List.getElem_cons_zero, List.getElem_cons_succ, List.setIfInBounds_toArray, List.set_cons_zero, List.set_cons_succ]
        refine wpAnyH_take (i := 2) (v := ?_) rfl (by kernel_rfl) (by kernel_rfl) (by kernel_rfl) (fun _ _ _ h => h) (Or.inl ⟨by rfl, ?_⟩) (by assumption) ?_
        rotate_left
        · (intro w' hSw; (try dsimp only at hSw); go_simp; try with_reducible rfl)
        simp only [Act.put, List.getElem_toArray, List.getElem_cons_zero, List.getElem_cons_succ, List.setIfInBounds_toArray, List.set_cons_zero, List.set_cons_succ]
        refine wpAnyH_take (i := 3) (v := ?_) rfl (by kernel_rfl) (by kernel_rfl) (by kernel_rfl) (fun _ _ _ h => h) (Or.inl ⟨by rfl, ?_⟩) (by assumption) ?_
        rotate_left
        · (intro w' hSw; (try dsimp only at hSw); go_simp; try with_reducible rfl)
        simp only [Act.put, List.getElem_toArray, List.getElem_cons_zero, List.getElem_cons_succ, List.setIfInBounds_toArray, List.set_cons_zero, List.set_cons_succ]
        refine wpAnyH_take (i := 4) (v := ?_) rfl (by kernel_rfl) (by kernel_rfl) (by kernel_rfl) (fun _ _ _ h => h) (Or.inl ⟨by rfl, ?_⟩) (by assumption) ?_
        rotate_left
        · (intro w' hSw; (try dsimp only at hSw); go_simp; try with_reducible rfl)
        simp only [Act.put, List.getElem_toArray, List.getElem_cons_zero, List.getElem_cons_succ, List.setIfInBounds_toArray, List.set_cons_zero, List.set_cons_succ]
        refine wpAnyH_ready (rs := [5, 10]) (by kernel_rfl) (by simp) ?_
        refine AllReadyH.cons rfl (fun K hK => ?_) ?_
        · go_simp
          go_at_call 7
          refine (CP X0 tt).mono ?_
          rintro e Y1 ⟨Ap, cp, np, Lp, rfl, hnp, hcp, hap, u1⟩
          have t_Y1 : Below wr.heap.size wr Y1 := tt.trans (u1.mono tt.size)
          replace hap := hap.lower (Nat.le_trans HB.out.size tt.size)
          refine hK.out _ _ (KS.out _ t_Y1) (fun _ => ?_)
          clear hK K
          refine wpAnyH_take (i := 6) (v := ?_) rfl (by kernel_rfl) (by kernel_rfl) (by kernel_rfl) (fun _ _ _ h => h) (Or.inl ⟨by rfl, ?_⟩) (by assumption) ?_
          rotate_left
          · (intro w' hSw; (try dsimp only at hSw); go_simp; try with_reducible rfl)
          simp only [Act.put, List.getElem_toArray, List.getElem_cons_zero, List.getElem_cons_succ, List.setIfInBounds_toArray, List.set_cons_zero, List.set_cons_succ]
          refine wpAnyH_take (i := 7) (v := ?_) rfl (by kernel_rfl) (by kernel_rfl) (by kernel_rfl) (fun _ _ _ h => h) (Or.inl ⟨by rfl, ?_⟩) (by assumption) ?_
          rotate_left
          · (intro w' hSw; (try dsimp only at hSw); go_simp; try with_reducible rfl)
          simp only [Act.put, List.getElem_toArray, List.getElem_cons_zero, List.getElem_cons_succ, List.setIfInBounds_toArray, List.set_cons_zero, List.set_cons_succ]
          refine wpAnyH_take (i := 8) (v := ?_) rfl (by kernel_rfl) (by kernel_rfl) (by kernel_rfl) (fun _ _ _ h => h) (Or.inl ⟨by rfl, ?_⟩) (by assumption) ?_
          rotate_left
          · (intro w' hSw; (try dsimp only at hSw); go_simp; try with_reducible rfl)
          simp only [Act.put, List.getElem_toArray, List.getElem_cons_zero, List.getElem_cons_succ, List.setIfInBounds_toArray, List.set_cons_zero, List.set_cons_succ]
          refine wpAnyH_take (i := 9) (v := ?_) rfl (by kernel_rfl) (by kernel_rfl) (by kernel_rfl) (fun _ _ _ h => h) (Or.inl ⟨by rfl, ?_⟩) (by assumption) ?_
          rotate_left
          · (intro w' hSw; (try dsimp only at hSw); go_simp; try with_reducible rfl)
          simp only [Act.put, List.getElem_toArray, List.getElem_cons_zero, List.getElem_cons_succ, List.setIfInBounds_toArray, List.set_cons_zero, List.set_cons_succ]
          refine wpAnyH_ready (rs := [10]) (by kernel_rfl) (by simp) ?_
          refine AllReadyH.cons rfl (fun K hK => ?_) AllReadyH.nil
          go_simp
          obtain ⟨Y2, hY2⟩ : ∃ V, Y1.alloc (.cells #[Value.int .i64 0, .slice none 0 0, .bool false] 24) = V := ⟨_, rfl⟩
          have u2 : Below Y1.heap.size Y1 Y2 := by rw [← hY2]; exact below_alloc1 _ _
          have kz := Bk.mk hY2
          have t_Y2 : Below wr.heap.size wr Y2 := t_Y1.trans (u2.mono t_Y1.size)
          replace hap := hap.step u2
          obtain ⟨kt, hkt⟩ : ∃ q, Y1.heap.size = q := ⟨_, rfl⟩
          rw [hkt] at kz
          have ga : Hid (wr.heap.size ≤ kt) := Lib.hid (by rw [← hkt]; exact t_Y1.size)
          try rw [hY2]
          try rw [hkt]
          clear hY2 hkt
          refine hK.out _ _ (KS.out _ t_Y2) (fun _ => ?_)
          clear hK K
          refine wpAnyH_ready (rs := [11]) (by kernel_rfl) (by simp) ?_
          refine AllReadyH.cons rfl (fun K hK => ?_) AllReadyH.nil
          have TW : Hid (Below wr.heap.size wr ((((Y2).setCell ⟨kt, 0, none⟩ (.int .i64 m)).setCell ⟨kt, 1, none⟩ (.slice Ap np cp)).setCell ⟨kt, 2, none⟩ (.bool Ro))) := Lib.hid (below_st3 t_Y2 ga.out (.int .i64 m) (.slice Ap np cp) (.bool Ro))
          have GW : Hid (Bk ((((Y2).setCell ⟨kt, 0, none⟩ (.int .i64 m)).setCell ⟨kt, 1, none⟩ (.slice Ap np cp)).setCell ⟨kt, 2, none⟩ (.bool Ro)) kt (.cells #[.int .i64 m, .slice Ap np cp, .bool Ro] 24)) := Lib.hid (kz3_set kz (.int .i64 m) (.slice Ap np cp) (.bool Ro))
          have HAP : Hid (Aro w.heap.size ((((Y2).setCell ⟨kt, 0, none⟩ (.int .i64 m)).setCell ⟨kt, 1, none⟩ (.slice Ap np cp)).setCell ⟨kt, 2, none⟩ (.bool Ro)) Ap cp Lp) := Lib.hid (((hap.set kz (by decide) (by decide) (.int .i64 m)).set (i := 1) (Bk.set3 (i := 0) kz) (by decide) (by decide) (.slice Ap np cp)).set (i := 2) (Bk.set3 (i := 1) (Bk.set3 (i := 0) kz)) (by decide) (by decide) (.bool Ro))
          clear hap
          obtain ⟨z0, z1, z2, g0, g1, g2, hzl⟩ := kz3_at kz
          clear kz
          go_simp
          obtain ⟨ZX, hZX⟩ : ∃ V, ((((Y2).setCell ⟨kt, 0, none⟩ (.int .i64 m)).setCell ⟨kt, 1, none⟩ (.slice Ap np cp)).setCell ⟨kt, 2, none⟩ (.bool Ro)) = V := ⟨_, rfl⟩
          rw [hZX] at TW GW HAP ⊢
          clear z0 z1 z2 g0 g1 g2 hzl hZX
          refine hK.out _ _ (KS.out _ TW.out) (fun _ => ?_)
          clear hK K
          refine wpAnyH_ready (rs := [12]) (by kernel_rfl) (by simp) ?_
          refine AllReadyH.cons rfl (fun K hK => ?_) AllReadyH.nil
          go_simp
          refine hK.out _ _ (KS.out _ TW.out) (fun _ => ?_)
          clear hK K
          refine wpAnyH_ready (rs := [13]) (by kernel_rfl) (by simp) ?_
          refine AllReadyH.cons rfl (fun K hK => ?_) AllReadyH.nil
          go_simp
          refine hK.out _ _ (KS.out _ TW.out) (fun _ => ?_)
          clear hK K
          refine wpAnyH_done (by kernel_rfl) ?_ _
          go_wp2
          go_meet
          case rel => exact ⟨kt, rfl, rfl, rfl, TW, ga, Lib.hid ⟨Ap, np, cp, Lp, GW.out, hnp, hcp, HAP.out⟩⟩
        refine AllReadyH.cons rfl (fun K hK => ?_) AllReadyH.nil
        go_simp
        obtain ⟨Y1, hY1⟩ : ∃ V, X0.alloc (.cells #[Value.int .i64 0, .slice none 0 0, .bool false] 24) = V := ⟨_, rfl⟩
        have u1 : Below X0.heap.size X0 Y1 := by rw [← hY1]; exact below_alloc1 _ _
        have kz := Bk.mk hY1
        have t_Y1 : Below wr.heap.size wr Y1 := tt.trans (u1.mono tt.size)
        obtain ⟨kt, hkt⟩ : ∃ q, X0.heap.size = q := ⟨_, rfl⟩
        rw [hkt] at kz
        have ga : Hid (wr.heap.size ≤ kt) := Lib.hid (by rw [← hkt]; exact tt.size)
        try rw [hY1]
        try rw [hkt]
        clear hY1 hkt
        refine hK.out _ _ (KS.out _ t_Y1) (fun _ => ?_)
        clear hK K
        refine wpAnyH_ready (rs := [5]) (by kernel_rfl) (by simp) ?_
        refine AllReadyH.cons rfl (fun K hK => ?_) AllReadyH.nil
        go_simp
        go_at_call 7
        refine (CP Y1 t_Y1).mono ?_
        rintro e Y2 ⟨Ap, cp, np, Lp, rfl, hnp, hcp, hap, u2⟩
        have t_Y2 : Below wr.heap.size wr Y2 := t_Y1.trans (u2.mono t_Y1.size)
        replace kz := kz.step u2
        replace hap := hap.lower (Nat.le_trans HB.out.size t_Y1.size)
        refine hK.out _ _ (KS.out _ t_Y2) (fun _ => ?_)
        clear hK K
        refine wpAnyH_take (i := 6) (v := ?_) rfl (by kernel_rfl) (by kernel_rfl) (by kernel_rfl) (fun _ _ _ h => h) (Or.inl ⟨by rfl, ?_⟩) (by assumption) ?_
        rotate_left
        · (intro w' hSw; (try dsimp only at hSw); go_simp; try with_reducible rfl)
        simp only [Act.put, List.getElem_toArray, List.getElem_cons_zero, List.getElem_cons_succ, List.setIfInBounds_toArray, List.set_cons_zero, List.set_cons_succ]
        refine wpAnyH_take (i := 7) (v := ?_) rfl (by kernel_rfl) (by kernel_rfl) (by kernel_rfl) (fun _ _ _ h => h) (Or.inl ⟨by rfl, ?_⟩) (by assumption) ?_
        rotate_left
        · (intro w' hSw; (try dsimp only at hSw); go_simp; try with_reducible rfl)
        simp only [Act.put, List.getElem_toArray, List.getElem_cons_zero, List.getElem_cons_succ, List.setIfInBounds_toArray, List.set_cons_zero, List.set_cons_succ]
        refine wpAnyH_take (i := 8) (v := ?_) rfl (by kernel_rfl) (by kernel_rfl) (by kernel_rfl) (fun _ _ _ h => h) (Or.inl ⟨by rfl, ?_⟩) (by assumption) ?_
        rotate_left
        · (intro w' hSw; (try dsimp only at hSw); go_simp; try with_reducible rfl)
        simp only [Act.put, List.getElem_toArray, List.getElem_cons_zero, List.getElem_cons_succ, List.setIfInBounds_toArray, List.set_cons_zero, List.set_cons_succ]
        refine wpAnyH_take (i := 9) (v := ?_) rfl (by kernel_rfl) (by kernel_rfl) (by kernel_rfl) (fun _ _ _ h => h) (Or.inl ⟨by rfl, ?_⟩) (by assumption) ?_
        rotate_left
        · (intro w' hSw; (try dsimp only at hSw); go_simp; try with_reducible rfl)
        simp only [Act.put, List.getElem_toArray, List.getElem_cons_zero, List.getElem_cons_succ, List.setIfInBounds_toArray, List.set_cons_zero, List.set_cons_succ]
        refine wpAnyH_ready (rs := [11]) (by kernel_rfl) (by simp) ?_
        refine AllReadyH.cons rfl (fun K hK => ?_) AllReadyH.nil
        have TW : Hid (Below wr.heap.size wr ((((Y2).setCell ⟨kt, 0, none⟩ (.int .i64 m)).setCell ⟨kt, 1, none⟩ (.slice Ap np cp)).setCell ⟨kt, 2, none⟩ (.bool Ro))) := Lib.hid (below_st3 t_Y2 ga.out (.int .i64 m) (.slice Ap np cp) (.bool Ro))
        have GW : Hid (Bk ((((Y2).setCell ⟨kt, 0, none⟩ (.int .i64 m)).setCell ⟨kt, 1, none⟩ (.slice Ap np cp)).setCell ⟨kt, 2, none⟩ (.bool Ro)) kt (.cells #[.int .i64 m, .slice Ap np cp, .bool Ro] 24)) := Lib.hid (kz3_set kz (.int .i64 m) (.slice Ap np cp) (.bool Ro))
        have HAP : Hid (Aro w.heap.size ((((Y2).setCell ⟨kt, 0, none⟩ (.int .i64 m)).setCell ⟨kt, 1, none⟩ (.slice Ap np cp)).setCell ⟨kt, 2, none⟩ (.bool Ro)) Ap cp Lp) := Lib.hid (((hap.set kz (by decide) (by decide) (.int .i64 m)).set (i := 1) (Bk.set3 (i := 0) kz) (by decide) (by decide) (.slice Ap np cp)).set (i := 2) (Bk.set3 (i := 1) (Bk.set3 (i := 0) kz)) (by decide) (by decide) (.bool Ro))
        clear hap
        obtain ⟨z0, z1, z2, g0, g1, g2, hzl⟩ := kz3_at kz
        clear kz
        go_simp
        obtain ⟨ZX, hZX⟩ : ∃ V, ((((Y2).setCell ⟨kt, 0, none⟩ (.int .i64 m)).setCell ⟨kt, 1, none⟩ (.slice Ap np cp)).setCell ⟨kt, 2, none⟩ (.bool Ro)) = V := ⟨_, rfl⟩
        rw [hZX] at TW GW HAP ⊢
        clear z0 z1 z2 g0 g1 g2 hzl hZX
        refine hK.out _ _ (KS.out _ TW.out) (fun _ => ?_)
        clear hK K
        refine wpAnyH_ready (rs := [12]) (by kernel_rfl) (by simp) ?_
        refine AllReadyH.cons rfl (fun K hK => ?_) AllReadyH.nil
        go_simp
        refine hK.out _ _ (KS.out _ TW.out) (fun _ => ?_)
        clear hK K
        refine wpAnyH_ready (rs := [13]) (by kernel_rfl) (by simp) ?_
        refine AllReadyH.cons rfl (fun K hK => ?_) AllReadyH.nil
        go_simp
        refine hK.out _ _ (KS.out _ TW.out) (fun _ => ?_)
        clear hK K
        refine wpAnyH_done (by kernel_rfl) ?_ _
        go_wp2
        go_meet
        case rel => exact ⟨kt, rfl, rfl, rfl, TW, ga, Lib.hid ⟨Ap, np, cp, Lp, GW.out, hnp, hcp, HAP.out⟩⟩
      case rest =>
        obtain ⟨kt, rfl, rfl, rfl, T1, HKT, HT⟩ := hcut
        clear KS CP
        obtain ⟨Ap, np, cp, Lp, gt, hnp, hcp, hap⟩ := HT.out
        have hnp2 : np = RC.length := by rw [← hnp, ← cons_length, hcp]
        have GSw := Lib.hid (HGS.out.step T1.out)
        have HB1 := Lib.hid (HB.out.trans (T1.out.mono HB.out.size))
        have HJ : Hid (TJ w y m ka (k + 1) ((((wc).setCell ⟨ka, 0, none⟩ (.int .i64 m)).setCell ⟨ka, 1, none⟩ (.slice Ap np cp)).setCell ⟨ka, 2, none⟩ (.bool Ro))) := Lib.hid ⟨⟨Ap, np, cp, Ro, Lp, kz3_set GSw.out _ _ _, hnp, ((hap.set GSw.out (by decide) (by decide) (.int .i64 m)).set (i := 1) (Bk.set3 (i := 0) GSw.out) (by decide) (by decide) (.slice Ap np cp)).set (i := 2) (Bk.set3 (i := 1) (Bk.set3 (i := 0) GSw.out)) (by decide) (by decide) (.bool Ro), by rw [hcp]; exact HVP.out, by rw [hnp2]; have := hlp.2.1; have := HNM.out; omega⟩, (far_st3 (by have := HKS.out; omega) _ _ _).trans (HGA.out.step T1.out), below_st3 HB1.out (Nat.le_of_lt HKS.out) _ _ _, HKS.out⟩
        obtain ⟨t0, t1, t2, -⟩ := kz3_at gt
        obtain ⟨s0, s1, s2, f0, f1, f2, hsl⟩ := kz3_at GSw.out
        clear gt hnp hcp hap hlp HT hnp2 HGS
        go_wp2
        go_roundg gf
        case measure => omega
        case rel => exact ⟨k + 1, by go_num, Lib.hid (by omega), Lib.hid (by omega), HJ⟩
end Go.Proofs.Ytadcicmccdphkaa
