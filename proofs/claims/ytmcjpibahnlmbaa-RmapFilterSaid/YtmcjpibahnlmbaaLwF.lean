/-
  The walk of the law RmapFilter. No statement is proved here; no conditions.
-/
import Derived.Test.YtmcjpibahnlmbaaLw0
namespace Go.Proofs.Ytmcjpibahnlmbaa
open Go.RowKit Go.Joins

set_option maxRecDepth 100000 in
set_option maxHeartbeats 4000000 in
theorem filter_walk (A0 A1 : Option Addr) (c d : Nat) (m : List Cl) (l : List Rt) (w : World) (hm : Cq w A0 m) (hl : Tt w A1 l) (hB : ∀ t ∈ l, t.A < 4294967296) :
    Calls Try.prog 5 #[.slice A0 m.length c, .slice A1 l.length d] w fun e w' => e = .returned (.bool true) ∧ Below w.heap.size w w' := by
  have HB0 : Hid (Below w.heap.size w w) := Lib.hid (Below.refl _ _)
  have TB : Hid (Below w.heap.size w w) := Lib.hid (Below.refl _ _)
  have cs1 := small_any A0 c m w hm.rd
  obtain ⟨S1, hS1⟩ : ∃ S, sml m = S := ⟨_, rfl⟩
  obtain ⟨ll, hll⟩ : ∃ v, l.length = v := ⟨_, rfl⟩
  rw [hS1] at cs1
  rw [hll]
  go_enter Try.func5, Try.ntmps5
  cases S1
  · go_wp2_with fail
    refine (cs1).mono ?_
    rintro e Wz ⟨rfl, hWz⟩
    rw [hWz]
    clear hWz Wz
    go_wp2_with fail
    refine (alive_any _).mono ?_
    rintro e Va ⟨rfl, hva⟩
    go_wp2
    go_ret
    exact ⟨rfl, HB0.out.trans ((TB.out.trans (hva.mono TB.out.size)).mono HB0.out.size)⟩
  by_cases h30 : ll ≤ 30
  case neg =>
    have g1 : (ll : Int) > 30 := by omega
    go_wp2_with fail
    refine (cs1).mono ?_
    rintro e Wz ⟨rfl, hWz⟩
    rw [hWz]
    clear hWz Wz
    go_wp2_with fail
    refine (alive_any _).mono ?_
    rintro e Va ⟨rfl, hva⟩
    go_wp2
    go_ret
    exact ⟨rfl, HB0.out.trans ((TB.out.trans (hva.mono TB.out.size)).mono HB0.out.size)⟩
  have g1 : ¬ ((ll : Int) > 30) := by omega
  go_wp2_with fail
  refine (cs1).mono ?_
  rintro e Wz ⟨rfl, hWz⟩
  rw [hWz]
  clear hWz Wz
  have hcrm := hm.cr hS1
  have HMm : Hid (∀ V, Below w.heap.size w V → Cr V A0 m) := Lib.hid (fun V hV => hcrm.1.step (HB0.out.trans (hV.mono HB0.out.size)))
  have hlm := hcrm.2
  have cRm := fun V (hV : Below w.heap.size w V) => rows_cs A0 c m V (HMm.out V hV) hlm
  have cMm := fun V A' c' (h : Cs V A' m) => h.may c' hlm
  clear hcrm
  clear hS1 hm cs1
  obtain ⟨MA, hMA⟩ : ∃ v, mayc none (cps m) = v := ⟨_, rfl⟩
  rw [hMA] at cMm
  have HMA := Lib.hid hMA
  have HL := Lib.hid hl
  have HLN := Lib.hid hll
  have cF := fun V (hV : Below w.heap.size w V) hk ht => filter_any A0 A1 c d m l V (HMm.out V hV) (HL.out.step hV) (by omega) (by omega) hk ht
  have rF := fun V A' c' A2 c2 (h : Cs V A' m) (h2 : Tt V A2 l) hk ht => h.filter c' c2 hlm hk l h2 (by omega) ht
  obtain ⟨lm, hlm'⟩ : ∃ v, m.length = v := ⟨_, rfl⟩
  rw [hlm'] at cRm cMm cF rF ⊢
  rw [hll] at cF rF
  clear hMA hlm hlm' hl hll
  go_wp2_with fail
  refine (cRm _ TB.out).mono ?_
  rintro e V1 ⟨A2, c2, rfl, s2, hv⟩
  replace TB := Lib.hid (TB.out.trans (hv.mono TB.out.size))
  clear hv
  go_wp2_with fail
  refine (cMm _ _ _ s2).mono ?_
  rintro e V2 ⟨rfl, hv⟩
  replace TB := Lib.hid (TB.out.trans (hv.mono TB.out.size))
  clear hv
  clear s2
  cases MA
  · go_wp2_with fail
    refine (alive_any _).mono ?_
    rintro e Va ⟨rfl, hva⟩
    go_wp2
    go_ret
    exact ⟨rfl, HB0.out.trans ((TB.out.trans (hva.mono TB.out.size)).mono HB0.out.size)⟩
  obtain ⟨V3, hV3⟩ : ∃ V3, V2.alloc (.cells #[] 44) = V3 := ⟨_, rfl⟩
  have O0 : Hid (Ob 44 5 (V2.heap.size ≤ ·) V3 (some ⟨V2.heap.size, 0, none⟩) 0 (tflat [])) := Lib.hid (by rw [← hV3]; exact Ob.lit0 V2 44 5)
  have B0 : Hid (Below V2.heap.size V2 V3) := Lib.hid (by rw [← hV3]; exact below_alloc1 _ _)
  go_wp2_with fail
  clear hV3
  go_loopg [5, 6] ll (fun gf v5 v6 wx => ∃ (k : Nat) (A' : Option Addr) (c' : Nat), v5 = .slice A' k c' ∧ v6 = .int .i64 (k : Int) ∧ Hid (gf + k = ll) ∧ Hid (Ob 44 5 (V2.heap.size ≤ ·) wx A' c' (tflat (l.take k))) ∧ Hid (∀ i, i < k → okt (gt l i) = true) ∧ Hid (Below V2.heap.size V2 wx))
  case atStart => exact ⟨0, _, _, rfl, rfl, Lib.hid (by omega), O0, Lib.hid (fun i hi => by omega), B0⟩
  case round =>
    obtain ⟨k, A', c', rfl, rfl, hk, ho, hi, hb⟩ := hrel
    have hk' := hk.out
    clear O0 B0
    cases gk with
    | succ gf =>
      have hkl : k < l.length := by rw [HLN.out]; omega
      have lt0 : (k : Int) < (ll : Int) := by omega
      have hw1 : (k : Int) + 1 ≤ 10000 := by omega
      have tb := TB.out.trans (hb.out.mono TB.out.size)
      have hrd := HL.out.step tb
      obtain ⟨b, off, hA, _, e0, e1, e2, e3, e4⟩ := hrd.at hkl
      have hst : l.take (k + 1) = l.take k ++ [gt l k] := by rw [List.take_succ_eq_append_getElem hkl, gt_eq hkl]
      have hlk : (l.take k).length = k := by simp; omega
      obtain ⟨x, hx⟩ : ∃ x, gt l k = x := ⟨_, rfl⟩
      rw [hx] at e0 e1 e2 e3 e4 hst
      subst hA
      have HX := Lib.hid hx
      have HST := Lib.hid hst
      have HLK := Lib.hid hlk
      have HRD := Lib.hid hrd
      have TC := Lib.hid tb
      have cM := fun V => mayRoute_any x V
      obtain ⟨OK, hOK⟩ : ∃ v, okt x = v := ⟨_, rfl⟩
      rw [hOK] at cM
      have HOK := Lib.hid hOK
      clear hx hst hlk hrd tb hOK
      go_wp2_with fail
      refine (route_any x _).mono ?_
      rintro e X1 ⟨rfl, hv1⟩
      go_wp2_with fail
      refine (cM _).mono ?_
      rintro e X2 ⟨rfl, hv2⟩
      have hv3 := hv1.trans (hv2.mono hv1.size)
      clear hv1 hv2 cM e0 e1 e2 e3 e4
      cases OK
      · go_wp2_with fail
        refine (alive_any _).mono ?_
        rintro e Va ⟨rfl, hva⟩
        go_wp2
        go_ret
        exact ⟨rfl, TC.out.trans ((hv3.trans (hva.mono hv3.size)).mono TC.out.size)⟩
      obtain ⟨b', off', hA', _, e0, e1, e2, e3, e4⟩ := (HRD.out.step hv3).at (i := k) (by rw [HLN.out]; omega)
      simp only [Option.some.injEq, Addr.mk.injEq] at hA'
      obtain ⟨rfl, rfl, _⟩ := hA'
      rw [HX.out] at e0 e1 e2 e3 e4
      clear hkl
      go_wp2_with fail
      refine (route_any x _).mono ?_
      rintro e X3 ⟨rfl, hv4⟩
      replace hv4 := hv3.trans (hv4.mono hv3.size)
      have HB1 := Lib.hid (hb.out.trans (hv4.mono hb.out.size))
      have O1 := Lib.hid (ho.out.below hv4)
      clear hv3 hv4 e0 e1 e2 e3 e4 hb ho HRD
      obtain ⟨mm, hmm⟩ : ∃ v, X3.heap.size = v := ⟨_, rfl⟩
      have hsz := HB1.out.size
      obtain ⟨g', c2', W3, r1, r2, r3, r4⟩ := rr_app O1.out HLK.out (by omega) x mm hmm
      have HO : Hid (Ob 44 5 (V2.heap.size ≤ ·) W3 (some ⟨g', 0, none⟩) c2' (tflat (l.take (k + 1)))) := Lib.hid (by rw [HST.out]; exact Ob.next r2 r4 (by omega))
      have HB3 : Hid (Below V2.heap.size V2 W3) := Lib.hid (HB1.out.trans (r3.below (fun _ h => h) (by omega)))
      have HI : Hid (∀ i, i < k + 1 → okt (gt l i) = true) := Lib.hid (fun i h => by
        rcases Nat.lt_or_ge i k with q | q
        · exact hi.out i q
        · obtain rfl : i = k := by omega
          rw [HX.out]; exact HOK.out)
      clear r2 r3 r4 O1 HB1 HST
      go_wp2_with (at_builtin; refine wpList_runb _ rfl (.tmp 41) (.tmp 47) 61 rfl rfl rfl r1 ?_)
      go_wp2
      go_roundg gf
      case measure => omega
      case rel => exact ⟨k + 1, _, c2', by go_num, by go_num, Lib.hid (by omega), HO, HI, HB3⟩
    | zero =>
      have e1 : k = ll := by omega
      have lt0 : decide ((k : Int) < (ll : Int)) = false := by simp; omega
      have lt1 : decide (k < ll) = false := by simp; omega
      have hin : Tt wr A' l := by
        have := ho.out.rd
        rw [e1, ← HLN.out, List.take_length] at this
        exact this
      have hokt : ∀ t ∈ l, okt t = true ∧ t.A < 4294967296 := fun t ht => ⟨by
        obtain ⟨i, hil, rfl⟩ := List.getElem_of_mem ht
        rw [← gt_eq hil]
        exact hi.out i (by rw [HLN.out] at hil; omega), hB t ht⟩
      have IN := Lib.hid hin
      have cF := fun V hV => cF V hV (mayc_oks HMA.out) hokt
      have rF := fun V A' c' A2 c2 h h2 => rF V A' c' A2 c2 h h2 (mayc_oks HMA.out) hokt
      have hfl := flt_len (cps m) l
      obtain ⟨F, hF⟩ : ∃ v, flt (cps m) l = v := ⟨_, rfl⟩
      rw [hF] at cF rF hfl
      rw [HLN.out] at hfl
      obtain ⟨lf, hlf⟩ : ∃ v, F.length = v := ⟨_, rfl⟩
      rw [hlf] at cF rF hfl
      have HLF := Lib.hid hlf
      replace TB := Lib.hid (TB.out.trans (hb.out.mono TB.out.size))
      have hkl : ll = k := e1.symm
      clear e1 ho hin hokt hi hb hF hlf HMA cMm HMm hB
      subst hkl
      go_wp2_with fail
      refine (cF _ TB.out).mono ?_
      rintro e U1 ⟨A3, c3, rfl, s3, hv⟩
      replace IN := Lib.hid (IN.out.step hv)
      replace TB := Lib.hid (TB.out.trans (hv.mono TB.out.size))
      clear hv
      go_wp2_with fail
      refine (cRm _ TB.out).mono ?_
      rintro e U2 ⟨A4, c4, rfl, s4, hv⟩
      replace IN := Lib.hid (IN.out.step hv)
      replace TB := Lib.hid (TB.out.trans (hv.mono TB.out.size))
      replace s3 := s3.step hv
      clear hv
      go_wp2_with fail
      refine (rF _ _ _ _ _ s4 IN.out).mono ?_
      rintro e U3 ⟨A5, c5, rfl, s5, hv⟩
      replace IN := Lib.hid (IN.out.step hv)
      replace TB := Lib.hid (TB.out.trans (hv.mono TB.out.size))
      replace s3 := s3.step hv
      clear hv
      clear s4 cF rF cRm
      have S3 := Lib.hid s3
      have S5 := Lib.hid s5
      clear s3 s5
      go_wp2_with fail
      go_loopg [9] lf (fun gf v wx => ∃ (k : Nat), v = .int .i64 (k : Int) ∧ Hid (gf + k = lf) ∧ Hid (Below U3.heap.size U3 wx))
      case atStart => exact ⟨0, rfl, Lib.hid (by omega), Lib.hid (Below.refl _ _)⟩
      case round =>
        obtain ⟨k, rfl, hk, hb⟩ := hrel
        have hk' := hk.out
        cases gk with
        | succ gf =>
          have hkl : k < F.length := by rw [HLF.out]; omega
          have lt0 : (k : Int) < (lf : Int) := by omega
          have hw1 : (k : Int) + 1 ≤ 10000 := by omega
          obtain ⟨b, off, hA, _, e0, e1, e2, e3, e4⟩ := (S3.out.step hb.out).at hkl
          obtain ⟨b', off', hA', _, f0, f1, f2, f3, f4⟩ := (S5.out.step hb.out).at hkl
          obtain ⟨⟨xA, xN, xk, xc, xt⟩, hx⟩ : ∃ x, gt F k = x := ⟨_, rfl⟩
          rw [hx] at e0 e1 e2 e3 e4 f0 f1 f2 f3 f4
          simp only at e0 e1 e2 e3 e4 f0 f1 f2 f3 f4
          have cr := fun V => route_any ⟨xA, xN, xk, xc, xt⟩ V
          subst hA hA'
          clear hx hkl
          go_wp2_with fail
          refine wp_region_quiet_below (by kernel_rfl) (by kernel_rfl) ?_
          have gg0 := cell_regrown e0
          have gg1 := cell_regrown e1
          have gg2 := cell_regrown e2
          have gg3 := cell_regrown e3
          have gg4 := cell_regrown e4
          have gg5 := cell_regrown f0
          have gg6 := cell_regrown f1
          have gg7 := cell_regrown f2
          have gg8 := cell_regrown f3
          have gg9 := cell_regrown f4
          have zz0 : ∀ d os, _ := fun d os => Calls.regrown_of (w := wr) (d := d) (os := os) (cr _)
          repeat (first | go_big_quiet_step (with_reducible exact zz0 _ _) | go_big_quiet_step (fail) | go_big_quiet_skip)
          refine wpQuiet_nil ?_
          intro W9 hw'
          obtain ⟨⟨dq, osq⟩, hw''⟩ := hw'
          have hbz := below_regrown wr dq osq
          rw [← hw''] at hbz
          clear hw'' gg0 gg1 gg2 gg3 gg4 gg5 gg6 gg7 gg8 gg9 zz0
          have HB9 := Lib.hid (hb.out.trans (hbz.mono hb.out.size))
          clear hbz hb cr e0 e1 e2 e3 e4 f0 f1 f2 f3 f4
          go_wp2
          go_roundg gf
          case measure => omega
          case rel => exact ⟨k + 1, by go_num, Lib.hid (by omega), HB9⟩
        | zero =>
          have e1 : k = lf := by omega
          have lt0 : decide ((k : Int) < (lf : Int)) = false := by simp; omega
          have lt1 : decide (k < lf) = false := by simp; omega
          clear e1
          replace TB := Lib.hid (TB.out.trans (hb.out.mono TB.out.size))
          replace IN := Lib.hid (IN.out.step hb.out)
          have LL : Hid (Tt wr A1 l) := Lib.hid (HL.out.step TB.out)
          clear hb S3 S5
          go_wp2_with fail
          clear lt0 lt1 hk hk'
          go_loopg [10] ll (fun gf v wx => ∃ (k : Nat), v = .int .i64 (k : Int) ∧ Hid (gf + k = ll) ∧ Hid (Below wr.heap.size wr wx))
          case atStart => exact ⟨0, rfl, Lib.hid (by omega), Lib.hid (Below.refl _ _)⟩
          case round =>
            obtain ⟨k, rfl, hk, hb⟩ := hrel
            have hk' := hk.out
            cases gk with
            | succ gf =>
              have hkl : k < l.length := by rw [HLN.out]; omega
              have lt0 : (k : Int) < (ll : Int) := by omega
              have hw1 : (k : Int) + 1 ≤ 10000 := by omega
              obtain ⟨b, off, hA, _, e0, e1, e2, e3, e4⟩ := (LL.out.step hb.out).at hkl
              obtain ⟨b', off', hA', _, f0, f1, f2, f3, f4⟩ := (IN.out.step hb.out).at hkl
              obtain ⟨⟨xA, xN, xk, xc, xt⟩, hx⟩ : ∃ x, gt l k = x := ⟨_, rfl⟩
              rw [hx] at e0 e1 e2 e3 e4 f0 f1 f2 f3 f4
              simp only at e0 e1 e2 e3 e4 f0 f1 f2 f3 f4
              have cr := fun V => route_any ⟨xA, xN, xk, xc, xt⟩ V
              subst hA hA'
              clear hx hkl
              go_wp2_with fail
              refine wp_region_quiet_below (by kernel_rfl) (by kernel_rfl) ?_
              have gg0 := cell_regrown e0
              have gg1 := cell_regrown e1
              have gg2 := cell_regrown e2
              have gg3 := cell_regrown e3
              have gg4 := cell_regrown e4
              have gg5 := cell_regrown f0
              have gg6 := cell_regrown f1
              have gg7 := cell_regrown f2
              have gg8 := cell_regrown f3
              have gg9 := cell_regrown f4
              have zz0 : ∀ d os, _ := fun d os => Calls.regrown_of (w := wr) (d := d) (os := os) (cr _)
              repeat (first | go_big_quiet_step (with_reducible exact zz0 _ _) | go_big_quiet_step (fail) | go_big_quiet_skip)
              refine wpQuiet_nil ?_
              intro W9 hw'
              obtain ⟨⟨dq, osq⟩, hw''⟩ := hw'
              have hbz := below_regrown wr dq osq
              rw [← hw''] at hbz
              clear hw'' gg0 gg1 gg2 gg3 gg4 gg5 gg6 gg7 gg8 gg9 zz0
              have HB9 := Lib.hid (hb.out.trans (hbz.mono hb.out.size))
              clear hbz hb cr e0 e1 e2 e3 e4 f0 f1 f2 f3 f4
              go_wp2
              go_roundg gf
              case measure => omega
              case rel => exact ⟨k + 1, by go_num, Lib.hid (by omega), HB9⟩
            | zero =>
              have e1 : k = ll := by omega
              have lt0 : decide ((k : Int) < (ll : Int)) = false := by simp; omega
              have lt1 : decide (k < ll) = false := by simp; omega
              clear e1
              replace TB := Lib.hid (TB.out.trans (hb.out.mono TB.out.size))
              go_wp2_with fail
              refine (alive_any _).mono ?_
              rintro e Va ⟨rfl, hva⟩
              go_wp2
              go_ret
              exact ⟨rfl, HB0.out.trans ((TB.out.trans (hva.mono TB.out.size)).mono HB0.out.size)⟩
end Go.Proofs.Ytmcjpibahnlmbaa
