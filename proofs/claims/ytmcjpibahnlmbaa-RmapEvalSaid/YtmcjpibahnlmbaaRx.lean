/-
  Contracts of the reference's Eval, MayAll of lists. No statement is proved here; no conditions.
-/
import Derived.Test.YtmcjpibahnlmbaaRw
namespace Go.Proofs.Ytmcjpibahnlmbaa
open Go.RowKit Go.Joins

set_option maxRecDepth 100000 in
theorem qeval_any (A0 : Option Addr) (c : Nat) (l : List Ru) (B : Nat) (M : Int) (w : World) (hl : Rr w A0 l) (hll : l.length ≤ 10000) (hA : ∀ x ∈ l, x.A < 4294967296) (hB : B < 4294967296) :
    Calls Try.prog 37 #[.slice A0 l.length c, pf B M] w fun e w' => e = .returned (.tuple #[.bool (evl l B M).1, .int .i64 (evl l B M).2]) ∧ Below w.heap.size w w' := by
  obtain ⟨W0, hW0⟩ : ∃ W0, w.alloc (.cells #[.int .u32 (B : Int), .int .i64 M] 25) = W0 := ⟨_, rfl⟩
  have b0 : Below w.heap.size w W0 := by rw [← hW0]; exact below_alloc1 _ _
  have he := evl_fsi l B M
  obtain ⟨E, hE⟩ : ∃ E, evl l B M = E := ⟨_, rfl⟩
  obtain ⟨ln, hln⟩ : ∃ ln, l.length = ln := ⟨_, rfl⟩
  rw [hE] at he
  rw [hE]
  rw [hln] at he hll ⊢
  have HE := Lib.hid he
  have HL := Lib.hid (hl.step b0)
  have HLN := Lib.hid hln
  have HA := Lib.hid hA
  have HB0 := Lib.hid b0
  have KQ : Hid (∀ V, Below W0.heap.size W0 V → V.cell? ⟨w.heap.size, 0, none⟩ = some (.int .u32 (B : Int)) ∧ V.cell? ⟨w.heap.size, 1, none⟩ = some (.int .i64 M)) := Lib.hid (fun V hV => pb_new hW0 hV)
  clear he hE hl hln b0 hA
  go_enter Try.func37, Try.ntmps37
  go_wp2_with fail
  clear hW0
  go_loopg [6] ln (fun gf v wx => ∃ (k : Nat), v = .int .i64 (k : Int) ∧ Hid (gf + k = ln) ∧ Hid (∀ i, i < k → mns (gr l i) B M = false) ∧ Hid (Below W0.heap.size W0 wx))
  case atStart => exact ⟨0, rfl, Lib.hid (by omega), Lib.hid (fun i hi => by omega), Lib.hid (Below.refl _ _)⟩
  case round =>
    obtain ⟨k, rfl, hk, hn, hb⟩ := hrel
    have hk' := hk.out
    cases gk with
    | zero =>
      have e1 : k = ln := by omega
      have lt0 : decide ((k : Int) < (ln : Int)) = false := by simp; omega
      have lt1 : decide (k < ln) = false := by simp; omega
      have E2 : Hid (E = (false, 0)) := Lib.hid (by
        have h1 := fsi_end (pr := fun x => mns x B M) (l := l) (fun i hi => hn.out i (by have := HLN.out; omega))
        rw [HE.out, h1, HLN.out, if_neg (by omega)])
      go_wp2
      go_ret2
      exact ⟨by rw [E2.out]; rfl, HB0.out.trans (hb.out.mono HB0.out.size)⟩
    | succ gf =>
      have hkl : k < l.length := by rw [HLN.out]; omega
      have lt0 : (k : Int) < (ln : Int) := by omega
      have hw1 : (k : Int) + 1 ≤ 10000 := by omega
      have hrd := HL.out.step hb.out
      obtain ⟨b, off, hA, _, e0, e1, e2, e3, e4, e5⟩ := hrd.at hkl
      obtain ⟨q0, q1⟩ := KQ.out _ hb.out
      have hmem : gr l k ∈ l := by rw [gr_eq hkl]; exact List.getElem_mem _
      obtain ⟨x, hx⟩ : ∃ x, gr l k = x := ⟨_, rfl⟩
      rw [hx] at e0 e1 e2 e3 e4 e5 hmem
      have cm := fun W => qmeans_any x B M W (HA.out x hmem) hB
      subst hA
      have HX := Lib.hid hx
      have HRD := Lib.hid hrd
      clear hx hmem hrd
      cases hpr : mns x B M with
      | true =>
        rw [hpr] at cm
        have E2 : Hid (E = (x.p, x.s)) := Lib.hid (by
          have h1 := fsi_at (pr := fun x => mns x B M) (l := l) hkl hn.out (by rw [HX.out]; exact hpr)
          rw [HE.out, h1, if_pos (by rw [← HLN.out]; exact hkl), HX.out])
        clear hkl
        go_wp2_with fail
        refine wp_region_quiet_below (by kernel_rfl) (by kernel_rfl) ?_
        have gg0 := cell_regrown e0
        have gg1 := cell_regrown e1
        have gg2 := cell_regrown e2
        have gg3 := cell_regrown e3
        have gg4 := cell_regrown e4
        have gg5 := cell_regrown e5
        have gg6 := cell_regrown q0
        have gg7 := cell_regrown q1
        have zz0 : ∀ d os, _ := fun d os => Calls.regrown_of (w := wr) (d := d) (os := os) (cm _)
        repeat (first | go_big_quiet_step (with_reducible exact zz0 _ _) | go_big_quiet_step (fail) | go_big_quiet_skip)
        refine wpQuiet_nil ?_
        intro W9 hw'
        obtain ⟨⟨dq, osq⟩, hw''⟩ := hw'
        have hbz := below_regrown wr dq osq
        rw [← hw''] at hbz
        clear hw'' gg0 gg1 gg2 gg3 gg4 gg5 gg6 gg7 zz0
        have HB9 := Lib.hid (hb.out.trans (hbz.mono hb.out.size))
        obtain ⟨b', off', hA', _, e0', e1', _⟩ := (HRD.out.step hbz).at (i := k) (by rw [HLN.out]; omega)
        simp only [Option.some.injEq, Addr.mk.injEq] at hA'
        obtain ⟨rfl, rfl, _⟩ := hA'
        rw [HX.out] at e0' e1'
        clear hbz hb e0 e1 e2 e3 e4 e5 q0 q1 cm
        go_wp2_with fail
        go_quiet (fail)
        go_wp2
        go_ret2
        exact ⟨by rw [E2.out]; rfl, HB0.out.trans ((HB9.out.trans (below_draws _ _ _)).mono HB0.out.size)⟩
      | false =>
        rw [hpr] at cm
        have HN : Hid (∀ i, i < k + 1 → mns (gr l i) B M = false) := Lib.hid (fun i hi => by
          rcases Nat.lt_or_ge i k with q | q
          · exact hn.out i q
          · rw [show i = k by omega, HX.out]; exact hpr)
        clear hkl
        go_wp2_with fail
        refine wp_region_quiet_below (by kernel_rfl) (by kernel_rfl) ?_
        have gg0 := cell_regrown e0
        have gg1 := cell_regrown e1
        have gg2 := cell_regrown e2
        have gg3 := cell_regrown e3
        have gg4 := cell_regrown e4
        have gg5 := cell_regrown e5
        have gg6 := cell_regrown q0
        have gg7 := cell_regrown q1
        have zz0 : ∀ d os, _ := fun d os => Calls.regrown_of (w := wr) (d := d) (os := os) (cm _)
        repeat (first | go_big_quiet_step (with_reducible exact zz0 _ _) | go_big_quiet_step (fail) | go_big_quiet_skip)
        refine wpQuiet_nil ?_
        intro W9 hw'
        obtain ⟨⟨dq, osq⟩, hw''⟩ := hw'
        have hbz := below_regrown wr dq osq
        rw [← hw''] at hbz
        clear hw'' gg0 gg1 gg2 gg3 gg4 gg5 gg6 gg7 zz0
        have HB9 := Lib.hid (hb.out.trans (hbz.mono hb.out.size))
        clear hbz hb e0 e1 e2 e3 e4 e5 q0 q1 cm
        go_wp2
        go_roundg gf
        case measure => omega
        case rel => exact ⟨k + 1, by go_num, Lib.hid (by omega), HN, HB9⟩
/-- The number of the one ahead. -/
def pvs (l : List Ru) (k : Nat) : Option Int := if k = 0 then none else some (gr l (k - 1)).s
theorem mayl_step {l : List Ru} {k : Nat} (hk : k < l.length) : mayl (pvs l k) (l.drop k) = (okr (gr l k) && (match pvs l k with | none => true | some s => decide (s < (gr l k).s)) && mayl (pvs l (k + 1)) (l.drop (k + 1))) := by
  rw [List.drop_eq_getElem_cons hk, gr_eq hk]
  show _ = (_ && _ && mayl (some (gr l (k + 1 - 1)).s) _)
  rw [Nat.add_sub_cancel, gr_eq hk]
  rfl
set_option maxRecDepth 100000 in
set_option maxHeartbeats 1000000 in
theorem mayall_any (A0 : Option Addr) (c : Nat) (l : List Ru) (w : World) (hl : Rr w A0 l) (hll : l.length ≤ 10000) (hA : ∀ x ∈ l, x.A < 4294967296) :
    Calls Try.prog 33 #[.slice A0 l.length c] w fun e w' => e = .returned (.bool (mayl none l)) ∧ Below w.heap.size w w' := by
  obtain ⟨E, hE⟩ : ∃ E, mayl none l = E := ⟨_, rfl⟩
  obtain ⟨ln, hln⟩ : ∃ ln, l.length = ln := ⟨_, rfl⟩
  rw [hE]
  rw [hln] at hll ⊢
  have HE := Lib.hid hE
  have HL := Lib.hid hl
  have HLN := Lib.hid hln
  have HA := Lib.hid hA
  clear hE hl hln hA
  go_enter Try.func33, Try.ntmps33
  go_wp2_with fail
  go_loopg [3] ln (fun gf v wx => ∃ (k : Nat), v = .int .i64 (k : Int) ∧ Hid (gf + k = ln) ∧ Hid (E = mayl (pvs l k) (l.drop k)) ∧ Hid (Below w.heap.size w wx))
  case atStart => exact ⟨0, rfl, Lib.hid (by omega), Lib.hid HE.out.symm, Lib.hid (Below.refl _ _)⟩
  case round =>
    obtain ⟨k, rfl, hk, hn, hb⟩ := hrel
    have hk' := hk.out
    cases gk with
    | zero =>
      have e1 : k = ln := by omega
      have lt0 : decide ((k : Int) < (ln : Int)) = false := by simp; omega
      have lt1 : decide (k < ln) = false := by simp; omega
      have E2 : Hid (E = true) := Lib.hid (by rw [hn.out, e1, ← HLN.out, List.drop_length]; rfl)
      go_wp2
      go_ret
      exact ⟨by rw [E2.out]; rfl, hb.out⟩
    | succ gf =>
      have hkl : k < l.length := by rw [HLN.out]; omega
      have lt0 : (k : Int) < (ln : Int) := by omega
      have hw1 : (k : Int) + 1 ≤ 10000 := by omega
      have hrd := HL.out.step hb.out
      obtain ⟨b, off, hA, _, e0, e1, e2, e3, e4, e5⟩ := hrd.at hkl
      have hmem : gr l k ∈ l := by rw [gr_eq hkl]; exact List.getElem_mem _
      have hst := mayl_step hkl
      obtain ⟨x, hx⟩ : ∃ x, gr l k = x := ⟨_, rfl⟩
      rw [hx] at e0 e1 e2 e3 e4 e5 hmem hst
      have cm := fun W => qmay_any x W (HA.out x hmem)
      subst hA
      clear hmem
      cases hok : okr x with
      | false =>
        rw [hok] at cm
        have HR : Hid (E = false) := Lib.hid (by rw [hn.out, hst, hok]; rfl)
        clear hst hx hkl hrd hok
        go_wp2_with fail
        refine wp_region_quiet_below (by kernel_rfl) (by kernel_rfl) ?_
        have gg0 := cell_regrown e0
        have gg1 := cell_regrown e1
        have gg2 := cell_regrown e2
        have gg3 := cell_regrown e3
        have gg4 := cell_regrown e4
        have gg5 := cell_regrown e5
        have zz0 : ∀ d os, _ := fun d os => Calls.regrown_of (w := wr) (d := d) (os := os) (cm _)
        repeat (first | go_big_quiet_step (with_reducible exact zz0 _ _) | go_big_quiet_step (fail) | go_big_quiet_skip)
        refine wpQuiet_nil ?_
        intro W9 hw'
        obtain ⟨⟨dq, osq⟩, hw''⟩ := hw'
        have hbz := below_regrown wr dq osq
        rw [← hw''] at hbz
        clear hw'' gg0 gg1 gg2 gg3 gg4 gg5 zz0
        have HB9 := Lib.hid (hb.out.trans (hbz.mono hb.out.size))
        clear hbz hb cm e0 e1 e2 e3 e4 e5
        go_wp2
        go_ret
        exact ⟨ret_bool (by rw [HR.out]), HB9.out⟩
      | true =>
        rw [hok] at cm
        rcases Nat.eq_zero_or_pos k with hk0 | hk0
        · have HR : Hid (E = mayl (pvs l (k + 1)) (l.drop (k + 1))) := Lib.hid (by rw [hn.out, hst, hok, pvs, if_pos hk0]; rfl)
          subst hk0
          simp only [Nat.zero_mul, Nat.add_zero] at e0 e1 e2 e3 e4 e5
          clear hst hx hkl hrd hok
          go_wp2_with fail
          refine wp_region_quiet_below (by kernel_rfl) (by kernel_rfl) ?_
          have gg0 := cell_regrown e0
          have gg1 := cell_regrown e1
          have gg2 := cell_regrown e2
          have gg3 := cell_regrown e3
          have gg4 := cell_regrown e4
          have gg5 := cell_regrown e5
          have zz0 : ∀ d os, _ := fun d os => Calls.regrown_of (w := wr) (d := d) (os := os) (cm _)
          repeat (first | go_big_quiet_step (with_reducible exact zz0 _ _) | go_big_quiet_step (fail) | go_big_quiet_skip)
          refine wpQuiet_nil ?_
          intro W9 hw'
          obtain ⟨⟨dq, osq⟩, hw''⟩ := hw'
          have hbz := below_regrown wr dq osq
          rw [← hw''] at hbz
          clear hw'' gg0 gg1 gg2 gg3 gg4 gg5 zz0
          have HB9 := Lib.hid (hb.out.trans (hbz.mono hb.out.size))
          clear hbz hb cm e0 e1 e2 e3 e4 e5
          go_wp2
          go_roundg gf
          case measure => omega
          case rel => exact ⟨0 + 1, by go_num, Lib.hid (by omega), HR, HB9⟩
        · have k0 : (k : Int) > 0 := by omega
          have k1 : 0 < k := hk0
          obtain ⟨b', off', hA', _, f0, _⟩ := hrd.at (i := k - 1) (by rw [HLN.out]; omega)
          simp only [Option.some.injEq, Addr.mk.injEq] at hA'
          obtain ⟨rfl, rfl, _⟩ := hA'
          obtain ⟨ps, hps⟩ : ∃ ps, (gr l (k - 1)).s = ps := ⟨_, rfl⟩
          rw [hps] at f0
          have hp : pvs l k = some ps := by rw [pvs, if_neg (by omega), hps]
          rw [hp] at hst
          by_cases hq : x.s ≤ ps
          · have HR : Hid (E = false) := Lib.hid (by rw [hn.out, hp, hst]; simp; omega)
            clear hst hx hkl hrd hok hps hp
            go_wp2_with fail
            refine wp_region_quiet_below (by kernel_rfl) (by kernel_rfl) ?_
            have gg0 := cell_regrown e0
            have gg1 := cell_regrown e1
            have gg2 := cell_regrown e2
            have gg3 := cell_regrown e3
            have gg4 := cell_regrown e4
            have gg5 := cell_regrown e5
            have gg6 := cell_regrown f0
            have zz0 : ∀ d os, _ := fun d os => Calls.regrown_of (w := wr) (d := d) (os := os) (cm _)
            repeat (first | go_big_quiet_step (with_reducible exact zz0 _ _) | go_big_quiet_step (fail) | go_big_quiet_skip)
            refine wpQuiet_nil ?_
            intro W9 hw'
            obtain ⟨⟨dq, osq⟩, hw''⟩ := hw'
            have hbz := below_regrown wr dq osq
            rw [← hw''] at hbz
            clear hw'' gg0 gg1 gg2 gg3 gg4 gg5 gg6 zz0
            have HB9 := Lib.hid (hb.out.trans (hbz.mono hb.out.size))
            clear hbz hb cm e0 e1 e2 e3 e4 e5 f0
            go_wp2
            go_ret
            exact ⟨ret_bool (by rw [HR.out]), HB9.out⟩
          · have HR : Hid (E = mayl (pvs l (k + 1)) (l.drop (k + 1))) := Lib.hid (by rw [hn.out, hp, hst, hok]; simp; omega)
            clear hst hx hkl hrd hok hps hp
            go_wp2_with fail
            refine wp_region_quiet_below (by kernel_rfl) (by kernel_rfl) ?_
            have gg0 := cell_regrown e0
            have gg1 := cell_regrown e1
            have gg2 := cell_regrown e2
            have gg3 := cell_regrown e3
            have gg4 := cell_regrown e4
            have gg5 := cell_regrown e5
            have gg6 := cell_regrown f0
            have zz0 : ∀ d os, _ := fun d os => Calls.regrown_of (w := wr) (d := d) (os := os) (cm _)
            repeat (first | go_big_quiet_step (with_reducible exact zz0 _ _) | go_big_quiet_step (fail) | go_big_quiet_skip)
            refine wpQuiet_nil ?_
            intro W9 hw'
            obtain ⟨⟨dq, osq⟩, hw''⟩ := hw'
            have hbz := below_regrown wr dq osq
            rw [← hw''] at hbz
            clear hw'' gg0 gg1 gg2 gg3 gg4 gg5 gg6 zz0
            have HB9 := Lib.hid (hb.out.trans (hbz.mono hb.out.size))
            clear hbz hb cm e0 e1 e2 e3 e4 e5 f0
            go_wp2
            go_roundg gf
            case measure => omega
            case rel => exact ⟨k + 1, by go_num, Lib.hid (by omega), HR, HB9⟩
end Go.Proofs.Ytmcjpibahnlmbaa
