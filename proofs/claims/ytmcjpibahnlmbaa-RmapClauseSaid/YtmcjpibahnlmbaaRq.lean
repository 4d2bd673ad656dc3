/-
  The contract of the reference's MayAll at maps. No statement is proved here; no conditions.
-/
import Derived.Test.YtmcjpibahnlmbaaRf
namespace Go.Proofs.Ytmcjpibahnlmbaa
open Go.RowKit Go.Joins

def pvc (l : List Cl) (k : Nat) : Option Int := if k = 0 then none else some (gc l (k - 1)).c.s
theorem mayc_step {l : List Cl} {k : Nat} (hk : k < l.length) : mayc (pvc l k) ((cps l).drop k) = (okc (gc l k).c && (match pvc l k with | none => true | some s => decide (s < (gc l k).c.s)) && mayc (pvc l (k + 1)) ((cps l).drop (k + 1))) := by
  rw [List.drop_eq_getElem_cons (by rw [cps_len]; exact hk), gc_eq hk]
  show _ = (_ && _ && mayc (some (gc l (k + 1 - 1)).c.s) _)
  rw [Nat.add_sub_cancel, gc_eq hk]
  simp only [cps, List.getElem_map]
  rfl
set_option maxRecDepth 100000 in
set_option maxHeartbeats 2000000 in
theorem rmayAll8_any (A0 : Option Addr) (c : Nat) (l : List Cl) (w : World) (hl : Cr w A0 l) (hll : l.length ≤ 10000) :
    Calls Try.prog 10 #[.slice A0 l.length c] w fun e w' => e = .returned (.bool (mayc none (cps l))) ∧ Below w.heap.size w w' := by
  obtain ⟨E, hE⟩ : ∃ E, mayc none (cps l) = E := ⟨_, rfl⟩
  obtain ⟨ln, hln⟩ : ∃ ln, l.length = ln := ⟨_, rfl⟩
  rw [hE]
  rw [hln] at hll ⊢
  have HE := Lib.hid hE
  have HL := Lib.hid hl
  have HLN := Lib.hid hln
  clear hE hl hln
  go_enter Try.func10, Try.ntmps10
  go_wp2_with fail
  go_loopg [3] ln (fun gf v wx => ∃ (k : Nat), v = .int .i64 (k : Int) ∧ Hid (gf + k = ln) ∧ Hid (E = mayc (pvc l k) ((cps l).drop k)) ∧ Hid (Below w.heap.size w wx))
  case atStart => exact ⟨0, rfl, Lib.hid (by omega), Lib.hid HE.out.symm, Lib.hid (Below.refl _ _)⟩
  case round =>
    obtain ⟨k, rfl, hk, hn, hb⟩ := hrel
    have hk' := hk.out
    cases gk with
    | zero =>
      have e1 : k = ln := by omega
      have lt0 : decide ((k : Int) < (ln : Int)) = false := by simp; omega
      have lt1 : decide (k < ln) = false := by simp; omega
      have E2 : Hid (E = true) := Lib.hid (by rw [hn.out, e1, ← HLN.out, ← cps_len, List.drop_length]; rfl)
      go_wp2
      go_ret
      exact ⟨by rw [E2.out]; rfl, hb.out⟩
    | succ gf =>
      have hkl : k < l.length := by rw [HLN.out]; omega
      have lt0 : (k : Int) < (ln : Int) := by omega
      have hw1 : (k : Int) + 1 ≤ 10000 := by omega
      have hrd := HL.out.step hb.out
      obtain ⟨b, off, hA, _, hcx, e0, e1, e2, e3, e4, e5, e6, e7, e8, e9, e10, e11⟩ := hrd.at hkl
      have hst := mayc_step hkl
      obtain ⟨x, hx⟩ : ∃ x, gc l k = x := ⟨_, rfl⟩
      rw [hx] at e0 e1 e2 e3 e4 e5 e6 e7 e8 e9 e10 e11 hst hcx
      have cm := fun W (hW : Below wr.heap.size wr W) => rmay8_any x W (hcx.step hW)
      subst hA
      clear hcx
      cases hok : okc x.c with
      | false =>
        rw [hok] at cm
        have HR : Hid (E = false) := Lib.hid (by rw [hn.out, hst, hok]; rfl)
        clear hst hx hkl hrd hok
        go_wp2_with fail
        refine wp_region_quiet_below (by kernel_rfl) (by kernel_rfl) ?_
        have gg0 := cell_regrown e0
        have gg1 := cell_regrown e1
        have gg2 := cell_regrown e2
        have gg3 := cell_regrown e3
        have gg4 := cell_regrown e4
        have gg5 := cell_regrown e5
        have gg6 := cell_regrown e6
        have gg7 := cell_regrown e7
        have gg8 := cell_regrown e8
        have gg9 := cell_regrown e9
        have gg10 := cell_regrown e10
        have gg11 := cell_regrown e11
        have zz0 : ∀ d os, _ := fun d os => Calls.regrown_of (w := wr) (d := d) (os := os) (cm _ (below_regrown wr d os))
        repeat (first | go_big_quiet_step (with_reducible exact zz0 _ _) | go_big_quiet_step (fail) | go_big_quiet_skip)
        refine wpQuiet_nil ?_
        intro W9 hw'
        obtain ⟨⟨dq, osq⟩, hw''⟩ := hw'
        have hbz := below_regrown wr dq osq
        rw [← hw''] at hbz
        clear hw'' gg0 gg1 gg2 gg3 gg4 gg5 gg6 gg7 gg8 gg9 gg10 gg11 zz0
        have HB9 := Lib.hid (hb.out.trans (hbz.mono hb.out.size))
        clear hbz hb cm e0 e1 e2 e3 e4 e5 e6 e7 e8 e9 e10 e11
        go_wp2
        go_ret
        exact ⟨ret_bool (by rw [HR.out]), HB9.out⟩
      | true =>
        rw [hok] at cm
        rcases Nat.eq_zero_or_pos k with hk0 | hk0
        · have HR : Hid (E = mayc (pvc l (k + 1)) ((cps l).drop (k + 1))) := Lib.hid (by rw [hn.out, hst, hok, pvc, if_pos hk0]; rfl)
          subst hk0
          simp only [Nat.zero_mul, Nat.add_zero] at e0 e1 e2 e3 e4 e5 e6 e7 e8 e9 e10 e11
          clear hst hx hkl hrd hok
          go_wp2_with fail
          refine wp_region_quiet_below (by kernel_rfl) (by kernel_rfl) ?_
          have gg0 := cell_regrown e0
          have gg1 := cell_regrown e1
          have gg2 := cell_regrown e2
          have gg3 := cell_regrown e3
          have gg4 := cell_regrown e4
          have gg5 := cell_regrown e5
          have gg6 := cell_regrown e6
          have gg7 := cell_regrown e7
          have gg8 := cell_regrown e8
          have gg9 := cell_regrown e9
          have gg10 := cell_regrown e10
          have gg11 := cell_regrown e11
          have zz0 : ∀ d os, _ := fun d os => Calls.regrown_of (w := wr) (d := d) (os := os) (cm _ (below_regrown wr d os))
          repeat (first | go_big_quiet_step (with_reducible exact zz0 _ _) | go_big_quiet_step (fail) | go_big_quiet_skip)
          refine wpQuiet_nil ?_
          intro W9 hw'
          obtain ⟨⟨dq, osq⟩, hw''⟩ := hw'
          have hbz := below_regrown wr dq osq
          rw [← hw''] at hbz
          clear hw'' gg0 gg1 gg2 gg3 gg4 gg5 gg6 gg7 gg8 gg9 gg10 gg11 zz0
          have HB9 := Lib.hid (hb.out.trans (hbz.mono hb.out.size))
          clear hbz hb cm e0 e1 e2 e3 e4 e5 e6 e7 e8 e9 e10 e11
          go_wp2
          go_roundg gf
          case measure => omega
          case rel => exact ⟨0 + 1, by go_num, Lib.hid (by omega), HR, HB9⟩
        · have k0 : (k : Int) > 0 := by omega
          have k1 : 0 < k := hk0
          obtain ⟨b', off', hA', _, _, f0, _⟩ := hrd.at (i := k - 1) (by rw [HLN.out]; omega)
          simp only [Option.some.injEq, Addr.mk.injEq] at hA'
          obtain ⟨rfl, rfl, _⟩ := hA'
          obtain ⟨ps, hps⟩ : ∃ ps, (gc l (k - 1)).c.s = ps := ⟨_, rfl⟩
          rw [hps] at f0
          have hp : pvc l k = some ps := by rw [pvc, if_neg (by omega), hps]
          rw [hp] at hst
          by_cases hq : x.c.s ≤ ps
          · have HR : Hid (E = false) := Lib.hid (by rw [hn.out, hp, hst]; simp; omega)
            clear hst hx hkl hrd hok hps hp
            go_wp2_with fail
            refine wp_region_quiet_below (by kernel_rfl) (by kernel_rfl) ?_
            have gg0 := cell_regrown e0
            have gg1 := cell_regrown e1
            have gg2 := cell_regrown e2
            have gg3 := cell_regrown e3
            have gg4 := cell_regrown e4
            have gg5 := cell_regrown e5
            have gg6 := cell_regrown e6
            have gg7 := cell_regrown e7
            have gg8 := cell_regrown e8
            have gg9 := cell_regrown e9
            have gg10 := cell_regrown e10
            have gg11 := cell_regrown e11
            have gg12 := cell_regrown f0
            have zz0 : ∀ d os, _ := fun d os => Calls.regrown_of (w := wr) (d := d) (os := os) (cm _ (below_regrown wr d os))
            repeat (first | go_big_quiet_step (with_reducible exact zz0 _ _) | go_big_quiet_step (fail) | go_big_quiet_skip)
            refine wpQuiet_nil ?_
            intro W9 hw'
            obtain ⟨⟨dq, osq⟩, hw''⟩ := hw'
            have hbz := below_regrown wr dq osq
            rw [← hw''] at hbz
            clear hw'' gg0 gg1 gg2 gg3 gg4 gg5 gg6 gg7 gg8 gg9 gg10 gg11 gg12 zz0
            have HB9 := Lib.hid (hb.out.trans (hbz.mono hb.out.size))
            clear hbz hb cm e0 e1 e2 e3 e4 e5 e6 e7 e8 e9 e10 e11 f0
            go_wp2
            go_ret
            exact ⟨ret_bool (by rw [HR.out]), HB9.out⟩
          · have HR : Hid (E = mayc (pvc l (k + 1)) ((cps l).drop (k + 1))) := Lib.hid (by rw [hn.out, hp, hst, hok]; simp; omega)
            clear hst hx hkl hrd hok hps hp
            go_wp2_with fail
            refine wp_region_quiet_below (by kernel_rfl) (by kernel_rfl) ?_
            have gg0 := cell_regrown e0
            have gg1 := cell_regrown e1
            have gg2 := cell_regrown e2
            have gg3 := cell_regrown e3
            have gg4 := cell_regrown e4
            have gg5 := cell_regrown e5
            have gg6 := cell_regrown e6
            have gg7 := cell_regrown e7
            have gg8 := cell_regrown e8
            have gg9 := cell_regrown e9
            have gg10 := cell_regrown e10
            have gg11 := cell_regrown e11
            have gg12 := cell_regrown f0
            have zz0 : ∀ d os, _ := fun d os => Calls.regrown_of (w := wr) (d := d) (os := os) (cm _ (below_regrown wr d os))
            repeat (first | go_big_quiet_step (with_reducible exact zz0 _ _) | go_big_quiet_step (fail) | go_big_quiet_skip)
            refine wpQuiet_nil ?_
            intro W9 hw'
            obtain ⟨⟨dq, osq⟩, hw''⟩ := hw'
            have hbz := below_regrown wr dq osq
            rw [← hw''] at hbz
            clear hw'' gg0 gg1 gg2 gg3 gg4 gg5 gg6 gg7 gg8 gg9 gg10 gg11 gg12 zz0
            have HB9 := Lib.hid (hb.out.trans (hbz.mono hb.out.size))
            clear hbz hb cm e0 e1 e2 e3 e4 e5 e6 e7 e8 e9 e10 e11 f0
            go_wp2
            go_roundg gf
            case measure => omega
            case rel => exact ⟨k + 1, by go_num, Lib.hid (by omega), HR, HB9⟩
end Go.Proofs.Ytmcjpibahnlmbaa
