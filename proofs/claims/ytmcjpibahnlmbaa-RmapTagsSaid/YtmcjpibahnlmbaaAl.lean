/-
  The contract of the program's ascending at rules. No statement is proved here; no conditions.
-/
import Derived.Test.YtmcjpibahnlmbaaAl0
namespace Go.Proofs.Ytmcjpibahnlmbaa
open Go.RowKit Go.Joins

set_option maxRecDepth 100000 in
set_option maxHeartbeats 2000000 in
theorem rasc_any (A0 : Option Addr) (c : Nat) (l : List Ru) (w : World) (hl : Rr w A0 l) (hll : l.length ≤ 10000) :
    Calls Try.prog 44 #[.slice A0 l.length c, .func (.func 45) #[] #[]] w fun e w' => e = .returned (.bool (asc (fun i => (gr l i).s) l.length)) ∧ Below w.heap.size w w' := by
  have HL := Lib.hid hl
  obtain ⟨ln, hln⟩ : ∃ ln, l.length = ln := ⟨_, rfl⟩
  obtain ⟨R, hR⟩ : ∃ R, asc (fun i => (gr l i).s) ln = R := ⟨_, rfl⟩
  rw [hln] at hll ⊢
  rw [hR]
  have HLN := Lib.hid hln
  have HR := Lib.hid hR
  clear hl hln hR
  go_enter Try.func44, Try.ntmps44
  go_wp2_with fail
  go_loopg [5] ln (fun gf v wx => ∃ (k : Nat), v = .int .i64 ((k : Int) + 1) ∧ Hid (gf + k = ln) ∧ Hid (∀ i, i < k → i + 1 < ln → (gr l i).s < (gr l (i + 1)).s) ∧ Hid (Below w.heap.size w wx))
  case atStart => exact ⟨0, rfl, Lib.hid (by omega), Lib.hid (fun i hi => by omega), Lib.hid (Below.refl _ _)⟩
  case round =>
    obtain ⟨k, rfl, hk, hn, hb⟩ := hrel
    have hk' := hk.out
    by_cases hlt : k + 1 < ln
    · have lt0 : (k : Int) + 1 < (ln : Int) := by omega
      have hw1 : (k : Int) + 1 + 1 ≤ 10001 := by omega
      have ge0 : 0 ≤ (k : Int) := by omega
      have sub1 : (k : Int) + 1 - 1 = (k : Int) := by omega
      obtain ⟨gf, rfl⟩ : ∃ gf, gk = gf + 1 := ⟨gk - 1, by omega⟩
      have hrd := HL.out.step hb.out
      obtain ⟨b, off, hA, _, e0, e1, e2, e3, e4, e5⟩ := hrd.at (i := k + 1) (by rw [HLN.out]; omega)
      obtain ⟨b', off', hA', _, f0, f1, f2, f3, f4, f5⟩ := hrd.at (i := k) (by rw [HLN.out]; omega)
      subst hA
      simp only [Option.some.injEq, Addr.mk.injEq] at hA'
      obtain ⟨rfl, rfl, _⟩ := hA'
      obtain ⟨x, hx⟩ : ∃ x, gr l (k + 1) = x := ⟨_, rfl⟩
      obtain ⟨y, hy⟩ : ∃ y, gr l k = y := ⟨_, rfl⟩
      rw [hx] at e0 e1 e2 e3 e4 e5
      rw [hy] at f0 f1 f2 f3 f4 f5
      have cx := fun W => rseq_any x W
      have cy := fun W => rseq_any y W
      have n1 : ((k : Int) + 1).toNat = k + 1 := by omega
      by_cases hq : x.s ≤ y.s
      · have E2 : Hid (R = false) := Lib.hid (by rw [← HR.out]; exact asc_stop hlt (by simp only [hx, hy]; omega))
        clear hx hy hrd
        go_wp2_with fail
        refine wp_region_quiet_below (by kernel_rfl) (by kernel_rfl) ?_
        have gg0 := cell_regrown e0
        have gg1 := cell_regrown e1
        have gg2 := cell_regrown e2
        have gg3 := cell_regrown e3
        have gg4 := cell_regrown e4
        have gg5 := cell_regrown e5
        have gg6 := cell_regrown f0
        have gg7 := cell_regrown f1
        have gg8 := cell_regrown f2
        have gg9 := cell_regrown f3
        have gg10 := cell_regrown f4
        have gg11 := cell_regrown f5
        have zz0 : ∀ d os, _ := fun d os => Calls.regrown_of (w := wr) (d := d) (os := os) (cx _)
        have zz1 : ∀ d os, _ := fun d os => Calls.regrown_of (w := wr) (d := d) (os := os) (cy _)
        repeat (first | go_big_quiet_step (with_reducible exact zz0 _ _) | go_big_quiet_step (with_reducible exact zz1 _ _) | go_big_quiet_step (fail) | go_big_quiet_skip)
        refine wpQuiet_nil ?_
        intro W9 hw'
        obtain ⟨⟨dq, osq⟩, hw''⟩ := hw'
        have hbz := below_regrown wr dq osq
        rw [← hw''] at hbz
        clear hw'' gg0 gg1 gg2 gg3 gg4 gg5 gg6 gg7 gg8 gg9 gg10 gg11 zz0 zz1
        have HB9 := Lib.hid (hb.out.trans (hbz.mono hb.out.size))
        clear hbz hb cx cy e0 e1 e2 e3 e4 e5 f0 f1 f2 f3 f4 f5
        go_wp2
        go_ret
        exact ⟨ret_bool (by rw [E2.out]), HB9.out⟩
      · have HN : Hid (∀ i, i < k + 1 → i + 1 < ln → (gr l i).s < (gr l (i + 1)).s) := Lib.hid (fun i h1 h2 => by
          rcases Nat.lt_or_ge i k with q | q
          · exact hn.out i q h2
          · obtain rfl : i = k := by omega
            rw [hx, hy]; omega)
        clear hx hy hrd
        go_wp2_with fail
        refine wp_region_quiet_below (by kernel_rfl) (by kernel_rfl) ?_
        have gg0 := cell_regrown e0
        have gg1 := cell_regrown e1
        have gg2 := cell_regrown e2
        have gg3 := cell_regrown e3
        have gg4 := cell_regrown e4
        have gg5 := cell_regrown e5
        have gg6 := cell_regrown f0
        have gg7 := cell_regrown f1
        have gg8 := cell_regrown f2
        have gg9 := cell_regrown f3
        have gg10 := cell_regrown f4
        have gg11 := cell_regrown f5
        have zz0 : ∀ d os, _ := fun d os => Calls.regrown_of (w := wr) (d := d) (os := os) (cx _)
        have zz1 : ∀ d os, _ := fun d os => Calls.regrown_of (w := wr) (d := d) (os := os) (cy _)
        repeat (first | go_big_quiet_step (with_reducible exact zz0 _ _) | go_big_quiet_step (with_reducible exact zz1 _ _) | go_big_quiet_step (fail) | go_big_quiet_skip)
        refine wpQuiet_nil ?_
        intro W9 hw'
        obtain ⟨⟨dq, osq⟩, hw''⟩ := hw'
        have hbz := below_regrown wr dq osq
        rw [← hw''] at hbz
        clear hw'' gg0 gg1 gg2 gg3 gg4 gg5 gg6 gg7 gg8 gg9 gg10 gg11 zz0 zz1
        have HB9 := Lib.hid (hb.out.trans (hbz.mono hb.out.size))
        clear hbz hb cx cy e0 e1 e2 e3 e4 e5 f0 f1 f2 f3 f4 f5
        go_wp2
        go_roundg gf
        case measure => omega
        case rel => exact ⟨k + 1, by go_num, Lib.hid (by omega), HN, HB9⟩
    · have lt0 : decide ((k : Int) + 1 < (ln : Int)) = false := by simp; omega
      have lt1 : ¬ ((k : Int) + 1 < (ln : Int)) := by omega
      have E2 : Hid (R = true) := Lib.hid (by rw [← HR.out, asc_iff]; exact fun i hi => hn.out i (by omega) hi)
      go_wp2
      go_ret
      exact ⟨ret_bool (by rw [E2.out]), hb.out⟩
end Go.Proofs.Ytmcjpibahnlmbaa
