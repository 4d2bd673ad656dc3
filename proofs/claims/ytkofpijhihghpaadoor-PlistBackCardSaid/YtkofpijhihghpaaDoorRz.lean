/-
  The contract of the reference's Idle. No statement is proved here; no conditions.
-/
import Derived.Test.YtkofpijhihghpaaDoorRx
namespace Go.Proofs.YtkofpijhihghpaaDoor
open Go.RowKit Go.Joins

theorem any_take {l : List Ru} {k : Nat} (h : k < l.length) (p : Ru → Bool) : (l.take (k + 1)).any p = ((l.take k).any p || p (gr l k)) := by rw [take_next h]; simp
set_option maxRecDepth 100000 in
set_option maxHeartbeats 2000000 in
theorem qidle_any (A0 : Option Addr) (c : Nat) (l : List Ru) (w : World) (hl : Rr w A0 l) (hll : l.length ≤ 10000) (hA : ∀ x ∈ l, x.A < 4294967296) :
    Calls Tryd.prog 29 #[.slice A0 l.length c] w fun e w' => ∃ A' c', e = .returned (.slice A' (idk l l.length).length c') ∧ Rd (fun _ => True) w' A' (its (idk l l.length)) ∧ Below w.heap.size w w' := by
  have HL := Lib.hid hl
  have HA := Lib.hid hA
  obtain ⟨ln, hln⟩ : ∃ ln, l.length = ln := ⟨_, rfl⟩
  rw [hln] at hll ⊢
  have HLN := Lib.hid hln
  obtain ⟨W0, hW0⟩ : ∃ W0, w.alloc (.cells #[] 3) = W0 := ⟨_, rfl⟩
  have O0 : Hid (Ob 3 1 (w.heap.size ≤ ·) W0 (some ⟨w.heap.size, 0, none⟩) 0 []) := Lib.hid (by rw [← hW0]; exact Ob.lit0 w 3 1)
  have B0 : Hid (Below w.heap.size w W0) := Lib.hid (by rw [← hW0]; exact below_alloc1 _ _)
  clear hl hA hln
  go_enter Tryd.func29, Tryd.ntmps29
  go_wp2_with fail
  clear hW0
  go_loopg [3, 4] ln (fun gf v3 v4 wx => ∃ (k n : Nat) (A' : Option Addr) (c' : Nat), v3 = .slice A' n c' ∧ v4 = .int .i64 (k : Int) ∧ Hid (gf + k = ln) ∧ Hid (n = (idk l k).length) ∧ Hid (Ob 3 1 (w.heap.size ≤ ·) wx A' c' (its (idk l k))) ∧ Hid (Below w.heap.size w wx))
  case atStart => exact ⟨0, 0, _, 0, rfl, rfl, Lib.hid (by omega), Lib.hid rfl, O0, B0⟩
  case round =>
    obtain ⟨k, n, A', c', rfl, rfl, hk, hn, ho, hb⟩ := hrel
    have hk' := hk.out
    clear O0 B0
    cases gk with
    | zero =>
      have e1 : k = ln := by omega
      have lt0 : decide ((k : Int) < (ln : Int)) = false := by simp; omega
      have lt1 : decide (k < ln) = false := by simp; omega
      go_wp2
      go_ret
      have h1 := hn.out
      have h2 := ho.out
      rw [e1] at h1 h2
      refine ⟨A', c', ?_, h2.rd, hb.out⟩
      rw [h1]
      rfl
    | succ gf =>
      have hkl : k < l.length := by rw [HLN.out]; omega
      have lt0 : (k : Int) < (ln : Int) := by omega
      have hw1 : (k : Int) + 1 ≤ 10000 := by omega
      have hnk : n ≤ k := by rw [hn.out]; exact idk_len l k
      obtain ⟨b, off, hA0, _, e0, e1, e2, e3, e4, e5⟩ := (HL.out.step hb.out).at hkl
      have hmem : gr l k ∈ l := by rw [gr_eq hkl]; exact List.getElem_mem _
      have hst : idk l (k + 1) = if (l.take k).any (fun y => hds y (gr l k)) then idk l k ++ [(gr l k).s] else idk l k := rfl
      obtain ⟨x, hx⟩ : ∃ x, gr l k = x := ⟨_, rfl⟩
      rw [hx] at e0 e1 e2 e3 e4 e5 hmem hst
      subst hA0
      have hxA := HA.out x hmem
      have HST := Lib.hid hst
      have HX := Lib.hid hx
      have HKL := Lib.hid hkl
      have cb := fun W => qbounds_any x W
      obtain ⟨LX, hLX⟩ : ∃ v, lo x = v := ⟨_, rfl⟩
      obtain ⟨HX2, hHX⟩ : ∃ v, hi x = v := ⟨_, rfl⟩
      rw [hLX, hHX] at cb
      have HLX := Lib.hid hLX
      have HHX := Lib.hid hHX
      clear hx hst hmem hkl hLX hHX
      go_wp2_with fail
      refine (cb _).mono ?_
      rintro e W1 ⟨rfl, hb1⟩
      have HB1 : Hid (Below w.heap.size w W1) := Lib.hid (hb.out.trans (hb1.mono hb.out.size))
      have O1 := Lib.hid (ho.out.below hb1)
      clear cb hb1 hb ho e0 e1 e2 e3 e4 e5
      go_wp2_with fail
      go_loopg [7, 8] k (fun gi v7 v8 wx => ∃ (j : Nat) (I : Bool), v7 = .bool I ∧ v8 = .int .i64 (j : Int) ∧ Hid (gi + j = k) ∧ Hid (I = (l.take j).any (fun y => hds y x)) ∧ Hid (Below W1.heap.size W1 wx))
      case atStart => exact ⟨0, false, rfl, rfl, Lib.hid (by omega), Lib.hid (by simp), Lib.hid (Below.refl _ _)⟩
      case round =>
        obtain ⟨j, I, rfl, rfl, hj, hI, hbi⟩ := hrel
        have hj' := hj.out
        have HB2 : Hid (Below w.heap.size w wr) := Lib.hid (HB1.out.trans (hbi.out.mono HB1.out.size))
        obtain ⟨b', off', hA', _, f0, _, f2, f3, _⟩ := (HL.out.step HB2.out).at HKL.out
        simp only [Option.some.injEq, Addr.mk.injEq] at hA'
        obtain ⟨rfl, rfl, _⟩ := hA'
        rw [HX.out] at f0 f2 f3
        cases gk with
        | zero =>
          have e1 : j = k := by omega
          have lt2 : decide ((j : Int) < (k : Int)) = false := by simp; omega
          have lt1 : decide (j < k) = false := by simp; omega
          have O2 := Lib.hid (O1.out.below hbi.out)
          have H9 : Hid (I = (l.take k).any (fun y => hds y x)) := Lib.hid (by rw [hI.out, e1])
          clear hI e1 O1 HB1 hbi f2 f3
          cases I with
          | true =>
            have hs2 : Hid (idk l (k + 1) = idk l k ++ [x.s]) := Lib.hid (by rw [HST.out, ← H9.out]; rfl)
            obtain ⟨m, hm⟩ : ∃ m, wr.heap.size = m := ⟨_, rfl⟩
            have hsz := HB2.out.size
            obtain ⟨g', c2, W3, r1, r2, r3, r4⟩ := int_app O2.out hn.out.symm (by omega) x.s m hm
            have HO : Hid (Ob 3 1 (w.heap.size ≤ ·) W3 (some ⟨g', 0, none⟩) c2 (its (idk l (k + 1)))) := Lib.hid (by rw [hs2.out]; exact Ob.next r2 r4 (by omega))
            have HB3 : Hid (Below w.heap.size w W3) := Lib.hid (HB2.out.trans (r3.below (fun _ h => h) hsz))
            clear r2 r3 r4 O2 HB2 HST
            go_wp2_with (at_builtin; refine wpList_runb _ rfl (.tmp 64) (.tmp 70) 57 rfl rfl rfl r1 ?_)
            go_wp2
            go_roundg gf
            case measure => omega
            case rel => exact ⟨k + 1, n + 1, _, c2, by go_num, by go_num, Lib.hid (by omega), Lib.hid (by rw [hs2.out, List.length_append, ← hn.out]; rfl), HO, HB3⟩
          | false =>
            have hs2 : Hid (idk l (k + 1) = idk l k) := Lib.hid (by rw [HST.out, ← H9.out]; rfl)
            clear HST
            go_wp2
            go_roundg gf
            case measure => omega
            case rel => exact ⟨k + 1, n, A', c', rfl, by go_num, Lib.hid (by omega), Lib.hid (by rw [hs2.out]; exact hn.out), Lib.hid (by rw [hs2.out]; exact O2.out), HB2⟩
        | succ gi =>
          have hjl : j < l.length := by rw [HLN.out]; omega
          have lt2 : (j : Int) < (k : Int) := by omega
          have lt3 : (j : Int) < (ln : Int) := by omega
          have hw2 : (j : Int) + 1 ≤ 10000 := by omega
          obtain ⟨b'', off'', hA'', _, e0, e1, e2, e3, e4, e5⟩ := (HL.out.step HB2.out).at hjl
          simp only [Option.some.injEq, Addr.mk.injEq] at hA''
          obtain ⟨rfl, rfl, _⟩ := hA''
          have hmem : gr l j ∈ l := by rw [gr_eq hjl]; exact List.getElem_mem _
          have hat := any_take hjl (fun y => hds y x)
          obtain ⟨y, hy⟩ : ∃ y, gr l j = y := ⟨_, rfl⟩
          rw [hy] at e0 e1 e2 e3 e4 e5 hmem hat
          have hyA := HA.out y hmem
          have cb := fun W => qbounds_any y W
          have cc := fun W => rcovers_any y.A y.N x.A x.N W hyA hxA
          obtain ⟨LY, hLY⟩ : ∃ v, lo y = v := ⟨_, rfl⟩
          obtain ⟨HY, hHY⟩ : ∃ v, hi y = v := ⟨_, rfl⟩
          have hh : hds y x = (covp y.A y.N x.A x.N && decide (LY ≤ LX) && decide (HX2 ≤ HY)) := by rw [hds, hLY, hHY, HLX.out, HHX.out]
          rw [hLY, hHY] at cb
          have HAT : Hid ((l.take (j + 1)).any (fun y => hds y x) = (I || (covp y.A y.N x.A x.N && decide (LY ≤ LX) && decide (HX2 ≤ HY)))) := Lib.hid (by rw [hat, ← hI.out, hh])
          have HYE := Lib.hid hy
          have HJL := Lib.hid hjl
          clear hy hat hmem hjl hLY hHY hh hI
          go_wp2_with fail
          refine (cb _).mono ?_
          rintro e W2 ⟨rfl, hb2⟩
          have HBI : Hid (Below W1.heap.size W1 W2) := Lib.hid (hbi.out.trans (hb2.mono hbi.out.size))
          have HB3 : Hid (Below w.heap.size w W2) := Lib.hid (HB2.out.trans (hb2.mono HB2.out.size))
          clear f0 f2 f3 e0 e1 e2 e3 e4 e5 cb hb2 hbi HB2
          obtain ⟨b', off', hA', _, _, _, f2, f3, _⟩ := (HL.out.step HB3.out).at HKL.out
          simp only [Option.some.injEq, Addr.mk.injEq] at hA'
          obtain ⟨rfl, rfl, _⟩ := hA'
          rw [HX.out] at f2 f3
          obtain ⟨b'', off'', hA'', _, _, _, e2, e3, _⟩ := (HL.out.step HB3.out).at HJL.out
          simp only [Option.some.injEq, Addr.mk.injEq] at hA''
          obtain ⟨rfl, rfl, _⟩ := hA''
          rw [HYE.out] at e2 e3
          cases I with
          | true =>
            have HR : Hid (true = (l.take (j + 1)).any (fun y => hds y x)) := Lib.hid (by rw [HAT.out]; rfl)
            clear HAT cc f2 f3 e2 e3
            go_wp2_with fail
            go_quiet (fail)
            have HBJ := Lib.hid (HBI.out.trans (below_draws _ W2 nq))
            clear HBI HB3
            generalize W2.drewN nq = wq at *
            go_wp2
            go_roundg gi
            case measure => omega
            case rel => exact ⟨j + 1, true, rfl, by go_num, Lib.hid (by omega), HR, HBJ⟩
          | false =>
            cases hco : covp y.A y.N x.A x.N with
            | false =>
              rw [hco] at cc
              have HR : Hid (false = (l.take (j + 1)).any (fun y => hds y x)) := Lib.hid (by rw [HAT.out, hco]; rfl)
              clear HAT hco
              go_wp2_with fail
              refine wp_region_quiet_below (by kernel_rfl) (by kernel_rfl) ?_
              have gg0 := cell_regrown f2
              have gg1 := cell_regrown f3
              have gg2 := cell_regrown e2
              have gg3 := cell_regrown e3
              have zz0 : ∀ d os, _ := fun d os => Calls.regrown_of (w := W2) (d := d) (os := os) (cc _)
              repeat (first | go_big_quiet_step (with_reducible exact zz0 _ _) | go_big_quiet_step (fail) | go_big_quiet_skip)
              refine wpQuiet_nil ?_
              intro W9 hw'
              obtain ⟨⟨dq, osq⟩, hw''⟩ := hw'
              have hbz := below_regrown W2 dq osq
              rw [← hw''] at hbz
              clear hw'' gg0 gg1 gg2 gg3 zz0
              have HBJ := Lib.hid (HBI.out.trans (hbz.mono HBI.out.size))
              clear hbz HBI HB3 cc f2 f3 e2 e3
              go_wp2
              go_roundg gi
              case measure => omega
              case rel => exact ⟨j + 1, _, rfl, by go_num, Lib.hid (by omega), HR, HBJ⟩
            | true =>
              rw [hco] at cc
              by_cases hlo : LY ≤ LX
              · have HR : Hid (decide (HX2 ≤ HY) = (l.take (j + 1)).any (fun y => hds y x)) := Lib.hid (by rw [HAT.out, hco, decide_eq_true hlo]; rfl)
                clear HAT hco
                go_wp2_with fail
                refine wp_region_quiet_below (by kernel_rfl) (by kernel_rfl) ?_
                have gg0 := cell_regrown f2
                have gg1 := cell_regrown f3
                have gg2 := cell_regrown e2
                have gg3 := cell_regrown e3
                have zz0 : ∀ d os, _ := fun d os => Calls.regrown_of (w := W2) (d := d) (os := os) (cc _)
                repeat (first | go_big_quiet_step (with_reducible exact zz0 _ _) | go_big_quiet_step (fail) | go_big_quiet_skip)
                refine wpQuiet_nil ?_
                intro W9 hw'
                obtain ⟨⟨dq, osq⟩, hw''⟩ := hw'
                have hbz := below_regrown W2 dq osq
                rw [← hw''] at hbz
                clear hw'' gg0 gg1 gg2 gg3 zz0
                have HBJ := Lib.hid (HBI.out.trans (hbz.mono HBI.out.size))
                clear hbz HBI HB3 cc f2 f3 e2 e3
                go_wp2
                go_roundg gi
                case measure => omega
                case rel => exact ⟨j + 1, _, rfl, by go_num, Lib.hid (by omega), HR, HBJ⟩
              · have HR : Hid (false = (l.take (j + 1)).any (fun y => hds y x)) := Lib.hid (by rw [HAT.out, hco, decide_eq_false hlo]; rfl)
                have hlo2 : decide (LY ≤ LX) = false := decide_eq_false hlo
                have hlo3 : LX < LY := by omega
                clear HAT hco hlo
                go_wp2_with fail
                refine wp_region_quiet_below (by kernel_rfl) (by kernel_rfl) ?_
                have gg0 := cell_regrown f2
                have gg1 := cell_regrown f3
                have gg2 := cell_regrown e2
                have gg3 := cell_regrown e3
                have zz0 : ∀ d os, _ := fun d os => Calls.regrown_of (w := W2) (d := d) (os := os) (cc _)
                repeat (first | go_big_quiet_step (with_reducible exact zz0 _ _) | go_big_quiet_step (fail) | go_big_quiet_skip)
                refine wpQuiet_nil ?_
                intro W9 hw'
                obtain ⟨⟨dq, osq⟩, hw''⟩ := hw'
                have hbz := below_regrown W2 dq osq
                rw [← hw''] at hbz
                clear hw'' gg0 gg1 gg2 gg3 zz0
                have HBJ := Lib.hid (HBI.out.trans (hbz.mono HBI.out.size))
                clear hbz HBI HB3 cc f2 f3 e2 e3
                go_wp2
                go_roundg gi
                case measure => omega
                case rel => exact ⟨j + 1, _, rfl, by go_num, Lib.hid (by omega), HR, HBJ⟩
end Go.Proofs.YtkofpijhihghpaaDoor
