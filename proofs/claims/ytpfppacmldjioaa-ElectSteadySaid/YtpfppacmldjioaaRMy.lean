/-
  The reference's May. No statement is proved here; no conditions.
-/
import Derived.Test.YtpfppacmldjioaaMp
import Derived.StillTailTactics
namespace Go.Proofs.Ytpfppacmldjioaa
open Go.RowKit Go.Joins

theorem cn_zero {L : List Ca} {k : Nat} {a : Int} (hk : k ≤ L.length) (h : ∀ j, j < k → (cg L j).i ≠ a) : cn (L.take k) a = 0 := by
  unfold cn
  rw [List.count_eq_zero]
  intro hm
  obtain ⟨x, hx, rfl⟩ := List.mem_map.1 hm
  obtain ⟨j, hj, rfl⟩ := List.getElem_of_mem hx
  rw [List.length_take] at hj
  have := h j (by omega)
  rw [cg_eq (by omega)] at this
  simp at this
theorem cn_some {L : List Ca} {j k : Nat} {a : Int} (hk : k ≤ L.length) (hj : j < k) (h : (cg L j).i = a) : 0 < cn (L.take k) a := by
  unfold cn
  rw [List.count_pos_iff]
  refine List.mem_map.2 ⟨cg L j, ?_, h⟩
  rw [cg_eq (by omega)]
  exact List.mem_take_iff_getElem.2 ⟨j, by omega, rfl⟩
set_option maxRecDepth 100000 in
set_option maxHeartbeats 4000000 in
theorem rmay_any (A0 : Option Addr) (n c : Nat) (L : List Ca) (w : World) (hn : L.length = n) (hl : Cr w A0 L) :
    Calls Try.prog 21 #[.slice A0 n c] w fun e w' => e = .returned (.bool (mayl L)) ∧ Below w.heap.size w w' := by
  have HL := Lib.hid hl
  have HN := Lib.hid hn
  rcases Nat.lt_or_ge 50 n with h50 | h50
  · have d0 : decide ((n : Int) > 50) = true := by simp; omega
    have HM := Lib.hid (may_long (L := L) (by omega))
    clear hl hn h50
    go_enter Try.func21, Try.ntmps21
    go_wp2
    go_ret
    exact ⟨ret_bool HM.out.symm, Below.refl _ _⟩
  have d0 : decide ((n : Int) > 50) = false := by simp; omega
  have d1 : decide (n > 50) = false := by simp; omega
  have HU := Lib.hid h50
  clear hl hn h50
  go_enter Try.func21, Try.ntmps21
  go_wp2_with fail
  go_loopg [3] n (fun gf v wx => ∃ (k : Nat), v = .int .i64 (k : Int) ∧ Hid (gf + k = n) ∧ Hid (Gd (L.take k)) ∧ Hid (Below w.heap.size w wx))
  case atStart => exact ⟨0, rfl, Lib.hid (by omega), Lib.hid Gd.nil, Lib.hid (Below.refl _ _)⟩
  case round =>
    obtain ⟨k, rfl, hk, hG, hb⟩ := hrel
    have hk' := hk.out
    cases gk with
    | zero =>
      have e1 : k = n := by omega
      have lt0 : decide ((k : Int) < (n : Int)) = false := by simp; omega
      have lt1 : decide (k < n) = false := by simp; omega
      have HT : Hid (mayl L = true) := Lib.hid (by
        have g := hG.out
        rw [List.take_of_length_le (by rw [HN.out]; omega)] at g
        exact g.may (by rw [HN.out]; exact HU.out))
      subst e1
      go_wp2
      go_ret
      exact ⟨ret_bool HT.out.symm, hb.out⟩
    | succ gf =>
      have hkl : k < L.length := by rw [HN.out]; omega
      have lt0 : (k : Int) < (n : Int) := by omega
      have hw1 : (k : Int) + 1 ≤ 10000 := by have := HU.out; omega
      have HKL := Lib.hid hkl
      have HX := Lib.hid (ctake hkl)
      have HBAD := Lib.hid (may_bad hkl)
      have HTW := Lib.hid (may_twice hkl)
      obtain ⟨b, off, hA, _, e0, e1, e2, e3⟩ := crd_at (HL.out.step hb.out) hkl
      obtain ⟨x, hx⟩ : ∃ x, cg L k = x := ⟨_, rfl⟩
      rw [hx] at e0 e1 e2 e3 HX HBAD HTW
      have HXX := Lib.hid hx
      subst hA
      clear hx hkl
      by_cases hi : x.i = 0
      · have z0 : (x.i == 0) = true := by simp [hi]
        have HZ : Hid (mayl L = false) := Lib.hid (HBAD.out (by simp [okc, hi]))
        clear hi
        go_wp2
        go_ret
        exact ⟨ret_bool HZ.out.symm, hb.out⟩
      have z0 : (x.i == 0) = false := by simpa using hi
      by_cases hp : x.p < 0
      · have z2 : decide (x.p < 0) = true := by simpa using hp
        have HZ : Hid (mayl L = false) := Lib.hid (HBAD.out (by
          have : decide (0 ≤ x.p) = false := by simp; omega
          simp [okc, this]))
        clear hi hp
        go_wp2
        go_ret
        exact ⟨ret_bool HZ.out.symm, hb.out⟩
      have z2 : decide (x.p < 0) = false := by simpa using hp
      by_cases hp2 : x.p > 255
      · have z3 : decide (x.p > 255) = true := by simpa using hp2
        have HZ : Hid (mayl L = false) := Lib.hid (HBAD.out (by
          have : decide (x.p ≤ 255) = false := by simp; omega
          simp [okc, this]))
        clear hi hp hp2
        go_wp2
        go_ret
        exact ⟨ret_bool HZ.out.symm, hb.out⟩
      have z3 : decide (x.p > 255) = false := by simpa using hp2
      have HOK : Hid (okc x = true) := Lib.hid (by simp [okc, hi]; omega)
      clear hi hp hp2
      go_wp2_with fail
      go_loopg [4] k (fun gi v4 wx => ∃ (j : Nat), v4 = .int .i64 (j : Int) ∧ Hid (gi + j = k) ∧ Hid (∀ i, i < j → (cg L i).i ≠ x.i) ∧ Hid (Below w.heap.size w wx))
      case atStart => exact ⟨0, rfl, Lib.hid (by omega), Lib.hid (fun i hi => by omega), hb⟩
      case round =>
        obtain ⟨j, rfl, hj, hN, hbi⟩ := hrel
        have hj' := hj.out
        cases gk with
        | zero =>
          have e9 : j = k := by omega
          have lt2 : decide ((j : Int) < (k : Int)) = false := by simp; omega
          have lt1 : decide (j < k) = false := by simp; omega
          have GN : Hid (Gd (L.take (k + 1))) := Lib.hid (by
            rw [HX.out]
            exact hG.out.snoc HOK.out (cn_zero (by have := HKL.out; omega) (by rw [← e9]; exact hN.out)))
          clear e9 hG e0 e1 e2 e3
          go_wp2
          go_roundg gf
          case measure => omega
          case rel => exact ⟨k + 1, by go_num, Lib.hid (by omega), GN, hbi⟩
        | succ gi =>
          have hjk : j < k := by omega
          have lt2 : (j : Int) < (k : Int) := by omega
          have ltn : (j : Int) < (n : Int) := by omega
          have hw2 : (j : Int) + 1 ≤ 10000 := by omega
          have hjl : j < L.length := by have := HKL.out; omega
          obtain ⟨b', off', hA', _, f0, f1, f2, f3⟩ := crd_at (HL.out.step hbi.out) hjl
          simp only [Option.some.injEq, Addr.mk.injEq] at hA'
          obtain ⟨rfl, rfl, _⟩ := hA'
          obtain ⟨c', off2, hA2, _, g0, g1, g2, g3⟩ := crd_at (HL.out.step hbi.out) HKL.out
          simp only [Option.some.injEq, Addr.mk.injEq] at hA2
          obtain ⟨rfl, rfl, _⟩ := hA2
          rw [HXX.out] at g0 g1 g2 g3
          obtain ⟨y, hy⟩ : ∃ y, cg L j = y := ⟨_, rfl⟩
          rw [hy] at f0 f1 f2 f3
          have HY := Lib.hid hy
          have HJL := Lib.hid hjl
          clear hy hjl e0 e1 e2 e3 f1 f2 f3 g1 g2 g3
          by_cases hyx : y.i = x.i
          · have z9 : (y.i == x.i) = true := by simp [hyx]
            have HZ : Hid (mayl L = false) := Lib.hid (HTW.out (cn_some (by have := HKL.out; omega) hjk (by rw [HY.out]; exact hyx)))
            clear hyx
            go_wp2_with fail
            refine wp_region_quiet_below (by kernel_rfl) (by kernel_rfl) ?_
            have gg0 := cell_regrown f0
            have gg1 := cell_regrown g0
            repeat (first | go_big_quiet_step (fail) | go_big_quiet_skip)
            refine wpQuiet_nil ?_
            intro W9 hw'
            obtain ⟨⟨dq, osq⟩, hw''⟩ := hw'
            have hbz := below_regrown wr dq osq
            rw [← hw''] at hbz
            clear hw'' gg0 gg1  
            go_wp2
            go_ret
            exact ⟨ret_bool HZ.out.symm, hbi.out.trans (hbz.mono hbi.out.size)⟩
          · have z9 : (y.i == x.i) = false := by simpa using hyx
            have HNN : Hid (∀ i, i < j + 1 → (cg L i).i ≠ x.i) := Lib.hid (fun i hi => by
              rcases Nat.lt_or_ge i j with q | q
              · exact hN.out i q
              · obtain rfl : i = j := by omega
                rw [HY.out]; exact hyx)
            clear hyx
            go_wp2_with fail
            refine wp_region_quiet_below (by kernel_rfl) (by kernel_rfl) ?_
            have gg0 := cell_regrown f0
            have gg1 := cell_regrown g0
            repeat (first | go_big_quiet_step (fail) | go_big_quiet_skip)
            refine wpQuiet_nil ?_
            intro W9 hw'
            obtain ⟨⟨dq, osq⟩, hw''⟩ := hw'
            have hbz := below_regrown wr dq osq
            rw [← hw''] at hbz
            clear hw'' gg0 gg1  
            have HBB : Hid (Below w.heap.size w W9) := Lib.hid (hbi.out.trans (hbz.mono hbi.out.size))
            go_wp2
            go_roundg gi
            case measure => omega
            case rel => exact ⟨j + 1, by go_num, Lib.hid (by omega), HNN, HBB⟩
end Go.Proofs.Ytpfppacmldjioaa
