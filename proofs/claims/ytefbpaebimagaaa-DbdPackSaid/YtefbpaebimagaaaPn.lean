/-
  The contract of dbd.Pack. No statement is proved here; no conditions.
-/
import Derived.Test.YtefbpaebimagaaaPm
import Derived.Test.YtefbpaebimagaaaPk
import Derived.Test.YtefbpaebimagaaaEn
namespace Go.Proofs.Ytefbpaebimagaaa
open Go.RowKit Go.Joins

/-- What holds between two rounds. -/
structure PJ (w : World) (L : List Ae) (k q m : Nat) (u : Int) (Ao : Option Addr) (co : Nat) (Al : Option Addr) (cl : Nat) (wx : World) : Prop where
  ex : ∃ (bl : Nat) (rs : List Sr) (La : List Ae), rs.length = q ∧ La.length = m ∧ Rows1 w.heap.size bl wx Ao co rs ∧ Aro bl wx Al cl La ∧ w.heap.size ≤ bl ∧ bl ≤ wx.heap.size ∧ pst (cons (L.take k)) = (rs.map (fun r => cons r.L), cons La, 1472 - u)
  who : whs (cons (L.take k)) = true
  bel : Below w.heap.size w wx
  num : q ≤ k
/-- What Pack returns. -/
def PO (C : List Ct) (w : World) (e : Ending) (w' : World) : Prop := ∃ A' c' m' rs, e = .returned (.tuple #[.slice A' m' c', .int .i64 (pkE C)]) ∧ rs.length = m' ∧ rs.map (fun r : Sr => cons r.L) = pkL C ∧ Rd (fun _ => True) w' A' (rflt rs) ∧ (∀ r ∈ rs, Arr w' r.A r.L) ∧ Below w.heap.size w w'
theorem PO.bad {C : List Ct} {w w' : World} (h : whs C = false) (hb : Below w.heap.size w w') : PO C w (.returned (.tuple #[.slice none 0 0, .int .i64 1])) w' := by
  have e1 : pkE C = 1 := by rw [pkE, h]; rfl
  have e2 : pkL C = [] := by rw [pkL, h]; rfl
  exact ⟨none, 0, 0, [], by rw [e1], rfl, by rw [e2]; rfl, Rd.nil _, fun r hr => (by cases hr), hb⟩
theorem PO.good {C : List Ct} {w w' : World} {A : Option Addr} {c m base bl : Nat} {rs : List Sr} (h : whs C = true) (hm : rs.length = m) (hrs : rs.map (fun r : Sr => cons r.L) = pkL C) (hr : Rows1 base bl w' A c rs) (hb : Below w.heap.size w w') : PO C w (.returned (.tuple #[.slice A m c, .int .i64 0])) w' := by
  have e1 : pkE C = 0 := by rw [pkE, h]; rfl
  exact ⟨A, c, m, rs, by rw [e1], hm, hrs, Ob.rd hr.row, fun r h => (hr.clo r h).arr, hb⟩
theorem cons_take1 {L : List Ae} {k : Nat} (h : k < L.length) : cons (L.take (k + 1)) = cons (L.take k) ++ [con (ag L k)] := by rw [atake h, cons_snoc]
theorem Aro.under {base : Nat} {w w' : World} {A : Option Addr} {c : Nat} {L : List Ae} (h : Aro base w A c L) (_ : base ≤ w.heap.size) (k : Below w.heap.size w w') : Aro base w' A c L := h.step k
set_option maxRecDepth 100000 in
set_option maxHeartbeats 8000000 in
theorem pack_any (A : Option Addr) (n c : Nat) (L : List Ae) (w : World) (hn : L.length = n) (ok : Okas (cons L)) (hr : Arr w A L) (hll : n ≤ 1000) :
    Calls Try.prog 31 #[.slice A n c] w fun e w' => PO (cons L) w e w' := by
  have HN := Lib.hid hn
  have HR := Lib.hid hr
  have OK := Lib.hid ok
  clear hn hr ok
  go_enter Try.func31, Try.ntmps31
  go_wp2_with fail
  go_loopg [4, 5, 6, 11] n (fun gf v4 v5 v6 v11 wx => ∃ (k q m : Nat) (u : Int) (Ao : Option Addr) (co : Nat) (Al : Option Addr) (cl : Nat), v4 = .slice Ao q co ∧ v5 = .slice Al m cl ∧ v6 = .int .i64 u ∧ v11 = .int .i64 (k : Int) ∧ Hid (gf + k = n) ∧ Hid (PJ w L k q m u Ao co Al cl wx))
  case atStart => exact ⟨0, 0, 0, 1472, none, 0, none, 0, rfl, rfl, rfl, rfl, Lib.hid (by omega), Lib.hid ⟨⟨w.heap.size, [], [], rfl, rfl, Rows1.nil _ _ _, Aro.nil _ _, Nat.le_refl _, Nat.le_refl _, rfl⟩, rfl, Below.refl _ _, Nat.le_refl _⟩⟩
  case round =>
    obtain ⟨k, q, m, u, Ao, co, Al, cl, rfl, rfl, rfl, rfl, hk, hJ⟩ := hrel
    have hk' := hk.out
    obtain ⟨⟨bl, rs, La, hq, hm, hrs, hla, hb1, hb2, hps⟩, hwho, hbel, hnum⟩ := hJ.out
    have hpk := pkd_pst _ hwho
    rw [hps] at hpk
    have hm50 : m ≤ 50 := by have := hpk.few; simp only [cons_length] at this; omega
    have hu : 0 ≤ u ∧ u ≤ 1472 := by
      have h1 := hpk.len
      have h2 := hpk.big
      simp only at h1 h2
      omega
    have HQ := Lib.hid hq
    have HM := Lib.hid hm
    have HRS := Lib.hid hrs
    have HLA := Lib.hid hla
    have HB1 := Lib.hid hb1
    have HB2 := Lib.hid hb2
    have HPS := Lib.hid hps
    have HW := Lib.hid hwho
    have HB := Lib.hid hbel
    obtain ⟨hu0, hu1⟩ := hu
    clear hJ hq hm hrs hla hb1 hb2 hps hwho hbel hpk
    cases gk with
    | zero =>
      have lt0 : decide ((k : Int) < (n : Int)) = false := by simp; omega
      have lt1 : decide (k < n) = false := by simp; omega
      have ht : L.take k = L := List.take_of_length_le (by rw [HN.out]; omega)
      rw [ht] at HW HPS
      by_cases h0 : m = 0
      · subst h0
        have HF : Hid (rs.map (fun r : Sr => cons r.L) = pkL (cons L)) := Lib.hid (by
          obtain rfl : La = [] := List.eq_nil_of_length_eq_zero HM.out
          rw [pkL, if_pos HW.out, HPS.out]
          rfl)
        clear ht
        go_wp2
        go_ret2
        exact PO.good HW.out HQ.out HF.out HRS.out HB.out
      · have g0 : (m : Int) > 0 := by omega
        have HF : Hid ((rs ++ [(⟨Al, cl, La⟩ : Sr)]).map (fun r : Sr => cons r.L) = pkL (cons L)) := Lib.hid (by
          rw [pkL, if_pos HW.out, HPS.out, if_neg (by show ¬ cons La = []; intro h; have h2 := congrArg List.length h; rw [cons_length, HM.out] at h2; simp at h2; omega)]
          simp)
        obtain ⟨n0, hn0⟩ : ∃ n0, wr.heap.size = n0 := ⟨_, rfl⟩
        obtain ⟨g7, c7, W7, r7, ro7, bl7, -⟩ := rows_app HRS.out HQ.out HLA.out (by omega) n0 hn0 (Nat.le_trans HB1.out HB2.out) HB2.out
        rw [HM.out] at r7
        have HR7 := Lib.hid ro7
        have HB7 := Lib.hid (HB.out.trans bl7)
        clear ro7 bl7 ht
        go_wp2_with (at_builtin; refine wpList_runb _ rfl (.tmp 46) (.tmp 48) 58 rfl rfl rfl r7 ?_)
        go_ret2
        exact PO.good HW.out (by rw [List.length_append, HQ.out]; rfl) HF.out HR7.out HB7.out
    | succ gf =>
      have hkl : k < L.length := by rw [HN.out]; omega
      have lt0 : (k : Int) < (n : Int) := by omega
      have hw1 : (k : Int) + 1 ≤ 10000 := by omega
      have HAR := Lib.hid (Arr.step HR.out HB.out)
      obtain ⟨b, off, hA, _, e0, e1, e2, e3, e4, e5, e6, e7, e8⟩ := ard_at HAR.out.1 hkl
      have okx := okas_at OK.out (ag_mem hkl)
      have HCT : Hid (cons (L.take (k + 1)) = cons (L.take k) ++ [con (ag L k)]) := Lib.hid (cons_take1 hkl)
      have hmem := ag_mem hkl
      have HBT : Hid (∀ V, Below w.heap.size w V → Bt V (ag L k).A (ag L k).l) := Lib.hid (fun V hV => (Arr.step HR.out hV).2 _ hmem)
      have HNW : Hid (wh (con (ag L k)) = false → whs (cons L) = false) := Lib.hid (fun h => whs_no (List.mem_map.2 ⟨_, hmem, rfl⟩) h)
      obtain ⟨y, hy⟩ : ∃ y, (ag L k).h = y := ⟨_, rfl⟩
      obtain ⟨B, hB⟩ : ∃ B, (ag L k).l = B := ⟨_, rfl⟩
      have hcon : con (ag L k) = (y, B) := by rw [con, hy, hB]
      rw [hcon] at okx HCT HNW
      rw [hy] at e0 e1 e2 e3 e4 e5 e6 e7
      rw [hB] at e8 HBT
      obtain ⟨mB, hmB⟩ : ∃ mB, B.length = mB := ⟨_, rfl⟩
      rw [hmB] at e8
      generalize (ag L k).A = Ab at *
      generalize (ag L k).c = d at *
      have hmB1 : mB ≤ 1600 := by have := okx.n; simp only at this; omega
      have HMB := Lib.hid hmB
      have HOK := Lib.hid okx
      subst hA
      clear hkl hmem hy hB hcon okx hmB
      obtain ⟨W1, hW1⟩ : ∃ V, wr.alloc (.cells #[Value.int .i64 y.a, .int .i64 y.o, .int .i64 y.t, .int .u32 y.i, .int .u32 y.v, .int .u32 y.q, .int .i64 y.s, .int .i64 y.n, .slice Ab mB d] 87) = V := ⟨_, rfl⟩
      have u1 : Below wr.heap.size wr W1 := by rw [← hW1]; exact below_alloc1 _ _
      have G1 : Hid (At W1 wr.heap.size (.cells #[Value.int .i64 y.a, .int .i64 y.o, .int .i64 y.t, .int .u32 y.i, .int .u32 y.v, .int .u32 y.q, .int .i64 y.s, .int .i64 y.n, .slice Ab mB d] 87)) := Lib.hid (At.mk hW1)
      obtain ⟨kl, hkl⟩ : ∃ kl, wr.heap.size = kl := ⟨_, rfl⟩
      rw [hkl] at G1
      obtain ⟨y0, y1, y2, y3, y4, y5, y6, y7, y8, f0, f1, f2, f3, f4, f5, f6, f7, f8, hzl⟩ := kz9_at G1.out
      have T1 := Lib.hid u1
      have TB1 := Lib.hid (HB.out.trans (u1.mono HB.out.size))
      have CW := whole_any y Ab mB d B W1 HMB.out HOK.out.h (HBT.out _ TB1.out) HOK.out.y (by omega)
      clear u1
      go_wp2_with fail
      refine CW.mono ?_
      rintro e W2 ⟨rfl, u2⟩
      have G2 : Hid (At W2 kl (.cells #[Value.int .i64 y.a, .int .i64 y.o, .int .i64 y.t, .int .u32 y.i, .int .u32 y.v, .int .u32 y.q, .int .i64 y.s, .int .i64 y.n, .slice Ab mB d] 87)) := Lib.hid (G1.out.step u2)
      have T2 := Lib.hid (T1.out.trans (u2.mono T1.out.size))
      have TB2 := Lib.hid (HB.out.trans (T2.out.mono HB.out.size))
      have HKL : Hid (wr.heap.size = kl) := Lib.hid hkl
      have HL2 : Hid (kl < W2.heap.size) := Lib.hid (lt_of_block G2.out)
      clear y0 y1 y2 y3 y4 y5 y6 y7 y8 f0 f1 f2 f3 f4 f5 f6 f7 f8 hzl CW u2 hW1 hkl e0 e1 e2 e3 e4 e5 e6 e7 e8
      obtain ⟨y0, y1, y2, y3, y4, y5, y6, y7, y8, f0, f1, f2, f3, f4, f5, f6, f7, f8, hzl⟩ := kz9_at G2.out
      cases hw : whl y B with
      | false =>
        have HF := Lib.hid (HNW.out hw)
        clear hw
        go_wp2
        go_ret2
        exact PO.bad HF.out TB2.out
      | true =>
        have hx : wh (y, B) = true := hw
        obtain ⟨x1, x2, x3⟩ := may_len (wh_may hx)
        have HXN : Hid (20 ≤ y.n ∧ y.n ≤ 1400) := Lib.hid (by simp only at x1 x3; omega)
        obtain ⟨hn20, hn14⟩ := HXN.out
        have HWS : Hid (whs (cons (L.take (k + 1))) = true) := Lib.hid (by
          rw [HCT.out]
          exact whs_app HW.out ((whs_iff _).2 fun z hz => by obtain rfl := List.mem_singleton.1 hz; exact hx))
        have HPT : Hid (pst (cons (L.take (k + 1))) = pstep (rs.map (fun r => cons r.L), cons La, 1472 - u) (y, B)) := Lib.hid (by rw [HCT.out, pst_snoc, HPS.out])
        clear hw hx x1 x2 x3 HNW
        by_cases h50 : m = 50
        · subst h50
          have HST : Hid (pst (cons (L.take (k + 1))) = ((rs ++ [(⟨Al, cl, La⟩ : Sr)]).map (fun r : Sr => cons r.L), [(y, B)], y.n)) := Lib.hid (by
            rw [HPT.out, pstep, if_pos (.inl (by show (cons La).length = 50; rw [cons_length, HM.out]))]
            simp [cons])
          obtain ⟨n2, hn2⟩ : ∃ n2, W2.heap.size = n2 := ⟨_, rfl⟩
          have BLW : wr.heap.size ≤ W2.heap.size := T2.out.size
          obtain ⟨g7, c7, W3, r7, ro7, bl7, kp7⟩ := rows_app (HRS.out.under (T2.out.mono HB2.out)) HQ.out (Aro.under HLA.out HB2.out T2.out) (by omega) n2 hn2 (Nat.le_trans HB1.out (Nat.le_trans HB2.out BLW)) (Nat.le_trans HB2.out BLW)
          rw [HM.out] at r7
          have RW3 := Lib.hid ro7
          have BL3 : Hid (W3.heap.size ≤ W3.heap.size) := Lib.hid (Nat.le_refl _)
          have HB3L : Hid (w.heap.size ≤ W3.heap.size) := Lib.hid (Nat.le_trans TB2.out.size bl7.size)
          have AR3 : Hid (Aro W3.heap.size W3 none 0 []) := Lib.hid (Aro.nil _ _)
          have TB3 := Lib.hid (TB2.out.trans bl7)
          have G3 : Hid (At W3 kl (.cells #[Value.int .i64 y.a, .int .i64 y.o, .int .i64 y.t, .int .u32 y.i, .int .u32 y.v, .int .u32 y.q, .int .i64 y.s, .int .i64 y.n, .slice Ab mB d] 87)) := Lib.hid ((kp7.block kl HL2.out (fun h => by have := Ob.lt HRS.out.row h; have := HKL.out; omega)).trans G2.out)
          clear ro7 bl7 kp7 BLW
          obtain ⟨z0, z1, z2, z3, z4, z5, z6, z7, z8, g0, g1, g2, g3, g4, g5, g6, g7, g8, hz3⟩ := kz9_at G3.out
          go_wp2_with (at_builtin; refine wpList_runb _ rfl (.tmp 28) (.tmp 30) 58 rfl rfl rfl r7 ?_)
          have CFr := dfresh_any y Ab mB d B W3 HMB.out (HBT.out _ TB3.out) (by omega)
          go_wp2_with fail
          refine CFr.mono ?_
          rintro e W4 ⟨A4, c4, rfl, o4, u4⟩
          have G4 : Hid (At W4 kl (.cells #[Value.int .i64 y.a, .int .i64 y.o, .int .i64 y.t, .int .u32 y.i, .int .u32 y.v, .int .u32 y.q, .int .i64 y.s, .int .i64 y.n, .slice Ab mB d] 87)) := Lib.hid (G3.out.step u4)
          have U4 := Lib.hid u4
          have TB4 := Lib.hid (TB3.out.trans (u4.mono TB3.out.size))
          have bx : Bu W4 ⟨y, A4, c4, B⟩ := Bu.of_own (x := ⟨y, A4, c4, B⟩) o4
          obtain ⟨k4, hk4⟩ : ∃ k4, W4.heap.size = k4 := ⟨_, rfl⟩
          obtain ⟨g9, c9, Z9, r9, ro9, bl9, kp9⟩ := aro_app (A := none) (c := 0) (n := 0) (L := []) (AR3.out.step u4) rfl ⟨y, A4, c4, B⟩ bx (by omega) k4 hk4 (Nat.le_trans BL3.out u4.size)
          rw [show (acs ⟨y, A4, c4, B⟩).toArray = #[Value.int .i64 y.a, .int .i64 y.o, .int .i64 y.t, .int .u32 y.i, .int .u32 y.v, .int .u32 y.q, .int .i64 y.s, .int .i64 y.n, .slice A4 mB c4] from by simp [acs, HMB.out]] at r9
          have HR9 := Lib.hid ro9
          have TB9 := Lib.hid (TB4.out.trans (bl9.mono (Nat.le_trans HB3L.out (Nat.le_refl _))))
          have RW9 := Lib.hid ((RW3.out.under (u4.mono BL3.out)).under bl9)
          have BL9 := Lib.hid (Nat.le_trans (Nat.le_trans BL3.out u4.size) bl9.size)
          have G9 : Hid (At Z9 kl (.cells #[Value.int .i64 y.a, .int .i64 y.o, .int .i64 y.t, .int .u32 y.i, .int .u32 y.v, .int .u32 y.q, .int .i64 y.s, .int .i64 y.n, .slice Ab mB d] 87)) := Lib.hid ((kp9.block kl (lt_of_block G4.out) (by intro h; cases h)).trans G4.out)
          clear z0 z1 z2 z3 z4 z5 z6 z7 z8 g0 g1 g2 g3 g4 g5 g6 g7 g8 hz3 y0 y1 y2 y3 y4 y5 y6 y7 y8 f0 f1 f2 f3 f4 f5 f6 f7 f8 hzl CFr o4 u4 bx ro9 bl9 kp9
          obtain ⟨y0, y1, y2, y3, y4, y5, y6, y7, y8, f0, f1, f2, f3, f4, f5, f6, f7, f8, hzl⟩ := kz9_at G9.out
          have hwu : IntKind.i64.wrap (1472 - y.n) = 1472 - y.n := wrap_i64 (by omega) (by omega)
          go_wp2_with (at_builtin; refine wpList_runb _ rfl (.tmp 32) (.tmp 35) 51 rfl rfl rfl r9 ?_)
          go_roundg gf
          case measure => omega
          case rel => exact ⟨k + 1, q + 1, 1, 1472 - y.n, some ⟨g7, 0, none⟩, c7, some ⟨g9, 0, none⟩, c9, rfl, rfl, rfl, by go_num, Lib.hid (by omega), Lib.hid ⟨⟨W3.heap.size, rs ++ [(⟨Al, cl, La⟩ : Sr)], [⟨y, A4, c4, B⟩], by rw [List.length_append, HQ.out]; rfl, rfl, RW9.out, HR9.out, HB3L.out, BL9.out, by rw [HST.out]; simp [cons, con]; omega⟩, HWS.out, TB9.out, by omega⟩⟩
        by_cases hyu : y.n > u
        · have hne : ((m : Int) == 50) = false := by simp; omega
          have hne2 : ¬ ((m : Int) = 50) := by omega
          have HST : Hid (pst (cons (L.take (k + 1))) = ((rs ++ [(⟨Al, cl, La⟩ : Sr)]).map (fun r : Sr => cons r.L), [(y, B)], y.n)) := Lib.hid (by
            rw [HPT.out, pstep, if_pos (by simp only [cons_length, HM.out]; omega)]
            simp [cons])
          obtain ⟨n2, hn2⟩ : ∃ n2, W2.heap.size = n2 := ⟨_, rfl⟩
          have BLW : wr.heap.size ≤ W2.heap.size := T2.out.size
          obtain ⟨g7, c7, W3, r7, ro7, bl7, kp7⟩ := rows_app (HRS.out.under (T2.out.mono HB2.out)) HQ.out (Aro.under HLA.out HB2.out T2.out) (by omega) n2 hn2 (Nat.le_trans HB1.out (Nat.le_trans HB2.out BLW)) (Nat.le_trans HB2.out BLW)
          rw [HM.out] at r7
          have RW3 := Lib.hid ro7
          have BL3 : Hid (W3.heap.size ≤ W3.heap.size) := Lib.hid (Nat.le_refl _)
          have HB3L : Hid (w.heap.size ≤ W3.heap.size) := Lib.hid (Nat.le_trans TB2.out.size bl7.size)
          have AR3 : Hid (Aro W3.heap.size W3 none 0 []) := Lib.hid (Aro.nil _ _)
          have TB3 := Lib.hid (TB2.out.trans bl7)
          have G3 : Hid (At W3 kl (.cells #[Value.int .i64 y.a, .int .i64 y.o, .int .i64 y.t, .int .u32 y.i, .int .u32 y.v, .int .u32 y.q, .int .i64 y.s, .int .i64 y.n, .slice Ab mB d] 87)) := Lib.hid ((kp7.block kl HL2.out (fun h => by have := Ob.lt HRS.out.row h; have := HKL.out; omega)).trans G2.out)
          clear ro7 bl7 kp7 BLW
          obtain ⟨z0, z1, z2, z3, z4, z5, z6, z7, z8, g0, g1, g2, g3, g4, g5, g6, g7, g8, hz3⟩ := kz9_at G3.out
          go_wp2_with (at_builtin; refine wpList_runb _ rfl (.tmp 28) (.tmp 30) 58 rfl rfl rfl r7 ?_)
          have CFr := dfresh_any y Ab mB d B W3 HMB.out (HBT.out _ TB3.out) (by omega)
          go_wp2_with fail
          refine CFr.mono ?_
          rintro e W4 ⟨A4, c4, rfl, o4, u4⟩
          have G4 : Hid (At W4 kl (.cells #[Value.int .i64 y.a, .int .i64 y.o, .int .i64 y.t, .int .u32 y.i, .int .u32 y.v, .int .u32 y.q, .int .i64 y.s, .int .i64 y.n, .slice Ab mB d] 87)) := Lib.hid (G3.out.step u4)
          have U4 := Lib.hid u4
          have TB4 := Lib.hid (TB3.out.trans (u4.mono TB3.out.size))
          have bx : Bu W4 ⟨y, A4, c4, B⟩ := Bu.of_own (x := ⟨y, A4, c4, B⟩) o4
          obtain ⟨k4, hk4⟩ : ∃ k4, W4.heap.size = k4 := ⟨_, rfl⟩
          obtain ⟨g9, c9, Z9, r9, ro9, bl9, kp9⟩ := aro_app (A := none) (c := 0) (n := 0) (L := []) (AR3.out.step u4) rfl ⟨y, A4, c4, B⟩ bx (by omega) k4 hk4 (Nat.le_trans BL3.out u4.size)
          rw [show (acs ⟨y, A4, c4, B⟩).toArray = #[Value.int .i64 y.a, .int .i64 y.o, .int .i64 y.t, .int .u32 y.i, .int .u32 y.v, .int .u32 y.q, .int .i64 y.s, .int .i64 y.n, .slice A4 mB c4] from by simp [acs, HMB.out]] at r9
          have HR9 := Lib.hid ro9
          have TB9 := Lib.hid (TB4.out.trans (bl9.mono (Nat.le_trans HB3L.out (Nat.le_refl _))))
          have RW9 := Lib.hid ((RW3.out.under (u4.mono BL3.out)).under bl9)
          have BL9 := Lib.hid (Nat.le_trans (Nat.le_trans BL3.out u4.size) bl9.size)
          have G9 : Hid (At Z9 kl (.cells #[Value.int .i64 y.a, .int .i64 y.o, .int .i64 y.t, .int .u32 y.i, .int .u32 y.v, .int .u32 y.q, .int .i64 y.s, .int .i64 y.n, .slice Ab mB d] 87)) := Lib.hid ((kp9.block kl (lt_of_block G4.out) (by intro h; cases h)).trans G4.out)
          clear z0 z1 z2 z3 z4 z5 z6 z7 z8 g0 g1 g2 g3 g4 g5 g6 g7 g8 hz3 y0 y1 y2 y3 y4 y5 y6 y7 y8 f0 f1 f2 f3 f4 f5 f6 f7 f8 hzl CFr o4 u4 bx ro9 bl9 kp9
          obtain ⟨y0, y1, y2, y3, y4, y5, y6, y7, y8, f0, f1, f2, f3, f4, f5, f6, f7, f8, hzl⟩ := kz9_at G9.out
          have hwu : IntKind.i64.wrap (1472 - y.n) = 1472 - y.n := wrap_i64 (by omega) (by omega)
          go_wp2_with (at_builtin; refine wpList_runb _ rfl (.tmp 32) (.tmp 35) 51 rfl rfl rfl r9 ?_)
          go_roundg gf
          case measure => omega
          case rel => exact ⟨k + 1, q + 1, 1, 1472 - y.n, some ⟨g7, 0, none⟩, c7, some ⟨g9, 0, none⟩, c9, rfl, rfl, rfl, by go_num, Lib.hid (by omega), Lib.hid ⟨⟨W3.heap.size, rs ++ [(⟨Al, cl, La⟩ : Sr)], [⟨y, A4, c4, B⟩], by rw [List.length_append, HQ.out]; rfl, rfl, RW9.out, HR9.out, HB3L.out, BL9.out, by rw [HST.out]; simp [cons, con]; omega⟩, HWS.out, TB9.out, by omega⟩⟩
        · have hne : ((m : Int) == 50) = false := by simp; omega
          have hne2 : ¬ ((m : Int) = 50) := by omega
          have HST : Hid (pst (cons (L.take (k + 1))) = (rs.map (fun r : Sr => cons r.L), cons La ++ [(y, B)], 1472 - (u - y.n))) := Lib.hid (by
            rw [HPT.out, pstep, if_neg (by simp only [cons_length, HM.out]; omega)]
            simp only [Prod.mk.injEq, true_and]
            omega)
          have RW2 := Lib.hid (HRS.out.under (T2.out.mono HB2.out))
          have BL2 := Lib.hid (Nat.le_trans HB2.out T2.out.size)
          have AR2 := Lib.hid (Aro.under HLA.out HB2.out T2.out)
          have HB2L := HB1
          have CFr := dfresh_any y Ab mB d B W2 HMB.out (HBT.out _ TB2.out) (by omega)
          go_wp2_with fail
          refine CFr.mono ?_
          rintro e W4 ⟨A4, c4, rfl, o4, u4⟩
          have G4 : Hid (At W4 kl (.cells #[Value.int .i64 y.a, .int .i64 y.o, .int .i64 y.t, .int .u32 y.i, .int .u32 y.v, .int .u32 y.q, .int .i64 y.s, .int .i64 y.n, .slice Ab mB d] 87)) := Lib.hid (G2.out.step u4)
          have U4 := Lib.hid u4
          have TB4 := Lib.hid (TB2.out.trans (u4.mono TB2.out.size))
          have bx : Bu W4 ⟨y, A4, c4, B⟩ := Bu.of_own (x := ⟨y, A4, c4, B⟩) o4
          obtain ⟨k4, hk4⟩ : ∃ k4, W4.heap.size = k4 := ⟨_, rfl⟩
          obtain ⟨g9, c9, Z9, r9, ro9, bl9, kp9⟩ := aro_app (A := Al) (c := cl) (n := m) (L := La) (AR2.out.step u4) HM.out ⟨y, A4, c4, B⟩ bx (by omega) k4 hk4 (Nat.le_trans BL2.out u4.size)
          rw [show (acs ⟨y, A4, c4, B⟩).toArray = #[Value.int .i64 y.a, .int .i64 y.o, .int .i64 y.t, .int .u32 y.i, .int .u32 y.v, .int .u32 y.q, .int .i64 y.s, .int .i64 y.n, .slice A4 mB c4] from by simp [acs, HMB.out]] at r9
          have HR9 := Lib.hid ro9
          have TB9 := Lib.hid (TB4.out.trans (bl9.mono (Nat.le_trans HB2L.out (Nat.le_refl _))))
          have RW9 := Lib.hid ((RW2.out.under (u4.mono BL2.out)).under bl9)
          have BL9 := Lib.hid (Nat.le_trans (Nat.le_trans BL2.out u4.size) bl9.size)
          have G9 : Hid (At Z9 kl (.cells #[Value.int .i64 y.a, .int .i64 y.o, .int .i64 y.t, .int .u32 y.i, .int .u32 y.v, .int .u32 y.q, .int .i64 y.s, .int .i64 y.n, .slice Ab mB d] 87)) := Lib.hid ((kp9.block kl (lt_of_block G4.out) (by intro h; have := Ob.lt HLA.out.row h; have := HKL.out; omega)).trans G4.out)
          clear y0 y1 y2 y3 y4 y5 y6 y7 y8 f0 f1 f2 f3 f4 f5 f6 f7 f8 hzl CFr o4 u4 bx ro9 bl9 kp9
          obtain ⟨y0, y1, y2, y3, y4, y5, y6, y7, y8, f0, f1, f2, f3, f4, f5, f6, f7, f8, hzl⟩ := kz9_at G9.out
          have hwu : IntKind.i64.wrap (u - y.n) = u - y.n := wrap_i64 (by omega) (by omega)
          go_wp2_with (at_builtin; refine wpList_runb _ rfl (.tmp 32) (.tmp 35) 51 rfl rfl rfl r9 ?_)
          go_roundg gf
          case measure => omega
          case rel => exact ⟨k + 1, q, m + 1, u - y.n, Ao, co, some ⟨g9, 0, none⟩, c9, rfl, rfl, rfl, by go_num, Lib.hid (by omega), Lib.hid ⟨⟨bl, rs, La ++ [⟨y, A4, c4, B⟩], HQ.out, by rw [List.length_append, HM.out]; rfl, RW9.out, HR9.out, HB1.out, BL9.out, by rw [HST.out, cons_snoc]; rfl⟩, HWS.out, TB9.out, by omega⟩⟩
end Go.Proofs.Ytefbpaebimagaaa
