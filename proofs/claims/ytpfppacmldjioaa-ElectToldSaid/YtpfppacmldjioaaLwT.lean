/-
  The walk of ElectTold. No statement is proved here; no conditions.
-/
import Derived.Test.YtpfppacmldjioaaCy
namespace Go.Proofs.Ytpfppacmldjioaa
open Go.RowKit Go.Joins

set_option maxRecDepth 100000 in
set_option maxHeartbeats 4000000 in
theorem told_walk (A0 : Option Addr) (n c : Nat) (L : List Ca) (o : Int) (w : World) (hn : L.length = n) (hw : Okws L) (hl : Cr w A0 L) :
    Calls Try.prog 3 #[.slice A0 n c, .int .u32 o] w fun e w' => e = .returned (.bool true) ∧ Below w.heap.size w w' := by
  rcases Nat.lt_or_ge 60 n with h60 | h60
  · have d0 : decide ((n : Int) > 60) = true := by simp; omega
    have CA := alive_any w
    clear hl hn hw h60
    go_enter Try.func3, Try.ntmps3
    go_wp2_with fail
    refine CA.mono ?_
    rintro e W1 ⟨rfl, u1⟩
    go_wp2
    go_ret
    exact ⟨rfl, u1⟩
  have d0 : decide ((n : Int) > 60) = false := by simp; omega
  obtain ⟨W0, hW0⟩ : ∃ V, w.alloc (.cells #[] 40) = V := ⟨_, rfl⟩
  obtain ⟨A1, c1, W1, r1, o1, u1⟩ := copy_run A0 n c L w W0 hn hl (by omega) hW0
  have O1 := o1.cr
  have h1k : n ≤ 1000 := by omega
  have T1 := Lib.hid u1
  have RW : Hid (∀ V, Below w.heap.size w V → _) := Lib.hid (fun V hV => rows_any A0 n c L V hn (hl.step hV) h1k)
  have RK : Hid (∀ V, Below W1.heap.size W1 V → _) := Lib.hid (fun V hV => rows_any A1 n c1 L V hn (O1.step hV) h1k)
  have CT : Hid (∀ V, Below W1.heap.size W1 V → _) := Lib.hid (fun V hV => turn_any A1 n c1 L V hn (O1.step hV) hw)
  have CEl : Hid (∀ V, Below W1.heap.size W1 V → _) := Lib.hid (fun V hV => elect_any A1 n c1 L o V hn (O1.step hV) hw)
  have CS : Hid (∀ V, Below W1.heap.size W1 V → _) := Lib.hid (fun V hV => speaker_any A1 n c1 L V hn (O1.step hV) hw)
  have CW : Hid (∀ V, Below W1.heap.size W1 V → _) := Lib.hid (fun V hV => wins_any A1 n c1 L o V hn (O1.step hV) hw)
  have CAl : Hid (∀ V, _) := Lib.hid (fun V => alive_any V)
  have HWN : Hid (wns L o = (decide (o ≠ 0) && decide (o = spk L))) := Lib.hid rfl
  have HN := Lib.hid hn
  have H1K := Lib.hid h1k
  have B1 : Hid (Below W1.heap.size W1 W1) := Lib.hid (Below.refl _ _)
  obtain ⟨vs, hvs⟩ : ∃ v, spk L = v := ⟨_, rfl⟩
  have HVS := Lib.hid hvs
  rw [hvs] at HWN
  simp only [hvs] at CS
  have K2 := CT.out _ B1.out
  clear hl hn hw h60 o1 u1 O1 h1k hvs
  go_enter Try.func3, Try.ntmps3
  go_wp2_with (at_builtin; refine wpList_runb _ rfl (.tmp 19) (.tmp 20) 22 rfl rfl rfl r1 ?_)
  refine K2.mono ?_
  rintro e W2 ⟨rfl, u2⟩
  have T2 := Lib.hid (T1.out.trans (u2.mono T1.out.size))
  have B2 := Lib.hid (B1.out.trans (u2.mono B1.out.size))
  have K3 := RW.out _ T2.out
  clear u2 K2 r1 hW0
  go_wp2_with fail
  refine K3.mono ?_
  rintro e W3 ⟨A3, c3, rfl, o3, u3⟩
  have T3 := Lib.hid (T2.out.trans (u3.mono T2.out.size))
  have B3 := Lib.hid (B2.out.trans (u3.mono B2.out.size))
  have K4 := rTurn_any A3 n c3 L W3 HN.out o3.cr
  clear u3 o3 K3
  go_wp2_with fail
  refine K4.mono ?_
  rintro e W4 ⟨rfl, u4⟩
  have T4 := Lib.hid (T3.out.trans (u4.mono T3.out.size))
  have B4 := Lib.hid (B3.out.trans (u4.mono B3.out.size))
  have K5 := CEl.out _ B4.out
  clear u4 K4
  go_wp2_with fail
  refine K5.mono ?_
  rintro e W5 ⟨rfl, u5⟩
  have T5 := Lib.hid (T4.out.trans (u5.mono T4.out.size))
  have B5 := Lib.hid (B4.out.trans (u5.mono B4.out.size))
  have K6 := RW.out _ T5.out
  clear u5 K5
  go_wp2_with fail
  refine K6.mono ?_
  rintro e W6 ⟨A6, c6, rfl, o6, u6⟩
  have T6 := Lib.hid (T5.out.trans (u6.mono T5.out.size))
  have B6 := Lib.hid (B5.out.trans (u6.mono B5.out.size))
  have K7 := relect_any A6 n c6 L o W6 HN.out o6.cr
  clear u6 o6 K6
  go_wp2_with fail
  refine K7.mono ?_
  rintro e W7 ⟨rfl, u7⟩
  have T7 := Lib.hid (T6.out.trans (u7.mono T6.out.size))
  have B7 := Lib.hid (B6.out.trans (u7.mono B6.out.size))
  have K8 := RW.out _ T7.out
  clear u7 K7
  go_wp2_with fail
  refine K8.mono ?_
  rintro e W8 ⟨A8, c8, rfl, o8, u8⟩
  have T8 := Lib.hid (T7.out.trans (u8.mono T7.out.size))
  have B8 := Lib.hid (B7.out.trans (u8.mono B7.out.size))
  have K9 := rspeaker_any A8 n c8 L W8 HN.out o8.cr
  rw [HVS.out] at K9
  clear u8 o8 K8
  go_wp2_with fail
  refine K9.mono ?_
  rintro e W9 ⟨rfl, u9⟩
  have T9 := Lib.hid (T8.out.trans (u9.mono T8.out.size))
  have B9 := Lib.hid (B8.out.trans (u9.mono B8.out.size))
  have K10 := CAl.out W9
  clear u9 K9
  go_wp2_with fail
  refine K10.mono ?_
  rintro e W10 ⟨rfl, u10⟩
  have T10 := Lib.hid (T9.out.trans (u10.mono T9.out.size))
  have B10 := Lib.hid (B9.out.trans (u10.mono B9.out.size))
  have K11 := CS.out _ B10.out
  clear u10 K10
  go_wp2_with fail
  refine K11.mono ?_
  rintro e W11 ⟨rfl, u11⟩
  have T11 := Lib.hid (T10.out.trans (u11.mono T10.out.size))
  have B11 := Lib.hid (B10.out.trans (u11.mono B10.out.size))
  have K12 := CW.out _ B11.out
  clear u11 K11
  by_cases h0 : o = 0
  · have z0 : (o != 0) = false := by simp [h0]
    rw [show wns L o = false from by rw [HWN.out]; simp [h0]] at K12
    clear h0
    go_wp2_with fail
    refine K12.mono ?_
    rintro e W12 ⟨rfl, u12⟩
    have T12 := Lib.hid (T11.out.trans (u12.mono T11.out.size))
    have B12 := Lib.hid (B11.out.trans (u12.mono B11.out.size))
    have K13 := RK.out _ B12.out
    clear u12 K12
    go_wp2_with fail
    refine K13.mono ?_
    rintro e W13 ⟨A13, c13, rfl, o13, u13⟩
    have T13 := Lib.hid (T12.out.trans (u13.mono T12.out.size))
    have B13 := Lib.hid (B12.out.trans (u13.mono B12.out.size))
    have O13 := Lib.hid o13.cr
    have K14 := RW.out _ T13.out
    clear u13 o13 K13
    go_wp2_with fail
    refine K14.mono ?_
    rintro e W14 ⟨A14, c14, rfl, o14, u14⟩
    have T14 := Lib.hid (T13.out.trans (u14.mono T13.out.size))
    have K15 := same_any A13 A14 n c13 c14 L W14 HN.out (O13.out.step u14) o14.cr H1K.out
    clear u14 o14 K14
    go_wp2_with fail
    refine K15.mono ?_
    rintro e W15 ⟨rfl, u15⟩
    have T15 := Lib.hid (T14.out.trans (u15.mono T14.out.size))
    clear u15 K15
    go_wp2
    go_ret
    exact ⟨rfl, T15.out⟩
  · have z0 : (o != 0) = true := by simpa using h0
    by_cases h1 : o = vs
    · have z1 : (o == vs) = true := by simp [h1]
      rw [show wns L o = true from by rw [HWN.out]; simp [h0]; exact h1] at K12
      clear h0 h1
      go_wp2_with fail
      refine K12.mono ?_
      rintro e W12 ⟨rfl, u12⟩
      have T12 := Lib.hid (T11.out.trans (u12.mono T11.out.size))
      have B12 := Lib.hid (B11.out.trans (u12.mono B11.out.size))
      have K13 := RK.out _ B12.out
      clear u12 K12
      go_wp2_with fail
      refine K13.mono ?_
      rintro e W13 ⟨A13, c13, rfl, o13, u13⟩
      have T13 := Lib.hid (T12.out.trans (u13.mono T12.out.size))
      have B13 := Lib.hid (B12.out.trans (u13.mono B12.out.size))
      have O13 := Lib.hid o13.cr
      have K14 := RW.out _ T13.out
      clear u13 o13 K13
      go_wp2_with fail
      refine K14.mono ?_
      rintro e W14 ⟨A14, c14, rfl, o14, u14⟩
      have T14 := Lib.hid (T13.out.trans (u14.mono T13.out.size))
      have K15 := same_any A13 A14 n c13 c14 L W14 HN.out (O13.out.step u14) o14.cr H1K.out
      clear u14 o14 K14
      go_wp2_with fail
      refine K15.mono ?_
      rintro e W15 ⟨rfl, u15⟩
      have T15 := Lib.hid (T14.out.trans (u15.mono T14.out.size))
      clear u15 K15
      go_wp2
      go_ret
      exact ⟨rfl, T15.out⟩
    · have z1 : (o == vs) = false := by simpa using h1
      rw [show wns L o = false from by rw [HWN.out]; simp [h1]] at K12
      clear h0 h1
      go_wp2_with fail
      refine K12.mono ?_
      rintro e W12 ⟨rfl, u12⟩
      have T12 := Lib.hid (T11.out.trans (u12.mono T11.out.size))
      have B12 := Lib.hid (B11.out.trans (u12.mono B11.out.size))
      have K13 := RK.out _ B12.out
      clear u12 K12
      go_wp2_with fail
      refine K13.mono ?_
      rintro e W13 ⟨A13, c13, rfl, o13, u13⟩
      have T13 := Lib.hid (T12.out.trans (u13.mono T12.out.size))
      have B13 := Lib.hid (B12.out.trans (u13.mono B12.out.size))
      have O13 := Lib.hid o13.cr
      have K14 := RW.out _ T13.out
      clear u13 o13 K13
      go_wp2_with fail
      refine K14.mono ?_
      rintro e W14 ⟨A14, c14, rfl, o14, u14⟩
      have T14 := Lib.hid (T13.out.trans (u14.mono T13.out.size))
      have K15 := same_any A13 A14 n c13 c14 L W14 HN.out (O13.out.step u14) o14.cr H1K.out
      clear u14 o14 K14
      go_wp2_with fail
      refine K15.mono ?_
      rintro e W15 ⟨rfl, u15⟩
      have T15 := Lib.hid (T14.out.trans (u15.mono T14.out.size))
      clear u15 K15
      go_wp2
      go_ret
      exact ⟨rfl, T15.out⟩
end Go.Proofs.Ytpfppacmldjioaa
