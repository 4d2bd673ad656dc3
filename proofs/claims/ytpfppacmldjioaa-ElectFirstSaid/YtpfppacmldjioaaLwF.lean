/-
  The walk of ElectFirst. No statement is proved here; no conditions.
-/
import Derived.Test.YtpfppacmldjioaaAl3
import Derived.Test.YtpfppacmldjioaaRb
import Derived.Test.YtpfppacmldjioaaFs
namespace Go.Proofs.Ytpfppacmldjioaa
open Go.RowKit Go.Joins

theorem an_snoc (L : List Ca) (x : Ca) : an (L ++ [x]) = (an L || decide (0 < x.p)) := by simp [an]
set_option maxRecDepth 100000 in
set_option maxHeartbeats 4000000 in
theorem first_walk (A0 : Option Addr) (n c : Nat) (L : List Ca) (o : Int) (w : World) (hn : L.length = n) (hw : Okws L) (hl : Cr w A0 L) (hbig : n * 24 ≤ 140737488355328) :
    Calls Try.prog 6 #[.slice A0 n c, .int .u32 o] w fun e w' => e = .returned (.bool true) ∧ Below w.heap.size w w' := by
  have K1 := rowsB_any A0 n c L w hn hl hbig
  have CT : Hid (∀ V, Below w.heap.size w V → _) := Lib.hid (fun V hV => turn_any A0 n c L V hn (hl.step hV) hw)
  have CEl : Hid (∀ V, Below w.heap.size w V → _) := Lib.hid (fun V hV => elect_any A0 n c L o V hn (hl.step hV) hw)
  have CS : Hid (∀ V, Below w.heap.size w V → _) := Lib.hid (fun V hV => speaker_any A0 n c L V hn (hl.step hV) hw)
  have CAl : Hid (∀ V, _) := Lib.hid (fun V => alive_any V)
  have HN := Lib.hid hn
  have HL := Lib.hid hl
  clear hl hn hw hbig
  go_enter Try.func6, Try.ntmps6
  go_wp2_with fail
  refine K1.mono ?_
  rintro e W1 ⟨A1, c1, rfl, o1, u1⟩
  have T1 := Lib.hid u1
  have K2 := rmay_any A1 n c1 L W1 HN.out o1.cr
  clear u1 o1 K1
  cases hm : mayl L
  · rw [hm] at K2
    clear hm
    go_wp2_with fail
    refine K2.mono ?_
    rintro e W2 ⟨rfl, u2⟩
    have T2 := Lib.hid (T1.out.trans (u2.mono T1.out.size))
    have K3 := CAl.out W2
    clear u2 K2
    go_wp2_with fail
    refine K3.mono ?_
    rintro e W3 ⟨rfl, u3⟩
    go_wp2
    go_ret
    exact ⟨rfl, T2.out.trans (u3.mono T2.out.size)⟩
  have H1K : Hid (n ≤ 1000) := Lib.hid (by have := (may_gd hm).2; have := HN.out; omega)
  have CH : Hid (∀ v V, Below w.heap.size w V → _) := Lib.hid (fun v V hV => has_any A0 n c L v V HN.out (HL.out.step hV) H1K.out)
  have hF := first_all o hm
  obtain ⟨vd, hvd⟩ : ∃ v, tD L = v := ⟨_, rfl⟩
  obtain ⟨vb, hvb⟩ : ∃ v, tB L = v := ⟨_, rfl⟩
  obtain ⟨vx, hvx⟩ : ∃ v, eD L o = v := ⟨_, rfl⟩
  obtain ⟨vy, hvy⟩ : ∃ v, eB L o = v := ⟨_, rfl⟩
  obtain ⟨vs, hvs⟩ : ∃ v, spk L = v := ⟨_, rfl⟩
  obtain ⟨f1, f2, f3, f4, f5, f6, f7⟩ := hF
  rw [hvd] at f1 f5
  rw [hvb] at f2
  rw [hvx] at f3 f6
  rw [hvy] at f4
  rw [hvs] at f7
  simp only [hvd, hvb] at CT
  simp only [hvx, hvy] at CEl
  simp only [hvs] at CS
  rw [hm] at K2
  have F1 := Lib.hid f1
  have F2 := Lib.hid f2
  have F3 := Lib.hid f3
  have F4 := Lib.hid f4
  have F5 := Lib.hid f5
  have F6 := Lib.hid f6
  have F7 := Lib.hid f7
  clear hm hvd hvb hvx hvy hvs f1 f2 f3 f4 f5 f6 f7
  go_wp2_with fail
  refine K2.mono ?_
  rintro e W2 ⟨rfl, u2⟩
  have T2 := Lib.hid (T1.out.trans (u2.mono T1.out.size))
  have K3 := CT.out _ T2.out
  clear u2 K2
  go_wp2_with fail
  refine K3.mono ?_
  rintro e W3 ⟨rfl, u3⟩
  have T3 := Lib.hid (T2.out.trans (u3.mono T2.out.size))
  clear u3 K3
  go_wp2_with fail
  go_loopg [7, 8] n (fun gf v7 v8 wx => ∃ (k : Nat) (va : Bool), v7 = .bool va ∧ v8 = .int .i64 (k : Int) ∧ Hid (gf + k = n) ∧ Hid (an (L.take k) = va) ∧ Hid (Below w.heap.size w wx))
  case atStart => exact ⟨0, _, rfl, rfl, Lib.hid (by omega), Lib.hid rfl, T3⟩
  case round =>
    obtain ⟨k, va, rfl, rfl, hk, hva, hb⟩ := hrel
    have hk' := hk.out
    clear T1 T2 T3
    cases gk with
    | zero =>
      have e1 : k = n := by omega
      have lt0 : decide ((k : Int) < (n : Int)) = false := by simp; omega
      have lt1 : decide (k < n) = false := by simp; omega
      have ha : an L = va := by
        have q := hva.out
        rw [List.take_of_length_le (by rw [HN.out]; omega)] at q
        exact q
      have f5 := F5.out
      have f6 := F6.out
      have f7 := F7.out
      rw [ha] at f5 f6 f7
      have HA := Lib.hid ha
      subst e1
      clear ha hva
      have K5 := CEl.out _ hb.out
      cases va
      · have g2 : (vb != 0) = false := by
          by_cases q : vb = 0
          · simp [q]
          · have := hs_an (F2.out q); rw [HA.out] at this; cases this
        have g4 : (vy != 0) = false := by
          by_cases q : vy = 0
          · simp [q]
          · have := hs_an (F4.out q); rw [HA.out] at this; cases this
        go_wp2_with fail
        refine K5.mono ?_
        rintro e W5 ⟨rfl, u5⟩
        have T5 := Lib.hid (hb.out.trans (u5.mono hb.out.size))
        clear u5 K5
        have K6 := CAl.out W5
        go_wp2_with fail
        refine K6.mono ?_
        rintro e W6 ⟨rfl, u6⟩
        have T6 := Lib.hid (T5.out.trans (u6.mono T5.out.size))
        have K7 := CS.out _ T6.out
        clear u6 K6
        go_wp2_with fail
        refine K7.mono ?_
        rintro e W7 ⟨rfl, u7⟩
        have T7 := Lib.hid (T6.out.trans (u7.mono T6.out.size))
        clear u7 K7
        go_wp2
        go_ret
        exact ⟨rfl, T7.out⟩
      · have q1 := F1.out (by simpa using f5)
        have q3 := F3.out (by simpa using f6)
        have C1 : Hid (∀ V, Below w.heap.size w V → _) := Lib.hid (fun V hV => CH.out vd V hV)
        have C3 : Hid (∀ V, Below w.heap.size w V → _) := Lib.hid (fun V hV => CH.out vx V hV)
        simp only [q1] at C1
        simp only [q3] at C3
        clear q1 q3
        cases g2 : (vb != 0)
        · cases g4 : (vy != 0)
          · skip
            go_wp2_with fail
            refine K5.mono ?_
            rintro e W5 ⟨rfl, u5⟩
            have T5 := Lib.hid (hb.out.trans (u5.mono hb.out.size))
            clear u5 K5
            have K6 := C1.out _ T5.out
            go_wp2_with fail
            refine K6.mono ?_
            rintro e W6 ⟨rfl, u6⟩
            have T6 := Lib.hid (T5.out.trans (u6.mono T5.out.size))
            have K7 := C3.out _ T6.out
            clear u6 K6
            go_wp2_with fail
            refine K7.mono ?_
            rintro e W7 ⟨rfl, u7⟩
            have T7 := Lib.hid (T6.out.trans (u7.mono T6.out.size))
            have K8 := CAl.out W7
            clear u7 K7
            go_wp2_with fail
            refine K8.mono ?_
            rintro e W8 ⟨rfl, u8⟩
            have T8 := Lib.hid (T7.out.trans (u8.mono T7.out.size))
            have K9 := CS.out _ T8.out
            clear u8 K8
            go_wp2_with fail
            refine K9.mono ?_
            rintro e W9 ⟨rfl, u9⟩
            have T9 := Lib.hid (T8.out.trans (u9.mono T8.out.size))
            clear u9 K9
            go_wp2
            go_ret
            exact ⟨rfl, T9.out⟩
          · skip
            have q4 := F4.out (by simpa using g4)
            have C4 : Hid (∀ V, Below w.heap.size w V → _) := Lib.hid (fun V hV => CH.out vy V hV)
            simp only [q4] at C4
            clear q4
            go_wp2_with fail
            refine K5.mono ?_
            rintro e W5 ⟨rfl, u5⟩
            have T5 := Lib.hid (hb.out.trans (u5.mono hb.out.size))
            clear u5 K5
            have K6 := C1.out _ T5.out
            go_wp2_with fail
            refine K6.mono ?_
            rintro e W6 ⟨rfl, u6⟩
            have T6 := Lib.hid (T5.out.trans (u6.mono T5.out.size))
            have K7 := C3.out _ T6.out
            clear u6 K6
            go_wp2_with fail
            refine K7.mono ?_
            rintro e W7 ⟨rfl, u7⟩
            have T7 := Lib.hid (T6.out.trans (u7.mono T6.out.size))
            have K8 := C4.out _ T7.out
            clear u7 K7
            go_wp2_with fail
            refine K8.mono ?_
            rintro e W8 ⟨rfl, u8⟩
            have T8 := Lib.hid (T7.out.trans (u8.mono T7.out.size))
            have K9 := CAl.out W8
            clear u8 K8
            go_wp2_with fail
            refine K9.mono ?_
            rintro e W9 ⟨rfl, u9⟩
            have T9 := Lib.hid (T8.out.trans (u9.mono T8.out.size))
            have K10 := CS.out _ T9.out
            clear u9 K9
            go_wp2_with fail
            refine K10.mono ?_
            rintro e W10 ⟨rfl, u10⟩
            have T10 := Lib.hid (T9.out.trans (u10.mono T9.out.size))
            clear u10 K10
            go_wp2
            go_ret
            exact ⟨rfl, T10.out⟩
        · cases g4 : (vy != 0)
          · skip
            have q2 := F2.out (by simpa using g2)
            have C2 : Hid (∀ V, Below w.heap.size w V → _) := Lib.hid (fun V hV => CH.out vb V hV)
            simp only [q2] at C2
            clear q2
            go_wp2_with fail
            refine K5.mono ?_
            rintro e W5 ⟨rfl, u5⟩
            have T5 := Lib.hid (hb.out.trans (u5.mono hb.out.size))
            clear u5 K5
            have K6 := C1.out _ T5.out
            go_wp2_with fail
            refine K6.mono ?_
            rintro e W6 ⟨rfl, u6⟩
            have T6 := Lib.hid (T5.out.trans (u6.mono T5.out.size))
            have K7 := C2.out _ T6.out
            clear u6 K6
            go_wp2_with fail
            refine K7.mono ?_
            rintro e W7 ⟨rfl, u7⟩
            have T7 := Lib.hid (T6.out.trans (u7.mono T6.out.size))
            have K8 := C3.out _ T7.out
            clear u7 K7
            go_wp2_with fail
            refine K8.mono ?_
            rintro e W8 ⟨rfl, u8⟩
            have T8 := Lib.hid (T7.out.trans (u8.mono T7.out.size))
            have K9 := CAl.out W8
            clear u8 K8
            go_wp2_with fail
            refine K9.mono ?_
            rintro e W9 ⟨rfl, u9⟩
            have T9 := Lib.hid (T8.out.trans (u9.mono T8.out.size))
            have K10 := CS.out _ T9.out
            clear u9 K9
            go_wp2_with fail
            refine K10.mono ?_
            rintro e W10 ⟨rfl, u10⟩
            have T10 := Lib.hid (T9.out.trans (u10.mono T9.out.size))
            clear u10 K10
            go_wp2
            go_ret
            exact ⟨rfl, T10.out⟩
          · skip
            have q2 := F2.out (by simpa using g2)
            have C2 : Hid (∀ V, Below w.heap.size w V → _) := Lib.hid (fun V hV => CH.out vb V hV)
            simp only [q2] at C2
            clear q2
            have q4 := F4.out (by simpa using g4)
            have C4 : Hid (∀ V, Below w.heap.size w V → _) := Lib.hid (fun V hV => CH.out vy V hV)
            simp only [q4] at C4
            clear q4
            go_wp2_with fail
            refine K5.mono ?_
            rintro e W5 ⟨rfl, u5⟩
            have T5 := Lib.hid (hb.out.trans (u5.mono hb.out.size))
            clear u5 K5
            have K6 := C1.out _ T5.out
            go_wp2_with fail
            refine K6.mono ?_
            rintro e W6 ⟨rfl, u6⟩
            have T6 := Lib.hid (T5.out.trans (u6.mono T5.out.size))
            have K7 := C2.out _ T6.out
            clear u6 K6
            go_wp2_with fail
            refine K7.mono ?_
            rintro e W7 ⟨rfl, u7⟩
            have T7 := Lib.hid (T6.out.trans (u7.mono T6.out.size))
            have K8 := C3.out _ T7.out
            clear u7 K7
            go_wp2_with fail
            refine K8.mono ?_
            rintro e W8 ⟨rfl, u8⟩
            have T8 := Lib.hid (T7.out.trans (u8.mono T7.out.size))
            have K9 := C4.out _ T8.out
            clear u8 K8
            go_wp2_with fail
            refine K9.mono ?_
            rintro e W9 ⟨rfl, u9⟩
            have T9 := Lib.hid (T8.out.trans (u9.mono T8.out.size))
            have K10 := CAl.out W9
            clear u9 K9
            go_wp2_with fail
            refine K10.mono ?_
            rintro e W10 ⟨rfl, u10⟩
            have T10 := Lib.hid (T9.out.trans (u10.mono T9.out.size))
            have K11 := CS.out _ T10.out
            clear u10 K10
            go_wp2_with fail
            refine K11.mono ?_
            rintro e W11 ⟨rfl, u11⟩
            have T11 := Lib.hid (T10.out.trans (u11.mono T10.out.size))
            clear u11 K11
            go_wp2
            go_ret
            exact ⟨rfl, T11.out⟩
    | succ gf =>
      have hkl : k < L.length := by rw [HN.out]; omega
      have lt0 : (k : Int) < (n : Int) := by omega
      have hw1 : (k : Int) + 1 ≤ 10000 := by have := H1K.out; omega
      obtain ⟨b, off, hA, _, e0, e1, e2, e3⟩ := crd_at (HL.out.step hb.out) hkl
      have HX := Lib.hid (ctake hkl)
      obtain ⟨x, hx⟩ : ∃ x, cg L k = x := ⟨_, rfl⟩
      rw [hx] at e0 e1 e2 e3 HX
      subst hA
      clear hx hkl
      by_cases hp : 0 < x.p
      · have z0 : decide (x.p > 0) = true := by simpa using hp
        have HQ : Hid (an (L.take (k + 1)) = true) := Lib.hid (by rw [HX.out, an_snoc]; simp [hp])
        clear hp
        go_wp2
        go_roundg gf
        case measure => omega
        case rel => exact ⟨k + 1, true, rfl, by go_num, Lib.hid (by omega), HQ, hb⟩
      · have z0 : decide (x.p > 0) = false := by simpa using hp
        have HQ : Hid (an (L.take (k + 1)) = va) := Lib.hid (by rw [HX.out, an_snoc, hva.out]; simp [hp])
        clear hp
        go_wp2
        go_roundg gf
        case measure => omega
        case rel => exact ⟨k + 1, va, rfl, by go_num, Lib.hid (by omega), HQ, hb⟩
end Go.Proofs.Ytpfppacmldjioaa
