/-
  The walk of the law DbdAck. No statement is proved here; no conditions.
-/
import Derived.Test.YtefbpaebimagaaaAl
import Derived.Test.YtefbpaebimagaaaKb
namespace Go.Proofs.Ytefbpaebimagaaa
open Go.RowKit Go.Joins

set_option maxRecDepth 100000 in
set_option maxHeartbeats 8000000 in
theorem ack_walk (A : Option Addr) (n c : Nat) (L : List Hd) (B : Option Addr) (nb cb : Nat) (l : List Int) (w : World) (hn : L.length = n) (ok : ∀ x ∈ L, Okd x) (hr : hRr w A L) (hnb : l.length = nb) (hb : Bt w B l) (hy : Byt l) (hc : nb ≤ cb) :
    Calls Try.prog 5 #[.slice A n c, .slice B nb cb] w fun e w' => e = .returned (.bool true) ∧ Below w.heap.size w w' := by
  by_cases h1 : 110 < n
  · have h2 : (n : Int) > 110 := by omega
    clear hn hb hy hc hr ok hnb h1
    go_enter Try.func5, Try.ntmps5
    go_wp2_with fail
    refine (alive_any _).mono ?_
    rintro e V1 ⟨rfl, hv1⟩
    go_wp2
    go_ret
    exact ⟨rfl, hv1⟩
  have h2 : ¬ ((n : Int) > 110) := by omega
  by_cases h3 : 1600 < nb
  · have h4 : (nb : Int) > 1600 := by omega
    clear hn hb hy hc hr ok hnb h1 h3
    go_enter Try.func5, Try.ntmps5
    go_wp2_with fail
    refine (alive_any _).mono ?_
    rintro e V1 ⟨rfl, hv1⟩
    go_wp2
    go_ret
    exact ⟨rfl, hv1⟩
  have h4 : ¬ ((nb : Int) > 1600) := by omega
  obtain ⟨X, hX⟩ : ∃ X, phL L 1 70 = X := ⟨_, rfl⟩
  obtain ⟨mX, hmX⟩ : ∃ mX, X.length = mX := ⟨_, rfl⟩
  obtain ⟨E, hE⟩ : ∃ E, phE L 1 70 = E := ⟨_, rfl⟩
  have yX : Byt X := by rw [← hX]; exact ph_byt _ _ _
  have lX : mX ≤ 5000 := by rw [← hmX, ← hX]; have := ph_len L 1 70; omega
  have C1 := fun V hV => putack_any A n c L V hn ok hV (by omega)
  have C2 := fun V hV => rputack_any A n c L V hn ok hV (by omega)
  rw [hX, hE, hmX] at C1 C2
  have C3 := fun V hV => takeack_any B nb cb l V hnb hV hy hc (by omega)
  have C4 := fun V hV => rtakeack_any B nb cb l V hnb hV hy hc (by omega)
  have C5 := fun V A' c' hV hc' => takeack_any A' mX c' X V hmX hV yX hc' lX
  have HBA0 : E = 0 → thE X 1 70 = 0 ∧ thL X 1 70 = L := fun h => by rw [← hX]; exact th_ph ok (hE.trans h)
  have hul : (thL l 1 70).length ≤ 10000 := by have := th_len l 1 70 ; omega
  generalize thE l 1 70 = G at *
  generalize thL l 1 70 = U at *
  generalize thE X 1 70 = I at *
  generalize thL X 1 70 = U5 at *
  obtain ⟨mU, hmU⟩ : ∃ m, U.length = m := ⟨_, rfl⟩
  rw [hmU] at C3 C4 hul
  obtain ⟨m5, hm5⟩ : ∃ m, U5.length = m := ⟨_, rfl⟩
  rw [hm5] at C5
  have C6 := fun V (A1 A2 : Option Addr) (c1 c2 : Nat) h1 h2 => heads_any A1 A2 n c1 c2 L V hn h1 h2 (by omega)
  have C7 := fun V (A1 A2 : Option Addr) (c1 c2 : Nat) h1 h2 => heads_any A1 A2 mU c1 c2 U V hmU h1 h2 hul
  have HBA : Hid (E = 0 → I = 0 ∧ m5 = n ∧ U5 = L) := Lib.hid (fun h => by obtain ⟨q1, q2⟩ := HBA0 h; exact ⟨q1, by rw [← hm5, q2, hn], q2⟩)
  have HMX := Lib.hid hmX
  have HR : Hid (∀ V, Below w.heap.size w V → hRr V A L) := Lib.hid (fun V hV => hr.step hV)
  have HBB : Hid (∀ V, Below w.heap.size w V → Bt V B l) := Lib.hid (fun V hV => Bs.step hb hV)
  clear hX hmX hE yX lX HBA0 hul hmU hm5 hn ok hr hnb hb hy hc h1 h3
  go_enter Try.func5, Try.ntmps5
  go_wp2_with fail
  refine (C1 w (HR.out _ (Below.refl _ _))).mono ?_
  rintro e Y1 ⟨A1, c1, rfl, o1, u1⟩
  have T1 := Lib.hid u1
  have Q1 : Hid (∀ V, Below Y1.heap.size Y1 V → Bt V A1 X) := Lib.hid (fun V hV => Bs.step o1.bs hV)
  have D1 : Hid (mX ≤ c1) := Lib.hid (by have := o1.cap_le; rwa [HMX.out] at this)
  clear o1 u1
  go_wp2_with fail
  refine (C2 Y1 (HR.out _ T1.out)).mono ?_
  rintro e Y2 ⟨A2, c2, rfl, o2, u2⟩
  have T2 := Lib.hid (T1.out.trans (u2.mono T1.out.size))
  have T12 : Hid (Below Y1.heap.size Y1 Y2) := Lib.hid u2
  have Q2 : Hid (∀ V, Below Y2.heap.size Y2 V → Bt V A2 X) := Lib.hid (fun V hV => Bs.step o2.bs hV)
  clear o2 u2
  go_wp2_with fail
  refine (C3 Y2 (HBB.out _ T2.out)).mono ?_
  rintro e Y3 ⟨A3, c3, rfl, r3, u3⟩
  have T23 : Hid (Below Y2.heap.size Y2 Y3) := Lib.hid u3
  have T3 := Lib.hid (T2.out.trans (u3.mono T2.out.size))
  have R3 : Hid (∀ V, Below Y3.heap.size Y3 V → hRr V A3 U) := Lib.hid (fun V hV => r3.step hV)
  clear r3 u3
  go_wp2_with fail
  refine (C4 Y3 (HBB.out _ T3.out)).mono ?_
  rintro e Y4 ⟨A4, c4, rfl, r4, u4⟩
  have T34 : Hid (Below Y3.heap.size Y3 Y4) := Lib.hid u4
  have R4 : Hid (∀ V, Below Y4.heap.size Y4 V → hRr V A4 U) := Lib.hid (fun V hV => r4.step hV)
  have T24 := Lib.hid (T23.out.trans (u4.mono T23.out.size))
  have T14 := Lib.hid (T12.out.trans (T24.out.mono T12.out.size))
  clear r4 u4
  go_wp2_with fail
  refine (C5 Y4 A1 c1 (Q1.out _ T14.out) D1.out).mono ?_
  rintro e Y5 ⟨A5, c5, rfl, r5, u5⟩
  have T45 : Hid (Below Y4.heap.size Y4 Y5) := Lib.hid u5
  have T35 := Lib.hid (T34.out.trans (u5.mono T34.out.size))
  have T25 := Lib.hid (T24.out.trans (u5.mono T24.out.size))
  have T15 := Lib.hid (T14.out.trans (u5.mono T14.out.size))
  have T05 := Lib.hid (T1.out.trans (T15.out.mono T1.out.size))
  have R5 : Hid (hRr Y5 A5 U5) := Lib.hid r5
  clear r5 u5 C1 C2 C3 C4 C5
  go_upto_region 8 with fail
  go_cut [15] (fun v wx => v = .bool true ∧ ∃ Z, Z = wx ∧ Below Y5.heap.size Y5 Z)
  case first =>
    by_cases hE : E = 0
    · obtain ⟨hI, hm, hU⟩ := HBA.out hE
      subst hE hI hm hU
      have C := C6 Y5 A5 A c5 c R5.out (HR.out _ T05.out)
      clear C6 C7
      go_wp2_with fail
      refine C.mono ?_
      rintro e Y6 ⟨rfl, u6⟩
      go_wp2
      go_meet
      case rel => exact ⟨rfl, _, rfl, u6⟩
    · have d : (E == 0) = false := by simpa using hE
      have d2 : (E != 0) = true := by simp [bne, d]
      clear hE C6 C7
      go_wp2_with fail
      go_meet
      case rel => exact ⟨rfl, _, rfl, Below.refl _ _⟩
  case rest =>
    obtain ⟨rfl, Z, hwc, hz⟩ := hcut
    subst hwc
    have HZ := Lib.hid hz
    clear hz C6
    go_wp2_with fail
    refine (alive_any _).mono ?_
    rintro e V9 ⟨rfl, u9⟩
    have T59 := Lib.hid (HZ.out.trans (u9.mono HZ.out.size))
    have r1 := run_str (P := Try.prog) (w := V9) 26 5 9 Try.underlying26 Try.underlying5 Try.underlying9 _ A1 c1 X (Q1.out _ (T15.out.trans (T59.out.mono T15.out.size)))
    have r2 := run_str (P := Try.prog) (w := V9) 26 5 9 Try.underlying26 Try.underlying5 Try.underlying9 _ A2 c2 X (Q2.out _ (T25.out.trans (T59.out.mono T25.out.size)))
    rw [HMX.out] at r1 r2
    have C := C7 V9 A3 A4 c3 c4 (R3.out _ (T35.out.trans (T59.out.mono T35.out.size))) (R4.out _ (T45.out.trans (T59.out.mono T45.out.size)))
    clear u9 C7
    go_wp2_with fail
    refine C.mono ?_
    rintro e V8 ⟨rfl, u8⟩
    have T9 := Lib.hid (T05.out.trans ((T59.out.trans (u8.mono T59.out.size)).mono T05.out.size))
    clear u8
    go_wp2
    go_ret
    exact ⟨rfl, T9.out⟩
end Go.Proofs.Ytefbpaebimagaaa
