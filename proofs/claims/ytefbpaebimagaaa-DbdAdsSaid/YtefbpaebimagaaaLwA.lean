/-
  The walk of the law DbdAds. No statement is proved here; no conditions.
-/
import Derived.Test.YtefbpaebimagaaaAl
import Derived.Test.YtefbpaebimagaaaRTa
import Derived.Test.YtefbpaebimagaaaSa
namespace Go.Proofs.Ytefbpaebimagaaa
open Go.RowKit Go.Joins

set_option maxRecDepth 100000 in
set_option maxHeartbeats 8000000 in
theorem ads_walk (A : Option Addr) (n c : Nat) (L : List Ae) (B : Option Addr) (nb cb : Nat) (l : List Int) (w : World) (hn : L.length = n) (okx : ∀ x ∈ L, Okd x.h ∧ Byt x.l) (hr : Arr w A L) (hnb : l.length = nb) (hb : Bt w B l) (hy : Byt l) (hc : nb ≤ cb) :
    Calls Try.prog 6 #[.slice A n c, .slice B nb cb] w fun e w' => e = .returned (.bool true) ∧ Below w.heap.size w w' := by
  have S0 := short_any A n c L w hn hr
  cases hs : shq L with
  | false =>
    rw [hs] at S0
    clear hn hb hy hc hr okx hnb hs
    go_enter Try.func6, Try.ntmps6
    go_wp2_with fail
    refine S0.mono ?_
    rintro e Y0 ⟨rfl, u0⟩
    go_wp2_with fail
    refine (alive_any _).mono ?_
    rintro e V1 ⟨rfl, hv1⟩
    go_wp2
    go_ret
    exact ⟨rfl, u0.trans (hv1.mono u0.size)⟩
  | true =>
  rw [hs] at S0
  obtain ⟨h60, hlen⟩ := (shq_iff L).1 hs
  by_cases h3 : 1600 < nb
  · have h4 : (nb : Int) > 1600 := by omega
    clear hn hb hy hc hr okx hnb hs h60 hlen h3
    go_enter Try.func6, Try.ntmps6
    go_wp2_with fail
    refine S0.mono ?_
    rintro e Y0 ⟨rfl, u0⟩
    go_wp2_with fail
    refine (alive_any _).mono ?_
    rintro e V1 ⟨rfl, hv1⟩
    go_wp2
    go_ret
    exact ⟨rfl, u0.trans (hv1.mono u0.size)⟩
  have h4 : ¬ ((nb : Int) > 1600) := by omega
  have ok : Okas (cons L) := fun z hz => by
    obtain ⟨x, hx, rfl⟩ := List.mem_map.1 hz
    exact ⟨(okx x hx).1, (okx x hx).2, hlen x hx⟩
  obtain ⟨X, hX⟩ : ∃ X, puL (cons L) = X := ⟨_, rfl⟩
  obtain ⟨mX, hmX⟩ : ∃ mX, X.length = mX := ⟨_, rfl⟩
  obtain ⟨E, hE⟩ : ∃ E, puE (cons L) = E := ⟨_, rfl⟩
  have yX : Byt X := by rw [← hX]; exact pu_byt ok
  have lX : mX ≤ 4000 := by rw [← hmX, ← hX]; exact pu_len _
  have C1 := fun V hV => putads_any A n c L V hn ok hV (by omega)
  have C2 := fun V hV => rputads_any A n c L V hn ok hV (by omega)
  rw [hX, hE, hmX] at C1 C2
  obtain ⟨G, P, O, hT⟩ : ∃ G P O, taf l = (G, P, O) := ⟨_, _, _, rfl⟩
  obtain ⟨I, P5, O5, hT5⟩ : ∃ G P O, taf X = (G, P, O) := ⟨_, _, _, rfl⟩
  have hPl : P.length ≤ 50 := by have := taf_len l; rwa [hT] at this
  have C3 : ∀ V A' c', Bt V A' l → nb ≤ c' → Calls Try.prog 28 #[.slice A' nb c'] V fun e w' => ∃ A' c' m' L', cons L' = P ∧ L'.length = m' ∧ e = .returned (.tuple #[.slice A' m' c', .int .i64 (O : Int), .int .i64 G]) ∧ Arr w' A' L' ∧ Below V.heap.size V w' := fun V A' c' hV hc' => by
    have := takeads_any A' nb c' l V hnb hV hy hc' (by omega)
    rw [hT] at this
    exact this
  have C4 : ∀ V, Bt V B l → Calls Try.prog 29 #[.slice B nb cb] V fun e w' => ∃ A' c' m' L', cons L' = P ∧ L'.length = m' ∧ e = .returned (.tuple #[.slice A' m' c', .int .i64 (O : Int), .int .i64 G]) ∧ Arr w' A' L' ∧ Below V.heap.size V w' := fun V hV => by
    have := rtakeads_any B nb cb l V hnb hV hy hc (by omega)
    rw [hT] at this
    exact this
  have C5 : ∀ V A' c', Bt V A' X → mX ≤ c' → Calls Try.prog 28 #[.slice A' mX c'] V fun e w' => ∃ A' c' m' L', cons L' = P5 ∧ L'.length = m' ∧ e = .returned (.tuple #[.slice A' m' c', .int .i64 (O5 : Int), .int .i64 I]) ∧ Arr w' A' L' ∧ Below V.heap.size V w' := fun V A' c' hV hc' => by
    have := takeads_any A' mX c' X V hmX hV yX hc' lX
    rw [hT5] at this
    exact this
  have HBA : Hid (E = 0 → I = 0 ∧ P5 = cons L ∧ O5 = 0) := Lib.hid (fun h => by
    have q := taf_puL ok (hE.trans h)
    rw [hX, hT5] at q
    injection q with q1 q2
    injection q2 with q2 q3
    exact ⟨q1, q2, q3⟩)
  have HMX := Lib.hid hmX
  have HN := Lib.hid hn
  have HNB := Lib.hid hnb
  have HPL := Lib.hid hPl
  have HR : Hid (∀ V, Below w.heap.size w V → Arr V A L) := Lib.hid (fun V hV => Arr.step hr hV)
  have HBB : Hid (∀ V, Below w.heap.size w V → Bt V B l) := Lib.hid (fun V hV => Bs.step hb hV)
  obtain ⟨i0, hi0, hz0, hz1, hz2⟩ := info_of info5
  clear hX hmX hE yX lX hT hT5 hPl ok okx hlen hs hn hr hb hy hc h3 hnb
  go_enter Try.func6, Try.ntmps6
  go_wp2_with fail
  refine S0.mono ?_
  rintro e Y0 ⟨rfl, u0⟩
  have S_w_Y0 : Hid (Below w.heap.size w Y0) := Lib.hid (u0)
  obtain ⟨W1, hW1⟩ : ∃ V, Y0.alloc (.cells #[] 5) = V := ⟨_, rfl⟩
  have b1 : Below Y0.heap.size Y0 W1 := by rw [← hW1]; exact below_alloc1 _ _
  have o1 : Own .u8 5 W1 Y0.heap.size (some ⟨Y0.heap.size, 0, none⟩) 0 [] := by rw [← hW1]; exact Own.empty Y0 _ (Nat.le_refl _) _ _
  obtain ⟨A5, c5, W2, rW2, oW2, tW2⟩ := run_apn (P := Try.prog) W1 Y0.heap.size 26 26 5 .u8 i0 _ 1 Try.underlying26 hi0 hz0 hz1 hz2 rfl _ _ _ o1 _ B cb _ (Bs.step (HBB.out _ u0) b1) 0 nb rfl HNB.out (by unfold maxLen; omega) (by omega) b1.size
  simp only [Nat.zero_add, List.nil_append] at rW2 oW2
  have S_Y0_W2 : Hid (Below Y0.heap.size Y0 W2) := Lib.hid (b1.trans tW2)
  have S_w_W2 : Hid (Below w.heap.size w W2) := Lib.hid (S_w_Y0.out.trans (S_Y0_W2.out.mono S_w_Y0.out.size))
  have Q5 : Hid (∀ V, Below W2.heap.size W2 V → Bt V A5 l) := Lib.hid (fun V hV => Bs.step oW2.bs hV)
  have D5 : Hid (nb ≤ c5) := Lib.hid (by have := oW2.cap_le; rwa [HNB.out] at this)
  clear u0 o1 b1 oW2 tW2 S0
  go_wp2_with (at_builtin; refine wpList_runb _ rfl (.tmp 29) (.tmp 30) 26 rfl rfl rfl rW2 ?_)
  clear rW2 hW1
  refine (C1 W2 (HR.out _ S_w_W2.out)).mono ?_
  rintro e Y1 ⟨A1, c1, rfl, o1, u1⟩
  have S_W2_Y1 : Hid (Below W2.heap.size W2 Y1) := Lib.hid (u1)
  have S_w_Y1 : Hid (Below w.heap.size w Y1) := Lib.hid (S_w_W2.out.trans (S_W2_Y1.out.mono S_w_W2.out.size))
  have S_Y0_Y1 : Hid (Below Y0.heap.size Y0 Y1) := Lib.hid (S_Y0_W2.out.trans (S_W2_Y1.out.mono S_Y0_W2.out.size))
  have Q1 : Hid (∀ V, Below Y1.heap.size Y1 V → Bt V A1 X) := Lib.hid (fun V hV => Bs.step o1.bs hV)
  have D1 : Hid (mX ≤ c1) := Lib.hid (by have := o1.cap_le; rwa [HMX.out] at this)
  clear o1 u1
  go_wp2_with fail
  refine (C2 Y1 (HR.out _ S_w_Y1.out)).mono ?_
  rintro e Y2 ⟨A2, c2, rfl, o2, u2⟩
  have S_Y1_Y2 : Hid (Below Y1.heap.size Y1 Y2) := Lib.hid (u2)
  have S_w_Y2 : Hid (Below w.heap.size w Y2) := Lib.hid (S_w_Y1.out.trans (S_Y1_Y2.out.mono S_w_Y1.out.size))
  have S_Y0_Y2 : Hid (Below Y0.heap.size Y0 Y2) := Lib.hid (S_Y0_Y1.out.trans (S_Y1_Y2.out.mono S_Y0_Y1.out.size))
  have S_W2_Y2 : Hid (Below W2.heap.size W2 Y2) := Lib.hid (S_W2_Y1.out.trans (S_Y1_Y2.out.mono S_W2_Y1.out.size))
  have Q2 : Hid (∀ V, Below Y2.heap.size Y2 V → Bt V A2 X) := Lib.hid (fun V hV => Bs.step o2.bs hV)
  clear o2 u2
  go_wp2_with fail
  refine (C3 Y2 A5 c5 (Q5.out _ S_W2_Y2.out) D5.out).mono ?_
  rintro e Y3 ⟨A3, c3, m3, L3, hc3, hm3, rfl, r3, u3⟩
  have S_Y2_Y3 : Hid (Below Y2.heap.size Y2 Y3) := Lib.hid (u3)
  have S_w_Y3 : Hid (Below w.heap.size w Y3) := Lib.hid (S_w_Y2.out.trans (S_Y2_Y3.out.mono S_w_Y2.out.size))
  have S_Y0_Y3 : Hid (Below Y0.heap.size Y0 Y3) := Lib.hid (S_Y0_Y2.out.trans (S_Y2_Y3.out.mono S_Y0_Y2.out.size))
  have S_W2_Y3 : Hid (Below W2.heap.size W2 Y3) := Lib.hid (S_W2_Y2.out.trans (S_Y2_Y3.out.mono S_W2_Y2.out.size))
  have S_Y1_Y3 : Hid (Below Y1.heap.size Y1 Y3) := Lib.hid (S_Y1_Y2.out.trans (S_Y2_Y3.out.mono S_Y1_Y2.out.size))
  have R3 : Hid (∀ V, Below Y3.heap.size Y3 V → Arr V A3 L3) := Lib.hid (fun V hV => Arr.step r3 hV)
  clear r3 u3
  go_wp2_with fail
  refine (C4 Y3 (HBB.out _ S_w_Y3.out)).mono ?_
  rintro e Y4 ⟨A4, c4, m4, L4, hc4, hm4, rfl, r4, u4⟩
  obtain rfl : m4 = m3 := by rw [← hm4, ← hm3, ← cons_length, ← cons_length L3, hc3, hc4]
  have S_Y3_Y4 : Hid (Below Y3.heap.size Y3 Y4) := Lib.hid (u4)
  have S_w_Y4 : Hid (Below w.heap.size w Y4) := Lib.hid (S_w_Y3.out.trans (S_Y3_Y4.out.mono S_w_Y3.out.size))
  have S_Y0_Y4 : Hid (Below Y0.heap.size Y0 Y4) := Lib.hid (S_Y0_Y3.out.trans (S_Y3_Y4.out.mono S_Y0_Y3.out.size))
  have S_W2_Y4 : Hid (Below W2.heap.size W2 Y4) := Lib.hid (S_W2_Y3.out.trans (S_Y3_Y4.out.mono S_W2_Y3.out.size))
  have S_Y1_Y4 : Hid (Below Y1.heap.size Y1 Y4) := Lib.hid (S_Y1_Y3.out.trans (S_Y3_Y4.out.mono S_Y1_Y3.out.size))
  have S_Y2_Y4 : Hid (Below Y2.heap.size Y2 Y4) := Lib.hid (S_Y2_Y3.out.trans (S_Y3_Y4.out.mono S_Y2_Y3.out.size))
  have R4 : Hid (∀ V, Below Y4.heap.size Y4 V → Arr V A4 L4) := Lib.hid (fun V hV => Arr.step r4 hV)
  have C7 := fun V h1 h2 => all_any A3 A4 m4 c3 c4 L3 L4 V hm3 (hc3.trans hc4.symm) h1 h2 (by have := HPL.out; rw [← hc3, cons_length, hm3] at this; omega)
  clear r4 u4 hc3 hc4 hm3 hm4
  go_wp2_with fail
  refine (C5 Y4 A1 c1 (Q1.out _ S_Y1_Y4.out) D1.out).mono ?_
  rintro e Y5 ⟨A6, c6, m6, L6, hc6, hm6, rfl, r6, u6⟩
  have S_Y4_Y5 : Hid (Below Y4.heap.size Y4 Y5) := Lib.hid (u6)
  have S_w_Y5 : Hid (Below w.heap.size w Y5) := Lib.hid (S_w_Y4.out.trans (S_Y4_Y5.out.mono S_w_Y4.out.size))
  have S_Y0_Y5 : Hid (Below Y0.heap.size Y0 Y5) := Lib.hid (S_Y0_Y4.out.trans (S_Y4_Y5.out.mono S_Y0_Y4.out.size))
  have S_W2_Y5 : Hid (Below W2.heap.size W2 Y5) := Lib.hid (S_W2_Y4.out.trans (S_Y4_Y5.out.mono S_W2_Y4.out.size))
  have S_Y1_Y5 : Hid (Below Y1.heap.size Y1 Y5) := Lib.hid (S_Y1_Y4.out.trans (S_Y4_Y5.out.mono S_Y1_Y4.out.size))
  have S_Y2_Y5 : Hid (Below Y2.heap.size Y2 Y5) := Lib.hid (S_Y2_Y4.out.trans (S_Y4_Y5.out.mono S_Y2_Y4.out.size))
  have S_Y3_Y5 : Hid (Below Y3.heap.size Y3 Y5) := Lib.hid (S_Y3_Y4.out.trans (S_Y4_Y5.out.mono S_Y3_Y4.out.size))
  have R6 : Hid (Arr Y5 A6 L6) := Lib.hid r6
  have HC6 := Lib.hid hc6
  have HM6 := Lib.hid hm6
  clear r6 u6 hc6 hm6 C1 C2 C3 C4 C5
  go_upto_region 9 with fail
  go_cut [19] (fun v wx => v = .bool true ∧ ∃ Z, Z = wx ∧ Below Y5.heap.size Y5 Z)
  case first =>
    by_cases hE : E = 0
    · obtain ⟨hI, hP, hO⟩ := HBA.out hE
      have hm : n = m6 := by rw [← HM6.out, ← cons_length, HC6.out, hP, cons_length, HN.out]
      subst hE hI hO hm
      have C := all_any A6 A n c6 c L6 L Y5 HM6.out (HC6.out.trans hP) R6.out (HR.out _ S_w_Y5.out) (by have := HN.out; omega)
      clear C7 hP
      go_wp2_with fail
      refine C.mono ?_
      rintro e Y6 ⟨rfl, u6⟩
      go_wp2
      go_meet
      case rel => exact ⟨rfl, _, rfl, u6⟩
    · have d : (E == 0) = false := by simpa using hE
      have d2 : (E != 0) = true := by simp [bne, d]
      clear hE C7
      go_wp2_with fail
      go_meet
      case rel => exact ⟨rfl, _, rfl, Below.refl _ _⟩
  case rest =>
    obtain ⟨rfl, Z, hwc, hz⟩ := hcut
    subst hwc
    have HZ := Lib.hid hz
    clear hz
    go_wp2_with fail
    refine (alive_any _).mono ?_
    rintro e V9 ⟨rfl, u9⟩
    have S_Y5_V9 : Hid (Below Y5.heap.size Y5 V9) := Lib.hid (HZ.out.trans (u9.mono HZ.out.size))
    have S_w_V9 : Hid (Below w.heap.size w V9) := Lib.hid (S_w_Y5.out.trans (S_Y5_V9.out.mono S_w_Y5.out.size))
    have S_Y0_V9 : Hid (Below Y0.heap.size Y0 V9) := Lib.hid (S_Y0_Y5.out.trans (S_Y5_V9.out.mono S_Y0_Y5.out.size))
    have S_W2_V9 : Hid (Below W2.heap.size W2 V9) := Lib.hid (S_W2_Y5.out.trans (S_Y5_V9.out.mono S_W2_Y5.out.size))
    have S_Y1_V9 : Hid (Below Y1.heap.size Y1 V9) := Lib.hid (S_Y1_Y5.out.trans (S_Y5_V9.out.mono S_Y1_Y5.out.size))
    have S_Y2_V9 : Hid (Below Y2.heap.size Y2 V9) := Lib.hid (S_Y2_Y5.out.trans (S_Y5_V9.out.mono S_Y2_Y5.out.size))
    have S_Y3_V9 : Hid (Below Y3.heap.size Y3 V9) := Lib.hid (S_Y3_Y5.out.trans (S_Y5_V9.out.mono S_Y3_Y5.out.size))
    have S_Y4_V9 : Hid (Below Y4.heap.size Y4 V9) := Lib.hid (S_Y4_Y5.out.trans (S_Y5_V9.out.mono S_Y4_Y5.out.size))
    have r1 := run_str (P := Try.prog) (w := V9) 26 5 9 Try.underlying26 Try.underlying5 Try.underlying9 _ A1 c1 X (Q1.out _ S_Y1_V9.out)
    have r2 := run_str (P := Try.prog) (w := V9) 26 5 9 Try.underlying26 Try.underlying5 Try.underlying9 _ A2 c2 X (Q2.out _ S_Y2_V9.out)
    rw [HMX.out] at r1 r2
    have C := C7 V9 (R3.out _ S_Y3_V9.out) (R4.out _ S_Y4_V9.out)
    clear u9 C7
    go_wp2_with fail
    refine C.mono ?_
    rintro e V8 ⟨rfl, u8⟩
    clear r1 r2
    have S_V9_V8 : Hid (Below V9.heap.size V9 V8) := Lib.hid (u8)
    have S_w_V8 : Hid (Below w.heap.size w V8) := Lib.hid (S_w_V9.out.trans (S_V9_V8.out.mono S_w_V9.out.size))
    have S_Y0_V8 : Hid (Below Y0.heap.size Y0 V8) := Lib.hid (S_Y0_V9.out.trans (S_V9_V8.out.mono S_Y0_V9.out.size))
    have S_W2_V8 : Hid (Below W2.heap.size W2 V8) := Lib.hid (S_W2_V9.out.trans (S_V9_V8.out.mono S_W2_V9.out.size))
    have S_Y1_V8 : Hid (Below Y1.heap.size Y1 V8) := Lib.hid (S_Y1_V9.out.trans (S_V9_V8.out.mono S_Y1_V9.out.size))
    have S_Y2_V8 : Hid (Below Y2.heap.size Y2 V8) := Lib.hid (S_Y2_V9.out.trans (S_V9_V8.out.mono S_Y2_V9.out.size))
    have S_Y3_V8 : Hid (Below Y3.heap.size Y3 V8) := Lib.hid (S_Y3_V9.out.trans (S_V9_V8.out.mono S_Y3_V9.out.size))
    have S_Y4_V8 : Hid (Below Y4.heap.size Y4 V8) := Lib.hid (S_Y4_V9.out.trans (S_V9_V8.out.mono S_Y4_V9.out.size))
    have S_Y5_V8 : Hid (Below Y5.heap.size Y5 V8) := Lib.hid (S_Y5_V9.out.trans (S_V9_V8.out.mono S_Y5_V9.out.size))
    have r3 := run_str (P := Try.prog) (w := V8) 26 5 9 Try.underlying26 Try.underlying5 Try.underlying9 _ A5 c5 l (Q5.out _ S_W2_V8.out)
    have r4 := run_str (P := Try.prog) (w := V8) 26 5 9 Try.underlying26 Try.underlying5 Try.underlying9 _ B cb l (HBB.out _ S_w_V8.out)
    rw [HNB.out] at r3 r4
    clear u8
    go_wp2
    go_ret
    exact ⟨rfl, S_w_V8.out⟩
end Go.Proofs.Ytefbpaebimagaaa
