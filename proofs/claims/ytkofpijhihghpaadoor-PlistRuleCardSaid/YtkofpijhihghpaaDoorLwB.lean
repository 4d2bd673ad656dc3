/-
  The walk of the law PlistBack. No statement is proved here; no conditions.
-/
import Derived.Test.YtkofpijhihghpaaDoorIdp
import Derived.Test.YtkofpijhihghpaaDoorAlv
import Derived.Test.YtkofpijhihghpaaDoorRx
namespace Go.Proofs.YtkofpijhihghpaaDoor
open Go.RowKit Go.Joins

theorem addr_A {l : List Ru} {x : Ru} (h : ∀ y ∈ l, y.A < 4294967296) (hx : x.A < 4294967296) : ∀ y ∈ (addr l x).1, y.A < 4294967296 := by
  intro y hy
  unfold addr at hy
  split at hy
  · split at hy
    · simp at hy
    · split at hy
      · simp at hy
      · rcases mem_inl.1 hy with e | e
        · rw [e]; exact hx
        · exact h y e
  · simp at hy
theorem addr_len (l : List Ru) (x : Ru) : (addr l x).1.length ≤ l.length + 1 := by
  unfold addr
  split
  · split
    · simp
    · split
      · simp
      · exact Nat.le_of_eq (inl_len x l)
  · simp
theorem addr_ok {l : List Ru} {x : Ru} (h : (addr l x).2 = 0) : addr l x = (inl x l, 0) ∧ hasq l x.s = false ∧ okr x = true := by
  unfold addr at h ⊢
  cases h1 : okr x with
  | false => rw [h1] at h; simp at h
  | true =>
    rw [h1] at h
    cases h2 : hasq l x.s with
    | true => rw [h2] at h; simp at h
    | false =>
      rw [h2] at h
      simp only [if_true, Bool.false_eq_true, if_false] at h ⊢
      split at h
      · simp at h
      · rename_i h3
        rw [if_neg h3]
        exact ⟨rfl, trivial, trivial⟩
def rOne : Ru := ⟨1, false, 0, 0, 0, 32⟩
theorem one_ok {B : Nat} {M : Int} (h : mns rOne B M = true) : okp B M = true := ((covp_iff _ _ _ _).1 ((mns_iff _ _ _).1 h).2.1).1
set_option maxRecDepth 100000 in
set_option maxHeartbeats 4000000 in
theorem back_walk (A0 : Option Addr) (c : Nat) (l : List Ru) (x : Ru) (B : Nat) (M : Int) (w : World) (ht : Tab w) (hl : Sl w A0 c l) (hA : ∀ x ∈ l, x.A < 4294967296) (hx : x.A < 4294967296) (hB : B < 4294967296) : Calls Tryd.prog 7 #[.slice A0 l.length c, rv x, pf B M] w fun e w' => e = .returned (.bool true) ∧ Below w.heap.size w w' := by
  obtain ⟨W0, hW0⟩ : ∃ W0, w.alloc (.cells #[.int .i64 x.s, .bool x.p, .int .u32 (x.A : Int), .int .i64 x.N, .int .i64 x.g, .int .i64 x.l] 26) = W0 := ⟨_, rfl⟩
  have s0 : W0.heap.size = w.heap.size + 1 := by rw [← hW0]; simp
  obtain ⟨W1, hW1⟩ : ∃ W1, W0.alloc (.cells #[.int .u32 (B : Int), .int .i64 M] 24) = W1 := ⟨_, rfl⟩
  have b0 : Below w.heap.size w W0 := by rw [← hW0]; exact below_alloc1 _ _
  have b1 : Below W0.heap.size W0 W1 := by rw [← hW1]; exact below_alloc1 _ _
  have hb1 : Below w.heap.size w W1 := b0.trans (b1.mono (by omega))
  have HB0 : Hid (Below w.heap.size w W1) := Lib.hid hb1
  have KX : Hid (∀ V, Below W1.heap.size W1 V → _) := Lib.hid (fun V hV => rb_new hW0 (b1.trans (hV.mono b1.size)))
  have KQ : Hid (∀ V, Below W1.heap.size W1 V → V.cell? ⟨w.heap.size + 1, 0, none⟩ = some (.int .u32 (B : Int)) ∧ V.cell? ⟨w.heap.size + 1, 1, none⟩ = some (.int .i64 M)) :=
    Lib.hid (fun V hV => by have := pb_new hW1 hV; rwa [s0] at this)
  have HT := Lib.hid (ht.step hb1)
  have HL : Hid (∀ V, Below W1.heap.size W1 V → Sl V A0 c l) := Lib.hid (fun V hV => (hl.step hb1).step hV)
  obtain ⟨ln, hln⟩ : ∃ ln, l.length = ln := ⟨_, rfl⟩
  have HLN := Lib.hid hln
  have hmx := hl.max
  have hcp := hl.cap
  rw [hln] at hcp
  rw [hln]
  clear b0 b1 hb1 ht hl
  by_cases h1 : 150 < ln
  · have h2 : (ln : Int) > 150 := by omega
    go_enter Tryd.func7, Tryd.ntmps7
    go_wp2_with fail
    refine (alive_any _ HT.out).mono ?_
    rintro e V1 ⟨rfl, hv1⟩
    go_wp2
    go_ret
    exact ⟨rfl, HB0.out.trans (hv1.mono HB0.out.size)⟩
  have h2 : ¬ ((ln : Int) > 150) := by omega
  have cR : ∀ W, Rr W A0 l → _ := fun W hW => rows_any A0 c l W hW (by omega)
  have cM : ∀ W A' c', Rr W A' l → _ := fun W A' c' hW => mayall_any A' c' l W hW (by omega) hA
  have cV : ∀ W, Sl W A0 c l → _ := fun W hW => eval_any A0 c l B M W hW.rr (by omega) hA hB
  have cS : ∀ W A1 c1 A2 c2, Rr W A1 l → Rr W A2 l → _ := fun W A1 c1 A2 c2 h1 h2 => same_any A1 A2 c1 c2 l W h1 h2 (by omega)
  have cR2 : ∀ W A1 c1, Rr W A1 l → _ := fun W A1 c1 h1 => rows_any A1 c1 l W h1 (by omega)
  rw [hln] at cR cM cV cS cR2
  have HA := Lib.hid hA
  clear hA
  obtain ⟨MA, hMA⟩ : ∃ v, mayl none l = v := ⟨_, rfl⟩
  rw [hMA] at cM
  have HMA := Lib.hid hMA
  clear hMA
  go_enter Tryd.func7, Tryd.ntmps7
  go_wp2_with fail
  refine (cR _ (HL.out _ (Below.refl _ _)).rr).mono ?_
  rintro e V1 ⟨A1, c1, rfl, s1, hv1⟩
  clear hW0 hW1 s0
  rw [HLN.out]
  go_wp2_with fail
  refine (cM _ _ _ s1.rr).mono ?_
  rintro e V2 ⟨rfl, hv2⟩
  replace hv2 := hv1.trans (hv2.mono hv1.size)
  clear s1 hv1 cM
  cases MA with
  | false =>
    go_wp2_with fail
    refine (alive_any _ (HT.out.step hv2)).mono ?_
    rintro e V3 ⟨rfl, hv3⟩
    go_wp2
    go_ret
    exact ⟨rfl, HB0.out.trans ((hv2.trans (hv3.mono hv2.size)).mono HB0.out.size)⟩
  | true =>
    have hLs : Ls l := ((mayl_iff l none).1 HMA.out).1
    have HLS := Lib.hid hLs
    have cA := fun W (hW : Below W1.heap.size W1 W) => add_any A0 c l x W (HL.out W hW) (by omega) hLs hx
    have cB := fun W (hW : Below W1.heap.size W1 W) => add_any A0 c l rAll W (HL.out W hW) (by omega) hLs (by decide)
    rw [hln] at cA cB
    have hal := addr_len l rAll
    have haA := addr_A (x := rAll) HA.out (by decide)
    have hok2 := addr_ok (l := l) (x := rAll)
    have hev2 : (addr l rAll).2 = 0 → mns rOne B M = true → evl (addr l rAll).1 B M = if (evl l B M).2 = 0 then (true, 65535) else evl l B M := fun h1 h2 => by
      obtain ⟨e1, e2, _⟩ := addr_ok h1
      rw [e1]
      exact evl_all hLs (one_ok h2) hB e2
    obtain ⟨AL, hAL⟩ : ∃ v, addr l rAll = v := ⟨_, rfl⟩
    rw [hAL] at cB hal haA hev2
    obtain ⟨al, g⟩ := AL
    simp only at hal haA hev2
    obtain ⟨na, hna⟩ : ∃ v, al.length = v := ⟨_, rfl⟩
    obtain ⟨EV, hEV⟩ : ∃ v, evl l B M = v := ⟨_, rfl⟩
    obtain ⟨EA, hEA⟩ : ∃ v, evl al B M = v := ⟨_, rfl⟩
    have cW : ∀ W A1 c1, Rr W A1 al → _ := fun W A1 c1 h1 => eval_any A1 c1 al B M W h1 (by rw [hln] at hal; omega) haA hB
    rw [hna, hEA] at cW
    rw [hEV] at cV
    rw [hEV, hEA] at hev2
    have HEV := Lib.hid hev2
    have HNA := Lib.hid hna
    have cO : ∀ W, Calls Tryd.prog 14 #[.agg #[.int .i64 1, .bool false, .int .u32 0, .int .i64 0, .int .i64 0, .int .i64 32], pf B M] W fun e w' => e = .returned (.bool (mns rOne B M)) ∧ Below W.heap.size W w' := fun W => means_any rOne B M W (by decide) hB
    generalize mns rOne B M = MO at *
    obtain ⟨ev1, ev2⟩ := EV
    obtain ⟨ea1, ea2⟩ := EA
    simp only at cV cW
    obtain ⟨AX, hAX⟩ : ∃ v, addr l x = v := ⟨_, rfl⟩
    rw [hAX] at cA
    have hox := addr_ok (l := l) (x := x)
    have HAX := Lib.hid hAX
    obtain ⟨kl, ek⟩ := AX
    clear HMA hLs hal haA hok2 hAL hEV hEA hna hev2 hAX cR
    obtain ⟨k0, k1, k2, k3, k4, k5⟩ := KX.out _ hv2
    go_wp2_with fail
    refine (cA _ hv2).mono ?_
    rintro e V3 ⟨A3, c3, rfl, s3, hv3⟩
    have tb := hv2.trans (hv3.mono hv2.size)
    simp only at s3 ⊢
    have S3 := Lib.hid s3
    clear cA hv2 hv3 s3 k0 k1 k2 k3 k4 k5
    by_cases hek : ek = 0
    · have n0 : (ek == 0) = true := by simpa using hek
      have hax := HAX.out
      obtain ⟨y1, y2, y3⟩ := hox (by rw [hax]; exact hek)
      rw [hax] at y1
      simp only [Prod.mk.injEq] at y1
      obtain ⟨y4, y5⟩ := y1
      subst y5
      have hls2 := inl_ls HLS.out y3 y2
      have hq2 : hasq (inl x l) x.s = true := (hasq_iff _ _).2 ⟨x, mem_inl.2 (.inl rfl), rfl⟩
      have hdr : dropr (inl x l) x.s = (l, 0) := by rw [dropr, hq2, drl_inl y2]; rfl
      have hil := inl_len x l
      rw [hln] at hil
      have cD := fun W A9 c9 (hW : Sl W A9 c9 (inl x l)) => drop_any A9 c9 (inl x l) x.s W hW (by omega) hls2
      rw [hdr] at cD
      rw [← y4] at cD hil
      rw [hil] at cD
      obtain ⟨k0, k1, k2, k3, k4, k5⟩ := KX.out _ tb
      clear hax y2 y3 y4 hls2 hq2 hdr HAX hox
      have HIL := Lib.hid hil
      simp only [hil]
      clear hil
      go_wp2_with fail
      refine (cD _ _ _ S3.out).mono ?_
      rintro e V4 ⟨A4, c4, rfl, s4, hv4⟩
      replace tb := tb.trans (hv4.mono tb.size)
      simp only at s4 ⊢
      simp only [hln]
      have hw9 : wrap64 ((ln : Int) + 1) = ((ln + 1 : Nat) : Int) := by unfold wrap64; omega
      clear k0 k1 k2 k3 k4 k5 hv4 cD
      go_wp2_with fail
      refine (cR2 _ _ _ s4.rr).mono ?_
      rintro e U1 ⟨B1, d1, rfl, t1, hu1⟩
      replace tb := tb.trans (hu1.mono tb.size)
      simp only [hln]
      clear s4 hu1
      go_wp2_with fail
      refine (cR2 _ _ _ (HL.out _ tb).rr).mono ?_
      rintro e U2 ⟨B2, d2, rfl, t2, hu2⟩
      replace tb := tb.trans (hu2.mono tb.size)
      simp only [hln]
      go_wp2_with fail
      refine (cS _ _ _ _ _ (t1.step hu2).rr t2.rr).mono ?_
      rintro e U3 ⟨rfl, hu3⟩
      replace tb := tb.trans (hu3.mono tb.size)
      clear t1 t2 hu2 hu3 cR2 cS
      go_wp2_with fail
      refine (cB _ tb).mono ?_
      rintro e V5 ⟨A5, c5, rfl, s5, hv5⟩
      replace tb := tb.trans (hv5.mono tb.size)
      simp only at s5 ⊢
      simp only [HNA.out]
      obtain ⟨k0, k1⟩ := KQ.out _ tb
      clear hv5
      go_wp2_with fail
      refine (cV _ (HL.out _ tb)).mono ?_
      rintro e V6 ⟨rfl, hv6⟩
      replace tb := tb.trans (hv6.mono tb.size)
      have s6 := s5.step hv6
      clear k0 k1 hv6 s5
      obtain ⟨k0, k1⟩ := KQ.out _ tb
      go_wp2_with fail
      refine (cW _ _ _ s6.rr).mono ?_
      rintro e V7 ⟨rfl, hv7⟩
      replace tb := tb.trans (hv7.mono tb.size)
      clear k0 k1 hv7 s6
      obtain ⟨k0, k1⟩ := KQ.out _ tb
      by_cases hg : g = 0
      · have n1 : (g != 0) = false := by simpa using hg
        by_cases m0 : M < 0
        · skip
          go_wp2_with fail
          refine (alive_any _ (HT.out.step tb)).mono ?_
          rintro e V9 ⟨rfl, hv9⟩
          go_wp2
          go_ret
          exact ⟨rfl, HB0.out.trans ((tb.trans (hv9.mono tb.size)).mono HB0.out.size)⟩
        by_cases m1 : M > 32
        · skip
          go_wp2_with fail
          refine (alive_any _ (HT.out.step tb)).mono ?_
          rintro e V9 ⟨rfl, hv9⟩
          go_wp2
          go_ret
          exact ⟨rfl, HB0.out.trans ((tb.trans (hv9.mono tb.size)).mono HB0.out.size)⟩
        cases MO with
        | false =>
          go_wp2_with fail
          refine (cO _).mono ?_
          rintro e V8 ⟨rfl, hv8⟩
          replace tb := tb.trans (hv8.mono tb.size)
          go_wp2_with fail
          refine (alive_any _ (HT.out.step tb)).mono ?_
          rintro e V9 ⟨rfl, hv9⟩
          go_wp2
          go_ret
          exact ⟨rfl, HB0.out.trans ((tb.trans (hv9.mono tb.size)).mono HB0.out.size)⟩
        | true =>
          have hev := HEV.out hg rfl
          clear HEV
          by_cases z : ev2 = 0
          · rw [if_pos z] at hev
            simp only [Prod.mk.injEq] at hev
            obtain ⟨e1, e2⟩ := hev
            subst e1 e2 z
            go_wp2_with fail
            refine (cO _).mono ?_
            rintro e V8 ⟨rfl, hv8⟩
            replace tb := tb.trans (hv8.mono tb.size)
            go_wp2_with fail
            refine (alive_any _ (HT.out.step tb)).mono ?_
            rintro e V9 ⟨rfl, hv9⟩
            go_wp2
            go_ret
            exact ⟨rfl, HB0.out.trans ((tb.trans (hv9.mono tb.size)).mono HB0.out.size)⟩
          · rw [if_neg z] at hev
            simp only [Prod.mk.injEq] at hev
            obtain ⟨e1, e2⟩ := hev
            subst e1 e2
            have z1 : (ea2 != 0) = true := by simpa using z
            have z2 : (ea2 == 0) = false := by simpa using z
            go_wp2_with fail
            refine (cO _).mono ?_
            rintro e V8 ⟨rfl, hv8⟩
            replace tb := tb.trans (hv8.mono tb.size)
            go_wp2_with fail
            refine (alive_any _ (HT.out.step tb)).mono ?_
            rintro e V9 ⟨rfl, hv9⟩
            go_wp2
            go_ret
            exact ⟨rfl, HB0.out.trans ((tb.trans (hv9.mono tb.size)).mono HB0.out.size)⟩
      · have n1 : (g != 0) = true := by simpa using hg
        go_wp2_with fail
        refine (alive_any _ (HT.out.step tb)).mono ?_
        rintro e V9 ⟨rfl, hv9⟩
        go_wp2
        go_ret
        exact ⟨rfl, HB0.out.trans ((tb.trans (hv9.mono tb.size)).mono HB0.out.size)⟩
    · have n0 : (ek == 0) = false := by simpa using hek
      clear HAX hox cR2 cS
      go_wp2_with fail
      refine (cB _ tb).mono ?_
      rintro e V5 ⟨A5, c5, rfl, s5, hv5⟩
      replace tb := tb.trans (hv5.mono tb.size)
      simp only at s5 ⊢
      simp only [HNA.out]
      obtain ⟨k0, k1⟩ := KQ.out _ tb
      clear hv5
      go_wp2_with fail
      refine (cV _ (HL.out _ tb)).mono ?_
      rintro e V6 ⟨rfl, hv6⟩
      replace tb := tb.trans (hv6.mono tb.size)
      have s6 := s5.step hv6
      clear k0 k1 hv6 s5
      obtain ⟨k0, k1⟩ := KQ.out _ tb
      go_wp2_with fail
      refine (cW _ _ _ s6.rr).mono ?_
      rintro e V7 ⟨rfl, hv7⟩
      replace tb := tb.trans (hv7.mono tb.size)
      clear k0 k1 hv7 s6
      obtain ⟨k0, k1⟩ := KQ.out _ tb
      by_cases hg : g = 0
      · have n1 : (g != 0) = false := by simpa using hg
        by_cases m0 : M < 0
        · skip
          go_wp2_with fail
          refine (alive_any _ (HT.out.step tb)).mono ?_
          rintro e V9 ⟨rfl, hv9⟩
          go_wp2
          go_ret
          exact ⟨rfl, HB0.out.trans ((tb.trans (hv9.mono tb.size)).mono HB0.out.size)⟩
        by_cases m1 : M > 32
        · skip
          go_wp2_with fail
          refine (alive_any _ (HT.out.step tb)).mono ?_
          rintro e V9 ⟨rfl, hv9⟩
          go_wp2
          go_ret
          exact ⟨rfl, HB0.out.trans ((tb.trans (hv9.mono tb.size)).mono HB0.out.size)⟩
        cases MO with
        | false =>
          go_wp2_with fail
          refine (cO _).mono ?_
          rintro e V8 ⟨rfl, hv8⟩
          replace tb := tb.trans (hv8.mono tb.size)
          go_wp2_with fail
          refine (alive_any _ (HT.out.step tb)).mono ?_
          rintro e V9 ⟨rfl, hv9⟩
          go_wp2
          go_ret
          exact ⟨rfl, HB0.out.trans ((tb.trans (hv9.mono tb.size)).mono HB0.out.size)⟩
        | true =>
          have hev := HEV.out hg rfl
          clear HEV
          by_cases z : ev2 = 0
          · rw [if_pos z] at hev
            simp only [Prod.mk.injEq] at hev
            obtain ⟨e1, e2⟩ := hev
            subst e1 e2 z
            go_wp2_with fail
            refine (cO _).mono ?_
            rintro e V8 ⟨rfl, hv8⟩
            replace tb := tb.trans (hv8.mono tb.size)
            go_wp2_with fail
            refine (alive_any _ (HT.out.step tb)).mono ?_
            rintro e V9 ⟨rfl, hv9⟩
            go_wp2
            go_ret
            exact ⟨rfl, HB0.out.trans ((tb.trans (hv9.mono tb.size)).mono HB0.out.size)⟩
          · rw [if_neg z] at hev
            simp only [Prod.mk.injEq] at hev
            obtain ⟨e1, e2⟩ := hev
            subst e1 e2
            have z1 : (ea2 != 0) = true := by simpa using z
            have z2 : (ea2 == 0) = false := by simpa using z
            go_wp2_with fail
            refine (cO _).mono ?_
            rintro e V8 ⟨rfl, hv8⟩
            replace tb := tb.trans (hv8.mono tb.size)
            go_wp2_with fail
            refine (alive_any _ (HT.out.step tb)).mono ?_
            rintro e V9 ⟨rfl, hv9⟩
            go_wp2
            go_ret
            exact ⟨rfl, HB0.out.trans ((tb.trans (hv9.mono tb.size)).mono HB0.out.size)⟩
      · have n1 : (g != 0) = true := by simpa using hg
        go_wp2_with fail
        refine (alive_any _ (HT.out.step tb)).mono ?_
        rintro e V9 ⟨rfl, hv9⟩
        go_wp2
        go_ret
        exact ⟨rfl, HB0.out.trans ((tb.trans (hv9.mono tb.size)).mono HB0.out.size)⟩
end Go.Proofs.YtkofpijhihghpaaDoor
