/-
  The contract of dbd.TakeAds. No statement is proved here; no conditions.
-/
import Derived.Test.YtefbpaebimagaaaBu
import Derived.Test.YtefbpaebimagaaaDe
import Derived.WalkMore
import Derived.ScopeJumps
namespace Go.Proofs.Ytefbpaebimagaaa
open Go.RowKit Go.Joins

theorem scope_jumps {P : Program} {a : Act} {w : World} {Q : Exit → Act → World → Prop} {c rest : Code} (l : Nat) (J : Act → World → Prop) (μ : Act → World → Nat) (hf : findLabel c l = some (Code.skip.seq rest))
    (pass : ∀ a w, J a w → rest.wp P (Exit.jump l (fun a' w' => J a' w' ∧ μ a' w' < μ a w) Q) a w)
    (first : (∀ a w, J a w → rest.wp P (Exit.jump l J Q) a w) → c.wp P (Exit.jump l J Q) a w) : (Code.scope c).wp P Q a w :=
  wp_scope_jumps l J μ hf (first fun a w hJ => wp_mono (pass a w hJ) fun e a' w' h => by
    cases e <;> first | exact ⟨h.1, h.2.1⟩ | exact h) (fun a w hJ => wp_seq (wp_skip (pass a w hJ)))
/-- What holds at the label. -/
structure JF (R : Int × List Ct × Nat) (w : World) (k k0 odd m' : Nat) (A0 : Option Addr) (c0 : Nat) (A' : Option Addr) (c' : Nat) (w' : World) : Prop where
  ex : ∃ (D : List Int) (L : List Ae), D.length = k0 ∧ Byt D ∧ Bs .u8 w w.heap.size A0 D ∧ tkf k D (cons L) odd = R ∧ L.length = m' ∧ Aro w.heap.size w' A' c' L
  cap : k0 ≤ c0
  bel : Below w.heap.size w w'
  big : k0 ≤ 4000
  num : odd + m' + k ≤ 50
/-- What is returned. -/
def TA (R : Int × List Ct × Nat) (w : World) (e : Ending) (w' : World) : Prop := ∃ A' c' m' L, cons L = R.2.1 ∧ L.length = m' ∧ e = .returned (.tuple #[.slice A' m' c', .int .i64 (R.2.2 : Int), .int .i64 R.1]) ∧ Arr w' A' L ∧ Below w.heap.size w w'
theorem TA.bad {w w' : World} {x : Int} (hb : Below w.heap.size w w') : TA (x, [], 0) w (.returned (.tuple #[.slice none 0 0, .int .i64 0, .int .i64 x])) w' := ⟨none, 0, 0, [], rfl, rfl, rfl, Arr.nil _ _, hb⟩
set_option maxRecDepth 100000 in
set_option maxHeartbeats 8000000 in
theorem takeads_any (A : Option Addr) (n c : Nat) (l : List Int) (w : World) (hn : l.length = n) (hb : Bt w A l) (hy : Byt l) (hc : n ≤ c) (hl : n ≤ 4000) :
    Calls Try.prog 28 #[.slice A n c] w fun e w' => TA (taf l) w e w' := by
  obtain ⟨R, hR⟩ : ∃ R, taf l = R := ⟨_, rfl⟩
  rw [hR]
  by_cases h4 : n < 4
  · have e : R = (2, [], 0) := by rw [← hR, taf, if_pos (by omega)]
    subst e
    have h4' : (n : Int) < 4 := by omega
    clear hb hy hn hR
    go_enter Try.func28, Try.ntmps28
    go_wp2
    refine wp_scope_jumps 0 (fun _ _ => False) (fun _ _ => 0) rfl ?_ (fun _ _ h => h.elim)
    go_wp2
    simp only [Exit.jump]
    go_ret3
    exact TA.bad (Below.refl _ _)
  have h4' : ¬ ((n : Int) < 4) := by omega
  have i4 : (4 : Int) ≤ (n : Int) := by omega
  have i4c : (4 : Int) ≤ (c : Int) := by omega
  have l4 : (l.take 4).length = 4 := by simp; omega
  have CN := dnumber_any A 4 c (l.take 4) w (hb.take 4) (hy.take 4) l4 (by omega) (by decide) (by decide)
  have v4 := num_four (hy.take 4) l4
  have hR2 : R = if 50 < num (l.take 4) then (3, [], 0) else tkf (num (l.take 4)).toNat (l.drop 4) [] 0 := by rw [← hR, taf, if_neg (by omega)]
  generalize num (l.take 4) = N4 at *
  by_cases h50 : N4 > 50
  · have e : R = (3, [], 0) := by rw [hR2, if_pos h50]
    subst e
    clear hb hy hn hR hR2 l4
    go_enter Try.func28, Try.ntmps28
    go_wp2
    refine wp_scope_jumps 0 (fun _ _ => False) (fun _ _ => 0) rfl ?_ (fun _ _ h => h.elim)
    go_wp2_with fail
    refine CN.mono ?_
    rintro e Y1 ⟨rfl, u1⟩
    go_wp2
    simp only [Exit.jump]
    go_ret3
    exact TA.bad u1
  rw [if_neg h50] at hR2
  obtain ⟨b, off, rfl, -, -⟩ := hb (by rintro rfl; simp at hn; omega)
  obtain ⟨a4, ha4⟩ : ∃ a : Nat, (if c = 4 then off else off + 4) = a := ⟨_, rfl⟩
  have q4 : Bt w (some ⟨b, a4, none⟩) (l.drop 4) := hb.drop 4 _ (fun hh => by rw [if_neg (by omega)] at ha4; simp [addr_add, ha4])
  have hd4 : (l.drop 4).length = n - 4 := by rw [List.length_drop, hn]
  obtain ⟨k, hk⟩ : ∃ k : Nat, N4 = (k : Int) := ⟨N4.toNat, by omega⟩
  have hk50 : k ≤ 50 := by omega
  have HK := Lib.hid hk
  have hkt : N4.toNat = k := by omega
  rw [hkt] at hR2
  have HA4 := Lib.hid ha4
  have HJ : Hid (∀ V, Below w.heap.size w V → JF R w k (n - 4) 0 0 (some ⟨b, a4, none⟩) (c - 4) none 0 V) := Lib.hid (fun V hV => ⟨⟨l.drop 4, [], hd4, hy.drop 4, q4, hR2.symm, rfl, Aro.nil _ _⟩, by omega, hV, by omega, by omega⟩)
  clear hR hR2 hkt q4 hd4 l4 hb hy hn ha4
  go_enter Try.func28, Try.ntmps28
  go_wp2
  refine scope_jumps 0 (fun a' w' => ∃ (k k0 odd m' : Nat) (A0 : Option Addr) (c0 : Nat) (A' : Option Addr) (c' : Nat)  (u9 u10 u11 u12 u13 u14 u15 u16 u17 u18 u19 u20 u21 u22 u23 u24 u25 u26 u27 u28 u29 u30 u31 u32 u33 u34 u35 u36 u37 u38 u39 u40 u41 u42 u43 u44 u45 u46 u47 u48 u49 u50 u51 u52 u53 u54 u55 u56 u57 u58 : Value), a' = { tmps := #[.slice (some ⟨b, off, none⟩) n c, undef, .slice none 0 0, .int .i64 0, .int .i64 0, .int .u32 (k : Int), .slice A0 k0 c0, .slice A' m' c', .int .i64 (odd : Int), u9, u10, u11, u12, u13, u14, u15, u16, u17, u18, u19, u20, u21, u22, u23, u24, u25, u26, u27, u28, u29, u30, u31, u32, u33, u34, u35, u36, u37, u38, u39, u40, u41, u42, u43, u44, u45, u46, u47, u48, u49, u50, u51, u52, u53, u54, u55, u56, u57, u58], defers := [] } ∧ Hid (JF R w k k0 odd m' A0 c0 A' c' w')) (fun a' _ => (intOf (a'.tmps.getD 5 undef)).toNat) rfl ?pass ?first
  case first =>
    intro hrest
    have HR := Lib.hid hrest
    clear hrest
    subst hk
    by_cases hc4 : c = 4
    · subst hc4
      have e : a4 = off := by have := HA4.out; rw [if_pos rfl] at this; exact this.symm
      subst e
      go_wp2_with fail
      refine CN.mono ?_
      rintro e Y1 ⟨rfl, u1⟩
      go_wp2
      apply wp_label
      rename_i hK
      refine hK _ _ (HR.out _ _ ?_)
      exact ⟨k, 0, 0, 0, _, 0, none, 0, _, _, _, _, _, _, _, _, _, _, _, _, _, _, _, _, _, _, _, _, _, _, _, _, _, _, _, _, _, _, _, _, _, _, _, _, _, _, _, _, _, _, _, _, _, _, _, _, _, _, rfl, Lib.hid (by have := HJ.out _ u1; rwa [show n - 4 = 0 by omega] at this)⟩
    · have e : a4 = off + 4 := by have := HA4.out; rw [if_neg hc4] at this; exact this.symm
      subst e
      go_wp2_with fail
      refine CN.mono ?_
      rintro e Y1 ⟨rfl, u1⟩
      go_wp2
      apply wp_label
      rename_i hK
      refine hK _ _ (HR.out _ _ ?_)
      exact ⟨k, n - 4, 0, 0, _, c - 4, none, 0, _, _, _, _, _, _, _, _, _, _, _, _, _, _, _, _, _, _, _, _, _, _, _, _, _, _, _, _, _, _, _, _, _, _, _, _, _, _, _, _, _, _, _, _, _, _, _, _, _, _, rfl, Lib.hid (HJ.out _ u1)⟩
  case pass =>
    clear HJ CN HA4 hk
    rintro a' wr ⟨k, k0, odd, m', A0, c0, A', c', u9, u10, u11, u12, u13, u14, u15, u16, u17, u18, u19, u20, u21, u22, u23, u24, u25, u26, u27, u28, u29, u30, u31, u32, u33, u34, u35, u36, u37, u38, u39, u40, u41, u42, u43, u44, u45, u46, u47, u48, u49, u50, u51, u52, u53, u54, u55, u56, u57, u58, rfl, hJ⟩
    obtain ⟨⟨D, L, hD, yD, qD, hT, hL, hA⟩, hcap, hbel, hbig, hnum⟩ := hJ.out
    by_cases hk0 : k = 0
    · subst hk0
      rw [tkf] at hT
      by_cases hz : k0 = 0
      · subst hz
        rw [if_pos hD] at hT
        subst hT
        have HL := Lib.hid hL
        have HA := Lib.hid hA
        have HB := Lib.hid hbel
        clear hJ hL hA hbel qD
        go_wp2
        simp only [Exit.jump]
        go_ret3
        exact ⟨A', c', m', L, rfl, HL.out, rfl, HA.out.arr, HB.out⟩
      · rw [if_neg (by omega)] at hT
        subst hT
        have g1 : (k0 : Int) > 0 := by omega
        have HB := Lib.hid hbel
        clear hJ hL hA hbel qD
        go_wp2
        simp only [Exit.jump]
        go_ret3
        exact TA.bad HB.out
    have dk : ((k : Int) == 0) = false := by simpa using hk0
    obtain ⟨q, hkq⟩ : ∃ q, k = q + 1 := ⟨k - 1, by omega⟩
    have HKQ := Lib.hid hkq
    have qW : ∀ V, Below wr.heap.size wr V → Bt V A0 D := fun V hV => (qD.below (hbel.trans (hV.mono hbel.size))).more (Nat.le_trans hbel.size hV.size)
    have CF := firstlong_any A0 k0 c0 D wr hD (qW _ (Below.refl _ _)) yD hcap (by omega)
    by_cases hE : flE D = 0
    case neg =>
      have HR3 : Hid (R = (flE D, [], 0)) := Lib.hid (by rw [← hT, hkq, tkf_bad hE])
      generalize flE D = E at *
      generalize flN D = F at *
      have dE : (E == 0) = false := by simpa using hE
      have dE2 : (E != 0) = true := by simp [bne, dE]
      have HB := Lib.hid hbel
      clear hJ hL hA hbel qD hT hkq hE qW
      go_wp2_with fail
      refine CF.mono ?_
      rintro e Y1 ⟨rfl, u1⟩
      go_wp2
      simp only [Exit.jump]
      go_ret3
      rw [HR3.out]
      exact TA.bad (HB.out.trans (u1.mono HB.out.size))
    obtain ⟨h20, hmay, hln, hNe⟩ := flE_ok hE
    have hmy := ((mayd_iff _).1 hmay).2.2.2.2.2
    obtain ⟨m, hm⟩ : ∃ m : Nat, (rdf (D.take 20)).n = (m : Int) := ⟨(rdf (D.take 20)).n.toNat, by omega⟩
    have hT2 := tkf_good (k := q) (out := cons L) (odd := odd) (m := m) hE (by omega)
    rw [hkq, hT2] at hT
    rw [hE, hNe, hm] at CF
    have hm20 : 20 ≤ m ∧ m ≤ 1400 ∧ m ≤ k0 := by omega
    obtain ⟨hm1, hm2, hm3⟩ := hm20
    have dl : (D.take m).length = m := by rw [List.length_take]; omega
    have tt : (D.take m).take 20 = D.take 20 := by rw [List.take_take]; congr 1; omega
    have rE : rdE (D.take m) = 0 := by rw [rdE, if_neg (by omega), tt, if_pos hmay]
    have rP : rdp (D.take m) = rdf (D.take 20) := by rw [rdp, if_pos rE, tt]
    have bN : bdn (D.take m) = m - 20 := by rw [bdn, rP, hm]; omega
    have bY : bdy (D.take m) = sub D 20 (m - 20) := by
      rw [bdy, bN, sub, List.drop_take, List.take_take]
      congr 1
      omega
    have dE : dcE (D.take m) = if whl (rdf (D.take 20)) (sub D 20 (m - 20)) = true then 0 else 4 := by
      rw [dcE, if_neg (by omega), rP, bY, hm, if_neg (by rw [dl]; omega)]
    have okB : (sub D 20 (m - 20)).length = m - 20 := sub_len (by omega)
    have HBL := Lib.hid okB
    obtain ⟨bb, o2, rfl, hbb, -⟩ := qD (by rintro rfl; simp at hD; omega)
    have HDD : Hid ((D.drop m).length = k0 - m) := Lib.hid (by rw [List.length_drop, hD])
    have HYD : Hid (Byt (D.drop m)) := Lib.hid (yD.drop m)
    have HL := Lib.hid hL
    have HA := Lib.hid hA
    have HB := Lib.hid hbel
    have hq1 : (k : Int) - 1 = (q : Int) := by omega
    have hqw : IntKind.u32.wrap (q : Int) = (q : Int) := wrap_u32 (by omega) (by omega)
    have hqw2 : IntKind.u32.wrap ((k : Int) - 1) = (q : Int) := by rw [hq1]; exact hqw
    have hod : IntKind.i64.wrap ((odd : Int) + 1) = (odd : Int) + 1 := wrap_i64 (by omega) (by omega)
    have CD : ∀ V, Below wr.heap.size wr V → Calls Try.prog 54 #[.slice (some ⟨bb, o2, none⟩) m c0] V fun e w' => if whl (rdf (D.take 20)) (sub D 20 (m - 20)) = true then (∃ A1 c1 A2 c2, e = .returned (.tuple #[.agg #[.int .i64 (rdf (D.take 20)).a, .int .i64 (rdf (D.take 20)).o, .int .i64 (rdf (D.take 20)).t, .int .u32 (rdf (D.take 20)).i, .int .u32 (rdf (D.take 20)).v, .int .u32 (rdf (D.take 20)).q, .int .i64 (rdf (D.take 20)).s, .int .i64 (rdf (D.take 20)).n, .slice A1 (m - 20) c1], .slice A2 0 c2, .int .i64 0]) ∧ Own .u8 5 w' V.heap.size A1 c1 (sub D 20 (m - 20)) ∧ Own .u8 5 w' V.heap.size A2 c2 [] ∧ Below V.heap.size V w') else (e = .returned (.tuple #[.agg #[.int .i64 0, .int .i64 0, .int .i64 0, .int .u32 0, .int .u32 0, .int .u32 0, .int .i64 0, .int .i64 0, .slice none 0 0], .slice none 0 0, .int .i64 4]) ∧ Below V.heap.size V w') := fun V hV => by
      have qm := (qW V hV).take m
      by_cases hw : whl (rdf (D.take 20)) (sub D 20 (m - 20)) = true
      · rw [if_pos hw] at dE
        have := decode_ok (some ⟨bb, o2, none⟩) m c0 (D.take m) V dl qm (yD.take m) (by omega) (by omega) dE
        have rS : rst (D.take m) = [] := by
          rw [rst, bN, List.drop_drop]
          exact List.drop_eq_nil_of_le (by omega)
        rw [rP, bN, bY, rS, show m - 20 - (m - 20) = 0 by omega] at this
        simp only [hw, if_true]
        exact this
      · rw [if_neg hw] at dE
        have := decode_bad (some ⟨bb, o2, none⟩) m c0 (D.take m) V dl qm (yD.take m) (by omega) (by omega) (by omega)
        rw [dE] at this
        simp only [hw]
        exact this
    have HM := Lib.hid hm
    clear hm
    by_cases hw : whl (rdf (D.take 20)) (sub D 20 (m - 20)) = true
    · simp only [hw, if_true] at CD
      rw [if_pos hw] at hT
      have HTQ : Hid (∀ A1 c1, tkf q (D.drop m) (cons (L ++ [⟨rdf (D.take 20), A1, c1, sub D 20 (m - 20)⟩])) odd = R) := Lib.hid (fun A1 c1 => by rw [cons_snoc]; exact hT)
      generalize sub D 20 (m - 20) = B at *
      generalize rdf (D.take 20) = y at *
      clear hJ hL hA hbel hT hT2 hkq hE hmay hln hNe hmy tt rE rP bN bY dE okB dl hw
      by_cases hc0 : c0 = m
      · subst hc0
        have HQ9 : Hid (Bs .u8 w w.heap.size (some ⟨bb, o2, none⟩) (D.drop c0)) := Lib.hid (qD.drop c0 _ (fun hh => by omega))
        clear qD qW
        go_wp2_with fail
        refine CF.mono ?_
        rintro e Y1 ⟨rfl, u1⟩
        have CD2 := CD Y1 u1
        clear CF CD
        go_wp2_with fail
        refine CD2.mono ?_
        rintro e Y2 ⟨A1, c1, A2, c2, rfl, o1, -, u2⟩
        obtain ⟨Y3, hY3⟩ : ∃ V', Y2.alloc (.cells #[Value.int .i64 y.a, .int .i64 y.o, .int .i64 y.t, .int .u32 y.i, .int .u32 y.v, .int .u32 y.q, .int .i64 y.s, .int .i64 y.n, .slice A1 (c0 - 20) c1] 87) = V' := ⟨_, rfl⟩
        have u3 : Below Y2.heap.size Y2 Y3 := by rw [← hY3]; exact below_alloc1 _ _
        obtain ⟨y0, y1, y2, y3, y4, y5, y6, y7, y8⟩ := kb9_new hY3 (Below.refl _ _)
        have u12 := u1.trans (u2.mono u1.size)
        have T3 := u12.trans (u3.mono u12.size)
        have HT3 := Lib.hid (HB.out.trans (T3.mono HB.out.size))
        have bx : Bu Y3 ⟨y, A1, c1, B⟩ := Bu.of_own (o1.step u3)
        obtain ⟨k3, hk3⟩ : ∃ k, Y3.heap.size = k := ⟨_, rfl⟩
        obtain ⟨g9, c9, Z9, r9, ro9, bl9, -⟩ := aro_app (HA.out.step T3) HL.out ⟨y, A1, c1, B⟩ bx (by omega) k3 hk3 HT3.out.size
        rw [show (acs ⟨y, A1, c1, B⟩).toArray = #[Value.int .i64 y.a, .int .i64 y.o, .int .i64 y.t, .int .u32 y.i, .int .u32 y.v, .int .u32 y.q, .int .i64 y.s, .int .i64 y.n, .slice A1 (c0 - 20) c1] from by simp [acs, HBL.out]] at r9
        have HR9 := Lib.hid ro9
        have HB9 := Lib.hid (HT3.out.trans bl9)
        clear u1 u2 u12 T3 o1 bx ro9 bl9 u3 CD2
        go_wp2_with (at_builtin; refine wpList_runb _ rfl (.tmp 48) (.tmp 50) 51 rfl rfl rfl r9 ?_)
        refine wp_goto ?_
        refine ⟨rfl, ?_, ?_⟩
        · exact ⟨q, 0, odd, m' + 1, _, _, some ⟨g9, 0, none⟩, c9, _, _, _, _, _, _, _, _, _, _, _, _, _, _, _, _, _, _, _, _, _, _, _, _, _, _, _, _, _, _, _, _, _, _, _, _, _, _, _, _, _, _, _, _, _, _, _, _, _, _, rfl, Lib.hid ⟨⟨D.drop c0, L ++ [⟨y, A1, c1, B⟩], HDD.out.trans (by omega), HYD.out, HQ9.out, HTQ.out A1 c1, by rw [List.length_append, HL.out]; rfl, HR9.out⟩, by omega, HB9.out, by omega, by have := HKQ.out; omega⟩⟩
        · simp [intOf]
          omega
      · have HQ9 : Hid (Bs .u8 w w.heap.size (some ⟨bb, o2 + m, none⟩) (D.drop m)) := Lib.hid (qD.drop m _ (fun hh => by simp [addr_add]))
        clear qD qW
        go_wp2_with fail
        refine CF.mono ?_
        rintro e Y1 ⟨rfl, u1⟩
        have CD2 := CD Y1 u1
        clear CF CD
        go_wp2_with fail
        refine CD2.mono ?_
        rintro e Y2 ⟨A1, c1, A2, c2, rfl, o1, -, u2⟩
        obtain ⟨Y3, hY3⟩ : ∃ V', Y2.alloc (.cells #[Value.int .i64 y.a, .int .i64 y.o, .int .i64 y.t, .int .u32 y.i, .int .u32 y.v, .int .u32 y.q, .int .i64 y.s, .int .i64 y.n, .slice A1 (m - 20) c1] 87) = V' := ⟨_, rfl⟩
        have u3 : Below Y2.heap.size Y2 Y3 := by rw [← hY3]; exact below_alloc1 _ _
        obtain ⟨y0, y1, y2, y3, y4, y5, y6, y7, y8⟩ := kb9_new hY3 (Below.refl _ _)
        have u12 := u1.trans (u2.mono u1.size)
        have T3 := u12.trans (u3.mono u12.size)
        have HT3 := Lib.hid (HB.out.trans (T3.mono HB.out.size))
        have bx : Bu Y3 ⟨y, A1, c1, B⟩ := Bu.of_own (o1.step u3)
        obtain ⟨k3, hk3⟩ : ∃ k, Y3.heap.size = k := ⟨_, rfl⟩
        obtain ⟨g9, c9, Z9, r9, ro9, bl9, -⟩ := aro_app (HA.out.step T3) HL.out ⟨y, A1, c1, B⟩ bx (by omega) k3 hk3 HT3.out.size
        rw [show (acs ⟨y, A1, c1, B⟩).toArray = #[Value.int .i64 y.a, .int .i64 y.o, .int .i64 y.t, .int .u32 y.i, .int .u32 y.v, .int .u32 y.q, .int .i64 y.s, .int .i64 y.n, .slice A1 (m - 20) c1] from by simp [acs, HBL.out]] at r9
        have HR9 := Lib.hid ro9
        have HB9 := Lib.hid (HT3.out.trans bl9)
        clear u1 u2 u12 T3 o1 bx ro9 bl9 u3 CD2
        go_wp2_with (at_builtin; refine wpList_runb _ rfl (.tmp 48) (.tmp 50) 51 rfl rfl rfl r9 ?_)
        refine wp_goto ?_
        refine ⟨rfl, ?_, ?_⟩
        · exact ⟨q, k0 - m, odd, m' + 1, _, _, some ⟨g9, 0, none⟩, c9, _, _, _, _, _, _, _, _, _, _, _, _, _, _, _, _, _, _, _, _, _, _, _, _, _, _, _, _, _, _, _, _, _, _, _, _, _, _, _, _, _, _, _, _, _, _, _, _, _, _, rfl, Lib.hid ⟨⟨D.drop m, L ++ [⟨y, A1, c1, B⟩], HDD.out, HYD.out, HQ9.out, HTQ.out A1 c1, by rw [List.length_append, HL.out]; rfl, HR9.out⟩, by omega, HB9.out, by omega, by have := HKQ.out; omega⟩⟩
        · simp [intOf]
          omega
    · simp only [hw] at CD
      rw [if_neg hw] at hT
      have HTQ : Hid (tkf q (D.drop m) (cons L) (odd + 1) = R) := Lib.hid hT
      generalize sub D 20 (m - 20) = B at *
      generalize rdf (D.take 20) = y at *
      clear hJ hL hA hbel hT hT2 hkq hE hmay hln hNe hmy tt rE rP bN bY dE okB dl hw
      by_cases hc0 : c0 = m
      · subst hc0
        have HQ9 : Hid (Bs .u8 w w.heap.size (some ⟨bb, o2, none⟩) (D.drop c0)) := Lib.hid (qD.drop c0 _ (fun hh => by omega))
        clear qD qW
        go_wp2_with fail
        refine CF.mono ?_
        rintro e Y1 ⟨rfl, u1⟩
        have CD2 := CD Y1 u1
        clear CF CD
        go_wp2_with fail
        refine CD2.mono ?_
        rintro e Y2 ⟨rfl, u2⟩
        have u12 := u1.trans (u2.mono u1.size)
        have T3 := u12.trans (below_alloc1 Y2 (.cells #[Value.int .i64 0, .int .i64 0, .int .i64 0, .int .u32 0, .int .u32 0, .int .u32 0, .int .i64 0, .int .i64 0, .slice none 0 0] 87) |>.mono u12.size)
        have HB9 := Lib.hid (HB.out.trans (T3.mono HB.out.size))
        have HR9 := Lib.hid (HA.out.step T3)
        clear u1 u2 u12 T3 CD2
        go_wp2
        refine wp_goto ?_
        refine ⟨rfl, ?_, ?_⟩
        · exact ⟨q, 0, odd + 1, m', _, _, _, _, _, _, _, _, _, _, _, _, _, _, _, _, _, _, _, _, _, _, _, _, _, _, _, _, _, _, _, _, _, _, _, _, _, _, _, _, _, _, _, _, _, _, _, _, _, _, _, _, _, _, rfl, Lib.hid ⟨⟨D.drop c0, L, HDD.out.trans (by omega), HYD.out, HQ9.out, HTQ.out, HL.out, HR9.out⟩, by omega, HB9.out, by omega, by have := HKQ.out; omega⟩⟩
        · simp [intOf]
          omega
      · have HQ9 : Hid (Bs .u8 w w.heap.size (some ⟨bb, o2 + m, none⟩) (D.drop m)) := Lib.hid (qD.drop m _ (fun hh => by simp [addr_add]))
        clear qD qW
        go_wp2_with fail
        refine CF.mono ?_
        rintro e Y1 ⟨rfl, u1⟩
        have CD2 := CD Y1 u1
        clear CF CD
        go_wp2_with fail
        refine CD2.mono ?_
        rintro e Y2 ⟨rfl, u2⟩
        have u12 := u1.trans (u2.mono u1.size)
        have T3 := u12.trans (below_alloc1 Y2 (.cells #[Value.int .i64 0, .int .i64 0, .int .i64 0, .int .u32 0, .int .u32 0, .int .u32 0, .int .i64 0, .int .i64 0, .slice none 0 0] 87) |>.mono u12.size)
        have HB9 := Lib.hid (HB.out.trans (T3.mono HB.out.size))
        have HR9 := Lib.hid (HA.out.step T3)
        clear u1 u2 u12 T3 CD2
        go_wp2
        refine wp_goto ?_
        refine ⟨rfl, ?_, ?_⟩
        · exact ⟨q, k0 - m, odd + 1, m', _, _, _, _, _, _, _, _, _, _, _, _, _, _, _, _, _, _, _, _, _, _, _, _, _, _, _, _, _, _, _, _, _, _, _, _, _, _, _, _, _, _, _, _, _, _, _, _, _, _, _, _, _, _, rfl, Lib.hid ⟨⟨D.drop m, L, HDD.out, HYD.out, HQ9.out, HTQ.out, HL.out, HR9.out⟩, by omega, HB9.out, by omega, by have := HKQ.out; omega⟩⟩
        · simp [intOf]
          omega
end Go.Proofs.Ytefbpaebimagaaa
