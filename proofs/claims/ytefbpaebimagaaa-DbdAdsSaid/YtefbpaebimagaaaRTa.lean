/-
  The contract of the reference's TakeAds. No statement is proved here; no conditions.
-/
import Derived.Test.YtefbpaebimagaaaBu
import Derived.Test.YtefbpaebimagaaaRWe
import Derived.Test.YtefbpaebimagaaaRH
namespace Go.Proofs.Ytefbpaebimagaaa
open Go.RowKit Go.Joins

theorem Bu.take {w : World} {h h' : Hd} {A : Option Addr} {c c' : Nat} {l : List Int} (b : Bu w ⟨h, A, c, l⟩) (n : Nat) : Bu w ⟨h', A, c', l.take n⟩ :=
  ⟨b.1.take n, fun g off e hl => b.2 g off e (by rintro rfl; simp at hl)⟩
theorem Bu.drop {w : World} {h h' : Hd} {g o : Nat} {c c' : Nat} {l : List Int} (b : Bu w ⟨h, some ⟨g, o, none⟩, c, l⟩) (n : Nat) : Bu w ⟨h', some ⟨g, o + n, none⟩, c', l.drop n⟩ :=
  ⟨Bs.drop b.1 n _ (fun _ => by simp [addr_add]), fun g' off e hl => by
    injection e with e
    injection e with e1 _
    subst e1
    exact b.2 _ o rfl (by rintro rfl; simp at hl)⟩
theorem Bu.nil (w : World) (h : Hd) (A : Option Addr) (c : Nat) : Bu w ⟨h, A, c, []⟩ := ⟨Bs.nil _, fun _ _ _ hl => absurd rfl hl⟩
/-- What holds between two rounds. -/
structure RJ (R : Int × List Ct × Nat) (B0 : Nat) (w : World) (k k0 odd m' : Nat) (A0 : Option Addr) (c0 : Nat) (A' : Option Addr) (c' : Nat) (w' : World) : Prop where
  ex : ∃ (D : List Int) (L : List Ae), D.length = k0 ∧ Byt D ∧ Bu w' ⟨zhd, A0, c0, D⟩ ∧ tkf k D (cons L) odd = R ∧ L.length = m' ∧ Aro B0 w' A' c' L
  cap : k0 ≤ c0
  bel : Below B0 w w'
  big : k0 ≤ 4000
  num : odd + m' + k ≤ 50
def TB (R : Int × List Ct × Nat) (w : World) (e : Ending) (w' : World) : Prop := ∃ A' c' m' L, cons L = R.2.1 ∧ L.length = m' ∧ e = .returned (.tuple #[.slice A' m' c', .int .i64 (R.2.2 : Int), .int .i64 R.1]) ∧ Arr w' A' L ∧ Below w.heap.size w w'
theorem TB.bad {w w' : World} {x : Int} (hb : Below w.heap.size w w') : TB (x, [], 0) w (.returned (.tuple #[.slice none 0 0, .int .i64 0, .int .i64 x])) w' := ⟨none, 0, 0, [], rfl, rfl, rfl, Arr.nil _ _, hb⟩
theorem tkf_rdE {k : Nat} {D : List Int} {out : List Ct} {odd : Nat} (h : rdE D ≠ 0) : tkf (k + 1) D out odd = (rdE D, [], 0) := by
  rw [tkf]
  unfold rdE at h ⊢
  split
  · rfl
  · rename_i q
    rw [if_neg q] at h
    split
    · rename_i q2
      rw [if_pos q2] at h
      exact absurd rfl h
    · rfl
set_option maxRecDepth 100000 in
set_option maxHeartbeats 16000000 in
theorem rtakeads_any (A : Option Addr) (n c : Nat) (l : List Int) (w : World) (hn : l.length = n) (hb : Bt w A l) (hy : Byt l) (hc : n ≤ c) (hl : n ≤ 4000) :
    Calls Try.prog 29 #[.slice A n c] w fun e w' => TB (taf l) w e w' := by
  obtain ⟨R, hR⟩ : ∃ R, taf l = R := ⟨_, rfl⟩
  rw [hR]
  have CT := rtake_any A c l w.heap.size 4 w hb hy (by omega) (Nat.le_refl _) (by omega)
  rw [hn] at CT
  by_cases h4 : n < 4
  · have e : R = (2, [], 0) := by rw [← hR, taf, if_pos (by omega)]
    subst e
    have e1 : takeE l 4 = 2 := by rw [takeE, if_neg (by decide), if_pos (by omega)]
    have e2 : takeN l 4 = 0 := by rw [takeN, e1]; rfl
    have e3 : takeL l 4 = [] := by rw [takeL, e1]; rfl
    rw [e1, e2, e3] at CT
    clear hb hy hn hR e1 e2 e3
    go_enter Try.func29, Try.ntmps29
    go_wp2_with fail
    refine CT.mono ?_
    rintro e Y1 ⟨A1, c1, rfl, -, u1⟩
    go_wp2
    go_ret3
    exact TB.bad u1
  have e1 : takeE l 4 = 0 := by rw [takeE, if_neg (by decide), if_neg (by omega)]
  have e2 : takeN l 4 = num (l.take 4) := by rw [takeN, if_pos e1]; rfl
  have e3 : takeL l 4 = l.drop 4 := by rw [takeL, if_pos e1]; rfl
  have hd4 : (l.drop 4).length = n - 4 := by rw [List.length_drop, hn]
  rw [e1, e2, e3, hd4] at CT
  have l4 : (l.take 4).length = 4 := by simp; omega
  have v4 := num_four (hy.take 4) l4
  have hR2 : R = if 50 < num (l.take 4) then (3, [], 0) else tkf (num (l.take 4)).toNat (l.drop 4) [] 0 := by rw [← hR, taf, if_neg (by omega)]
  generalize num (l.take 4) = N4 at *
  by_cases h50 : N4 > 50
  · have e : R = (3, [], 0) := by rw [hR2, if_pos h50]
    subst e
    clear hb hy hn hR hR2 l4 e1 e2 e3
    go_enter Try.func29, Try.ntmps29
    go_wp2_with fail
    refine CT.mono ?_
    rintro e Y1 ⟨A1, c1, rfl, -, u1⟩
    go_wp2
    go_ret3
    exact TB.bad u1
  rw [if_neg h50] at hR2
  obtain ⟨k, hk⟩ : ∃ k : Nat, N4 = (k : Int) := ⟨N4.toNat, by omega⟩
  have hk50 : k ≤ 50 := by omega
  have hkt : N4.toNat = k := by omega
  rw [hkt] at hR2
  subst hk
  have HR2 := Lib.hid hR2
  have HD4 := Lib.hid hd4
  have HYD := Lib.hid (hy.drop 4)
  clear hR hR2 hkt hd4 l4 hb hy hn e1 e2 e3
  go_enter Try.func29, Try.ntmps29
  go_wp2_with fail
  refine CT.mono ?_
  rintro e Y1 ⟨A1, c1, rfl, o1, u1⟩
  have hcap1 := o1.cap_le
  rw [HD4.out] at hcap1
  have HU := Lib.hid u1
  obtain ⟨W0, hW0⟩ : ∃ V, Y1.alloc (.cells #[] 87) = V := ⟨_, rfl⟩
  have bW0 : Below Y1.heap.size Y1 W0 := by rw [← hW0]; exact below_alloc1 _ _
  have HJ : Hid (RJ R Y1.heap.size Y1 k (n - 4) 0 0 A1 c1 (some ⟨Y1.heap.size, 0, none⟩) 0 W0) := Lib.hid ⟨⟨l.drop 4, [], HD4.out, HYD.out, Bu.of_own (x := ⟨zhd, A1, c1, l.drop 4⟩) (o1.step bW0), HR2.out.symm, rfl,
    ⟨.inr ⟨Y1.heap.size, Nat.le_refl _, rfl, by rw [← hW0]; exact Rg.lit Y1 87 9 0 #[] [] rfl rfl (by simp [maxLen])⟩, fun x hx => by cases hx⟩⟩, hcap1, bW0, by omega, by omega⟩
  clear o1 u1 bW0 CT
  go_wp2_with fail
  go_loopg [0, 7, 8, 9] k (fun gf v0 v7 v8 v9 wx => ∃ (i k0 odd m' : Nat) (A0 : Option Addr) (c0 : Nat) (A' : Option Addr) (c' : Nat), v0 = .slice A0 k0 c0 ∧ v7 = .slice A' m' c' ∧ v8 = .int .i64 (odd : Int) ∧ v9 = .int .u32 (i : Int) ∧ Hid (gf + i = k) ∧ Hid (RJ R Y1.heap.size Y1 gf k0 odd m' A0 c0 A' c' wx))
  case atStart => exact ⟨0, n - 4, 0, 0, _, _, _, _, rfl, rfl, rfl, rfl, Lib.hid (by omega), HJ⟩
  case round =>
    obtain ⟨i, k0, odd, m', A0, c0, A', c', rfl, rfl, rfl, rfl, hi, hJ⟩ := hrel
    have hi' := hi.out
    obtain ⟨⟨D, L, hD, yD, qD, hT, hL, hA⟩, hcap, hbel, hbig, hnum⟩ := hJ.out
    clear HJ hW0 HR2 HD4 HYD
    cases gk with
    | zero =>
      have lt0 : decide ((i : Int) < (k : Int)) = false := by simp; omega
      have lt1 : decide (i < k) = false := by simp; omega
      rw [tkf] at hT
      by_cases hz : k0 = 0
      · subst hz
        rw [if_pos hD] at hT
        subst hT
        have HL := Lib.hid hL
        have HA := Lib.hid hA
        have HB := Lib.hid hbel
        clear hJ hL hA hbel qD
        go_wp2
        go_ret3
        exact ⟨A', c', m', L, rfl, HL.out, rfl, HA.out.arr, HU.out.trans (HB.out.mono HU.out.size)⟩
      · rw [if_neg (by omega)] at hT
        subst hT
        have g1 : (k0 : Int) > 0 := by omega
        have HB := Lib.hid hbel
        clear hJ hL hA hbel qD
        go_wp2
        go_ret3
        exact TB.bad (HU.out.trans (HB.out.mono HU.out.size))
    | succ gf =>
      have lt0 : (i : Int) < (k : Int) := by omega
      have hiw : IntKind.u32.wrap ((i : Int) + 1) = (i : Int) + 1 := wrap_u32 (by omega) (by omega)
      have CR := rreadhead_any A0 k0 c0 D wr hD qD.1 yD hcap (by omega)
      have HB := Lib.hid hbel
      have HL := Lib.hid hL
      have HA := Lib.hid hA
      by_cases hE : rdE D = 0
      case neg =>
        have HR3 : Hid (R = (rdE D, [], 0)) := Lib.hid (by rw [← hT, tkf_rdE hE])
        have e5 : rdp D = zhd := by rw [rdp, if_neg hE]
        have e6 : rdr D = [] := by rw [rdr, if_neg hE]
        rw [e5, e6] at CR
        generalize rdE D = E at *
        have CR2 : Calls Try.prog 55 #[.slice A0 k0 c0] wr fun e w' => ∃ A' c', e = .returned (.tuple #[.agg #[.int .i64 0, .int .i64 0, .int .i64 0, .int .u32 0, .int .u32 0, .int .u32 0, .int .i64 0, .int .i64 0], .slice A' 0 c', .int .i64 E]) ∧ Own .u8 5 w' wr.heap.size A' c' [] ∧ Below wr.heap.size wr w' := CR
        have dE : (E == 0) = false := by simpa using hE
        have dE2 : (E != 0) = true := by simp [bne, dE]
        clear hJ hL hA hbel qD hT hE e5 e6 CR
        go_wp2_with fail
        refine CR2.mono ?_
        rintro e Z1 ⟨A2, c2, rfl, -, u2⟩
        have T2 := Lib.hid (u2.trans (below_alloc1 Z1 (.cells #[Value.int .i64 0, .int .i64 0, .int .i64 0, .int .u32 0, .int .u32 0, .int .u32 0, .int .i64 0, .int .i64 0] 85) |>.mono u2.size))
        go_wp2
        go_ret3
        rw [HR3.out]
        exact TB.bad (HU.out.trans ((HB.out.trans (T2.out.mono HB.out.size)).mono HU.out.size))
      obtain ⟨h20, hP, hRR, hmay⟩ := rdE_ok hE
      have hdl : (D.drop 20).length = k0 - 20 := by rw [List.length_drop, hD]
      rw [hE, hP, hRR, hdl] at CR
      have hmy := ((mayd_iff _).1 hmay).2.2.2.2.2
      obtain ⟨m, hm⟩ : ∃ m : Nat, (rdf (D.take 20)).n = (m : Int) := ⟨(rdf (D.take 20)).n.toNat, by omega⟩
      have hmn : (rdf (D.take 20)).n.toNat = m := by omega
      have okh : Okd (rdf (D.take 20)) := rdf_ok (yD.take 20) (by rw [List.length_take]; omega)
      rw [tkf, if_neg (by omega), if_pos hmay, hm] at hT
      have hm20 : 20 ≤ m ∧ m ≤ 1400 := by omega
      obtain ⟨hm1, hm2⟩ := hm20
      rw [show ((m : Int)).toNat = m from by omega] at hT
      have hwm : IntKind.i64.wrap ((m : Int) - 20) = (m : Int) - 20 := wrap_i64 (by omega) (by omega)
      obtain ⟨y, hyy⟩ : ∃ y, rdf (D.take 20) = y := ⟨_, rfl⟩
      rw [hyy] at CR hT hm okh
      obtain ⟨p, hp⟩ : ∃ p : Nat, m - 20 = p := ⟨_, rfl⟩
      have hpI : (m : Int) - 20 = (p : Int) := by omega
      have HPI := Lib.hid hpI
      have HYN := Lib.hid hm
      have hyw : IntKind.i64.wrap (y.n - 20) = (p : Int) := by rw [hm, hpI]; exact wrap_i64 (by omega) (by omega)
      have hyw2 : y.n - 20 = (p : Int) := by omega
      have hyw3 : wrap64 (y.n - 20) = (p : Int) := by rw [hyw2]; unfold wrap64; omega
      clear hJ hL hA hbel hE hP hRR hmay hmy hmn hyy hwm hm
      by_cases hs : (p : Int) > ((k0 - 20 : Nat) : Int)
      · have HR3 : Hid (R = (2, [], 0)) := Lib.hid (by rw [← hT, if_pos (by omega)])
        clear hT qD
        go_wp2_with fail
        refine CR.mono ?_
        rintro e Z1 ⟨A1, c1, rfl, -, u1⟩
        obtain ⟨Z2, hZ2⟩ : ∃ V', Z1.alloc (.cells #[Value.int .i64 y.a, .int .i64 y.o, .int .i64 y.t, .int .u32 y.i, .int .u32 y.v, .int .u32 y.q, .int .i64 y.s, .int .i64 y.n] 85) = V' := ⟨_, rfl⟩
        have u2 : Below Z1.heap.size Z1 Z2 := by rw [← hZ2]; exact below_alloc1 _ _
        obtain ⟨y0, y1, y2, y3, y4, y5, y6, y7⟩ := kb8_new hZ2 (Below.refl _ _)
        have T2 := Lib.hid (u1.trans (u2.mono u1.size))
        clear u1 u2
        go_wp2
        go_ret3
        rw [HR3.out]
        exact TB.bad (HU.out.trans ((HB.out.trans (T2.out.mono HB.out.size)).mono HU.out.size))
      have hmk : m ≤ k0 := by omega
      have hs2 : ¬ ((p : Int) > ((k0 - 20 : Nat) : Int)) := hs
      rw [if_neg (by rw [hD]; omega), hp] at hT
      have okB : (sub D 20 p).length = p := sub_len (by omega)
      have yB : Byt (sub D 20 p) := sub_byt yD 20 p
      have HBL := Lib.hid okB
      have HDD : Hid ((D.drop m).length = k0 - m) := Lib.hid (by rw [List.length_drop, hD])
      have HDL := Lib.hid hD
      have HD20 := Lib.hid hdl
      have HYDm : Hid (Byt (D.drop m)) := Lib.hid (yD.drop m)
      have hdd : (D.drop 20).drop p = D.drop m := by rw [List.drop_drop]; congr 1; omega
      have HDP := Lib.hid hdd
      have HDS : Hid ((D.drop 20).take p = sub D 20 p) := Lib.hid rfl
      have HT := Lib.hid hT
      generalize sub D 20 p = B at *
      clear qD hs hT hdd hdl
      go_wp2_with fail
      refine CR.mono ?_
      rintro e Z1 ⟨A1, c1, rfl, o1, u1⟩
      have hc1 := o1.cap_le
      rw [show (D.drop 20).length = k0 - 20 from by rw [List.length_drop, hD]] at hc1
      obtain ⟨Z2, hZ2⟩ : ∃ V', Z1.alloc (.cells #[Value.int .i64 y.a, .int .i64 y.o, .int .i64 y.t, .int .u32 y.i, .int .u32 y.v, .int .u32 y.q, .int .i64 y.s, .int .i64 y.n] 85) = V' := ⟨_, rfl⟩
      have u2 : Below Z1.heap.size Z1 Z2 := by rw [← hZ2]; exact below_alloc1 _ _
      obtain ⟨kh, hkh⟩ : ∃ kh, Z1.heap.size = kh := ⟨_, rfl⟩
      have HKW : Hid (wr.heap.size ≤ kh) := Lib.hid (by rw [← hkh]; exact u1.size)
      have KY : Hid (∀ V, Below Z2.heap.size Z2 V → V.cell? ⟨kh, 0, none⟩ = some (.int .i64 y.a) ∧ V.cell? ⟨kh, 1, none⟩ = some (.int .i64 y.o) ∧ V.cell? ⟨kh, 2, none⟩ = some (.int .i64 y.t) ∧ V.cell? ⟨kh, 3, none⟩ = some (.int .u32 y.i) ∧ V.cell? ⟨kh, 4, none⟩ = some (.int .u32 y.v) ∧ V.cell? ⟨kh, 5, none⟩ = some (.int .u32 y.q) ∧ V.cell? ⟨kh, 6, none⟩ = some (.int .i64 y.s) ∧ V.cell? ⟨kh, 7, none⟩ = some (.int .i64 y.n)) := Lib.hid (fun V hV => by rw [← hkh]; exact kb8_new hZ2 hV)
      have HKH : Hid (kh < Z2.heap.size) := Lib.hid (by have := u2.size; rw [← hZ2, World.size_alloc]; omega)
      obtain ⟨y0, y1, y2, y3, y4, y5, y6, y7⟩ := KY.out _ (Below.refl _ _)
      have T2 := Lib.hid (u1.trans (u2.mono u1.size))
      have HO1 := Lib.hid (o1.step u2)
      have ng1 : (p : Int) ≤ ((k0 - 20 : Nat) : Int) := by omega
      have ng2 : (p : Int) ≤ (c1 : Int) := by omega
      have ng3 : p ≤ k0 - 20 := by omega
      clear o1 u1 u2 CR
      go_upto_region 15 with fail
      clear y0 y1 y2 y3 y4 y5 y6 y7
      have tt : Below Z2.heap.size Z2 Z2 := Below.refl _ _
      refine wp_region_held_drew (S := fun V => V.cell? ⟨kh, 0, none⟩ = some (.int .i64 y.a) ∧ V.cell? ⟨kh, 1, none⟩ = some (.int .i64 y.o) ∧ V.cell? ⟨kh, 2, none⟩ = some (.int .i64 y.t) ∧ V.cell? ⟨kh, 3, none⟩ = some (.int .u32 y.i) ∧ V.cell? ⟨kh, 4, none⟩ = some (.int .u32 y.v) ∧ V.cell? ⟨kh, 5, none⟩ = some (.int .u32 y.q) ∧ V.cell? ⟨kh, 6, none⟩ = some (.int .i64 y.s) ∧ V.cell? ⟨kh, 7, none⟩ = some (.int .i64 y.n)) (by kernel_rfl) (KY.out _ tt.drew) (fun hHeld => ?_)
      replace tt : Below Z2.heap.size Z2 Z2.drew := tt.drew
      generalize hX0 : Z2.drew = X0 at tt hHeld ⊢
      clear hX0
      refine wpAnyH_take (i := 0) (v := ?_) rfl (by kernel_rfl) (by kernel_rfl) (by kernel_rfl) (fun _ _ _ h => h) (Or.inl ⟨by rfl, ?_⟩) (by assumption) ?_
      rotate_left
      · (intro w' hSw; (try dsimp only at hSw); go_simp; try with_reducible rfl)
      simp only [Act.put, List.getElem_toArray, List.getElem_cons_zero, List.setIfInBounds_toArray, List.set_cons_zero, List.set_cons_succ]
      refine wpAnyH_take (i := 1) (v := ?_) rfl (by kernel_rfl) (by kernel_rfl) (by kernel_rfl) (fun _ _ _ h => h) (Or.inl ⟨by rfl, ?_⟩) (by assumption) ?_
      rotate_left
      · (intro w' hSw; (try dsimp only at hSw); go_simp; try with_reducible rfl)
      simp only [Act.put, List.getElem_toArray, List.getElem_cons_zero, List.getElem_cons_succ, List.setIfInBounds_toArray, List.set_cons_zero, List.set_cons_succ]
      refine wpAnyH_take (i := 2) (v := ?_) rfl (by kernel_rfl) (by kernel_rfl) (by kernel_rfl) (fun _ _ _ h => h) (Or.inl ⟨by rfl, ?_⟩) (by assumption) ?_
      rotate_left
      · (intro w' hSw; (try dsimp only at hSw); go_simp; try with_reducible rfl)
      simp only [Act.put, List.getElem_toArray, List.getElem_cons_zero, List.getElem_cons_succ, List.setIfInBounds_toArray, List.set_cons_zero, List.set_cons_succ]
      refine wpAnyH_take (i := 3) (v := ?_) rfl (by kernel_rfl) (by kernel_rfl) (by kernel_rfl) (fun _ _ _ h => h) (Or.inl ⟨by rfl, ?_⟩) (by assumption) ?_
      rotate_left
      · (intro w' hSw; (try dsimp only at hSw); go_simp; try with_reducible rfl)
      simp only [Act.put, List.getElem_toArray, List.getElem_cons_zero, List.getElem_cons_succ, List.setIfInBounds_toArray, List.set_cons_zero, List.set_cons_succ]
      refine wpAnyH_take (i := 4) (v := .int .i64 (p : Int)) rfl (by kernel_rfl) (by kernel_rfl) (by kernel_rfl) (fun _ _ _ h => h) (Or.inl ⟨by rfl, ?_⟩) (by assumption) ?_
      · (intro w' hSw; (try dsimp only at hSw); go_simp; first | rw [wrap_i64 (by omega) (by omega)] | rw [hyw])
      simp only [Act.put, List.getElem_toArray, List.getElem_cons_zero, List.getElem_cons_succ, List.setIfInBounds_toArray, List.set_cons_zero, List.set_cons_succ]
      refine wpAnyH_take (i := 5) (v := .slice A1 p c1) rfl (by kernel_rfl) (by kernel_rfl) (by kernel_rfl) (fun _ _ _ h => h) (Or.inl ⟨by rfl, ?_⟩) (by assumption) ?_
      · (intro w' hSw; (try dsimp only at hSw); go_simp; try rfl)
      simp only [Act.put, List.getElem_toArray, List.getElem_cons_zero, List.getElem_cons_succ, List.setIfInBounds_toArray, List.set_cons_zero, List.set_cons_succ]
      refine wpAnyH_take (i := 6) (v := .agg #[.int .i64 y.a, .int .i64 y.o, .int .i64 y.t, .int .u32 y.i, .int .u32 y.v, .int .u32 y.q, .int .i64 y.s, .int .i64 y.n, .slice A1 p c1]) rfl (by kernel_rfl) (by kernel_rfl) (by kernel_rfl) (fun _ _ _ h => h) (Or.inl ⟨by rfl, ?_⟩) (by assumption) ?_
      · (intro w' hSw; (try dsimp only at hSw); go_simp; try rfl)
      simp only [Act.put, List.getElem_toArray, List.getElem_cons_zero, List.getElem_cons_succ, List.setIfInBounds_toArray, List.set_cons_zero, List.set_cons_succ]
      refine wpAnyH_ready (rs := [7]) (by kernel_rfl) (by simp) ?_
      refine AllReadyH.cons rfl (fun K hK => ?_) AllReadyH.nil
      go_simp
      obtain ⟨Y11, hY11⟩ : ∃ V, X0.alloc (.cells #[Value.int .i64 0, .int .i64 0, .int .i64 0, .int .u32 0, .int .u32 0, .int .u32 0, .int .i64 0, .int .i64 0, .slice none 0 0] 87) = V := ⟨_, rfl⟩
      have u11 : Below X0.heap.size X0 Y11 := by rw [← hY11]; exact below_alloc1 _ _
      have kz := At.mk hY11
      have t_Y11 : Below Z2.heap.size Z2 Y11 := tt.trans (u11.mono tt.size)
      obtain ⟨k11, hk11⟩ : ∃ k, X0.heap.size = k := ⟨_, rfl⟩
      rw [hk11] at kz
      have ga : Hid (Z2.heap.size ≤ k11) := Lib.hid (by rw [← hk11]; exact tt.size)
      try rw [hY11]
      try rw [hk11]
      clear hY11 hk11
      refine hK.out _ _ (KY.out _ t_Y11) (fun _ => ?_)
      clear hK K
      refine wpAnyH_ready (rs := [8]) (by kernel_rfl) (by simp) ?_
      refine AllReadyH.cons rfl (fun K hK => ?_) AllReadyH.nil
      obtain ⟨a0, a1, a2, a3, a4, a5, a6, a7, a8, f0, f1, f2, f3, f4, f5, f6, f7, f8, hzl⟩ := kz9_at kz
      have KR : Hid (At (st9 Y11 k11 (Value.int .i64 y.a) (.int .i64 y.o) (.int .i64 y.t) (.int .u32 y.i) (.int .u32 y.v) (.int .u32 y.q) (.int .i64 y.s) (.int .i64 y.n) (.slice A1 p c1)) k11 (.cells #[.int .i64 y.a, .int .i64 y.o, .int .i64 y.t, .int .u32 y.i, .int .u32 y.v, .int .u32 y.q, .int .i64 y.s, .int .i64 y.n, .slice A1 p c1] 87)) := Lib.hid (kz9_set kz (Value.int .i64 y.a) (.int .i64 y.o) (.int .i64 y.t) (.int .u32 y.i) (.int .u32 y.v) (.int .u32 y.q) (.int .i64 y.s) (.int .i64 y.n) (.slice A1 p c1))
      have TF : Hid (Below Z2.heap.size Z2 (st9 Y11 k11 (Value.int .i64 y.a) (.int .i64 y.o) (.int .i64 y.t) (.int .u32 y.i) (.int .u32 y.v) (.int .u32 y.q) (.int .i64 y.s) (.int .i64 y.n) (.slice A1 p c1))) := Lib.hid (below_st9 t_Y11 ga.out _ _ _ _ _ _ _ _ _ )
      have hnb : kh ≠ k11 := by have := HKH.out; have := ga.out; omega
      have KF : Hid ((st9 Y11 k11 (Value.int .i64 y.a) (.int .i64 y.o) (.int .i64 y.t) (.int .u32 y.i) (.int .u32 y.v) (.int .u32 y.q) (.int .i64 y.s) (.int .i64 y.n) (.slice A1 p c1)).cell? ⟨kh, 0, none⟩ = some (.int .i64 y.a) ∧ (st9 Y11 k11 (Value.int .i64 y.a) (.int .i64 y.o) (.int .i64 y.t) (.int .u32 y.i) (.int .u32 y.v) (.int .u32 y.q) (.int .i64 y.s) (.int .i64 y.n) (.slice A1 p c1)).cell? ⟨kh, 1, none⟩ = some (.int .i64 y.o) ∧ (st9 Y11 k11 (Value.int .i64 y.a) (.int .i64 y.o) (.int .i64 y.t) (.int .u32 y.i) (.int .u32 y.v) (.int .u32 y.q) (.int .i64 y.s) (.int .i64 y.n) (.slice A1 p c1)).cell? ⟨kh, 2, none⟩ = some (.int .i64 y.t) ∧ (st9 Y11 k11 (Value.int .i64 y.a) (.int .i64 y.o) (.int .i64 y.t) (.int .u32 y.i) (.int .u32 y.v) (.int .u32 y.q) (.int .i64 y.s) (.int .i64 y.n) (.slice A1 p c1)).cell? ⟨kh, 3, none⟩ = some (.int .u32 y.i) ∧ (st9 Y11 k11 (Value.int .i64 y.a) (.int .i64 y.o) (.int .i64 y.t) (.int .u32 y.i) (.int .u32 y.v) (.int .u32 y.q) (.int .i64 y.s) (.int .i64 y.n) (.slice A1 p c1)).cell? ⟨kh, 4, none⟩ = some (.int .u32 y.v) ∧ (st9 Y11 k11 (Value.int .i64 y.a) (.int .i64 y.o) (.int .i64 y.t) (.int .u32 y.i) (.int .u32 y.v) (.int .u32 y.q) (.int .i64 y.s) (.int .i64 y.n) (.slice A1 p c1)).cell? ⟨kh, 5, none⟩ = some (.int .u32 y.q) ∧ (st9 Y11 k11 (Value.int .i64 y.a) (.int .i64 y.o) (.int .i64 y.t) (.int .u32 y.i) (.int .u32 y.v) (.int .u32 y.q) (.int .i64 y.s) (.int .i64 y.n) (.slice A1 p c1)).cell? ⟨kh, 6, none⟩ = some (.int .i64 y.s) ∧ (st9 Y11 k11 (Value.int .i64 y.a) (.int .i64 y.o) (.int .i64 y.t) (.int .u32 y.i) (.int .u32 y.v) (.int .u32 y.q) (.int .i64 y.s) (.int .i64 y.n) (.slice A1 p c1)).cell? ⟨kh, 7, none⟩ = some (.int .i64 y.n)) := Lib.hid <| by
        obtain ⟨e0, e1, e2, e3, e4, e5, e6, e7⟩ := KY.out _ t_Y11
        exact ⟨(cell_st9 (p := ⟨kh, 0, none⟩) hnb _ _ _ _ _ _ _ _ _ ).trans e0, (cell_st9 (p := ⟨kh, 1, none⟩) hnb _ _ _ _ _ _ _ _ _ ).trans e1, (cell_st9 (p := ⟨kh, 2, none⟩) hnb _ _ _ _ _ _ _ _ _ ).trans e2, (cell_st9 (p := ⟨kh, 3, none⟩) hnb _ _ _ _ _ _ _ _ _ ).trans e3, (cell_st9 (p := ⟨kh, 4, none⟩) hnb _ _ _ _ _ _ _ _ _ ).trans e4, (cell_st9 (p := ⟨kh, 5, none⟩) hnb _ _ _ _ _ _ _ _ _ ).trans e5, (cell_st9 (p := ⟨kh, 6, none⟩) hnb _ _ _ _ _ _ _ _ _ ).trans e6, (cell_st9 (p := ⟨kh, 7, none⟩) hnb _ _ _ _ _ _ _ _ _ ).trans e7⟩
      clear hHeld
      go_simp
      refine hK.out _ _ KF.out (fun _ => ?_)
      clear hK K
      refine wpAnyH_done (by kernel_rfl) ?_ _
      obtain ⟨V4, hV4⟩ : ∃ Z, (((((((((Y11.setCell ⟨k11, 0, none⟩ (Value.int .i64 y.a)).setCell ⟨k11, 1, none⟩ (Value.int .i64 y.o)).setCell ⟨k11, 2, none⟩ (Value.int .i64 y.t)).setCell ⟨k11, 3, none⟩ (Value.int .u32 y.i)).setCell ⟨k11, 4, none⟩ (Value.int .u32 y.v)).setCell ⟨k11, 5, none⟩ (Value.int .u32 y.q)).setCell ⟨k11, 6, none⟩ (Value.int .i64 y.s)).setCell ⟨k11, 7, none⟩ (Value.int .i64 y.n)).setCell ⟨k11, 8, none⟩ (Value.slice A1 p c1)) = Z := ⟨_, rfl⟩
      rw [hV4]
      have K4 : Hid (∀ W, Below V4.heap.size V4 W → W.heap[k11]? = some (.cells #[.int .i64 y.a, .int .i64 y.o, .int .i64 y.t, .int .u32 y.i, .int .u32 y.v, .int .u32 y.q, .int .i64 y.s, .int .i64 y.n, .slice A1 p c1] 87)) := Lib.hid (fun W hW => by
        have q : At V4 k11 (.cells #[.int .i64 y.a, .int .i64 y.o, .int .i64 y.t, .int .u32 y.i, .int .u32 y.v, .int .u32 y.q, .int .i64 y.s, .int .i64 y.n, .slice A1 p c1] 87) := by rw [← hV4]; exact KR.out
        exact (hW.block _ (lt_of_block q)).trans q)
      have T24 : Hid (Below Z2.heap.size Z2 V4) := Lib.hid (by rw [← hV4]; exact TF.out)
      clear hV4 KR TF KF kz ga t_Y11 hnb
      have T4 := Lib.hid (T2.out.trans (T24.out.mono T2.out.size))
      have o4 := HO1.out.step T24.out
      have qB : Bt V4 A1 B := by have := o4.bs.take p; rwa [HDS.out] at this
      have CW := rwhole_any y A1 p c1 B V4 HBL.out okh qB yB (by omega)
      obtain ⟨a0, a1, a2, a3, a4, a5, a6, a7, a8, f0, f1, f2, f3, f4, f5, f6, f7, f8, hzl⟩ := kz9_at (K4.out _ (Below.refl _ _))
      obtain ⟨qw, hqw⟩ : ∃ q, whl y B = q := ⟨_, rfl⟩
      rw [hqw] at CW
      have HQW := Lib.hid hqw
      clear o4 qB hqw
      go_wp2_with fail
      refine CW.mono ?_
      rintro e V5 ⟨rfl, u5⟩
      clear a0 a1 a2 a3 a4 a5 a6 a7 a8 f0 f1 f2 f3 f4 f5 f6 f7 f8 hzl CW
      obtain ⟨a0, a1, a2, a3, a4, a5, a6, a7, a8, f0, f1, f2, f3, f4, f5, f6, f7, f8, hzl⟩ := kz9_at (K4.out _ u5)
      have T25 := Lib.hid (T24.out.trans (u5.mono T24.out.size))
      have T5 := Lib.hid (T4.out.trans (u5.mono T4.out.size))
      have HB5 := Lib.hid (HB.out.trans (T5.out.mono HB.out.size))
      have o5 := HO1.out.step T25.out
      have HBX : Hid (Bu V5 ⟨y, A1, c1, B⟩) := Lib.hid (by have := (Bu.of_own (x := ⟨zhd, A1, c1, D.drop 20⟩) o5).take (h' := y) (c' := c1) p; rwa [HDS.out] at this)
      have HF := Lib.hid o5.form
      have HO5 := Lib.hid o5
      clear u5 o5
      rw [HQW.out] at HT
      have HPN : Hid (m = p + 20) := Lib.hid (by omega)
      cases qw with
      | true =>
        have HTQ : Hid (∀ A1 c1, tkf gf (D.drop m) (cons (L ++ [⟨y, A1, c1, B⟩])) odd = R) := Lib.hid (fun A1 c1 => by rw [cons_snoc]; have := HT.out; rwa [if_pos rfl] at this)
        clear HT
        by_cases hcp : c1 = p
        · subst hcp
          have HQ5 : Hid (Bu V5 ⟨zhd, A1, c1 - c1, D.drop m⟩) := Lib.hid (by rw [List.drop_eq_nil_of_le (by rw [HDL.out]; have := HPN.out; omega)]; exact Bu.nil _ _ _ _)
          obtain ⟨k5, hk5⟩ : ∃ k, V5.heap.size = k := ⟨_, rfl⟩
          obtain ⟨g9, c9, Z9, r9, ro9, bl9, kp9⟩ := aro_app (HA.out.step T5.out) HL.out ⟨y, A1, c1, B⟩ HBX.out (by omega) k5 hk5 HB5.out.size
          rw [show (acs ⟨y, A1, c1, B⟩).toArray = #[Value.int .i64 y.a, .int .i64 y.o, .int .i64 y.t, .int .u32 y.i, .int .u32 y.v, .int .u32 y.q, .int .i64 y.s, .int .i64 y.n, .slice A1 c1 c1] from by simp [acs, HBL.out]] at r9
          have HR9 := Lib.hid ro9
          have HB9 := Lib.hid (HB5.out.trans bl9)
          have HAX := (HA.out.step T5.out).row
          have HQ9 : Hid (Bu Z9 ⟨zhd, A1, c1 - c1, D.drop m⟩) := Lib.hid (HQ5.out.keep kp9.size fun b off e hl => kp9.block b (HQ5.out.2 b off e hl).1 (HQ5.out.apart HAX (by decide) b off e hl))
          have KH9 : Hid (∀ i, Z9.cell? ⟨kh, i, none⟩ = V5.cell? ⟨kh, i, none⟩) := Lib.hid (fun i => World.cell?_of_block (kp9.block kh (by have := HKH.out; have := T25.out.size; omega) (fun hj => by have := (Ob.lt HA.out.row hj); have := HKW.out; omega)))
          obtain ⟨z0, z1, z2, z3, z4, z5, z6, z7⟩ := KY.out _ T25.out
          have x7 := (KH9.out 7).trans z7
          have hkd : y.n = y.n := rfl
          clear ro9 bl9 kp9 hkd
          go_wp2_with (at_builtin; refine wpList_runb _ rfl (.tmp 54) (.tmp 56) 51 rfl rfl rfl r9 ?_)
          go_roundg gf
          case measure => omega
          case rel => exact ⟨i + 1, _, odd, m' + 1, _, _, some ⟨g9, 0, none⟩, c9, rfl, rfl, by go_num, by go_num, Lib.hid (by omega), Lib.hid ⟨⟨D.drop m, L ++ [⟨y, A1, c1, B⟩], HDD.out.trans (by have := HPN.out; omega), HYDm.out, HQ9.out, HTQ.out A1 c1, by rw [List.length_append, HL.out]; rfl, HR9.out⟩, by have := HPN.out; omega, HB9.out, by omega, by omega⟩⟩
        · obtain ⟨g1, rfl⟩ : ∃ g, A1 = some ⟨g, 0, none⟩ := by
            rcases HF.out with ⟨_, q1, q2⟩ | ⟨g, _, hA, _⟩
            · exfalso; have := HD20.out; rw [q2] at this; simp at this; omega
            · exact ⟨g, hA⟩
          have HQ5 : Hid (Bu V5 ⟨zhd, some ⟨g1, p, none⟩, c1 - p, D.drop m⟩) := Lib.hid (by
            have := Bu.drop (Bu.of_own (x := ⟨zhd, some ⟨g1, 0, none⟩, c1, D.drop 20⟩) HO5.out) (h' := zhd) (c' := c1 - p) p
            rw [List.drop_drop, Nat.zero_add, show 20 + p = m by have := HPN.out; omega] at this
            exact this)
          obtain ⟨k5, hk5⟩ : ∃ k, V5.heap.size = k := ⟨_, rfl⟩
          obtain ⟨g9, c9, Z9, r9, ro9, bl9, kp9⟩ := aro_app (HA.out.step T5.out) HL.out ⟨y, some ⟨g1, 0, none⟩, c1, B⟩ HBX.out (by omega) k5 hk5 HB5.out.size
          rw [show (acs ⟨y, some ⟨g1, 0, none⟩, c1, B⟩).toArray = #[Value.int .i64 y.a, .int .i64 y.o, .int .i64 y.t, .int .u32 y.i, .int .u32 y.v, .int .u32 y.q, .int .i64 y.s, .int .i64 y.n, .slice (some ⟨g1, 0, none⟩) p c1] from by simp [acs, HBL.out]] at r9
          have HR9 := Lib.hid ro9
          have HB9 := Lib.hid (HB5.out.trans bl9)
          have HAX := (HA.out.step T5.out).row
          have HQ9 : Hid (Bu Z9 ⟨zhd, (some ⟨g1, p, none⟩), c1 - p, D.drop m⟩) := Lib.hid (HQ5.out.keep kp9.size fun b off e hl => kp9.block b (HQ5.out.2 b off e hl).1 (HQ5.out.apart HAX (by decide) b off e hl))
          have KH9 : Hid (∀ i, Z9.cell? ⟨kh, i, none⟩ = V5.cell? ⟨kh, i, none⟩) := Lib.hid (fun i => World.cell?_of_block (kp9.block kh (by have := HKH.out; have := T25.out.size; omega) (fun hj => by have := (Ob.lt HA.out.row hj); have := HKW.out; omega)))
          obtain ⟨z0, z1, z2, z3, z4, z5, z6, z7⟩ := KY.out _ T25.out
          have x7 := (KH9.out 7).trans z7
          have hkd : y.n = y.n := rfl
          clear ro9 bl9 kp9 hkd
          go_wp2_with (at_builtin; refine wpList_runb _ rfl (.tmp 54) (.tmp 56) 51 rfl rfl rfl r9 ?_)
          go_roundg gf
          case measure => omega
          case rel => exact ⟨i + 1, _, odd, m' + 1, _, _, some ⟨g9, 0, none⟩, c9, rfl, rfl, by go_num, by go_num, Lib.hid (by omega), Lib.hid ⟨⟨D.drop m, L ++ [⟨y, some ⟨g1, 0, none⟩, c1, B⟩], HDD.out.trans (by have := HPN.out; omega), HYDm.out, HQ9.out, HTQ.out (some ⟨g1, 0, none⟩) c1, by rw [List.length_append, HL.out]; rfl, HR9.out⟩, by have := HPN.out; omega, HB9.out, by omega, by omega⟩⟩
      | false =>
        have HTQ : Hid (tkf gf (D.drop m) (cons L) (odd + 1) = R) := Lib.hid (by have := HT.out; rwa [if_neg (by decide)] at this)
        clear HT
        by_cases hcp : c1 = p
        · subst hcp
          have HQ5 : Hid (Bu V5 ⟨zhd, A1, c1 - c1, D.drop m⟩) := Lib.hid (by rw [List.drop_eq_nil_of_le (by rw [HDL.out]; have := HPN.out; omega)]; exact Bu.nil _ _ _ _)
          obtain ⟨z0, z1, z2, z3, z4, z5, z6, z7⟩ := KY.out _ T25.out
          go_wp2
          go_roundg gf
          case measure => omega
          case rel => exact ⟨i + 1, _, odd + 1, m', _, _, A', c', rfl, rfl, by go_num, by go_num, Lib.hid (by omega), Lib.hid ⟨⟨D.drop m, L, HDD.out.trans (by have := HPN.out; omega), HYDm.out, HQ5.out, HTQ.out, HL.out, (HA.out.step T5.out)⟩, by have := HPN.out; omega, HB5.out, by omega, by omega⟩⟩
        · obtain ⟨g1, rfl⟩ : ∃ g, A1 = some ⟨g, 0, none⟩ := by
            rcases HF.out with ⟨_, q1, q2⟩ | ⟨g, _, hA, _⟩
            · exfalso; have := HD20.out; rw [q2] at this; simp at this; omega
            · exact ⟨g, hA⟩
          have HQ5 : Hid (Bu V5 ⟨zhd, some ⟨g1, p, none⟩, c1 - p, D.drop m⟩) := Lib.hid (by
            have := Bu.drop (Bu.of_own (x := ⟨zhd, some ⟨g1, 0, none⟩, c1, D.drop 20⟩) HO5.out) (h' := zhd) (c' := c1 - p) p
            rw [List.drop_drop, Nat.zero_add, show 20 + p = m by have := HPN.out; omega] at this
            exact this)
          obtain ⟨z0, z1, z2, z3, z4, z5, z6, z7⟩ := KY.out _ T25.out
          go_wp2
          go_roundg gf
          case measure => omega
          case rel => exact ⟨i + 1, _, odd + 1, m', _, _, A', c', rfl, rfl, by go_num, by go_num, Lib.hid (by omega), Lib.hid ⟨⟨D.drop m, L, HDD.out.trans (by have := HPN.out; omega), HYDm.out, HQ5.out, HTQ.out, HL.out, (HA.out.step T5.out)⟩, by have := HPN.out; omega, HB5.out, by omega, by omega⟩⟩
end Go.Proofs.Ytefbpaebimagaaa
