/-
  The walk of the law DbdPack. No statement is proved here; no conditions.
-/
import Derived.Test.YtefbpaebimagaaaAl
import Derived.Test.YtefbpaebimagaaaRpn
import Derived.Test.YtefbpaebimagaaaSa
import Derived.Test.YtefbpaebimagaaaFrame
namespace Go.Proofs.Ytefbpaebimagaaa
open Go.RowKit Go.Joins Go.ChangeShapes Go.WideShapes Go.ChangeAt Go.Deep

section
variable {H : Type} {enc : TypeId × Value → H} {w : World} {base : Nat} {spare : Nat → Bool} {held : Bool}
theorem ads_cap {fuel : Nat} {cs : List Value} {x : DataW H × List MemPlace} (h : DataW.trod enc Try.prog w base spare held fuel 51 cs = some x) : ∃ (A : Option Addr) (c : Nat) (l : List Ae), cs = [.slice A l.length c] ∧ (∀ x ∈ l, Okd x.h ∧ Byt x.l) ∧ Arr w A l ∧ l.length ≤ c := by
  obtain ⟨A, c, l, h1, h2, h3, h4⟩ := slice_of (⟨⟨0, 0, 0, 0, 0, 0, 0, 0⟩, none, 0, []⟩ : Ae) (f := acs) (sz := 9) acs_len (by omega) Try.underlying51 cellsA (good := fun y => Okd y.h ∧ Byt y.l ∧ Bt w y.A y.l) (fun _ _ _ h => ad_of h) h
  exact ⟨A, c, l, h1, fun x hx => ⟨(h3 x hx).1, (h3 x hx).2.1⟩, ⟨h4, fun x hx => (h3 x hx).2.2⟩, h2⟩
end
theorem rflt_map (rs : List Sr) : rflt rs = rs.map fun r => Value.slice r.A r.L.length r.c := by
  induction rs with
  | nil => rfl
  | cons x t ih =>
    show rcs x ++ rflt t = _
    rw [ih]
    rfl
/-- The cell of a row. -/
theorem rflt_at {w : World} {A : Option Addr} {rs : List Sr} (h : Rd (fun _ => True) w A (rflt rs)) {i : Nat} (hi : i < rs.length) : ∃ b off, A = some ⟨b, off, none⟩ ∧ w.cell? ⟨b, off + i, none⟩ = some (.slice rs[i].A rs[i].L.length rs[i].c) := by
  obtain ⟨b, off, e, _, _, hc⟩ := h (by rw [rflt_map]; intro q; have := congrArg List.length q; simp at this; subst this; simp at hi)
  exact ⟨b, off, e, hc i _ (by rw [rflt_map, List.getElem?_map, List.getElem?_eq_getElem hi]; rfl)⟩
def alls (rs : List Sr) : List Ae := rs.flatMap (·.L)
theorem alls_snoc (rs : List Sr) (r : Sr) : alls (rs ++ [r]) = alls rs ++ r.L := by simp [alls]
theorem cons_alls (rs : List Sr) : cons (alls rs) = (rs.map fun r : Sr => cons r.L).flatten := by
  induction rs with
  | nil => rfl
  | cons x t ih =>
    have e : alls (x :: t) = x.L ++ alls t := by simp [alls]
    rw [e, List.map_cons, List.flatten_cons, ← ih]
    simp [cons]
theorem aflat_app (a b : List Ae) : aflat (a ++ b) = aflat a ++ aflat b := by simp [aflat]
theorem ow_of_ob {w : World} {A : Option Addr} {c n : Nat} {cs : List Value} {S : Nat → Prop} (h : Ob 87 9 S w A c cs) (hn : cs.length = n * 9) : ∃ g, Ow 87 9 w A g c n cs := by
  rcases h with ⟨h1, h2, h3⟩ | ⟨g, _, h2, h3⟩
  · subst h3
    exact ⟨0, hn, .inl ⟨h1, h2, by simp at hn; omega⟩⟩
  · exact ⟨g, hn, .inr ⟨h2, h3⟩⟩
theorem one_aflat (L : List Ae) : ∀ u ∈ aflat L, u.oneCell' = true := by
  intro u hu
  obtain ⟨x, _, h⟩ := List.mem_flatMap.1 hu
  exact acs_one x u h
/-- What holds between two rounds. -/
structure PL (Y : World) (rs : List Sr) (i x : Nat) (Ac : Option Addr) (cc : Nat) (wx : World) : Prop where
  row : Ob 87 9 (Y.heap.size ≤ ·) wx Ac cc (aflat (alls (rs.take i)))
  len : (alls (rs.take i)).length = x
  bel : Below Y.heap.size Y wx
  big : x ≤ i * 50
set_option maxRecDepth 100000 in
set_option maxHeartbeats 8000000 in
theorem pack_walk (A : Option Addr) (n c : Nat) (L : List Ae) (w : World) (hn : L.length = n) (okx : ∀ x ∈ L, Okd x.h ∧ Byt x.l) (hr : Arr w A L) (hc : n ≤ c) :
    Calls Try.prog 7 #[.slice A n c] w fun e w' => e = .returned (.bool true) ∧ Below w.heap.size w w' := by
  have S0 := short_any A n c L w hn hr
  cases hs : shq L with
  | false =>
    rw [hs] at S0
    clear hn hr okx hs hc
    go_enter Try.func7, Try.ntmps7
    go_wp2_with fail
    refine S0.mono ?_
    rintro e Y0 ⟨rfl, u0⟩
    go_wp2_with fail
    refine (alive_any _).mono ?_
    rintro e V1 ⟨rfl, hv1⟩
    go_wp2
    go_ret
    exact ⟨rfl, u0.trans (hv1.mono u0.size)⟩
  | true =>
  rw [hs] at S0
  obtain ⟨h60, hlen⟩ := (shq_iff L).1 hs
  have ok : Okas (cons L) := fun z hz => by
    obtain ⟨x, hx, rfl⟩ := List.mem_map.1 hz
    exact ⟨(okx x hx).1, (okx x hx).2, hlen x hx⟩
  have C1 := fun V hV => pack_any A n c L V hn ok hV (by omega)
  have C2 := fun V hV => rpack_any A n c L V hn ok hV hc (by omega)
  have HR : Hid (∀ V, Below w.heap.size w V → Arr V A L) := Lib.hid (fun V hV => Arr.step hr hV)
  have HN := Lib.hid hn
  have OK := Lib.hid ok
  clear hn okx hr hs hlen ok
  go_enter Try.func7, Try.ntmps7
  go_wp2_with fail
  refine S0.mono ?_
  rintro e Y0 ⟨rfl, u0⟩
  have S_w_Y0 : Hid (Below w.heap.size w Y0) := Lib.hid (u0)
  clear u0 S0
  go_wp2_with fail
  refine (C1 Y0 (HR.out _ S_w_Y0.out)).mono ?_
  rintro e Y1 ⟨A1, c1, m1, rs1, rfl, h1m, h1r, h1d, h1a, u1⟩
  have S_Y0_Y1 : Hid (Below Y0.heap.size Y0 Y1) := Lib.hid (u1)
  have S_w_Y1 : Hid (Below w.heap.size w Y1) := Lib.hid (S_w_Y0.out.trans (S_Y0_Y1.out.mono S_w_Y0.out.size))
  clear u1
  go_wp2_with fail
  refine (C2 Y1 (HR.out _ S_w_Y1.out)).mono ?_
  rintro e Y2 ⟨A2, c2, m2, rs2, rfl, h2m, h2r, h2d, h2a, u2⟩
  have S_Y1_Y2 : Hid (Below Y1.heap.size Y1 Y2) := Lib.hid (u2)
  have S_w_Y2 : Hid (Below w.heap.size w Y2) := Lib.hid (S_w_Y1.out.trans (S_Y1_Y2.out.mono S_w_Y1.out.size))
  have S_Y0_Y2 : Hid (Below Y0.heap.size Y0 Y2) := Lib.hid (S_Y0_Y1.out.trans (S_Y1_Y2.out.mono S_Y0_Y1.out.size))
  obtain rfl : m2 = m1 := by have q1 := congrArg List.length h1r; have q2 := congrArg List.length h2r; rw [List.length_map] at q1 q2; omega
  have HD1 : Hid (∀ V, Below Y2.heap.size Y2 V → Rd (fun _ => True) V A1 (rflt rs1)) := Lib.hid (fun V hV => Rd.keep h1d (Nat.le_trans u2.size hV.size) fun j _ hj => (hV.block j (Nat.lt_of_lt_of_le hj u2.size)).trans (u2.block j hj))
  have HD2 : Hid (∀ V, Below Y2.heap.size Y2 V → Rd (fun _ => True) V A2 (rflt rs2)) := Lib.hid (fun V hV => Rd.keep h2d hV.size fun j _ hj => hV.block j hj)
  have HA1 : Hid (∀ V, Below Y2.heap.size Y2 V → ∀ r ∈ rs1, Arr V r.A r.L) := Lib.hid (fun V hV r hr => Arr.step (Arr.step (h1a r hr) u2) hV)
  have HA2 : Hid (∀ V, Below Y2.heap.size Y2 V → ∀ r ∈ rs2, Arr V r.A r.L) := Lib.hid (fun V hV r hr => Arr.step (h2a r hr) hV)
  have HM1 := Lib.hid h1m
  have HM2 := Lib.hid h2m
  have H1R := Lib.hid h1r
  have H12 : Hid (rs1.map (fun r : Sr => cons r.L) = rs2.map (fun r : Sr => cons r.L)) := Lib.hid (h1r.trans h2r.symm)
  have HWN : Hid (pkE (cons L) = 0 → whs (cons L) = true) := Lib.hid (fun h => by
    cases q : whs (cons L) with
    | true => rfl
    | false => rw [pkE, q] at h; cases h)
  have HPE : Hid (0 < m2 → whs (cons L) = true) := Lib.hid (fun h => by
    cases q : whs (cons L) with
    | true => rfl
    | false =>
      rw [pkL, q] at h1r
      have := congrArg List.length h1r
      rw [List.length_map, h1m] at this
      simp at this
      omega)
  have hm60 : m2 ≤ 60 := by
    cases q : whs (cons L) with
    | false =>
      rw [pkL, q] at h1r
      have := congrArg List.length h1r
      rw [List.length_map, h1m] at this
      simp at this
      omega
    | true =>
      obtain ⟨p1, p2⟩ := pk_ok q
      have : ∀ (M : List (List Ct)), (∀ l ∈ M, Fitr l) → M.length ≤ M.flatten.length := by
        intro M
        induction M with
        | nil => intro _; simp
        | cons l M ih =>
          intro h
          have := ih (fun z hz => h z (by simp [hz]))
          have h0 := List.length_pos_iff.2 (h l (by simp)).pos
          rw [List.flatten_cons, List.length_append, List.length_cons]
          omega
      have := this _ p2
      rw [p1, cons_length] at this
      have q1 := congrArg List.length h1r
      rw [List.length_map] at q1
      omega
  obtain ⟨E, hE⟩ : ∃ E, pkE (cons L) = E := ⟨_, rfl⟩
  rw [hE] at HWN
  clear u2 h1m h2m h1r h2r h1d h2d h1a h2a C1 C2
  obtain ⟨W0, hW0⟩ : ∃ V, Y2.alloc (.cells #[] 87) = V := ⟨_, rfl⟩
  have HJ : Hid (PL Y2 rs1 0 0 (some ⟨Y2.heap.size, 0, none⟩) 0 W0) := Lib.hid ⟨.inr ⟨Y2.heap.size, Nat.le_refl _, rfl, by rw [← hW0]; exact Rg.lit Y2 87 9 0 #[] [] rfl rfl (by simp [maxLen])⟩, rfl, by rw [← hW0]; exact below_alloc1 _ _, by omega⟩
  obtain ⟨i0, hi0, hz0, hz1, hz2⟩ := info_of infoA
  try rw [hE]
  clear hE
  go_wp2_with fail
  go_loopg [7, 8] m2 (fun gf v7 v8 wx => ∃ (i x : Nat) (Ac : Option Addr) (cc : Nat), v7 = .slice Ac x cc ∧ v8 = .int .i64 (i : Int) ∧ Hid (gf + i = m2) ∧ Hid (PL Y2 rs1 i x Ac cc wx))
  case atStart => exact ⟨0, 0, _, _, rfl, rfl, Lib.hid (by omega), HJ⟩
  case round =>
    obtain ⟨i, x, Ac, cc, rfl, rfl, hk, hJ⟩ := hrel
    have hk' := hk.out
    obtain ⟨hrow, hxl, hbel, hxb⟩ := hJ.out
    have HROW := Lib.hid hrow
    have HXL := Lib.hid hxl
    have HB := Lib.hid hbel
    clear HJ hW0 hJ hrow hxl hbel
    cases gk with
    | zero =>
      have lt0 : decide ((i : Int) < (m2 : Int)) = false := by simp; omega
      have lt1 : decide (i < m2) = false := by simp; omega
      obtain rfl : i = m2 := by omega
      have ht : rs1.take i = rs1 := List.take_of_length_le (by rw [HM1.out]; omega)
      rw [ht] at HROW HXL
      have TB := Lib.hid (S_w_Y2.out.trans (HB.out.mono S_w_Y2.out.size))
      clear ht
      go_wp2_with fail
      refine (alive_any _).mono ?_
      rintro e V9 ⟨rfl, u9⟩
      have T9 := Lib.hid (TB.out.trans (u9.mono TB.out.size))
      have HB9 := Lib.hid (HB.out.trans (u9.mono HB.out.size))
      have HROW9 := Lib.hid (Ob.below HROW.out u9)
      clear u9
      by_cases hE : E = 0
      · have hw := HWN.out hE
        have hx60 : x ≤ 10000 := by omega
        have HC : Hid (cons (alls rs1) = cons L) := Lib.hid (by rw [cons_alls, H1R.out]; exact (pk_ok hw).1)
        have hxn : x = n := by rw [← HXL.out, ← cons_length, HC.out, cons_length, HN.out]
        subst hxn
        have C := all_any Ac A x cc c (alls rs1) L V9 HXL.out HC.out ⟨Ob.rd HROW9.out, fun z hz => by
          obtain ⟨r, hr, hz⟩ := List.mem_flatMap.1 hz
          exact (HA1.out _ HB9.out r hr).2 z hz⟩ (HR.out _ T9.out) hx60
        subst hE
        clear hw
        go_wp2_with fail
        refine C.mono ?_
        rintro e V8 ⟨rfl, u8⟩
        go_wp2
        go_ret
        exact ⟨rfl, T9.out.trans (u8.mono T9.out.size)⟩
      · have d : (E == 0) = false := by simpa using hE
        have d2 : (E != 0) = true := by simp [bne, d]
        clear hE
        go_wp2
        go_ret
        exact ⟨rfl, T9.out⟩
    | succ gf =>
      have lt0 : (i : Int) < (m2 : Int) := by omega
      have hw1 : (i : Int) + 1 ≤ 10000 := by omega
      have hw := HPE.out (by omega)
      have hi1 : i < rs1.length := by rw [HM1.out]; omega
      have hi2 : i < rs2.length := by rw [HM2.out]; omega
      have KX : Hid (∀ V, Below Y2.heap.size Y2 V → ∃ b1 o1 b2 o2, A1 = some ⟨b1, o1, none⟩ ∧ A2 = some ⟨b2, o2, none⟩ ∧ V.cell? ⟨b1, o1 + i, none⟩ = some (.slice rs1[i].A rs1[i].L.length rs1[i].c) ∧ V.cell? ⟨b2, o2 + i, none⟩ = some (.slice rs2[i].A rs2[i].L.length rs2[i].c)) := Lib.hid (fun V hV => by
        obtain ⟨b1, o1, e1, k1⟩ := rflt_at (HD1.out V hV) hi1
        obtain ⟨b2, o2, e2, k2⟩ := rflt_at (HD2.out V hV) hi2
        exact ⟨b1, o1, b2, o2, e1, e2, k1, k2⟩)
      have hm1 : rs1[i] ∈ rs1 := List.getElem_mem hi1
      have hm2 : rs2[i] ∈ rs2 := List.getElem_mem hi2
      have hcc : cons rs1[i].L = cons rs2[i].L := by
        have := congrArg (fun l : List (List Ct) => l[i]?) H12.out
        simp only [List.getElem?_map] at this
        rw [List.getElem?_eq_getElem hi1, List.getElem?_eq_getElem hi2] at this
        simpa using this
      have hmem : cons rs1[i].L ∈ pkL (cons L) := by rw [← H1R.out]; exact List.mem_map.2 ⟨_, hm1, rfl⟩
      obtain ⟨p1, p2⟩ := pk_ok hw
      have fit := p2 _ hmem
      have okr : Okas (cons rs1[i].L) := fun z hz => OK.out z (by rw [← p1]; exact List.mem_flatten.2 ⟨_, hmem, hz⟩)
      have HT : Hid (rs1.take (i + 1) = rs1.take i ++ [rs1[i]]) := Lib.hid (List.take_succ_eq_append_getElem hi1)
      generalize rs1[i] = r1 at *
      generalize rs2[i] = r2 at *
      obtain ⟨rA, rc, rL⟩ := r1
      obtain ⟨sA, sc, sL⟩ := r2
      simp only at KX hcc fit okr hmem
      have hsl : sL.length = rL.length := by rw [← cons_length, ← hcc, cons_length]
      rw [hsl] at KX
      obtain ⟨rn, hrn⟩ : ∃ rn, rL.length = rn := ⟨_, rfl⟩
      rw [hrn] at KX
      have hr50 : rn ≤ 50 := by have := fit.few; rw [cons_length] at this; omega
      have hr0 : 0 < rn := by have := List.length_pos_iff.2 fit.pos; rw [cons_length] at this; omega
      have hpu := fit.put
      have HRN := Lib.hid hrn
      have HCC := Lib.hid hcc
      have HAA : Hid (∀ V, Below Y2.heap.size Y2 V → Arr V rA rL ∧ Arr V sA sL) := Lib.hid (fun V hV => ⟨HA1.out V hV _ hm1, HA2.out V hV _ hm2⟩)
      have CU := fun V hV => putads_any rA rn rc rL V HRN.out okr hV (by omega)
      rw [hpu] at CU
      generalize (puL (cons rL)).length = pn at *
      generalize puL (cons rL) = pX at *
      obtain ⟨b1, o1, b2, o2, hA1, hA2, -, -⟩ := KX.out _ (Below.refl _ _)
      subst hA1 hA2
      have KC : Hid (∀ V, Below Y2.heap.size Y2 V → V.cell? ⟨b1, o1 + i, none⟩ = some (.slice rA rn rc) ∧ V.cell? ⟨b2, o2 + i, none⟩ = some (.slice sA rn sc)) := Lib.hid (fun V hV => by
        obtain ⟨b3, o3, b4, o4, e1, e2, k1, k2⟩ := KX.out V hV
        injection e1 with e1
        injection e1 with e3 e4
        injection e2 with e2
        injection e2 with e5 e6
        subst e3 e4 e5 e6
        exact ⟨k1, k2⟩)
      clear KX hw hi1 hi2 hm1 hm2 hcc hmem p1 p2 fit okr hsl hrn hpu
      obtain ⟨k1, k2⟩ := KC.out _ HB.out
      go_wp2_with fail
      refine (CU _ (HAA.out _ HB.out).1).mono ?_
      rintro e Y6 ⟨A6, c6, rfl, -, u6⟩
      have HB6 := Lib.hid (HB.out.trans (u6.mono HB.out.size))
      have HROW6 := Lib.hid (Ob.below HROW.out u6)
      clear k1 k2 u6 CU
      obtain ⟨k1, k2⟩ := KC.out _ HB6.out
      have ra := (HAA.out _ HB6.out).1
      have rb := (HAA.out _ HB6.out).2
      have hrn0 : ¬ ((rn : Int) = 0) := by omega
      have hrn1 : ((rn : Int) == 0) = false := by simpa using hrn0
      go_upto_region 12 with fail
      refine wp_region_quiet_below (by kernel_rfl) (by kernel_rfl) ?_
      have gg0 := cell_regrown k1
      have gg1 := cell_regrown k2
      have zz0 : ∀ d os, _ := fun d os => Calls.regrown_of (w := Y6) (d := d) (os := os) (all_any rA sA rn rc sc rL sL _ HRN.out HCC.out (Arr.step ra (below_regrown Y6 d os)) (Arr.step rb (below_regrown Y6 d os)) (by omega))
      repeat (first | go_big_quiet_step (with_reducible exact zz0 _ _) | go_big_quiet_step (fail) | go_big_quiet_skip)
      refine wpQuiet_nil ?_
      intro Z hw'
      obtain ⟨⟨dq, osq⟩, hw''⟩ := hw'
      have hbz := below_regrown Y6 dq osq
      rw [← hw''] at hbz
      clear hw'' gg0 gg1 zz0 
      have HBZ := Lib.hid (HB6.out.trans (hbz.mono HB6.out.size))
      have hrowz := Ob.below HROW6.out hbz
      clear k1 k2 ra rb hbz
      obtain ⟨k1, k2⟩ := KC.out _ HBZ.out
      obtain ⟨g0, how⟩ := ow_of_ob (n := x) hrowz (by rw [aflat_length, HXL.out])
      obtain ⟨g7, c7, W7, r7, rg7, kp7, hg7⟩ := run_appr (P := Try.prog) Z 51 51 87 i0 _ 9 _ Try.underlying51 hi0 hz0 hz1 hz2 rfl (by decide) (by decide) Ac g0 cc x (aflat (alls (rs1.take i))) how (fun _ => True) rA rc rn (aflat rL) (HAA.out _ HBZ.out).1.1 (by rw [aflat_length, HRN.out]) (one_aflat rL) hr0 (by omega)
      have HR7 : Hid (Ob 87 9 (Y2.heap.size ≤ ·) W7 (some ⟨g7, 0, none⟩) c7 (aflat (alls (rs1.take (i + 1))))) := Lib.hid (.inr ⟨g7, (by rcases hg7 with h | h; exact hrowz.at h; have := HBZ.out.size; omega), rfl, by rw [HT.out, alls_snoc, aflat_app]; exact rg7⟩)
      have HB7 : Hid (Below Y2.heap.size Y2 W7) := Lib.hid (HBZ.out.trans (kp7.below (fun j hj => hrowz.at hj) HBZ.out.size))
      have HL7 : Hid ((alls (rs1.take (i + 1))).length = x + rn) := Lib.hid (by rw [HT.out, alls_snoc, List.length_append, HXL.out, HRN.out])
      clear hrowz how rg7 kp7 hg7
      go_wp2_with (at_builtin; refine wpList_runb _ rfl (.tmp 72) (.tmp 76) 51 rfl rfl rfl r7 ?_)
      go_roundg gf
      case measure => omega
      case rel => exact ⟨i + 1, x + rn, some ⟨g7, 0, none⟩, c7, rfl, by go_num, Lib.hid (by omega), Lib.hid ⟨HR7.out, HL7.out, HB7.out, by omega⟩⟩
end Go.Proofs.Ytefbpaebimagaaa
