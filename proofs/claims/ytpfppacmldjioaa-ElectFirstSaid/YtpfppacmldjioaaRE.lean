/-
  The reference's Turn, Speaker, Elect. No statement is proved here; no conditions.
-/
import Derived.Test.YtpfppacmldjioaaRu
import Derived.Test.YtpfppacmldjioaaRMy
namespace Go.Proofs.Ytpfppacmldjioaa
open Go.RowKit Go.Joins

set_option maxRecDepth 100000 in
theorem rTurn_any (A0 : Option Addr) (n c : Nat) (L : List Ca) (w : World) (hn : L.length = n) (hl : Cr w A0 L) :
    Calls Try.prog 9 #[.slice A0 n c] w fun e w' => e = .returned (.tuple #[.int .u32 (tD L), .int .u32 (tB L)]) ∧ Below w.heap.size w w' := by
  have CM := rmay_any A0 n c L w hn hl
  have HD : Hid (tD L = if mayl L = true then rD L else 0) := Lib.hid rfl
  have HB : Hid (tB L = if mayl L = true then rB L else 0) := Lib.hid rfl
  rw [HD.out, HB.out]
  cases hm : mayl L
  · rw [hm] at CM
    clear hl hn HD HB hm
    go_enter Try.func9, Try.ntmps9
    go_wp2_with fail
    refine CM.mono ?_
    rintro e W1 ⟨rfl, u1⟩
    go_wp2
    go_ret2
    exact ⟨rfl, u1⟩
  · rw [hm] at CM
    have h50 := (may_gd hm).2
    have hg := (may_gd hm).1
    have CR : Hid (∀ V, Below w.heap.size w V → _) := Lib.hid (fun V hV => rturn_any A0 n c L V hn (hl.step hV) (by omega) hg)
    generalize rD L = vD at *
    generalize rB L = vB at *
    clear hl hn HD HB hm h50 hg
    go_enter Try.func9, Try.ntmps9
    go_wp2_with fail
    refine CM.mono ?_
    rintro e W1 ⟨rfl, u1⟩
    have K := CR.out _ u1
    go_wp2_with fail
    refine K.mono ?_
    rintro e W2 ⟨rfl, u2⟩
    go_wp2
    go_ret2
    exact ⟨rfl, u1.trans (u2.mono u1.size)⟩
set_option maxRecDepth 100000 in
theorem rspeaker_any (A0 : Option Addr) (n c : Nat) (L : List Ca) (w : World) (hn : L.length = n) (hl : Cr w A0 L) :
    Calls Try.prog 13 #[.slice A0 n c] w fun e w' => e = .returned (.int .u32 (spk L)) ∧ Below w.heap.size w w' := by
  have CM := rmay_any A0 n c L w hn hl
  have HD : Hid (spk L = if mayl L = true then hi (fun _ => true) L else 0) := Lib.hid rfl
  rw [HD.out]
  cases hm : mayl L
  · rw [hm] at CM
    clear hl hn HD hm
    go_enter Try.func13, Try.ntmps13
    go_wp2_with fail
    refine CM.mono ?_
    rintro e W1 ⟨rfl, u1⟩
    go_wp2
    go_ret
    exact ⟨rfl, u1⟩
  · rw [hm] at CM
    have h50 := (may_gd hm).2
    have hg := (may_gd hm).1.p
    have CR : Hid (∀ V, Below w.heap.size w V → _) := Lib.hid (fun V hV => rtop_any A0 n c L V hn (hl.step hV) (by omega) hg)
    generalize hi (fun _ => true) L = vD at *
    clear hl hn HD hm h50 hg
    go_enter Try.func13, Try.ntmps13
    go_wp2_with fail
    refine CM.mono ?_
    rintro e W1 ⟨rfl, u1⟩
    have K := CR.out _ u1
    go_wp2_with fail
    refine K.mono ?_
    rintro e W2 ⟨rfl, u2⟩
    go_wp2
    go_ret
    exact ⟨rfl, u1.trans (u2.mono u1.size)⟩
theorem gd_apart {L : List Ca} (h : Gd L) {i j : Nat} (hij : i < j) (hj : j < L.length) : (cg L i).i ≠ (cg L j).i := by
  have hn := h.nd
  rw [List.nodup_iff_pairwise_ne, List.pairwise_map, List.pairwise_iff_getElem] at hn
  rw [cg_eq (by omega), cg_eq hj]
  exact hn i j (by omega) hj hij
theorem plc_eq {L : List Ca} (h : Gd L) {j : Nat} {o : Int} (hj : j < L.length) (ho : (cg L j).i = o) : plc L o = j := by
  rw [plc, List.findIdx_eq hj]
  refine ⟨by rw [← cg_eq hj]; simpa using ho, fun i hi => ?_⟩
  have := gd_apart h hi hj
  rw [cg_eq (by omega), ho] at this
  simpa using this
theorem plc_lt {L : List Ca} {o : Int} (h : plc L o < L.length) : (cg L (plc L o)).i = o := by
  have := List.findIdx_getElem (w := h)
  rw [cg_eq h]
  exact of_decide_eq_true this
theorem gd_set2 {L : List Ca} (h : Gd L) {k : Nat} (hk : k < L.length) (d b : Int) : Gd (set2 L k d b) := by
  refine ⟨?_, ?_⟩
  · rw [List.all_eq_true]
    intro x hx
    rcases List.mem_or_eq_of_mem_set hx with q | rfl
    · exact List.all_eq_true.1 h.ok x q
    · have := List.all_eq_true.1 h.ok _ (cg_mem hk)
      exact this
  · have : (set2 L k d b).map (·.i) = L.map (·.i) := by
      rw [set2, List.map_set]
      apply List.ext_getElem?
      intro i
      rw [List.getElem?_set]
      split
      · next e =>
        subst e
        simp [hk, cg_eq hk]
      · rfl
    rw [this]
    exact h.nd
theorem goes_no {L : List Ca} {o d b : Int} (hd : rD L = d) (hb : rB L = b) (h : ∀ i, i < L.length → (cg L i).i = o → chg (cg L i) d b = false) : goes L o = false := by
  rw [goes, hd, hb]
  by_cases hp : plc L o < L.length
  · rw [h _ hp (plc_lt hp)]; simp
  · simp [hp]
theorem goes_yes {L : List Ca} (hg : Gd L) {o d b : Int} (hd : rD L = d) (hb : rB L = b) {j : Nat} (hj : j < L.length) (ho : (cg L j).i = o) (h : chg (cg L j) d b = true) : goes L o = true := by
  rw [goes, hd, hb, plc_eq hg hj ho, h]
  simp [hj]
theorem chg_own {x : Ca} {o d b : Int} (h : x.i = o) : chg x d b = (!((x.d == o) == (d == o)) || !((x.b == o) == (b == o))) := by
  subst h
  have e1 : decide (x.i = d) = (d == x.i) := decide_eq_decide.2 ⟨Eq.symm, Eq.symm⟩
  have e2 : decide (x.i = b) = (b == x.i) := decide_eq_decide.2 ⟨Eq.symm, Eq.symm⟩
  have e3 : decide (x.d = x.i) = (x.d == x.i) := rfl
  have e4 : decide (x.b = x.i) = (x.b == x.i) := rfl
  rw [chg, sDR, sBR, e1, e2, e3, e4]
  rfl
set_option maxRecDepth 100000 in
set_option maxHeartbeats 4000000 in
theorem relect_any (A0 : Option Addr) (n c : Nat) (L : List Ca) (o : Int) (w : World) (hn : L.length = n) (hl : Cr w A0 L) :
    Calls Try.prog 12 #[.slice A0 n c, .int .u32 o] w fun e w' => e = .returned (.tuple #[.int .u32 (eD L o), .int .u32 (eB L o)]) ∧ Below w.heap.size w w' := by
  have CM := rmay_any A0 n c L w hn hl
  have HD : Hid (eD L o = if mayl L = true then rD (sec L o) else 0) := Lib.hid rfl
  have HB : Hid (eB L o = if mayl L = true then rB (sec L o) else 0) := Lib.hid rfl
  cases hm : mayl L
  case false =>
    rw [hm] at CM
    rw [HD.out, HB.out, hm]
    clear hl hn HD HB hm
    go_enter Try.func12, Try.ntmps12
    go_wp2_with fail
    refine CM.mono ?_
    rintro e W1 ⟨rfl, u1⟩
    go_wp2
    go_ret2
    exact ⟨rfl, u1⟩
  rw [hm] at CM
  have h50 := (may_gd hm).2
  have hn50 : n ≤ 1000 := by omega
  have hg := (may_gd hm).1
  obtain ⟨vD, hvD⟩ : ∃ v, rD L = v := ⟨_, rfl⟩
  obtain ⟨vB, hvB⟩ : ∃ v, rB L = v := ⟨_, rfl⟩
  have CT : Hid (∀ V, Below w.heap.size w V → Calls Try.prog 24 #[.slice A0 n c] V fun e w' => e = .returned (.tuple #[.int .u32 vD, .int .u32 vB]) ∧ Below V.heap.size V w') := Lib.hid (fun V hV => by
    have := rturn_any A0 n c L V hn (hl.step hV) hn50 hg
    rwa [hvD, hvB] at this)
  have HE : Hid (mayl L = true) := Lib.hid hm
  have HVD := Lib.hid hvD
  have HVB := Lib.hid hvB
  have HN := Lib.hid hn
  have HL := Lib.hid hl
  have HG := Lib.hid hg
  have H1K := Lib.hid hn50
  obtain ⟨i0, hi0, hz0, hz1, hz2⟩ := info_of infoR
  have HAPP : Hid (∀ V, Below w.heap.size w V → ∃ A' c' W1, (Builtin.append_ #[28, 28] 28 #[.slice (some ⟨V.heap.size, 0, none⟩) 0 0, .slice A0 n c]).run Try.prog (V.alloc (.cells #[] 45)) = .ok (.slice A' n c') W1 ∧ Ow4 45 V.heap.size W1 A' c' L ∧ Below V.heap.size V W1) := Lib.hid (fun V hV => by
    have bV : Below V.heap.size V (V.alloc (.cells #[] 45)) := below_alloc1 _ _
    have O0 := Ow4.empty 45 V
    rcases Nat.eq_zero_or_pos n with h | h
    · subst h
      have hL : L = [] := List.eq_nil_of_length_eq_zero hn
      subst hL
      exact ⟨_, 0, _, app_zero _ _ _ _ i0 Try.underlying28 hi0 _ 0 0 _ c (Nat.le_refl _) (fun h => by cases h), O0, bV⟩
    · obtain ⟨g', c', W1, r1, r2, r3, r4⟩ := app_gen (P := Try.prog) (S := (V.heap.size ≤ ·)) Try.underlying28 hi0 hz0 hz1 hz2 rfl (by decide) (by decide) O0 (n := 0) rfl A0 c n (cflat L) ((hl.step hV).step bV) (by rw [cflat_length, hn]) (cflat_one L) h (by omega)
      rw [Nat.zero_add] at r1
      refine ⟨_, c', W1, r1, Ow4.of r2 ?_, bV.trans (r3.below (fun j hj => hj) bV.size)⟩
      rcases r4 with q | q
      · exact q
      · have := bV.size; omega)
  clear hl hn hm h50 hg hvD hvB hi0 hz0 hz1 hz2
  go_enter Try.func12, Try.ntmps12
  go_wp2_with fail
  refine CM.mono ?_
  rintro e W1 ⟨rfl, u1⟩
  have K1 := CT.out _ u1
  have T1 := Lib.hid u1
  clear u1
  go_wp2_with fail
  refine K1.mono ?_
  rintro e W2 ⟨rfl, u2⟩
  have T2 := Lib.hid (T1.out.trans (u2.mono T1.out.size))
  clear u2 CM K1
  obtain ⟨A', c', W3, r3, o3, u3⟩ := HAPP.out W2 T2.out
  have T3 : Hid (Below w.heap.size w W3) := Lib.hid (T2.out.trans (u3.mono T2.out.size))
  have O3 := Lib.hid (o3.lower T2.out.size)
  have HCAP : Hid (n ≤ c') := Lib.hid (by have := o3.room; rw [HN.out] at this; exact this)
  clear u3 o3 HAPP
  go_wp2_with (at_builtin; refine wpList_runb _ rfl (.tmp 19) (.tmp 20) 28 rfl rfl rfl r3 ?_)
  clear r3
  go_loopg [9] n (fun gf v wx => ∃ (k : Nat), v = .int .i64 (k : Int) ∧ Hid (gf + k = n) ∧ Hid (∀ i, i < k → (cg L i).i = o → chg (cg L i) vD vB = false) ∧ Hid (Ow4 45 w.heap.size wx A' c' L) ∧ Hid (Below w.heap.size w wx))
  case atStart => exact ⟨0, rfl, Lib.hid (by omega), Lib.hid (fun i hi => by omega), O3, T3⟩
  case round =>
    obtain ⟨k, rfl, hk, hC, hO, hb⟩ := hrel
    have hk' := hk.out
    cases gk with
    | zero =>
      have e1 : k = n := by omega
      have lt0 : decide ((k : Int) < (n : Int)) = false := by simp; omega
      have lt1 : decide (k < n) = false := by simp; omega
      have hgo : goes L o = false := goes_no HVD.out HVB.out (fun i hi => hC.out i (by rw [HN.out] at hi; omega))
      have H1 : Hid (eD L o = vD) := Lib.hid (by rw [HD.out, if_pos HE.out, sec, hgo, if_neg (by simp), HVD.out])
      have H2 : Hid (eB L o = vB) := Lib.hid (by rw [HB.out, if_pos HE.out, sec, hgo, if_neg (by simp), HVB.out])
      clear hgo
      subst e1
      go_wp2
      go_ret2
      exact ⟨ret_pair H1.out.symm H2.out.symm, hb.out⟩
    | succ gf =>
      have hkl : k < L.length := by rw [HN.out]; omega
      have lt0 : (k : Int) < (n : Int) := by omega
      have hw1 : (k : Int) + 1 ≤ 10000 := by have := H1K.out; omega
      obtain ⟨g, hg, hgb, rg⟩ := Ow4.row hO.out (Nat.lt_of_le_of_lt (Nat.zero_le _) hkl)
      subst hg
      have hcap := HCAP.out
      obtain ⟨⟨e0, e1, e2, e3⟩, -, -, -, -⟩ := rgc_at rg hkl
      have hglt := rg.lt
      have HYES := Lib.hid (fun ho h => goes_yes (o := o) HG.out HVD.out HVB.out hkl ho h)
      have HPL := Lib.hid (fun ho => plc_eq (o := o) HG.out hkl ho)
      have HNX : Hid (∀ (h : (cg L k).i = o → chg (cg L k) vD vB = false) i, i < k + 1 → (cg L i).i = o → chg (cg L i) vD vB = false) := Lib.hid (fun h i hi => by
        rcases Nat.lt_or_ge i k with q | q
        · exact hC.out i q
        · obtain rfl : i = k := by omega
          exact h)
      have HKL := Lib.hid hkl
      obtain ⟨x, hx⟩ : ∃ x, cg L k = x := ⟨_, rfl⟩
      rw [hx] at e0 e1 e2 e3 HYES HPL HNX
      obtain ⟨W4, hW4⟩ : ∃ V, wr.alloc (.cells #[.int .u32 x.i, .int .i64 x.p, .int .u32 x.d, .int .u32 x.b] 45) = V := ⟨_, rfl⟩
      have bW4 : Below wr.heap.size wr W4 := by rw [← hW4]; exact below_alloc1 _ _
      have sW4 : W4.heap.size = wr.heap.size + 1 := by rw [← hW4]; simp
      have KX : Hid (∀ V, Below W4.heap.size W4 V → V.cell? ⟨wr.heap.size, 0, none⟩ = some (.int .u32 x.i) ∧ V.cell? ⟨wr.heap.size, 1, none⟩ = some (.int .i64 x.p) ∧ V.cell? ⟨wr.heap.size, 2, none⟩ = some (.int .u32 x.d) ∧ V.cell? ⟨wr.heap.size, 3, none⟩ = some (.int .u32 x.b)) := Lib.hid (fun V hV => kb4_new hW4 hV)
      have HB4 : Hid (Below w.heap.size w W4) := Lib.hid (hb.out.trans (bW4.mono hb.out.size))
      have O4 := Lib.hid (Ow4.step hO.out bW4)
      have r4 : Rg 45 4 W4 g c' (cflat L) := rg.below' bW4
      obtain ⟨k0, k1, k2, k3⟩ := KX.out _ (Below.refl _ _)
      have HS4 := Lib.hid sW4
      have HGB := Lib.hid hgb
      clear hx sW4 bW4 hO rg KX hC hkl hgb
      by_cases ho : x.i = o
      case neg =>
        have z0 : (x.i != o) = true := by simpa using ho
        have HN1 := Lib.hid (HNX.out (fun q => absurd q ho))
        clear ho r4
        go_wp2_with fail
        go_roundg gf
        case measure => omega
        case rel => exact ⟨k + 1, by go_num, Lib.hid (by omega), HN1, O4, HB4⟩
      have z0 : (x.i != o) = false := by simpa using ho
      have HCH := Lib.hid (chg_own (d := vD) (b := vB) ho)
      have HO := Lib.hid ho
      clear ho
      generalize hs : (x.d == o) = s at *
      generalize hf : (vD == o) = f at *
      generalize hr : (x.b == o) = r at *
      generalize hq : (vB == o) = q at *
      by_cases hch : chg x vD vB = true
      case neg =>
        have hch' : chg x vD vB = false := by simpa using hch
        have HN1 := Lib.hid (HNX.out (fun _ => hch'))
        have hsr : s = f ∧ r = q := by
          have := HCH.out
          rw [hch'] at this
          cases s <;> cases f <;> cases r <;> cases q <;> simp at this ⊢
        have c1 : (s == f) = true := by rw [hsr.1]; simp
        have c2 : (r == q) = true := by rw [hsr.2]; simp
        have c3 : (s != f) = false := by rw [hsr.1]; simp
        have c4 : (r != q) = false := by rw [hsr.2]; simp
        clear hsr hch hch' r4
        go_wp2_with fail
        go_roundg gf
        case measure => omega
        case rel => exact ⟨k + 1, by go_num, Lib.hid (by omega), HN1, O4, HB4⟩
      have hgo : goes L o = true := HYES.out HO.out hch
      have hsec : sec L o = set2 L k vD vB := by rw [sec, if_pos hgo, HPL.out HO.out, HVD.out, HVB.out]
      have H1 : Hid (eD L o = rD (set2 L k vD vB)) := Lib.hid (by rw [HD.out, if_pos HE.out, hsec])
      have H2 : Hid (eB L o = rB (set2 L k vD vB)) := Lib.hid (by rw [HB.out, if_pos HE.out, hsec])
      have HSN : Hid ((set2 L k vD vB).length = n) := Lib.hid (by rw [set2, List.length_set, HN.out])
      have G2 := Lib.hid (gd_set2 HG.out HKL.out vD vB)
      obtain ⟨⟨y0, y1, y2, y3⟩, f0, f1, f2_, f3_⟩ := rgc_at r4 HKL.out
      have r6 := rg_set2 r4 HKL.out vD vB
      obtain ⟨W6, hW6⟩ : ∃ V, (W4.setCell ⟨g, k * 4 + 2, none⟩ (.int .u32 vD)).setCell ⟨g, k * 4 + 3, none⟩ (.int .u32 vB) = V := ⟨_, rfl⟩
      have T6 : Hid (Below w.heap.size w W6) := Lib.hid (by
        rw [← hW6]
        exact (HB4.out.setCell (p := ⟨g, k * 4 + 2, none⟩) HGB.out _).setCell (p := ⟨g, k * 4 + 3, none⟩) HGB.out _)
      rw [hW6] at r6
      have K6 := rturn_any (some ⟨g, 0, none⟩) n c' (set2 L k vD vB) W6 HSN.out (Ow4.of r6 (Nat.zero_le _)).cr H1K.out G2.out
      have hor : (s == f) = false ∨ ((s == f) = true ∧ (r == q) = false) := by
        have := HCH.out
        rw [hch] at this
        cases s <;> cases f <;> cases r <;> cases q <;> simp at this ⊢
      clear hgo hsec r4 r6 hch
      rcases hor with c1 | ⟨c1, c2⟩
      · have c3 : (s != f) = true := by rw [bne, c1]; rfl
        go_wp2_with fail
        refine K6.mono ?_
        rintro e W7 ⟨rfl, u7⟩
        go_wp2
        go_ret2
        exact ⟨ret_pair H1.out.symm H2.out.symm, T6.out.trans (u7.mono T6.out.size)⟩
      · have c3 : (s != f) = false := by rw [bne, c1]; rfl
        have c4 : (r != q) = true := by rw [bne, c2]; rfl
        go_wp2_with fail
        refine K6.mono ?_
        rintro e W7 ⟨rfl, u7⟩
        go_wp2
        go_ret2
        exact ⟨ret_pair H1.out.symm H2.out.symm, T6.out.trans (u7.mono T6.out.size)⟩
end Go.Proofs.Ytpfppacmldjioaa
