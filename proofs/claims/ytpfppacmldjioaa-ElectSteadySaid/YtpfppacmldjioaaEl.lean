/-
  slices.Clone of candidates; Turn, Elect, Speaker, Wins. No statement is proved here; no conditions.
-/
import Derived.Test.YtpfppacmldjioaaRn
import Derived.Lib.SliceRun
namespace Go.Proofs.Ytpfppacmldjioaa
open Go.RowKit Go.Joins

set_option maxRecDepth 100000 in
set_option maxHeartbeats 4000000 in
theorem clone_any (A0 : Option Addr) (n c : Nat) (L : List Ca) (w : World) (hn : L.length = n) (hl : Cr w A0 L) (hll : n ≤ 10000) :
    Calls Try.prog 28 #[.slice A0 n c] w fun e w' => ∃ A' c', e = .returned (.slice A' n c') ∧ Ow4 40 w.heap.size w' A' c' L ∧ Below w.heap.size w w' := by
  cases A0 with
  | none =>
    have hL : L = [] := by
      cases L with
      | nil => rfl
      | cons x L =>
        obtain ⟨b, off, h, _⟩ := hl (by simp [cflat])
        cases h
    subst hL
    obtain rfl : n = 0 := by simpa using hn.symm
    have hq := Lib.run_eql_slice_nil (P := Try.prog) w 22 40 none 0 c 0 0 Try.underlying22
    clear hl hn hll
    go_enter Try.func28, Try.ntmps28
    go_wp2
    go_ret
    exact ⟨none, 0, rfl, Ow4.nil _ _ _, Below.refl _ _⟩
  | some a =>
    obtain ⟨W0, hW0⟩ : ∃ V, w.alloc (.cells #[] 40) = V := ⟨_, rfl⟩
    have bW0 : Below w.heap.size w W0 := by rw [← hW0]; exact below_alloc1 _ _
    have O0 : Ow4 40 w.heap.size W0 (some ⟨w.heap.size, 0, none⟩) 0 [] := by rw [← hW0]; exact Ow4.empty _ _
    obtain ⟨i0, hi0, hz0, hz1, hz2⟩ := info_of infoE
    have hrun : ∃ A' c' W1, (Builtin.append_ #[22, 22] 22 #[.slice (some ⟨w.heap.size, 0, none⟩) 0 0, .slice (some a) n c]).run Try.prog W0 = .ok (.slice A' n c') W1 ∧ Ow4 40 w.heap.size W1 A' c' L ∧ Below w.heap.size W0 W1 := by
      rcases Nat.eq_zero_or_pos n with h | h
      · subst h
        have hL : L = [] := List.eq_nil_of_length_eq_zero hn
        subst hL
        exact ⟨_, 0, W0, app_zero W0 _ _ _ i0 Try.underlying22 hi0 _ 0 0 _ c (Nat.le_refl _) (fun h => by cases h), O0, Below.refl _ _⟩
      · obtain ⟨g', c', W1, r1, r2, r3, r4⟩ := app_gen (P := Try.prog) (S := (w.heap.size ≤ ·)) Try.underlying22 hi0 hz0 hz1 hz2 rfl (by decide) (by decide) O0 (n := 0) rfl (some a) c n (cflat L) (hl.step bW0) (by rw [cflat_length, hn]) (cflat_one L) h (by omega)
        rw [Nat.zero_add] at r1
        refine ⟨_, c', W1, r1, Ow4.of r2 ?_, r3.below (fun j hj => hj) bW0.size⟩
        rcases r4 with q | q
        · exact q
        · have := bW0.size; omega
    obtain ⟨A', c', W1, r1, o1, u1⟩ := hrun
    have HO := Lib.hid o1
    have HU := Lib.hid (bW0.trans u1)
    have hq := Lib.run_eql_slice_nil (P := Try.prog) w 22 40 (some a) n c 0 0 Try.underlying22
    clear hl hn hll O0 bW0 o1 u1 hi0 hz0 hz1 hz2
    go_enter Try.func28, Try.ntmps28
    go_wp2_with (at_builtin; refine wpList_runb _ rfl (.tmp 5) (.tmp 6) 22 rfl rfl rfl r1 ?_)
    go_ret
    exact ⟨A', c', rfl, HO.out, HU.out⟩
set_option maxRecDepth 100000 in
theorem turn_any (A0 : Option Addr) (n c : Nat) (L : List Ca) (w : World) (hn : L.length = n) (hl : Cr w A0 L) (hw : Okws L) :
    Calls Try.prog 8 #[.slice A0 n c] w fun e w' => e = .returned (.tuple #[.int .u32 (tD L), .int .u32 (tB L)]) ∧ Below w.heap.size w w' := by
  have CM := may_any A0 n c L w hn hl hw
  have HD : Hid (tD L = if mayl L = true then rD L else 0) := Lib.hid rfl
  have HB : Hid (tB L = if mayl L = true then rB L else 0) := Lib.hid rfl
  rw [HD.out, HB.out]
  cases hm : mayl L
  · rw [hm] at CM
    clear hl hn hw HD HB hm
    go_enter Try.func8, Try.ntmps8
    go_wp2_with fail
    refine CM.mono ?_
    rintro e W1 ⟨rfl, u1⟩
    go_wp2
    go_ret2
    exact ⟨rfl, u1⟩
  · rw [hm] at CM
    have h50 := (may_gd hm).2
    have CR : Hid (∀ V, Below w.heap.size w V → _) := Lib.hid (fun V hV => round_any A0 n c L V hn (hl.step hV) (by omega))
    generalize rD L = vD at *
    generalize rB L = vB at *
    clear hl hn hw HD HB hm h50
    go_enter Try.func8, Try.ntmps8
    go_wp2_with fail
    refine CM.mono ?_
    rintro e W1 ⟨rfl, u1⟩
    have K := CR.out _ u1
    go_wp2_with fail
    refine K.mono ?_
    rintro e W2 ⟨rfl, u2⟩
    go_wp2
    go_ret2
    exact ⟨rfl, u1.trans (u2.mono u1.size)⟩
set_option maxRecDepth 100000 in
theorem speaker_any (A0 : Option Addr) (n c : Nat) (L : List Ca) (w : World) (hn : L.length = n) (hl : Cr w A0 L) (hw : Okws L) :
    Calls Try.prog 14 #[.slice A0 n c] w fun e w' => e = .returned (.int .u32 (spk L)) ∧ Below w.heap.size w w' := by
  have CM := may_any A0 n c L w hn hl hw
  have HD : Hid (spk L = if mayl L = true then hi (fun _ => true) L else 0) := Lib.hid rfl
  rw [HD.out]
  cases hm : mayl L
  · rw [hm] at CM
    clear hl hn hw HD hm
    go_enter Try.func14, Try.ntmps14
    go_wp2_with fail
    refine CM.mono ?_
    rintro e W1 ⟨rfl, u1⟩
    go_wp2
    go_ret
    exact ⟨rfl, u1⟩
  · rw [hm] at CM
    have h50 := (may_gd hm).2
    have CR : Hid (∀ V, Below w.heap.size w V → _) := Lib.hid (fun V hV => highest_any A0 n c L 31 (fun _ => true) V hn (hl.step hV) (by omega) enters_s1 (fun V x => speak1_any x V))
    generalize hi (fun _ => true) L = vD at *
    clear hl hn hw HD hm h50
    go_enter Try.func14, Try.ntmps14
    go_wp2_with fail
    refine CM.mono ?_
    rintro e W1 ⟨rfl, u1⟩
    have K := CR.out _ u1
    go_wp2_with fail
    refine K.mono ?_
    rintro e W2 ⟨rfl, u2⟩
    go_wp2
    go_ret
    exact ⟨rfl, u1.trans (u2.mono u1.size)⟩
/-- Whether o is the ID of the highest one. -/
def wns (L : List Ca) (o : Int) : Bool := decide (o ≠ 0) && decide (o = spk L)
set_option maxRecDepth 100000 in
theorem wins_any (A0 : Option Addr) (n c : Nat) (L : List Ca) (o : Int) (w : World) (hn : L.length = n) (hl : Cr w A0 L) (hw : Okws L) :
    Calls Try.prog 15 #[.slice A0 n c, .int .u32 o] w fun e w' => e = .returned (.bool (wns L o)) ∧ Below w.heap.size w w' := by
  have CM := speaker_any A0 n c L w hn hl hw
  have HW : Hid (wns L o = (decide (o ≠ 0) && decide (o = spk L))) := Lib.hid rfl
  rw [HW.out]
  generalize spk L = s at *
  clear HW hl hn hw
  by_cases h : o = 0
  · have g0 : (o != 0) = false := by simp [h]
    have HV : Hid ((decide (o ≠ 0) && decide (o = s)) = false) := Lib.hid (by simp [h])
    clear h
    go_enter Try.func15, Try.ntmps15
    go_wp2
    go_ret
    exact ⟨ret_bool HV.out.symm, Below.refl _ _⟩
  · have g0 : (o != 0) = true := by simpa using h
    have HV : Hid ((decide (o ≠ 0) && decide (o = s)) = (o == s)) := Lib.hid (by simp [h]; rfl)
    clear h
    go_enter Try.func15, Try.ntmps15
    go_wp2_with fail
    refine CM.mono ?_
    rintro e W1 ⟨rfl, u1⟩
    go_wp2
    go_ret
    exact ⟨ret_bool HV.out.symm, u1⟩
theorem fix_plc (L : List Ca) (o : Int) : fix (fun c => decide (c.i = o)) L = if plc L o < L.length then (plc L o : Int) else -1 := rfl
set_option maxRecDepth 100000 in
set_option maxHeartbeats 4000000 in
theorem elect_any (A0 : Option Addr) (n c : Nat) (L : List Ca) (o : Int) (w : World) (hn : L.length = n) (hl : Cr w A0 L) (hw : Okws L) :
    Calls Try.prog 11 #[.slice A0 n c, .int .u32 o] w fun e w' => e = .returned (.tuple #[.int .u32 (eD L o), .int .u32 (eB L o)]) ∧ Below w.heap.size w w' := by
  obtain ⟨W0, hW0⟩ : ∃ V, w.alloc (.cells #[.int .u32 o] 23) = V := ⟨_, rfl⟩
  have bW0 : Below w.heap.size w W0 := by rw [← hW0]; exact below_alloc1 _ _
  have G0 := Bk.mk hW0
  have CM := may_any A0 n c L W0 hn (hl.step bW0) hw
  have HD : Hid (eD L o = if mayl L = true then rD (sec L o) else 0) := Lib.hid rfl
  have HB : Hid (eB L o = if mayl L = true then rB (sec L o) else 0) := Lib.hid rfl
  have HT0 := Lib.hid bW0
  cases hm : mayl L
  case false =>
    rw [hm] at CM
    rw [HD.out, HB.out, hm]
    clear hl hn hw HD HB hm bW0 G0
    go_enter Try.func11, Try.ntmps11
    go_wp2_with fail
    refine CM.mono ?_
    rintro e W1 ⟨rfl, u1⟩
    go_wp2
    go_ret2
    exact ⟨rfl, HT0.out.trans (u1.mono HT0.out.size)⟩
  rw [hm] at CM
  have h50 := (may_gd hm).2
  have hn50 : n ≤ 10000 := by omega
  obtain ⟨vD, hvD⟩ : ∃ v, rD L = v := ⟨_, rfl⟩
  obtain ⟨vB, hvB⟩ : ∃ v, rB L = v := ⟨_, rfl⟩
  have CR : Hid (∀ V, Below W0.heap.size W0 V → Calls Try.prog 23 #[.slice A0 n c] V fun e w' => e = .returned (.tuple #[.int .u32 vD, .int .u32 vB]) ∧ Below V.heap.size V w') := Lib.hid (fun V hV => by
    have := round_any A0 n c L V hn ((hl.step bW0).step hV) hn50
    rwa [hvD, hvB] at this)
  obtain ⟨q, hq⟩ : ∃ q, plc L o = q := ⟨_, rfl⟩
  have CI : Hid (∀ V, Below W0.heap.size W0 V → _) := Lib.hid (fun V hV => ix_any A0 n c L 26 (.pointer (some ⟨w.heap.size, 0, none⟩)) (fun c => decide (c.i = o)) V hn ((hl.step bW0).step hV) hn50 enters_e1 (fun V' x _ hV' => elect1_any o w.heap.size x V' ((G0.step hV).step hV')))
  simp only [fix_plc, hq, hn] at CI
  have HG : Hid (goes L o = (decide (q < n) && chg (cg L q) vD vB)) := Lib.hid (by rw [goes, hq, hvD, hvB, hn])
  have HE : Hid (mayl L = true) := Lib.hid hm
  have HVD := Lib.hid hvD
  have HVB := Lib.hid hvB
  have HN := Lib.hid hn
  have HL := Lib.hid (hl.step bW0)
  have HQ := Lib.hid hq
  clear bW0 G0 hl hw hm h50 hvD hvB
  by_cases hqn : q < n
  case neg =>
    rw [if_neg hqn] at CI
    have H1 : Hid (eD L o = vD) := Lib.hid (by rw [HD.out, if_pos HE.out, sec, HG.out, if_neg (by simp [hqn]), HVD.out])
    have H2 : Hid (eB L o = vB) := Lib.hid (by rw [HB.out, if_pos HE.out, sec, HG.out, if_neg (by simp [hqn]), HVB.out])
    clear HD HB HG hqn hn hn50 hq
    go_enter Try.func11, Try.ntmps11
    go_wp2_with fail
    refine CM.mono ?_
    rintro e W1 ⟨rfl, u1⟩
    have K1 := CR.out _ u1
    have T1 := Lib.hid u1
    clear u1
    go_wp2_with fail
    refine K1.mono ?_
    rintro e W2 ⟨rfl, u2⟩
    have T2 := Lib.hid (T1.out.trans (u2.mono T1.out.size))
    have K2 := CI.out _ T2.out
    clear u2
    go_wp2_with fail
    refine K2.mono ?_
    rintro e W3 ⟨rfl, u3⟩
    have T3 := Lib.hid (T2.out.trans (u3.mono T2.out.size))
    clear u3
    go_wp2
    go_ret2
    exact ⟨ret_pair H1.out.symm H2.out.symm, HT0.out.trans (T3.out.mono HT0.out.size)⟩
  rw [if_pos hqn] at CI
  have hql : q < L.length := by omega
  have hq0 : ¬ ((q : Int) < 0) := by omega
  have hq1 : decide ((q : Int) < 0) = false := by simp
  have hqi : (q : Int) < (n : Int) := by omega
  have HAT := Lib.hid (fun V (hV : Below W0.heap.size W0 V) => crd_at (HL.out.step hV) hql)
  obtain ⟨b, off, hA, -⟩ := HAT.out W0 (Below.refl _ _)
  subst hA
  have HAT2 : Hid (∀ V, Below W0.heap.size W0 V → V.cell? ⟨b, off + q * 4, none⟩ = some (.int .u32 (cg L q).i) ∧ V.cell? ⟨b, off + q * 4 + 1, none⟩ = some (.int .i64 (cg L q).p) ∧ V.cell? ⟨b, off + q * 4 + 2, none⟩ = some (.int .u32 (cg L q).d) ∧ V.cell? ⟨b, off + q * 4 + 3, none⟩ = some (.int .u32 (cg L q).b)) := Lib.hid (fun V hV => by
    obtain ⟨b', off', hA', _, r⟩ := HAT.out V hV
    simp only [Option.some.injEq, Addr.mk.injEq] at hA'
    obtain ⟨rfl, rfl, _⟩ := hA'
    exact r)
  obtain ⟨x, hx⟩ : ∃ x, cg L q = x := ⟨_, rfl⟩
  rw [hx] at HAT2 HG
  have HX := Lib.hid hx
  have CC := Lib.hid (fun V => changes_any x vD vB V)
  clear HAT hx
  cases hch : chg x vD vB
  case false =>
    rw [hch] at CC
    have H1 : Hid (eD L o = vD) := Lib.hid (by rw [HD.out, if_pos HE.out, sec, HG.out, if_neg (by simp [hch]), HVD.out])
    have H2 : Hid (eB L o = vB) := Lib.hid (by rw [HB.out, if_pos HE.out, sec, HG.out, if_neg (by simp [hch]), HVB.out])
    clear HD HB HG hn hn50 hq hql hch
    go_enter Try.func11, Try.ntmps11
    go_wp2_with fail
    refine CM.mono ?_
    rintro e W1 ⟨rfl, u1⟩
    have K1 := CR.out _ u1
    have T1 := Lib.hid u1
    clear u1
    go_wp2_with fail
    refine K1.mono ?_
    rintro e W2 ⟨rfl, u2⟩
    have T2 := Lib.hid (T1.out.trans (u2.mono T1.out.size))
    have K2 := CI.out _ T2.out
    clear u2
    go_wp2_with fail
    refine K2.mono ?_
    rintro e W3 ⟨rfl, u3⟩
    have T3 := Lib.hid (T2.out.trans (u3.mono T2.out.size))
    obtain ⟨x0, x1, x2, x3⟩ := HAT2.out _ T3.out
    have K3 := CC.out W3
    clear u3
    go_wp2_with fail
    refine K3.mono ?_
    rintro e W4 ⟨rfl, u4⟩
    have T4 := Lib.hid (T3.out.trans (u4.mono T3.out.size))
    clear u4
    go_wp2
    go_ret2
    exact ⟨ret_pair H1.out.symm H2.out.symm, HT0.out.trans (T4.out.mono HT0.out.size)⟩
  rw [hch] at CC
  have hgo : goes L o = true := by rw [HG.out, hch]; simp [hqn]
  have HS : Hid (sec L o = set2 L q vD vB) := Lib.hid (by rw [sec, if_pos hgo, HQ.out, HVD.out, HVB.out])
  have H1 : Hid (eD L o = rD (set2 L q vD vB)) := Lib.hid (by rw [HD.out, if_pos HE.out, HS.out])
  have H2 : Hid (eB L o = rB (set2 L q vD vB)) := Lib.hid (by rw [HB.out, if_pos HE.out, HS.out])
  have HSN : Hid ((set2 L q vD vB).length = n) := Lib.hid (by rw [set2, List.length_set, hn])
  have HQL := Lib.hid hql
  have HC : Hid (∀ V, Below W0.heap.size W0 V → _) := Lib.hid (fun V hV => clone_any (some ⟨b, off, none⟩) n c L V HN.out (HL.out.step hV) hn50)
  have HN50 := Lib.hid hn50
  clear HD HB HG hn hn50 hq hch hgo HS hql
  go_enter Try.func11, Try.ntmps11
  go_wp2_with fail
  refine CM.mono ?_
  rintro e W1 ⟨rfl, u1⟩
  have K1 := CR.out _ u1
  have T1 := Lib.hid u1
  clear u1
  go_wp2_with fail
  refine K1.mono ?_
  rintro e W2 ⟨rfl, u2⟩
  have T2 := Lib.hid (T1.out.trans (u2.mono T1.out.size))
  have K2 := CI.out _ T2.out
  clear u2
  go_wp2_with fail
  refine K2.mono ?_
  rintro e W3 ⟨rfl, u3⟩
  have T3 := Lib.hid (T2.out.trans (u3.mono T2.out.size))
  obtain ⟨x0, x1, x2, x3⟩ := HAT2.out _ T3.out
  have K3 := CC.out W3
  clear u3
  go_wp2_with fail
  refine K3.mono ?_
  rintro e W4 ⟨rfl, u4⟩
  have T4 := Lib.hid (T3.out.trans (u4.mono T3.out.size))
  have K4 := HC.out _ T4.out
  clear u4 x0 x1 x2 x3
  go_wp2_with fail
  refine K4.mono ?_
  rintro e W5 ⟨A', c', rfl, o5, u5⟩
  have T5 := Lib.hid (T4.out.trans (u5.mono T4.out.size))
  obtain ⟨g, hg, hgb, r5⟩ := o5.row (by have := HQL.out; omega)
  subst hg
  obtain ⟨⟨y0, y1, y2, y3⟩, f0, f1, f2, f3⟩ := rgc_at r5 HQL.out
  have r6 := rg_set2 r5 HQL.out vD vB
  obtain ⟨W6, hW6⟩ : ∃ V, (W5.setCell ⟨g, q * 4 + 2, none⟩ (.int .u32 vD)).setCell ⟨g, q * 4 + 3, none⟩ (.int .u32 vB) = V := ⟨_, rfl⟩
  have T6 : Hid (Below W0.heap.size W0 W6) := Lib.hid (by
    rw [← hW6]
    have h1 := T4.out.size
    exact (T5.out.setCell (p := ⟨g, q * 4 + 2, none⟩) (by show W0.heap.size ≤ g; omega) _).setCell (p := ⟨g, q * 4 + 3, none⟩) (by show W0.heap.size ≤ g; omega) _)
  rw [hW6] at r6
  have K6 := round_any (some ⟨g, 0, none⟩) n c' (set2 L q vD vB) W6 HSN.out (Ow4.of r6 (Nat.zero_le _)).cr HN50.out
  have HCAP : Hid (n ≤ c') := Lib.hid (by have := o5.room; rw [HN.out] at this; exact this)
  have hcap := HCAP.out
  clear o5 u5 r5 r6
  go_wp2_with fail
  refine K6.mono ?_
  rintro e W7 ⟨rfl, u7⟩
  go_wp2
  go_ret2
  exact ⟨ret_pair H1.out.symm H2.out.symm, HT0.out.trans ((T6.out.trans (u7.mono T6.out.size)).mono HT0.out.size)⟩
end Go.Proofs.Ytpfppacmldjioaa
