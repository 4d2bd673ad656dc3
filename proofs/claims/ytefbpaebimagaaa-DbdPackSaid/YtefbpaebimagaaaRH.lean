/-
  Contracts of the reference's heads and readHeads. No statement is proved here; no conditions.
-/
import Derived.Test.YtefbpaebimagaaaTh
namespace Go.Proofs.Ytefbpaebimagaaa
open Go.RowKit Go.Joins

theorem Ob.lt {e : TypeId} {sz : Nat} {S : Nat → Prop} {w : World} {A : Option Addr} {c : Nat} {cs : List Value} (h : Ob e sz S w A c cs) {j : Nat} (hj : A = some ⟨j, 0, none⟩) : j < w.heap.size := by
  rcases h with ⟨rfl, _, _⟩ | ⟨g, hg, rfl, h3⟩
  · cases hj
  · injection hj with hj
    injection hj with hj
    exact hj ▸ h3.lt
def rhL (L : List Hd) : List Int := if mays L = true then encs L else []
set_option maxRecDepth 100000 in
set_option maxHeartbeats 4000000 in
theorem rheads_any (A : Option Addr) (n c : Nat) (L : List Hd) (w : World) (hn : L.length = n) (ok : ∀ x ∈ L, Okd x) (hl : hRr w A L) (hll : n ≤ 10000) :
    Calls Try.prog 38 #[.slice A n c] w fun e w' => ∃ A' c', e = .returned (.tuple #[.slice A' (rhL L).length c', .bool (mays L)]) ∧ Own .u8 5 w' w.heap.size A' c' (rhL L) ∧ Below w.heap.size w w' := by
  obtain ⟨E, hE⟩ : ∃ E, mays L = E := ⟨_, rfl⟩
  obtain ⟨P, hP⟩ : ∃ P, rhL L = P := ⟨_, rfl⟩
  have HNo : Hid (mays L = false → E = false ∧ P = []) := Lib.hid (fun h => by rw [← hE, ← hP, h]; exact ⟨rfl, by rw [rhL, h]; rfl⟩)
  have HYes : Hid (mays L = true → E = true ∧ P = encs L) := Lib.hid (fun h => by rw [← hE, ← hP, h]; exact ⟨rfl, by rw [rhL, h]; rfl⟩)
  rw [hE, hP]
  clear hE hP
  obtain ⟨i0, hi0, hz0, hz1, hz2⟩ := info_of info5
  obtain ⟨W0, hW0⟩ : ∃ V, w.alloc (.cells #[] 5) = V := ⟨_, rfl⟩
  have bW0 : Below w.heap.size w W0 := by rw [← hW0]; exact below_alloc1 _ _
  have HO : Hid (Own .u8 5 W0 w.heap.size (some ⟨w.heap.size, 0, none⟩) 0 []) := Lib.hid (by rw [← hW0]; exact Own.empty w _ (Nat.le_refl _) _ _)
  have HB := Lib.hid bW0
  have HLN := Lib.hid hn
  have HL := Lib.hid hl
  have OK := Lib.hid ok
  clear hn hl ok bW0
  go_enter Try.func38, Try.ntmps38
  go_wp2_with fail
  go_loopg [4, 5] n (fun gf v4 v5 wx => ∃ (j x : Nat) (A' : Option Addr) (c' : Nat), v4 = .slice A' x c' ∧ v5 = .int .i64 (j : Int) ∧ Hid (gf + j = n) ∧ Hid (x = j * 20) ∧ Hid (Own .u8 5 wx w.heap.size A' c' (encs (L.take j))) ∧ Hid (∀ y ∈ L.take j, mayd y = true) ∧ Hid (Below w.heap.size w wx))
  case atStart => exact ⟨0, 0, _, _, rfl, rfl, Lib.hid (by omega), Lib.hid (by omega), Lib.hid (by simpa [encs] using HO.out), Lib.hid (by simp), HB⟩
  case round =>
    obtain ⟨j, x, A', c', rfl, rfl, hj, hx, ho, hm, hb⟩ := hrel
    have hj' := hj.out
    clear HO HB
    cases gk with
    | zero =>
      have lt0 : decide ((j : Int) < (n : Int)) = false := by simp; omega
      have lt1 : decide (j < n) = false := by simp; omega
      have HT : Hid (L.take j = L) := Lib.hid (List.take_of_length_le (by rw [HLN.out]; omega))
      have HF : Hid (E = true ∧ P = encs L) := Lib.hid (HYes.out ((mays_iff L).2 (by have := hm.out; rwa [HT.out] at this)))
      have HX : Hid (P.length = x) := Lib.hid (by rw [HF.out.2, encs_length, HLN.out]; have := hx.out; omega)
      go_wp2
      go_ret2
      refine ⟨A', c', ?_, ?_, hb.out⟩
      · rw [HX.out, HF.out.1]
        rfl
      · rw [HF.out.2]
        have := ho.out
        rwa [HT.out] at this
    | succ gf =>
      have hlt : j < L.length := by rw [HLN.out]; omega
      have lt0 : (j : Int) < (n : Int) := by omega
      have hw1 : (j : Int) + 1 ≤ 10000 := by omega
      obtain ⟨bb, off, hA, _, e0, e1, e2, e3, e4, e5, e6, e7⟩ := hrd_at (hRr.step HL.out hb.out) hlt
      subst hA
      have hmem := hg_mem hlt
      have HV : Hid (L.take (j + 1) = L.take j ++ [hg L j]) := Lib.hid (htake hlt)
      obtain ⟨y, hy⟩ : ∃ y, hg L j = y := ⟨_, rfl⟩
      rw [hy] at e0 e1 e2 e3 e4 e5 e6 e7 hmem HV
      have HSL : Hid ((encs (L.take j)).length = x) := Lib.hid (by
        rw [encs_length, List.length_take, HLN.out]
        have := hx.out
        omega)
      have hmk := Lib.hid hmem
      have CH := rhead_any y wr (OK.out y hmem)
      clear hy hmem hlt
      obtain ⟨qm, hqm⟩ : ∃ q, mayd y = q := ⟨_, rfl⟩
      cases qm with
      | false =>
        have e1 : encE y = 1 := by simp [encE, hqm]
        have e2 : encH y = [] := by simp [encH, hqm]
        rw [e1, e2] at CH
        obtain ⟨f1, f2⟩ := HNo.out (mays_no hmk.out hqm)
        have F1 := Lib.hid f1
        have F2 := Lib.hid f2
        clear e1 e2 hqm f1 f2
        go_wp2_with fail
        refine CH.mono ?_
        rintro e Y2 ⟨A2, c2, rfl, -, u2⟩
        go_wp2
        go_ret2
        rw [F1.out, F2.out]
        exact ⟨none, 0, rfl, Own.nil _ _, hb.out.trans (u2.mono hb.out.size)⟩
      | true =>
        have e1 : encE y = 0 := by simp [encE, hqm]
        have e2 : encH y = ehd y := by simp [encH, hqm]
        rw [e1, e2, ehd_length] at CH
        have HM := Lib.hid hqm
        have hx2 : x ≤ 200000 := by have := hx.out; omega
        clear e1 e2 hqm
        go_wp2_with fail
        refine CH.mono ?_
        rintro e Y2 ⟨A2, c2, rfl, o2, u2⟩
        clear e0 e1 e2 e3 e4 e5 e6 e7 CH
        have HB2 : Hid (Below w.heap.size w Y2) := Lib.hid (hb.out.trans (u2.mono hb.out.size))
        obtain ⟨A3, c3, Y3, rY3, oY3, tY3⟩ := run_apn (P := Try.prog) Y2 w.heap.size 26 26 5 .u8 i0 _ 1 Try.underlying26 hi0 hz0 hz1 hz2 rfl _ _ _ (Own.step ho.out u2) _ A2 c2 _ o2.bs x 20 HSL.out (ehd_length _) (by unfold maxLen; omega) (by omega) HB2.out.size
        have HB3 : Hid (Below w.heap.size w Y3) := Lib.hid (HB2.out.trans tY3)
        have HO3 := Lib.hid oY3
        clear o2 u2 tY3 oY3
        go_wp2_with (at_builtin; refine wpList_runb _ rfl (.tmp 25) (.tmp 26) 26 rfl rfl rfl rY3 ?_)
        go_roundg gf
        case measure => omega
        case rel => exact ⟨j + 1, x + 20, A3, c3, rfl, by go_num, Lib.hid (by omega), Lib.hid (by have := hx.out; omega), Lib.hid (by rw [HV.out, encs_snoc]; exact HO3.out), Lib.hid (by rw [HV.out]; intro z hz; rcases List.mem_append.1 hz with q | q; exact hm.out z q; obtain rfl := List.mem_singleton.1 q; exact HM.out), HB3⟩
set_option maxRecDepth 100000 in
set_option maxHeartbeats 8000000 in
theorem rreadheads_any (a : Int) (A : Option Addr) (n c : Nat) (l : List Int) (w : World) (hn : l.length = n) (hb : Bt w A l) (hy : Byt l) (hc : n ≤ c) (hl : n ≤ 5000) :
    Calls Try.prog 42 #[.slice A n c, .int .i64 a] w fun e w' => ∃ A' c', e = .returned (.tuple #[.slice A' (thL l 0 a).length c', .int .i64 (thE l 0 a)]) ∧ hRr w' A' (thL l 0 a) ∧ Below w.heap.size w w' := by
  by_cases hm : n % 20 = 0
  case neg =>
    obtain ⟨e1, e2⟩ := thE_short (a := 0) (b := a) (show l.length % 20 ≠ 0 by omega)
    rw [e1, e2]
    have d : (((n : Int) % 20) == 0) = false := by simp; omega
    have d2 : (((n : Int) % 20) != 0) = true := by simp [bne, d]
    clear e1 e2 hb hy hm
    go_enter Try.func42, Try.ntmps42
    go_wp2
    go_ret2
    exact ⟨none, 0, rfl, Rd.nil _, Below.refl _ _⟩
  obtain ⟨m, hmm⟩ : ∃ m, n / 20 = m := ⟨_, rfl⟩
  have hnm : n = m * 20 := by omega
  have d : (((n : Int) % 20) == 0) = true := by simp; omega
  have d2 : (((n : Int) % 20) != 0) = false := by simp [bne, d]
  obtain ⟨E, hE⟩ : ∃ E, thE l 0 a = E := ⟨_, rfl⟩
  obtain ⟨P, hP⟩ : ∃ P, thL l 0 a = P := ⟨_, rfl⟩
  have HNo : Hid ((win (m : Int) 0 a && mays (rdHs l m)) = false → E = 3 ∧ P = []) := Lib.hid (fun h => by rw [← hE, ← hP]; exact thE_no (by omega) (by rw [hn, hmm]; exact h))
  have HYes : Hid (win (m : Int) 0 a = true → mays (rdHs l m) = true → E = 0 ∧ P = rdHs l m) := Lib.hid (fun h h2 => by
    rw [← hE, ← hP]
    have := thE_yes (l := l) (a := 0) (b := a) (by omega) (by rw [hn, hmm]; exact h) (by rw [hn, hmm]; exact h2)
    rwa [hn, hmm] at this)
  rw [hE, hP]
  obtain ⟨i0, hi0, hz0, hz1, hz2⟩ := info_of infoH
  obtain ⟨W0, hW0⟩ : ∃ V, w.alloc (.cells #[] 85) = V := ⟨_, rfl⟩
  have bW0 : Below w.heap.size w W0 := by rw [← hW0]; exact below_alloc1 _ _
  have HO : Hid (Ob 85 8 (w.heap.size ≤ ·) W0 (some ⟨w.heap.size, 0, none⟩) 0 (hflat (rdHs l 0))) := Lib.hid (.inr ⟨w.heap.size, Nat.le_refl _, rfl, by rw [← hW0]; exact Rg.lit w 85 8 0 #[] [] rfl rfl (by simp [maxLen])⟩)
  have HB := Lib.hid bW0
  have HQ : Hid (Bt W0 A (l.drop (0 * 20))) := Lib.hid (by simpa using hb.step bW0)
  have HNM := Lib.hid hnm
  have HY := Lib.hid hy
  have HLN := Lib.hid hn
  clear hE hP hnm hy hn hb bW0 hmm hm
  go_enter Try.func42, Try.ntmps42
  go_wp2_with fail
  go_loopg [0, 6] m (fun gf v0 v6 wx => ∃ (j k0 : Nat) (A0 : Option Addr) (c0 : Nat) (A' : Option Addr) (c' : Nat), v0 = .slice A0 k0 c0 ∧ v6 = .slice A' j c' ∧ Hid (gf + j = m) ∧ Hid (k0 = gf * 20 ∧ k0 ≤ c0) ∧ Hid (Bt wx A0 (l.drop (j * 20))) ∧ Hid (Ob 85 8 (w.heap.size ≤ ·) wx A' c' (hflat (rdHs l j))) ∧ Hid (∀ y ∈ rdHs l j, mayd y = true) ∧ Hid (Below w.heap.size w wx))
  case atStart => exact ⟨0, n, A, c, _, _, rfl, rfl, Lib.hid (by omega), Lib.hid ⟨HNM.out, hc⟩, HQ, HO, Lib.hid (by simp [rdHs]), HB⟩
  case round =>
    obtain ⟨j, k0, A0, c0, A', c', rfl, rfl, hj, hk, hq, ho, hms, hbl⟩ := hrel
    have hj' := hj.out
    clear HO HB HQ
    cases gk with
    | zero =>
      obtain rfl : k0 = 0 := by have := hk.out.1; omega
      obtain rfl : j = m := by omega
      by_cases ha : (j : Int) > a
      · obtain ⟨e1, e2⟩ := HNo.out (by
          have : win (j : Int) 0 a = false := by simp [win]; omega
          rw [this]; rfl)
        have F1 := Lib.hid e1
        have F2 := Lib.hid e2
        clear e1 e2
        go_wp2
        go_ret2
        rw [F1.out, F2.out]
        exact ⟨none, ⟨0, rfl⟩, Rd.nil _, hbl.out⟩
      · obtain ⟨e1, e2⟩ := HYes.out (by simp [win]; omega) ((mays_iff _).2 hms.out)
        have F1 := Lib.hid e1
        have F2 := Lib.hid e2
        clear e1 e2
        go_wp2
        go_ret2
        rw [F1.out, F2.out, rdHs_length]
        exact ⟨A', ⟨c', rfl⟩, Ob.rd ho.out, hbl.out⟩
    | succ gf =>
      have hk20 : k0 = gf * 20 + 20 := by have := hk.out.1; omega
      have hkc := hk.out.2
      have lt0 : (k0 : Int) > 0 := by omega
      have hdl : (l.drop (j * 20)).length = k0 := by
        rw [List.length_drop, HLN.out, HNM.out, ← hj', hk20]
        omega
      have hdy := HY.out.drop (j * 20)
      have CR := rreadhead_any A0 k0 c0 (l.drop (j * 20)) wr hdl hq.out hdy hkc (by have := HNM.out; omega)
      have hsb : (l.drop (j * 20)).take 20 = sub l (j * 20) 20 := rfl
      have hE2 : rdE (l.drop (j * 20)) = if mayd (rdf (sub l (j * 20) 20)) = true then 0 else 3 := by rw [rdE, if_neg (by omega), hsb]
      obtain ⟨y, hyy⟩ : ∃ y, rdf (sub l (j * 20) 20) = y := ⟨_, rfl⟩
      have HRS : Hid (rdHs l (j + 1) = rdHs l j ++ [y]) := Lib.hid (by rw [rdHs_succ, hyy])
      rw [hyy] at hE2
      by_cases hmy : mayd y = true
      case neg =>
        rw [if_neg hmy] at hE2
        have e5 : rdp (l.drop (j * 20)) = zhd := by rw [rdp, hE2]; rfl
        have e6 : rdr (l.drop (j * 20)) = [] := by rw [rdr, hE2]; rfl
        rw [hE2, e5, e6] at CR
        have CR2 : Calls Try.prog 55 #[.slice A0 k0 c0] wr fun e w' => ∃ A' c', e = .returned (.tuple #[.agg #[.int .i64 0, .int .i64 0, .int .i64 0, .int .u32 0, .int .u32 0, .int .u32 0, .int .i64 0, .int .i64 0], .slice A' 0 c', .int .i64 3]) ∧ Own .u8 5 w' wr.heap.size A' c' [] ∧ Below wr.heap.size wr w' := CR
        obtain ⟨e1, e2⟩ := HNo.out (by
          rw [mays_no (x := y) (by simp only [rdHs, List.mem_map, List.mem_range]; exact ⟨j, by omega, hyy⟩) (by simpa using hmy)]
          simp)
        have F1 := Lib.hid e1
        have F2 := Lib.hid e2
        clear e1 e2 e5 e6 hE2 CR hyy hsb hdy hdl hk20
        go_wp2_with fail
        refine CR2.mono ?_
        rintro e Y1 ⟨A1, c1, rfl, -, u1⟩
        have u2 := Lib.hid (u1.trans (below_alloc1 Y1 (.cells #[Value.int .i64 0, .int .i64 0, .int .i64 0, .int .u32 0, .int .u32 0, .int .u32 0, .int .i64 0, .int .i64 0] 85) |>.mono u1.size))
        go_wp2
        go_ret2
        rw [F1.out, F2.out]
        exact ⟨none, 0, rfl, Rd.nil _, hbl.out.trans (u2.out.mono hbl.out.size)⟩
      rw [if_pos hmy] at hE2
      have e5 : rdp (l.drop (j * 20)) = y := by rw [rdp, if_pos hE2, hsb, hyy]
      have e6 : rdr (l.drop (j * 20)) = l.drop ((j + 1) * 20) := by rw [rdr, if_pos hE2, List.drop_drop]; congr 1; omega
      have e7 : (l.drop ((j + 1) * 20)).length = gf * 20 := by rw [List.length_drop, HLN.out, HNM.out, ← hj']; omega
      rw [hE2, e5, e6, e7] at CR
      have HM := Lib.hid hmy
      have HSL : Hid ((rdHs l j).length = j) := Lib.hid (rdHs_length l j)
      have hjb : j ≤ 250 := by have := HNM.out; omega
      have HE7 := Lib.hid e7
      clear e5 e6 e7 hE2 hyy hsb hdy hdl hmy hk20
      go_wp2_with fail
      refine CR.mono ?_
      rintro e Y1 ⟨A1, c1, rfl, o1, u1⟩
      obtain ⟨Y2, hY2⟩ : ∃ V', Y1.alloc (.cells #[Value.int .i64 y.a, .int .i64 y.o, .int .i64 y.t, .int .u32 y.i, .int .u32 y.v, .int .u32 y.q, .int .i64 y.s, .int .i64 y.n] 85) = V' := ⟨_, rfl⟩
      have u2 : Below Y1.heap.size Y1 Y2 := by rw [← hY2]; exact below_alloc1 _ _
      obtain ⟨y0, y1, y2, y3, y4, y5, y6, y7⟩ := kb8_new hY2 (Below.refl _ _)
      have t2 : Below wr.heap.size wr Y2 := u1.trans (u2.mono u1.size)
      have HT : Hid (Below w.heap.size w Y2) := Lib.hid (hbl.out.trans (t2.mono hbl.out.size))
      have hcap := o1.cap_le
      rw [HE7.out] at hcap
      have q2 := o1.step u2
      have ob2 := Ob.below ho.out t2
      obtain ⟨k2, hk2⟩ : ∃ k, Y2.heap.size = k := ⟨_, rfl⟩
      obtain ⟨g9, c9, Z9, rZ9, rgZ9, kpZ9, hgZ9⟩ := app_one (P := Try.prog) (S := (fun i => A' = some ⟨i, 0, none⟩)) Try.underlying23 hi0 hz0 hz1 hz2 rfl (by decide) (by decide) ob2.self (n := j) (by rw [hflat_length, HSL.out]) (hcs y) rfl (hcs_one y) (by omega) k2 hk2
      rw [show (hcs y).toArray = #[Value.int .i64 y.a, .int .i64 y.o, .int .i64 y.t, .int .u32 y.i, .int .u32 y.v, .int .u32 y.q, .int .i64 y.s, .int .i64 y.n] from rfl] at rZ9
      have HZ : Hid (Below w.heap.size w Z9) := Lib.hid (HT.out.trans (kpZ9.below (fun i hi => ob2.at hi) HT.out.size))
      have HO9 : Hid (Ob 85 8 (w.heap.size ≤ ·) Z9 (some ⟨g9, 0, none⟩) c9 (hflat (rdHs l (j + 1)))) := Lib.hid (.inr ⟨g9, (by rcases hgZ9 with q | q; exact ob2.at q; have := HT.out.size; omega), rfl, by rw [HRS.out, hflat_snoc]; exact rgZ9⟩)
      have HQ9 : Hid (Bt Z9 A1 (l.drop ((j + 1) * 20))) := Lib.hid (Own.bs (q2.kept (fun g hg1 hg2 => kpZ9.block g hg2 (fun hj => by have := ho.out.lt hj; omega))))
      clear rgZ9 kpZ9 hgZ9 ob2 t2 u2 u1 q2
      go_wp2_with (at_builtin; refine wpList_runb _ rfl (.tmp 26) (.tmp 28) 23 rfl rfl rfl rZ9 ?_)
      go_roundg gf
      case measure => omega
      case rel => exact ⟨j + 1, gf * 20, A1, c1, _, _, rfl, by go_num, Lib.hid (by omega), Lib.hid ⟨rfl, hcap⟩, HQ9, HO9, Lib.hid (by rw [HRS.out]; intro z hz; rcases List.mem_append.1 hz with q | q; exact hms.out z q; obtain rfl := List.mem_singleton.1 q; exact HM.out), HZ⟩
end Go.Proofs.Ytefbpaebimagaaa
