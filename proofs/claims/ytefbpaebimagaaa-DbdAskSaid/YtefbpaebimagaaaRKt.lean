/-
  The contract of the reference's TakeAsk; there and back. No statement is proved here; no conditions.
-/
import Derived.Test.YtefbpaebimagaaaKt
import Derived.Test.YtefbpaebimagaaaAk
namespace Go.Proofs.Ytefbpaebimagaaa
open Go.RowKit Go.Joins

set_option maxRecDepth 100000 in
set_option maxHeartbeats 8000000 in
theorem rtakeask_any (A : Option Addr) (n c : Nat) (l : List Int) (w : World) (hn : l.length = n) (hb : Bt w A l) (hy : Byt l) (hc : n ≤ c) (hl : n ≤ 5000) :
    Calls Try.prog 18 #[.slice A n c] w fun e w' => ∃ A' c', e = .returned (.tuple #[.slice A' (taL l).length c', .int .i64 (taE l)]) ∧ kRr w' A' (taL l) ∧ Below w.heap.size w w' := by
  by_cases hm : n % 12 = 0
  case neg =>
    obtain ⟨e1, e2⟩ := taE_short (show l.length % 12 ≠ 0 by omega)
    rw [e1, e2]
    have d : (((n : Int) % 12) == 0) = false := by simp; omega
    have d2 : (((n : Int) % 12) != 0) = true := by simp [bne, d]
    clear e1 e2 hb hy hm
    go_enter Try.func18, Try.ntmps18
    go_wp2
    go_ret2
    exact ⟨none, 0, rfl, Rd.nil _, Below.refl _ _⟩
  obtain ⟨m, hmm⟩ : ∃ m, n / 12 = m := ⟨_, rfl⟩
  have hnm : n = m * 12 := by omega
  have d : (((n : Int) % 12) == 0) = true := by simp; omega
  have d2 : (((n : Int) % 12) != 0) = false := by simp [bne, d]
  obtain ⟨E, hE⟩ : ∃ E, taE l = E := ⟨_, rfl⟩
  obtain ⟨P, hP⟩ : ∃ P, taL l = P := ⟨_, rfl⟩
  have HNo : Hid (¬ m ≤ 100 ∨ mayq (rdK l m) = false → E = 3 ∧ P = []) := Lib.hid (fun h => by
    rw [← hE, ← hP]
    refine taE_no (by omega) ?_
    rcases h with h | h
    · exact .inl (by omega)
    · exact .inr (by rw [hn, hmm]; exact h))
  have HYes : Hid (m ≤ 100 → mayq (rdK l m) = true → E = 0 ∧ P = rdK l m) := Lib.hid (fun h1 h2 => by
    rw [← hE, ← hP]
    have := taE_yes (l := l) (by omega) (by omega) (by rw [hn, hmm]; exact h2)
    rwa [hn, hmm] at this)
  rw [hE, hP]
  have CR := rrows_any A c l w.heap.size 4 w hb hy (by omega) (Nat.le_refl _) (by omega)
  have r1 : rowsE l 4 = 0 := by
    unfold rowsE
    rw [if_neg (by omega), if_neg]
    rw [hn]
    simp
    omega
  have r2 : rowsL l 4 = nums 4 (m * 3) l := by
    simp only [rowsL, r1, if_true]
    rw [hn, hnm]
    congr 1
    show m * 12 / 4 = m * 3
    omega
  rw [r1, r2, nums_length, hn] at CR
  have HN : Hid (∀ i, i < m * 3 → (nums 4 (m * 3) l).getD i 0 = num (sub l (i * 4) 4)) := Lib.hid (fun i hi => nums_getD _ _ _ _ hi)
  have HNL : Hid ((nums 4 (m * 3) l).length = m * 3) := Lib.hid (nums_length _ _ _)
  generalize nums 4 (m * 3) l = N at *
  have HNM := Lib.hid hnm
  have HY := Lib.hid hy
  have HLN := Lib.hid hn
  obtain ⟨q, hq⟩ : ∃ q, m * 3 = q := ⟨_, rfl⟩
  rw [hq] at CR HNL HN
  have HQ := Lib.hid hq
  have hm416 : m ≤ 416 := by omega
  clear hE hP hnm hy hn hb hmm hm r1 r2 hq
  obtain ⟨i0, hi0, hz0, hz1, hz2⟩ := info_of infoK
  go_enter Try.func18, Try.ntmps18
  go_wp2_with fail
  refine CR.mono ?_
  rintro e Y1 ⟨A1, c1, rfl, o1, u1⟩
  have HBY := Lib.hid u1
  have HW : Hid (∀ V, Below Y1.heap.size Y1 V → Bs .u32 V V.heap.size A1 N) := Lib.hid (fun V hV => Bs.step o1.bs hV)
  have hc1 := o1.cap_le
  rw [HNL.out] at hc1
  obtain ⟨W0, hW0⟩ : ∃ V, Y1.alloc (.cells #[] 76) = V := ⟨_, rfl⟩
  have bW0 : Below Y1.heap.size Y1 W0 := by rw [← hW0]; exact below_alloc1 _ _
  have HO : Hid (Ob 76 3 (Y1.heap.size ≤ ·) W0 (some ⟨Y1.heap.size, 0, none⟩) 0 (kflat (rdK l 0))) := Lib.hid (.inr ⟨Y1.heap.size, Nat.le_refl _, rfl, by rw [← hW0]; exact Rg.lit Y1 76 3 0 #[] [] rfl rfl (by simp [maxLen])⟩)
  have HB0 := Lib.hid bW0
  clear CR o1 u1 bW0
  go_wp2_with fail
  go_loopg [6, 7] m (fun gf v6 v7 wx => ∃ (j p : Nat) (A' : Option Addr) (c' : Nat), v6 = .slice A' j c' ∧ v7 = .int .i64 (p : Int) ∧ Hid (gf + j = m) ∧ Hid (p = j * 3) ∧ Hid (Ob 76 3 (Y1.heap.size ≤ ·) wx A' c' (kflat (rdK l j))) ∧ Hid (∀ y ∈ rdK l j, win y.t 1 7 = true) ∧ Hid (Below Y1.heap.size Y1 wx))
  case atStart => exact ⟨0, 0, _, _, rfl, rfl, Lib.hid (by omega), Lib.hid (by omega), HO, Lib.hid (by simp [rdK]), HB0⟩
  case round =>
    obtain ⟨j, p, A', c', rfl, rfl, hj, hp, ho, hms, hbl⟩ := hrel
    have hj' := hj.out
    clear HO HB0 hW0
    cases gk with
    | zero =>
      obtain rfl : j = m := by omega
      have hpq : p = q := by have := hp.out; have := HQ.out; omega
      subst hpq
      have lt0 : decide ((p : Int) < (p : Int)) = false := by simp
      have lt1 : decide (p < p) = false := by simp
      by_cases ha : (j : Int) > 100
      · obtain ⟨e1, e2⟩ := HNo.out (.inl (by omega))
        have F1 := Lib.hid e1
        have F2 := Lib.hid e2
        clear e1 e2
        go_wp2
        go_ret2
        rw [F1.out, F2.out]
        first | exact ⟨none, ⟨0, rfl⟩, Rd.nil _, HBY.out.trans (hbl.out.mono HBY.out.size)⟩ | exact ⟨none, 0, rfl, Rd.nil _, HBY.out.trans (hbl.out.mono HBY.out.size)⟩
      · obtain ⟨e1, e2⟩ := HYes.out (by omega) ((mayq_iff _).2 hms.out)
        have F1 := Lib.hid e1
        have F2 := Lib.hid e2
        clear e1 e2
        go_wp2
        go_ret2
        rw [F1.out, F2.out, rdK_length]
        first | exact ⟨A', ⟨c', rfl⟩, Ob.rd ho.out, HBY.out.trans (hbl.out.mono HBY.out.size)⟩ | exact ⟨A', c', rfl, Ob.rd ho.out, HBY.out.trans (hbl.out.mono HBY.out.size)⟩
    | succ gf =>
      have hp3 : p + 3 ≤ q := by have := hp.out; have := HQ.out; omega
      have lt0 : (p : Int) < (q : Int) := by omega
      obtain ⟨p1, hp1⟩ : ∃ p1, p + 1 = p1 := ⟨_, rfl⟩
      obtain ⟨p2, hp2⟩ : ∃ p2, p + 2 = p2 := ⟨_, rfl⟩
      have lt1 : (p1 : Int) < (q : Int) := by omega
      have lt2 : (p2 : Int) < (q : Int) := by omega
      have lt3 : p < q := by omega
      have lt4 : p1 < q := by omega
      have lt5 : p2 < q := by omega
      have HP1 : Hid ((p : Int) + 1 = (p1 : Int)) := Lib.hid (by omega)
      have HP2 : Hid ((p : Int) + 2 = (p2 : Int)) := Lib.hid (by omega)
      have hq5 : (q : Int) ≤ 2000 := by have := HQ.out; omega
      have qw := HW.out _ hbl.out
      obtain ⟨bb, off, rfl, hbb1, -⟩ := HW.out _ (Below.refl _ _) (by rintro rfl; have q1 := HNL.out; simp only [List.length_nil] at q1; omega)
      have hbb : bb < wr.heap.size := Nat.lt_of_lt_of_le hbb1 hbl.out.size
      have HB1 := Lib.hid hbb1
      clear hbb1
      have g0 := qw.get (i := p) (by rw [HNL.out]; omega)
      have g1 := qw.get (i := p + 1) (by rw [HNL.out]; omega)
      have g2 := qw.get (i := p + 2) (by rw [HNL.out]; omega)
      have hpe := hp.out
      rw [HN.out _ (by omega), hpe, show j * 3 * 4 = j * 12 by omega, ← hpe] at g0
      rw [HN.out _ (by omega), hpe, show (j * 3 + 1) * 4 = j * 12 + 4 by omega, ← hpe] at g1
      rw [HN.out _ (by omega), hpe, show (j * 3 + 2) * 4 = j * 12 + 8 by omega, ← hpe] at g2
      have hjl : j * 12 + 12 ≤ l.length := by have := HLN.out; have := HNM.out; omega
      obtain ⟨⟨ot0, ot1⟩, -⟩ := ky_ok HY.out hjl
      have e1 : num (sub l (j * 12) 4) = (ky l j).t := rfl
      have e2 : num (sub l (j * 12 + 4) 4) = (ky l j).i := rfl
      have e3 : num (sub l (j * 12 + 8) 4) = (ky l j).v := rfl
      rw [e1] at g0
      rw [e2, hp1] at g1
      rw [e3, hp2] at g2
      obtain ⟨y, hyy⟩ : ∃ y, ky l j = y := ⟨_, rfl⟩
      rw [hyy] at g0 g1 g2 ot0 ot1
      have HRS : Hid (rdK l (j + 1) = rdK l j ++ [y]) := Lib.hid (by rw [rdK_succ, hyy])
      have HMEM : Hid (y ∈ rdK l m) := Lib.hid (by simp only [rdK, List.mem_map, List.mem_range]; exact ⟨j, by omega, hyy⟩)
      have HBB := Lib.hid hbb
      have KS : Hid (∀ W, Below wr.heap.size wr W → W.cell? ⟨bb, off + p, none⟩ = some (.int .u32 y.t) ∧ W.cell? ⟨bb, off + p1, none⟩ = some (.int .u32 y.i) ∧ W.cell? ⟨bb, off + p2, none⟩ = some (.int .u32 y.v)) := Lib.hid (fun W hW => ⟨(hW.cell (p := ⟨bb, off + p, none⟩) hbb).trans g0, (hW.cell (p := ⟨bb, off + p1, none⟩) hbb).trans g1, (hW.cell (p := ⟨bb, off + p2, none⟩) hbb).trans g2⟩)
      clear e1 e2 e3 hyy hpe hjl qw hbb hp1 hp2
      by_cases hqy : win y.t 1 7 = true
      case neg =>
        have hq2 : win y.t 1 7 = false := by simpa using hqy
        obtain ⟨f1, f2⟩ := HNo.out (.inr (mayq_no HMEM.out hq2))
        have F1 := Lib.hid f1
        have F2 := Lib.hid f2
        have hqq : y.t < 1 ∨ 7 < y.t := by
          by_cases z : y.t < 1 ∨ 7 < y.t
          · exact z
          · exact absurd ((win_iff _ _ _).2 (by omega)) hqy
        clear hqy hq2 f1 f2
        rcases hqq with h3 | h4
        · go_wp2
          go_ret2
          rw [F1.out, F2.out]
          first | exact ⟨none, ⟨0, rfl⟩, Rd.nil _, HBY.out.trans (hbl.out.mono HBY.out.size)⟩ | exact ⟨none, 0, rfl, Rd.nil _, HBY.out.trans (hbl.out.mono HBY.out.size)⟩
        · have h3 : ¬ (y.t < 1) := by omega
          have h5 : y.t > 7 := by omega
          go_wp2
          go_ret2
          rw [F1.out, F2.out]
          first | exact ⟨none, ⟨0, rfl⟩, Rd.nil _, HBY.out.trans (hbl.out.mono HBY.out.size)⟩ | exact ⟨none, 0, rfl, Rd.nil _, HBY.out.trans (hbl.out.mono HBY.out.size)⟩
      have HM := Lib.hid hqy
      have hwt := (win_iff _ _ _).1 hqy
      have h3 : ¬ (y.t < 1) := by omega
      have h4 : ¬ (y.t > 7) := by omega
      have hwt2 : IntKind.i64.wrap y.t = y.t := wrap_i64 (by omega) (by omega)
      have hjb : j ≤ 416 := by omega
      have tt : Below wr.heap.size wr wr := Below.refl _ _
      have ob0 := ho.out
      clear hqy
      go_upto_region 10 with fail
      clear g0 g1 g2
      refine wp_region_held_drew (S := fun V => V.cell? ⟨bb, off + p, none⟩ = some (.int .u32 y.t) ∧ V.cell? ⟨bb, off + p1, none⟩ = some (.int .u32 y.i) ∧ V.cell? ⟨bb, off + p2, none⟩ = some (.int .u32 y.v)) (by kernel_rfl) (KS.out _ tt.drew) (fun hHeld => ?_)
      replace tt : Below wr.heap.size wr wr.drew := tt.drew
      generalize hX0 : wr.drew = X0 at tt hHeld ⊢
      clear hX0
      refine wpAnyH_take (i := 0) (v := ?_) rfl (by kernel_rfl) (by kernel_rfl) (by kernel_rfl) (fun _ _ _ h => h) (Or.inl ⟨by rfl, ?_⟩) (by assumption) ?_
      rotate_left
      · (intro w' hSw; (try dsimp only at hSw); go_simp; try with_reducible rfl)
      simp only [Act.put, List.getElem_toArray, List.getElem_cons_zero, List.setIfInBounds_toArray, List.set_cons_zero, List.set_cons_succ]
      refine wpAnyH_take (i := 1) (v := ?_) rfl (by kernel_rfl) (by kernel_rfl) (by kernel_rfl) (fun _ _ _ h => h) (Or.inl ⟨by rfl, ?_⟩) (by assumption) ?_
      rotate_left
      · (intro w' hSw; (try dsimp only at hSw); go_simp; try with_reducible rfl)
      simp only [Act.put, List.getElem_toArray, List.getElem_cons_zero, List.getElem_cons_succ, List.setIfInBounds_toArray, List.set_cons_zero, List.set_cons_succ]
      refine wpAnyH_take (i := 2) (v := ?_) rfl (by kernel_rfl) (by kernel_rfl) (by kernel_rfl) (fun _ _ _ h => h) (Or.inl ⟨by rfl, ?_⟩) (by assumption) ?_
      rotate_left
      · (intro w' hSw; (try dsimp only at hSw); go_simp; try with_reducible rfl)
      simp only [Act.put, List.getElem_toArray, List.getElem_cons_zero, List.getElem_cons_succ, List.setIfInBounds_toArray, List.set_cons_zero, List.set_cons_succ]
      refine wpAnyH_take (i := 3) (v := ?_) rfl (by kernel_rfl) (by kernel_rfl) (by kernel_rfl) (fun _ _ _ h => h) (Or.inl ⟨by rfl, ?_⟩) (by assumption) ?_
      rotate_left
      · (intro w' hSw; (try dsimp only at hSw); go_simp; try with_reducible rfl)
      simp only [Act.put, List.getElem_toArray, List.getElem_cons_zero, List.getElem_cons_succ, List.setIfInBounds_toArray, List.set_cons_zero, List.set_cons_succ]
      refine wpAnyH_take (i := 4) (v := ?_) rfl (by kernel_rfl) (by kernel_rfl) (by kernel_rfl) (fun _ _ _ h => h) (Or.inl ⟨by rfl, ?_⟩) (by assumption) ?_
      rotate_left
      · (intro w' hSw; (try dsimp only at hSw); go_simp; try with_reducible rfl)
      simp only [Act.put, List.getElem_toArray, List.getElem_cons_zero, List.getElem_cons_succ, List.setIfInBounds_toArray, List.set_cons_zero, List.set_cons_succ]
      refine wpAnyH_take (i := 5) (v := .int .i64 y.t) rfl (by kernel_rfl) (by kernel_rfl) (by kernel_rfl) (fun _ _ _ h => h) (Or.inl ⟨by rfl, ?_⟩) (by assumption) ?_
      · (intro w' hSw; (try dsimp only at hSw); go_simp; try rw [hwt2])
      simp only [Act.put, List.getElem_toArray, List.getElem_cons_zero, List.getElem_cons_succ, List.setIfInBounds_toArray, List.set_cons_zero, List.set_cons_succ]
      refine wpAnyH_take (i := 6) (v := ?_) rfl (by kernel_rfl) (by kernel_rfl) (by kernel_rfl) (fun _ _ _ h => h) (Or.inl ⟨by rfl, ?_⟩) (by assumption) ?_
      rotate_left
      · (intro w' hSw; (try dsimp only at hSw); go_simp; try with_reducible rfl)
      simp only [Act.put, List.getElem_toArray, List.getElem_cons_zero, List.getElem_cons_succ, List.setIfInBounds_toArray, List.set_cons_zero, List.set_cons_succ]
      refine wpAnyH_take (i := 7) (v := ?_) rfl (by kernel_rfl) (by kernel_rfl) (by kernel_rfl) (fun _ _ _ h => h) (Or.inl ⟨by rfl, ?_⟩) (by assumption) ?_
      rotate_left
      · (intro w' hSw; (try dsimp only at hSw); go_simp; try with_reducible rfl)
      simp only [Act.put, List.getElem_toArray, List.getElem_cons_zero, List.getElem_cons_succ, List.setIfInBounds_toArray, List.set_cons_zero, List.set_cons_succ]
      refine wpAnyH_take (i := 8) (v := .int .i64 (p1 : Int)) rfl (by kernel_rfl) (by kernel_rfl) (by kernel_rfl) (fun _ _ _ h => h) (Or.inl ⟨by rfl, ?_⟩) (by assumption) ?_
      · (intro w' hSw; (try dsimp only at hSw); go_simp; rw [HP1.out, wrap_i64 (by omega) (by omega)])
      simp only [Act.put, List.getElem_toArray, List.getElem_cons_zero, List.getElem_cons_succ, List.setIfInBounds_toArray, List.set_cons_zero, List.set_cons_succ]
      refine wpAnyH_take (i := 9) (v := ?_) rfl (by kernel_rfl) (by kernel_rfl) (by kernel_rfl) (fun _ _ _ h => h) (Or.inl ⟨by rfl, ?_⟩) (by assumption) ?_
      rotate_left
      · (intro w' hSw; (try dsimp only at hSw); go_simp; try with_reducible rfl)
      simp only [Act.put, List.getElem_toArray, List.getElem_cons_zero, List.getElem_cons_succ, List.setIfInBounds_toArray, List.set_cons_zero, List.set_cons_succ]
      refine wpAnyH_take (i := 10) (v := ?_) rfl (by kernel_rfl) (by kernel_rfl) (by kernel_rfl) (fun _ _ _ h => h) (Or.inl ⟨by rfl, ?_⟩) (by assumption) ?_
      rotate_left
      · (intro w' hSw; (try dsimp only at hSw); go_simp; try with_reducible rfl)
      simp only [Act.put, List.getElem_toArray, List.getElem_cons_zero, List.getElem_cons_succ, List.setIfInBounds_toArray, List.set_cons_zero, List.set_cons_succ]
      refine wpAnyH_take (i := 11) (v := ?_) rfl (by kernel_rfl) (by kernel_rfl) (by kernel_rfl) (fun _ _ _ h => h) (Or.inl ⟨by rfl, ?_⟩) (by assumption) ?_
      rotate_left
      · (intro w' hSw; (try dsimp only at hSw); go_simp; try with_reducible rfl)
      simp only [Act.put, List.getElem_toArray, List.getElem_cons_zero, List.getElem_cons_succ, List.setIfInBounds_toArray, List.set_cons_zero, List.set_cons_succ]
      refine wpAnyH_take (i := 12) (v := ?_) rfl (by kernel_rfl) (by kernel_rfl) (by kernel_rfl) (fun _ _ _ h => h) (Or.inl ⟨by rfl, ?_⟩) (by assumption) ?_
      rotate_left
      · (intro w' hSw; (try dsimp only at hSw); go_simp; try with_reducible rfl)
      simp only [Act.put, List.getElem_toArray, List.getElem_cons_zero, List.getElem_cons_succ, List.setIfInBounds_toArray, List.set_cons_zero, List.set_cons_succ]
      refine wpAnyH_take (i := 13) (v := .int .i64 (p2 : Int)) rfl (by kernel_rfl) (by kernel_rfl) (by kernel_rfl) (fun _ _ _ h => h) (Or.inl ⟨by rfl, ?_⟩) (by assumption) ?_
      · (intro w' hSw; (try dsimp only at hSw); go_simp; rw [HP2.out, wrap_i64 (by omega) (by omega)])
      simp only [Act.put, List.getElem_toArray, List.getElem_cons_zero, List.getElem_cons_succ, List.setIfInBounds_toArray, List.set_cons_zero, List.set_cons_succ]
      refine wpAnyH_take (i := 14) (v := ?_) rfl (by kernel_rfl) (by kernel_rfl) (by kernel_rfl) (fun _ _ _ h => h) (Or.inl ⟨by rfl, ?_⟩) (by assumption) ?_
      rotate_left
      · (intro w' hSw; (try dsimp only at hSw); go_simp; try with_reducible rfl)
      simp only [Act.put, List.getElem_toArray, List.getElem_cons_zero, List.getElem_cons_succ, List.setIfInBounds_toArray, List.set_cons_zero, List.set_cons_succ]
      refine wpAnyH_take (i := 15) (v := ?_) rfl (by kernel_rfl) (by kernel_rfl) (by kernel_rfl) (fun _ _ _ h => h) (Or.inl ⟨by rfl, ?_⟩) (by assumption) ?_
      rotate_left
      · (intro w' hSw; (try dsimp only at hSw); go_simp; try with_reducible rfl)
      simp only [Act.put, List.getElem_toArray, List.getElem_cons_zero, List.getElem_cons_succ, List.setIfInBounds_toArray, List.set_cons_zero, List.set_cons_succ]
      refine wpAnyH_take (i := 16) (v := .agg #[.int .i64 y.t, .int .u32 y.i, .int .u32 y.v]) rfl (by kernel_rfl) (by kernel_rfl) (by kernel_rfl) (fun _ _ _ h => h) (Or.inl ⟨by rfl, ?_⟩) (by assumption) ?_
      · (intro w' hSw; (try dsimp only at hSw); go_simp; try rfl)
      simp only [Act.put, List.getElem_toArray, List.getElem_cons_zero, List.getElem_cons_succ, List.setIfInBounds_toArray, List.set_cons_zero, List.set_cons_succ]
      refine wpAnyH_ready (rs := [17]) (by kernel_rfl) (by simp) ?_
      refine AllReadyH.cons rfl (fun K hK => ?_) AllReadyH.nil
      go_simp
      obtain ⟨Y11, hY11⟩ : ∃ V, X0.alloc (.cells #[.int .i64 y.t, .int .u32 y.i, .int .u32 y.v] 76) = V := ⟨_, rfl⟩
      have u11 : Below X0.heap.size X0 Y11 := by rw [← hY11]; exact below_alloc1 _ _
      have t_Y11 : Below wr.heap.size wr Y11 := tt.trans (u11.mono tt.size)
      obtain ⟨k11, hk11⟩ : ∃ k, X0.heap.size = k := ⟨_, rfl⟩
      try rw [hY11]
      try rw [hk11]
      refine hK.out _ _ (KS.out _ t_Y11) (fun _ => ?_)
      clear hK K
      refine wpAnyH_ready (rs := [18]) (by kernel_rfl) (by simp) ?_
      refine AllReadyH.cons rfl (fun K hK => ?_) AllReadyH.nil
      have obX := Ob.below ob0 tt
      obtain ⟨g9, c9, Z9, r9, rg9, kp9, hg9⟩ := app_one (P := Try.prog) (S := (fun i => A' = some ⟨i, 0, none⟩)) Try.underlying40 hi0 hz0 hz1 hz2 rfl (by decide) (by decide) obX.self (n := j) (by rw [kflat_length, rdK_length]) (kcs y) rfl (kcs_one y) (by omega) k11 hk11
      rw [show (kcs y).toArray = #[.int .i64 y.t, .int .u32 y.i, .int .u32 y.v] from rfl, hY11] at r9
      have T9 : Hid (Below Y1.heap.size Y1 Z9) := Lib.hid (by
        have t9 := hbl.out.trans (tt.mono hbl.out.size)
        exact t9.trans (kp9.below (fun i hi => obX.at hi) t9.size))
      have O9 : Hid (Ob 76 3 (Y1.heap.size ≤ ·) Z9 (some ⟨g9, 0, none⟩) c9 (kflat (rdK l (j + 1)))) := Lib.hid (.inr ⟨g9, (by rcases hg9 with q | q; exact obX.at q; have := hbl.out.size; have := tt.size; omega), rfl, by rw [HRS.out, kflat_snoc]; exact rg9⟩)
      have KF : Hid (Z9.cell? ⟨bb, off + p, none⟩ = some (.int .u32 y.t) ∧ Z9.cell? ⟨bb, off + p1, none⟩ = some (.int .u32 y.i) ∧ Z9.cell? ⟨bb, off + p2, none⟩ = some (.int .u32 y.v)) := Lib.hid <| by
        obtain ⟨z0, z1, z2⟩ := KS.out _ tt
        have hk : Z9.heap[bb]? = X0.heap[bb]? := kp9.block _ (Nat.lt_of_lt_of_le HBB.out tt.size) (fun hj => by have := obX.at hj; have := HB1.out; omega)
        exact ⟨(World.cell?_of_block hk).trans z0, (World.cell?_of_block hk).trans z1, (World.cell?_of_block hk).trans z2⟩
      clear obX rg9 kp9 hg9
      refine step_runb _ rfl (.tmp 36) (.tmp 53) 40 rfl rfl rfl r9 ?_
      refine hK.out _ _ KF.out (fun _ => ?_)
      clear hK K
      refine wpAnyH_ready (rs := [19]) (by kernel_rfl) (by simp) ?_
      refine AllReadyH.cons rfl (fun K hK => ?_) AllReadyH.nil
      go_simp
      refine hK.out _ _ KF.out (fun _ => ?_)
      clear hK K
      refine wpAnyH_done (by kernel_rfl) ?_ _
      go_wp2_with fail
      go_wp2
      go_roundg gf
      case measure => omega
      case rel => exact ⟨j + 1, p + 3, _, _, by go_num, by go_num, Lib.hid (by omega), Lib.hid (by have := hp.out; omega), O9, Lib.hid (by rw [HRS.out]; intro z hz; rcases List.mem_append.1 hz with q | q; exact hms.out z q; obtain rfl := List.mem_singleton.1 q; exact HM.out), T9⟩
end Go.Proofs.Ytefbpaebimagaaa
