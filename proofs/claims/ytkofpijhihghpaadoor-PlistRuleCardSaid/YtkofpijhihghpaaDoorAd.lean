/-
  The contract of the program's Add. No statement is proved here; no conditions.
-/
import Derived.Test.YtkofpijhihghpaaDoorDr
namespace Go.Proofs.YtkofpijhihghpaaDoor
open Go.RowKit Go.Joins

set_option maxRecDepth 100000 in
set_option maxHeartbeats 2000000 in
theorem add_any (A0 : Option Addr) (c : Nat) (l : List Ru) (x : Ru) (w : World) (hl : Sl w A0 c l) (hll : l.length ≤ 10000) (hs : Ls l) (hxA : x.A < 4294967296) :
    Calls Tryd.prog 20 #[.slice A0 l.length c, rv x] w fun e w' => Lst w (addr l x) e w' := by
  have cm := fun W => pmay_any x W hxA
  obtain ⟨W0, hW0⟩ : ∃ W0, w.alloc (.cells #[.int .i64 x.s, .bool x.p, .int .u32 (x.A : Int), .int .i64 x.N, .int .i64 x.g, .int .i64 x.l] 26) = W0 := ⟨_, rfl⟩
  have b0 : Below w.heap.size w W0 := by rw [← hW0]; exact below_alloc1 _ _
  have KK : Hid (∀ V, Below W0.heap.size W0 V → V.cell? ⟨w.heap.size, 0, none⟩ = some (.int .i64 x.s) ∧ V.cell? ⟨w.heap.size, 1, none⟩ = some (.bool x.p) ∧ V.cell? ⟨w.heap.size, 2, none⟩ = some (.int .u32 (x.A : Int)) ∧ V.cell? ⟨w.heap.size, 3, none⟩ = some (.int .i64 x.N) ∧ V.cell? ⟨w.heap.size, 4, none⟩ = some (.int .i64 x.g) ∧ V.cell? ⟨w.heap.size, 5, none⟩ = some (.int .i64 x.l)) := Lib.hid (fun V hV => rb_new hW0 hV)
  have hle := fsi_le (fun y => decide (x.s ≤ y.s)) l
  have he := has_fsi hs x.s
  have hin : inl x l = l.take (fsi (fun y => decide (x.s ≤ y.s)) l) ++ x :: l.drop (fsi (fun y => decide (x.s ≤ y.s)) l) := rfl
  have cf := fun W (hW : Below W0.heap.size W0 W) => first_any A0 c l 48 (.pointer (some ⟨w.heap.size, 0, none⟩)) (fun y => decide (x.s ≤ y.s)) W ((hl.rr.step b0).step hW) hll enters48 (fun V y hy hV => cge_any y x.s w.heap.size V (KK.out V (hW.trans (hV.mono hW.size))).1)
  obtain ⟨R, hR⟩ : ∃ R, fsi (fun y => decide (x.s ≤ y.s)) l = R := ⟨_, rfl⟩
  obtain ⟨ln, hln⟩ : ∃ ln, l.length = ln := ⟨_, rfl⟩
  rw [hR] at cf hle he hin
  have HL := Lib.hid hl
  have hcap := hl.cap
  have hmax := hl.max
  rw [hln] at cf hle he hll hcap
  have HE := Lib.hid he
  have HIN := Lib.hid hin
  have HLN := Lib.hid hln
  have HB0 := Lib.hid b0
  have HAD : Hid (addr l x = if okr x then (if hasq l x.s then ([], 7) else if 200 ≤ ln then ([], 8) else (inl x l, 0)) else ([], 1)) := Lib.hid (by rw [addr, hln])
  rw [hln]
  obtain ⟨k0, k1, k2, k3, k4, k5⟩ := KK.out _ (Below.refl _ _)
  clear hl hs hR hln b0 he hin
  go_enter Tryd.func20, Tryd.ntmps20
  cases hk : okr x with
  | false =>
    rw [hk] at cm
    go_wp2_with fail
    refine (cm _).mono ?_
    rintro e W1 ⟨rfl, hb1⟩
    go_wp2
    go_ret2
    refine ⟨none, 0, ?_, ?_, HB0.out.trans (hb1.mono HB0.out.size)⟩
    · rw [HAD.out, hk]; rfl
    · rw [HAD.out, hk]; exact Sl.nil0 _
  | true =>
    rw [hk] at cm
    go_wp2_with fail
    refine (cm _).mono ?_
    rintro e W1 ⟨rfl, hb1⟩
    have cf1 := cf W1 hb1
    clear cm cf hW0 k0 k1 k2 k3 k4 k5
    go_wp2_with fail
    refine cf1.mono ?_
    rintro e W2 ⟨rfl, hb2⟩
    have HB2 : Hid (Below W0.heap.size W0 W2) := Lib.hid (hb1.trans (hb2.mono hb1.size))
    have HW2 : Hid (Below w.heap.size w W2) := Lib.hid (HB0.out.trans (HB2.out.mono HB0.out.size))
    obtain ⟨k0, k1, k2, k3, k4, k5⟩ := KK.out _ HB2.out
    clear cf1 hb1 hb2
    cases hq : hasq l x.s with
    | true =>
      have h1 := HE.out
      rw [hq] at h1
      simp only [Bool.true_eq, Bool.and_eq_true, decide_eq_true_eq] at h1
      obtain ⟨hlt, heq⟩ := h1
      have lt1 : (R : Int) < (ln : Int) := by omega
      obtain ⟨b, off, hA, _, e0, _⟩ := (HL.out.step HW2.out).rr.at (i := R) (by rw [HLN.out]; exact hlt)
      rw [heq] at e0
      subst hA
      go_wp2_with fail
      go_quiet (fail)
      go_wp2
      go_ret2
      refine ⟨none, 0, ?_, ?_, HW2.out.trans (below_draws _ _ _)⟩
      · rw [HAD.out, hk, hq]; rfl
      · rw [HAD.out, hk, hq]; exact Sl.nil0 _
    | false =>
      go_upto_region 4 with fail
      go_cut [26] (fun v wx => v = .bool false ∧ ∃ nq, wx = W2.drewN nq)
      case first =>
        by_cases hlt : R < ln
        · have lt1 : (R : Int) < (ln : Int) := by omega
          have h1 := HE.out
          rw [hq] at h1
          have hne : (gr l R).s ≠ x.s := fun h => by simp [hlt, h] at h1
          have n1 : ((gr l R).s == x.s) = false := by simpa using hne
          obtain ⟨b, off, hA, _, e0, _⟩ := (HL.out.step HW2.out).rr.at (i := R) (by rw [HLN.out]; exact hlt)
          subst hA
          clear h1 hne
          go_quiet (fail)
          go_wp2_with fail
          go_meet
          case rel => exact ⟨rfl, _, rfl⟩
        · have lt1 : decide ((R : Int) < (ln : Int)) = false := by simp; omega
          have lt2 : decide (R < ln) = false := by simp; omega
          go_quiet (fail)
          go_wp2_with fail
          go_meet
          case rel => exact ⟨rfl, _, rfl⟩
      case rest =>
        obtain ⟨rfl, nq, hwc⟩ := hcut
        have HB3 : Hid (Below W0.heap.size W0 wc) := Lib.hid (by rw [hwc]; exact HB2.out.trans (below_draws _ _ _))
        have HW3 : Hid (Below w.heap.size w wc) := Lib.hid (by rw [hwc]; exact HW2.out.trans (below_draws _ _ _))
        clear hwc HB2 HW2 k0 k1 k2 k3 k4 k5
        by_cases hf : 200 ≤ ln
        · have f1 : (200 : Int) ≤ (ln : Int) := by omega
          go_wp2_with fail
          go_ret2
          refine ⟨none, 0, ?_, ?_, HW3.out⟩
          · rw [HAD.out, hk, hq, if_pos hf]; rfl
          · rw [HAD.out, hk, hq, if_pos hf]; exact Sl.nil0 _
        · have f1 : ¬ ((200 : Int) ≤ (ln : Int)) := by omega
          have HS : Hid (addr l x = (l.take R ++ x :: l.drop R, 0)) := Lib.hid (by rw [HAD.out, hk, hq, if_neg hf, ← HIN.out]; rfl)
          obtain ⟨k0, k1, k2, k3, k4, k5⟩ := KK.out _ HB3.out
          have hRc : R ≤ c := by omega
          have hnil := HL.out.nil
          obtain ⟨A2, hA2⟩ : ∃ A2, (match A0 with | none => none | some a => if c = R then some a else some (a.add (R * 6))) = A2 := ⟨_, rfl⟩
          have R1 : Hid (∀ V, Below w.heap.size w V → Rr V A0 (l.take R) ∧ Rr V A2 (l.drop R)) := Lib.hid (fun V hV => by
            have h := (HL.out.step hV).rr
            refine ⟨h.take R, ?_⟩
            rcases Nat.lt_or_ge R ln with q | q
            · obtain ⟨b, off, hA, _⟩ := h.at (i := R) (by rw [HLN.out]; exact q)
              subst hA
              rw [← hA2]
              simp only
              split
              · omega
              · rw [addr_add]; exact h.drop R
            · rw [List.drop_eq_nil_of_le (by rw [HLN.out]; omega)]
              exact Rr.nil _ _)
          have hl1 : Hid ((l.take R).length = R ∧ (l.drop R).length = ln - R) := Lib.hid (by rw [List.length_take, List.length_drop, HLN.out]; omega)
          go_wp2_with fail
          refine wp_region_held_drew (S := fun V => V.cell? ⟨w.heap.size, 0, none⟩ = some (.int .i64 x.s) ∧ V.cell? ⟨w.heap.size, 1, none⟩ = some (.bool x.p) ∧ V.cell? ⟨w.heap.size, 2, none⟩ = some (.int .u32 (x.A : Int)) ∧ V.cell? ⟨w.heap.size, 3, none⟩ = some (.int .i64 x.N) ∧ V.cell? ⟨w.heap.size, 4, none⟩ = some (.int .i64 x.g) ∧ V.cell? ⟨w.heap.size, 5, none⟩ = some (.int .i64 x.l)) (by kernel_rfl) ⟨k0, k1, k2, k3, k4, k5⟩ (fun hHeld => ?_)
          refine wpAnyH_take (i := 0) (v := ?_) rfl (by kernel_rfl) (by kernel_rfl) (by kernel_rfl) (fun _ _ _ h => h) (Or.inl ⟨by rfl, ?_⟩) (by assumption) ?_
          rotate_left
          · (intro w' hSw; (try dsimp only at hSw); go_simp; try with_reducible rfl)
          simp only [Act.put, List.getElem_toArray, List.getElem_cons_zero, List.setIfInBounds_toArray, List.set_cons_zero, List.set_cons_succ]
          refine wpAnyH_take (i := 1) (v := ?_) rfl (by kernel_rfl) (by kernel_rfl) (by kernel_rfl) (fun _ _ _ h => h) (Or.inl ⟨by rfl, ?_⟩) (by assumption) ?_
          rotate_left
          · (intro w' hSw; (try dsimp only at hSw); go_simp; try with_reducible rfl)
          simp only [Act.put, List.getElem_toArray, List.getElem_cons_zero, List.getElem_cons_succ, List.setIfInBounds_toArray, List.set_cons_zero, List.set_cons_succ]
          refine wpAnyH_take (i := 2) (v := .slice A0 R c) rfl (by kernel_rfl) (by kernel_rfl) (by kernel_rfl) (fun _ _ _ h => h) (Or.inl ⟨by rfl, ?_⟩) (by assumption) ?_
          · (intro w' hSw; (try dsimp only at hSw); cases A0 with
            | none => (obtain rfl := hnil rfl; obtain rfl : R = 0 := by omega); go_simp
            | some a => go_simp; (try rw [if_pos hRc]))
          simp only [Act.put, List.getElem_toArray, List.getElem_cons_zero, List.getElem_cons_succ, List.setIfInBounds_toArray, List.set_cons_zero, List.set_cons_succ]
          refine wpAnyH_take (i := 3) (v := ?_) rfl (by kernel_rfl) (by kernel_rfl) (by kernel_rfl) (fun _ _ _ h => h) (Or.inl ⟨by rfl, ?_⟩) (by assumption) ?_
          rotate_left
          · (intro w' hSw; (try dsimp only at hSw); go_simp; try with_reducible rfl)
          simp only [Act.put, List.getElem_toArray, List.getElem_cons_zero, List.getElem_cons_succ, List.setIfInBounds_toArray, List.set_cons_zero, List.set_cons_succ]
          refine wpAnyH_take (i := 5) (v := ?_) rfl (by kernel_rfl) (by kernel_rfl) (by kernel_rfl) (fun _ _ _ h => h) (Or.inl ⟨by rfl, ?_⟩) (by assumption) ?_
          rotate_left
          · (intro w' hSw; (try dsimp only at hSw); go_simp; try with_reducible rfl)
          simp only [Act.put, List.getElem_toArray, List.getElem_cons_zero, List.getElem_cons_succ, List.setIfInBounds_toArray, List.set_cons_zero, List.set_cons_succ]
          refine wpAnyH_take (i := 6) (v := ?_) rfl (by kernel_rfl) (by kernel_rfl) (by kernel_rfl) (fun _ _ _ h => h) (Or.inl ⟨by rfl, ?_⟩) (by assumption) ?_
          rotate_left
          · (intro w' hSw; (try dsimp only at hSw); go_simp; try with_reducible rfl)
          simp only [Act.put, List.getElem_toArray, List.getElem_cons_zero, List.getElem_cons_succ, List.setIfInBounds_toArray, List.set_cons_zero, List.set_cons_succ]
          refine wpAnyH_take (i := 7) (v := .slice A2 (ln - R) (c - R)) rfl (by kernel_rfl) (by kernel_rfl) (by kernel_rfl) (fun _ _ _ h => h) (Or.inl ⟨by rfl, ?_⟩) (by assumption) ?_
          · (intro w' hSw; (try dsimp only at hSw); subst hA2; cases A0 with
            | none => (obtain rfl := hnil rfl; obtain rfl : R = 0 := by omega; (try obtain rfl : ln = 0 := by omega)); go_simp
            | some a => go_simp; (try simp [hle]))
          simp only [Act.put, List.getElem_toArray, List.getElem_cons_zero, List.getElem_cons_succ, List.setIfInBounds_toArray, List.set_cons_zero, List.set_cons_succ]
          have t1 : Below W0.heap.size W0 wc.drew := HB3.out.trans (below_draws _ _ 1)
          generalize hX0 : wc.drew = X0 at t1 ⊢
          clear hX0 hHeld
          refine wpAnyH_ready (rs := [4]) (by kernel_rfl) (by simp) ?_
          refine AllReadyH.cons rfl (fun K hK => ?_) AllReadyH.nil
          go_simp
          obtain ⟨X1, hX1⟩ : ∃ V, X0.alloc (.cells #[.int .i64 x.s, .bool x.p, .int .u32 (x.A : Int), .int .i64 x.N, .int .i64 x.g, .int .i64 x.l] 26) = V := ⟨_, rfl⟩
          have q1 : Below X0.heap.size X0 X1 := by rw [← hX1]; exact below_alloc1 _ _
          have t2 : Below W0.heap.size W0 X1 := t1.trans (q1.mono t1.size)
          have rx : Rr X1 (some ⟨X0.heap.size, 0, none⟩) [x] := by
            rw [← hX1]
            exact (Rg.lit X0 26 6 1 _ (rflat [x]) rfl rfl (by unfold maxLen; omega)).rd.more (fun _ _ _ => trivial)
          obtain ⟨m1, hm1⟩ : ∃ m, X0.heap.size = m := ⟨_, rfl⟩
          rw [hm1] at rx
          rw [hX1, hm1]
          refine hK.out _ _ (KK.out _ t2) (fun _ => ?_)
          clear hK K hX1 hm1 q1 t1
          refine wpAnyH_ready (rs := [8]) (by kernel_rfl) (by simp) ?_
          refine AllReadyH.cons rfl (fun K hK => ?_) AllReadyH.nil
          go_simp
          obtain ⟨X2, hX2⟩ : ∃ V, X1.alloc (.cells #[.slice A0 R c, .slice (some ⟨m1, 0, none⟩) 1 1, .slice A2 (ln - R) (c - R)] 42) = V := ⟨_, rfl⟩
          have q1 : Below X1.heap.size X1 X2 := by rw [← hX2]; exact below_alloc1 _ _
          have t3 : Below W0.heap.size W0 X2 := t2.trans (q1.mono t2.size)
          have t4 : Below w.heap.size w X2 := HB0.out.trans (t3.mono HB0.out.size)
          have rx2 := rx.step q1
          have hP : Rd (fun _ => True) X2 (some ⟨X1.heap.size, 0, none⟩) ([(⟨A0, c, l.take R⟩ : Pc), ⟨some ⟨m1, 0, none⟩, 1, [x]⟩, ⟨A2, c - R, l.drop R⟩].map pv) := by
            rw [← hX2]
            refine (Rg.lit X1 42 1 3 _ _ ?_ rfl (by unfold maxLen; omega)).rd.more (fun _ _ _ => trivial)
            simp [hl1.out.1, hl1.out.2]
          obtain ⟨m, hm⟩ : ∃ m, X1.heap.size = m := ⟨_, rfl⟩
          rw [hm] at hP
          have cc := concat_any (some ⟨m, 0, none⟩) 3 _ X2 hP (fun p hp => by
            obtain ⟨r1, r2⟩ := R1.out X2 t4
            simp only [List.mem_cons, List.not_mem_nil, or_false] at hp
            rcases hp with rfl | rfl | rfl
            · exact r1
            · exact rx2
            · exact r2) (by simp) (by simp [cat]; have := HLN.out; omega)
          simp only [List.length_cons, List.length_nil, cat, List.append_nil, List.cons_append, List.nil_append] at cc
          obtain ⟨n3, hn3⟩ : ∃ n3, (l.take R ++ x :: l.drop R).length = n3 := ⟨_, rfl⟩
          rw [hn3] at cc
          have HN3 := Lib.hid hn3
          clear hn3
          rw [hX2, hm]
          refine hK.out _ _ (KK.out _ t3) (fun _ => ?_)
          clear hK K hX2
          refine wpAnyH_ready (rs := [9]) (by kernel_rfl) (by simp) ?_
          refine AllReadyH.cons rfl (fun K hK => ?_) AllReadyH.nil
          go_simp
          go_at_call 49
          refine cc.mono ?_
          rintro e X3 ⟨A3, c3, rfl, s3, b3⟩
          have F : Hid (Sl X3 A3 c3 (l.take R ++ x :: l.drop R)) := Lib.hid s3
          have T3 : Hid (Below w.heap.size w X3) := Lib.hid (t4.trans (b3.mono t4.size))
          have KS := KK.out _ (t3.trans (b3.mono t3.size))
          refine hK.out _ _ KS (fun _ => ?_)
          clear hK K s3 b3 cc hP q1 t2 t3 t4
          refine wpAnyH_ready (rs := [10]) (by kernel_rfl) (by simp) ?_
          refine AllReadyH.cons rfl (fun K hK => ?_) AllReadyH.nil
          go_simp
          refine hK.out _ _ KS (fun _ => ?_)
          clear hK K
          refine wpAnyH_ready (rs := [11]) (by kernel_rfl) (by simp) ?_
          refine AllReadyH.cons rfl (fun K hK => ?_) AllReadyH.nil
          go_simp
          refine hK.out _ _ KS (fun _ => ?_)
          clear hK K
          refine wpAnyH_done (by kernel_rfl) ?_ _
          go_wp2
          go_ret2
          refine ⟨A3, c3, ?_, ?_, T3.out⟩
          · rw [HS.out]
            show _ = Ending.returned (.tuple #[.slice A3 (l.take R ++ x :: l.drop R).length c3, .int .i64 0])
            rw [HN3.out]
            rfl
          · rw [HS.out]; exact F.out
end Go.Proofs.YtkofpijhihghpaaDoor
