/-
  The walk of the law PlistLists. No statement is proved here; no conditions.
-/
import Derived.Test.YtkofpijhihghpaaDoorLwI
import Derived.Test.YtkofpijhihghpaaDoorLwB
import Derived.Test.YtkofpijhihghpaaDoorRy
import Derived.Test.YtkofpijhihghpaaDoorRz
namespace Go.Proofs.YtkofpijhihghpaaDoor
open Go.RowKit Go.Joins

theorem dropr_len (l : List Ru) (s : Int) : (dropr l s).1.length ≤ l.length := by
  unfold dropr
  split
  · exact drl_len l s
  · simp
set_option maxRecDepth 100000 in
set_option maxHeartbeats 4000000 in
theorem lists_walk (A0 : Option Addr) (c : Nat) (l : List Ru) (x : Ru) (B : Nat) (M : Int) (w : World) (ht : Tab w) (hl : Sl w A0 c l) (hA : ∀ x ∈ l, x.A < 4294967296) (hx : x.A < 4294967296) (hB : B < 4294967296) : Calls Tryd.prog 5 #[.slice A0 l.length c, rv x, pf B M] w fun e w' => e = .returned (.bool true) ∧ Below w.heap.size w w' := by
  obtain ⟨W0, hW0⟩ : ∃ W0, w.alloc (.cells #[.int .i64 x.s, .bool x.p, .int .u32 (x.A : Int), .int .i64 x.N, .int .i64 x.g, .int .i64 x.l] 26) = W0 := ⟨_, rfl⟩
  have s0 : W0.heap.size = w.heap.size + 1 := by rw [← hW0]; simp
  obtain ⟨W1, hW1⟩ : ∃ W1, W0.alloc (.cells #[.int .u32 (B : Int), .int .i64 M] 24) = W1 := ⟨_, rfl⟩
  have b0 : Below w.heap.size w W0 := by rw [← hW0]; exact below_alloc1 _ _
  have b1 : Below W0.heap.size W0 W1 := by rw [← hW1]; exact below_alloc1 _ _
  have hb1 : Below w.heap.size w W1 := b0.trans (b1.mono (by omega))
  have HB0 : Hid (Below w.heap.size w W1) := Lib.hid hb1
  have KX : Hid (∀ V, Below W1.heap.size W1 V → V.cell? ⟨w.heap.size, 0, none⟩ = some (.int .i64 x.s) ∧ V.cell? ⟨w.heap.size, 1, none⟩ = some (.bool x.p) ∧ V.cell? ⟨w.heap.size, 2, none⟩ = some (.int .u32 (x.A : Int)) ∧ V.cell? ⟨w.heap.size, 3, none⟩ = some (.int .i64 x.N) ∧ V.cell? ⟨w.heap.size, 4, none⟩ = some (.int .i64 x.g) ∧ V.cell? ⟨w.heap.size, 5, none⟩ = some (.int .i64 x.l)) := Lib.hid (fun V hV => rb_new hW0 (b1.trans (hV.mono b1.size)))
  have KQ : Hid (∀ V, Below W1.heap.size W1 V → V.cell? ⟨w.heap.size + 1, 0, none⟩ = some (.int .u32 (B : Int)) ∧ V.cell? ⟨w.heap.size + 1, 1, none⟩ = some (.int .i64 M)) :=
    Lib.hid (fun V hV => by have := pb_new hW1 hV; rwa [s0] at this)
  have HT := Lib.hid (ht.step hb1)
  have HL : Hid (∀ V, Below W1.heap.size W1 V → Sl V A0 c l) := Lib.hid (fun V hV => (hl.step hb1).step hV)
  obtain ⟨ln, hln⟩ : ∃ ln, l.length = ln := ⟨_, rfl⟩
  have HLN := Lib.hid hln
  have hmx := hl.max
  have hcp := hl.cap
  rw [hln] at hcp
  rw [hln]
  clear b0 b1 hb1 ht hl
  by_cases h1 : 210 < ln
  · have h2 : (ln : Int) > 210 := by omega
    go_enter Tryd.func5, Tryd.ntmps5
    go_wp2_with fail
    refine (alive_any _ HT.out).mono ?_
    rintro e V1 ⟨rfl, hv1⟩
    go_wp2
    go_ret
    exact ⟨rfl, HB0.out.trans (hv1.mono HB0.out.size)⟩
  have h2 : ¬ ((ln : Int) > 210) := by omega
  have cR : ∀ W A' c', Rr W A' l → Calls Tryd.prog 19 #[.slice A' ln c'] W fun e w' => ∃ A2 c2, e = .returned (.slice A2 ln c2) ∧ Sl w' A2 c2 l ∧ Below W.heap.size W w' := fun W A' c' hW => by
    have := rows_any A' c' l W hW (by omega)
    rw [hln] at this
    simpa only [Rws, hln] using this
  have cM : ∀ W A' c', Rr W A' l → _ := fun W A' c' hW => mayall_any A' c' l W hW (by omega) hA
  have cV : ∀ W A' c', Rr W A' l → _ := fun W A' c' hW => eval_any A' c' l B M W hW (by omega) hA hB
  have cQV : ∀ W A' c', Rr W A' l → _ := fun W A' c' hW => qeval_any A' c' l B M W hW (by omega) hA hB
  have cI : ∀ W A' c', Sl W A' c' l → _ := fun W A' c' hW => idle_any A' c' l W hW (by omega) hA
  have cQI : ∀ W A' c', Rr W A' l → _ := fun W A' c' hW => qidle_any A' c' l W hW (by omega) hA
  rw [hln] at cM cV cQV cI cQI
  have hdl := idk_len l ln
  obtain ⟨D, hD⟩ : ∃ D, idk l ln = D := ⟨_, rfl⟩
  rw [hD] at cI cQI hdl
  obtain ⟨nD, hnD⟩ : ∃ n, D.length = n := ⟨_, rfl⟩
  have cJ : ∀ W A' c' A2 c2, Rd (fun _ => True) W A' (its D) → Rd (fun _ => True) W A2 (its D) → _ := fun W A' c' A2 c2 h1 h2 => ints_any A' A2 c' c2 D W h1 h2 (by omega)
  rw [hnD] at cI cQI cJ
  obtain ⟨EV, hEV⟩ : ∃ v, evl l B M = v := ⟨_, rfl⟩
  rw [hEV] at cV cQV
  obtain ⟨ev1, ev2⟩ := EV
  simp only at cV cQV
  clear hEV hD hdl hA
  obtain ⟨MA, hMA⟩ : ∃ v, mayl none l = v := ⟨_, rfl⟩
  rw [hMA] at cM
  have HMA := Lib.hid hMA
  clear hMA
  go_enter Tryd.func5, Tryd.ntmps5
  go_wp2_with fail
  refine (cR _ _ _ (HL.out _ (Below.refl _ _)).rr).mono ?_
  rintro e V1 ⟨A1, c1, rfl, s1, hv1⟩
  clear hW0 hW1 s0
  go_wp2_with fail
  refine (cM _ _ _ s1.rr).mono ?_
  rintro e V2 ⟨rfl, hv2⟩
  replace hv2 := hv1.trans (hv2.mono hv1.size)
  clear s1 hv1 cM
  cases MA with
  | false =>
    go_wp2_with fail
    refine (alive_any _ (HT.out.step hv2)).mono ?_
    rintro e V3 ⟨rfl, hv3⟩
    go_wp2
    go_ret
    exact ⟨rfl, HB0.out.trans ((hv2.trans (hv3.mono hv2.size)).mono HB0.out.size)⟩
  | true =>
    have hLs : Ls l := ((mayl_iff l none).1 HMA.out).1
    obtain ⟨AX, hAX⟩ : ∃ v, addr l x = v := ⟨_, rfl⟩
    obtain ⟨ka, ea⟩ := AX
    have hal := addr_len l x
    rw [hAX, hln] at hal
    simp only at hal
    obtain ⟨na, hna⟩ : ∃ n, ka.length = n := ⟨_, rfl⟩
    rw [hna] at hal
    obtain ⟨DX, hDX⟩ : ∃ v, dropr l x.s = v := ⟨_, rfl⟩
    obtain ⟨kd, ed⟩ := DX
    have hdl := dropr_len l x.s
    rw [hDX, hln] at hdl
    simp only at hdl
    obtain ⟨nd, hnd⟩ : ∃ n, kd.length = n := ⟨_, rfl⟩
    rw [hnd] at hdl
    have cA : ∀ W A' c', Sl W A' c' l → Calls Tryd.prog 20 #[.slice A' ln c', rv x] W fun e w' => ∃ A2 c2, e = .returned (.tuple #[.slice A2 na c2, .int .i64 ea]) ∧ Sl w' A2 c2 ka ∧ Below W.heap.size W w' := fun W A' c' hW => by
      have := add_any A' c' l x W hW (by omega) hLs hx
      rw [hln, hAX] at this
      simpa only [Lst, hna] using this
    have cQA : ∀ W A' c', Sl W A' c' l → Calls Tryd.prog 21 #[.slice A' ln c', rv x] W fun e w' => ∃ A2 c2, e = .returned (.tuple #[.slice A2 na c2, .int .i64 ea]) ∧ Sl w' A2 c2 ka ∧ Below W.heap.size W w' := fun W A' c' hW => by
      have := qadd_any A' c' l x W hW.rr (by omega) hx hLs
      rw [hln, hAX] at this
      simpa only [Lst, hna] using this
    have cD : ∀ W A' c', Sl W A' c' l → Calls Tryd.prog 22 #[.slice A' ln c', .int .i64 x.s] W fun e w' => ∃ A2 c2, e = .returned (.tuple #[.slice A2 nd c2, .int .i64 ed]) ∧ Sl w' A2 c2 kd ∧ Below W.heap.size W w' := fun W A' c' hW => by
      have := drop_any A' c' l x.s W hW (by omega) hLs
      rw [hln, hDX] at this
      simpa only [Lst, hnd] using this
    have cQD : ∀ W A' c', Sl W A' c' l → Calls Tryd.prog 23 #[.slice A' ln c', .int .i64 x.s] W fun e w' => ∃ A2 c2, e = .returned (.tuple #[.slice A2 nd c2, .int .i64 ed]) ∧ Sl w' A2 c2 kd ∧ Below W.heap.size W w' := fun W A' c' hW => by
      have := qdrop_any A' c' l x.s W hW.rr (by omega)
      rw [hln, hDX] at this
      simpa only [Lst, hnd] using this
    have cRa : ∀ W A' c', Sl W A' c' ka → Calls Tryd.prog 19 #[.slice A' na c'] W fun e w' => ∃ A2 c2, e = .returned (.slice A2 na c2) ∧ Sl w' A2 c2 ka ∧ Below W.heap.size W w' := fun W A' c' hW => by
      have := rows_any A' c' ka W hW.rr (by omega)
      rw [hna] at this
      simpa only [Rws, hna] using this
    have cRd : ∀ W A' c', Sl W A' c' kd → Calls Tryd.prog 19 #[.slice A' nd c'] W fun e w' => ∃ A2 c2, e = .returned (.slice A2 nd c2) ∧ Sl w' A2 c2 kd ∧ Below W.heap.size W w' := fun W A' c' hW => by
      have := rows_any A' c' kd W hW.rr (by omega)
      rw [hnd] at this
      simpa only [Rws, hnd] using this
    have cSa : ∀ W A' c' A2 c2, Rr W A' ka → Rr W A2 ka → _ := fun W A' c' A2 c2 h1 h2 => same_any A' A2 c' c2 ka W h1 h2 (by omega)
    have cSd : ∀ W A' c' A2 c2, Rr W A' kd → Rr W A2 kd → _ := fun W A' c' A2 c2 h1 h2 => same_any A' A2 c' c2 kd W h1 h2 (by omega)
    have cSl : ∀ W A' c' A2 c2, Rr W A' l → Rr W A2 l → _ := fun W A' c' A2 c2 h1 h2 => same_any A' A2 c' c2 l W h1 h2 (by omega)
    rw [hna] at cSa
    rw [hnd] at cSd
    rw [hln] at cSl
    have cpl := fun W => plain_any x W
    clear HMA hLs hAX hDX hna hnd hln hnD
    obtain ⟨m3, hm3⟩ : ∃ m, V2.heap.size = m := ⟨_, rfl⟩
    obtain ⟨AO, cO, V3, q1, q2, q3⟩ := own_copy (c := c) (HL.out _ hv2).rr HLN.out (by omega) m3 hm3
    have t3 : Below W1.heap.size W1 V3 := hv2.trans (q3.mono hv2.size)
    have HO : Hid (∀ V, Below V3.heap.size V3 V → Sl V AO cO l) := Lib.hid (fun V hV => q2.step hV)
    clear hv2 q2 q3
    go_upto_region 4 with (at_builtin; refine wpList_runb _ rfl (.tmp 31) (.tmp 32) 42 rfl rfl rfl q1 ?_)
    clear q1 hm3
    have T3 := Lib.hid t3
    have tb := Below.refl V3.heap.size V3
    obtain ⟨k0, k1, k2, k3, k4, k5⟩ := KX.out _ t3
    clear t3
    go_wp2_with fail
    refine (cA _ _ _ (HO.out _ tb)).mono ?_
    rintro e V4 ⟨A4, c4, rfl, sA, hv4⟩
    replace tb := tb.trans (hv4.mono tb.size)
    clear hv4 k0 k1 k2 k3 k4 k5 cA
    have t4 := T3.out.trans (tb.mono T3.out.size)
    obtain ⟨k0, k1, k2, k3, k4, k5⟩ := KX.out _ t4
    go_wp2_with fail
    refine wp_region_held_drew (S := fun V => V.cell? ⟨w.heap.size, 0, none⟩ = some (.int .i64 x.s) ∧ V.cell? ⟨w.heap.size, 1, none⟩ = some (.bool x.p) ∧ V.cell? ⟨w.heap.size, 2, none⟩ = some (.int .u32 (x.A : Int)) ∧ V.cell? ⟨w.heap.size, 3, none⟩ = some (.int .i64 x.N) ∧ V.cell? ⟨w.heap.size, 4, none⟩ = some (.int .i64 x.g) ∧ V.cell? ⟨w.heap.size, 5, none⟩ = some (.int .i64 x.l)) (by kernel_rfl) ⟨k0, k1, k2, k3, k4, k5⟩ (fun hHeld => ?_)
    refine wpAnyH_take (i := 0) (v := ?_) rfl (by kernel_rfl) (by kernel_rfl) (by kernel_rfl) (fun _ _ _ h => h) (Or.inl ⟨by rfl, ?_⟩) (by assumption) ?_
    rotate_left
    · (intro w' hSw; (try dsimp only at hSw); go_simp; try with_reducible rfl)
    simp only [Act.put, List.getElem_toArray, List.getElem_cons_zero, List.setIfInBounds_toArray, List.set_cons_zero, List.set_cons_succ]
    refine wpAnyH_take (i := 2) (v := ?_) rfl (by kernel_rfl) (by kernel_rfl) (by kernel_rfl) (fun _ _ _ h => h) (Or.inl ⟨by rfl, ?_⟩) (by assumption) ?_
    rotate_left
    · (intro w' hSw; (try dsimp only at hSw); go_simp; try with_reducible rfl)
    simp only [Act.put, List.getElem_toArray, List.getElem_cons_zero, List.getElem_cons_succ, List.setIfInBounds_toArray, List.set_cons_zero, List.set_cons_succ]
    have t0 : Below V4.heap.size V4 V4.drew := below_draws _ V4 1
    replace tb := tb.trans (t0.mono tb.size)
    replace sA := sA.step t0
    generalize hX0 : V4.drew = X0 at tb sA ⊢
    clear hX0 hHeld t0 t4 k0 k1 k2 k3 k4 k5
    refine wpAnyH_ready (rs := [1]) (by kernel_rfl) (by simp) ?_
    refine AllReadyH.cons rfl (fun K hK => ?_) AllReadyH.nil
    go_simp
    go_at_call 19
    refine (cR _ _ _ (HL.out _ (T3.out.trans (tb.mono T3.out.size))).rr).mono ?_
    rintro e X1 ⟨A5, c5, rfl, s5, hv5⟩
    replace tb := tb.trans (hv5.mono tb.size)
    replace sA := sA.step hv5
    refine hK.out _ _ (KX.out _ (T3.out.trans (tb.mono T3.out.size))) (fun _ => ?_)
    clear hK K hv5
    refine wpAnyH_ready (rs := [3]) (by kernel_rfl) (by simp) ?_
    refine AllReadyH.cons rfl (fun K hK => ?_) AllReadyH.nil
    go_simp
    go_at_call 13
    refine (cpl _).mono ?_
    rintro e X2 ⟨rfl, hv6⟩
    replace tb := tb.trans (hv6.mono tb.size)
    replace sA := sA.step hv6
    replace s5 := s5.step hv6
    refine hK.out _ _ (KX.out _ (T3.out.trans (tb.mono T3.out.size))) (fun _ => ?_)
    clear hK K hv6
    refine wpAnyH_ready (rs := [4]) (by kernel_rfl) (by simp) ?_
    refine AllReadyH.cons rfl (fun K hK => ?_) AllReadyH.nil
    go_simp
    go_at_call 21
    refine (cQA _ _ _ s5).mono ?_
    rintro e X3 ⟨A6, c6, rfl, sB, hv7⟩
    replace tb := tb.trans (hv7.mono tb.size)
    replace sA := sA.step hv7
    refine hK.out _ _ (KX.out _ (T3.out.trans (tb.mono T3.out.size))) (fun _ => ?_)
    clear hK K hv7
    refine wpAnyH_take (i := 5) (v := ?_) rfl (by kernel_rfl) (by kernel_rfl) (by kernel_rfl) (fun _ _ _ h => h) (Or.inl ⟨by rfl, ?_⟩) (by assumption) ?_
    rotate_left
    · (intro w' hSw; (try dsimp only at hSw); go_simp; try with_reducible rfl)
    simp only [Act.put, List.getElem_toArray, List.getElem_cons_zero, List.getElem_cons_succ, List.setIfInBounds_toArray, List.set_cons_zero, List.set_cons_succ]
    refine wpAnyH_take (i := 6) (v := ?_) rfl (by kernel_rfl) (by kernel_rfl) (by kernel_rfl) (fun _ _ _ h => h) (Or.inl ⟨by rfl, ?_⟩) (by assumption) ?_
    rotate_left
    · (intro w' hSw; (try dsimp only at hSw); go_simp; try with_reducible rfl)
    simp only [Act.put, List.getElem_toArray, List.getElem_cons_zero, List.getElem_cons_succ, List.setIfInBounds_toArray, List.set_cons_zero, List.set_cons_succ]
    refine wpAnyH_take (i := 7) (v := ?_) rfl (by kernel_rfl) (by kernel_rfl) (by kernel_rfl) (fun _ _ _ h => h) (Or.inl ⟨by rfl, ?_⟩) (by assumption) ?_
    rotate_left
    · (intro w' hSw; (try dsimp only at hSw); go_simp; try with_reducible rfl)
    simp only [Act.put, List.getElem_toArray, List.getElem_cons_zero, List.getElem_cons_succ, List.setIfInBounds_toArray, List.set_cons_zero, List.set_cons_succ]
    refine wpAnyH_ready (rs := [8]) (by kernel_rfl) (by simp) ?_
    refine AllReadyH.cons rfl (fun K hK => ?_) AllReadyH.nil
    go_simp
    refine hK.out _ _ (KX.out _ (T3.out.trans (tb.mono T3.out.size))) (fun _ => ?_)
    clear hK K
    refine wpAnyH_ready (rs := [9]) (by kernel_rfl) (by simp) ?_
    refine AllReadyH.cons rfl (fun K hK => ?_) AllReadyH.nil
    go_simp
    refine hK.out _ _ (KX.out _ (T3.out.trans (tb.mono T3.out.size))) (fun _ => ?_)
    clear hK K
    refine wpAnyH_done (by kernel_rfl) ?_ _
    clear s5 cQA cpl
    obtain ⟨k0, k1, k2, k3, k4, k5⟩ := KX.out _ (T3.out.trans (tb.mono T3.out.size))
    go_wp2_with fail
    refine (cD _ _ _ (HO.out _ tb)).mono ?_
    rintro e V5 ⟨A7, c7, rfl, sC, hv8⟩
    replace tb := tb.trans (hv8.mono tb.size)
    replace sA := sA.step hv8
    replace sB := sB.step hv8
    clear hv8 k0 k1 k2 k3 k4 k5 cD
    obtain ⟨k0, k1, k2, k3, k4, k5⟩ := KX.out _ (T3.out.trans (tb.mono T3.out.size))
    go_wp2_with fail
    refine wp_region_held_drew (S := fun V => V.cell? ⟨w.heap.size, 0, none⟩ = some (.int .i64 x.s) ∧ V.cell? ⟨w.heap.size, 1, none⟩ = some (.bool x.p) ∧ V.cell? ⟨w.heap.size, 2, none⟩ = some (.int .u32 (x.A : Int)) ∧ V.cell? ⟨w.heap.size, 3, none⟩ = some (.int .i64 x.N) ∧ V.cell? ⟨w.heap.size, 4, none⟩ = some (.int .i64 x.g) ∧ V.cell? ⟨w.heap.size, 5, none⟩ = some (.int .i64 x.l)) (by kernel_rfl) ⟨k0, k1, k2, k3, k4, k5⟩ (fun hHeld => ?_)
    refine wpAnyH_take (i := 0) (v := ?_) rfl (by kernel_rfl) (by kernel_rfl) (by kernel_rfl) (fun _ _ _ h => h) (Or.inl ⟨by rfl, ?_⟩) (by assumption) ?_
    rotate_left
    · (intro w' hSw; (try dsimp only at hSw); go_simp; try with_reducible rfl)
    simp only [Act.put, List.getElem_toArray, List.getElem_cons_zero, List.setIfInBounds_toArray, List.set_cons_zero, List.set_cons_succ]
    refine wpAnyH_take (i := 2) (v := ?_) rfl (by kernel_rfl) (by kernel_rfl) (by kernel_rfl) (fun _ _ _ h => h) (Or.inl ⟨by rfl, ?_⟩) (by assumption) ?_
    rotate_left
    · (intro w' hSw; (try dsimp only at hSw); go_simp; try with_reducible rfl)
    simp only [Act.put, List.getElem_toArray, List.getElem_cons_zero, List.getElem_cons_succ, List.setIfInBounds_toArray, List.set_cons_zero, List.set_cons_succ]
    refine wpAnyH_take (i := 3) (v := ?_) rfl (by kernel_rfl) (by kernel_rfl) (by kernel_rfl) (fun _ _ _ h => h) (Or.inl ⟨by rfl, ?_⟩) (by assumption) ?_
    rotate_left
    · (intro w' hSw; (try dsimp only at hSw); go_simp; try with_reducible rfl)
    simp only [Act.put, List.getElem_toArray, List.getElem_cons_zero, List.getElem_cons_succ, List.setIfInBounds_toArray, List.set_cons_zero, List.set_cons_succ]
    have t0 : Below V5.heap.size V5 V5.drew := below_draws _ V5 1
    replace tb := tb.trans (t0.mono tb.size)
    replace sA := sA.step t0
    replace sB := sB.step t0
    replace sC := sC.step t0
    generalize hX0 : V5.drew = Y0 at tb sA sB sC ⊢
    clear hX0 hHeld t0 k0 k1 k2 k3 k4 k5
    refine wpAnyH_ready (rs := [1]) (by kernel_rfl) (by simp) ?_
    refine AllReadyH.cons rfl (fun K hK => ?_) AllReadyH.nil
    go_simp
    go_at_call 19
    refine (cR _ _ _ (HL.out _ (T3.out.trans (tb.mono T3.out.size))).rr).mono ?_
    rintro e Y1 ⟨A8, c8, rfl, s8, hv9⟩
    replace tb := tb.trans (hv9.mono tb.size)
    replace sA := sA.step hv9
    replace sB := sB.step hv9
    replace sC := sC.step hv9
    refine hK.out _ _ (KX.out _ (T3.out.trans (tb.mono T3.out.size))) (fun _ => ?_)
    clear hK K hv9
    refine wpAnyH_ready (rs := [4]) (by kernel_rfl) (by simp) ?_
    refine AllReadyH.cons rfl (fun K hK => ?_) AllReadyH.nil
    go_simp
    go_at_call 23
    refine (cQD _ _ _ s8).mono ?_
    rintro e Y2 ⟨A9, c9, rfl, sD, hv10⟩
    replace tb := tb.trans (hv10.mono tb.size)
    replace sA := sA.step hv10
    replace sB := sB.step hv10
    replace sC := sC.step hv10
    refine hK.out _ _ (KX.out _ (T3.out.trans (tb.mono T3.out.size))) (fun _ => ?_)
    clear hK K hv10
    refine wpAnyH_take (i := 5) (v := ?_) rfl (by kernel_rfl) (by kernel_rfl) (by kernel_rfl) (fun _ _ _ h => h) (Or.inl ⟨by rfl, ?_⟩) (by assumption) ?_
    rotate_left
    · (intro w' hSw; (try dsimp only at hSw); go_simp; try with_reducible rfl)
    simp only [Act.put, List.getElem_toArray, List.getElem_cons_zero, List.getElem_cons_succ, List.setIfInBounds_toArray, List.set_cons_zero, List.set_cons_succ]
    refine wpAnyH_take (i := 6) (v := ?_) rfl (by kernel_rfl) (by kernel_rfl) (by kernel_rfl) (fun _ _ _ h => h) (Or.inl ⟨by rfl, ?_⟩) (by assumption) ?_
    rotate_left
    · (intro w' hSw; (try dsimp only at hSw); go_simp; try with_reducible rfl)
    simp only [Act.put, List.getElem_toArray, List.getElem_cons_zero, List.getElem_cons_succ, List.setIfInBounds_toArray, List.set_cons_zero, List.set_cons_succ]
    refine wpAnyH_take (i := 7) (v := ?_) rfl (by kernel_rfl) (by kernel_rfl) (by kernel_rfl) (fun _ _ _ h => h) (Or.inl ⟨by rfl, ?_⟩) (by assumption) ?_
    rotate_left
    · (intro w' hSw; (try dsimp only at hSw); go_simp; try with_reducible rfl)
    simp only [Act.put, List.getElem_toArray, List.getElem_cons_zero, List.getElem_cons_succ, List.setIfInBounds_toArray, List.set_cons_zero, List.set_cons_succ]
    refine wpAnyH_ready (rs := [8]) (by kernel_rfl) (by simp) ?_
    refine AllReadyH.cons rfl (fun K hK => ?_) AllReadyH.nil
    go_simp
    refine hK.out _ _ (KX.out _ (T3.out.trans (tb.mono T3.out.size))) (fun _ => ?_)
    clear hK K
    refine wpAnyH_ready (rs := [9]) (by kernel_rfl) (by simp) ?_
    refine AllReadyH.cons rfl (fun K hK => ?_) AllReadyH.nil
    go_simp
    refine hK.out _ _ (KX.out _ (T3.out.trans (tb.mono T3.out.size))) (fun _ => ?_)
    clear hK K
    refine wpAnyH_done (by kernel_rfl) ?_ _
    clear s8 cQD
    obtain ⟨k0, k1⟩ := KQ.out _ (T3.out.trans (tb.mono T3.out.size))
    go_wp2_with fail
    refine (cV _ _ _ (HO.out _ tb).rr).mono ?_
    rintro e V6 ⟨rfl, hv11⟩
    replace tb := tb.trans (hv11.mono tb.size)
    replace sA := sA.step hv11
    replace sB := sB.step hv11
    replace sC := sC.step hv11
    replace sD := sD.step hv11
    clear hv11 k0 k1 cV
    obtain ⟨k0, k1⟩ := KQ.out _ (T3.out.trans (tb.mono T3.out.size))
    go_wp2_with fail
    refine wp_region_held_drew (S := fun V => V.cell? ⟨w.heap.size + 1, 0, none⟩ = some (.int .u32 (B : Int)) ∧ V.cell? ⟨w.heap.size + 1, 1, none⟩ = some (.int .i64 M)) (by kernel_rfl) ⟨k0, k1⟩ (fun hHeld => ?_)
    refine wpAnyH_take (i := 0) (v := ?_) rfl (by kernel_rfl) (by kernel_rfl) (by kernel_rfl) (fun _ _ _ h => h) (Or.inl ⟨by rfl, ?_⟩) (by assumption) ?_
    rotate_left
    · (intro w' hSw; (try dsimp only at hSw); go_simp; try with_reducible rfl)
    simp only [Act.put, List.getElem_toArray, List.getElem_cons_zero, List.setIfInBounds_toArray, List.set_cons_zero, List.set_cons_succ]
    refine wpAnyH_take (i := 2) (v := ?_) rfl (by kernel_rfl) (by kernel_rfl) (by kernel_rfl) (fun _ _ _ h => h) (Or.inl ⟨by rfl, ?_⟩) (by assumption) ?_
    rotate_left
    · (intro w' hSw; (try dsimp only at hSw); go_simp; try with_reducible rfl)
    simp only [Act.put, List.getElem_toArray, List.getElem_cons_zero, List.getElem_cons_succ, List.setIfInBounds_toArray, List.set_cons_zero, List.set_cons_succ]
    have t0 : Below V6.heap.size V6 V6.drew := below_draws _ V6 1
    replace tb := tb.trans (t0.mono tb.size)
    replace sA := sA.step t0
    replace sB := sB.step t0
    replace sC := sC.step t0
    replace sD := sD.step t0
    generalize hX0 : V6.drew = Z0 at tb sA sB sC sD ⊢
    clear hX0 hHeld t0 k0 k1
    refine wpAnyH_ready (rs := [1]) (by kernel_rfl) (by simp) ?_
    refine AllReadyH.cons rfl (fun K hK => ?_) AllReadyH.nil
    go_simp
    go_at_call 19
    refine (cR _ _ _ (HL.out _ (T3.out.trans (tb.mono T3.out.size))).rr).mono ?_
    rintro e Z1 ⟨A10, c10, rfl, s10, hv12⟩
    replace tb := tb.trans (hv12.mono tb.size)
    replace sA := sA.step hv12
    replace sB := sB.step hv12
    replace sC := sC.step hv12
    replace sD := sD.step hv12
    refine hK.out _ _ (KQ.out _ (T3.out.trans (tb.mono T3.out.size))) (fun _ => ?_)
    clear hK K hv12
    refine wpAnyH_ready (rs := [3]) (by kernel_rfl) (by simp) ?_
    refine AllReadyH.cons rfl (fun K hK => ?_) AllReadyH.nil
    go_simp
    go_at_call 25
    refine (cQV _ _ _ s10.rr).mono ?_
    rintro e Z2 ⟨rfl, hv13⟩
    replace tb := tb.trans (hv13.mono tb.size)
    replace sA := sA.step hv13
    replace sB := sB.step hv13
    replace sC := sC.step hv13
    replace sD := sD.step hv13
    refine hK.out _ _ (KQ.out _ (T3.out.trans (tb.mono T3.out.size))) (fun _ => ?_)
    clear hK K hv13
    refine wpAnyH_take (i := 4) (v := ?_) rfl (by kernel_rfl) (by kernel_rfl) (by kernel_rfl) (fun _ _ _ h => h) (Or.inl ⟨by rfl, ?_⟩) (by assumption) ?_
    rotate_left
    · (intro w' hSw; (try dsimp only at hSw); go_simp; try with_reducible rfl)
    simp only [Act.put, List.getElem_toArray, List.getElem_cons_zero, List.getElem_cons_succ, List.setIfInBounds_toArray, List.set_cons_zero, List.set_cons_succ]
    refine wpAnyH_take (i := 5) (v := ?_) rfl (by kernel_rfl) (by kernel_rfl) (by kernel_rfl) (fun _ _ _ h => h) (Or.inl ⟨by rfl, ?_⟩) (by assumption) ?_
    rotate_left
    · (intro w' hSw; (try dsimp only at hSw); go_simp; try with_reducible rfl)
    simp only [Act.put, List.getElem_toArray, List.getElem_cons_zero, List.getElem_cons_succ, List.setIfInBounds_toArray, List.set_cons_zero, List.set_cons_succ]
    refine wpAnyH_take (i := 6) (v := ?_) rfl (by kernel_rfl) (by kernel_rfl) (by kernel_rfl) (fun _ _ _ h => h) (Or.inl ⟨by rfl, ?_⟩) (by assumption) ?_
    rotate_left
    · (intro w' hSw; (try dsimp only at hSw); go_simp; try with_reducible rfl)
    simp only [Act.put, List.getElem_toArray, List.getElem_cons_zero, List.getElem_cons_succ, List.setIfInBounds_toArray, List.set_cons_zero, List.set_cons_succ]
    refine wpAnyH_ready (rs := [7]) (by kernel_rfl) (by simp) ?_
    refine AllReadyH.cons rfl (fun K hK => ?_) AllReadyH.nil
    go_simp
    refine hK.out _ _ (KQ.out _ (T3.out.trans (tb.mono T3.out.size))) (fun _ => ?_)
    clear hK K
    refine wpAnyH_ready (rs := [8]) (by kernel_rfl) (by simp) ?_
    refine AllReadyH.cons rfl (fun K hK => ?_) AllReadyH.nil
    go_simp
    refine hK.out _ _ (KQ.out _ (T3.out.trans (tb.mono T3.out.size))) (fun _ => ?_)
    clear hK K
    refine wpAnyH_done (by kernel_rfl) ?_ _
    clear s10 cQV
    go_wp2_with fail
    refine (cRa _ _ _ sA).mono ?_
    rintro e U1 ⟨D1, d1, rfl, r1, hu1⟩
    replace tb := tb.trans (hu1.mono tb.size)
    replace sB := sB.step hu1
    replace sC := sC.step hu1
    replace sD := sD.step hu1
    clear hu1 sA
    go_wp2_with fail
    refine (cSa _ _ _ _ _ r1.rr sB.rr).mono ?_
    rintro e U2 ⟨rfl, hu2⟩
    replace tb := tb.trans (hu2.mono tb.size)
    replace sC := sC.step hu2
    replace sD := sD.step hu2
    clear hu2 sB r1 cRa cSa
    go_wp2_with fail
    refine (cRd _ _ _ sC).mono ?_
    rintro e U3 ⟨D2, d2, rfl, r2, hu3⟩
    replace tb := tb.trans (hu3.mono tb.size)
    replace sD := sD.step hu3
    clear hu3 sC
    go_wp2_with fail
    refine (cSd _ _ _ _ _ r2.rr sD.rr).mono ?_
    rintro e U4 ⟨rfl, hu4⟩
    replace tb := tb.trans (hu4.mono tb.size)
    clear hu4 sD r2 cRd cSd
    go_wp2_with fail
    refine (cI _ _ _ (HO.out _ tb)).mono ?_
    rintro e U5 ⟨D3, d3, rfl, r3, hu5⟩
    replace tb := tb.trans (hu5.mono tb.size)
    clear hu5 cI
    have R3 : Hid (∀ V, Below U5.heap.size U5 V → Rd (fun _ => True) V D3 (its D)) := Lib.hid (fun V hV => r3.keep hV.size (fun j _ hj => hV.block j hj))
    have ub := Below.refl U5.heap.size U5
    clear r3
    go_wp2_with fail
    refine (cR _ _ _ (HL.out _ (T3.out.trans (tb.mono T3.out.size))).rr).mono ?_
    rintro e U6 ⟨D4, d4, rfl, r4, hu6⟩
    replace tb := tb.trans (hu6.mono tb.size)
    replace ub := ub.trans (hu6.mono ub.size)
    go_wp2_with fail
    refine (cQI _ _ _ r4.rr).mono ?_
    rintro e U7 ⟨D5, d5, rfl, r5, hu7⟩
    replace tb := tb.trans (hu7.mono tb.size)
    replace ub := ub.trans (hu7.mono ub.size)
    go_wp2_with fail
    refine (cJ _ _ _ _ _ (R3.out _ ub) r5).mono ?_
    rintro e U8 ⟨rfl, hu8⟩
    replace tb := tb.trans (hu8.mono tb.size)
    clear ub r4 r5 hu6 hu7 hu8 R3 cJ cQI
    go_wp2_with fail
    refine (alive_any _ (HT.out.step (T3.out.trans (tb.mono T3.out.size)))).mono ?_
    rintro e U9 ⟨rfl, hu9⟩
    replace tb := tb.trans (hu9.mono tb.size)
    clear hu9
    go_wp2_with fail
    refine (cR _ _ _ (HO.out _ tb).rr).mono ?_
    rintro e U10 ⟨D6, d6, rfl, r6, hu10⟩
    replace tb := tb.trans (hu10.mono tb.size)
    go_wp2_with fail
    refine (cR _ _ _ (HL.out _ (T3.out.trans (tb.mono T3.out.size))).rr).mono ?_
    rintro e U11 ⟨D7, d7, rfl, r7, hu11⟩
    replace tb := tb.trans (hu11.mono tb.size)
    go_wp2_with fail
    refine (cSl _ _ _ _ _ (r6.step hu11).rr r7.rr).mono ?_
    rintro e U12 ⟨rfl, hu12⟩
    replace tb := tb.trans (hu12.mono tb.size)
    go_wp2
    go_ret
    exact ⟨ret_bool (by first | rfl | simp), HB0.out.trans ((T3.out.trans (tb.mono T3.out.size)).mono HB0.out.size)⟩
end Go.Proofs.YtkofpijhihghpaaDoor
