/-
  The contract of the program's bounds. No statement is proved here; no conditions.
-/
import Derived.Test.YtmcjpibahnlmbaaRl
import Derived.StillTailTactics
namespace Go.Proofs.Ytmcjpibahnlmbaa
open Go.RowKit Go.Joins

/-- Two numbers in a new block. -/
theorem two_new {w W0 W : World} {t : TypeId} {v0 v1 : Value} (h0 : w.alloc (.cells #[v0, v1] t) = W0) (h : Below W0.heap.size W0 W) :
    W.cell? ⟨w.heap.size, 0, none⟩ = some v0 ∧ W.cell? ⟨w.heap.size, 1, none⟩ = some v1 := by
  subst h0
  have k := (h.block w.heap.size (by simp)).trans (alloc_at _ _ _ rfl)
  exact ⟨(cell_of_block k 0).trans rfl, (cell_of_block k 1).trans rfl⟩
set_option maxRecDepth 100000 in
set_option maxHeartbeats 2000000 in
theorem bounds_any (x : Ru) (w : World) : Calls Try.prog 63 #[rv x] w fun e w' => e = .returned (.tuple #[.int .i64 (lo x), .int .i64 (hi x)]) ∧ Below w.heap.size w w' := by
  obtain ⟨s, p, A, N, g, l⟩ := x
  obtain ⟨W0, hW0⟩ : ∃ W0, w.alloc (.cells #[.int .i64 s, .bool p, .int .u32 (A : Int), .int .i64 N, .int .i64 g, .int .i64 l] 75) = W0 := ⟨_, rfl⟩
  have hb0 : Hid (Below w.heap.size w W0) := Lib.hid (by rw [← hW0]; exact below_alloc1 _ _)
  have s0 : W0.heap.size = w.heap.size + 1 := by rw [← hW0]; simp
  have KK : Hid (∀ V, Below W0.heap.size W0 V → V.cell? ⟨w.heap.size, 3, none⟩ = some (.int .i64 N) ∧ V.cell? ⟨w.heap.size, 4, none⟩ = some (.int .i64 g) ∧ V.cell? ⟨w.heap.size, 5, none⟩ = some (.int .i64 l)) := Lib.hid (fun V hV => by
    obtain ⟨_, _, _, a, b, c⟩ := rb_new hW0 hV
    exact ⟨a, b, c⟩)
  obtain ⟨k3, k4, k5⟩ := KK.out _ (Below.refl _ _)
  obtain ⟨LO, hLO⟩ : ∃ LO, lo ⟨s, p, A, N, g, l⟩ = LO := ⟨_, rfl⟩
  obtain ⟨HI, hHI⟩ : ∃ HI, hi ⟨s, p, A, N, g, l⟩ = HI := ⟨_, rfl⟩
  rw [hLO, hHI]
  have eL : LO = if g = 0 then N else g := hLO.symm
  have eH : HI = if g = 0 ∧ l = 0 then N else if l = 0 then 32 else l := hHI.symm
  have HEL := Lib.hid eL
  have HEH := Lib.hid eH
  clear hLO hHI eL eH
  by_cases hz : g = 0 ∧ l = 0
  · obtain ⟨h1, h2⟩ := hz
    have n1 : (g == 0) = true := by simpa using h1
    have n2 : (l == 0) = true := by simpa using h2
    have e1 : Hid (LO = N ∧ HI = N) := Lib.hid (by rw [HEL.out, HEH.out]; simp [h1, h2])
    clear HEL HEH
    go_enter Try.func63, Try.ntmps63
    go_wp2_with fail
    go_quiet (fail)
    go_wp2
    go_ret2
    obtain ⟨q1, q2⟩ := e1.out
    exact ⟨by rw [q1, q2]; rfl, (below_alloc1 _ _).trans (below_draws _ _ _)⟩
  · have n12 : ((g == 0) && (l == 0)) = false := by
      rw [Bool.eq_false_iff]
      simpa using hz
    have cg : ∀ (n : Nat) (W : World), W.cell? ⟨n, 0, none⟩ = some (.int .i64 g) → W.cell? ⟨n, 1, none⟩ = some (.int .i64 N) → Calls Try.prog 66 #[.slice (some ⟨n, 0, none⟩) 2 2] W fun e w' => e = .returned (.int .i64 LO) ∧ w' = W := fun n W h0 h1 => by
      rw [HEL.out]
      exact or_any g N n W h0 h1
    have cl : ∀ (n : Nat) (W : World), W.cell? ⟨n, 0, none⟩ = some (.int .i64 l) → W.cell? ⟨n, 1, none⟩ = some (.int .i64 32) → Calls Try.prog 66 #[.slice (some ⟨n, 0, none⟩) 2 2] W fun e w' => e = .returned (.int .i64 HI) ∧ w' = W := fun n W h0 h1 => by
      rw [HEH.out, if_neg hz]
      exact or_any l 32 n W h0 h1
    clear HEL HEH
    go_enter Try.func63, Try.ntmps63
    go_upto_region 1 with fail
    go_cut [11] (fun v wx => v = .bool false ∧ wx = W0)
    case first =>
      by_cases h1 : g = 0
      · have n1 : (g == 0) = true := by simpa using h1
        have n2 : (l == 0) = false := by simpa using fun h2 => hz ⟨h1, h2⟩
        go_wp2_with fail
        go_meet
        case rel => exact ⟨rfl, rfl⟩
      · have n1 : (g == 0) = false := by simpa using h1
        go_wp2_with fail
        go_meet
        case rel => exact ⟨rfl, rfl⟩
    case rest =>
      obtain ⟨rfl, rfl⟩ := hcut
      clear n12 hz hW0
      go_upto_region 3 with fail
      refine wp_region_held_drew (S := fun V => V.cell? ⟨w.heap.size, 3, none⟩ = some (.int .i64 N) ∧ V.cell? ⟨w.heap.size, 4, none⟩ = some (.int .i64 g) ∧ V.cell? ⟨w.heap.size, 5, none⟩ = some (.int .i64 l)) (by kernel_rfl) ⟨k3, k4, k5⟩ (fun hHeld => ?_)
      refine wpAnyH_take (i := 0) (v := ?_) rfl (by kernel_rfl) (by kernel_rfl) (by kernel_rfl) (fun _ _ _ h => h) (Or.inl ⟨by rfl, ?_⟩) (by assumption) ?_
      rotate_left
      · (intro w' hSw; (try dsimp only at hSw); go_simp; try with_reducible rfl)
      simp only [Act.put, List.getElem_toArray, List.getElem_cons_zero, List.setIfInBounds_toArray, List.set_cons_zero, List.set_cons_succ]
      refine wpAnyH_take (i := 1) (v := ?_) rfl (by kernel_rfl) (by kernel_rfl) (by kernel_rfl) (fun _ _ _ h => h) (Or.inl ⟨by rfl, ?_⟩) (by assumption) ?_
      rotate_left
      · (intro w' hSw; (try dsimp only at hSw); go_simp; try with_reducible rfl)
      simp only [Act.put, List.getElem_toArray, List.getElem_cons_zero, List.getElem_cons_succ, List.setIfInBounds_toArray, List.set_cons_zero, List.set_cons_succ]
      refine wpAnyH_take (i := 2) (v := ?_) rfl (by kernel_rfl) (by kernel_rfl) (by kernel_rfl) (fun _ _ _ h => h) (Or.inl ⟨by rfl, ?_⟩) (by assumption) ?_
      rotate_left
      · (intro w' hSw; (try dsimp only at hSw); go_simp; try with_reducible rfl)
      simp only [Act.put, List.getElem_toArray, List.getElem_cons_zero, List.getElem_cons_succ, List.setIfInBounds_toArray, List.set_cons_zero, List.set_cons_succ]
      refine wpAnyH_take (i := 3) (v := ?_) rfl (by kernel_rfl) (by kernel_rfl) (by kernel_rfl) (fun _ _ _ h => h) (Or.inl ⟨by rfl, ?_⟩) (by assumption) ?_
      rotate_left
      · (intro w' hSw; (try dsimp only at hSw); go_simp; try with_reducible rfl)
      simp only [Act.put, List.getElem_toArray, List.getElem_cons_zero, List.getElem_cons_succ, List.setIfInBounds_toArray, List.set_cons_zero, List.set_cons_succ]
      refine wpAnyH_take (i := 4) (v := ?_) rfl (by kernel_rfl) (by kernel_rfl) (by kernel_rfl) (fun _ _ _ h => h) (Or.inl ⟨by rfl, ?_⟩) (by assumption) ?_
      rotate_left
      · (intro w' hSw; (try dsimp only at hSw); go_simp; try with_reducible rfl)
      simp only [Act.put, List.getElem_toArray, List.getElem_cons_zero, List.getElem_cons_succ, List.setIfInBounds_toArray, List.set_cons_zero, List.set_cons_succ]
      refine wpAnyH_take (i := 7) (v := ?_) rfl (by kernel_rfl) (by kernel_rfl) (by kernel_rfl) (fun _ _ _ h => h) (Or.inl ⟨by rfl, ?_⟩) (by assumption) ?_
      rotate_left
      · (intro w' hSw; (try dsimp only at hSw); go_simp; try with_reducible rfl)
      simp only [Act.put, List.getElem_toArray, List.getElem_cons_zero, List.getElem_cons_succ, List.setIfInBounds_toArray, List.set_cons_zero, List.set_cons_succ]
      refine wpAnyH_take (i := 8) (v := ?_) rfl (by kernel_rfl) (by kernel_rfl) (by kernel_rfl) (fun _ _ _ h => h) (Or.inl ⟨by rfl, ?_⟩) (by assumption) ?_
      rotate_left
      · (intro w' hSw; (try dsimp only at hSw); go_simp; try with_reducible rfl)
      simp only [Act.put, List.getElem_toArray, List.getElem_cons_zero, List.getElem_cons_succ, List.setIfInBounds_toArray, List.set_cons_zero, List.set_cons_succ]
      have tX0 : Hid (Below wc.heap.size wc wc.drew) := Lib.hid (below_draws _ _ 1)
      generalize hX0 : wc.drew = X0 at tX0 ⊢
      clear hX0 hHeld
      refine wpAnyH_ready (rs := [5, 9]) (by kernel_rfl) (by simp) ?_
      refine AllReadyH.cons rfl (fun K hK => ?_) (AllReadyH.cons rfl (fun K hK => ?_) AllReadyH.nil)
      · go_simp
        obtain ⟨Y1, hY1⟩ : ∃ V, X0.alloc (.cells #[.int .i64 g, .int .i64 N] 3) = V := ⟨_, rfl⟩
        have nY1 : Hid (∀ V, Below Y1.heap.size Y1 V → V.cell? ⟨X0.heap.size, 0, none⟩ = some (.int .i64 g) ∧ V.cell? ⟨X0.heap.size, 1, none⟩ = some (.int .i64 N)) := Lib.hid (fun V hV => two_new hY1 hV)
        have bY1 : Hid (Below X0.heap.size X0 Y1) := Lib.hid (by rw [← hY1]; exact below_alloc1 _ _)
        have tY1 : Hid (Below wc.heap.size wc Y1) := Lib.hid (tX0.out.trans (bY1.out.mono tX0.out.size))
        obtain ⟨ma, hma⟩ : ∃ m, X0.heap.size = m := ⟨_, rfl⟩
        rw [hY1, hma]
        rw [hma] at nY1
        refine hK.out _ _ (KK.out _ tY1.out) (fun _ => ?_)
        clear hK K hY1 hma
        refine wpAnyH_ready (rs := [6, 9]) (by kernel_rfl) (by simp) ?_
        refine AllReadyH.cons rfl (fun K hK => ?_) (AllReadyH.cons rfl (fun K hK => ?_) AllReadyH.nil)
        · obtain ⟨c0a, c1a⟩ := nY1.out Y1 (Below.refl _ _)
          go_simp
          go_at_call 66
          refine (cg ma _ c0a c1a).mono ?_
          rintro e Wz ⟨rfl, hWz⟩
          rw [hWz]
          clear hWz Wz
          refine hK.out _ _ (KK.out _ tY1.out) (fun _ => ?_)
          clear hK K
          refine wpAnyH_ready (rs := [9]) (by kernel_rfl) (by simp) ?_
          refine AllReadyH.cons rfl (fun K hK => ?_) AllReadyH.nil
          go_simp
          obtain ⟨Y2, hY2⟩ : ∃ V, Y1.alloc (.cells #[.int .i64 l, .int .i64 32] 3) = V := ⟨_, rfl⟩
          have nY2 : Hid (∀ V, Below Y2.heap.size Y2 V → V.cell? ⟨Y1.heap.size, 0, none⟩ = some (.int .i64 l) ∧ V.cell? ⟨Y1.heap.size, 1, none⟩ = some (.int .i64 32)) := Lib.hid (fun V hV => two_new hY2 hV)
          have bY2 : Hid (Below Y1.heap.size Y1 Y2) := Lib.hid (by rw [← hY2]; exact below_alloc1 _ _)
          have tY2 : Hid (Below wc.heap.size wc Y2) := Lib.hid (tY1.out.trans (bY2.out.mono tY1.out.size))
          obtain ⟨mb, hmb⟩ : ∃ m, Y1.heap.size = m := ⟨_, rfl⟩
          rw [hY2, hmb]
          rw [hmb] at nY2
          refine hK.out _ _ (KK.out _ tY2.out) (fun _ => ?_)
          clear hK K hY2 hmb
          refine wpAnyH_ready (rs := [10]) (by kernel_rfl) (by simp) ?_
          refine AllReadyH.cons rfl (fun K hK => ?_) AllReadyH.nil
          obtain ⟨c0b, c1b⟩ := nY2.out Y2 (Below.refl _ _)
          go_simp
          go_at_call 66
          refine (cl mb _ c0b c1b).mono ?_
          rintro e Wz ⟨rfl, hWz⟩
          rw [hWz]
          clear hWz Wz
          refine hK.out _ _ (KK.out _ tY2.out) (fun _ => ?_)
          clear hK K
          refine wpAnyH_ready (rs := [11]) (by kernel_rfl) (by simp) ?_
          refine AllReadyH.cons rfl (fun K hK => ?_) AllReadyH.nil
          go_simp
          refine hK.out _ _ (KK.out _ tY2.out) (fun _ => ?_)
          clear hK K
          refine wpAnyH_ready (rs := [12]) (by kernel_rfl) (by simp) ?_
          refine AllReadyH.cons rfl (fun K hK => ?_) AllReadyH.nil
          go_simp
          refine hK.out _ _ (KK.out _ tY2.out) (fun _ => ?_)
          clear hK K
          refine wpAnyH_done (by kernel_rfl) ?_ _
          go_wp2
          go_ret2
          exact ⟨rfl, hb0.out.trans (tY2.out.mono (by omega))⟩
        · go_simp
          obtain ⟨Y3, hY3⟩ : ∃ V, Y1.alloc (.cells #[.int .i64 l, .int .i64 32] 3) = V := ⟨_, rfl⟩
          have nY3 : Hid (∀ V, Below Y3.heap.size Y3 V → V.cell? ⟨Y1.heap.size, 0, none⟩ = some (.int .i64 l) ∧ V.cell? ⟨Y1.heap.size, 1, none⟩ = some (.int .i64 32)) := Lib.hid (fun V hV => two_new hY3 hV)
          have bY3 : Hid (Below Y1.heap.size Y1 Y3) := Lib.hid (by rw [← hY3]; exact below_alloc1 _ _)
          have tY3 : Hid (Below wc.heap.size wc Y3) := Lib.hid (tY1.out.trans (bY3.out.mono tY1.out.size))
          obtain ⟨mb, hmb⟩ : ∃ m, Y1.heap.size = m := ⟨_, rfl⟩
          rw [hY3, hmb]
          rw [hmb] at nY3
          refine hK.out _ _ (KK.out _ tY3.out) (fun _ => ?_)
          clear hK K hY3 hmb
          refine wpAnyH_ready (rs := [6]) (by kernel_rfl) (by simp) ?_
          refine AllReadyH.cons rfl (fun K hK => ?_) AllReadyH.nil
          obtain ⟨c0a, c1a⟩ := nY1.out Y3 (bY3.out.mono (Nat.le_refl _))
          go_simp
          go_at_call 66
          refine (cg ma _ c0a c1a).mono ?_
          rintro e Wz ⟨rfl, hWz⟩
          rw [hWz]
          clear hWz Wz
          refine hK.out _ _ (KK.out _ tY3.out) (fun _ => ?_)
          clear hK K
          refine wpAnyH_ready (rs := [10]) (by kernel_rfl) (by simp) ?_
          refine AllReadyH.cons rfl (fun K hK => ?_) AllReadyH.nil
          obtain ⟨c0b, c1b⟩ := nY3.out Y3 (Below.refl _ _)
          go_simp
          go_at_call 66
          refine (cl mb _ c0b c1b).mono ?_
          rintro e Wz ⟨rfl, hWz⟩
          rw [hWz]
          clear hWz Wz
          refine hK.out _ _ (KK.out _ tY3.out) (fun _ => ?_)
          clear hK K
          refine wpAnyH_ready (rs := [11]) (by kernel_rfl) (by simp) ?_
          refine AllReadyH.cons rfl (fun K hK => ?_) AllReadyH.nil
          go_simp
          refine hK.out _ _ (KK.out _ tY3.out) (fun _ => ?_)
          clear hK K
          refine wpAnyH_ready (rs := [12]) (by kernel_rfl) (by simp) ?_
          refine AllReadyH.cons rfl (fun K hK => ?_) AllReadyH.nil
          go_simp
          refine hK.out _ _ (KK.out _ tY3.out) (fun _ => ?_)
          clear hK K
          refine wpAnyH_done (by kernel_rfl) ?_ _
          go_wp2
          go_ret2
          exact ⟨rfl, hb0.out.trans (tY3.out.mono (by omega))⟩
      · go_simp
        obtain ⟨Y4, hY4⟩ : ∃ V, X0.alloc (.cells #[.int .i64 l, .int .i64 32] 3) = V := ⟨_, rfl⟩
        have nY4 : Hid (∀ V, Below Y4.heap.size Y4 V → V.cell? ⟨X0.heap.size, 0, none⟩ = some (.int .i64 l) ∧ V.cell? ⟨X0.heap.size, 1, none⟩ = some (.int .i64 32)) := Lib.hid (fun V hV => two_new hY4 hV)
        have bY4 : Hid (Below X0.heap.size X0 Y4) := Lib.hid (by rw [← hY4]; exact below_alloc1 _ _)
        have tY4 : Hid (Below wc.heap.size wc Y4) := Lib.hid (tX0.out.trans (bY4.out.mono tX0.out.size))
        obtain ⟨mb, hmb⟩ : ∃ m, X0.heap.size = m := ⟨_, rfl⟩
        rw [hY4, hmb]
        rw [hmb] at nY4
        refine hK.out _ _ (KK.out _ tY4.out) (fun _ => ?_)
        clear hK K hY4 hmb
        refine wpAnyH_ready (rs := [5]) (by kernel_rfl) (by simp) ?_
        refine AllReadyH.cons rfl (fun K hK => ?_) AllReadyH.nil
        go_simp
        obtain ⟨Y5, hY5⟩ : ∃ V, Y4.alloc (.cells #[.int .i64 g, .int .i64 N] 3) = V := ⟨_, rfl⟩
        have nY5 : Hid (∀ V, Below Y5.heap.size Y5 V → V.cell? ⟨Y4.heap.size, 0, none⟩ = some (.int .i64 g) ∧ V.cell? ⟨Y4.heap.size, 1, none⟩ = some (.int .i64 N)) := Lib.hid (fun V hV => two_new hY5 hV)
        have bY5 : Hid (Below Y4.heap.size Y4 Y5) := Lib.hid (by rw [← hY5]; exact below_alloc1 _ _)
        have tY5 : Hid (Below wc.heap.size wc Y5) := Lib.hid (tY4.out.trans (bY5.out.mono tY4.out.size))
        obtain ⟨ma, hma⟩ : ∃ m, Y4.heap.size = m := ⟨_, rfl⟩
        rw [hY5, hma]
        rw [hma] at nY5
        refine hK.out _ _ (KK.out _ tY5.out) (fun _ => ?_)
        clear hK K hY5 hma
        refine wpAnyH_ready (rs := [6]) (by kernel_rfl) (by simp) ?_
        refine AllReadyH.cons rfl (fun K hK => ?_) AllReadyH.nil
        obtain ⟨c0a, c1a⟩ := nY5.out Y5 (Below.refl _ _)
        go_simp
        go_at_call 66
        refine (cg ma _ c0a c1a).mono ?_
        rintro e Wz ⟨rfl, hWz⟩
        rw [hWz]
        clear hWz Wz
        refine hK.out _ _ (KK.out _ tY5.out) (fun _ => ?_)
        clear hK K
        refine wpAnyH_ready (rs := [10]) (by kernel_rfl) (by simp) ?_
        refine AllReadyH.cons rfl (fun K hK => ?_) AllReadyH.nil
        obtain ⟨c0b, c1b⟩ := nY4.out Y5 (bY5.out.mono (Nat.le_refl _))
        go_simp
        go_at_call 66
        refine (cl mb _ c0b c1b).mono ?_
        rintro e Wz ⟨rfl, hWz⟩
        rw [hWz]
        clear hWz Wz
        refine hK.out _ _ (KK.out _ tY5.out) (fun _ => ?_)
        clear hK K
        refine wpAnyH_ready (rs := [11]) (by kernel_rfl) (by simp) ?_
        refine AllReadyH.cons rfl (fun K hK => ?_) AllReadyH.nil
        go_simp
        refine hK.out _ _ (KK.out _ tY5.out) (fun _ => ?_)
        clear hK K
        refine wpAnyH_ready (rs := [12]) (by kernel_rfl) (by simp) ?_
        refine AllReadyH.cons rfl (fun K hK => ?_) AllReadyH.nil
        go_simp
        refine hK.out _ _ (KK.out _ tY5.out) (fun _ => ?_)
        clear hK K
        refine wpAnyH_done (by kernel_rfl) ?_ _
        go_wp2
        go_ret2
        exact ⟨rfl, hb0.out.trans (tY5.out.mono (by omega))⟩
end Go.Proofs.Ytmcjpibahnlmbaa
