/-
  The walk of the law SpfTold. No statement is proved here; no conditions.
-/
import Derived.Test.YtkpmdfgjaodlaaaToldA
import Derived.Test.YtkpmdfgjaodlaaaAlive
namespace Go.Proofs.Ytkpmdfgjaodlaaa
open Go.RowKit Go.Joins

/-- The copy of a graph: block bo. -/
def Owned (N : Int) (E : List Ed) (W0 : World) (bo : Nat) (A' : Option Addr) (c' : Nat) (wx : World) : Prop :=
  W0.heap.size ≤ bo ∧ wx.heap[bo]? = some (.cells #[.int .i64 N, .slice A' E.length c'] 24 (0, 0)) ∧ Rd (· < wx.heap.size) wx A' (eflat E) ∧ Below W0.heap.size W0 wx

set_option maxRecDepth 100000 in
set_option maxHeartbeats 8000000 in
theorem told_walk (N root : Int) (A : Option Addr) (c : Nat) (E : List Ed) (W : World) (hE : Rd (· < W.heap.size) W A (eflat E)) :
    Calls Try.prog 3 #[gv N A E.length c, .int .i64 root] W fun e W' => e = .returned (.bool true) ∧ Below W.heap.size W W' := by
  obtain ⟨W0, hW0⟩ : ∃ W0, W.alloc (.cells #[.int .i64 N, .slice A E.length c] 24) = W0 := ⟨_, rfl⟩
  have hs0 : W0.heap.size = W.heap.size + 1 := by rw [← hW0]; simp
  have b0 : Below W.heap.size W W0 := by rw [← hW0]; exact below_alloc1 _ _
  have h0 : W0.heap[W.heap.size]? = some (.cells #[.int .i64 N, .slice A E.length c] 24 (0, 0)) := by rw [← hW0]; exact Go.heap_alloc_new _ _
  obtain ⟨c0, c1, _, _⟩ := blk2 h0
  have HE0 := Lib.hid (hE.grow b0)
  have HB0 := Lib.hid b0
  have H0 := Lib.hid h0
  clear b0 h0 hE
  by_cases hlen : E.length > 410
  · have h1 : decide ((E.length : Int) > 410) = true := by simp; omega
    go_enter Try.func3, Try.ntmps3
    go_wp2_with fail
    refine (alive_any _).mono ?_
    rintro e W1 ⟨rfl, h1⟩
    have B1 := Lib.hid (HB0.out.trans (h1.mono (by omega)))
    clear h1
    go_wp2
    go_ret
    exact ⟨rfl, B1.out⟩
  · have h1 : decide ((E.length : Int) > 410) = false := by simp; omega
    have hlE : E.length ≤ 410 := by omega
    obtain ⟨l, er, hll, dc, dr⟩ := dist_u N root E hlE
    obtain ⟨H, eh, hHN, hHl, pc, pr⟩ := hops_u N root E hlE
    have Dc := Lib.hid dc
    have Dr := Lib.hid dr
    have Pc := Lib.hid pc
    have Pr := Lib.hid pr
    have HHL := Lib.hid hHl
    have Sof0 : Hid (∀ V : World, Below W0.heap.size W0 V → V.cell? ⟨W.heap.size, 0, none⟩ = some (.int .i64 N) ∧ V.cell? ⟨W.heap.size, 1, none⟩ = some (.slice A E.length c)) := Lib.hid (fun V bV => by
      obtain ⟨p0, p1, _, _⟩ := blk2 ((bV.block _ (by omega)).trans H0.out)
      exact ⟨p0, p1⟩)
    have RE : Hid (∀ V : World, Below W0.heap.size W0 V → Rd (· < V.heap.size) V A (eflat E)) := Lib.hid (fun V bV => HE0.out.grow bV)
    have RE0 : Hid (∀ V : World, Below W0.heap.size W0 V → Rd (· < W0.heap.size) V A (eflat E)) := Lib.hid (fun V bV => HE0.out.below bV (fun j hj _ => hj))
    have BD : Hid (Below W0.heap.size W0 W0.drew) := Lib.hid ⟨rfl, rfl, rfl, Nat.le_refl _, fun _ _ => rfl⟩
    clear hlen HE0 H0 dc dr pc pr hHl
    go_enter Try.func3, Try.ntmps3
    go_upto_region 3 with fail
    clear hW0
    go_cut [5] (fun s5 wx => ∃ bo A' c', s5 = .pointer (some ⟨bo, 0, none⟩) ∧ Hid (Owned N E W0 bo A' c' wx))
    case first =>
      refine wp_region_held_drew (S := fun V => V.cell? ⟨W.heap.size, 0, none⟩ = some (.int .i64 N) ∧ V.cell? ⟨W.heap.size, 1, none⟩ = some (.slice A E.length c)) (by kernel_rfl) (Sof0.out _ BD.out) (fun hHeld => ?_)
      refine wpAnyH_take (i := 0) (v := ?_) rfl (by kernel_rfl) (by kernel_rfl) (by kernel_rfl) (fun _ _ _ h => h) (Or.inl ⟨by rfl, ?_⟩) (by assumption) ?_
      rotate_left
      · (intro w' hSw; (try dsimp only at hSw); go_simp; try with_reducible rfl)
      simp only [Act.put, List.getElem_toArray, List.getElem_cons_zero, List.setIfInBounds_toArray, List.set_cons_zero, List.set_cons_succ]
      refine wpAnyH_take (i := 1) (v := ?_) rfl (by kernel_rfl) (by kernel_rfl) (by kernel_rfl) (fun _ _ _ h => h) (Or.inl ⟨by rfl, ?_⟩) (by assumption) ?_
      rotate_left
      · (intro w' hSw; (try dsimp only at hSw); go_simp; try with_reducible rfl)
      simp only [Act.put, List.getElem_toArray, List.getElem_cons_zero, List.getElem_cons_succ, List.setIfInBounds_toArray, List.set_cons_zero, List.set_cons_succ]
      refine wpAnyH_take (i := 3) (v := ?_) rfl (by kernel_rfl) (by kernel_rfl) (by kernel_rfl) (fun _ _ _ h => h) (Or.inl ⟨by rfl, ?_⟩) (by assumption) ?_
      rotate_left
      · (intro w' hSw; (try dsimp only at hSw); go_simp; try with_reducible rfl)
      simp only [Act.put, List.getElem_toArray, List.getElem_cons_zero, List.getElem_cons_succ, List.setIfInBounds_toArray, List.set_cons_zero, List.set_cons_succ]
      refine wpAnyH_take (i := 4) (v := ?_) rfl (by kernel_rfl) (by kernel_rfl) (by kernel_rfl) (fun _ _ _ h => h) (Or.inl ⟨by rfl, ?_⟩) (by assumption) ?_
      rotate_left
      · (intro w' hSw; (try dsimp only at hSw); go_simp; try with_reducible rfl)
      simp only [Act.put, List.getElem_toArray, List.getElem_cons_zero, List.getElem_cons_succ, List.setIfInBounds_toArray, List.set_cons_zero, List.set_cons_succ]
      obtain ⟨X0, hX0⟩ : ∃ X0, W0.drew = X0 := ⟨_, rfl⟩
      have bX0 : Below W0.heap.size W0 X0 := by rw [← hX0]; exact BD.out
      have hsX0 : X0.heap.size = W.heap.size + 1 := by rw [← hX0]; exact hs0
      rw [hX0]
      clear hX0 hHeld c0 c1
      refine wpAnyH_ready (rs := [2, 7]) (by kernel_rfl) (by simp) ?_
      refine AllReadyH.cons rfl (fun K hK => ?_) (AllReadyH.cons rfl (fun K hK => ?_) AllReadyH.nil)
      · go_simp
        obtain ⟨X1, hX1⟩ : ∃ V, X0.alloc (.cells #[] 50) = V := ⟨_, rfl⟩
        have hnX1 : X1.heap[W.heap.size + 1]? = some (.cells #[] 50 (0, 0)) := by rw [← hX1, ← hsX0]; exact Go.heap_alloc_new _ _
        have hsX1 : X1.heap.size = W.heap.size + 2 := by rw [← hX1]; simp [hsX0]
        have bbX1 : Below X0.heap.size X0 X1 := by rw [← hX1]; exact below_alloc1 _ _
        have bX1 : Below W0.heap.size W0 X1 := bX0.trans (bbX1.mono (by omega))
        rw [hX1]
        refine hK.out _ _ (Sof0.out _ bX1) (fun _ => ?_)
        clear hK K hX1
        have rg : Rg 50 3 X1 (W.heap.size + 1) 0 [] := ⟨_, hnX1, by simp, by unfold maxLen; omega, rfl, rfl⟩
        refine wpAnyH_ready (rs := [5, 7]) (by kernel_rfl) (by simp) ?_
        refine AllReadyH.cons rfl (fun K hK => ?_) (AllReadyH.cons rfl (fun K hK => ?_) AllReadyH.nil)
        · obtain ⟨A', c', X2, r1, r2, kX2⟩ := own_app (c := c) rg (RE0.out _ bX1) hlE
          have ssX2 := kX2.size
          have bX2 : Below W0.heap.size W0 X2 := bX1.trans (kX2.below (fun j hj => by omega) (by omega))
          refine step_runb _ rfl (.tmp 21) (.tmp 23) 22 rfl rfl rfl r1 ?_
          refine hK.out _ _ (Sof0.out _ bX2) (fun _ => ?_)
          clear hK K r1
          refine wpAnyH_take (i := 6) (v := ?_) rfl (by kernel_rfl) (by kernel_rfl) (by kernel_rfl) (fun _ _ _ h => h) (Or.inl ⟨by rfl, ?_⟩) (by assumption) ?_
          rotate_left
          · (intro w' hSw; (try dsimp only at hSw); go_simp; try with_reducible rfl)
          simp only [Act.put, List.getElem_toArray, List.getElem_cons_zero, List.getElem_cons_succ, List.setIfInBounds_toArray, List.set_cons_zero, List.set_cons_succ]
          obtain ⟨n2, hn2⟩ : ∃ n2, X2.heap.size = W.heap.size + n2 := ⟨X2.heap.size - W.heap.size, by omega⟩
          refine wpAnyH_ready (rs := [7]) (by kernel_rfl) (by simp) ?_
          refine AllReadyH.cons rfl (fun K hK => ?_) AllReadyH.nil
          go_simp
          obtain ⟨X3, hX3⟩ : ∃ V, X2.alloc (.cells #[.int .i64 0, .slice none 0 0] 24) = V := ⟨_, rfl⟩
          have hz : X3.heap[W.heap.size + n2]? = some (.cells #[.int .i64 0, .slice none 0 0] 24 (0, 0)) := by rw [← hX3, ← hn2]; exact Go.heap_alloc_new _ _
          have hsX3 : X3.heap.size = W.heap.size + n2 + 1 := by rw [← hX3]; simp [hn2]
          have bbX3 : Below X2.heap.size X2 X3 := by rw [← hX3]; exact below_alloc1 _ _
          have bX3 : Below W0.heap.size W0 X3 := bX2.trans (bbX3.mono (by omega))
          have rp : Rd (fun j => j < W.heap.size + n2) X3 A' (eflat E) := (r2.below bbX3 (fun j hj _ => hj.2)).more (fun j hj _ => by omega)
          rw [hX3]
          refine hK.out _ _ (Sof0.out _ bX3) (fun _ => ?_)
          clear hK K hX3 bbX3 r2 kX2
          refine wpAnyH_ready (rs := [8]) (by kernel_rfl) (by simp) ?_
          refine AllReadyH.cons rfl (fun K hK => ?_) AllReadyH.nil
          obtain ⟨y0, y1, y2, y3⟩ := blk2 hz
          have fin := blk2_set (.int .i64 N) (.slice A' E.length c') hz
          have kf : Kp (fun j => j = W.heap.size + n2) X3 ((X3.setCell ⟨W.heap.size + n2, 0, none⟩ (.int .i64 N)).setCell ⟨W.heap.size + n2, 1, none⟩ (.slice A' E.length c')) := (Kp.setCell (S := fun j => j = W.heap.size + n2) X3 ⟨W.heap.size + n2, 0, none⟩ (.int .i64 N) rfl).then_set ⟨W.heap.size + n2, 1, none⟩ _ rfl
          have bf : Below W0.heap.size W0 ((X3.setCell ⟨W.heap.size + n2, 0, none⟩ (.int .i64 N)).setCell ⟨W.heap.size + n2, 1, none⟩ (.slice A' E.length c')) := bX3.trans (kf.below (fun j hj => by omega) (by omega))
          have OW : Hid (Owned N E W0 (W.heap.size + n2) A' c' ((X3.setCell ⟨W.heap.size + n2, 0, none⟩ (.int .i64 N)).setCell ⟨W.heap.size + n2, 1, none⟩ (.slice A' E.length c'))) := Lib.hid ⟨by omega, fin, (rp.kp kf (fun j hj => by omega)).more (fun j _ hl => hl), bf⟩
          have SF := Lib.hid (Sof0.out _ bf)
          clear fin kf bf rp
          go_simp
          refine hK.out _ _ SF.out (fun _ => ?_)
          clear hK K
          refine wpAnyH_done (by kernel_rfl) ?_ _
          go_wp2_with fail
          go_meet
          exact ⟨_, A', c', rfl, OW⟩
        · go_simp
          obtain ⟨X2, hX2⟩ : ∃ V, X1.alloc (.cells #[.int .i64 0, .slice none 0 0] 24) = V := ⟨_, rfl⟩
          have hnX2 : X2.heap[W.heap.size + 2]? = some (.cells #[.int .i64 0, .slice none 0 0] 24 (0, 0)) := by rw [← hX2, ← hsX1]; exact Go.heap_alloc_new _ _
          have hsX2 : X2.heap.size = W.heap.size + 3 := by rw [← hX2]; simp [hsX1]
          have bbX2 : Below X1.heap.size X1 X2 := by rw [← hX2]; exact below_alloc1 _ _
          have bX2 : Below W0.heap.size W0 X2 := bX1.trans (bbX2.mono (by omega))
          rw [hX2]
          refine hK.out _ _ (Sof0.out _ bX2) (fun _ => ?_)
          clear hK K hX2
          have rg := rg.below' bbX2
          refine wpAnyH_ready (rs := [5]) (by kernel_rfl) (by simp) ?_
          refine AllReadyH.cons rfl (fun K hK => ?_) AllReadyH.nil
          obtain ⟨A', c', X3, r1, r2, kX3⟩ := own_app (c := c) rg (RE0.out _ bX2) hlE
          have ssX3 := kX3.size
          have bX3 : Below W0.heap.size W0 X3 := bX2.trans (kX3.below (fun j hj => by omega) (by omega))
          refine step_runb _ rfl (.tmp 21) (.tmp 23) 22 rfl rfl rfl r1 ?_
          refine hK.out _ _ (Sof0.out _ bX3) (fun _ => ?_)
          clear hK K r1
          refine wpAnyH_take (i := 6) (v := ?_) rfl (by kernel_rfl) (by kernel_rfl) (by kernel_rfl) (fun _ _ _ h => h) (Or.inl ⟨by rfl, ?_⟩) (by assumption) ?_
          rotate_left
          · (intro w' hSw; (try dsimp only at hSw); go_simp; try with_reducible rfl)
          simp only [Act.put, List.getElem_toArray, List.getElem_cons_zero, List.getElem_cons_succ, List.setIfInBounds_toArray, List.set_cons_zero, List.set_cons_succ]
          have hz := (kX3.block (W.heap.size + 2) (by omega) (by omega)).trans hnX2
          have rp : Rd (fun j => j ≠ W.heap.size + 2) X3 A' (eflat E) := r2.more (fun j hj _ => by omega)
          clear r2 kX3
          refine wpAnyH_ready (rs := [8]) (by kernel_rfl) (by simp) ?_
          refine AllReadyH.cons rfl (fun K hK => ?_) AllReadyH.nil
          obtain ⟨y0, y1, y2, y3⟩ := blk2 hz
          have fin := blk2_set (.int .i64 N) (.slice A' E.length c') hz
          have kf : Kp (fun j => j = W.heap.size + 2) X3 ((X3.setCell ⟨W.heap.size + 2, 0, none⟩ (.int .i64 N)).setCell ⟨W.heap.size + 2, 1, none⟩ (.slice A' E.length c')) := (Kp.setCell (S := fun j => j = W.heap.size + 2) X3 ⟨W.heap.size + 2, 0, none⟩ (.int .i64 N) rfl).then_set ⟨W.heap.size + 2, 1, none⟩ _ rfl
          have bf : Below W0.heap.size W0 ((X3.setCell ⟨W.heap.size + 2, 0, none⟩ (.int .i64 N)).setCell ⟨W.heap.size + 2, 1, none⟩ (.slice A' E.length c')) := bX3.trans (kf.below (fun j hj => by omega) (by omega))
          have OW : Hid (Owned N E W0 (W.heap.size + 2) A' c' ((X3.setCell ⟨W.heap.size + 2, 0, none⟩ (.int .i64 N)).setCell ⟨W.heap.size + 2, 1, none⟩ (.slice A' E.length c'))) := Lib.hid ⟨by omega, fin, (rp.kp kf (fun j hj => by omega)).more (fun j _ hl => hl), bf⟩
          have SF := Lib.hid (Sof0.out _ bf)
          clear fin kf bf rp
          go_simp
          refine hK.out _ _ SF.out (fun _ => ?_)
          clear hK K
          refine wpAnyH_done (by kernel_rfl) ?_ _
          go_wp2_with fail
          go_meet
          exact ⟨_, A', c', rfl, OW⟩
      · go_simp
        obtain ⟨X1, hX1⟩ : ∃ V, X0.alloc (.cells #[.int .i64 0, .slice none 0 0] 24) = V := ⟨_, rfl⟩
        have hnX1 : X1.heap[W.heap.size + 1]? = some (.cells #[.int .i64 0, .slice none 0 0] 24 (0, 0)) := by rw [← hX1, ← hsX0]; exact Go.heap_alloc_new _ _
        have hsX1 : X1.heap.size = W.heap.size + 2 := by rw [← hX1]; simp [hsX0]
        have bbX1 : Below X0.heap.size X0 X1 := by rw [← hX1]; exact below_alloc1 _ _
        have bX1 : Below W0.heap.size W0 X1 := bX0.trans (bbX1.mono (by omega))
        rw [hX1]
        refine hK.out _ _ (Sof0.out _ bX1) (fun _ => ?_)
        clear hK K hX1
        refine wpAnyH_ready (rs := [2]) (by kernel_rfl) (by simp) ?_
        refine AllReadyH.cons rfl (fun K hK => ?_) AllReadyH.nil
        go_simp
        obtain ⟨X2, hX2⟩ : ∃ V, X1.alloc (.cells #[] 50) = V := ⟨_, rfl⟩
        have hnX2 : X2.heap[W.heap.size + 2]? = some (.cells #[] 50 (0, 0)) := by rw [← hX2, ← hsX1]; exact Go.heap_alloc_new _ _
        have hsX2 : X2.heap.size = W.heap.size + 3 := by rw [← hX2]; simp [hsX1]
        have bbX2 : Below X1.heap.size X1 X2 := by rw [← hX2]; exact below_alloc1 _ _
        have bX2 : Below W0.heap.size W0 X2 := bX1.trans (bbX2.mono (by omega))
        rw [hX2]
        refine hK.out _ _ (Sof0.out _ bX2) (fun _ => ?_)
        clear hK K hX2
        have rg : Rg 50 3 X2 (W.heap.size + 2) 0 [] := ⟨_, hnX2, by simp, by unfold maxLen; omega, rfl, rfl⟩
        refine wpAnyH_ready (rs := [5]) (by kernel_rfl) (by simp) ?_
        refine AllReadyH.cons rfl (fun K hK => ?_) AllReadyH.nil
        obtain ⟨A', c', X3, r1, r2, kX3⟩ := own_app (c := c) rg (RE0.out _ bX2) hlE
        have ssX3 := kX3.size
        have bX3 : Below W0.heap.size W0 X3 := bX2.trans (kX3.below (fun j hj => by omega) (by omega))
        refine step_runb _ rfl (.tmp 21) (.tmp 23) 22 rfl rfl rfl r1 ?_
        refine hK.out _ _ (Sof0.out _ bX3) (fun _ => ?_)
        clear hK K r1
        refine wpAnyH_take (i := 6) (v := ?_) rfl (by kernel_rfl) (by kernel_rfl) (by kernel_rfl) (fun _ _ _ h => h) (Or.inl ⟨by rfl, ?_⟩) (by assumption) ?_
        rotate_left
        · (intro w' hSw; (try dsimp only at hSw); go_simp; try with_reducible rfl)
        simp only [Act.put, List.getElem_toArray, List.getElem_cons_zero, List.getElem_cons_succ, List.setIfInBounds_toArray, List.set_cons_zero, List.set_cons_succ]
        have hz := (kX3.block (W.heap.size + 1) (by omega) (by omega)).trans ((bbX2.block _ (by omega)).trans hnX1)
        have rp : Rd (fun j => j ≠ W.heap.size + 1) X3 A' (eflat E) := r2.more (fun j hj _ => by omega)
        clear r2 kX3
        refine wpAnyH_ready (rs := [8]) (by kernel_rfl) (by simp) ?_
        refine AllReadyH.cons rfl (fun K hK => ?_) AllReadyH.nil
        obtain ⟨y0, y1, y2, y3⟩ := blk2 hz
        have fin := blk2_set (.int .i64 N) (.slice A' E.length c') hz
        have kf : Kp (fun j => j = W.heap.size + 1) X3 ((X3.setCell ⟨W.heap.size + 1, 0, none⟩ (.int .i64 N)).setCell ⟨W.heap.size + 1, 1, none⟩ (.slice A' E.length c')) := (Kp.setCell (S := fun j => j = W.heap.size + 1) X3 ⟨W.heap.size + 1, 0, none⟩ (.int .i64 N) rfl).then_set ⟨W.heap.size + 1, 1, none⟩ _ rfl
        have bf : Below W0.heap.size W0 ((X3.setCell ⟨W.heap.size + 1, 0, none⟩ (.int .i64 N)).setCell ⟨W.heap.size + 1, 1, none⟩ (.slice A' E.length c')) := bX3.trans (kf.below (fun j hj => by omega) (by omega))
        have OW : Hid (Owned N E W0 (W.heap.size + 1) A' c' ((X3.setCell ⟨W.heap.size + 1, 0, none⟩ (.int .i64 N)).setCell ⟨W.heap.size + 1, 1, none⟩ (.slice A' E.length c'))) := Lib.hid ⟨by omega, fin, (rp.kp kf (fun j hj => by omega)).more (fun j _ hl => hl), bf⟩
        have SF := Lib.hid (Sof0.out _ bf)
        clear fin kf bf rp
        go_simp
        refine hK.out _ _ SF.out (fun _ => ?_)
        clear hK K
        refine wpAnyH_done (by kernel_rfl) ?_ _
        go_wp2_with fail
        go_meet
        exact ⟨_, A', c', rfl, OW⟩
    case rest =>
      obtain ⟨bo, A', c', rfl, ho⟩ := hcut
      obtain ⟨o1, o2, o3, o4⟩ := ho.out
      have hbo := lt_of_block o2
      have ho4 := o4.size
      have Sof : Hid (∀ V : World, Below wc.heap.size wc V → (V.cell? ⟨W.heap.size, 0, none⟩ = some (.int .i64 N) ∧ V.cell? ⟨W.heap.size, 1, none⟩ = some (.slice A E.length c)) ∧ V.cell? ⟨bo, 0, none⟩ = some (.int .i64 N) ∧ V.cell? ⟨bo, 1, none⟩ = some (.slice A' E.length c')) := Lib.hid (fun V bV => by
        obtain ⟨p0, p1, _, _⟩ := blk2 ((bV.block _ hbo).trans o2)
        exact ⟨Sof0.out V (o4.trans (bV.mono ho4)), p0, p1⟩)
      have RE1 : Hid (∀ V : World, Below wc.heap.size wc V → Rd (· < V.heap.size) V A (eflat E)) := Lib.hid (fun V bV => RE.out V (o4.trans (bV.mono ho4)))
      have RO : Hid (∀ V : World, Below wc.heap.size wc V → Rd (· < V.heap.size) V A' (eflat E)) := Lib.hid (fun V bV => o3.grow bV)
      have O4 := Lib.hid o4
      have BC : Hid (Below wc.heap.size wc wc) := Lib.hid (Below.refl _ _)
      obtain ⟨m, hm⟩ : ∃ m, may N E = m := ⟨_, rfl⟩
      have HM := Lib.hid hm
      have hlE' : E.length ≤ 100000 := by omega
      have hll' : l.length ≤ 100000 := by omega
      clear ho o1 o2 o3 o4 Sof0 RE RE0 BD hs0 hm
      obtain ⟨⟨k0, k1⟩, k2, k3⟩ := Sof.out _ BC.out
      go_wp2_with fail
      refine (Dc.out A' c' wc (RO.out _ BC.out)).mono ?_
      rintro e W1 ⟨A1, c1, rfl, r1, q⟩
      have BW1 := Lib.hid (BC.out.trans (q.mono BC.out.size))
      have R1 := Lib.hid r1
      clear r1
      clear q k0 k1 k2 k3
      obtain ⟨⟨k0, k1⟩, k2, k3⟩ := Sof.out _ BW1.out
      go_wp2_with fail
      refine (plain_any N A E.length c W1).mono ?_
      rintro e W2 ⟨rfl, q⟩
      have BW2 := Lib.hid (BW1.out.trans (q.mono BW1.out.size))
      have R2 := Lib.hid (R1.out.grow q)
      clear R1
      clear q k0 k1 k2 k3
      obtain ⟨⟨k0, k1⟩, k2, k3⟩ := Sof.out _ BW2.out
      go_wp2_with fail
      refine (Dr.out A c W2 (RE1.out _ BW2.out)).mono ?_
      rintro e W3 ⟨A2, c2, rfl, r2, q⟩
      have BW3 := Lib.hid (BW2.out.trans (q.mono BW2.out.size))
      have R3 := Lib.hid (R2.out.grow q)
      have Q3 := Lib.hid r2
      clear R2 r2
      clear q k0 k1 k2 k3
      obtain ⟨⟨k0, k1⟩, k2, k3⟩ := Sof.out _ BW3.out
      go_wp2_with fail
      refine (Pc.out A' c' W3 (RO.out _ BW3.out)).mono ?_
      rintro e W4 ⟨A3, c3, rfl, r4, q⟩
      have BW4 := Lib.hid (BW3.out.trans (q.mono BW3.out.size))
      have R4 := Lib.hid (R3.out.grow q)
      have Q4 := Lib.hid (Q3.out.grow q)
      have P4 := Lib.hid r4
      clear R3 Q3 r4
      clear q k0 k1 k2 k3
      obtain ⟨⟨k0, k1⟩, k2, k3⟩ := Sof.out _ BW4.out
      go_wp2_with fail
      refine (plain_any N A E.length c W4).mono ?_
      rintro e W5 ⟨rfl, q⟩
      have BW5 := Lib.hid (BW4.out.trans (q.mono BW4.out.size))
      have R5 := Lib.hid (R4.out.grow q)
      have Q5 := Lib.hid (Q4.out.grow q)
      have P5 := Lib.hid (P4.out.grow q)
      clear R4 Q4 P4
      clear q k0 k1 k2 k3
      obtain ⟨⟨k0, k1⟩, k2, k3⟩ := Sof.out _ BW5.out
      go_wp2_with fail
      refine (Pr.out A c W5 (RE1.out _ BW5.out)).mono ?_
      rintro e W6 ⟨A4, c4, rfl, r6, q⟩
      have BW6 := Lib.hid (BW5.out.trans (q.mono BW5.out.size))
      have R6 := Lib.hid (R5.out.grow q)
      have Q6 := Lib.hid (Q5.out.grow q)
      have P6 := Lib.hid (P5.out.grow q)
      have T6 := Lib.hid r6
      clear R5 Q5 P5 r6
      clear q k0 k1 k2 k3
      obtain ⟨⟨k0, k1⟩, k2, k3⟩ := Sof.out _ BW6.out
      have BE : Hid (Below wc.heap.size wc W6.drew) := Lib.hid ⟨BW6.out.os, BW6.out.tape, BW6.out.output, BW6.out.size, BW6.out.block⟩
      clear BW1 BW2 BW3 BW4 BW5 Dc Dr Pc Pr
      go_wp2_with fail
      clear k0 k1 k2 k3
      refine wp_region_held_drew (S := fun V => (V.cell? ⟨W.heap.size, 0, none⟩ = some (.int .i64 N) ∧ V.cell? ⟨W.heap.size, 1, none⟩ = some (.slice A E.length c)) ∧ V.cell? ⟨bo, 0, none⟩ = some (.int .i64 N) ∧ V.cell? ⟨bo, 1, none⟩ = some (.slice A' E.length c')) (by kernel_rfl) (Sof.out _ BE.out) (fun hHeld => ?_)
      refine wpAnyH_ready (rs := [0]) (by kernel_rfl) (by simp) ?_
      refine AllReadyH.cons rfl (fun K hK => ?_) AllReadyH.nil
      go_simp
      go_at_call 9
      refine (alive_any _).mono ?_
      rintro e V1 ⟨rfl, q⟩
      have q : Below W6.heap.size W6 V1 := ⟨q.os, q.tape, q.output, q.size, q.block⟩
      have BV1 := Lib.hid (BW6.out.trans (q.mono BW6.out.size))
      have R7 := Lib.hid (R6.out.grow q)
      have Q7 := Lib.hid (Q6.out.grow q)
      have P7 := Lib.hid (P6.out.grow q)
      have T7 := Lib.hid (T6.out.grow q)
      clear q R6 Q6 P6 T6
      refine hK.out _ _ (Sof.out V1 BV1.out) (fun _ => ?_)
      clear hK K
      refine wpAnyH_take (i := 1) (v := ?_) rfl (by kernel_rfl) (by kernel_rfl) (by kernel_rfl) (fun _ _ _ h => h) (Or.inl ⟨by rfl, ?_⟩) (by assumption) ?_
      rotate_left
      · (intro w' hSw; (try dsimp only at hSw); go_simp; try with_reducible rfl)
      simp only [Act.put, List.getElem_toArray, List.getElem_cons_zero, List.getElem_cons_succ, List.setIfInBounds_toArray, List.set_cons_zero, List.set_cons_succ]
      refine wpAnyH_take (i := 2) (v := ?_) rfl (by kernel_rfl) (by kernel_rfl) (by kernel_rfl) (fun _ _ _ h => h) (Or.inl ⟨by rfl, ?_⟩) (by assumption) ?_
      rotate_left
      · (intro w' hSw; (try dsimp only at hSw); go_simp; try with_reducible rfl)
      simp only [Act.put, List.getElem_toArray, List.getElem_cons_zero, List.getElem_cons_succ, List.setIfInBounds_toArray, List.set_cons_zero, List.set_cons_succ]
      refine wpAnyH_take (i := 3) (v := ?_) rfl (by kernel_rfl) (by kernel_rfl) (by kernel_rfl) (fun _ _ _ h => h) (Or.inl ⟨by rfl, ?_⟩) (by assumption) ?_
      rotate_left
      · (intro w' hSw; (try dsimp only at hSw); go_simp; try with_reducible rfl)
      simp only [Act.put, List.getElem_toArray, List.getElem_cons_zero, List.getElem_cons_succ, List.setIfInBounds_toArray, List.set_cons_zero, List.set_cons_succ]
      refine wpAnyH_ready (rs := [4]) (by kernel_rfl) (by simp) ?_
      refine AllReadyH.cons rfl (fun K hK => ?_) AllReadyH.nil
      go_simp
      go_at_call 15
      refine (ints_any A1 A2 c1 c2 l _ _ V1 R7.out Q7.out hll').mono ?_
      rintro e V2 ⟨rfl, q⟩
      have BV2 := Lib.hid (BV1.out.trans (q.mono BV1.out.size))
      have P8 := Lib.hid (P7.out.grow q)
      have T8 := Lib.hid (T7.out.grow q)
      clear q R7 Q7 P7 T7
      refine hK.out _ _ (Sof.out V2 BV2.out) (fun _ => ?_)
      clear hK K
      refine wpAnyH_take (i := 5) (v := ?_) rfl (by kernel_rfl) (by kernel_rfl) (by kernel_rfl) (fun _ _ _ h => h) (Or.inl ⟨by rfl, ?_⟩) (by assumption) ?_
      rotate_left
      · (intro w' hSw; (try dsimp only at hSw); go_simp; try with_reducible rfl)
      simp only [Act.put, List.getElem_toArray, List.getElem_cons_zero, List.getElem_cons_succ, List.setIfInBounds_toArray, List.set_cons_zero, List.set_cons_succ]
      refine wpAnyH_take (i := 6) (v := ?_) rfl (by kernel_rfl) (by kernel_rfl) (by kernel_rfl) (fun _ _ _ h => h) (Or.inl ⟨by rfl, ?_⟩) (by assumption) ?_
      rotate_left
      · (intro w' hSw; (try dsimp only at hSw); go_simp; try with_reducible rfl)
      simp only [Act.put, List.getElem_toArray, List.getElem_cons_zero, List.getElem_cons_succ, List.setIfInBounds_toArray, List.set_cons_zero, List.set_cons_succ]
      refine wpAnyH_take (i := 7) (v := ?_) rfl (by kernel_rfl) (by kernel_rfl) (by kernel_rfl) (fun _ _ _ h => h) (Or.inl ⟨by rfl, ?_⟩) (by assumption) ?_
      rotate_left
      · (intro w' hSw; (try dsimp only at hSw); go_simp; try with_reducible rfl)
      simp only [Act.put, List.getElem_toArray, List.getElem_cons_zero, List.getElem_cons_succ, List.setIfInBounds_toArray, List.set_cons_zero, List.set_cons_succ]
      refine wpAnyH_take (i := 8) (v := ?_) rfl (by kernel_rfl) (by kernel_rfl) (by kernel_rfl) (fun _ _ _ h => h) (Or.inl ⟨by rfl, ?_⟩) (by assumption) ?_
      rotate_left
      · (intro w' hSw; (try dsimp only at hSw); go_simp; try with_reducible rfl)
      simp only [Act.put, List.getElem_toArray, List.getElem_cons_zero, List.getElem_cons_succ, List.setIfInBounds_toArray, List.set_cons_zero, List.set_cons_succ]
      refine wpAnyH_take (i := 9) (v := ?_) rfl (by kernel_rfl) (by kernel_rfl) (by kernel_rfl) (fun _ _ _ h => h) (Or.inl ⟨by rfl, ?_⟩) (by assumption) ?_
      rotate_left
      · (intro w' hSw; (try dsimp only at hSw); go_simp; try with_reducible rfl)
      simp only [Act.put, List.getElem_toArray, List.getElem_cons_zero, List.getElem_cons_succ, List.setIfInBounds_toArray, List.set_cons_zero, List.set_cons_succ]
      refine wpAnyH_take (i := 10) (v := ?_) rfl (by kernel_rfl) (by kernel_rfl) (by kernel_rfl) (fun _ _ _ h => h) (Or.inl ⟨by rfl, ?_⟩) (by assumption) ?_
      rotate_left
      · (intro w' hSw; (try dsimp only at hSw); go_simp; try with_reducible rfl)
      simp only [Act.put, List.getElem_toArray, List.getElem_cons_zero, List.getElem_cons_succ, List.setIfInBounds_toArray, List.set_cons_zero, List.set_cons_succ]
      refine wpAnyH_take (i := 11) (v := ?_) rfl (by kernel_rfl) (by kernel_rfl) (by kernel_rfl) (fun _ _ _ h => h) (Or.inl ⟨by rfl, ?_⟩) (by assumption) ?_
      rotate_left
      · (intro w' hSw; (try dsimp only at hSw); go_simp; try with_reducible rfl)
      simp only [Act.put, List.getElem_toArray, List.getElem_cons_zero, List.getElem_cons_succ, List.setIfInBounds_toArray, List.set_cons_zero, List.set_cons_succ]
      refine wpAnyH_take (i := 12) (v := ?_) rfl (by kernel_rfl) (by kernel_rfl) (by kernel_rfl) (fun _ _ _ h => h) (Or.inl ⟨by rfl, ?_⟩) (by assumption) ?_
      rotate_left
      · (intro w' hSw; (try dsimp only at hSw); go_simp; try with_reducible rfl)
      simp only [Act.put, List.getElem_toArray, List.getElem_cons_zero, List.getElem_cons_succ, List.setIfInBounds_toArray, List.set_cons_zero, List.set_cons_succ]
      refine wpAnyH_take (i := 13) (v := ?_) rfl (by kernel_rfl) (by kernel_rfl) (by kernel_rfl) (fun _ _ _ h => h) (Or.inl ⟨by rfl, ?_⟩) (by assumption) ?_
      rotate_left
      · (intro w' hSw; (try dsimp only at hSw); go_simp; try with_reducible rfl)
      simp only [Act.put, List.getElem_toArray, List.getElem_cons_zero, List.getElem_cons_succ, List.setIfInBounds_toArray, List.set_cons_zero, List.set_cons_succ]
      refine wpAnyH_ready (rs := [14]) (by kernel_rfl) (by simp) ?_
      refine AllReadyH.cons rfl (fun K hK => ?_) AllReadyH.nil
      go_simp
      go_at_call 16
      refine (rows_u A3 A4 c3 c4 H V2 P8.out T8.out HHL.out hHN).mono ?_
      rintro e V3 ⟨rfl, q⟩
      have BV3 := Lib.hid (BV2.out.trans (q.mono BV2.out.size))
      clear q P8 T8
      refine hK.out _ _ (Sof.out V3 BV3.out) (fun _ => ?_)
      clear hK K
      refine wpAnyH_take (i := 15) (v := ?_) rfl (by kernel_rfl) (by kernel_rfl) (by kernel_rfl) (fun _ _ _ h => h) (Or.inl ⟨by rfl, ?_⟩) (by assumption) ?_
      rotate_left
      · (intro w' hSw; (try dsimp only at hSw); go_simp; try with_reducible rfl)
      simp only [Act.put, List.getElem_toArray, List.getElem_cons_zero, List.getElem_cons_succ, List.setIfInBounds_toArray, List.set_cons_zero, List.set_cons_succ]
      refine wpAnyH_take (i := 16) (v := ?_) rfl (by kernel_rfl) (by kernel_rfl) (by kernel_rfl) (fun _ _ _ h => h) (Or.inl ⟨by rfl, ?_⟩) (by assumption) ?_
      rotate_left
      · (intro w' hSw; (try dsimp only at hSw); go_simp; try with_reducible rfl)
      simp only [Act.put, List.getElem_toArray, List.getElem_cons_zero, List.getElem_cons_succ, List.setIfInBounds_toArray, List.set_cons_zero, List.set_cons_succ]
      refine wpAnyH_take (i := 17) (v := ?_) rfl (by kernel_rfl) (by kernel_rfl) (by kernel_rfl) (fun _ _ _ h => h) (Or.inl ⟨by rfl, ?_⟩) (by assumption) ?_
      rotate_left
      · (intro w' hSw; (try dsimp only at hSw); go_simp; try with_reducible rfl)
      simp only [Act.put, List.getElem_toArray, List.getElem_cons_zero, List.getElem_cons_succ, List.setIfInBounds_toArray, List.set_cons_zero, List.set_cons_succ]
      refine wpAnyH_take (i := 18) (v := ?_) rfl (by kernel_rfl) (by kernel_rfl) (by kernel_rfl) (fun _ _ _ h => h) (Or.inl ⟨by rfl, ?_⟩) (by assumption) ?_
      rotate_left
      · (intro w' hSw; (try dsimp only at hSw); go_simp; try with_reducible rfl)
      simp only [Act.put, List.getElem_toArray, List.getElem_cons_zero, List.getElem_cons_succ, List.setIfInBounds_toArray, List.set_cons_zero, List.set_cons_succ]
      refine wpAnyH_take (i := 19) (v := ?_) rfl (by kernel_rfl) (by kernel_rfl) (by kernel_rfl) (fun _ _ _ h => h) (Or.inl ⟨by rfl, ?_⟩) (by assumption) ?_
      rotate_left
      · (intro w' hSw; (try dsimp only at hSw); go_simp; try with_reducible rfl)
      simp only [Act.put, List.getElem_toArray, List.getElem_cons_zero, List.getElem_cons_succ, List.setIfInBounds_toArray, List.set_cons_zero, List.set_cons_succ]
      refine wpAnyH_take (i := 20) (v := ?_) rfl (by kernel_rfl) (by kernel_rfl) (by kernel_rfl) (fun _ _ _ h => h) (Or.inl ⟨by rfl, ?_⟩) (by assumption) ?_
      rotate_left
      · (intro w' hSw; (try dsimp only at hSw); go_simp; try with_reducible rfl)
      simp only [Act.put, List.getElem_toArray, List.getElem_cons_zero, List.getElem_cons_succ, List.setIfInBounds_toArray, List.set_cons_zero, List.set_cons_succ]
      refine wpAnyH_take (i := 21) (v := ?_) rfl (by kernel_rfl) (by kernel_rfl) (by kernel_rfl) (fun _ _ _ h => h) (Or.inl ⟨by rfl, ?_⟩) (by assumption) ?_
      rotate_left
      · (intro w' hSw; (try dsimp only at hSw); go_simp; try with_reducible rfl)
      simp only [Act.put, List.getElem_toArray, List.getElem_cons_zero, List.getElem_cons_succ, List.setIfInBounds_toArray, List.set_cons_zero, List.set_cons_succ]
      refine wpAnyH_take (i := 22) (v := ?_) rfl (by kernel_rfl) (by kernel_rfl) (by kernel_rfl) (fun _ _ _ h => h) (Or.inl ⟨by rfl, ?_⟩) (by assumption) ?_
      rotate_left
      · (intro w' hSw; (try dsimp only at hSw); go_simp; try with_reducible rfl)
      simp only [Act.put, List.getElem_toArray, List.getElem_cons_zero, List.getElem_cons_succ, List.setIfInBounds_toArray, List.set_cons_zero, List.set_cons_succ]
      refine wpAnyH_take (i := 24) (v := ?_) rfl (by kernel_rfl) (by kernel_rfl) (by kernel_rfl) (fun _ _ _ h => h) (Or.inl ⟨by rfl, ?_⟩) (by assumption) ?_
      rotate_left
      · (intro w' hSw; (try dsimp only at hSw); go_simp; try with_reducible rfl)
      simp only [Act.put, List.getElem_toArray, List.getElem_cons_zero, List.getElem_cons_succ, List.setIfInBounds_toArray, List.set_cons_zero, List.set_cons_succ]
      refine wpAnyH_ready (rs := [23]) (by kernel_rfl) (by simp) ?_
      refine AllReadyH.cons rfl (fun K hK => ?_) AllReadyH.nil
      go_simp
      go_at_call 17
      refine (may_any N A c E V3.heap.size V3 (RE1.out _ BV3.out) (Nat.le_refl _) hlE').mono ?_
      rintro e V4 ⟨rfl, q⟩
      have BV4 := Lib.hid (BV3.out.trans (q.mono BV3.out.size))
      rw [HM.out]
      clear q
      refine hK.out _ _ (Sof.out V4 BV4.out) (fun _ => ?_)
      clear hK K
      refine wpAnyH_ready (rs := [25]) (by kernel_rfl) (by simp) ?_
      refine AllReadyH.cons rfl (fun K hK => ?_) AllReadyH.nil
      go_simp
      go_at_call 12
      refine (plain_any N A E.length c V4).mono ?_
      rintro e V5 ⟨rfl, q⟩
      have BV5 := Lib.hid (BV4.out.trans (q.mono BV4.out.size))
      clear q
      refine hK.out _ _ (Sof.out V5 BV5.out) (fun _ => ?_)
      clear hK K
      refine wpAnyH_ready (rs := [26]) (by kernel_rfl) (by simp) ?_
      refine AllReadyH.cons rfl (fun K hK => ?_) AllReadyH.nil
      go_simp
      go_at_call 18
      refine (rmay_any N A c E V5.heap.size V5 (RE1.out _ BV5.out) (Nat.le_refl _) hlE').mono ?_
      rintro e V6 ⟨rfl, q⟩
      have BV6 := Lib.hid (BV5.out.trans (q.mono BV5.out.size))
      rw [HM.out]
      clear q
      refine hK.out _ _ (Sof.out V6 BV6.out) (fun _ => ?_)
      clear hK K
      refine wpAnyH_take (i := 27) (v := ?_) rfl (by kernel_rfl) (by kernel_rfl) (by kernel_rfl) (fun _ _ _ h => h) (Or.inl ⟨by rfl, ?_⟩) (by assumption) ?_
      rotate_left
      · (intro w' hSw; (try dsimp only at hSw); go_simp; try with_reducible rfl)
      simp only [Act.put, List.getElem_toArray, List.getElem_cons_zero, List.getElem_cons_succ, List.setIfInBounds_toArray, List.set_cons_zero, List.set_cons_succ]
      refine wpAnyH_take (i := 28) (v := ?_) rfl (by kernel_rfl) (by kernel_rfl) (by kernel_rfl) (fun _ _ _ h => h) (Or.inl ⟨by rfl, ?_⟩) (by assumption) ?_
      rotate_left
      · (intro w' hSw; (try dsimp only at hSw); go_simp; try with_reducible rfl)
      simp only [Act.put, List.getElem_toArray, List.getElem_cons_zero, List.getElem_cons_succ, List.setIfInBounds_toArray, List.set_cons_zero, List.set_cons_succ]
      refine wpAnyH_take (i := 29) (v := ?_) rfl (by kernel_rfl) (by kernel_rfl) (by kernel_rfl) (fun _ _ _ h => h) (Or.inl ⟨by rfl, ?_⟩) (by assumption) ?_
      rotate_left
      · (intro w' hSw; (try dsimp only at hSw); go_simp; try with_reducible rfl)
      simp only [Act.put, List.getElem_toArray, List.getElem_cons_zero, List.getElem_cons_succ, List.setIfInBounds_toArray, List.set_cons_zero, List.set_cons_succ]
      refine wpAnyH_take (i := 30) (v := ?_) rfl (by kernel_rfl) (by kernel_rfl) (by kernel_rfl) (fun _ _ _ h => h) (Or.inl ⟨by rfl, ?_⟩) (by assumption) ?_
      rotate_left
      · (intro w' hSw; (try dsimp only at hSw); go_simp; try with_reducible rfl)
      simp only [Act.put, List.getElem_toArray, List.getElem_cons_zero, List.getElem_cons_succ, List.setIfInBounds_toArray, List.set_cons_zero, List.set_cons_succ]
      refine wpAnyH_take (i := 32) (v := ?_) rfl (by kernel_rfl) (by kernel_rfl) (by kernel_rfl) (fun _ _ _ h => h) (Or.inl ⟨by rfl, ?_⟩) (by assumption) ?_
      rotate_left
      · (intro w' hSw; (try dsimp only at hSw); go_simp; try with_reducible rfl)
      simp only [Act.put, List.getElem_toArray, List.getElem_cons_zero, List.getElem_cons_succ, List.setIfInBounds_toArray, List.set_cons_zero, List.set_cons_succ]
      refine wpAnyH_ready (rs := [31]) (by kernel_rfl) (by simp) ?_
      refine AllReadyH.cons rfl (fun K hK => ?_) AllReadyH.nil
      go_simp
      go_at_call 12
      refine (plain_any N A' E.length c' V6).mono ?_
      rintro e V7 ⟨rfl, q⟩
      have BV7 := Lib.hid (BV6.out.trans (q.mono BV6.out.size))
      clear q
      refine hK.out _ _ (Sof.out V7 BV7.out) (fun _ => ?_)
      clear hK K
      refine wpAnyH_ready (rs := [33]) (by kernel_rfl) (by simp) ?_
      refine AllReadyH.cons rfl (fun K hK => ?_) AllReadyH.nil
      go_simp
      go_at_call 12
      refine (plain_any N A E.length c V7).mono ?_
      rintro e V8 ⟨rfl, q⟩
      have BV8 := Lib.hid (BV7.out.trans (q.mono BV7.out.size))
      clear q
      refine hK.out _ _ (Sof.out V8 BV8.out) (fun _ => ?_)
      clear hK K
      refine wpAnyH_ready (rs := [34]) (by kernel_rfl) (by simp) ?_
      refine AllReadyH.cons rfl (fun K hK => ?_) AllReadyH.nil
      go_simp
      go_at_call 19
      refine (same_any N A' A c' c E V8 (RO.out _ BV8.out) (RE1.out _ BV8.out) hlE').mono ?_
      rintro e V9 ⟨rfl, q⟩
      have BV9 := Lib.hid (BV8.out.trans (q.mono BV8.out.size))
      clear q
      refine hK.out _ _ (Sof.out V9 BV9.out) (fun _ => ?_)
      clear hK K
      refine wpAnyH_take (i := 35) (v := ?_) rfl (by kernel_rfl) (by kernel_rfl) (by kernel_rfl) (fun _ _ _ h => h) (Or.inl ⟨by rfl, ?_⟩) (by assumption) ?_
      rotate_left
      · (intro w' hSw; (try dsimp only at hSw); go_simp; try with_reducible rfl)
      simp only [Act.put, List.getElem_toArray, List.getElem_cons_zero, List.getElem_cons_succ, List.setIfInBounds_toArray, List.set_cons_zero, List.set_cons_succ]
      refine wpAnyH_take (i := 36) (v := ?_) rfl (by kernel_rfl) (by kernel_rfl) (by kernel_rfl) (fun _ _ _ h => h) (Or.inl ⟨by rfl, ?_⟩) (by assumption) ?_
      rotate_left
      · (intro w' hSw; (try dsimp only at hSw); go_simp; try with_reducible rfl)
      simp only [Act.put, List.getElem_toArray, List.getElem_cons_zero, List.getElem_cons_succ, List.setIfInBounds_toArray, List.set_cons_zero, List.set_cons_succ]
      refine wpAnyH_done (by kernel_rfl) ?_ _
      have F := Lib.hid (HB0.out.trans ((O4.out.mono HB0.out.size).trans (BV9.out.mono (Nat.le_trans HB0.out.size O4.out.size))))
      go_wp2
      go_ret
      exact ⟨rfl, F.out⟩
end Go.Proofs.Ytkpmdfgjaodlaaa
