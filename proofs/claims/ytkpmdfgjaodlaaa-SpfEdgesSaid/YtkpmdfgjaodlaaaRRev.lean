/-
  Contracts of the reference's Reverse. No statement is proved here; no conditions.
-/
import Derived.Test.YtkpmdfgjaodlaaaSame
namespace Go.Proofs.Ytkpmdfgjaodlaaa
open Go.RowKit Go.Joins

/-- A graph with a row of edges of its own. -/
def Edged (w : World) (N : Int) (M : List Ed) (e : Ending) (w' : World) : Prop :=
  ∃ A' g c', e = .returned (gv N A' M.length c') ∧ Ow 50 3 w' A' g c' M.length (eflat M) ∧ (A' ≠ none → w.heap.size ≤ g) ∧ Below w.heap.size w w'
/-- 'out.L' of the reference while it grows; block o holds 'out'. -/
def OL (N : Int) (o : Nat) (wo : World) (M : List Ed) (wx : World) : Prop :=
  ∃ A' g c', wx.heap[o]? = some (.cells #[.int .i64 N, .slice A' M.length c'] 31 (0, 0)) ∧ Ow 50 3 wx A' g c' M.length (eflat M) ∧ (A' ≠ none → o < g) ∧ Below o wo wx ∧ o < wx.heap.size
theorem OL.below {N : Int} {o : Nat} {wo wx wy : World} {M : List Ed} (h : OL N o wo M wx) (k : Below wx.heap.size wx wy) : OL N o wo M wy := by
  obtain ⟨A', g, c', h1, h2, h3, h4, h5⟩ := h
  refine ⟨A', g, c', (k.block _ h5).trans h1, ?_, h3, h4.trans (k.mono (by omega)), Nat.lt_of_lt_of_le h5 k.size⟩
  rcases h2 with ⟨z1, z2 | ⟨z2, z3⟩⟩
  · exact ⟨z1, .inl z2⟩
  · exact ⟨z1, .inr ⟨z2, z3.below' k⟩⟩
/-- One edge more, in a region that draws. -/
theorem OL.app {N : Int} {o : Nat} {wo wx : World} {M : List Ed} (h : OL N o wo M wx) (x : Ed) (hl : M.length ≤ 100000) (n0 : Nat) (hn0 : wx.heap.size = n0) : ∃ A' c', wx.cell? ⟨o, 1, none⟩ = some (.slice A' M.length c') ∧ (wx.alloc (.cells #[.int .i64 x.f, .int .i64 x.t, .int .i64 x.c] 50)).drew.cell? ⟨o, 1, none⟩ = some (.slice A' M.length c') ∧
    ∃ g2 c2 w2, (Builtin.append_ #[22, 22] 22 #[.slice A' M.length c', .slice (some ⟨n0, 0, none⟩) 1 1]).run Try.prog (wx.alloc (.cells #[.int .i64 x.f, .int .i64 x.t, .int .i64 x.c] 50)).drew = .ok (.slice (some ⟨g2, 0, none⟩) (M.length + 1) c2) w2 ∧ w2.cell? ⟨o, 1, none⟩ = some (.slice A' M.length c') ∧ w2.frozen? ⟨o, 1, none⟩ = false ∧
      OL N o wo (M ++ [x]) (w2.setCell ⟨o, 1, none⟩ (.slice (some ⟨g2, 0, none⟩) (M.length + 1) c2)) ∧
      ∀ j, j < o → (wx.alloc (.cells #[.int .i64 x.f, .int .i64 x.t, .int .i64 x.c] 50)).drew.heap[j]? = wx.heap[j]? ∧ w2.heap[j]? = wx.heap[j]? ∧ (w2.setCell ⟨o, 1, none⟩ (.slice (some ⟨g2, 0, none⟩) (M.length + 1) c2)).heap[j]? = wx.heap[j]? := by
  obtain ⟨A', g', c', m1, m2, m3, m4, m5⟩ := h
  subst hn0
  obtain ⟨y0, y1, _, _⟩ := blk2 m1
  obtain ⟨W5, hW5⟩ : ∃ W5, (wx.alloc (.cells #[.int .i64 x.f, .int .i64 x.t, .int .i64 x.c] 50)).drew = W5 := ⟨_, rfl⟩
  have hs5 : W5.heap.size = wx.heap.size + 1 := by rw [← hW5]; show (wx.alloc _).heap.size = _; simp
  have b5 : Below wx.heap.size wx W5 := by
    rw [← hW5]
    have := below_alloc1 wx (.cells #[.int .i64 x.f, .int .i64 x.t, .int .i64 x.c] 50)
    exact ⟨this.os, this.tape, this.output, this.size, this.block⟩
  have src : Rd (· = wx.heap.size) W5 (some ⟨wx.heap.size, 0, none⟩) (eflat [x]) := by
    rw [← hW5]
    exact (show Rg 50 3 (wx.alloc (.cells #[.int .i64 x.f, .int .i64 x.t, .int .i64 x.c] 50)).drew wx.heap.size 1 (eflat [x]) from Rg.lit wx 50 3 1 _ (eflat [x]) rfl (by simp [eflat]) (by unfold maxLen; omega)).rd
  have ow5 : Ow 50 3 W5 A' g' c' M.length (eflat M) := by
    rcases m2 with ⟨z1, z2 | ⟨z2, z3⟩⟩
    · exact ⟨z1, .inl z2⟩
    · exact ⟨z1, .inr ⟨z2, z3.below' b5⟩⟩
  obtain ⟨ti, hi5, hz5, hsz5, hby5⟩ := info50
  obtain ⟨g2, c2, W6, r1, r2, r3, r4⟩ := run_appr (P := Try.prog) W5 22 22 50 ti _ 3 24 Try.underlying22 hi5 hz5 hsz5 hby5 rfl (by omega) (by omega) A' g' c' M.length _ ow5 _ _ 1 1 _ src (by simp [eflat]) (eflat_one [x]) (by omega) (by omega)
  have hA : ∀ j, A' = some ⟨j, 0, none⟩ → o < j := fun j hj => by
    have h5 := m3 (by simp [hj])
    rcases m2 with ⟨_, ⟨z2, _⟩ | ⟨z2, _⟩⟩
    · rw [z2] at hj; cases hj
    · rw [z2] at hj; simp at hj; omega
  have n6 : W6.heap[o]? = some (.cells #[.int .i64 N, .slice A' M.length c'] 31 (0, 0)) := (r3.block _ (by omega) (fun e => by have := hA _ e; omega)).trans ((b5.block _ (by omega)).trans m1)
  obtain ⟨u0, u1, u2, u3⟩ := blk2 n6
  have k6 : Kp (fun j => j = o) W6 (W6.setCell ⟨o, 1, none⟩ (.slice (some ⟨g2, 0, none⟩) (M.length + 1) c2)) := Kp.setCell W6 _ _ rfl
  have hg2 : o < g2 := by
    rcases r4 with e | e
    · exact hA _ e
    · omega
  have hl6 := r3.size
  have hk6 := k6.size
  have c5 : W5.cell? ⟨o, 1, none⟩ = some (.slice A' M.length c') := (World.cell?_of_block (b5.block _ m5)).trans y1
  rw [hW5]
  refine ⟨A', c', y1, c5, g2, c2, W6, r1, u1, u3, ⟨some ⟨g2, 0, none⟩, g2, c2, ?_, ?_, fun _ => hg2, (m4.trans (b5.mono (by omega))).trans ((r3.below (fun j hj => by have := hA j hj; omega) (by omega)).trans (k6.below (fun j hj => by omega) (by omega))), by omega⟩, fun j hj => ⟨b5.block _ (by omega), (r3.block _ (by omega) (fun e => by have := hA _ e; omega)).trans (b5.block _ (by omega)), (k6.block _ (by omega) (by omega)).trans ((r3.block _ (by omega) (fun e => by have := hA _ e; omega)).trans (b5.block _ (by omega)))⟩⟩
  · rw [List.length_append]
    have e1 := setCell_eq_setRow W6 o 1 _ 31 (0, 0) (.slice (some ⟨g2, 0, none⟩) (M.length + 1) c2) n6
    rw [e1, setRow_heap W6 _ _ _ 31 _ n6]
    simp
  · rw [List.length_append, eflat_append]
    exact ⟨by simp [eflat_length, eflat]; omega, .inr ⟨rfl, r2.kp k6 (by omega)⟩⟩

set_option maxRecDepth 100000 in
set_option maxHeartbeats 4000000 in
theorem rreverse_any (N : Int) (A : Option Addr) (c : Nat) (E : List Ed) (w : World) (hE : Rd (· < w.heap.size) w A (eflat E)) (hl : E.length ≤ 100000) :
    Calls Try.prog 25 #[gv N A E.length c] w fun e w' => Edged w N (E.map Ed.rev) e w' := by
  obtain ⟨W0, hW0⟩ : ∃ W0, w.alloc (.cells #[.int .i64 N, .slice A E.length c] 31) = W0 := ⟨_, rfl⟩
  have hs0 : W0.heap.size = w.heap.size + 1 := by rw [← hW0]; simp
  have b0 : Below w.heap.size w W0 := by rw [← hW0]; exact below_alloc1 _ _
  have h0 : W0.heap[w.heap.size]? = some (.cells #[.int .i64 N, .slice A E.length c] 31 (0, 0)) := by rw [← hW0]; exact Go.heap_alloc_new _ _
  obtain ⟨W1, hW1⟩ : ∃ W1, W0.alloc (.cells #[.int .i64 0, .slice none 0 0] 31) = W1 := ⟨_, rfl⟩
  have hs1 : W1.heap.size = w.heap.size + 2 := by rw [← hW1]; simp [hs0]
  have b1 : Below W0.heap.size W0 W1 := by rw [← hW1]; exact below_alloc1 _ _
  have h1 : W1.heap[w.heap.size + 1]? = some (.cells #[.int .i64 0, .slice none 0 0] 31 (0, 0)) := by rw [← hW1, ← hs0]; exact Go.heap_alloc_new _ _
  obtain ⟨W2, hW2⟩ : ∃ W2, W1.alloc (.cells #[.int .i64 N, .slice none 0 0] 31) = W2 := ⟨_, rfl⟩
  have hs2 : W2.heap.size = w.heap.size + 3 := by rw [← hW2]; simp [hs1]
  have b2 : Below W1.heap.size W1 W2 := by rw [← hW2]; exact below_alloc1 _ _
  have h2 : W2.heap[w.heap.size + 2]? = some (.cells #[.int .i64 N, .slice none 0 0] 31 (0, 0)) := by rw [← hW2, ← hs1]; exact Go.heap_alloc_new _ _
  have h01 := (b1.block _ (by omega)).trans h0
  obtain ⟨c0, c1, _, _⟩ := blk2 h01
  have H02 := Lib.hid ((b2.block _ (by omega)).trans h01)
  have H12 := Lib.hid ((b2.block _ (by omega)).trans h1)
  have b02 : Below w.heap.size w W2 := (b0.trans (b1.mono (by omega))).trans (b2.mono (by omega))
  have HE2 := Lib.hid (hE.below b02 (fun j hj _ => hj))
  have HB2 := Lib.hid b02
  have L0 : Hid (OL N (w.heap.size + 2) W2 ((E.take 0).map Ed.rev) W2) := Lib.hid ⟨none, 0, 0, h2, ⟨rfl, .inl ⟨rfl, rfl, rfl⟩⟩, fun h => absurd rfl h, Below.refl _ _, by omega⟩
  have HW2 := Lib.hid hW2
  clear b0 b1 b2 b02 h0 h1 h2 h01 hE hW2
  go_enter Try.func25, Try.ntmps25
  go_wp2_with fail
  rw [HW2.out]
  go_loopg [4] E.length (fun gf v wx => ∃ k, v = .int .i64 ((k : Nat) : Int) ∧ Hid (gf + k = E.length) ∧ Hid (OL N (w.heap.size + 2) W2 ((E.take k).map Ed.rev) wx))
  case atStart => exact ⟨0, rfl, Lib.hid (by omega), L0⟩
  case round =>
    obtain ⟨k, rfl, hk, ho⟩ := hrel
    have hk' := hk.out
    have hbl : Below (w.heap.size + 2) W2 wr := by obtain ⟨_, _, _, _, _, _, h, _⟩ := ho.out; exact h
    have hsr := hbl.size
    have t0 := (hbl.block _ (by omega)).trans H02.out
    have t1 := (hbl.block _ (by omega)).trans H12.out
    obtain ⟨x0, x1, _, _⟩ := blk2 t0
    clear L0
    cases gk with
    | zero =>
      have e1 : k = E.length := by omega
      have lt0 : decide ((k : Int) < (E.length : Int)) = false := by simp; omega
      obtain ⟨A', g', c', m1, m2, m3, m4, m5⟩ := ho.out
      rw [e1, List.take_length] at m1 m2
      obtain ⟨ml, hml⟩ : ∃ ml, (E.map Ed.rev).length = ml := ⟨_, rfl⟩
      rw [hml] at m1 m2
      obtain ⟨p0, p1, _, _⟩ := blk2 m1
      obtain ⟨q0, q1, q2, q3⟩ := blk2 t1
      have fin := blk2_set (.int .i64 N) (.slice A' ml c') t1
      obtain ⟨r0, r1, _, _⟩ := blk2 fin
      have kf : Kp (fun j => j = w.heap.size + 1) wr ((wr.setCell ⟨w.heap.size + 1, 0, none⟩ (.int .i64 N)).setCell ⟨w.heap.size + 1, 1, none⟩ (.slice A' ml c')) := (Kp.setCell (S := fun j => j = w.heap.size + 1) wr ⟨w.heap.size + 1, 0, none⟩ (.int .i64 N) rfl).then_set ⟨w.heap.size + 1, 1, none⟩ _ rfl
      have F : Hid (Edged w N (E.map Ed.rev) (.returned (gv N A' ml c')) ((wr.setCell ⟨w.heap.size + 1, 0, none⟩ (.int .i64 N)).setCell ⟨w.heap.size + 1, 1, none⟩ (.slice A' ml c'))) := Lib.hid (by
        refine ⟨A', g', c', by rw [hml], ?_, fun h => by have := m3 h; omega, HB2.out.trans ((hbl.mono (by omega)).trans (kf.below (fun j hj => by omega) (by omega)))⟩
        rw [hml]
        rcases m2 with ⟨z1, z2 | ⟨z2, z3⟩⟩
        · exact ⟨z1, .inl z2⟩
        · exact ⟨z1, .inr ⟨z2, z3.kp kf (by have := m3 (by rw [z2]; simp); omega)⟩⟩)
      clear kf fin t0 t1 m1 m2 m3 m4 hml ho hbl
      go_wp2
      refine bodyPost_ret (v := gv N A' ml c') (by simp [results, Try.results25, go_sem, r0, r1]) rfl F.out
    | succ gf =>
      have hkl : k < E.length := by omega
      have lt0 : (k : Int) < (E.length : Int) := by omega
      obtain ⟨b, off, hA, hbB, hbs, e0, e1, e2⟩ := (HE2.out.below hbl (fun j hj _ => by omega)).edge hkl
      obtain ⟨x, hx⟩ : ∃ x, ge E k = x := ⟨_, rfl⟩
      rw [hx] at e0 e1 e2
      subst hA
      have hstep : (E.take (k + 1)).map Ed.rev = (E.take k).map Ed.rev ++ [x.rev] := by
        rw [List.take_succ_eq_append_getElem hkl, List.map_append, ← ge_eq hkl, hx]
        rfl
      obtain ⟨M, hM⟩ : ∃ M, (E.take k).map Ed.rev = M := ⟨_, rfl⟩
      have hMl : M.length ≤ 100000 := by rw [← hM]; simp; omega
      rw [hM] at hstep
      have ho' := ho.out
      rw [hM] at ho'
      obtain ⟨A5, c5, p1, p1a, g6, c6, W6, r1, r2, r3, r5, r7⟩ := ho'.app ⟨x.t, x.f, x.c⟩ hMl wr.heap.size rfl
      dsimp only at p1 p1a r1 r7
      have HST := Lib.hid hstep
      have R5 := Lib.hid r5
      have Sof : ∀ V : World, (∀ j, j < w.heap.size + 2 → V.heap[j]? = wr.heap[j]?) → V.cell? ⟨w.heap.size, 1, none⟩ = some (.slice (some ⟨b, off, none⟩) E.length c) ∧ V.cell? ⟨b, off + k * 3, none⟩ = some (.int .i64 x.f) ∧ V.cell? ⟨b, off + k * 3 + 1, none⟩ = some (.int .i64 x.t) ∧ V.cell? ⟨b, off + k * 3 + 2, none⟩ = some (.int .i64 x.c) := fun V hV =>
        ⟨(World.cell?_of_block (hV w.heap.size (by omega))).trans x1, (World.cell?_of_block (hV b (by omega))).trans e0, (World.cell?_of_block (hV b (by omega))).trans e1, (World.cell?_of_block (hV b (by omega))).trans e2⟩
      have S4 := Sof wr.drew (fun _ _ => rfl)
      have S5 := Sof _ (fun j hj => (r7 j hj).1)
      have S6 := Sof _ (fun j hj => (r7 j hj).2.1)
      have S7 := Sof _ (fun j hj => (r7 j hj).2.2)
      clear hbl ho ho' hstep r5 r7 Sof hx t0 t1 hM
      go_wp2_with fail
      refine wp_region_held_drew (S := fun V => V.cell? ⟨w.heap.size, 1, none⟩ = some (.slice (some ⟨b, off, none⟩) E.length c) ∧ V.cell? ⟨b, off + k * 3, none⟩ = some (.int .i64 x.f) ∧ V.cell? ⟨b, off + k * 3 + 1, none⟩ = some (.int .i64 x.t) ∧ V.cell? ⟨b, off + k * 3 + 2, none⟩ = some (.int .i64 x.c)) (by kernel_rfl) S4 (fun hHeld => ?_)
      refine wpAnyH_take (i := 0) (v := ?_) rfl (by kernel_rfl) (by kernel_rfl) (by kernel_rfl) (fun _ _ _ h => h) (Or.inl ⟨by rfl, ?_⟩) (by assumption) ?_
      rotate_left
      · (intro w' hSw; (try dsimp only at hSw); go_simp; try with_reducible rfl)
      simp only [Act.put, List.setIfInBounds_toArray, List.set_cons_zero, List.set_cons_succ]
      refine wpAnyH_take (i := 2) (v := ?_) rfl (by kernel_rfl) (by kernel_rfl) (by kernel_rfl) (fun _ _ _ h => h) (Or.inl ⟨by rfl, ?_⟩) (by assumption) ?_
      rotate_left
      · (intro w' hSw; (try dsimp only at hSw); go_simp; try with_reducible rfl)
      simp only [Act.put, List.setIfInBounds_toArray, List.set_cons_zero, List.set_cons_succ]
      refine wpAnyH_take (i := 3) (v := ?_) rfl (by kernel_rfl) (by kernel_rfl) (by kernel_rfl) (fun _ _ _ h => h) (Or.inl ⟨by rfl, ?_⟩) (by assumption) ?_
      rotate_left
      · (intro w' hSw; (try dsimp only at hSw); go_simp; try with_reducible rfl)
      simp only [Act.put, List.setIfInBounds_toArray, List.set_cons_zero, List.set_cons_succ]
      refine wpAnyH_take (i := 4) (v := ?_) rfl (by kernel_rfl) (by kernel_rfl) (by kernel_rfl) (fun _ _ _ h => h) (Or.inl ⟨by rfl, ?_⟩) (by assumption) ?_
      rotate_left
      · (intro w' hSw; (try dsimp only at hSw); go_simp; try with_reducible rfl)
      simp only [Act.put, List.setIfInBounds_toArray, List.set_cons_zero, List.set_cons_succ]
      refine wpAnyH_take (i := 5) (v := ?_) rfl (by kernel_rfl) (by kernel_rfl) (by kernel_rfl) (fun _ _ _ h => h) (Or.inl ⟨by rfl, ?_⟩) (by assumption) ?_
      rotate_left
      · (intro w' hSw; (try dsimp only at hSw); go_simp; try with_reducible rfl)
      simp only [Act.put, List.setIfInBounds_toArray, List.set_cons_zero, List.set_cons_succ]
      refine wpAnyH_take (i := 6) (v := ?_) rfl (by kernel_rfl) (by kernel_rfl) (by kernel_rfl) (fun _ _ _ h => h) (Or.inl ⟨by rfl, ?_⟩) (by assumption) ?_
      rotate_left
      · (intro w' hSw; (try dsimp only at hSw); go_simp; try with_reducible rfl)
      simp only [Act.put, List.setIfInBounds_toArray, List.set_cons_zero, List.set_cons_succ]
      refine wpAnyH_take (i := 7) (v := ?_) rfl (by kernel_rfl) (by kernel_rfl) (by kernel_rfl) (fun _ _ _ h => h) (Or.inl ⟨by rfl, ?_⟩) (by assumption) ?_
      rotate_left
      · (intro w' hSw; (try dsimp only at hSw); go_simp; try with_reducible rfl)
      simp only [Act.put, List.setIfInBounds_toArray, List.set_cons_zero, List.set_cons_succ]
      refine wpAnyH_take (i := 8) (v := ?_) rfl (by kernel_rfl) (by kernel_rfl) (by kernel_rfl) (fun _ _ _ h => h) (Or.inl ⟨by rfl, ?_⟩) (by assumption) ?_
      rotate_left
      · (intro w' hSw; (try dsimp only at hSw); go_simp; try with_reducible rfl)
      simp only [Act.put, List.setIfInBounds_toArray, List.set_cons_zero, List.set_cons_succ]
      refine wpAnyH_take (i := 9) (v := ?_) rfl (by kernel_rfl) (by kernel_rfl) (by kernel_rfl) (fun _ _ _ h => h) (Or.inl ⟨by rfl, ?_⟩) (by assumption) ?_
      rotate_left
      · (intro w' hSw; (try dsimp only at hSw); go_simp; try with_reducible rfl)
      simp only [Act.put, List.setIfInBounds_toArray, List.set_cons_zero, List.set_cons_succ]
      refine wpAnyH_take (i := 10) (v := ?_) rfl (by kernel_rfl) (by kernel_rfl) (by kernel_rfl) (fun _ _ _ h => h) (Or.inl ⟨by rfl, ?_⟩) (by assumption) ?_
      rotate_left
      · (intro w' hSw; (try dsimp only at hSw); go_simp; try with_reducible rfl)
      simp only [Act.put, List.setIfInBounds_toArray, List.set_cons_zero, List.set_cons_succ]
      refine wpAnyH_take (i := 11) (v := ?_) rfl (by kernel_rfl) (by kernel_rfl) (by kernel_rfl) (fun _ _ _ h => h) (Or.inl ⟨by rfl, ?_⟩) (by assumption) ?_
      rotate_left
      · (intro w' hSw; (try dsimp only at hSw); go_simp; try with_reducible rfl)
      simp only [Act.put, List.setIfInBounds_toArray, List.set_cons_zero, List.set_cons_succ]
      refine wpAnyH_take (i := 12) (v := ?_) rfl (by kernel_rfl) (by kernel_rfl) (by kernel_rfl) (fun _ _ _ h => h) (Or.inl ⟨by rfl, ?_⟩) (by assumption) ?_
      rotate_left
      · (intro w' hSw; (try dsimp only at hSw); go_simp; try with_reducible rfl)
      simp only [Act.put, List.setIfInBounds_toArray, List.set_cons_zero, List.set_cons_succ]
      refine wpAnyH_take (i := 13) (v := ?_) rfl (by kernel_rfl) (by kernel_rfl) (by kernel_rfl) (fun _ _ _ h => h) (Or.inl ⟨by rfl, ?_⟩) (by assumption) ?_
      rotate_left
      · (intro w' hSw; (try dsimp only at hSw); go_simp; try with_reducible rfl)
      simp only [Act.put, List.setIfInBounds_toArray, List.set_cons_zero, List.set_cons_succ]
      refine wpAnyH_take (i := 14) (v := ?_) rfl (by kernel_rfl) (by kernel_rfl) (by kernel_rfl) (fun _ _ _ h => h) (Or.inl ⟨by rfl, ?_⟩) (by assumption) ?_
      rotate_left
      · (intro w' hSw; (try dsimp only at hSw); go_simp; try with_reducible rfl)
      simp only [Act.put, List.setIfInBounds_toArray, List.set_cons_zero, List.set_cons_succ]
      refine wpAnyH_take (i := 15) (v := ?_) rfl (by kernel_rfl) (by kernel_rfl) (by kernel_rfl) (fun _ _ _ h => h) (Or.inl ⟨by rfl, ?_⟩) (by assumption) ?_
      rotate_left
      · (intro w' hSw; (try dsimp only at hSw); go_simp; try with_reducible rfl)
      simp only [Act.put, List.setIfInBounds_toArray, List.set_cons_zero, List.set_cons_succ]
      refine wpAnyH_take (i := 16) (v := ?_) rfl (by kernel_rfl) (by kernel_rfl) (by kernel_rfl) (fun _ _ _ h => h) (Or.inl ⟨by rfl, ?_⟩) (by assumption) ?_
      rotate_left
      · (intro w' hSw; (try dsimp only at hSw); go_simp; try with_reducible rfl)
      simp only [Act.put, List.setIfInBounds_toArray, List.set_cons_zero, List.set_cons_succ]
      refine wpAnyH_take (i := 17) (v := ?_) rfl (by kernel_rfl) (by kernel_rfl) (by kernel_rfl) (fun _ _ _ h => h) (Or.inl ⟨by rfl, ?_⟩) (by assumption) ?_
      rotate_left
      · (intro w' hSw; (try dsimp only at hSw); go_simp; try with_reducible rfl)
      simp only [Act.put, List.setIfInBounds_toArray, List.set_cons_zero, List.set_cons_succ]
      refine wpAnyH_take (i := 18) (v := ?_) rfl (by kernel_rfl) (by kernel_rfl) (by kernel_rfl) (fun _ _ _ h => h) (Or.inl ⟨by rfl, ?_⟩) (by assumption) ?_
      rotate_left
      · (intro w' hSw; (try dsimp only at hSw); go_simp; try with_reducible rfl)
      simp only [Act.put, List.setIfInBounds_toArray, List.set_cons_zero, List.set_cons_succ]
      refine wpAnyH_take (i := 19) (v := ?_) rfl (by kernel_rfl) (by kernel_rfl) (by kernel_rfl) (fun _ _ _ h => h) (Or.inl ⟨by rfl, ?_⟩) (by assumption) ?_
      rotate_left
      · (intro w' hSw; (try dsimp only at hSw); go_simp; try with_reducible rfl)
      simp only [Act.put, List.setIfInBounds_toArray, List.set_cons_zero, List.set_cons_succ]
      refine wpAnyH_take (i := 20) (v := ?_) rfl (by kernel_rfl) (by kernel_rfl) (by kernel_rfl) (fun _ _ _ h => h) (Or.inl ⟨by rfl, ?_⟩) (by assumption) ?_
      rotate_left
      · (intro w' hSw; (try dsimp only at hSw); go_simp; try with_reducible rfl)
      simp only [Act.put, List.setIfInBounds_toArray, List.set_cons_zero, List.set_cons_succ]
      refine wpAnyH_ready (rs := [1, 21]) (by kernel_rfl) (by simp) ?_
      refine AllReadyH.cons rfl (fun K hK => ?_) (AllReadyH.cons rfl (fun K hK => ?_) AllReadyH.nil)
      · go_simp
        refine hK.out _ _ S4 (fun _ => ?_)
        clear hK K
        refine wpAnyH_ready (rs := [21]) (by kernel_rfl) (by simp) ?_
        refine AllReadyH.cons rfl (fun K hK => ?_) AllReadyH.nil
        go_simp
        refine hK.out _ _ S5 (fun _ => ?_)
        clear hK K
        refine wpAnyH_ready (rs := [22]) (by kernel_rfl) (by simp) ?_
        refine AllReadyH.cons rfl (fun K hK => ?_) AllReadyH.nil
        refine step_runb _ rfl (.tmp 16) (.tmp 36) 22 rfl rfl rfl r1 ?_
        refine hK.out _ _ S6 (fun _ => ?_)
        clear hK K
        refine wpAnyH_ready (rs := [23]) (by kernel_rfl) (by simp) ?_
        refine AllReadyH.cons rfl (fun K hK => ?_) AllReadyH.nil
        go_simp
        refine hK.out _ _ S6 (fun _ => ?_)
        clear hK K
        refine wpAnyH_ready (rs := [24]) (by kernel_rfl) (by simp) ?_
        refine AllReadyH.cons rfl (fun K hK => ?_) AllReadyH.nil
        go_simp
        refine hK.out _ _ S7 (fun _ => ?_)
        clear hK K
        refine wpAnyH_done (by kernel_rfl) ?_ _
        generalize W6.setCell ⟨w.heap.size + 2, 1, none⟩ (.slice (some ⟨g6, 0, none⟩) (M.length + 1) c6) = W7 at *
        clear S4 S5 S6 S7 r1 r2 r3 p1 p1a
        go_wp2
        go_roundg gf
        case measure => omega
        case rel => exact ⟨k + 1, by go_num, Lib.hid (by omega), Lib.hid (by rw [HST.out]; exact R5.out)⟩
      · go_simp
        refine hK.out _ _ S5 (fun _ => ?_)
        clear hK K
        refine wpAnyH_ready (rs := [1]) (by kernel_rfl) (by simp) ?_
        refine AllReadyH.cons rfl (fun K hK => ?_) AllReadyH.nil
        go_simp
        refine hK.out _ _ S5 (fun _ => ?_)
        clear hK K
        refine wpAnyH_ready (rs := [22]) (by kernel_rfl) (by simp) ?_
        refine AllReadyH.cons rfl (fun K hK => ?_) AllReadyH.nil
        refine step_runb _ rfl (.tmp 16) (.tmp 36) 22 rfl rfl rfl r1 ?_
        refine hK.out _ _ S6 (fun _ => ?_)
        clear hK K
        refine wpAnyH_ready (rs := [23]) (by kernel_rfl) (by simp) ?_
        refine AllReadyH.cons rfl (fun K hK => ?_) AllReadyH.nil
        go_simp
        refine hK.out _ _ S6 (fun _ => ?_)
        clear hK K
        refine wpAnyH_ready (rs := [24]) (by kernel_rfl) (by simp) ?_
        refine AllReadyH.cons rfl (fun K hK => ?_) AllReadyH.nil
        go_simp
        refine hK.out _ _ S7 (fun _ => ?_)
        clear hK K
        refine wpAnyH_done (by kernel_rfl) ?_ _
        generalize W6.setCell ⟨w.heap.size + 2, 1, none⟩ (.slice (some ⟨g6, 0, none⟩) (M.length + 1) c6) = W7 at *
        clear S4 S5 S6 S7 r1 r2 r3 p1 p1a
        go_wp2
        go_roundg gf
        case measure => omega
        case rel => exact ⟨k + 1, by go_num, Lib.hid (by omega), Lib.hid (by rw [HST.out]; exact R5.out)⟩
end Go.Proofs.Ytkpmdfgjaodlaaa
