/-
  The contract of Reverse. No statement is proved here; no conditions.
-/
import Derived.Test.YtkpmdfgjaodlaaaTight
import Derived.Deep.RegionHeldLaw
namespace Go.Proofs.Ytkpmdfgjaodlaaa
open Go.RowKit Go.Joins

/-- The other way round. -/
def Ed.rev (x : Ed) : Ed := ⟨x.t, x.f, x.c⟩
theorem made_three (m : Nat) : (madeCells #[Value.int .i64 0, .int .i64 0, .int .i64 0] m).toList = List.replicate m (.int .i64 0) := by
  apply List.ext_getElem
  · simp [madeCells]
  · intro i h1 h2
    have hm : i % 3 = 0 ∨ i % 3 = 1 ∨ i % 3 = 2 := by omega
    simp only [madeCells, Array.toList_map, List.getElem_map, Array.getElem_toList, Array.getElem_range, List.getElem_replicate, List.size_toArray, List.length_cons, List.length_nil]
    rcases hm with e | e | e <;> simp [e]
theorem eflat_zero (n : Nat) : eflat (List.replicate n ⟨0, 0, 0⟩) = List.replicate (n * 3) (.int .i64 0) := by
  induction n with
  | zero => rfl
  | succ n ih => rw [List.replicate_succ, eflat, ih, Nat.succ_mul]; rfl
theorem made_edges (n : Nat) : (madeCells (Value.agg #[.int .i64 0, .int .i64 0, .int .i64 0]).cells (n * 3)).toList = eflat (List.replicate n ⟨0, 0, 0⟩) := by
  rw [eflat_zero]
  exact made_three _
/-- What Reverse leaves. -/
def Reved (w : World) (N : Int) (E : List Ed) (e : Ending) (w' : World) : Prop :=
  ∃ g, e = .returned (gv N (some ⟨g, 0, none⟩) E.length E.length) ∧ Rg 50 3 w' g E.length (eflat (E.map Ed.rev)) ∧ w.heap.size ≤ g ∧ Below w.heap.size w w'
theorem Rg.set_edge {w : World} {g c : Nat} {l : List Ed} (h : Rg 50 3 w g c (eflat l)) {k : Nat} (hk : k < l.length) (x : Ed) :
    Rg 50 3 (((w.setCell ⟨g, k * 3, none⟩ (.int .i64 x.f)).setCell ⟨g, k * 3 + 1, none⟩ (.int .i64 x.t)).setCell ⟨g, k * 3 + 2, none⟩ (.int .i64 x.c)) g c (eflat (l.set k x)) := by
  rw [eflat_set x hk]
  exact ((h.set _ _).set _ _).set _ _
theorem Rg.edge_cell {w : World} {g c : Nat} {l : List Ed} (h : Rg 50 3 w g c (eflat l)) {k : Nat} (hk : k < l.length) : w.cell? ⟨g, k * 3, none⟩ = some (.int .i64 l[k].f) ∧ w.cell? ⟨g, k * 3 + 1, none⟩ = some (.int .i64 l[k].t) ∧ w.cell? ⟨g, k * 3 + 2, none⟩ = some (.int .i64 l[k].c) := by
  obtain ⟨g1, g2, g3⟩ := eflat_get hk
  exact ⟨h.cell g1, h.cell g2, h.cell g3⟩

set_option maxRecDepth 100000 in
set_option maxHeartbeats 4000000 in
theorem reverse_any (N : Int) (A : Option Addr) (c : Nat) (E : List Ed) (B : Nat) (w : World) (hE : Rd (· < B) w A (eflat E)) (hB : B ≤ w.heap.size) (hl : E.length ≤ 100000) :
    Calls Try.prog 24 #[gv N A E.length c] w fun e w' => Reved w N E e w' := by
  obtain ⟨W0, hW0⟩ : ∃ W0, w.alloc (.cells #[.int .i64 N, .slice A E.length c] 24) = W0 := ⟨_, rfl⟩
  have hs0 : W0.heap.size = w.heap.size + 1 := by rw [← hW0]; simp
  have b0 : Below w.heap.size w W0 := by rw [← hW0]; exact below_alloc1 _ _
  have h0 : W0.heap[w.heap.size]? = some (.cells #[.int .i64 N, .slice A E.length c] 24 (0, 0)) := by rw [← hW0]; exact Go.heap_alloc_new _ _
  obtain ⟨W1, hW1⟩ : ∃ W1, W0.alloc (.cells #[.int .i64 0, .slice none 0 0] 24) = W1 := ⟨_, rfl⟩
  have hs1 : W1.heap.size = w.heap.size + 2 := by rw [← hW1]; simp [hs0]
  have b1 : Below W0.heap.size W0 W1 := by rw [← hW1]; exact below_alloc1 _ _
  have h1 : W1.heap[w.heap.size + 1]? = some (.cells #[.int .i64 0, .slice none 0 0] 24 (0, 0)) := by rw [← hW1, ← hs0]; exact Go.heap_alloc_new _ _
  have h01 := (b1.block _ (by omega)).trans h0
  obtain ⟨c0, c1, _, _⟩ := blk2 h01
  have b01 : Below w.heap.size w W1 := b0.trans (b1.mono (by omega))
  obtain ⟨i, hi, hz, hsz, hby⟩ := info50
  have HE1 := Lib.hid (hE.below b01 (fun j hj _ => by omega))
  have HB1 := Lib.hid b01
  have H1 := Lib.hid h1
  have H01 := Lib.hid h01
  clear b0 b1 b01 h0 h1 h01 hE
  -- the row first
  obtain ⟨W2, hmk2, r2, b2, hs2⟩ := run_mkr W1.drew 22 50 i _ 3 24 Try.underlying22 hi hz hsz hby E.length (by omega) (by omega)
  -- the variable first
  obtain ⟨V2, hV2⟩ : ∃ V2, W1.alloc (.cells #[.int .i64 0, .slice none 0 0] 24) = V2 := ⟨_, rfl⟩
  have hsv : V2.heap.size = w.heap.size + 3 := by rw [← hV2]; simp [hs1]
  have bv : Below W1.heap.size W1 V2 := by rw [← hV2]; exact below_alloc1 _ _
  have hv : V2.heap[w.heap.size + 2]? = some (.cells #[.int .i64 0, .slice none 0 0] 24 (0, 0)) := by rw [← hV2, ← hs1]; exact Go.heap_alloc_new _ _
  obtain ⟨V3, hmk3, r3, b3, hs3⟩ := run_mkr V2.drew 22 50 i _ 3 24 Try.underlying22 hi hz hsz hby E.length (by omega) (by omega)
  rw [made_edges] at r2 r3
  rw [show W1.drew.heap.size = w.heap.size + 2 from hs1] at hmk2 r2 hs2 b2
  rw [show V2.drew.heap.size = w.heap.size + 3 from hsv] at hmk3 r3 hs3 b3
  clear hi hz hsz hby
  go_enter Try.func24, Try.ntmps24
  go_wp2_with fail
  refine wp_region_held_drew (S := fun w' => w'.cell? ⟨w.heap.size, 0, none⟩ = some (.int .i64 N) ∧ w'.cell? ⟨w.heap.size, 1, none⟩ = some (.slice A E.length c)) (by kernel_rfl) ⟨c0, c1⟩ (fun hHeld => ?_)
  refine wpAnyH_take (i := 0) (v := ?_) rfl (by kernel_rfl) (by kernel_rfl) (by kernel_rfl) (fun _ _ _ h => h) (Or.inl ⟨by rfl, ?_⟩) (by assumption) ?_
  rotate_left
  · (intro w' hSw; (try dsimp only at hSw); go_simp; try with_reducible rfl)
  simp only [Act.put, List.setIfInBounds_toArray]
  refine wpAnyH_take (i := 1) (v := ?_) rfl (by kernel_rfl) (by kernel_rfl) (by kernel_rfl) (fun _ _ _ h => h) (Or.inl ⟨by rfl, ?_⟩) (by assumption) ?_
  rotate_left
  · (intro w' hSw; (try dsimp only at hSw); go_simp; try with_reducible rfl)
  simp only [Act.put]
  refine wpAnyH_take (i := 2) (v := ?_) rfl (by kernel_rfl) (by kernel_rfl) (by kernel_rfl) (fun _ _ _ h => h) (Or.inl ⟨by rfl, ?_⟩) (by assumption) ?_
  rotate_left
  · (intro w' hSw; (try dsimp only at hSw); go_simp; try with_reducible rfl)
  simp only [Act.put]
  refine wpAnyH_take (i := 3) (v := ?_) rfl (by kernel_rfl) (by kernel_rfl) (by kernel_rfl) (fun _ _ _ h => h) (Or.inl ⟨by rfl, ?_⟩) (by assumption) ?_
  rotate_left
  · (intro w' hSw; (try dsimp only at hSw); go_simp; try with_reducible rfl)
  simp only [Act.put]
  refine wpAnyH_take (i := 4) (v := ?_) rfl (by kernel_rfl) (by kernel_rfl) (by kernel_rfl) (fun _ _ _ h => h) (Or.inl ⟨by rfl, ?_⟩) (by assumption) ?_
  rotate_left
  · (intro w' hSw; (try dsimp only at hSw); go_simp; try with_reducible rfl)
  simp only [Act.put]
  refine wpAnyH_ready (rs := [5, 7]) (by kernel_rfl) (by simp) ?_
  refine AllReadyH.cons rfl (fun K hK => ?_) (AllReadyH.cons rfl (fun K hK => ?_) AllReadyH.nil)
  · go_simp
    have kA : W2.heap[w.heap.size]? = some (.cells #[.int .i64 N, .slice A E.length c] 24 (0, 0)) := (b2.block _ (by omega)).trans H01.out
    obtain ⟨a0, a1, _, _⟩ := blk2 kA
    refine hK.out _ _ ⟨a0, a1⟩ (fun _ => ?_)
    clear hK K
    refine wpAnyH_take (i := 6) (v := ?_) rfl (by kernel_rfl) (by kernel_rfl) (by kernel_rfl) (fun _ _ _ h => h) (Or.inl ⟨by rfl, ?_⟩) (by assumption) ?_
    rotate_left
    · (intro w' hSw; (try dsimp only at hSw); go_simp; try with_reducible rfl)
    simp only [Act.put, List.setIfInBounds_toArray]
    obtain ⟨X, hX⟩ : ∃ X, W2.alloc (.cells #[.int .i64 N, .slice (some ⟨w.heap.size + 2, 0, none⟩) E.length E.length] 24) = X := ⟨_, rfl⟩
    have bX2 : Below W2.heap.size W2 X := by rw [← hX]; exact below_alloc1 _ _
    have X3 : X.heap[w.heap.size + 3]? = some (.cells #[.int .i64 N, .slice (some ⟨w.heap.size + 2, 0, none⟩) E.length E.length] 24 (0, 0)) := by rw [← hX, show w.heap.size + 3 = W2.heap.size by omega]; exact Go.heap_alloc_new _ _
    have X0 := (bX2.block _ (by omega)).trans kA
    have X1 := (bX2.block _ (by omega)).trans ((b2.block _ (by omega)).trans H1.out)
    have rX := r2.below' bX2
    have bX : Below (w.heap.size + 2) W1 X := (show Below (w.heap.size + 2) W1 W2 from ⟨b2.os, b2.tape, b2.output, b2.size, b2.block⟩).trans (bX2.mono (by omega))
    obtain ⟨u0, u1, _, _⟩ := blk2 ((below_alloc1 W2 (.cells #[.int .i64 0, .slice none 0 0] 24)).block _ (by omega) |>.trans kA)
    obtain ⟨m0, m1, m2, m3⟩ := blk2 X0
    have hsA : W2.heap.size = w.heap.size + 3 := by omega
    refine wpAnyH_ready (rs := [7]) (by kernel_rfl) (by simp) ?_
    refine AllReadyH.cons rfl (fun K hK => ?_) AllReadyH.nil
    go_simp
    refine hK.out _ _ ⟨u0, u1⟩ (fun _ => ?_)
    clear hK K
    refine wpAnyH_ready (rs := [8]) (by kernel_rfl) (by simp) ?_
    refine AllReadyH.cons rfl (fun K hK => ?_) AllReadyH.nil
    go_simp
    refine hK.out _ _ ⟨m0, m1⟩ (fun _ => ?_)
    clear hK K
    refine wpAnyH_done (by kernel_rfl) ?_ _
    -- from here on
    have hE8 := HE1.out.below bX (fun j hj _ => by omega)
    obtain ⟨x0, x1, _, _⟩ := blk2 X0
    obtain ⟨y0, y1, _, _⟩ := blk2 X3
    have hsX := bX.size
    have R0 : Hid (Rg 50 3 X (w.heap.size + 2) E.length (eflat ((E.map Ed.rev).take 0 ++ (List.replicate E.length ⟨0, 0, 0⟩).drop 0))) := Lib.hid (by simpa using rX)
    have ST : Hid (X.heap[w.heap.size]? = some (.cells #[.int .i64 N, .slice A E.length c] 24 (0, 0)) ∧ X.heap[w.heap.size + 1]? = some (.cells #[.int .i64 0, .slice none 0 0] 24 (0, 0)) ∧ X.heap[w.heap.size + 3]? = some (.cells #[.int .i64 N, .slice (some ⟨w.heap.size + 2, 0, none⟩) E.length E.length] 24 (0, 0))) := Lib.hid ⟨X0, X1, X3⟩
    have BX := Lib.hid bX
    have HE8 := Lib.hid hE8
    clear hE8 X0 X1 X3 rX bX HE1 H1 H01 r2 r3 b2 b3 bv hv hmk2 hmk3
    go_wp2_with fail
    go_loopg [16] E.length (fun gf v wx => ∃ k, v = .int .i64 ((k : Nat) : Int) ∧ Hid (gf + k = E.length) ∧ Hid (Rg 50 3 wx (w.heap.size + 2) E.length (eflat ((E.map Ed.rev).take k ++ (List.replicate E.length ⟨0, 0, 0⟩).drop k))) ∧ Hid (Kp (fun j => j = w.heap.size + 2) X wx))
    case atStart => exact ⟨0, rfl, Lib.hid (by omega), R0, Lib.hid (Kp.refl _ _)⟩
    case round =>
      obtain ⟨k, rfl, hk, hr, hkp⟩ := hrel
      have hk' := hk.out
      obtain ⟨s0, s1, s3⟩ := ST.out
      have t0 := (hkp.out.block _ (lt_of_block s0) (by omega)).trans s0
      have t1 := (hkp.out.block _ (lt_of_block s1) (by omega)).trans s1
      have t3 := (hkp.out.block _ (lt_of_block s3) (by omega)).trans s3
      obtain ⟨y0, y1, _, _⟩ := blk2 t3
      have hsy := hkp.out.size
      clear R0
      cases gk with
      | zero =>
        have e1 : k = E.length := by omega
        have lt0 : decide ((k : Int) < (E.length : Int)) = false := by simp; omega
        obtain ⟨p0, p1, p2, p3⟩ := blk2 t1
        have fin := blk2_set (.int .i64 N) (.slice (some ⟨w.heap.size + 2, 0, none⟩) E.length E.length) t1
        obtain ⟨q0, q1, _, _⟩ := blk2 fin
        have kf : Kp (fun j => j = w.heap.size + 1) wr ((wr.setCell ⟨w.heap.size + 1, 0, none⟩ (.int .i64 N)).setCell ⟨w.heap.size + 1, 1, none⟩ (.slice (some ⟨w.heap.size + 2, 0, none⟩) E.length E.length)) := (Kp.setCell (S := fun j => j = w.heap.size + 1) wr ⟨w.heap.size + 1, 0, none⟩ (.int .i64 N) rfl).then_set ⟨w.heap.size + 1, 1, none⟩ _ rfl
        have rf := hr.out.kp kf (by omega)
        rw [e1, List.take_of_length_le (by simp), List.drop_of_length_le (by simp), List.append_nil] at rf
        have F : Hid (Reved w N E (.returned (gv N (some ⟨w.heap.size + 2, 0, none⟩) E.length E.length)) ((wr.setCell ⟨w.heap.size + 1, 0, none⟩ (.int .i64 N)).setCell ⟨w.heap.size + 1, 1, none⟩ (.slice (some ⟨w.heap.size + 2, 0, none⟩) E.length E.length))) := Lib.hid
          ⟨_, rfl, rf, by omega, HB1.out.trans ((BX.out.mono (by omega)).trans ((hkp.out.below (B := w.heap.size) (fun j hj => by omega) (by omega)).trans (kf.below (fun j hj => by omega) (by omega))))⟩
        clear rf kf fin t0 t1 t3 s0 s1 s3 hr hkp
        go_wp2
        refine bodyPost_ret (v := gv N (some ⟨w.heap.size + 2, 0, none⟩) E.length E.length) (by simp [results, Try.results24, go_sem, q0, q1]) rfl F.out
      | succ gf =>
        have hkl : k < E.length := by omega
        have lt0 : (k : Int) < (E.length : Int) := by omega
        obtain ⟨b, off, hA, hbB, hbs, e0, e1, e2⟩ := (HE8.out.kp hkp.out (fun j hj => by omega)).edge hkl
        obtain ⟨x, hx⟩ : ∃ x, ge E k = x := ⟨_, rfl⟩
        rw [hx] at e0 e1 e2
        subst hA
        obtain ⟨W4, hW4⟩ : ∃ W4, wr.alloc (.cells #[.int .i64 x.f, .int .i64 x.t, .int .i64 x.c] 50) = W4 := ⟨_, rfl⟩
        have hs4 : W4.heap.size = wr.heap.size + 1 := by rw [← hW4]; simp
        have b4 : Below wr.heap.size wr W4 := by rw [← hW4]; exact below_alloc1 _ _
        have h50 : W4.heap[wr.heap.size]? = some (.cells #[.int .i64 x.f, .int .i64 x.t, .int .i64 x.c] 50 (0, 0)) := by rw [← hW4]; exact Go.heap_alloc_new _ _
        have f0 : W4.cell? ⟨wr.heap.size, 0, none⟩ = some (.int .i64 x.f) := (cell_of_row _ _ 0 _ _ _ h50).trans rfl
        have f1 : W4.cell? ⟨wr.heap.size, 1, none⟩ = some (.int .i64 x.t) := (cell_of_row _ _ 1 _ _ _ h50).trans rfl
        have f2 : W4.cell? ⟨wr.heap.size, 2, none⟩ = some (.int .i64 x.c) := (cell_of_row _ _ 2 _ _ _ h50).trans rfl
        obtain ⟨z0, z1, _, _⟩ := blk2 ((b4.block _ (lt_of_block t3)).trans t3)
        have r4 := hr.out.below' b4
        have hkk : k < ((E.map Ed.rev).take k ++ (List.replicate E.length (⟨0, 0, 0⟩ : Ed)).drop k).length := by simp; omega
        obtain ⟨d0, d1, d2⟩ := r4.edge_cell hkk
        have g0 := r4.frozen (k * 3)
        have g1 := r4.frozen (k * 3 + 1)
        have g2 := r4.frozen (k * 3 + 2)
        have rs := r4.set_edge hkk x.rev
        have er : (E.map Ed.rev)[k]'(by simpa using hkl) = x.rev := by simp [← hx, ge_eq hkl]
        have NX : Hid (Rg 50 3 (((W4.setCell ⟨w.heap.size + 2, k * 3, none⟩ (.int .i64 x.t)).setCell ⟨w.heap.size + 2, k * 3 + 1, none⟩ (.int .i64 x.f)).setCell ⟨w.heap.size + 2, k * 3 + 2, none⟩ (.int .i64 x.c)) (w.heap.size + 2) E.length (eflat ((E.map Ed.rev).take (k + 1) ++ (List.replicate E.length ⟨0, 0, 0⟩).drop (k + 1)))) := Lib.hid (by
          have := rs
          rw [← er, mix_set _ _ _ (by simp) (by simpa using hkl), er] at this
          exact this)
        have NK : Hid (Kp (fun j => j = w.heap.size + 2) X (((W4.setCell ⟨w.heap.size + 2, k * 3, none⟩ (.int .i64 x.t)).setCell ⟨w.heap.size + 2, k * 3 + 1, none⟩ (.int .i64 x.f)).setCell ⟨w.heap.size + 2, k * 3 + 2, none⟩ (.int .i64 x.c))) := Lib.hid
          ((((hkp.out.then_below b4 (Nat.le_refl _)).then_set ⟨w.heap.size + 2, k * 3, none⟩ _ rfl).then_set ⟨w.heap.size + 2, k * 3 + 1, none⟩ _ rfl).then_set ⟨w.heap.size + 2, k * 3 + 2, none⟩ _ rfl)
        clear rs r4 b4 h50 t0 t1 t3 s0 s1 s3 hr hkp hx er
        go_wp2
        go_roundg gf
        case measure => omega
        case rel => exact ⟨k + 1, by go_num, Lib.hid (by omega), NX, NK⟩
  · go_simp
    have kA : V2.heap[w.heap.size]? = some (.cells #[.int .i64 N, .slice A E.length c] 24 (0, 0)) := (bv.block _ (by omega)).trans H01.out
    obtain ⟨a0, a1, _, _⟩ := blk2 kA
    refine hK.out _ _ ⟨a0, a1⟩ (fun _ => ?_)
    clear hK K
    have kB : V3.heap[w.heap.size]? = some (.cells #[.int .i64 N, .slice A E.length c] 24 (0, 0)) := (b3.block _ (by omega)).trans kA
    obtain ⟨u0, u1, _, _⟩ := blk2 kB
    refine wpAnyH_ready (rs := [5]) (by kernel_rfl) (by simp) ?_
    refine AllReadyH.cons rfl (fun K hK => ?_) AllReadyH.nil
    go_simp
    refine hK.out _ _ ⟨u0, u1⟩ (fun _ => ?_)
    clear hK K
    refine wpAnyH_take (i := 6) (v := ?_) rfl (by kernel_rfl) (by kernel_rfl) (by kernel_rfl) (fun _ _ _ h => h) (Or.inl ⟨by rfl, ?_⟩) (by assumption) ?_
    rotate_left
    · (intro w' hSw; (try dsimp only at hSw); go_simp; try with_reducible rfl)
    simp only [Act.put, List.setIfInBounds_toArray]
    have vB : V3.heap[w.heap.size + 2]? = some (.cells #[.int .i64 0, .slice none 0 0] 24 (0, 0)) := (b3.block _ (by omega)).trans hv
    have X3 := blk2_set (.int .i64 N) (.slice (some ⟨w.heap.size + 3, 0, none⟩) E.length E.length) vB
    obtain ⟨n0, n1, n2, n3⟩ := blk2 vB
    have kX : Kp (fun j => j = w.heap.size + 2) V3 ((V3.setCell ⟨w.heap.size + 2, 0, none⟩ (.int .i64 N)).setCell ⟨w.heap.size + 2, 1, none⟩ (.slice (some ⟨w.heap.size + 3, 0, none⟩) E.length E.length)) := (Kp.setCell (S := fun j => j = w.heap.size + 2) V3 ⟨w.heap.size + 2, 0, none⟩ (.int .i64 N) rfl).then_set ⟨w.heap.size + 2, 1, none⟩ _ rfl
    obtain ⟨X, hX⟩ : ∃ X, (V3.setCell ⟨w.heap.size + 2, 0, none⟩ (.int .i64 N)).setCell ⟨w.heap.size + 2, 1, none⟩ (.slice (some ⟨w.heap.size + 3, 0, none⟩) E.length E.length) = X := ⟨_, rfl⟩
    rw [hX] at X3 kX
    have X0 := (kX.block _ (by omega) (by omega)).trans kB
    have X1 := (kX.block _ (by omega) (by omega)).trans ((b3.block _ (by omega)).trans ((bv.block _ (by omega)).trans H1.out))
    have rX := r3.kp kX (by omega)
    have bX : Below (w.heap.size + 2) W1 X := ((bv.mono (by omega)).trans (show Below (w.heap.size + 2) V2 V3 from ⟨b3.os, b3.tape, b3.output, b3.size, fun j hj => b3.block j (by omega)⟩)).trans (kX.below (fun j hj => by omega) (by omega))
    obtain ⟨m0, m1, m2, m3⟩ := blk2 X0
    refine wpAnyH_ready (rs := [8]) (by kernel_rfl) (by simp) ?_
    refine AllReadyH.cons rfl (fun K hK => ?_) AllReadyH.nil
    go_simp
    refine hK.out _ _ ⟨m0, m1⟩ (fun _ => ?_)
    clear hK K
    refine wpAnyH_done (by kernel_rfl) ?_ _
    -- from here on
    have hE8 := HE1.out.below bX (fun j hj _ => by omega)
    obtain ⟨x0, x1, _, _⟩ := blk2 X0
    obtain ⟨y0, y1, _, _⟩ := blk2 X3
    have hsX := bX.size
    have R0 : Hid (Rg 50 3 X (w.heap.size + 3) E.length (eflat ((E.map Ed.rev).take 0 ++ (List.replicate E.length ⟨0, 0, 0⟩).drop 0))) := Lib.hid (by simpa using rX)
    have ST : Hid (X.heap[w.heap.size]? = some (.cells #[.int .i64 N, .slice A E.length c] 24 (0, 0)) ∧ X.heap[w.heap.size + 1]? = some (.cells #[.int .i64 0, .slice none 0 0] 24 (0, 0)) ∧ X.heap[w.heap.size + 2]? = some (.cells #[.int .i64 N, .slice (some ⟨w.heap.size + 3, 0, none⟩) E.length E.length] 24 (0, 0))) := Lib.hid ⟨X0, X1, X3⟩
    have BX := Lib.hid bX
    have HE8 := Lib.hid hE8
    clear hE8 X0 X1 X3 rX bX HE1 H1 H01 r2 r3 b2 b3 bv hv hmk2 hmk3
    go_wp2_with fail
    go_loopg [16] E.length (fun gf v wx => ∃ k, v = .int .i64 ((k : Nat) : Int) ∧ Hid (gf + k = E.length) ∧ Hid (Rg 50 3 wx (w.heap.size + 3) E.length (eflat ((E.map Ed.rev).take k ++ (List.replicate E.length ⟨0, 0, 0⟩).drop k))) ∧ Hid (Kp (fun j => j = w.heap.size + 3) X wx))
    case atStart => exact ⟨0, rfl, Lib.hid (by omega), R0, Lib.hid (Kp.refl _ _)⟩
    case round =>
      obtain ⟨k, rfl, hk, hr, hkp⟩ := hrel
      have hk' := hk.out
      obtain ⟨s0, s1, s3⟩ := ST.out
      have t0 := (hkp.out.block _ (lt_of_block s0) (by omega)).trans s0
      have t1 := (hkp.out.block _ (lt_of_block s1) (by omega)).trans s1
      have t3 := (hkp.out.block _ (lt_of_block s3) (by omega)).trans s3
      obtain ⟨y0, y1, _, _⟩ := blk2 t3
      have hsy := hkp.out.size
      clear R0
      cases gk with
      | zero =>
        have e1 : k = E.length := by omega
        have lt0 : decide ((k : Int) < (E.length : Int)) = false := by simp; omega
        obtain ⟨p0, p1, p2, p3⟩ := blk2 t1
        have fin := blk2_set (.int .i64 N) (.slice (some ⟨w.heap.size + 3, 0, none⟩) E.length E.length) t1
        obtain ⟨q0, q1, _, _⟩ := blk2 fin
        have kf : Kp (fun j => j = w.heap.size + 1) wr ((wr.setCell ⟨w.heap.size + 1, 0, none⟩ (.int .i64 N)).setCell ⟨w.heap.size + 1, 1, none⟩ (.slice (some ⟨w.heap.size + 3, 0, none⟩) E.length E.length)) := (Kp.setCell (S := fun j => j = w.heap.size + 1) wr ⟨w.heap.size + 1, 0, none⟩ (.int .i64 N) rfl).then_set ⟨w.heap.size + 1, 1, none⟩ _ rfl
        have rf := hr.out.kp kf (by omega)
        rw [e1, List.take_of_length_le (by simp), List.drop_of_length_le (by simp), List.append_nil] at rf
        have F : Hid (Reved w N E (.returned (gv N (some ⟨w.heap.size + 3, 0, none⟩) E.length E.length)) ((wr.setCell ⟨w.heap.size + 1, 0, none⟩ (.int .i64 N)).setCell ⟨w.heap.size + 1, 1, none⟩ (.slice (some ⟨w.heap.size + 3, 0, none⟩) E.length E.length))) := Lib.hid
          ⟨_, rfl, rf, by omega, HB1.out.trans ((BX.out.mono (by omega)).trans ((hkp.out.below (B := w.heap.size) (fun j hj => by omega) (by omega)).trans (kf.below (fun j hj => by omega) (by omega))))⟩
        clear rf kf fin t0 t1 t3 s0 s1 s3 hr hkp
        go_wp2
        refine bodyPost_ret (v := gv N (some ⟨w.heap.size + 3, 0, none⟩) E.length E.length) (by simp [results, Try.results24, go_sem, q0, q1]) rfl F.out
      | succ gf =>
        have hkl : k < E.length := by omega
        have lt0 : (k : Int) < (E.length : Int) := by omega
        obtain ⟨b, off, hA, hbB, hbs, e0, e1, e2⟩ := (HE8.out.kp hkp.out (fun j hj => by omega)).edge hkl
        obtain ⟨x, hx⟩ : ∃ x, ge E k = x := ⟨_, rfl⟩
        rw [hx] at e0 e1 e2
        subst hA
        obtain ⟨W4, hW4⟩ : ∃ W4, wr.alloc (.cells #[.int .i64 x.f, .int .i64 x.t, .int .i64 x.c] 50) = W4 := ⟨_, rfl⟩
        have hs4 : W4.heap.size = wr.heap.size + 1 := by rw [← hW4]; simp
        have b4 : Below wr.heap.size wr W4 := by rw [← hW4]; exact below_alloc1 _ _
        have h50 : W4.heap[wr.heap.size]? = some (.cells #[.int .i64 x.f, .int .i64 x.t, .int .i64 x.c] 50 (0, 0)) := by rw [← hW4]; exact Go.heap_alloc_new _ _
        have f0 : W4.cell? ⟨wr.heap.size, 0, none⟩ = some (.int .i64 x.f) := (cell_of_row _ _ 0 _ _ _ h50).trans rfl
        have f1 : W4.cell? ⟨wr.heap.size, 1, none⟩ = some (.int .i64 x.t) := (cell_of_row _ _ 1 _ _ _ h50).trans rfl
        have f2 : W4.cell? ⟨wr.heap.size, 2, none⟩ = some (.int .i64 x.c) := (cell_of_row _ _ 2 _ _ _ h50).trans rfl
        obtain ⟨z0, z1, _, _⟩ := blk2 ((b4.block _ (lt_of_block t3)).trans t3)
        have r4 := hr.out.below' b4
        have hkk : k < ((E.map Ed.rev).take k ++ (List.replicate E.length (⟨0, 0, 0⟩ : Ed)).drop k).length := by simp; omega
        obtain ⟨d0, d1, d2⟩ := r4.edge_cell hkk
        have g0 := r4.frozen (k * 3)
        have g1 := r4.frozen (k * 3 + 1)
        have g2 := r4.frozen (k * 3 + 2)
        have rs := r4.set_edge hkk x.rev
        have er : (E.map Ed.rev)[k]'(by simpa using hkl) = x.rev := by simp [← hx, ge_eq hkl]
        have NX : Hid (Rg 50 3 (((W4.setCell ⟨w.heap.size + 3, k * 3, none⟩ (.int .i64 x.t)).setCell ⟨w.heap.size + 3, k * 3 + 1, none⟩ (.int .i64 x.f)).setCell ⟨w.heap.size + 3, k * 3 + 2, none⟩ (.int .i64 x.c)) (w.heap.size + 3) E.length (eflat ((E.map Ed.rev).take (k + 1) ++ (List.replicate E.length ⟨0, 0, 0⟩).drop (k + 1)))) := Lib.hid (by
          have := rs
          rw [← er, mix_set _ _ _ (by simp) (by simpa using hkl), er] at this
          exact this)
        have NK : Hid (Kp (fun j => j = w.heap.size + 3) X (((W4.setCell ⟨w.heap.size + 3, k * 3, none⟩ (.int .i64 x.t)).setCell ⟨w.heap.size + 3, k * 3 + 1, none⟩ (.int .i64 x.f)).setCell ⟨w.heap.size + 3, k * 3 + 2, none⟩ (.int .i64 x.c))) := Lib.hid
          ((((hkp.out.then_below b4 (Nat.le_refl _)).then_set ⟨w.heap.size + 3, k * 3, none⟩ _ rfl).then_set ⟨w.heap.size + 3, k * 3 + 1, none⟩ _ rfl).then_set ⟨w.heap.size + 3, k * 3 + 2, none⟩ _ rfl)
        clear rs r4 b4 h50 t0 t1 t3 s0 s1 s3 hr hkp hx er
        go_wp2
        go_roundg gf
        case measure => omega
        case rel => exact ⟨k + 1, by go_num, Lib.hid (by omega), NX, NK⟩
end Go.Proofs.Ytkpmdfgjaodlaaa
