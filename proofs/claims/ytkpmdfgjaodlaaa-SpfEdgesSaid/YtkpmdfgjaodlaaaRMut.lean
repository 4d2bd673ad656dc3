/-
  The contract of the reference's Mutual. No statement is proved here; no conditions.
-/
import Derived.Test.YtkpmdfgjaodlaaaRRev
namespace Go.Proofs.Ytkpmdfgjaodlaaa
open Go.RowKit Go.Joins

/-- Does one of the first j edges lead back? -/
def bk (E : List Ed) (x : Ed) (j : Nat) : Bool := (E.take j).any fun y => y.f == x.t && y.t == x.f
theorem bk_succ {E : List Ed} {x : Ed} {j : Nat} (h : j < E.length) : bk E x (j + 1) = (bk E x j || (E[j].f == x.t && E[j].t == x.f)) := by
  unfold bk
  rw [List.take_succ_eq_append_getElem h, List.any_append]
  simp
theorem bk_all (E : List Ed) (x : Ed) : bk E x E.length = back E x := by simp [bk, back]
theorem below_drewR {w : World} (n : Nat) : Below w.heap.size w (w.drewN n) := ⟨rfl, rfl, rfl, Nat.le_refl _, fun _ _ => rfl⟩

set_option maxRecDepth 100000 in
set_option maxHeartbeats 4000000 in
theorem rmutual_any (N : Int) (A : Option Addr) (c : Nat) (E : List Ed) (w : World) (hE : Rd (· < w.heap.size) w A (eflat E)) (hl : E.length ≤ 100000) :
    Calls Try.prog 23 #[gv N A E.length c] w fun e w' => Edged w N (mutE E) e w' := by
  obtain ⟨W0, hW0⟩ : ∃ W0, w.alloc (.cells #[.int .i64 N, .slice A E.length c] 31) = W0 := ⟨_, rfl⟩
  have hs0 : W0.heap.size = w.heap.size + 1 := by rw [← hW0]; simp
  have b0 : Below w.heap.size w W0 := by rw [← hW0]; exact below_alloc1 _ _
  have h0 : W0.heap[w.heap.size]? = some (.cells #[.int .i64 N, .slice A E.length c] 31 (0, 0)) := by rw [← hW0]; exact Go.heap_alloc_new _ _
  obtain ⟨W1, hW1⟩ : ∃ W1, W0.alloc (.cells #[.int .i64 0, .slice none 0 0] 31) = W1 := ⟨_, rfl⟩
  have hs1 : W1.heap.size = w.heap.size + 2 := by rw [← hW1]; simp [hs0]
  have b1 : Below W0.heap.size W0 W1 := by rw [← hW1]; exact below_alloc1 _ _
  have h1 : W1.heap[w.heap.size + 1]? = some (.cells #[.int .i64 0, .slice none 0 0] 31 (0, 0)) := by rw [← hW1, ← hs0]; exact Go.heap_alloc_new _ _
  obtain ⟨W2, hW2⟩ : ∃ W2, W1.alloc (.cells #[.int .i64 N, .slice none 0 0] 31) = W2 := ⟨_, rfl⟩
  have hs2 : W2.heap.size = w.heap.size + 3 := by rw [← hW2]; simp [hs1]
  have b2 : Below W1.heap.size W1 W2 := by rw [← hW2]; exact below_alloc1 _ _
  have h2 : W2.heap[w.heap.size + 2]? = some (.cells #[.int .i64 N, .slice none 0 0] 31 (0, 0)) := by rw [← hW2, ← hs1]; exact Go.heap_alloc_new _ _
  have h01 := (b1.block _ (by omega)).trans h0
  obtain ⟨c0, c1, _, _⟩ := blk2 h01
  have H02 := Lib.hid ((b2.block _ (by omega)).trans h01)
  have H12 := Lib.hid ((b2.block _ (by omega)).trans h1)
  have b02 : Below w.heap.size w W2 := (b0.trans (b1.mono (by omega))).trans (b2.mono (by omega))
  have HE2 := Lib.hid (hE.below b02 (fun j hj _ => hj))
  have HB2 := Lib.hid b02
  have L0 : Hid (OL N (w.heap.size + 2) W2 ((E.take 0).filter (back E)) W2) := Lib.hid ⟨none, 0, 0, h2, ⟨rfl, .inl ⟨rfl, rfl, rfl⟩⟩, fun h => absurd rfl h, Below.refl _ _, by omega⟩
  have HW2 := Lib.hid hW2
  clear b0 b1 b2 b02 h0 h1 h2 h01 hE hW2
  go_enter Try.func23, Try.ntmps23
  go_wp2_with fail
  rw [HW2.out]
  go_loopg [4] E.length (fun gf v wx => ∃ k, v = .int .i64 ((k : Nat) : Int) ∧ Hid (gf + k = E.length) ∧ Hid (OL N (w.heap.size + 2) W2 ((E.take k).filter (back E)) wx))
  case atStart => exact ⟨0, rfl, Lib.hid (by omega), L0⟩
  case round =>
    obtain ⟨k, rfl, hk, ho⟩ := hrel
    have hk' := hk.out
    have hbl : Below (w.heap.size + 2) W2 wr := by obtain ⟨_, _, _, _, _, _, h, _⟩ := ho.out; exact h
    have hsr := hbl.size
    have t0 := (hbl.block _ (by omega)).trans H02.out
    have t1 := (hbl.block _ (by omega)).trans H12.out
    obtain ⟨x0, x1, _, _⟩ := blk2 t0
    clear L0
    cases gk with
    | zero =>
      have e1 : k = E.length := by omega
      have lt0 : decide ((k : Int) < (E.length : Int)) = false := by simp; omega
      obtain ⟨A', g', c', m1, m2, m3, m4, m5⟩ := ho.out
      rw [e1, List.take_length] at m1 m2
      rw [show E.filter (back E) = mutE E from rfl] at m1 m2
      obtain ⟨ml, hml⟩ : ∃ ml, (mutE E).length = ml := ⟨_, rfl⟩
      rw [hml] at m1 m2
      obtain ⟨p0, p1, _, _⟩ := blk2 m1
      obtain ⟨q0, q1, q2, q3⟩ := blk2 t1
      have fin := blk2_set (.int .i64 N) (.slice A' ml c') t1
      obtain ⟨r0, r1, _, _⟩ := blk2 fin
      have kf : Kp (fun j => j = w.heap.size + 1) wr ((wr.setCell ⟨w.heap.size + 1, 0, none⟩ (.int .i64 N)).setCell ⟨w.heap.size + 1, 1, none⟩ (.slice A' ml c')) := (Kp.setCell (S := fun j => j = w.heap.size + 1) wr ⟨w.heap.size + 1, 0, none⟩ (.int .i64 N) rfl).then_set ⟨w.heap.size + 1, 1, none⟩ _ rfl
      have F : Hid (Edged w N (mutE E) (.returned (gv N A' ml c')) ((wr.setCell ⟨w.heap.size + 1, 0, none⟩ (.int .i64 N)).setCell ⟨w.heap.size + 1, 1, none⟩ (.slice A' ml c'))) := Lib.hid (by
        refine ⟨A', g', c', by rw [hml], ?_, fun h => by have := m3 h; omega, HB2.out.trans ((hbl.mono (by omega)).trans (kf.below (fun j hj => by omega) (by omega)))⟩
        rw [hml]
        rcases m2 with ⟨z1, z2 | ⟨z2, z3⟩⟩
        · exact ⟨z1, .inl z2⟩
        · exact ⟨z1, .inr ⟨z2, z3.kp kf (by have := m3 (by rw [z2]; simp); omega)⟩⟩)
      clear kf fin t0 t1 m1 m2 m3 m4 hml ho hbl
      go_wp2
      refine bodyPost_ret (v := gv N A' ml c') (by simp [results, Try.results23, go_sem, r0, r1]) rfl F.out
    | succ gf =>
      have hkl : k < E.length := by omega
      have lt0 : (k : Int) < (E.length : Int) := by omega
      have hEr := HE2.out.below hbl (fun j hj _ => by omega)
      obtain ⟨b, off, hA, hbB, hbs, e0, e1, e2⟩ := hEr.edge hkl
      obtain ⟨x, hx⟩ : ∃ x, ge E k = x := ⟨_, rfl⟩
      rw [hx] at e0 e1 e2
      subst hA
      have HX := Lib.hid hx
      have HER := Lib.hid hEr
      obtain ⟨wo, rfl⟩ : ∃ wo, wo = wr := ⟨_, rfl⟩
      clear hx hEr t0 t1 hbl
      go_wp2_with fail
      go_loopg [5, 6] E.length (fun gj vb vj wx => ∃ (j nd : Nat), vb = .bool (bk E x j) ∧ vj = .int .i64 (j : Int) ∧ Hid (gj + j = E.length) ∧ wx = wo.drewN nd)
      case atStart => exact ⟨0, 0, rfl, rfl, Lib.hid (by omega), rfl⟩
      case round =>
        obtain ⟨j, nd, rfl, rfl, hj, rfl⟩ := hrel
        have hj' := hj.out
        cases gk with
        | zero =>
          have ej : j = E.length := by omega
          have ltj : decide ((j : Int) < (E.length : Int)) = false := by simp; omega
          rw [show bk E x j = back E x by rw [ej]; exact bk_all E x]
          have hxk : E[k] = x := by rw [← HX.out, ge_eq hkl]
          have hstep : (E.take (k + 1)).filter (back E) = if back E x = true then (E.take k).filter (back E) ++ [x] else (E.take k).filter (back E) := by
            rw [List.take_succ_eq_append_getElem hkl, List.filter_append, hxk]
            by_cases h : back E x = true <;> simp [h]
          have ho2 := ho.out.below (below_drewR nd)
          have hMl0 : ((E.take k).filter (back E)).length ≤ 100000 := Nat.le_trans (List.length_filter_le _ _) (by simp; omega)
          obtain ⟨M, hM⟩ : ∃ M, (E.take k).filter (back E) = M := ⟨_, rfl⟩
          rw [hM] at hstep ho2 hMl0
          have HST := Lib.hid hstep
          have e0' : (wo.drewN nd).cell? ⟨b, off + k * 3, none⟩ = some (.int .i64 x.f) := e0
          have e1' : (wo.drewN nd).cell? ⟨b, off + k * 3 + 1, none⟩ = some (.int .i64 x.t) := e1
          have e2' : (wo.drewN nd).cell? ⟨b, off + k * 3 + 2, none⟩ = some (.int .i64 x.c) := e2
          have x1' : (wo.drewN nd).cell? ⟨w.heap.size, 1, none⟩ = some (.slice (some ⟨b, off, none⟩) E.length c) := x1
          have hsd : (wo.drewN nd).heap.size = wo.heap.size := rfl
          obtain ⟨wq, hwq⟩ : ∃ wq, wo.drewN nd = wq := ⟨_, rfl⟩
          rw [hwq] at ho2 e0' e1' e2' x1' hsd ⊢
          have HO2 := Lib.hid ho2
          clear hstep ho2 ho hM hxk ej HX e0 e1 e2 x1 x0 hwq
          by_cases hb : back E x = true
          · rw [hb]
            obtain ⟨A5, c5, p1, p1a, g6, c6, W6, r1, r2, r3, r5, r7⟩ := HO2.out.app x hMl0 wo.heap.size hsd
            have R5 := Lib.hid r5
            have Sof : ∀ V : World, (∀ j, j < w.heap.size + 2 → V.heap[j]? = wq.heap[j]?) → V.cell? ⟨w.heap.size, 1, none⟩ = some (.slice (some ⟨b, off, none⟩) E.length c) ∧ V.cell? ⟨b, off + k * 3, none⟩ = some (.int .i64 x.f) ∧ V.cell? ⟨b, off + k * 3 + 1, none⟩ = some (.int .i64 x.t) ∧ V.cell? ⟨b, off + k * 3 + 2, none⟩ = some (.int .i64 x.c) := fun V hV =>
              ⟨(World.cell?_of_block (hV w.heap.size (by omega))).trans x1', (World.cell?_of_block (hV b (by omega))).trans e0', (World.cell?_of_block (hV b (by omega))).trans e1', (World.cell?_of_block (hV b (by omega))).trans e2'⟩
            have S4 := Sof wq.drew (fun _ _ => rfl)
            have S5 := Sof _ (fun j hj => (r7 j hj).1)
            have S6 := Sof _ (fun j hj => (r7 j hj).2.1)
            have S7 := Sof _ (fun j hj => (r7 j hj).2.2)
            have HST' : Hid ((E.take (k + 1)).filter (back E) = M ++ [x]) := Lib.hid (by have := HST.out; rwa [if_pos hb] at this)
            clear r5 r7 Sof hb HST
            go_wp2_with fail
            refine wp_region_held_drew (S := fun V => V.cell? ⟨w.heap.size, 1, none⟩ = some (.slice (some ⟨b, off, none⟩) E.length c) ∧ V.cell? ⟨b, off + k * 3, none⟩ = some (.int .i64 x.f) ∧ V.cell? ⟨b, off + k * 3 + 1, none⟩ = some (.int .i64 x.t) ∧ V.cell? ⟨b, off + k * 3 + 2, none⟩ = some (.int .i64 x.c)) (by kernel_rfl) S4 (fun hHeld => ?_)
            refine wpAnyH_take (i := 0) (v := ?_) rfl (by kernel_rfl) (by kernel_rfl) (by kernel_rfl) (fun _ _ _ h => h) (Or.inl ⟨by rfl, ?_⟩) (by assumption) ?_
            rotate_left
            · (intro w' hSw; (try dsimp only at hSw); go_simp; try with_reducible rfl)
            simp only [Act.put, List.getElem_toArray, List.getElem_cons_zero, List.setIfInBounds_toArray, List.set_cons_zero, List.set_cons_succ]
            refine wpAnyH_take (i := 2) (v := ?_) rfl (by kernel_rfl) (by kernel_rfl) (by kernel_rfl) (fun _ _ _ h => h) (Or.inl ⟨by rfl, ?_⟩) (by assumption) ?_
            rotate_left
            · (intro w' hSw; (try dsimp only at hSw); go_simp; try with_reducible rfl)
            simp only [Act.put, List.getElem_toArray, List.getElem_cons_zero, List.getElem_cons_succ, List.setIfInBounds_toArray, List.set_cons_zero, List.set_cons_succ]
            refine wpAnyH_take (i := 3) (v := ?_) rfl (by kernel_rfl) (by kernel_rfl) (by kernel_rfl) (fun _ _ _ h => h) (Or.inl ⟨by rfl, ?_⟩) (by assumption) ?_
            rotate_left
            · (intro w' hSw; (try dsimp only at hSw); go_simp; try with_reducible rfl)
            simp only [Act.put, List.getElem_toArray, List.getElem_cons_zero, List.getElem_cons_succ, List.setIfInBounds_toArray, List.set_cons_zero, List.set_cons_succ]
            refine wpAnyH_take (i := 4) (v := ?_) rfl (by kernel_rfl) (by kernel_rfl) (by kernel_rfl) (fun _ _ _ h => h) (Or.inl ⟨by rfl, ?_⟩) (by assumption) ?_
            rotate_left
            · (intro w' hSw; (try dsimp only at hSw); go_simp; try with_reducible rfl)
            simp only [Act.put, List.getElem_toArray, List.getElem_cons_zero, List.getElem_cons_succ, List.setIfInBounds_toArray, List.set_cons_zero, List.set_cons_succ]
            refine wpAnyH_take (i := 5) (v := ?_) rfl (by kernel_rfl) (by kernel_rfl) (by kernel_rfl) (fun _ _ _ h => h) (Or.inl ⟨by rfl, ?_⟩) (by assumption) ?_
            rotate_left
            · (intro w' hSw; (try dsimp only at hSw); go_simp; try with_reducible rfl)
            simp only [Act.put, List.getElem_toArray, List.getElem_cons_zero, List.getElem_cons_succ, List.setIfInBounds_toArray, List.set_cons_zero, List.set_cons_succ]
            refine wpAnyH_take (i := 6) (v := ?_) rfl (by kernel_rfl) (by kernel_rfl) (by kernel_rfl) (fun _ _ _ h => h) (Or.inl ⟨by rfl, ?_⟩) (by assumption) ?_
            rotate_left
            · (intro w' hSw; (try dsimp only at hSw); go_simp; try with_reducible rfl)
            simp only [Act.put, List.getElem_toArray, List.getElem_cons_zero, List.getElem_cons_succ, List.setIfInBounds_toArray, List.set_cons_zero, List.set_cons_succ]
            refine wpAnyH_ready (rs := [1, 7]) (by kernel_rfl) (by simp) ?_
            refine AllReadyH.cons rfl (fun K hK => ?_) (AllReadyH.cons rfl (fun K hK => ?_) AllReadyH.nil)
            · go_simp
              refine hK.out _ _ S4 (fun _ => ?_)
              clear hK K
              refine wpAnyH_ready (rs := [7]) (by kernel_rfl) (by simp) ?_
              refine AllReadyH.cons rfl (fun K hK => ?_) AllReadyH.nil
              go_simp
              refine hK.out _ _ S5 (fun _ => ?_)
              clear hK K
              refine wpAnyH_ready (rs := [8]) (by kernel_rfl) (by simp) ?_
              refine AllReadyH.cons rfl (fun K hK => ?_) AllReadyH.nil
              refine step_runb _ rfl (.tmp 57) (.tmp 63) 22 rfl rfl rfl r1 ?_
              refine hK.out _ _ S6 (fun _ => ?_)
              clear hK K
              refine wpAnyH_ready (rs := [9]) (by kernel_rfl) (by simp) ?_
              refine AllReadyH.cons rfl (fun K hK => ?_) AllReadyH.nil
              go_simp
              refine hK.out _ _ S6 (fun _ => ?_)
              clear hK K
              refine wpAnyH_ready (rs := [10]) (by kernel_rfl) (by simp) ?_
              refine AllReadyH.cons rfl (fun K hK => ?_) AllReadyH.nil
              go_simp
              refine hK.out _ _ S7 (fun _ => ?_)
              clear hK K
              refine wpAnyH_done (by kernel_rfl) ?_ _
              generalize W6.setCell ⟨w.heap.size + 2, 1, none⟩ (.slice (some ⟨g6, 0, none⟩) (M.length + 1) c6) = W7 at *
              clear S4 S5 S6 S7 r1 r2 r3 p1 p1a
              go_wp2
              go_roundg gf
              case measure => omega
              case rel => exact ⟨k + 1, by go_num, Lib.hid (by omega), Lib.hid (by rw [HST'.out]; exact R5.out)⟩
            · go_simp
              refine hK.out _ _ S5 (fun _ => ?_)
              clear hK K
              refine wpAnyH_ready (rs := [1]) (by kernel_rfl) (by simp) ?_
              refine AllReadyH.cons rfl (fun K hK => ?_) AllReadyH.nil
              go_simp
              refine hK.out _ _ S5 (fun _ => ?_)
              clear hK K
              refine wpAnyH_ready (rs := [8]) (by kernel_rfl) (by simp) ?_
              refine AllReadyH.cons rfl (fun K hK => ?_) AllReadyH.nil
              refine step_runb _ rfl (.tmp 57) (.tmp 63) 22 rfl rfl rfl r1 ?_
              refine hK.out _ _ S6 (fun _ => ?_)
              clear hK K
              refine wpAnyH_ready (rs := [9]) (by kernel_rfl) (by simp) ?_
              refine AllReadyH.cons rfl (fun K hK => ?_) AllReadyH.nil
              go_simp
              refine hK.out _ _ S6 (fun _ => ?_)
              clear hK K
              refine wpAnyH_ready (rs := [10]) (by kernel_rfl) (by simp) ?_
              refine AllReadyH.cons rfl (fun K hK => ?_) AllReadyH.nil
              go_simp
              refine hK.out _ _ S7 (fun _ => ?_)
              clear hK K
              refine wpAnyH_done (by kernel_rfl) ?_ _
              generalize W6.setCell ⟨w.heap.size + 2, 1, none⟩ (.slice (some ⟨g6, 0, none⟩) (M.length + 1) c6) = W7 at *
              clear S4 S5 S6 S7 r1 r2 r3 p1 p1a
              go_wp2
              go_roundg gf
              case measure => omega
              case rel => exact ⟨k + 1, by go_num, Lib.hid (by omega), Lib.hid (by rw [HST'.out]; exact R5.out)⟩
          · have hbf : back E x = false := by simpa using hb
            rw [hbf]
            have HST' : Hid ((E.take (k + 1)).filter (back E) = M) := Lib.hid (by have := HST.out; rwa [if_neg hb] at this)
            clear hb hbf HST
            go_wp2
            go_roundg gf
            case measure => omega
            case rel => exact ⟨k + 1, by go_num, Lib.hid (by omega), Lib.hid (by rw [HST'.out]; exact HO2.out)⟩
        | succ gj =>
          have hjl : j < E.length := by omega
          have ltj : (j : Int) < (E.length : Int) := by omega
          obtain ⟨b', off', eq, _, _, f0, f1, f2⟩ := HER.out.edge hjl
          simp only [Option.some.injEq, Addr.mk.injEq] at eq
          obtain ⟨rfl, rfl, _⟩ := eq
          obtain ⟨y, hy⟩ : ∃ y, ge E j = y := ⟨_, rfl⟩
          rw [hy] at f0 f1 f2
          have hyj : E[j] = y := by rw [← hy, ge_eq hjl]
          have hbs := bk_succ (x := x) hjl
          rw [hyj] at hbs
          have HBS := Lib.hid hbs
          have f0' : (wo.drewN nd).cell? ⟨b, off + j * 3, none⟩ = some (.int .i64 y.f) := f0
          clear hbs hy hyj
          cases hb : bk E x j with
          | true =>
            rw [hb] at HBS
            have hbn : bk E x (j + 1) = true := by rw [HBS.out]; rfl
            have HBN := Lib.hid hbn
            clear hbn HBS
            go_wp2_with fail
            go_quiet (fail)
            go_wp2
            go_roundg gj
            case measure => omega
            case rel => exact ⟨j + 1, _, by rw [HBN.out], by go_num, Lib.hid (by omega), rfl⟩
          | false =>
            rw [hb] at HBS
            by_cases q1 : y.f = x.t
            · have q1a : (y.f == x.t) = true := by simpa using q1
              have q1b : decide (y.f = x.t) = true := by simpa using q1
              clear q1
              by_cases q2 : y.t = x.f
              · have q2a : (y.t == x.f) = true := by simpa using q2
                have q2b : decide (y.t = x.f) = true := by simpa using q2
                clear q2
                have hbn : bk E x (j + 1) = true := by rw [HBS.out, q1a, q2a]; rfl
                have HBN := Lib.hid hbn
                clear hbn HBS
                go_wp2_with fail
                go_quiet (fail)
                go_wp2
                go_roundg gj
                case measure => omega
                case rel => exact ⟨j + 1, _, by rw [HBN.out], by go_num, Lib.hid (by omega), rfl⟩
              · have q2a : (y.t == x.f) = false := by simpa using q2
                have q2b : decide (y.t = x.f) = false := by simpa using q2
                clear q2
                have hbn : bk E x (j + 1) = false := by rw [HBS.out, q1a, q2a]; rfl
                have HBN := Lib.hid hbn
                clear hbn HBS
                go_wp2_with fail
                go_quiet (fail)
                go_wp2
                go_roundg gj
                case measure => omega
                case rel => exact ⟨j + 1, _, by rw [HBN.out], by go_num, Lib.hid (by omega), rfl⟩
            · have q1a : (y.f == x.t) = false := by simpa using q1
              have q1b : decide (y.f = x.t) = false := by simpa using q1
              clear q1
              have hbn : bk E x (j + 1) = false := by rw [HBS.out, q1a]; rfl
              have HBN := Lib.hid hbn
              clear hbn HBS
              go_wp2_with fail
              go_quiet (fail)
              go_wp2
              go_roundg gj
              case measure => omega
              case rel => exact ⟨j + 1, _, by rw [HBN.out], by go_num, Lib.hid (by omega), rfl⟩
end Go.Proofs.Ytkpmdfgjaodlaaa
