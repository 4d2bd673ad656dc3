/-
  The walk of the law SpfTwice. No statement is proved here; no conditions.
-/
import Derived.Test.YtkpmdfgjaodlaaaSame
import Derived.Test.YtkpmdfgjaodlaaaAlive
namespace Go.Proofs.Ytkpmdfgjaodlaaa
open Go.RowKit Go.Joins

theorem field24 (N : Int) (A : Option Addr) (n c : Nat) (w : World) : (Instr.field 24 (gv N A n c) 1).run Try.prog w = .ok (.slice A n c) w := by kernel_rfl

set_option maxRecDepth 100000 in
set_option maxHeartbeats 8000000 in
theorem twice_walk (N : Int) (A : Option Addr) (c : Nat) (E : List Ed) (W : World) (hE : Rd (· < W.heap.size) W A (eflat E)) :
    Calls Try.prog 8 #[gv N A E.length c] W fun e W' => e = .returned (.bool true) ∧ Below W.heap.size W W' := by
  obtain ⟨W0, hW0⟩ : ∃ W0, W.alloc (.cells #[.int .i64 N, .slice A E.length c] 24) = W0 := ⟨_, rfl⟩
  have hs0 : W0.heap.size = W.heap.size + 1 := by rw [← hW0]; simp
  have b0 : Below W.heap.size W W0 := by rw [← hW0]; exact below_alloc1 _ _
  have h0 : W0.heap[W.heap.size]? = some (.cells #[.int .i64 N, .slice A E.length c] 24 (0, 0)) := by rw [← hW0]; exact Go.heap_alloc_new _ _
  obtain ⟨c0, c1, _, _⟩ := blk2 h0
  have HE0 := Lib.hid (hE.grow b0)
  have HB0 := Lib.hid b0
  have H0 := Lib.hid h0
  clear b0 h0 hE
  by_cases hlen : E.length > 410
  · have h1 : (410 : Int) < (E.length : Int) := by omega
    go_enter Try.func8, Try.ntmps8
    go_wp2_with fail
    refine (alive_any _).mono ?_
    rintro e W1 ⟨rfl, h1⟩
    have B1 := Lib.hid (HB0.out.trans (h1.mono (by omega)))
    clear h1
    go_wp2
    go_ret
    exact ⟨rfl, B1.out⟩
  · have h1 : decide ((410 : Int) < (E.length : Int)) = false := decide_eq_false (by omega)
    have h1' : decide (410 < E.length) = false := decide_eq_false (by omega)
    have mu := mutual_any N A c E W0.heap.size W0 HE0.out (Nat.le_refl _) (by omega)
    go_enter Try.func8, Try.ntmps8
    go_wp2_with fail
    refine mu.mono ?_
    rintro e W1 ⟨A1, g1, cm, rfl, ow1, _, b1⟩
    have hs1 := b1.size
    have hml := mut_len E
    have hmm := mut_mut E
    have hmr := mut_rev E
    obtain ⟨M, hM⟩ : ∃ M, mutE E = M := ⟨_, rfl⟩
    rw [hM] at ow1 hml hmm hmr ⊢
    have h01 := (b1.block _ (by omega)).trans H0.out
    obtain ⟨W2, hW2⟩ : ∃ W2, W1.alloc (.cells #[.int .i64 N, .slice A1 M.length cm] 24) = W2 := ⟨_, rfl⟩
    have hs2 : W2.heap.size = W1.heap.size + 1 := by rw [← hW2]; simp
    have b2 : Below W1.heap.size W1 W2 := by rw [← hW2]; exact below_alloc1 _ _
    have h2 : W2.heap[W1.heap.size]? = some (.cells #[.int .i64 N, .slice A1 M.length cm] 24 (0, 0)) := by rw [← hW2]; exact Go.heap_alloc_new _ _
    have h02 := (b2.block _ (by omega)).trans h01
    have rE2 := (HE0.out.grow b1).grow b2
    have rM2 := ow1.rd3.grow b2
    have B2 := Lib.hid (HB0.out.trans ((b1.mono (by omega)).trans (b2.mono (by omega))))
    have Sof : Hid (∀ V : World, Below W2.heap.size W2 V → V.cell? ⟨W.heap.size, 0, none⟩ = some (.int .i64 N) ∧ V.cell? ⟨W.heap.size, 1, none⟩ = some (.slice A E.length c) ∧ V.cell? ⟨W1.heap.size, 0, none⟩ = some (.int .i64 N) ∧ V.cell? ⟨W1.heap.size, 1, none⟩ = some (.slice A1 M.length cm)) := Lib.hid (fun V bV => by
      obtain ⟨p0, p1, _, _⟩ := blk2 ((bV.block _ (by omega)).trans h02)
      obtain ⟨q0, q1, _, _⟩ := blk2 ((bV.block _ (by omega)).trans h2)
      exact ⟨p0, p1, q0, q1⟩)
    have RE : Hid (∀ V : World, Below W2.heap.size W2 V → Rd (· < V.heap.size) V A (eflat E)) := Lib.hid (fun V bV => rE2.grow bV)
    have RM : Hid (∀ V : World, Below W2.heap.size W2 V → Rd (· < V.heap.size) V A1 (eflat M)) := Lib.hid (fun V bV => rM2.grow bV)
    have BD : Hid (Below W2.heap.size W2 W2.drew) := Lib.hid ⟨rfl, rfl, rfl, Nat.le_refl _, fun _ _ => rfl⟩
    have hmli : decide ((M.length : Int) ≤ (E.length : Int)) = true := decide_eq_true (by omega)
    have hmli2 : decide (M.length ≤ E.length) = true := decide_eq_true hml
    have hmm1 := Lib.hid hmm
    have hmr1 := Lib.hid hmr
    have hlE : E.length ≤ 100000 := by omega
    have hlM : M.length ≤ 100000 := by omega
    clear hml
    clear mu ow1 b1 b2 h01 h2 h02 rE2 rM2 hmm hmr h1 h1' hlen c0 c1 hs0 hs1 hs2 hM H0 HE0 HB0 hW0
    go_wp2_with fail
    refine wp_region_held_drew (S := fun V => V.cell? ⟨W.heap.size, 0, none⟩ = some (.int .i64 N) ∧ V.cell? ⟨W.heap.size, 1, none⟩ = some (.slice A E.length c) ∧ V.cell? ⟨W1.heap.size, 0, none⟩ = some (.int .i64 N) ∧ V.cell? ⟨W1.heap.size, 1, none⟩ = some (.slice A1 M.length cm)) (by kernel_rfl) (Sof.out _ BD.out) (fun hHeld => ?_)
    refine wpAnyH_ready (rs := [0]) (by kernel_rfl) (by simp) ?_
    refine AllReadyH.cons rfl (fun K hK => ?_) AllReadyH.nil
    go_simp
    go_at_call 9
    refine (alive_any _).mono ?_
    rintro e V1 ⟨rfl, q⟩
    have BV1 := Lib.hid (BD.out.trans (q.mono BD.out.size))
    clear q
    refine hK.out _ _ (Sof.out V1 BV1.out) (fun _ => ?_)
    clear hK K
    refine wpAnyH_take (i := 1) (v := ?_) rfl (by kernel_rfl) (by kernel_rfl) (by kernel_rfl) (fun _ _ _ h => h) (Or.inl ⟨by rfl, ?_⟩) (by assumption) ?_
    rotate_left
    · (intro w' hSw; (try dsimp only at hSw); go_simp; try with_reducible rfl)
    simp only [Act.put, List.getElem_toArray, List.getElem_cons_zero, List.getElem_cons_succ, List.setIfInBounds_toArray, List.set_cons_zero, List.set_cons_succ]
    refine wpAnyH_take (i := 2) (v := ?_) rfl (by kernel_rfl) (by kernel_rfl) (by kernel_rfl) (fun _ _ _ h => h) (Or.inl ⟨by rfl, ?_⟩) (by assumption) ?_
    rotate_left
    · (intro w' hSw; (try dsimp only at hSw); go_simp; try with_reducible rfl)
    simp only [Act.put, List.getElem_toArray, List.getElem_cons_zero, List.getElem_cons_succ, List.setIfInBounds_toArray, List.set_cons_zero, List.set_cons_succ]
    refine wpAnyH_take (i := 5) (v := ?_) rfl (by kernel_rfl) (by kernel_rfl) (by kernel_rfl) (fun _ _ _ h => h) (Or.inl ⟨by rfl, ?_⟩) (by assumption) ?_
    rotate_left
    · (intro w' hSw; (try dsimp only at hSw); go_simp; try with_reducible rfl)
    simp only [Act.put, List.getElem_toArray, List.getElem_cons_zero, List.getElem_cons_succ, List.setIfInBounds_toArray, List.set_cons_zero, List.set_cons_succ]
    refine wpAnyH_ready (rs := [3]) (by kernel_rfl) (by simp) ?_
    refine AllReadyH.cons rfl (fun K hK => ?_) AllReadyH.nil
    go_simp
    go_at_call 22
    refine (mutual_any N A1 cm M V1.heap.size V1 (RM.out V1 BV1.out) (Nat.le_refl _) hlM).mono ?_
    rintro e V2 ⟨A2, g2, c2, rfl, o2, _, q⟩
    have BV2 := Lib.hid (BV1.out.trans (q.mono BV1.out.size))
    rw [hmm1.out] at o2 ⊢
    have R2 := Lib.hid o2.rd3
    clear q o2
    refine hK.out _ _ (Sof.out V2 BV2.out) (fun _ => ?_)
    clear hK K
    refine wpAnyH_ready (rs := [4]) (by kernel_rfl) (by simp) ?_
    refine AllReadyH.cons rfl (fun K hK => ?_) AllReadyH.nil
    go_simp
    go_at_call 12
    refine (plain_any N A2 M.length c2 V2).mono ?_
    rintro e V3 ⟨rfl, q⟩
    have BV3 := Lib.hid (BV2.out.trans (q.mono BV2.out.size))
    have R3 := Lib.hid (R2.out.grow q)
    clear q R2
    refine hK.out _ _ (Sof.out V3 BV3.out) (fun _ => ?_)
    clear hK K
    refine wpAnyH_ready (rs := [6]) (by kernel_rfl) (by simp) ?_
    refine AllReadyH.cons rfl (fun K hK => ?_) AllReadyH.nil
    go_simp
    go_at_call 12
    refine (plain_any N A1 M.length cm V3).mono ?_
    rintro e V4 ⟨rfl, q⟩
    have BV4 := Lib.hid (BV3.out.trans (q.mono BV3.out.size))
    have R4 := Lib.hid (R3.out.grow q)
    clear q R3
    refine hK.out _ _ (Sof.out V4 BV4.out) (fun _ => ?_)
    clear hK K
    refine wpAnyH_ready (rs := [7]) (by kernel_rfl) (by simp) ?_
    refine AllReadyH.cons rfl (fun K hK => ?_) AllReadyH.nil
    go_simp
    go_at_call 19
    refine (same_any N A2 A1 c2 cm M V4 R4.out (RM.out V4 BV4.out) hlM).mono ?_
    rintro e V5 ⟨rfl, q⟩
    have BV5 := Lib.hid (BV4.out.trans (q.mono BV4.out.size))
    clear q R4
    refine hK.out _ _ (Sof.out V5 BV5.out) (fun _ => ?_)
    clear hK K
    refine wpAnyH_take (i := 8) (v := ?_) rfl (by kernel_rfl) (by kernel_rfl) (by kernel_rfl) (fun _ _ _ h => h) (Or.inl ⟨by rfl, ?_⟩) (by assumption) ?_
    rotate_left
    · (intro w' hSw; (try dsimp only at hSw); go_simp; try with_reducible rfl)
    simp only [Act.put, List.getElem_toArray, List.getElem_cons_zero, List.getElem_cons_succ, List.setIfInBounds_toArray, List.set_cons_zero, List.set_cons_succ]
    refine wpAnyH_take (i := 9) (v := ?_) rfl (by kernel_rfl) (by kernel_rfl) (by kernel_rfl) (fun _ _ _ h => h) (Or.inl ⟨by rfl, ?_⟩) (by assumption) ?_
    rotate_left
    · (intro w' hSw; (try dsimp only at hSw); go_simp; try with_reducible rfl)
    simp only [Act.put, List.getElem_toArray, List.getElem_cons_zero, List.getElem_cons_succ, List.setIfInBounds_toArray, List.set_cons_zero, List.set_cons_succ]
    refine wpAnyH_take (i := 10) (v := ?_) rfl (by kernel_rfl) (by kernel_rfl) (by kernel_rfl) (fun _ _ _ h => h) (Or.inl ⟨by rfl, ?_⟩) (by assumption) ?_
    rotate_left
    · (intro w' hSw; (try dsimp only at hSw); go_simp; try with_reducible rfl)
    simp only [Act.put, List.getElem_toArray, List.getElem_cons_zero, List.getElem_cons_succ, List.setIfInBounds_toArray, List.set_cons_zero, List.set_cons_succ]
    refine wpAnyH_take (i := 14) (v := ?_) rfl (by kernel_rfl) (by kernel_rfl) (by kernel_rfl) (fun _ _ _ h => h) (Or.inl ⟨by rfl, ?_⟩) (by assumption) ?_
    rotate_left
    · (intro w' hSw; (try dsimp only at hSw); go_simp; try with_reducible rfl)
    simp only [Act.put, List.getElem_toArray, List.getElem_cons_zero, List.getElem_cons_succ, List.setIfInBounds_toArray, List.set_cons_zero, List.set_cons_succ]
    refine wpAnyH_ready (rs := [11]) (by kernel_rfl) (by simp) ?_
    refine AllReadyH.cons rfl (fun K hK => ?_) AllReadyH.nil
    go_simp
    go_at_call 24
    refine (reverse_any N A c E V5.heap.size V5 (RE.out V5 BV5.out) (Nat.le_refl _) hlE).mono ?_
    rintro e V6 ⟨g6, rfl, r6, _, q⟩
    have BV6 := Lib.hid (BV5.out.trans (q.mono BV5.out.size))
    have R6 := Lib.hid (r6.rd.more (T := (· < V6.heap.size)) (fun j _ hl => hl))
    clear q r6
    refine hK.out _ _ (Sof.out V6 BV6.out) (fun _ => ?_)
    clear hK K
    have rc := reverse_any N (some ⟨g6, 0, none⟩) E.length (E.map Ed.rev) V6.heap.size V6 R6.out (Nat.le_refl _) (by simpa using hlE)
    rw [List.length_map] at rc
    refine wpAnyH_ready (rs := [12]) (by kernel_rfl) (by simp) ?_
    refine AllReadyH.cons rfl (fun K hK => ?_) AllReadyH.nil
    go_simp
    go_at_call 24
    refine (rc).mono ?_
    rintro e V7 ⟨g7, rfl, r7, _, q⟩
    have BV7 := Lib.hid (BV6.out.trans (q.mono BV6.out.size))
    rw [List.length_map] at r7 ⊢
    rw [rev_rev] at r7
    have R7 := Lib.hid (r7.rd.more (T := (· < V7.heap.size)) (fun j _ hl => hl))
    clear q r7 R6 rc
    refine hK.out _ _ (Sof.out V7 BV7.out) (fun _ => ?_)
    clear hK K
    refine wpAnyH_ready (rs := [13]) (by kernel_rfl) (by simp) ?_
    refine AllReadyH.cons rfl (fun K hK => ?_) AllReadyH.nil
    go_simp
    go_at_call 12
    refine (plain_any N (some ⟨g7, 0, none⟩) E.length E.length V7).mono ?_
    rintro e V8 ⟨rfl, q⟩
    have BV8 := Lib.hid (BV7.out.trans (q.mono BV7.out.size))
    have R8 := Lib.hid (R7.out.grow q)
    clear q R7
    refine hK.out _ _ (Sof.out V8 BV8.out) (fun _ => ?_)
    clear hK K
    refine wpAnyH_ready (rs := [15]) (by kernel_rfl) (by simp) ?_
    refine AllReadyH.cons rfl (fun K hK => ?_) AllReadyH.nil
    go_simp
    go_at_call 12
    refine (plain_any N A E.length c V8).mono ?_
    rintro e V9 ⟨rfl, q⟩
    have BV9 := Lib.hid (BV8.out.trans (q.mono BV8.out.size))
    have R9 := Lib.hid (R8.out.grow q)
    clear q R8
    refine hK.out _ _ (Sof.out V9 BV9.out) (fun _ => ?_)
    clear hK K
    refine wpAnyH_ready (rs := [16]) (by kernel_rfl) (by simp) ?_
    refine AllReadyH.cons rfl (fun K hK => ?_) AllReadyH.nil
    go_simp
    go_at_call 19
    refine (same_any N (some ⟨g7, 0, none⟩) A E.length c E V9 R9.out (RE.out V9 BV9.out) hlE).mono ?_
    rintro e V10 ⟨rfl, q⟩
    have BV10 := Lib.hid (BV9.out.trans (q.mono BV9.out.size))
    clear q R9
    refine hK.out _ _ (Sof.out V10 BV10.out) (fun _ => ?_)
    clear hK K
    refine wpAnyH_take (i := 17) (v := ?_) rfl (by kernel_rfl) (by kernel_rfl) (by kernel_rfl) (fun _ _ _ h => h) (Or.inl ⟨by rfl, ?_⟩) (by assumption) ?_
    rotate_left
    · (intro w' hSw; (try dsimp only at hSw); go_simp; try with_reducible rfl)
    simp only [Act.put, List.getElem_toArray, List.getElem_cons_zero, List.getElem_cons_succ, List.setIfInBounds_toArray, List.set_cons_zero, List.set_cons_succ]
    refine wpAnyH_take (i := 18) (v := ?_) rfl (by kernel_rfl) (by kernel_rfl) (by kernel_rfl) (fun _ _ _ h => h) (Or.inl ⟨by rfl, ?_⟩) (by assumption) ?_
    rotate_left
    · (intro w' hSw; (try dsimp only at hSw); go_simp; try with_reducible rfl)
    simp only [Act.put, List.getElem_toArray, List.getElem_cons_zero, List.getElem_cons_succ, List.setIfInBounds_toArray, List.set_cons_zero, List.set_cons_succ]
    refine wpAnyH_take (i := 19) (v := ?_) rfl (by kernel_rfl) (by kernel_rfl) (by kernel_rfl) (fun _ _ _ h => h) (Or.inl ⟨by rfl, ?_⟩) (by assumption) ?_
    rotate_left
    · (intro w' hSw; (try dsimp only at hSw); go_simp; try with_reducible rfl)
    simp only [Act.put, List.getElem_toArray, List.getElem_cons_zero, List.getElem_cons_succ, List.setIfInBounds_toArray, List.set_cons_zero, List.set_cons_succ]
    refine wpAnyH_take (i := 20) (v := ?_) rfl (by kernel_rfl) (by kernel_rfl) (by kernel_rfl) (fun _ _ _ h => h) (Or.inl ⟨by rfl, ?_⟩) (by assumption) ?_
    rotate_left
    · (intro w' hSw; (try dsimp only at hSw); go_simp; try with_reducible rfl)
    simp only [Act.put, List.getElem_toArray, List.getElem_cons_zero, List.getElem_cons_succ, List.setIfInBounds_toArray, List.set_cons_zero, List.set_cons_succ]
    refine wpAnyH_take (i := 21) (v := ?_) rfl (by kernel_rfl) (by kernel_rfl) (by kernel_rfl) (fun _ _ _ h => h) (Or.inl ⟨by rfl, ?_⟩) (by assumption) ?_
    rotate_left
    · (intro w' hSw; (try dsimp only at hSw); go_simp; try with_reducible rfl)
    simp only [Act.put, List.getElem_toArray, List.getElem_cons_zero, List.getElem_cons_succ, List.setIfInBounds_toArray, List.set_cons_zero, List.set_cons_succ]
    refine wpAnyH_take (i := 22) (v := ?_) rfl (by kernel_rfl) (by kernel_rfl) (by kernel_rfl) (fun _ _ _ h => h) (Or.inl ⟨by rfl, ?_⟩) (by assumption) ?_
    rotate_left
    · (intro w' hSw; (try dsimp only at hSw); go_simp; try with_reducible rfl)
    simp only [Act.put, List.getElem_toArray, List.getElem_cons_zero, List.getElem_cons_succ, List.setIfInBounds_toArray, List.set_cons_zero, List.set_cons_succ]
    refine wpAnyH_take (i := 23) (v := ?_) rfl (by kernel_rfl) (by kernel_rfl) (by kernel_rfl) (fun _ _ _ h => h) (Or.inl ⟨by rfl, ?_⟩) (by assumption) ?_
    rotate_left
    · (intro w' hSw; (try dsimp only at hSw); go_simp; try with_reducible rfl)
    simp only [Act.put, List.getElem_toArray, List.getElem_cons_zero, List.getElem_cons_succ, List.setIfInBounds_toArray, List.set_cons_zero, List.set_cons_succ]
    refine wpAnyH_take (i := 24) (v := ?_) rfl (by kernel_rfl) (by kernel_rfl) (by kernel_rfl) (fun _ _ _ h => h) (Or.inl ⟨by rfl, ?_⟩) (by assumption) ?_
    rotate_left
    · (intro w' hSw; (try dsimp only at hSw); go_simp; try with_reducible rfl)
    simp only [Act.put, List.getElem_toArray, List.getElem_cons_zero, List.getElem_cons_succ, List.setIfInBounds_toArray, List.set_cons_zero, List.set_cons_succ]
    refine wpAnyH_take (i := 25) (v := ?_) rfl (by kernel_rfl) (by kernel_rfl) (by kernel_rfl) (fun _ _ _ h => h) (Or.inl ⟨by rfl, ?_⟩) (by assumption) ?_
    rotate_left
    · (intro w' hSw; (try dsimp only at hSw); go_simp; try with_reducible rfl)
    simp only [Act.put, List.getElem_toArray, List.getElem_cons_zero, List.getElem_cons_succ, List.setIfInBounds_toArray, List.set_cons_zero, List.set_cons_succ]
    refine wpAnyH_take (i := 26) (v := ?_) rfl (by kernel_rfl) (by kernel_rfl) (by kernel_rfl) (fun _ _ _ h => h) (Or.inl ⟨by rfl, ?_⟩) (by assumption) ?_
    rotate_left
    · (intro w' hSw; (try dsimp only at hSw); go_simp; try with_reducible rfl)
    simp only [Act.put, List.getElem_toArray, List.getElem_cons_zero, List.getElem_cons_succ, List.setIfInBounds_toArray, List.set_cons_zero, List.set_cons_succ]
    refine wpAnyH_take (i := 27) (v := ?_) rfl (by kernel_rfl) (by kernel_rfl) (by kernel_rfl) (fun _ _ _ h => h) (Or.inl ⟨by rfl, ?_⟩) (by assumption) ?_
    rotate_left
    · (intro w' hSw; (try dsimp only at hSw); go_simp; try with_reducible rfl)
    simp only [Act.put, List.getElem_toArray, List.getElem_cons_zero, List.getElem_cons_succ, List.setIfInBounds_toArray, List.set_cons_zero, List.set_cons_succ]
    refine wpAnyH_take (i := 28) (v := ?_) rfl (by kernel_rfl) (by kernel_rfl) (by kernel_rfl) (fun _ _ _ h => h) (Or.inl ⟨by rfl, ?_⟩) (by assumption) ?_
    rotate_left
    · (intro w' hSw; (try dsimp only at hSw); go_simp; try with_reducible rfl)
    simp only [Act.put, List.getElem_toArray, List.getElem_cons_zero, List.getElem_cons_succ, List.setIfInBounds_toArray, List.set_cons_zero, List.set_cons_succ]
    refine wpAnyH_take (i := 33) (v := ?_) rfl (by kernel_rfl) (by kernel_rfl) (by kernel_rfl) (fun _ _ _ h => h) (Or.inl ⟨by rfl, ?_⟩) (by assumption) ?_
    rotate_left
    · (intro w' hSw; (try dsimp only at hSw); go_simp; try with_reducible rfl)
    simp only [Act.put, List.getElem_toArray, List.getElem_cons_zero, List.getElem_cons_succ, List.setIfInBounds_toArray, List.set_cons_zero, List.set_cons_succ]
    refine wpAnyH_take (i := 34) (v := ?_) rfl (by kernel_rfl) (by kernel_rfl) (by kernel_rfl) (fun _ _ _ h => h) (Or.inl ⟨by rfl, ?_⟩) (by assumption) ?_
    rotate_left
    · (intro w' hSw; (try dsimp only at hSw); go_simp; try with_reducible rfl)
    simp only [Act.put, List.getElem_toArray, List.getElem_cons_zero, List.getElem_cons_succ, List.setIfInBounds_toArray, List.set_cons_zero, List.set_cons_succ]
    refine wpAnyH_take (i := 35) (v := ?_) rfl (by kernel_rfl) (by kernel_rfl) (by kernel_rfl) (fun _ _ _ h => h) (Or.inl ⟨by rfl, ?_⟩) (by assumption) ?_
    rotate_left
    · (intro w' hSw; (try dsimp only at hSw); go_simp; try with_reducible rfl)
    simp only [Act.put, List.getElem_toArray, List.getElem_cons_zero, List.getElem_cons_succ, List.setIfInBounds_toArray, List.set_cons_zero, List.set_cons_succ]
    refine wpAnyH_ready (rs := [29]) (by kernel_rfl) (by simp) ?_
    refine AllReadyH.cons rfl (fun K hK => ?_) AllReadyH.nil
    go_simp
    go_at_call 24
    refine (reverse_any N A1 cm M V10.heap.size V10 (RM.out V10 BV10.out) (Nat.le_refl _) hlM).mono ?_
    rintro e V11 ⟨g11, rfl, r11, _, q⟩
    have BV11 := Lib.hid (BV10.out.trans (q.mono BV10.out.size))
    have R11 := Lib.hid (r11.rd.more (T := (· < V11.heap.size)) (fun j _ hl => hl))
    clear q r11
    refine hK.out _ _ (Sof.out V11 BV11.out) (fun _ => ?_)
    clear hK K
    have rc := mutual_any N (some ⟨g11, 0, none⟩) M.length (M.map Ed.rev) V11.heap.size V11 R11.out (Nat.le_refl _) (by simpa using hlM)
    rw [List.length_map] at rc
    refine wpAnyH_ready (rs := [30]) (by kernel_rfl) (by simp) ?_
    refine AllReadyH.cons rfl (fun K hK => ?_) AllReadyH.nil
    go_simp
    go_at_call 22
    refine (rc).mono ?_
    rintro e V12 ⟨A12, g12, c12, rfl, o12, _, q⟩
    have BV12 := Lib.hid (BV11.out.trans (q.mono BV11.out.size))
    rw [hmr1.out, List.length_map]
    clear q o12 R11 rc
    have hfd := fun w => field24 N A12 M.length c12 w
    refine hK.out _ _ (Sof.out V12 BV12.out) (fun _ => ?_)
    clear hK K
    refine wpAnyH_take (i := 31) (v := ?_) rfl (by kernel_rfl) (by kernel_rfl) (by kernel_rfl) (fun _ _ _ h => h) (Or.inl ⟨by rfl, ?_⟩) (by assumption) ?_
    rotate_left
    · (intro w' hSw; (try dsimp only at hSw); go_simp; try with_reducible rfl)
    simp only [Act.put, List.getElem_toArray, List.getElem_cons_zero, List.getElem_cons_succ, List.setIfInBounds_toArray, List.set_cons_zero, List.set_cons_succ]
    refine wpAnyH_take (i := 32) (v := ?_) rfl (by kernel_rfl) (by kernel_rfl) (by kernel_rfl) (fun _ _ _ h => h) (Or.inl ⟨by rfl, ?_⟩) (by assumption) ?_
    rotate_left
    · (intro w' hSw; (try dsimp only at hSw); go_simp; try with_reducible rfl)
    simp only [Act.put, List.getElem_toArray, List.getElem_cons_zero, List.getElem_cons_succ, List.setIfInBounds_toArray, List.set_cons_zero, List.set_cons_succ]
    refine wpAnyH_take (i := 36) (v := ?_) rfl (by kernel_rfl) (by kernel_rfl) (by kernel_rfl) (fun _ _ _ h => h) (Or.inl ⟨by rfl, ?_⟩) (by assumption) ?_
    rotate_left
    · (intro w' hSw; (try dsimp only at hSw); go_simp; try with_reducible rfl)
    simp only [Act.put, List.getElem_toArray, List.getElem_cons_zero, List.getElem_cons_succ, List.setIfInBounds_toArray, List.set_cons_zero, List.set_cons_succ]
    refine wpAnyH_take (i := 37) (v := ?_) rfl (by kernel_rfl) (by kernel_rfl) (by kernel_rfl) (fun _ _ _ h => h) (Or.inl ⟨by rfl, ?_⟩) (by assumption) ?_
    rotate_left
    · (intro w' hSw; (try dsimp only at hSw); go_simp; try with_reducible rfl)
    simp only [Act.put, List.getElem_toArray, List.getElem_cons_zero, List.getElem_cons_succ, List.setIfInBounds_toArray, List.set_cons_zero, List.set_cons_succ]
    refine wpAnyH_take (i := 38) (v := ?_) rfl (by kernel_rfl) (by kernel_rfl) (by kernel_rfl) (fun _ _ _ h => h) (Or.inl ⟨by rfl, ?_⟩) (by assumption) ?_
    rotate_left
    · (intro w' hSw; (try dsimp only at hSw); go_simp; try with_reducible rfl)
    simp only [Act.put, List.getElem_toArray, List.getElem_cons_zero, List.getElem_cons_succ, List.setIfInBounds_toArray, List.set_cons_zero, List.set_cons_succ]
    refine wpAnyH_done (by kernel_rfl) ?_ _
    have F := Lib.hid (B2.out.trans (BV12.out.mono (Nat.le_trans B2.out.size (Nat.le_refl _))))
    go_wp2
    go_ret
    exact ⟨rfl, F.out⟩
end Go.Proofs.Ytkpmdfgjaodlaaa
