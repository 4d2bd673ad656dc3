/-
  The walk of the law SpfEdges. No statement is proved here; no conditions.
-/
import Derived.Test.YtkpmdfgjaodlaaaRMut
import Derived.Test.YtkpmdfgjaodlaaaRTight
import Derived.Test.YtkpmdfgjaodlaaaAlive
namespace Go.Proofs.Ytkpmdfgjaodlaaa
open Go.RowKit Go.Joins

theorem below_drw {w : World} (n : Nat) : Below w.heap.size w (w.drewN n) := ⟨rfl, rfl, rfl, Nat.le_refl _, fun _ _ => rfl⟩
set_option maxRecDepth 100000 in
set_option maxHeartbeats 8000000 in
theorem edges_walk (N : Int) (A : Option Addr) (c : Nat) (E : List Ed) (A2 : Option Addr) (c2 : Nat) (D : List Int) (W : World) (hE : Rd (· < W.heap.size) W A (eflat E)) (hD : Rd (· < W.heap.size) W A2 (its D)) :
    Calls Try.prog 4 #[gv N A E.length c, .slice A2 D.length c2] W fun e W' => e = .returned (.bool true) ∧ Below W.heap.size W W' := by
  obtain ⟨W0, hW0⟩ : ∃ W0, W.alloc (.cells #[.int .i64 N, .slice A E.length c] 24) = W0 := ⟨_, rfl⟩
  have hs0 : W0.heap.size = W.heap.size + 1 := by rw [← hW0]; simp
  have b0 : Below W.heap.size W W0 := by rw [← hW0]; exact below_alloc1 _ _
  have h0 : W0.heap[W.heap.size]? = some (.cells #[.int .i64 N, .slice A E.length c] 24 (0, 0)) := by rw [← hW0]; exact Go.heap_alloc_new _ _
  obtain ⟨c0, c1, _, _⟩ := blk2 h0
  have HE0 := Lib.hid (hE.grow b0)
  have HD0 := Lib.hid (hD.grow b0)
  have HB0 := Lib.hid b0
  have H0 := Lib.hid h0
  clear b0 h0 hE hD
  by_cases hlen : E.length > 410 ∨ D.length > 100
  · by_cases q1 : E.length > 410
    · have h1 : decide ((E.length : Int) > 410) = true := by simp; omega
      go_enter Try.func4, Try.ntmps4
      go_wp2_with fail
      refine (alive_any _).mono ?_
      rintro e W1 ⟨rfl, h1⟩
      have B1 := Lib.hid (HB0.out.trans (h1.mono (by omega)))
      clear h1
      go_wp2
      go_ret
      exact ⟨rfl, B1.out⟩
    · have h1 : decide ((E.length : Int) > 410) = false := by simp; omega
      have h2 : decide ((D.length : Int) > 100) = true := by simp; omega
      go_enter Try.func4, Try.ntmps4
      go_wp2_with fail
      refine (alive_any _).mono ?_
      rintro e W1 ⟨rfl, h1⟩
      have B1 := Lib.hid (HB0.out.trans (h1.mono (by omega)))
      clear h1
      go_wp2
      go_ret
      exact ⟨rfl, B1.out⟩
  · have h1 : decide ((E.length : Int) > 410) = false := by simp; omega
    have h2 : decide ((D.length : Int) > 100) = false := by simp; omega
    have hlE : E.length ≤ 100000 := by omega
    have Sof : Hid (∀ V : World, Below W0.heap.size W0 V → V.cell? ⟨W.heap.size, 0, none⟩ = some (.int .i64 N) ∧ V.cell? ⟨W.heap.size, 1, none⟩ = some (.slice A E.length c)) := Lib.hid (fun V bV => by
      obtain ⟨p0, p1, _, _⟩ := blk2 ((bV.block _ (by omega)).trans H0.out)
      exact ⟨p0, p1⟩)
    have RE : Hid (∀ V : World, Below W0.heap.size W0 V → Rd (· < V.heap.size) V A (eflat E)) := Lib.hid (fun V bV => HE0.out.grow bV)
    have RD : Hid (∀ V : World, Below W0.heap.size W0 V → Rd (· < V.heap.size) V A2 (its D)) := Lib.hid (fun V bV => HD0.out.grow bV)
    have BD : Hid (Below W0.heap.size W0 W0.drew) := Lib.hid ⟨rfl, rfl, rfl, Nat.le_refl _, fun _ _ => rfl⟩
    clear hlen HE0 HD0 H0 hs0
    obtain ⟨L, hL⟩ : ∃ L, E.map (tgt D) = L := ⟨_, rfl⟩
    have hLl : L.length ≤ 100000 := by rw [← hL]; simpa using hlE
    go_enter Try.func4, Try.ntmps4
    go_wp2_with fail
    clear hW0
    refine wp_region_held_drew (S := fun V => V.cell? ⟨W.heap.size, 0, none⟩ = some (.int .i64 N) ∧ V.cell? ⟨W.heap.size, 1, none⟩ = some (.slice A E.length c)) (by kernel_rfl) (Sof.out _ BD.out) (fun hHeld => ?_)
    refine wpAnyH_take (i := 0) (v := ?_) rfl (by kernel_rfl) (by kernel_rfl) (by kernel_rfl) (fun _ _ _ h => h) (Or.inl ⟨by rfl, ?_⟩) (by assumption) ?_
    rotate_left
    · (intro w' hSw; (try dsimp only at hSw); go_simp; try with_reducible rfl)
    simp only [Act.put, List.getElem_toArray, List.getElem_cons_zero, List.setIfInBounds_toArray, List.set_cons_zero, List.set_cons_succ]
    refine wpAnyH_take (i := 1) (v := ?_) rfl (by kernel_rfl) (by kernel_rfl) (by kernel_rfl) (fun _ _ _ h => h) (Or.inl ⟨by rfl, ?_⟩) (by assumption) ?_
    rotate_left
    · (intro w' hSw; (try dsimp only at hSw); go_simp; try with_reducible rfl)
    simp only [Act.put, List.getElem_toArray, List.getElem_cons_zero, List.getElem_cons_succ, List.setIfInBounds_toArray, List.set_cons_zero, List.set_cons_succ]
    refine wpAnyH_take (i := 3) (v := ?_) rfl (by kernel_rfl) (by kernel_rfl) (by kernel_rfl) (fun _ _ _ h => h) (Or.inl ⟨by rfl, ?_⟩) (by assumption) ?_
    rotate_left
    · (intro w' hSw; (try dsimp only at hSw); go_simp; try with_reducible rfl)
    simp only [Act.put, List.getElem_toArray, List.getElem_cons_zero, List.getElem_cons_succ, List.setIfInBounds_toArray, List.set_cons_zero, List.set_cons_succ]
    refine wpAnyH_take (i := 5) (v := ?_) rfl (by kernel_rfl) (by kernel_rfl) (by kernel_rfl) (fun _ _ _ h => h) (Or.inl ⟨by rfl, ?_⟩) (by assumption) ?_
    rotate_left
    · (intro w' hSw; (try dsimp only at hSw); go_simp; try with_reducible rfl)
    simp only [Act.put, List.getElem_toArray, List.getElem_cons_zero, List.getElem_cons_succ, List.setIfInBounds_toArray, List.set_cons_zero, List.set_cons_succ]
    refine wpAnyH_ready (rs := [2]) (by kernel_rfl) (by simp) ?_
    refine AllReadyH.cons rfl (fun K hK => ?_) AllReadyH.nil
    go_simp
    go_at_call 20
    refine (tight_any N A c E W0.drew.heap.size A2 c2 D W0.drew (RE.out _ BD.out) (RD.out _ BD.out) (Nat.le_refl _) hlE).mono ?_
    rintro e V1 ⟨g1, rfl, r1, _, q⟩
    rw [hL] at r1 ⊢
    have BV1 := Lib.hid (BD.out.trans (q.mono BD.out.size))
    have R1 := Lib.hid (r1.rd.more (T := (· < V1.heap.size)) (fun j _ hl => hl))
    clear q r1
    refine hK.out _ _ (Sof.out V1 BV1.out) (fun _ => ?_)
    clear hK K
    refine wpAnyH_ready (rs := [4]) (by kernel_rfl) (by simp) ?_
    refine AllReadyH.cons rfl (fun K hK => ?_) AllReadyH.nil
    go_simp
    go_at_call 12
    refine (plain_any N A E.length c V1).mono ?_
    rintro e V2 ⟨rfl, q⟩
    have BV2 := Lib.hid (BV1.out.trans (q.mono BV1.out.size))
    have R2 := Lib.hid (R1.out.grow q)
    clear q R1
    refine hK.out _ _ (Sof.out V2 BV2.out) (fun _ => ?_)
    clear hK K
    refine wpAnyH_ready (rs := [6]) (by kernel_rfl) (by simp) ?_
    refine AllReadyH.cons rfl (fun K hK => ?_) AllReadyH.nil
    go_simp
    go_at_call 21
    refine (rtight_any N A c E V2.heap.size A2 c2 D V2 (RE.out _ BV2.out) (RD.out _ BV2.out) (Nat.le_refl _) hlE).mono ?_
    rintro e V3 ⟨g3, c3, rfl, r3, _, q⟩
    rw [hL] at r3 ⊢
    have BV3 := Lib.hid (BV2.out.trans (q.mono BV2.out.size))
    have R3 := Lib.hid (R2.out.grow q)
    have R4 := Lib.hid (r3.rd.more (T := (· < V3.heap.size)) (fun j _ hl => hl))
    clear q r3 R2
    refine hK.out _ _ (Sof.out V3 BV3.out) (fun _ => ?_)
    clear hK K
    refine wpAnyH_take (i := 7) (v := ?_) rfl (by kernel_rfl) (by kernel_rfl) (by kernel_rfl) (fun _ _ _ h => h) (Or.inl ⟨by rfl, ?_⟩) (by assumption) ?_
    rotate_left
    · (intro w' hSw; (try dsimp only at hSw); go_simp; try with_reducible rfl)
    simp only [Act.put, List.getElem_toArray, List.getElem_cons_zero, List.getElem_cons_succ, List.setIfInBounds_toArray, List.set_cons_zero, List.set_cons_succ]
    refine wpAnyH_take (i := 8) (v := ?_) rfl (by kernel_rfl) (by kernel_rfl) (by kernel_rfl) (fun _ _ _ h => h) (Or.inl ⟨by rfl, ?_⟩) (by assumption) ?_
    rotate_left
    · (intro w' hSw; (try dsimp only at hSw); go_simp; try with_reducible rfl)
    simp only [Act.put, List.getElem_toArray, List.getElem_cons_zero, List.getElem_cons_succ, List.setIfInBounds_toArray, List.set_cons_zero, List.set_cons_succ]
    refine wpAnyH_done (by kernel_rfl) ?_ _
    clear BV1 BV2
    have hne : ((L.length : Int) != (L.length : Int)) = false := by simp
    go_wp2_with fail
    go_loopg [7] L.length (fun gf v wx => ∃ k nd, v = .int .i64 ((k : Nat) : Int) ∧ Hid (gf + k = L.length) ∧ wx = V3.drewN nd)
    case atStart => exact ⟨0, 0, rfl, Lib.hid (by omega), rfl⟩
    case round =>
      obtain ⟨k, nd, rfl, hk, rfl⟩ := hrel
      have hk' := hk.out
      cases gk with
      | zero =>
        have lt0 : decide ((k : Int) < (L.length : Int)) = false := by simp; omega
        have BV4 := Lib.hid (BV3.out.trans ((below_drw (w := V3) nd).mono BV3.out.size))
        obtain ⟨V4, hV4⟩ : ∃ V4, V3.drewN nd = V4 := ⟨_, rfl⟩
        rw [hV4] at BV4 ⊢
        have BE : Hid (Below W0.heap.size W0 V4.drew) := Lib.hid (BV4.out.trans ((below_drw (w := V4) 1).mono BV4.out.size))
        clear hV4 R3 R4 BV3
        go_wp2_with fail
        refine wp_region_held_drew (S := fun V => V.cell? ⟨W.heap.size, 0, none⟩ = some (.int .i64 N) ∧ V.cell? ⟨W.heap.size, 1, none⟩ = some (.slice A E.length c)) (by kernel_rfl) (Sof.out _ BE.out) (fun hHeld => ?_)
        refine wpAnyH_ready (rs := [0]) (by kernel_rfl) (by simp) ?_
        refine AllReadyH.cons rfl (fun K hK => ?_) AllReadyH.nil
        go_simp
        go_at_call 9
        refine (alive_any _).mono ?_
        rintro e V5 ⟨rfl, q⟩
        have BV5 := Lib.hid (BE.out.trans (q.mono BE.out.size))
        clear q
        refine hK.out _ _ (Sof.out V5 BV5.out) (fun _ => ?_)
        clear hK K
        refine wpAnyH_take (i := 1) (v := ?_) rfl (by kernel_rfl) (by kernel_rfl) (by kernel_rfl) (fun _ _ _ h => h) (Or.inl ⟨by rfl, ?_⟩) (by assumption) ?_
        rotate_left
        · (intro w' hSw; (try dsimp only at hSw); go_simp; try with_reducible rfl)
        simp only [Act.put, List.getElem_toArray, List.getElem_cons_zero, List.getElem_cons_succ, List.setIfInBounds_toArray, List.set_cons_zero, List.set_cons_succ]
        refine wpAnyH_take (i := 2) (v := ?_) rfl (by kernel_rfl) (by kernel_rfl) (by kernel_rfl) (fun _ _ _ h => h) (Or.inl ⟨by rfl, ?_⟩) (by assumption) ?_
        rotate_left
        · (intro w' hSw; (try dsimp only at hSw); go_simp; try with_reducible rfl)
        simp only [Act.put, List.getElem_toArray, List.getElem_cons_zero, List.getElem_cons_succ, List.setIfInBounds_toArray, List.set_cons_zero, List.set_cons_succ]
        refine wpAnyH_take (i := 5) (v := ?_) rfl (by kernel_rfl) (by kernel_rfl) (by kernel_rfl) (fun _ _ _ h => h) (Or.inl ⟨by rfl, ?_⟩) (by assumption) ?_
        rotate_left
        · (intro w' hSw; (try dsimp only at hSw); go_simp; try with_reducible rfl)
        simp only [Act.put, List.getElem_toArray, List.getElem_cons_zero, List.getElem_cons_succ, List.setIfInBounds_toArray, List.set_cons_zero, List.set_cons_succ]
        refine wpAnyH_ready (rs := [3]) (by kernel_rfl) (by simp) ?_
        refine AllReadyH.cons rfl (fun K hK => ?_) AllReadyH.nil
        go_simp
        go_at_call 22
        refine (mutual_any N A c E V5.heap.size V5 (RE.out V5 BV5.out) (Nat.le_refl _) hlE).mono ?_
        rintro e V6 ⟨A6, g6, c6, rfl, o6, _, q⟩
        have BV6 := Lib.hid (BV5.out.trans (q.mono BV5.out.size))
        have hml : (mutE E).length ≤ 100000 := Nat.le_trans (mut_len E) hlE
        obtain ⟨M, hM⟩ : ∃ M, mutE E = M := ⟨_, rfl⟩
        rw [hM] at o6 hml ⊢
        have R6 := Lib.hid o6.rd3
        clear q o6
        refine hK.out _ _ (Sof.out V6 BV6.out) (fun _ => ?_)
        clear hK K
        refine wpAnyH_ready (rs := [4]) (by kernel_rfl) (by simp) ?_
        refine AllReadyH.cons rfl (fun K hK => ?_) AllReadyH.nil
        go_simp
        go_at_call 12
        refine (plain_any N A6 M.length c6 V6).mono ?_
        rintro e V7 ⟨rfl, q⟩
        have BV7 := Lib.hid (BV6.out.trans (q.mono BV6.out.size))
        have R7 := Lib.hid (R6.out.grow q)
        clear q R6
        refine hK.out _ _ (Sof.out V7 BV7.out) (fun _ => ?_)
        clear hK K
        refine wpAnyH_ready (rs := [6]) (by kernel_rfl) (by simp) ?_
        refine AllReadyH.cons rfl (fun K hK => ?_) AllReadyH.nil
        go_simp
        go_at_call 12
        refine (plain_any N A E.length c V7).mono ?_
        rintro e V8 ⟨rfl, q⟩
        have BV8 := Lib.hid (BV7.out.trans (q.mono BV7.out.size))
        have R8 := Lib.hid (R7.out.grow q)
        clear q R7
        refine hK.out _ _ (Sof.out V8 BV8.out) (fun _ => ?_)
        clear hK K
        refine wpAnyH_ready (rs := [7]) (by kernel_rfl) (by simp) ?_
        refine AllReadyH.cons rfl (fun K hK => ?_) AllReadyH.nil
        go_simp
        go_at_call 23
        refine (rmutual_any N A c E V8 (RE.out V8 BV8.out) hlE).mono ?_
        rintro e V9 ⟨A9, g9, c9, rfl, o9, _, q⟩
        have BV9 := Lib.hid (BV8.out.trans (q.mono BV8.out.size))
        rw [hM] at o9 ⊢
        have R9 := Lib.hid (R8.out.grow q)
        have R9b := Lib.hid o9.rd3
        clear q o9 R8
        refine hK.out _ _ (Sof.out V9 BV9.out) (fun _ => ?_)
        clear hK K
        refine wpAnyH_ready (rs := [8]) (by kernel_rfl) (by simp) ?_
        refine AllReadyH.cons rfl (fun K hK => ?_) AllReadyH.nil
        go_simp
        go_at_call 19
        refine (same_any N A6 A9 c6 c9 M V9 R9.out R9b.out hml).mono ?_
        rintro e V10 ⟨rfl, q⟩
        have BV10 := Lib.hid (BV9.out.trans (q.mono BV9.out.size))
        clear q R9 R9b
        refine hK.out _ _ (Sof.out V10 BV10.out) (fun _ => ?_)
        clear hK K
        refine wpAnyH_take (i := 9) (v := ?_) rfl (by kernel_rfl) (by kernel_rfl) (by kernel_rfl) (fun _ _ _ h => h) (Or.inl ⟨by rfl, ?_⟩) (by assumption) ?_
        rotate_left
        · (intro w' hSw; (try dsimp only at hSw); go_simp; try with_reducible rfl)
        simp only [Act.put, List.getElem_toArray, List.getElem_cons_zero, List.getElem_cons_succ, List.setIfInBounds_toArray, List.set_cons_zero, List.set_cons_succ]
        refine wpAnyH_take (i := 10) (v := ?_) rfl (by kernel_rfl) (by kernel_rfl) (by kernel_rfl) (fun _ _ _ h => h) (Or.inl ⟨by rfl, ?_⟩) (by assumption) ?_
        rotate_left
        · (intro w' hSw; (try dsimp only at hSw); go_simp; try with_reducible rfl)
        simp only [Act.put, List.getElem_toArray, List.getElem_cons_zero, List.getElem_cons_succ, List.setIfInBounds_toArray, List.set_cons_zero, List.set_cons_succ]
        refine wpAnyH_take (i := 11) (v := ?_) rfl (by kernel_rfl) (by kernel_rfl) (by kernel_rfl) (fun _ _ _ h => h) (Or.inl ⟨by rfl, ?_⟩) (by assumption) ?_
        rotate_left
        · (intro w' hSw; (try dsimp only at hSw); go_simp; try with_reducible rfl)
        simp only [Act.put, List.getElem_toArray, List.getElem_cons_zero, List.getElem_cons_succ, List.setIfInBounds_toArray, List.set_cons_zero, List.set_cons_succ]
        refine wpAnyH_take (i := 14) (v := ?_) rfl (by kernel_rfl) (by kernel_rfl) (by kernel_rfl) (fun _ _ _ h => h) (Or.inl ⟨by rfl, ?_⟩) (by assumption) ?_
        rotate_left
        · (intro w' hSw; (try dsimp only at hSw); go_simp; try with_reducible rfl)
        simp only [Act.put, List.getElem_toArray, List.getElem_cons_zero, List.getElem_cons_succ, List.setIfInBounds_toArray, List.set_cons_zero, List.set_cons_succ]
        refine wpAnyH_ready (rs := [12]) (by kernel_rfl) (by simp) ?_
        refine AllReadyH.cons rfl (fun K hK => ?_) AllReadyH.nil
        go_simp
        go_at_call 24
        refine (reverse_any N A c E V10.heap.size V10 (RE.out V10 BV10.out) (Nat.le_refl _) hlE).mono ?_
        rintro e V11 ⟨g11, rfl, r11, _, q⟩
        have BV11 := Lib.hid (BV10.out.trans (q.mono BV10.out.size))
        have hrl : (E.map Ed.rev).length ≤ 100000 := by simpa using hlE
        have hrl2 : (E.map Ed.rev).length = E.length := by simp
        obtain ⟨Rv, hRv⟩ : ∃ M, E.map Ed.rev = M := ⟨_, rfl⟩
        rw [hRv] at r11 hrl hrl2
        have R11 := Lib.hid (r11.rd.more (T := (· < V11.heap.size)) (fun j _ hl => hl))
        have HRL := Lib.hid hrl2
        clear q r11 hrl2
        refine hK.out _ _ (Sof.out V11 BV11.out) (fun _ => ?_)
        clear hK K
        refine wpAnyH_ready (rs := [13]) (by kernel_rfl) (by simp) ?_
        refine AllReadyH.cons rfl (fun K hK => ?_) AllReadyH.nil
        go_simp
        go_at_call 12
        refine (plain_any N (some ⟨g11, 0, none⟩) E.length E.length V11).mono ?_
        rintro e V12 ⟨rfl, q⟩
        have BV12 := Lib.hid (BV11.out.trans (q.mono BV11.out.size))
        have R12 := Lib.hid (R11.out.grow q)
        clear q R11
        refine hK.out _ _ (Sof.out V12 BV12.out) (fun _ => ?_)
        clear hK K
        refine wpAnyH_ready (rs := [15]) (by kernel_rfl) (by simp) ?_
        refine AllReadyH.cons rfl (fun K hK => ?_) AllReadyH.nil
        go_simp
        go_at_call 12
        refine (plain_any N A E.length c V12).mono ?_
        rintro e V13 ⟨rfl, q⟩
        have BV13 := Lib.hid (BV12.out.trans (q.mono BV12.out.size))
        have R13 := Lib.hid (R12.out.grow q)
        clear q R12
        refine hK.out _ _ (Sof.out V13 BV13.out) (fun _ => ?_)
        clear hK K
        refine wpAnyH_ready (rs := [16]) (by kernel_rfl) (by simp) ?_
        refine AllReadyH.cons rfl (fun K hK => ?_) AllReadyH.nil
        go_simp
        go_at_call 25
        refine (rreverse_any N A c E V13 (RE.out V13 BV13.out) hlE).mono ?_
        rintro e V14 ⟨A14, g14, c14, rfl, o14, _, q⟩
        have BV14 := Lib.hid (BV13.out.trans (q.mono BV13.out.size))
        rw [hRv] at o14 ⊢
        rw [HRL.out]
        have R14 := Lib.hid (R13.out.grow q)
        have R14b := Lib.hid o14.rd3
        clear q o14 R13
        refine hK.out _ _ (Sof.out V14 BV14.out) (fun _ => ?_)
        clear hK K
        have sm := same_any N (some ⟨g11, 0, none⟩) A14 E.length c14 Rv V14 R14.out R14b.out hrl
        rw [HRL.out] at sm
        refine wpAnyH_ready (rs := [17]) (by kernel_rfl) (by simp) ?_
        refine AllReadyH.cons rfl (fun K hK => ?_) AllReadyH.nil
        go_simp
        go_at_call 19
        refine (sm).mono ?_
        rintro e V15 ⟨rfl, q⟩
        have BV15 := Lib.hid (BV14.out.trans (q.mono BV14.out.size))
        clear q R14 R14b sm
        refine hK.out _ _ (Sof.out V15 BV15.out) (fun _ => ?_)
        clear hK K
        refine wpAnyH_take (i := 18) (v := ?_) rfl (by kernel_rfl) (by kernel_rfl) (by kernel_rfl) (fun _ _ _ h => h) (Or.inl ⟨by rfl, ?_⟩) (by assumption) ?_
        rotate_left
        · (intro w' hSw; (try dsimp only at hSw); go_simp; try with_reducible rfl)
        simp only [Act.put, List.getElem_toArray, List.getElem_cons_zero, List.getElem_cons_succ, List.setIfInBounds_toArray, List.set_cons_zero, List.set_cons_succ]
        refine wpAnyH_take (i := 19) (v := ?_) rfl (by kernel_rfl) (by kernel_rfl) (by kernel_rfl) (fun _ _ _ h => h) (Or.inl ⟨by rfl, ?_⟩) (by assumption) ?_
        rotate_left
        · (intro w' hSw; (try dsimp only at hSw); go_simp; try with_reducible rfl)
        simp only [Act.put, List.getElem_toArray, List.getElem_cons_zero, List.getElem_cons_succ, List.setIfInBounds_toArray, List.set_cons_zero, List.set_cons_succ]
        refine wpAnyH_done (by kernel_rfl) ?_ _
        have F := Lib.hid (HB0.out.trans (BV15.out.mono HB0.out.size))
        go_wp2
        go_ret
        exact ⟨rfl, F.out⟩
      | succ gf =>
        have hkl : k < L.length := by omega
        have lt0 : (k : Int) < (L.length : Int) := by omega
        obtain ⟨b', off', e', e0⟩ := R3.out.bool_at hkl
        obtain ⟨b'', off'', e'', f0⟩ := R4.out.bool_at hkl
        simp only [Option.some.injEq, Addr.mk.injEq] at e' e''
        obtain ⟨rfl, rfl, _⟩ := e'
        obtain ⟨rfl, rfl, _⟩ := e''
        rw [Nat.zero_add] at e0 f0
        obtain ⟨bb, hbb⟩ : ∃ bb, ub L k = bb := ⟨_, rfl⟩
        rw [hbb] at e0 f0
        have hbn : (bb != bb) = false := by simp
        clear hbb
        go_wp2_with fail
        go_quiet (fail)
        go_wp2
        go_roundg gf
        case measure => omega
        case rel => exact ⟨k + 1, _, by go_num, Lib.hid (by omega), rfl⟩
end Go.Proofs.Ytkpmdfgjaodlaaa
