/-
  The contract of head's layout. No statement is proved here; no conditions.
-/
import Derived.Test.YtfhickgdmcmodaaMay
namespace Go.Proofs.Ytfhickgdmcmodaa
open Go.RowKit Go.Joins

/-- A packet's bytes, with this checksum. -/
def lay (p : Pk) (s : Int) : List Int := be 2 1 ++ (be p.t 1 ++ (be (24 + p.b.length) 2 ++ (be p.r 4 ++ (be p.a 4 ++ (be s 2 ++ (be p.u 2 ++ (au p ++ p.b)))))))
theorem lay_length (p : Pk) (s : Int) : (lay p s).length = 24 + p.b.length := by
  simp [lay, be_length]
  omega
theorem bt_au (p : Pk) (w : World) (b : Nat) (hlt : b < w.heap.size) (h : w.cell? ⟨b, 4, none⟩ = some (.int .u8 p.h0) ∧ w.cell? ⟨b, 5, none⟩ = some (.int .u8 p.h1) ∧ w.cell? ⟨b, 6, none⟩ = some (.int .u8 p.h2) ∧ w.cell? ⟨b, 7, none⟩ = some (.int .u8 p.h3) ∧ w.cell? ⟨b, 8, none⟩ = some (.int .u8 p.h4) ∧ w.cell? ⟨b, 9, none⟩ = some (.int .u8 p.h5) ∧ w.cell? ⟨b, 10, none⟩ = some (.int .u8 p.h6) ∧ w.cell? ⟨b, 11, none⟩ = some (.int .u8 p.h7)) : Bt w (some ⟨b, 4, none⟩) (au p) := fun _ => by
  refine ⟨b, 4, rfl, hlt, fun i hi => ?_⟩
  obtain ⟨q0, q1, q2, q3, q4, q5, q6, q7⟩ := h
  have : i = 0 ∨ i = 1 ∨ i = 2 ∨ i = 3 ∨ i = 4 ∨ i = 5 ∨ i = 6 ∨ i = 7 := by simp at hi; omega
  rcases this with rfl | rfl | rfl | rfl | rfl | rfl | rfl | rfl
  · exact q0
  · exact q1
  · exact q2
  · exact q3
  · exact q4
  · exact q5
  · exact q6
  · exact q7
set_option maxRecDepth 100000 in
set_option maxHeartbeats 1000000 in
theorem layout_any (p : Pk) (A : Option Addr) (c : Nat) (s : Int) (w : World) (ok : Okp p) (hm : mayp p = true) (hb : Bt w A p.b) (hs0 : 0 ≤ s) (hs1 : s < 65536) :
    Calls Try.prog 18 #[pv' p A c, .int .i64 s] w fun e w' => ∃ A' c', e = .returned (.slice A' (24 + p.b.length) c') ∧ Own .u8 5 w' w.heap.size A' c' (lay p s) ∧ Below w.heap.size w w' := by
  obtain ⟨⟨ht0, ht1⟩, ⟨hu0, hu1⟩, hl⟩ := (mayp_iff p).1 hm
  obtain ⟨hr0, hr1⟩ := ok.r
  obtain ⟨ha0, ha1⟩ := ok.a
  obtain ⟨n, hn⟩ : ∃ n, p.b.length = n := ⟨_, rfl⟩
  have HL : Hid (lay p s = be 2 1 ++ (be p.t 1 ++ (be (24 + n) 2 ++ (be p.r 4 ++ (be p.a 4 ++ (be s 2 ++ (be p.u 2 ++ (au p ++ p.b)))))))) := Lib.hid (by rw [← hn]; rfl)
  have HN := Lib.hid hn
  unfold pv'
  rw [hn] at hl ⊢
  clear hn hm ok
  obtain ⟨W0, hW0⟩ : ∃ W0, w.alloc (.cells #[.int .i64 p.t, .int .u32 p.r, .int .u32 p.a, .int .i64 p.u, .int .u8 p.h0, .int .u8 p.h1, .int .u8 p.h2, .int .u8 p.h3, .int .u8 p.h4, .int .u8 p.h5, .int .u8 p.h6, .int .u8 p.h7, .slice A n c] 26) = W0 := ⟨_, rfl⟩
  have b0 : Below w.heap.size w W0 := by rw [← hW0]; exact below_alloc1 _ _
  have s0 : W0.heap.size = w.heap.size + 1 := by rw [← hW0]; simp
  have KX : Hid (∀ V, Below W0.heap.size W0 V → V.cell? ⟨w.heap.size, 0, none⟩ = some (.int .i64 p.t) ∧ V.cell? ⟨w.heap.size, 1, none⟩ = some (.int .u32 p.r) ∧ V.cell? ⟨w.heap.size, 2, none⟩ = some (.int .u32 p.a) ∧ V.cell? ⟨w.heap.size, 3, none⟩ = some (.int .i64 p.u) ∧ V.cell? ⟨w.heap.size, 4, none⟩ = some (.int .u8 p.h0) ∧ V.cell? ⟨w.heap.size, 5, none⟩ = some (.int .u8 p.h1) ∧ V.cell? ⟨w.heap.size, 6, none⟩ = some (.int .u8 p.h2) ∧ V.cell? ⟨w.heap.size, 7, none⟩ = some (.int .u8 p.h3) ∧ V.cell? ⟨w.heap.size, 8, none⟩ = some (.int .u8 p.h4) ∧ V.cell? ⟨w.heap.size, 9, none⟩ = some (.int .u8 p.h5) ∧ V.cell? ⟨w.heap.size, 10, none⟩ = some (.int .u8 p.h6) ∧ V.cell? ⟨w.heap.size, 11, none⟩ = some (.int .u8 p.h7) ∧ V.cell? ⟨w.heap.size, 12, none⟩ = some (.slice A n c)) := Lib.hid (fun V hV => kb_new hW0 hV)
  have q0 := hb.step b0
  have HB : Hid (Below w.heap.size w W0) := Lib.hid b0
  have qa : Bt W0 (some ⟨w.heap.size, 4, none⟩) (au p) := bt_au p W0 _ (by omega) (by
    obtain ⟨k0, k1, k2, k3, k4, k5, k6, k7, k8, k9, k10, k11, k12⟩ := KX.out _ (Below.refl _ _)
    exact ⟨k4, k5, k6, k7, k8, k9, k10, k11⟩)
  clear hb b0
  go_enter Try.func18, Try.ntmps18
  go_wp2_with fail
  refine wp_region_held_drew (S := fun V => V.cell? ⟨w.heap.size, 0, none⟩ = some (.int .i64 p.t) ∧ V.cell? ⟨w.heap.size, 1, none⟩ = some (.int .u32 p.r) ∧ V.cell? ⟨w.heap.size, 2, none⟩ = some (.int .u32 p.a) ∧ V.cell? ⟨w.heap.size, 3, none⟩ = some (.int .i64 p.u) ∧ V.cell? ⟨w.heap.size, 4, none⟩ = some (.int .u8 p.h0) ∧ V.cell? ⟨w.heap.size, 5, none⟩ = some (.int .u8 p.h1) ∧ V.cell? ⟨w.heap.size, 6, none⟩ = some (.int .u8 p.h2) ∧ V.cell? ⟨w.heap.size, 7, none⟩ = some (.int .u8 p.h3) ∧ V.cell? ⟨w.heap.size, 8, none⟩ = some (.int .u8 p.h4) ∧ V.cell? ⟨w.heap.size, 9, none⟩ = some (.int .u8 p.h5) ∧ V.cell? ⟨w.heap.size, 10, none⟩ = some (.int .u8 p.h6) ∧ V.cell? ⟨w.heap.size, 11, none⟩ = some (.int .u8 p.h7) ∧ V.cell? ⟨w.heap.size, 12, none⟩ = some (.slice A n c)) (by kernel_rfl) (KX.out _ (Below.refl _ _).drew) (fun hHeld => ?_)
  refine wpAnyH_take (i := 1) (v := ?_) rfl (by kernel_rfl) (by kernel_rfl) (by kernel_rfl) (fun _ _ _ h => h) (Or.inl ⟨by rfl, ?_⟩) (by assumption) ?_
  rotate_left
  · (intro w' hSw; (try dsimp only at hSw); go_simp; try with_reducible rfl)
  simp only [Act.put, List.getElem_toArray, List.getElem_cons_zero, List.getElem_cons_succ, List.setIfInBounds_toArray, List.set_cons_zero, List.set_cons_succ]
  refine wpAnyH_take (i := 2) (v := ?_) rfl (by kernel_rfl) (by kernel_rfl) (by kernel_rfl) (fun _ _ _ h => h) (Or.inl ⟨by rfl, ?_⟩) (by assumption) ?_
  rotate_left
  · (intro w' hSw; (try dsimp only at hSw); go_simp; try with_reducible rfl)
  simp only [Act.put, List.getElem_toArray, List.getElem_cons_zero, List.getElem_cons_succ, List.setIfInBounds_toArray, List.set_cons_zero, List.set_cons_succ]
  refine wpAnyH_take (i := 3) (v := .int .u32 p.t) rfl (by kernel_rfl) (by kernel_rfl) (by kernel_rfl) (fun _ _ _ h => h) (Or.inl ⟨by rfl, ?_⟩) (by assumption) ?_
  · (intro w' hSw; (try dsimp only at hSw); go_simp; rw [wrap_u32 (by omega) (by omega)])
  simp only [Act.put, List.getElem_toArray, List.getElem_cons_zero, List.getElem_cons_succ, List.setIfInBounds_toArray, List.set_cons_zero, List.set_cons_succ]
  refine wpAnyH_take (i := 5) (v := ?_) rfl (by kernel_rfl) (by kernel_rfl) (by kernel_rfl) (fun _ _ _ h => h) (Or.inl ⟨by rfl, ?_⟩) (by assumption) ?_
  rotate_left
  · (intro w' hSw; (try dsimp only at hSw); go_simp; try with_reducible rfl)
  simp only [Act.put, List.getElem_toArray, List.getElem_cons_zero, List.getElem_cons_succ, List.setIfInBounds_toArray, List.set_cons_zero, List.set_cons_succ]
  refine wpAnyH_take (i := 6) (v := ?_) rfl (by kernel_rfl) (by kernel_rfl) (by kernel_rfl) (fun _ _ _ h => h) (Or.inl ⟨by rfl, ?_⟩) (by assumption) ?_
  rotate_left
  · (intro w' hSw; (try dsimp only at hSw); go_simp; try with_reducible rfl)
  simp only [Act.put, List.getElem_toArray, List.getElem_cons_zero, List.getElem_cons_succ, List.setIfInBounds_toArray, List.set_cons_zero, List.set_cons_succ]
  refine wpAnyH_take (i := 7) (v := ?_) rfl (by kernel_rfl) (by kernel_rfl) (by kernel_rfl) (fun _ _ _ h => h) (Or.inl ⟨by rfl, ?_⟩) (by assumption) ?_
  rotate_left
  · (intro w' hSw; (try dsimp only at hSw); go_simp; try with_reducible rfl)
  simp only [Act.put, List.getElem_toArray, List.getElem_cons_zero, List.getElem_cons_succ, List.setIfInBounds_toArray, List.set_cons_zero, List.set_cons_succ]
  refine wpAnyH_take (i := 8) (v := .int .i64 (24 + (n : Int))) rfl (by kernel_rfl) (by kernel_rfl) (by kernel_rfl) (fun _ _ _ h => h) (Or.inl ⟨by rfl, ?_⟩) (by assumption) ?_
  · (intro w' hSw; (try dsimp only at hSw); go_simp; rw [wrap_i64 (by omega) (by omega)])
  simp only [Act.put, List.getElem_toArray, List.getElem_cons_zero, List.getElem_cons_succ, List.setIfInBounds_toArray, List.set_cons_zero, List.set_cons_succ]
  refine wpAnyH_take (i := 9) (v := .int .u32 (24 + (n : Int))) rfl (by kernel_rfl) (by kernel_rfl) (by kernel_rfl) (fun _ _ _ h => h) (Or.inl ⟨by rfl, ?_⟩) (by assumption) ?_
  · (intro w' hSw; (try dsimp only at hSw); go_simp; rw [wrap_u32 (by omega) (by omega)])
  simp only [Act.put, List.getElem_toArray, List.getElem_cons_zero, List.getElem_cons_succ, List.setIfInBounds_toArray, List.set_cons_zero, List.set_cons_succ]
  refine wpAnyH_take (i := 11) (v := ?_) rfl (by kernel_rfl) (by kernel_rfl) (by kernel_rfl) (fun _ _ _ h => h) (Or.inl ⟨by rfl, ?_⟩) (by assumption) ?_
  rotate_left
  · (intro w' hSw; (try dsimp only at hSw); go_simp; try with_reducible rfl)
  simp only [Act.put, List.getElem_toArray, List.getElem_cons_zero, List.getElem_cons_succ, List.setIfInBounds_toArray, List.set_cons_zero, List.set_cons_succ]
  refine wpAnyH_take (i := 12) (v := ?_) rfl (by kernel_rfl) (by kernel_rfl) (by kernel_rfl) (fun _ _ _ h => h) (Or.inl ⟨by rfl, ?_⟩) (by assumption) ?_
  rotate_left
  · (intro w' hSw; (try dsimp only at hSw); go_simp; try with_reducible rfl)
  simp only [Act.put, List.getElem_toArray, List.getElem_cons_zero, List.getElem_cons_succ, List.setIfInBounds_toArray, List.set_cons_zero, List.set_cons_succ]
  refine wpAnyH_take (i := 14) (v := ?_) rfl (by kernel_rfl) (by kernel_rfl) (by kernel_rfl) (fun _ _ _ h => h) (Or.inl ⟨by rfl, ?_⟩) (by assumption) ?_
  rotate_left
  · (intro w' hSw; (try dsimp only at hSw); go_simp; try with_reducible rfl)
  simp only [Act.put, List.getElem_toArray, List.getElem_cons_zero, List.getElem_cons_succ, List.setIfInBounds_toArray, List.set_cons_zero, List.set_cons_succ]
  refine wpAnyH_take (i := 15) (v := ?_) rfl (by kernel_rfl) (by kernel_rfl) (by kernel_rfl) (fun _ _ _ h => h) (Or.inl ⟨by rfl, ?_⟩) (by assumption) ?_
  rotate_left
  · (intro w' hSw; (try dsimp only at hSw); go_simp; try with_reducible rfl)
  simp only [Act.put, List.getElem_toArray, List.getElem_cons_zero, List.getElem_cons_succ, List.setIfInBounds_toArray, List.set_cons_zero, List.set_cons_succ]
  refine wpAnyH_take (i := 17) (v := ?_) rfl (by kernel_rfl) (by kernel_rfl) (by kernel_rfl) (fun _ _ _ h => h) (Or.inl ⟨by rfl, ?_⟩) (by assumption) ?_
  rotate_left
  · (intro w' hSw; (try dsimp only at hSw); go_simp; try with_reducible rfl)
  simp only [Act.put, List.getElem_toArray, List.getElem_cons_zero, List.getElem_cons_succ, List.setIfInBounds_toArray, List.set_cons_zero, List.set_cons_succ]
  refine wpAnyH_take (i := 18) (v := .int .u32 s) rfl (by kernel_rfl) (by kernel_rfl) (by kernel_rfl) (fun _ _ _ h => h) (Or.inl ⟨by rfl, ?_⟩) (by assumption) ?_
  · (intro w' hSw; (try dsimp only at hSw); go_simp; rw [wrap_u32 (by omega) (by omega)])
  simp only [Act.put, List.getElem_toArray, List.getElem_cons_zero, List.getElem_cons_succ, List.setIfInBounds_toArray, List.set_cons_zero, List.set_cons_succ]
  refine wpAnyH_take (i := 20) (v := ?_) rfl (by kernel_rfl) (by kernel_rfl) (by kernel_rfl) (fun _ _ _ h => h) (Or.inl ⟨by rfl, ?_⟩) (by assumption) ?_
  rotate_left
  · (intro w' hSw; (try dsimp only at hSw); go_simp; try with_reducible rfl)
  simp only [Act.put, List.getElem_toArray, List.getElem_cons_zero, List.getElem_cons_succ, List.setIfInBounds_toArray, List.set_cons_zero, List.set_cons_succ]
  refine wpAnyH_take (i := 21) (v := ?_) rfl (by kernel_rfl) (by kernel_rfl) (by kernel_rfl) (fun _ _ _ h => h) (Or.inl ⟨by rfl, ?_⟩) (by assumption) ?_
  rotate_left
  · (intro w' hSw; (try dsimp only at hSw); go_simp; try with_reducible rfl)
  simp only [Act.put, List.getElem_toArray, List.getElem_cons_zero, List.getElem_cons_succ, List.setIfInBounds_toArray, List.set_cons_zero, List.set_cons_succ]
  refine wpAnyH_take (i := 22) (v := .int .u32 p.u) rfl (by kernel_rfl) (by kernel_rfl) (by kernel_rfl) (fun _ _ _ h => h) (Or.inl ⟨by rfl, ?_⟩) (by assumption) ?_
  · (intro w' hSw; (try dsimp only at hSw); go_simp; rw [wrap_u32 (by omega) (by omega)])
  simp only [Act.put, List.getElem_toArray, List.getElem_cons_zero, List.getElem_cons_succ, List.setIfInBounds_toArray, List.set_cons_zero, List.set_cons_succ]
  refine wpAnyH_take (i := 24) (v := ?_) rfl (by kernel_rfl) (by kernel_rfl) (by kernel_rfl) (fun _ _ _ h => h) (Or.inl ⟨by rfl, ?_⟩) (by assumption) ?_
  rotate_left
  · (intro w' hSw; (try dsimp only at hSw); go_simp; try with_reducible rfl)
  simp only [Act.put, List.getElem_toArray, List.getElem_cons_zero, List.getElem_cons_succ, List.setIfInBounds_toArray, List.set_cons_zero, List.set_cons_succ]
  refine wpAnyH_take (i := 25) (v := .slice (some ⟨w.heap.size, 4, none⟩) 8 8) rfl (by kernel_rfl) (by kernel_rfl) (by kernel_rfl) (fun _ _ _ h => h) (Or.inl ⟨by rfl, ?_⟩) (by assumption) ?_
  · (intro w' hSw; (try dsimp only at hSw); go_simp; (try rfl))
  simp only [Act.put, List.getElem_toArray, List.getElem_cons_zero, List.getElem_cons_succ, List.setIfInBounds_toArray, List.set_cons_zero, List.set_cons_succ]
  refine wpAnyH_take (i := 26) (v := ?_) rfl (by kernel_rfl) (by kernel_rfl) (by kernel_rfl) (fun _ _ _ h => h) (Or.inl ⟨by rfl, ?_⟩) (by assumption) ?_
  rotate_left
  · (intro w' hSw; (try dsimp only at hSw); go_simp; try with_reducible rfl)
  simp only [Act.put, List.getElem_toArray, List.getElem_cons_zero, List.getElem_cons_succ, List.setIfInBounds_toArray, List.set_cons_zero, List.set_cons_succ]
  refine wpAnyH_take (i := 27) (v := ?_) rfl (by kernel_rfl) (by kernel_rfl) (by kernel_rfl) (fun _ _ _ h => h) (Or.inl ⟨by rfl, ?_⟩) (by assumption) ?_
  rotate_left
  · (intro w' hSw; (try dsimp only at hSw); go_simp; try with_reducible rfl)
  simp only [Act.put, List.getElem_toArray, List.getElem_cons_zero, List.getElem_cons_succ, List.setIfInBounds_toArray, List.set_cons_zero, List.set_cons_succ]
  have t0 : Below W0.heap.size W0 W0.drew := (Below.refl W0.heap.size W0).drew
  generalize hX0 : W0.drew = X0 at t0 ⊢
  clear hX0 hHeld
  have f1 := field_any 2 1 1 X0 rfl (by decide) (by decide) (by omega) (by omega) (by omega)
  refine wpAnyH_ready (rs := [0]) (by kernel_rfl) (by simp) ?_
  refine AllReadyH.cons rfl (fun K hK => ?_) AllReadyH.nil
  go_simp
  go_at_call 28
  refine (f1).mono ?_
  rintro e X1 ⟨A1, c1, rfl, o1, u1⟩
  have t1 : Below W0.heap.size W0 X1 := t0.trans (u1.mono t0.size)
  have z1 := o1.bs
  clear f1 o1 u1 t0
  refine hK.out _ _ (KX.out _ t1) (fun _ => ?_)
  clear hK K
  have f2 := field_any p.t 1 1 X1 rfl (by decide) (by decide) (by omega) (by omega) (by omega)
  refine wpAnyH_ready (rs := [4]) (by kernel_rfl) (by simp) ?_
  refine AllReadyH.cons rfl (fun K hK => ?_) AllReadyH.nil
  go_simp
  go_at_call 28
  refine (f2).mono ?_
  rintro e X2 ⟨A2, c2, rfl, o2, u2⟩
  have t2 : Below W0.heap.size W0 X2 := t1.trans (u2.mono t1.size)
  have z2 := o2.bs
  replace z1 := z1.step u2
  clear f2 o2 u2 t1
  refine hK.out _ _ (KX.out _ t2) (fun _ => ?_)
  clear hK K
  have f3 := field_any (24 + (n : Int)) 2 2 X2 rfl (by decide) (by decide) (by omega) (by omega) (by omega)
  refine wpAnyH_ready (rs := [10]) (by kernel_rfl) (by simp) ?_
  refine AllReadyH.cons rfl (fun K hK => ?_) AllReadyH.nil
  go_simp
  go_at_call 28
  refine (f3).mono ?_
  rintro e X3 ⟨A3, c3, rfl, o3, u3⟩
  have t3 : Below W0.heap.size W0 X3 := t2.trans (u3.mono t2.size)
  have z3 := o3.bs
  replace z1 := z1.step u3
  replace z2 := z2.step u3
  clear f3 o3 u3 t2
  refine hK.out _ _ (KX.out _ t3) (fun _ => ?_)
  clear hK K
  have f4 := field_any p.r 4 4 X3 rfl (by decide) (by decide) (by omega) (by omega) (by omega)
  refine wpAnyH_ready (rs := [13]) (by kernel_rfl) (by simp) ?_
  refine AllReadyH.cons rfl (fun K hK => ?_) AllReadyH.nil
  go_simp
  go_at_call 28
  refine (f4).mono ?_
  rintro e X4 ⟨A4, c4, rfl, o4, u4⟩
  have t4 : Below W0.heap.size W0 X4 := t3.trans (u4.mono t3.size)
  have z4 := o4.bs
  replace z1 := z1.step u4
  replace z2 := z2.step u4
  replace z3 := z3.step u4
  clear f4 o4 u4 t3
  refine hK.out _ _ (KX.out _ t4) (fun _ => ?_)
  clear hK K
  have f5 := field_any p.a 4 4 X4 rfl (by decide) (by decide) (by omega) (by omega) (by omega)
  refine wpAnyH_ready (rs := [16]) (by kernel_rfl) (by simp) ?_
  refine AllReadyH.cons rfl (fun K hK => ?_) AllReadyH.nil
  go_simp
  go_at_call 28
  refine (f5).mono ?_
  rintro e X5 ⟨A5, c5, rfl, o5, u5⟩
  have t5 : Below W0.heap.size W0 X5 := t4.trans (u5.mono t4.size)
  have z5 := o5.bs
  replace z1 := z1.step u5
  replace z2 := z2.step u5
  replace z3 := z3.step u5
  replace z4 := z4.step u5
  clear f5 o5 u5 t4
  refine hK.out _ _ (KX.out _ t5) (fun _ => ?_)
  clear hK K
  have f6 := field_any s 2 2 X5 rfl (by decide) (by decide) (by omega) (by omega) (by omega)
  refine wpAnyH_ready (rs := [19]) (by kernel_rfl) (by simp) ?_
  refine AllReadyH.cons rfl (fun K hK => ?_) AllReadyH.nil
  go_simp
  go_at_call 28
  refine (f6).mono ?_
  rintro e X6 ⟨A6, c6, rfl, o6, u6⟩
  have t6 : Below W0.heap.size W0 X6 := t5.trans (u6.mono t5.size)
  have z6 := o6.bs
  replace z1 := z1.step u6
  replace z2 := z2.step u6
  replace z3 := z3.step u6
  replace z4 := z4.step u6
  replace z5 := z5.step u6
  clear f6 o6 u6 t5
  refine hK.out _ _ (KX.out _ t6) (fun _ => ?_)
  clear hK K
  have f7 := field_any p.u 2 2 X6 rfl (by decide) (by decide) (by omega) (by omega) (by omega)
  refine wpAnyH_ready (rs := [23]) (by kernel_rfl) (by simp) ?_
  refine AllReadyH.cons rfl (fun K hK => ?_) AllReadyH.nil
  go_simp
  go_at_call 28
  refine (f7).mono ?_
  rintro e X7 ⟨A7, c7, rfl, o7, u7⟩
  have t7 : Below W0.heap.size W0 X7 := t6.trans (u7.mono t6.size)
  have z7 := o7.bs
  replace z1 := z1.step u7
  replace z2 := z2.step u7
  replace z3 := z3.step u7
  replace z4 := z4.step u7
  replace z5 := z5.step u7
  replace z6 := z6.step u7
  clear f7 o7 u7 t6
  refine hK.out _ _ (KX.out _ t7) (fun _ => ?_)
  clear hK K
  refine wpAnyH_ready (rs := [28]) (by kernel_rfl) (by simp) ?_
  refine AllReadyH.cons rfl (fun K hK => ?_) AllReadyH.nil
  go_simp
  obtain ⟨X8, hX8⟩ : ∃ V, X7.alloc (.cells #[.slice A1 1 c1, .slice A2 1 c2, .slice A3 2 c3, .slice A4 4 c4, .slice A5 4 c5, .slice A6 2 c6, .slice A7 2 c7, .slice (some ⟨w.heap.size, 4, none⟩) 8 8, .slice A n c] 24) = V := ⟨_, rfl⟩
  have u8 : Below X7.heap.size X7 X8 := by rw [← hX8]; exact below_alloc1 _ _
  have t8 : Below W0.heap.size W0 X8 := t7.trans (u8.mono t7.size)
  obtain ⟨k, hk⟩ : ∃ k, X7.heap.size = k := ⟨_, rfl⟩
  have hP : Ps X8 (some ⟨k, 0, none⟩) [⟨A1, c1, be 2 1⟩, ⟨A2, c2, be p.t 1⟩, ⟨A3, c3, be (24 + (n : Int)) 2⟩, ⟨A4, c4, be p.r 4⟩, ⟨A5, c5, be p.a 4⟩, ⟨A6, c6, be s 2⟩, ⟨A7, c7, be p.u 2⟩, ⟨some ⟨w.heap.size, 4, none⟩, 8, au p⟩, ⟨A, c, p.b⟩] := by
    rw [← hX8]
    exact Ps.mk _ _ _ _ _ hk (by simp [be_length, HN.out])
  have cc := concat_n (some ⟨k, 0, none⟩) 9 9 _ X8 rfl hP (fun p' hp => by
    simp only [List.mem_cons, List.not_mem_nil, or_false] at hp
    rcases hp with rfl | rfl | rfl | rfl | rfl | rfl | rfl | rfl | rfl
    · exact z1.step u8
    · exact z2.step u8
    · exact z3.step u8
    · exact z4.step u8
    · exact z5.step u8
    · exact z6.step u8
    · exact z7.step u8
    · exact qa.step t8
    · exact q0.step t8) (by simp) (by simp [cat, be_length, HN.out]; omega)
  try rw [hX8]
  try rw [hk]
  refine hK.out _ _ (KX.out _ t8) (fun _ => ?_)
  clear hK K
  have hcat : cat [⟨A1, c1, be 2 1⟩, ⟨A2, c2, be p.t 1⟩, ⟨A3, c3, be (24 + (n : Int)) 2⟩, ⟨A4, c4, be p.r 4⟩, ⟨A5, c5, be p.a 4⟩, ⟨A6, c6, be s 2⟩, ⟨A7, c7, be p.u 2⟩, ⟨some ⟨w.heap.size, 4, none⟩, 8, au p⟩, ⟨A, c, p.b⟩] = lay p s := by rw [HL.out]; simp [cat]
  have hlen : (lay p s).length = 24 + n := by rw [lay_length, HN.out]
  rw [hcat, hlen] at cc
  clear hcat hlen
  refine wpAnyH_ready (rs := [29]) (by kernel_rfl) (by simp) ?_
  refine AllReadyH.cons rfl (fun K hK => ?_) AllReadyH.nil
  go_simp
  go_at_call 25
  refine cc.mono ?_
  rintro e X9 ⟨A9, c9, rfl, o9, t9⟩
  refine hK.out _ _ (KX.out _ (t8.trans (t9.mono t8.size))) (fun _ => ?_)
  clear hK K
  have t10 : Below w.heap.size w X8 := HB.out.trans (t8.mono HB.out.size)
  refine wpAnyH_ready (rs := [30]) (by kernel_rfl) (by simp) ?_
  refine AllReadyH.cons rfl (fun K hK => ?_) AllReadyH.nil
  go_simp
  refine hK.out _ _ (KX.out _ (t8.trans (t9.mono t8.size))) (fun _ => ?_)
  clear hK K
  refine wpAnyH_done (by kernel_rfl) ?_ _
  go_wp2
  go_ret
  exact ⟨A9, c9, rfl, o9.lower t10.size, t10.trans (t9.mono t10.size)⟩
end Go.Proofs.Ytfhickgdmcmodaa
