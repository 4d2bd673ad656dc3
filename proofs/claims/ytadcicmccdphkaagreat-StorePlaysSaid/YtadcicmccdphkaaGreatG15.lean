/-
  Contracts of lsa's Compare and Less. Contracts of body.link and body.Router. No statement is proved here; no conditions.
-/
import Derived.Test.YtadcicmccdphkaaGreatG07
import Derived.Test.YtadcicmccdphkaaGreatG09
namespace Go.Proofs.YtadcicmccdphkaaGreat
open Go.RowKit Go.Joins
open List (getElem_toArray getElem_cons_zero getElem_cons_succ setIfInBounds_toArray set_cons_zero set_cons_succ)

set_option maxRecDepth 100000 in
set_option maxHeartbeats 10000000 in
theorem compare_any (a b : Hd) (w : World) (oa : 0 ≤ a.q ∧ a.q < 4294967296) (ob : 0 ≤ b.q ∧ b.q < 4294967296) (ha : 0 ≤ a.a ∧ a.a ≤ 3600) (hb : 0 ≤ b.a ∧ b.a ≤ 3600) :
  Calls Tryz.prog 81 #[.agg #[.int .i64 a.a, .int .i64 a.o, .int .i64 a.t, .int .u32 a.i, .int .u32 a.v, .int .u32 a.q, .int .i64 a.s, .int .i64 a.n], .agg #[.int .i64 b.a, .int .i64 b.o, .int .i64 b.t, .int .u32 b.i, .int .u32 b.v, .int .u32 b.q, .int .i64 b.s, .int .i64 b.n]] w fun e w' => e = .returned (.int .i64 (cmpH a b)) ∧ Below w.heap.size w w' := by
 obtain ⟨W0, hW0⟩ : ∃ V, w.alloc (.cells #[.int .i64 a.a, .int .i64 a.o, .int .i64 a.t, .int .u32 a.i, .int .u32 a.v, .int .u32 a.q, .int .i64 a.s, .int .i64 a.n] 37) = V := ⟨_, rfl⟩
 have bW0 : Below w.heap.size w W0 := by rw [← hW0]; exact below_alloc1 _ _
 have sW0 : W0.heap.size = w.heap.size + 1 := by rw [← hW0]; simp
 have KX : Hid (∀ V, Below W0.heap.size W0 V → V.cell? ⟨w.heap.size, 0, none⟩ = some (.int .i64 a.a) ∧ V.cell? ⟨w.heap.size, 1, none⟩ = some (.int .i64 a.o) ∧ V.cell? ⟨w.heap.size, 2, none⟩ = some (.int .i64 a.t) ∧ V.cell? ⟨w.heap.size, 3, none⟩ = some (.int .u32 a.i) ∧ V.cell? ⟨w.heap.size, 4, none⟩ = some (.int .u32 a.v) ∧ V.cell? ⟨w.heap.size, 5, none⟩ = some (.int .u32 a.q) ∧ V.cell? ⟨w.heap.size, 6, none⟩ = some (.int .i64 a.s) ∧ V.cell? ⟨w.heap.size, 7, none⟩ = some (.int .i64 a.n)) := Lib.hid (fun V hV => kb8_new hW0 hV)
 obtain ⟨W1, hW1⟩ : ∃ V, W0.alloc (.cells #[.int .i64 b.a, .int .i64 b.o, .int .i64 b.t, .int .u32 b.i, .int .u32 b.v, .int .u32 b.q, .int .i64 b.s, .int .i64 b.n] 37) = V := ⟨_, rfl⟩
 have bW1 : Below W0.heap.size W0 W1 := by rw [← hW1]; exact below_alloc1 _ _
 have sW1 : W1.heap.size = W0.heap.size + 1 := by rw [← hW1]; simp
 have KY : Hid (∀ V, Below W1.heap.size W1 V → V.cell? ⟨W0.heap.size, 0, none⟩ = some (.int .i64 b.a) ∧ V.cell? ⟨W0.heap.size, 1, none⟩ = some (.int .i64 b.o) ∧ V.cell? ⟨W0.heap.size, 2, none⟩ = some (.int .i64 b.t) ∧ V.cell? ⟨W0.heap.size, 3, none⟩ = some (.int .u32 b.i) ∧ V.cell? ⟨W0.heap.size, 4, none⟩ = some (.int .u32 b.v) ∧ V.cell? ⟨W0.heap.size, 5, none⟩ = some (.int .u32 b.q) ∧ V.cell? ⟨W0.heap.size, 6, none⟩ = some (.int .i64 b.s) ∧ V.cell? ⟨W0.heap.size, 7, none⟩ = some (.int .i64 b.n)) := Lib.hid (fun V hV => kb8_new hW1 hV)
 have b2 : Below w.heap.size w W1 := bW0.trans (bW1.mono bW0.size)
 have B2 := Lib.hid b2
 have KZ : Hid (∀ V, Below W1.heap.size W1 V → (V.cell? ⟨w.heap.size, 0, none⟩ = some (.int .i64 a.a) ∧ V.cell? ⟨w.heap.size, 1, none⟩ = some (.int .i64 a.o) ∧ V.cell? ⟨w.heap.size, 2, none⟩ = some (.int .i64 a.t) ∧ V.cell? ⟨w.heap.size, 3, none⟩ = some (.int .u32 a.i) ∧ V.cell? ⟨w.heap.size, 4, none⟩ = some (.int .u32 a.v) ∧ V.cell? ⟨w.heap.size, 5, none⟩ = some (.int .u32 a.q) ∧ V.cell? ⟨w.heap.size, 6, none⟩ = some (.int .i64 a.s) ∧ V.cell? ⟨w.heap.size, 7, none⟩ = some (.int .i64 a.n)) ∧ (V.cell? ⟨(w.heap.size + 1), 0, none⟩ = some (.int .i64 b.a) ∧ V.cell? ⟨(w.heap.size + 1), 1, none⟩ = some (.int .i64 b.o) ∧ V.cell? ⟨(w.heap.size + 1), 2, none⟩ = some (.int .i64 b.t) ∧ V.cell? ⟨(w.heap.size + 1), 3, none⟩ = some (.int .u32 b.i) ∧ V.cell? ⟨(w.heap.size + 1), 4, none⟩ = some (.int .u32 b.v) ∧ V.cell? ⟨(w.heap.size + 1), 5, none⟩ = some (.int .u32 b.q) ∧ V.cell? ⟨(w.heap.size + 1), 6, none⟩ = some (.int .i64 b.s) ∧ V.cell? ⟨(w.heap.size + 1), 7, none⟩ = some (.int .i64 b.n))) := Lib.hid (fun V hV => by
  have q1 := KX.out V (bW1.trans (hV.mono bW1.size))
  have q2 := KY.out V hV
  rw [sW0] at q2
  exact ⟨q1, q2⟩)
 obtain ⟨oa0, oa1⟩ := oa
 obtain ⟨ob0, ob1⟩ := ob
 obtain ⟨ha0, ha1⟩ := ha
 obtain ⟨hb0, hb1⟩ := hb
 have HC : Hid (cmpH a b = fstn [cmpI (sg a.q) (sg b.q), cmpI a.s b.s, cmpI (endd a.a) (endd b.a), yng a.a b.a]) := Lib.hid rfl
 have tt : Below W1.heap.size W1 W1 := Below.refl _ _
 clear KX KY bW0 bW1 b2 sW1
 go_enter Tryz.func81, Tryz.ntmps81
 go_wp2_with fail
 refine wp_region_held_drew (S := fun V => (V.cell? ⟨w.heap.size, 0, none⟩ = some (.int .i64 a.a) ∧ V.cell? ⟨w.heap.size, 1, none⟩ = some (.int .i64 a.o) ∧ V.cell? ⟨w.heap.size, 2, none⟩ = some (.int .i64 a.t) ∧ V.cell? ⟨w.heap.size, 3, none⟩ = some (.int .u32 a.i) ∧ V.cell? ⟨w.heap.size, 4, none⟩ = some (.int .u32 a.v) ∧ V.cell? ⟨w.heap.size, 5, none⟩ = some (.int .u32 a.q) ∧ V.cell? ⟨w.heap.size, 6, none⟩ = some (.int .i64 a.s) ∧ V.cell? ⟨w.heap.size, 7, none⟩ = some (.int .i64 a.n)) ∧ (V.cell? ⟨(w.heap.size + 1), 0, none⟩ = some (.int .i64 b.a) ∧ V.cell? ⟨(w.heap.size + 1), 1, none⟩ = some (.int .i64 b.o) ∧ V.cell? ⟨(w.heap.size + 1), 2, none⟩ = some (.int .i64 b.t) ∧ V.cell? ⟨(w.heap.size + 1), 3, none⟩ = some (.int .u32 b.i) ∧ V.cell? ⟨(w.heap.size + 1), 4, none⟩ = some (.int .u32 b.v) ∧ V.cell? ⟨(w.heap.size + 1), 5, none⟩ = some (.int .u32 b.q) ∧ V.cell? ⟨(w.heap.size + 1), 6, none⟩ = some (.int .i64 b.s) ∧ V.cell? ⟨(w.heap.size + 1), 7, none⟩ = some (.int .i64 b.n))) (by kernel_rfl) (KZ.out _ tt.drew) (fun hHeld => ?_)
 replace tt : Below W1.heap.size W1 W1.drew := tt.drew
 generalize hX0 : W1.drew = X0 at tt hHeld ⊢
 clear hX0
 refine wpAnyH_take (i := 0) (v := ?_) rfl (by kernel_rfl) (by kernel_rfl) (by kernel_rfl) (fun _ _ _ h => h) (Or.inl ⟨by rfl, ?_⟩) (by assumption) ?_
 rotate_left
 ·(intro w' hSw; (try dsimp only at hSw); go_simp; try with_reducible rfl)
 simp only [Act.put, getElem_toArray, getElem_cons_zero, setIfInBounds_toArray, set_cons_zero, set_cons_succ]
 refine wpAnyH_take (i := 1) (v := ?_) rfl (by kernel_rfl) (by kernel_rfl) (by kernel_rfl) (fun _ _ _ h => h) (Or.inl ⟨by rfl, ?_⟩) (by assumption) ?_
 rotate_left
 ·(intro w' hSw; (try dsimp only at hSw); go_simp; try with_reducible rfl)
 simp only [Act.put, getElem_toArray, getElem_cons_zero, getElem_cons_succ, setIfInBounds_toArray, set_cons_zero, set_cons_succ]
 refine wpAnyH_take (i := 2) (v := .int .i32 (sg a.q)) rfl (by kernel_rfl) (by kernel_rfl) (by kernel_rfl) (fun _ _ _ h => h) (Or.inl ⟨by rfl, ?_⟩) (by assumption) ?_
 ·(intro w' hSw; (try dsimp only at hSw); go_simp; rw [wrap_i32 _ (by omega) (by omega)])
 simp only [Act.put, getElem_toArray, getElem_cons_zero, getElem_cons_succ, setIfInBounds_toArray, set_cons_zero, set_cons_succ]
 refine wpAnyH_take (i := 3) (v := ?_) rfl (by kernel_rfl) (by kernel_rfl) (by kernel_rfl) (fun _ _ _ h => h) (Or.inl ⟨by rfl, ?_⟩) (by assumption) ?_
 rotate_left
 ·(intro w' hSw; (try dsimp only at hSw); go_simp; try with_reducible rfl)
 simp only [Act.put, getElem_toArray, getElem_cons_zero, getElem_cons_succ, setIfInBounds_toArray, set_cons_zero, set_cons_succ]
 refine wpAnyH_take (i := 4) (v := ?_) rfl (by kernel_rfl) (by kernel_rfl) (by kernel_rfl) (fun _ _ _ h => h) (Or.inl ⟨by rfl, ?_⟩) (by assumption) ?_
 rotate_left
 ·(intro w' hSw; (try dsimp only at hSw); go_simp; try with_reducible rfl)
 simp only [Act.put, getElem_toArray, getElem_cons_zero, getElem_cons_succ, setIfInBounds_toArray, set_cons_zero, set_cons_succ]
 refine wpAnyH_take (i := 5) (v := .int .i32 (sg b.q)) rfl (by kernel_rfl) (by kernel_rfl) (by kernel_rfl) (fun _ _ _ h => h) (Or.inl ⟨by rfl, ?_⟩) (by assumption) ?_
 ·(intro w' hSw; (try dsimp only at hSw); go_simp; rw [wrap_i32 _ (by omega) (by omega)])
 simp only [Act.put, getElem_toArray, getElem_cons_zero, getElem_cons_succ, setIfInBounds_toArray, set_cons_zero, set_cons_succ]
 refine wpAnyH_take (i := 7) (v := ?_) rfl (by kernel_rfl) (by kernel_rfl) (by kernel_rfl) (fun _ _ _ h => h) (Or.inl ⟨by rfl, ?_⟩) (by assumption) ?_
 rotate_left
 ·(intro w' hSw; (try dsimp only at hSw); go_simp; try with_reducible rfl)
 simp only [Act.put, getElem_toArray, getElem_cons_zero, getElem_cons_succ, setIfInBounds_toArray, set_cons_zero, set_cons_succ]
 refine wpAnyH_take (i := 8) (v := ?_) rfl (by kernel_rfl) (by kernel_rfl) (by kernel_rfl) (fun _ _ _ h => h) (Or.inl ⟨by rfl, ?_⟩) (by assumption) ?_
 rotate_left
 ·(intro w' hSw; (try dsimp only at hSw); go_simp; try with_reducible rfl)
 simp only [Act.put, getElem_toArray, getElem_cons_zero, getElem_cons_succ, setIfInBounds_toArray, set_cons_zero, set_cons_succ]
 refine wpAnyH_take (i := 9) (v := ?_) rfl (by kernel_rfl) (by kernel_rfl) (by kernel_rfl) (fun _ _ _ h => h) (Or.inl ⟨by rfl, ?_⟩) (by assumption) ?_
 rotate_left
 ·(intro w' hSw; (try dsimp only at hSw); go_simp; try with_reducible rfl)
 simp only [Act.put, getElem_toArray, getElem_cons_zero, getElem_cons_succ, setIfInBounds_toArray, set_cons_zero, set_cons_succ]
 refine wpAnyH_take (i := 10) (v := ?_) rfl (by kernel_rfl) (by kernel_rfl) (by kernel_rfl) (fun _ _ _ h => h) (Or.inl ⟨by rfl, ?_⟩) (by assumption) ?_
 rotate_left
 ·(intro w' hSw; (try dsimp only at hSw); go_simp; try with_reducible rfl)
 simp only [Act.put, getElem_toArray, getElem_cons_zero, getElem_cons_succ, setIfInBounds_toArray, set_cons_zero, set_cons_succ]
 refine wpAnyH_take (i := 12) (v := ?_) rfl (by kernel_rfl) (by kernel_rfl) (by kernel_rfl) (fun _ _ _ h => h) (Or.inl ⟨by rfl, ?_⟩) (by assumption) ?_
 rotate_left
 ·(intro w' hSw; (try dsimp only at hSw); go_simp; try with_reducible rfl)
 simp only [Act.put, getElem_toArray, getElem_cons_zero, getElem_cons_succ, setIfInBounds_toArray, set_cons_zero, set_cons_succ]
 refine wpAnyH_take (i := 14) (v := ?_) rfl (by kernel_rfl) (by kernel_rfl) (by kernel_rfl) (fun _ _ _ h => h) (Or.inl ⟨by rfl, ?_⟩) (by assumption) ?_
 rotate_left
 ·(intro w' hSw; (try dsimp only at hSw); go_simp; try with_reducible rfl)
 simp only [Act.put, getElem_toArray, getElem_cons_zero, getElem_cons_succ, setIfInBounds_toArray, set_cons_zero, set_cons_succ]
 refine wpAnyH_take (i := 17) (v := ?_) rfl (by kernel_rfl) (by kernel_rfl) (by kernel_rfl) (fun _ _ _ h => h) (Or.inl ⟨by rfl, ?_⟩) (by assumption) ?_
 rotate_left
 ·(intro w' hSw; (try dsimp only at hSw); go_simp; try with_reducible rfl)
 simp only [Act.put, getElem_toArray, getElem_cons_zero, getElem_cons_succ, setIfInBounds_toArray, set_cons_zero, set_cons_succ]
 refine wpAnyH_take (i := 18) (v := ?_) rfl (by kernel_rfl) (by kernel_rfl) (by kernel_rfl) (fun _ _ _ h => h) (Or.inl ⟨by rfl, ?_⟩) (by assumption) ?_
 rotate_left
 ·(intro w' hSw; (try dsimp only at hSw); go_simp; try with_reducible rfl)
 simp only [Act.put, getElem_toArray, getElem_cons_zero, getElem_cons_succ, setIfInBounds_toArray, set_cons_zero, set_cons_succ]
 refine wpAnyH_take (i := 19) (v := ?_) rfl (by kernel_rfl) (by kernel_rfl) (by kernel_rfl) (fun _ _ _ h => h) (Or.inl ⟨by rfl, ?_⟩) (by assumption) ?_
 rotate_left
 ·(intro w' hSw; (try dsimp only at hSw); go_simp; try with_reducible rfl)
 simp only [Act.put, getElem_toArray, getElem_cons_zero, getElem_cons_succ, setIfInBounds_toArray, set_cons_zero, set_cons_succ]
 refine wpAnyH_take (i := 20) (v := ?_) rfl (by kernel_rfl) (by kernel_rfl) (by kernel_rfl) (fun _ _ _ h => h) (Or.inl ⟨by rfl, ?_⟩) (by assumption) ?_
 rotate_left
 ·(intro w' hSw; (try dsimp only at hSw); go_simp; try with_reducible rfl)
 simp only [Act.put, getElem_toArray, getElem_cons_zero, getElem_cons_succ, setIfInBounds_toArray, set_cons_zero, set_cons_succ]
 refine wpAnyH_ready (rs := [6]) (by kernel_rfl) (by simp) ?_
 refine AllReadyH.cons rfl (fun K hK => ?_) AllReadyH.nil
 go_simp
 go_at_call 110
 refine (cmp_i32 _ _ _).mono ?_
 rintro e _ ⟨rfl, rfl⟩
 refine hK.out _ _ (KZ.out _ tt) (fun _ => ?_)
 clear hK K
 refine wpAnyH_ready (rs := [11]) (by kernel_rfl) (by simp) ?_
 refine AllReadyH.cons rfl (fun K hK => ?_) AllReadyH.nil
 go_simp
 go_at_call 79
 refine (cmp_i64 _ _ _).mono ?_
 rintro e _ ⟨rfl, rfl⟩
 refine hK.out _ _ (KZ.out _ tt) (fun _ => ?_)
 clear hK K
 refine wpAnyH_ready (rs := [13]) (by kernel_rfl) (by simp) ?_
 refine AllReadyH.cons rfl (fun K hK => ?_) AllReadyH.nil
 go_simp
 go_at_call 111
 refine (endd_any a X0).mono ?_
 rintro e Y1 ⟨rfl, u1⟩
 have t_Y1 : Below W1.heap.size W1 Y1 := tt.trans (u1.mono tt.size)
 refine hK.out _ _ (KZ.out _ t_Y1) (fun _ => ?_)
 clear hK K
 refine wpAnyH_ready (rs := [15]) (by kernel_rfl) (by simp) ?_
 refine AllReadyH.cons rfl (fun K hK => ?_) AllReadyH.nil
 go_simp
 go_at_call 111
 refine (endd_any b Y1).mono ?_
 rintro e Y2 ⟨rfl, u2⟩
 have t_Y2 : Below W1.heap.size W1 Y2 := t_Y1.trans (u2.mono t_Y1.size)
 refine hK.out _ _ (KZ.out _ t_Y2) (fun _ => ?_)
 clear hK K
 refine wpAnyH_ready (rs := [16]) (by kernel_rfl) (by simp) ?_
 refine AllReadyH.cons rfl (fun K hK => ?_) AllReadyH.nil
 go_simp
 go_at_call 79
 refine (cmp_i64 _ _ _).mono ?_
 rintro e _ ⟨rfl, rfl⟩
 refine hK.out _ _ (KZ.out _ t_Y2) (fun _ => ?_)
 clear hK K
 refine wpAnyH_ready (rs := [21]) (by kernel_rfl) (by simp) ?_
 refine AllReadyH.cons rfl (fun K hK => ?_) AllReadyH.nil
 go_simp
 go_at_call 112
 refine (yng_any _ _ _ ha0 ha1 hb0 hb1).mono ?_
 rintro e _ ⟨rfl, rfl⟩
 refine hK.out _ _ (KZ.out _ t_Y2) (fun _ => ?_)
 clear hK K
 refine wpAnyH_ready (rs := [22]) (by kernel_rfl) (by simp) ?_
 refine AllReadyH.cons rfl (fun K hK => ?_) AllReadyH.nil
 go_simp
 obtain ⟨Y3, hY3⟩ : ∃ V, Y2.alloc (.cells #[.int .i64 (cmpI (sg a.q) (sg b.q)), .int .i64 (cmpI a.s b.s), .int .i64 (cmpI (endd a.a) (endd b.a)), .int .i64 (yng a.a b.a)] 3) = V := ⟨_, rfl⟩
 have u3 : Below Y2.heap.size Y2 Y3 := by rw [← hY3]; exact below_alloc1 _ _
 have t_Y3 : Below W1.heap.size W1 Y3 := t_Y2.trans (u3.mono t_Y2.size)
 obtain ⟨k3, hk3⟩ : ∃ k, Y2.heap.size = k := ⟨_, rfl⟩
 have zr : Bs .i64 Y3 Y3.heap.size (some ⟨k3, 0, none⟩) [cmpI (sg a.q) (sg b.q), cmpI a.s b.s, cmpI (endd a.a) (endd b.a), yng a.a b.a] := by
  rw [← hY3]
  exact Bs.mk _ _ _ _ _ _ hk3 (by simp [maxLen]) rfl
 try rw [hY3]
 try rw [hk3]
 refine hK.out _ _ (KZ.out _ t_Y3) (fun _ => ?_)
 clear hK K
 refine wpAnyH_ready (rs := [23]) (by kernel_rfl) (by simp) ?_
 refine AllReadyH.cons rfl (fun K hK => ?_) AllReadyH.nil
 go_simp
 go_at_call 78
 refine (first_any (some ⟨k3, 0, none⟩) 4 4 _ Y3 rfl zr (by decide)).mono ?_
 rintro e _ ⟨rfl, rfl⟩
 refine hK.out _ _ (KZ.out _ t_Y3) (fun _ => ?_)
 clear hK K
 refine wpAnyH_ready (rs := [24]) (by kernel_rfl) (by simp) ?_
 refine AllReadyH.cons rfl (fun K hK => ?_) AllReadyH.nil
 go_simp
 refine hK.out _ _ (KZ.out _ t_Y3) (fun _ => ?_)
 clear hK K
 refine wpAnyH_done (by kernel_rfl) ?_ _
 go_wp2
 go_ret
 exact ⟨ret_int (by rw [HC.out]), B2.out.trans (t_Y3.mono B2.out.size)⟩
end Go.Proofs.YtadcicmccdphkaaGreat
namespace Go.Proofs.YtadcicmccdphkaaGreat
open Go.RowKit Go.Joins
open List (getElem_toArray getElem_cons_zero getElem_cons_succ setIfInBounds_toArray set_cons_zero set_cons_succ)

section
variable {P : Program} (w : World)
theorem run_apn (base : Nat) (t ty e : TypeId) (k : IntKind) (i : TypeInfo) (z : Value) (bytes : Nat) (ht : P.underlying t = some (.slice e)) (hi : P.info? e = some i) (hz : i.zero = some z)
  (hsize : i.size = 1) (hby : i.bytes = bytes) (hzs : z.cells.size = 1) (A : Option Addr) (c : Nat) (l : List Int) (hown : Own k e w base A c l)
  (B : Nat) (A2 : Option Addr) (c2 : Nat) (l2 : List Int) (hr : Bs k w B A2 l2) (x y : Nat) (hx : l.length = x) (hy : l2.length = y)
  (h63 : x + y ≤ maxLen) (hbytes : (x + y) * bytes ≤ 140737488355328) (hbase : base ≤ w.heap.size) :
  ∃ A' c' w', (Builtin.append_ #[t, t] ty #[.slice A x c, .slice A2 y c2]).run P w = .ok (.slice A' (x + y) c') w' ∧ Own k e w' base A' c' (l ++ l2) ∧ Below base w w' := by
 subst hx hy
 have h := run_app (P := P) w base t ty e k i z bytes ht hi hz hsize hby hzs A c l hown B A2 c2 l2 hr h63 hbytes hbase
 rwa [List.length_append] at h
end
theorem elk_flat (x : Lk) : flat 4 [x.i, x.d] ++ (be x.k 1 ++ (be 0 1 ++ (be x.c 2 ++ []))) = elk x := by simp [elk, flat]
set_option maxRecDepth 100000 in
set_option maxHeartbeats 2000000 in
theorem link_any (x : Lk) (w : World) (ok : Okl x) (hm : mayk x = true) :
  Calls Tryz.prog 126 #[.agg #[.int .i64 x.k, .int .u32 x.i, .int .u32 x.d, .int .i64 x.c]] w fun e w' => ∃ A' c', e = .returned (.slice A' 12 c') ∧ Own .u8 5 w' w.heap.size A' c' (elk x) ∧ Below w.heap.size w w' := by
 obtain ⟨W0, hW0⟩ : ∃ V, w.alloc (.cells #[.int .i64 x.k, .int .u32 x.i, .int .u32 x.d, .int .i64 x.c] 149) = V := ⟨_, rfl⟩
 have bW0 : Below w.heap.size w W0 := by rw [← hW0]; exact below_alloc1 _ _
 have sW0 : W0.heap.size = w.heap.size + 1 := by rw [← hW0]; simp
 have KX : Hid (∀ V, Below W0.heap.size W0 V → V.cell? ⟨w.heap.size, 0, none⟩ = some (.int .i64 x.k) ∧ V.cell? ⟨w.heap.size, 1, none⟩ = some (.int .u32 x.i) ∧ V.cell? ⟨w.heap.size, 2, none⟩ = some (.int .u32 x.d) ∧ V.cell? ⟨w.heap.size, 3, none⟩ = some (.int .i64 x.c)) := Lib.hid (fun V hV => kb4_new hW0 hV)
 have HB : Hid (Below w.heap.size w W0) := Lib.hid bW0
 obtain ⟨⟨hk0, hk1⟩, hc0, hc1⟩ := (mayk_iff x).1 hm
 obtain ⟨hi0, hi1⟩ := ok.i
 obtain ⟨hd0, hd1⟩ := ok.d
 have HW : Hid (Wrd [x.i, x.d]) := Lib.hid (fun y hy => by
  simp only [List.mem_cons, List.not_mem_nil, or_false] at hy
  rcases hy with rfl | rfl
  ·exact ⟨hi0, hi1⟩
  ·exact ⟨hd0, hd1⟩)
 have tt : Below W0.heap.size W0 W0 := Below.refl _ _
 clear bW0 hm ok
 go_enter Tryz.func126, Tryz.ntmps126
 go_wp2_with fail
 refine wp_region_held_drew (S := fun V => V.cell? ⟨w.heap.size, 0, none⟩ = some (.int .i64 x.k) ∧ V.cell? ⟨w.heap.size, 1, none⟩ = some (.int .u32 x.i) ∧ V.cell? ⟨w.heap.size, 2, none⟩ = some (.int .u32 x.d) ∧ V.cell? ⟨w.heap.size, 3, none⟩ = some (.int .i64 x.c)) (by kernel_rfl) (KX.out _ tt.drew) (fun hHeld => ?_)
 replace tt : Below W0.heap.size W0 W0.drew := tt.drew
 generalize hX0 : W0.drew = Y0 at tt hHeld ⊢
 clear hX0
 refine wpAnyH_take (i := 0) (v := ?_) rfl (by kernel_rfl) (by kernel_rfl) (by kernel_rfl) (fun _ _ _ h => h) (Or.inl ⟨by rfl, ?_⟩) (by assumption) ?_
 rotate_left
 ·(intro w' hSw; (try dsimp only at hSw); go_simp; try with_reducible rfl)
 simp only [Act.put, getElem_toArray, getElem_cons_zero, setIfInBounds_toArray, set_cons_zero, set_cons_succ]
 refine wpAnyH_take (i := 1) (v := ?_) rfl (by kernel_rfl) (by kernel_rfl) (by kernel_rfl) (fun _ _ _ h => h) (Or.inl ⟨by rfl, ?_⟩) (by assumption) ?_
 rotate_left
 ·(intro w' hSw; (try dsimp only at hSw); go_simp; try with_reducible rfl)
 simp only [Act.put, getElem_toArray, getElem_cons_zero, getElem_cons_succ, setIfInBounds_toArray, set_cons_zero, set_cons_succ]
 refine wpAnyH_take (i := 2) (v := ?_) rfl (by kernel_rfl) (by kernel_rfl) (by kernel_rfl) (fun _ _ _ h => h) (Or.inl ⟨by rfl, ?_⟩) (by assumption) ?_
 rotate_left
 ·(intro w' hSw; (try dsimp only at hSw); go_simp; try with_reducible rfl)
 simp only [Act.put, getElem_toArray, getElem_cons_zero, getElem_cons_succ, setIfInBounds_toArray, set_cons_zero, set_cons_succ]
 refine wpAnyH_take (i := 3) (v := ?_) rfl (by kernel_rfl) (by kernel_rfl) (by kernel_rfl) (fun _ _ _ h => h) (Or.inl ⟨by rfl, ?_⟩) (by assumption) ?_
 rotate_left
 ·(intro w' hSw; (try dsimp only at hSw); go_simp; try with_reducible rfl)
 simp only [Act.put, getElem_toArray, getElem_cons_zero, getElem_cons_succ, setIfInBounds_toArray, set_cons_zero, set_cons_succ]
 refine wpAnyH_take (i := 6) (v := ?_) rfl (by kernel_rfl) (by kernel_rfl) (by kernel_rfl) (fun _ _ _ h => h) (Or.inl ⟨by rfl, ?_⟩) (by assumption) ?_
 rotate_left
 ·(intro w' hSw; (try dsimp only at hSw); go_simp; try with_reducible rfl)
 simp only [Act.put, getElem_toArray, getElem_cons_zero, getElem_cons_succ, setIfInBounds_toArray, set_cons_zero, set_cons_succ]
 refine wpAnyH_take (i := 7) (v := ?_) rfl (by kernel_rfl) (by kernel_rfl) (by kernel_rfl) (fun _ _ _ h => h) (Or.inl ⟨by rfl, ?_⟩) (by assumption) ?_
 rotate_left
 ·(intro w' hSw; (try dsimp only at hSw); go_simp; try with_reducible rfl)
 simp only [Act.put, getElem_toArray, getElem_cons_zero, getElem_cons_succ, setIfInBounds_toArray, set_cons_zero, set_cons_succ]
 refine wpAnyH_take (i := 8) (v := .int .u32 x.k) rfl (by kernel_rfl) (by kernel_rfl) (by kernel_rfl) (fun _ _ _ h => h) (Or.inl ⟨by rfl, ?_⟩) (by assumption) ?_
 ·(intro w' hSw; (try dsimp only at hSw); go_simp; rw [wrap_u32 (by omega) (by omega)])
 simp only [Act.put, getElem_toArray, getElem_cons_zero, getElem_cons_succ, setIfInBounds_toArray, set_cons_zero, set_cons_succ]
 refine wpAnyH_take (i := 11) (v := ?_) rfl (by kernel_rfl) (by kernel_rfl) (by kernel_rfl) (fun _ _ _ h => h) (Or.inl ⟨by rfl, ?_⟩) (by assumption) ?_
 rotate_left
 ·(intro w' hSw; (try dsimp only at hSw); go_simp; try with_reducible rfl)
 simp only [Act.put, getElem_toArray, getElem_cons_zero, getElem_cons_succ, setIfInBounds_toArray, set_cons_zero, set_cons_succ]
 refine wpAnyH_take (i := 12) (v := ?_) rfl (by kernel_rfl) (by kernel_rfl) (by kernel_rfl) (fun _ _ _ h => h) (Or.inl ⟨by rfl, ?_⟩) (by assumption) ?_
 rotate_left
 ·(intro w' hSw; (try dsimp only at hSw); go_simp; try with_reducible rfl)
 simp only [Act.put, getElem_toArray, getElem_cons_zero, getElem_cons_succ, setIfInBounds_toArray, set_cons_zero, set_cons_succ]
 refine wpAnyH_take (i := 13) (v := .int .u32 x.c) rfl (by kernel_rfl) (by kernel_rfl) (by kernel_rfl) (fun _ _ _ h => h) (Or.inl ⟨by rfl, ?_⟩) (by assumption) ?_
 ·(intro w' hSw; (try dsimp only at hSw); go_simp; rw [wrap_u32 (by omega) (by omega)])
 simp only [Act.put, getElem_toArray, getElem_cons_zero, getElem_cons_succ, setIfInBounds_toArray, set_cons_zero, set_cons_succ]
 refine wpAnyH_ready (rs := [4]) (by kernel_rfl) (by simp) ?_
 refine AllReadyH.cons rfl (fun K hK => ?_) AllReadyH.nil
 go_simp
 obtain ⟨Y1, hY1⟩ : ∃ V, Y0.alloc (.cells #[.int .u32 x.i, .int .u32 x.d] 23) = V := ⟨_, rfl⟩
 have u1 : Below Y0.heap.size Y0 Y1 := by rw [← hY1]; exact below_alloc1 _ _
 have t_Y1 : Below W0.heap.size W0 Y1 := tt.trans (u1.mono tt.size)
 obtain ⟨k1, hk1⟩ : ∃ k, Y0.heap.size = k := ⟨_, rfl⟩
 have zr : Bs .u32 Y1 Y1.heap.size (some ⟨k1, 0, none⟩) [x.i, x.d] := by
  rw [← hY1]
  exact Bs.mk _ _ _ _ _ _ hk1 (by simp [maxLen]) rfl
 try rw [hY1]
 try rw [hk1]
 refine hK.out _ _ (KX.out _ t_Y1) (fun _ => ?_)
 clear hK K
 refine wpAnyH_ready (rs := [5]) (by kernel_rfl) (by simp) ?_
 refine AllReadyH.cons rfl (fun K hK => ?_) AllReadyH.nil
 go_simp
 go_at_call 129
 refine (brow_any (some ⟨k1, 0, none⟩) 2 2 8 [x.i, x.d] Y1 rfl rfl zr HW.out (by decide)).mono ?_
 rintro e Y2 ⟨A2, c2, rfl, o2, u2⟩
 have t_Y2 : Below W0.heap.size W0 Y2 := t_Y1.trans (u2.mono t_Y1.size)
 replace zr := zr.step u2
 have z1 := o2.bs
 clear o2
 refine hK.out _ _ (KX.out _ t_Y2) (fun _ => ?_)
 clear hK K
 refine wpAnyH_ready (rs := [9]) (by kernel_rfl) (by simp) ?_
 refine AllReadyH.cons rfl (fun K hK => ?_) AllReadyH.nil
 go_simp
 go_at_call 125
 refine (yfield_any x.k 1 1 Y2 rfl (by decide) (by decide) (by omega) (by omega) (by omega)).mono ?_
 rintro e Y3 ⟨A3, c3, rfl, o3, u3⟩
 have t_Y3 : Below W0.heap.size W0 Y3 := t_Y2.trans (u3.mono t_Y2.size)
 replace zr := zr.step u3
 replace z1 := z1.step u3
 have z2 := o3.bs
 clear o3
 refine hK.out _ _ (KX.out _ t_Y3) (fun _ => ?_)
 clear hK K
 refine wpAnyH_ready (rs := [10]) (by kernel_rfl) (by simp) ?_
 refine AllReadyH.cons rfl (fun K hK => ?_) AllReadyH.nil
 go_simp
 go_at_call 125
 refine (yfield_any 0 1 1 Y3 rfl (by decide) (by decide) (by omega) (by omega) (by omega)).mono ?_
 rintro e Y4 ⟨A4, c4, rfl, o4, u4⟩
 have t_Y4 : Below W0.heap.size W0 Y4 := t_Y3.trans (u4.mono t_Y3.size)
 replace zr := zr.step u4
 replace z1 := z1.step u4
 replace z2 := z2.step u4
 have z3 := o4.bs
 clear o4
 refine hK.out _ _ (KX.out _ t_Y4) (fun _ => ?_)
 clear hK K
 refine wpAnyH_ready (rs := [14]) (by kernel_rfl) (by simp) ?_
 refine AllReadyH.cons rfl (fun K hK => ?_) AllReadyH.nil
 go_simp
 go_at_call 125
 refine (yfield_any x.c 2 2 Y4 rfl (by decide) (by decide) (by omega) (by omega) (by omega)).mono ?_
 rintro e Y5 ⟨A5, c5, rfl, o5, u5⟩
 have t_Y5 : Below W0.heap.size W0 Y5 := t_Y4.trans (u5.mono t_Y4.size)
 replace zr := zr.step u5
 replace z1 := z1.step u5
 replace z2 := z2.step u5
 replace z3 := z3.step u5
 have z4 := o5.bs
 clear o5
 refine hK.out _ _ (KX.out _ t_Y5) (fun _ => ?_)
 clear hK K
 refine wpAnyH_ready (rs := [15]) (by kernel_rfl) (by simp) ?_
 refine AllReadyH.cons rfl (fun K hK => ?_) AllReadyH.nil
 go_simp
 obtain ⟨Y6, hY6⟩ : ∃ V, Y5.alloc (.cells #[.slice A2 8 c2, .slice A3 1 c3, .slice A4 1 c4, .slice A5 2 c5] 38) = V := ⟨_, rfl⟩
 have u6 : Below Y5.heap.size Y5 Y6 := by rw [← hY6]; exact below_alloc1 _ _
 have t_Y6 : Below W0.heap.size W0 Y6 := t_Y5.trans (u6.mono t_Y5.size)
 replace zr := zr.step u6
 replace z1 := z1.step u6
 replace z2 := z2.step u6
 replace z3 := z3.step u6
 replace z4 := z4.step u6
 obtain ⟨k6, hk6⟩ : ∃ k, Y5.heap.size = k := ⟨_, rfl⟩
 have hP : Ps Y6 (some ⟨k6, 0, none⟩) [⟨A2, c2, flat 4 [x.i, x.d]⟩, ⟨A3, c3, be x.k 1⟩, ⟨A4, c4, be 0 1⟩, ⟨A5, c5, be x.c 2⟩] := by
  rw [← hY6]
  exact Ps.mk _ _ _ _ _ hk6 (by simp [be_length, flat_length])
 try rw [hY6]
 try rw [hk6]
 refine hK.out _ _ (KX.out _ t_Y6) (fun _ => ?_)
 clear hK K
 refine wpAnyH_ready (rs := [16]) (by kernel_rfl) (by simp) ?_
 refine AllReadyH.cons rfl (fun K hK => ?_) AllReadyH.nil
 go_simp
 have cc := concat_n (some ⟨k6, 0, none⟩) 4 4 _ Y6 rfl hP (fun p' hp => by
  simp only [List.mem_cons, List.not_mem_nil, or_false] at hp
  rcases hp with rfl | rfl | rfl | rfl
  ·exact z1
  ·exact z2
  ·exact z3
  ·exact z4) (by simp) (by simp [cat, be_length, flat_length] <;> omega)
 have hcat : cat [⟨A2, c2, flat 4 [x.i, x.d]⟩, ⟨A3, c3, be x.k 1⟩, ⟨A4, c4, be 0 1⟩, ⟨A5, c5, be x.c 2⟩] = elk x := by simp only [cat]; exact elk_flat x
 rw [hcat] at cc
 try rw [show (elk x).length = 12 by first | (rw [elk_length]) | (simp [be_length, flat_length] <;> omega)] at cc
 clear hcat
 go_at_call 93
 refine (cc).mono ?_
 rintro e Y7 ⟨A7, c7, rfl, o7, u7⟩
 have t_Y7 : Below W0.heap.size W0 Y7 := t_Y6.trans (u7.mono t_Y6.size)
 replace zr := zr.step u7
 replace z1 := z1.step u7
 replace z2 := z2.step u7
 replace z3 := z3.step u7
 replace z4 := z4.step u7
 replace hP := hP.step u7
 refine hK.out _ _ (KX.out _ t_Y7) (fun _ => ?_)
 clear hK K
 refine wpAnyH_ready (rs := [17]) (by kernel_rfl) (by simp) ?_
 refine AllReadyH.cons rfl (fun K hK => ?_) AllReadyH.nil
 go_simp
 refine hK.out _ _ (KX.out _ t_Y7) (fun _ => ?_)
 clear hK K
 refine wpAnyH_done (by kernel_rfl) ?_ _
 go_wp2
 go_ret
 exact ⟨A7, c7, rfl, o7.lower (Nat.le_trans HB.out.size t_Y6.size), HB.out.trans (t_Y7.mono HB.out.size)⟩
def hdR (f : Int) (n : Nat) : List Int := be f 1 ++ (be 0 1 ++ be (n : Int) 2)
theorem hdR_length (f : Int) (n : Nat) : (hdR f n).length = 4 := by simp [hdR, be_length]
theorem hdR_byt (f : Int) (n : Nat) : Byt (hdR f n) := (be_byt _ _).append ((be_byt _ _).append (be_byt _ _))
def enR (f : Int) (L : List Lk) : List Int := hdR f L.length ++ els L
theorem enR_length (f : Int) (L : List Lk) : (enR f L).length = 4 + L.length * 12 := by rw [enR, List.length_append, hdR_length, els_length]
theorem enR_byt (f : Int) (L : List Lk) : Byt (enR f L) := (hdR_byt _ _).append (els_byt _)
def encRE (f : Int) (L : List Lk) : Int := if mayR f L = true then 0 else 1
def encRL (f : Int) (L : List Lk) : List Int := if mayR f L = true then enR f L else []
set_option maxRecDepth 100000 in
set_option maxHeartbeats 4000000 in
theorem router_any (f : Int) (A : Option Addr) (n c : Nat) (L : List Lk) (w : World) (hn : L.length = n) (ok : Okls L) (hl : Lr w A L) (hll : n ≤ 10000) :
  Calls Tryz.prog 100 #[.agg #[.int .i64 f, .slice A n c]] w fun e w' => ∃ A' c', e = .returned (.tuple #[.slice A' (encRL f L).length c', .int .i64 (encRE f L)]) ∧ Own .u8 5 w' w.heap.size A' c' (encRL f L) ∧ Below w.heap.size w w' := by
 obtain ⟨W0, hW0⟩ : ∃ V, w.alloc (.cells #[.int .i64 f, .slice A n c] 124) = V := ⟨_, rfl⟩
 have bW0 : Below w.heap.size w W0 := by rw [← hW0]; exact below_alloc1 _ _
 have sW0 : W0.heap.size = w.heap.size + 1 := by rw [← hW0]; simp
 have KX : Hid (∀ V, Below W0.heap.size W0 V → V.cell? ⟨w.heap.size, 0, none⟩ = some (.int .i64 f) ∧ V.cell? ⟨w.heap.size, 1, none⟩ = some (.slice A n c)) := Lib.hid (fun V hV => kb2_new hW0 hV)
 have HB : Hid (Below w.heap.size w W0) := Lib.hid bW0
 have HL := Lib.hid (hl.step bW0)
 have CM := mayR_any f A n c L W0 hn HL.out hll
 have HLN := Lib.hid hn
 clear bW0 hl
 obtain ⟨k0, k1⟩ := KX.out _ (Below.refl _ _)
 by_cases hm : mayR f L = true
 case neg =>
  have e1 : encRE f L = 1 := by simp [encRE, hm]
  have e2 : encRL f L = [] := by simp [encRL, hm]
  rw [e1, e2]
  have hm2 : mayR f L = false := by simpa using hm
  clear e1 e2 hm hn
  go_enter Tryz.func100, Tryz.ntmps100
  go_wp2_with fail
  refine CM.mono ?_
  rintro e X0 ⟨rfl, t0⟩
  rw [hm2]
  go_wp2
  go_ret2
  exact ⟨none, 0, rfl, Own.nil _ _, HB.out.trans (t0.mono HB.out.size)⟩
 have e1 : encRE f L = 0 := by simp [encRE, hm]
 have e2 : encRL f L = enR f L := by simp [encRL, hm]
 rw [e1, e2, enR_length]
 have HE : Hid (enR f L = hdR f n ++ els L) := Lib.hid (by rw [enR, hn])
 obtain ⟨⟨hf0, hf1⟩, hl100, hlm⟩ := (mayR_iff f L).1 hm
 rw [hn] at hl100 ⊢
 have HLM := Lib.hid hlm
 have OK := Lib.hid ok
 have HM := Lib.hid hm
 obtain ⟨i0, hi0, hz0, hz1, hz2⟩ := info_of info5
 clear e1 e2 hm hn hlm ok
 go_enter Tryz.func100, Tryz.ntmps100
 go_wp2_with fail
 refine CM.mono ?_
 rintro e X0 ⟨rfl, t0⟩
 rw [HM.out]
 clear k0 k1 CM
 go_wp2_with fail
 refine wp_region_held_drew (S := fun V => V.cell? ⟨w.heap.size, 0, none⟩ = some (.int .i64 f) ∧ V.cell? ⟨w.heap.size, 1, none⟩ = some (.slice A n c)) (by kernel_rfl) (KX.out _ t0.drew) (fun hHeld => ?_)
 replace t0 : Below W0.heap.size W0 X0.drew := t0.drew
 generalize hX0 : X0.drew = Y0 at t0 hHeld ⊢
 clear hX0
 refine wpAnyH_take (i := 0) (v := ?_) rfl (by kernel_rfl) (by kernel_rfl) (by kernel_rfl) (fun _ _ _ h => h) (Or.inl ⟨by rfl, ?_⟩) (by assumption) ?_
 rotate_left
 ·(intro w' hSw; (try dsimp only at hSw); go_simp; try with_reducible rfl)
 simp only [Act.put, getElem_toArray, getElem_cons_zero, setIfInBounds_toArray, set_cons_zero, set_cons_succ]
 refine wpAnyH_take (i := 1) (v := ?_) rfl (by kernel_rfl) (by kernel_rfl) (by kernel_rfl) (fun _ _ _ h => h) (Or.inl ⟨by rfl, ?_⟩) (by assumption) ?_
 rotate_left
 ·(intro w' hSw; (try dsimp only at hSw); go_simp; try with_reducible rfl)
 simp only [Act.put, getElem_toArray, getElem_cons_zero, getElem_cons_succ, setIfInBounds_toArray, set_cons_zero, set_cons_succ]
 refine wpAnyH_take (i := 2) (v := .int .u32 f) rfl (by kernel_rfl) (by kernel_rfl) (by kernel_rfl) (fun _ _ _ h => h) (Or.inl ⟨by rfl, ?_⟩) (by assumption) ?_
 ·(intro w' hSw; (try dsimp only at hSw); go_simp; rw [wrap_u32 (by omega) (by omega)])
 simp only [Act.put, getElem_toArray, getElem_cons_zero, getElem_cons_succ, setIfInBounds_toArray, set_cons_zero, set_cons_succ]
 refine wpAnyH_take (i := 5) (v := ?_) rfl (by kernel_rfl) (by kernel_rfl) (by kernel_rfl) (fun _ _ _ h => h) (Or.inl ⟨by rfl, ?_⟩) (by assumption) ?_
 rotate_left
 ·(intro w' hSw; (try dsimp only at hSw); go_simp; try with_reducible rfl)
 simp only [Act.put, getElem_toArray, getElem_cons_zero, getElem_cons_succ, setIfInBounds_toArray, set_cons_zero, set_cons_succ]
 refine wpAnyH_take (i := 6) (v := ?_) rfl (by kernel_rfl) (by kernel_rfl) (by kernel_rfl) (fun _ _ _ h => h) (Or.inl ⟨by rfl, ?_⟩) (by assumption) ?_
 rotate_left
 ·(intro w' hSw; (try dsimp only at hSw); go_simp; try with_reducible rfl)
 simp only [Act.put, getElem_toArray, getElem_cons_zero, getElem_cons_succ, setIfInBounds_toArray, set_cons_zero, set_cons_succ]
 refine wpAnyH_take (i := 7) (v := ?_) rfl (by kernel_rfl) (by kernel_rfl) (by kernel_rfl) (fun _ _ _ h => h) (Or.inl ⟨by rfl, ?_⟩) (by assumption) ?_
 rotate_left
 ·(intro w' hSw; (try dsimp only at hSw); go_simp; try with_reducible rfl)
 simp only [Act.put, getElem_toArray, getElem_cons_zero, getElem_cons_succ, setIfInBounds_toArray, set_cons_zero, set_cons_succ]
 refine wpAnyH_take (i := 8) (v := .int .u32 (n : Int)) rfl (by kernel_rfl) (by kernel_rfl) (by kernel_rfl) (fun _ _ _ h => h) (Or.inl ⟨by rfl, ?_⟩) (by assumption) ?_
 ·(intro w' hSw; (try dsimp only at hSw); go_simp; rw [wrap_u32 (by omega) (by omega)])
 simp only [Act.put, getElem_toArray, getElem_cons_zero, getElem_cons_succ, setIfInBounds_toArray, set_cons_zero, set_cons_succ]
 refine wpAnyH_ready (rs := [3]) (by kernel_rfl) (by simp) ?_
 refine AllReadyH.cons rfl (fun K hK => ?_) AllReadyH.nil
 go_simp
 go_at_call 125
 refine (yfield_any f 1 1 Y0 rfl (by decide) (by decide) (by omega) (by omega) (by omega)).mono ?_
 rintro e Y1 ⟨A1, c1, rfl, o1, u1⟩
 have t_Y1 : Below W0.heap.size W0 Y1 := t0.trans (u1.mono t0.size)
 have z1 := o1.bs
 clear o1
 refine hK.out _ _ (KX.out _ t_Y1) (fun _ => ?_)
 clear hK K
 refine wpAnyH_ready (rs := [4]) (by kernel_rfl) (by simp) ?_
 refine AllReadyH.cons rfl (fun K hK => ?_) AllReadyH.nil
 go_simp
 go_at_call 125
 refine (yfield_any 0 1 1 Y1 rfl (by decide) (by decide) (by omega) (by omega) (by omega)).mono ?_
 rintro e Y2 ⟨A2, c2, rfl, o2, u2⟩
 have t_Y2 : Below W0.heap.size W0 Y2 := t_Y1.trans (u2.mono t_Y1.size)
 replace z1 := z1.step u2
 have z2 := o2.bs
 clear o2
 refine hK.out _ _ (KX.out _ t_Y2) (fun _ => ?_)
 clear hK K
 refine wpAnyH_ready (rs := [9]) (by kernel_rfl) (by simp) ?_
 refine AllReadyH.cons rfl (fun K hK => ?_) AllReadyH.nil
 go_simp
 go_at_call 125
 refine (yfield_any (n : Int) 2 2 Y2 rfl (by decide) (by decide) (by omega) (by omega) (by omega)).mono ?_
 rintro e Y3 ⟨A3, c3, rfl, o3, u3⟩
 have t_Y3 : Below W0.heap.size W0 Y3 := t_Y2.trans (u3.mono t_Y2.size)
 replace z1 := z1.step u3
 replace z2 := z2.step u3
 have z3 := o3.bs
 clear o3
 refine hK.out _ _ (KX.out _ t_Y3) (fun _ => ?_)
 clear hK K
 refine wpAnyH_ready (rs := [10]) (by kernel_rfl) (by simp) ?_
 refine AllReadyH.cons rfl (fun K hK => ?_) AllReadyH.nil
 go_simp
 obtain ⟨Y4, hY4⟩ : ∃ V, Y3.alloc (.cells #[.slice A1 1 c1, .slice A2 1 c2, .slice A3 2 c3] 38) = V := ⟨_, rfl⟩
 have u4 : Below Y3.heap.size Y3 Y4 := by rw [← hY4]; exact below_alloc1 _ _
 have t_Y4 : Below W0.heap.size W0 Y4 := t_Y3.trans (u4.mono t_Y3.size)
 replace z1 := z1.step u4
 replace z2 := z2.step u4
 replace z3 := z3.step u4
 obtain ⟨k4, hk4⟩ : ∃ k, Y3.heap.size = k := ⟨_, rfl⟩
 have hP : Ps Y4 (some ⟨k4, 0, none⟩) [⟨A1, c1, be f 1⟩, ⟨A2, c2, be 0 1⟩, ⟨A3, c3, be (n : Int) 2⟩] := by
  rw [← hY4]
  exact Ps.mk _ _ _ _ _ hk4 (by simp [be_length])
 try rw [hY4]
 try rw [hk4]
 refine hK.out _ _ (KX.out _ t_Y4) (fun _ => ?_)
 clear hK K
 refine wpAnyH_ready (rs := [11]) (by kernel_rfl) (by simp) ?_
 refine AllReadyH.cons rfl (fun K hK => ?_) AllReadyH.nil
 go_simp
 have cc := concat_n (some ⟨k4, 0, none⟩) 3 3 _ Y4 rfl hP (fun p' hp => by
  simp only [List.mem_cons, List.not_mem_nil, or_false] at hp
  rcases hp with rfl | rfl | rfl
  ·exact z1
  ·exact z2
  ·exact z3) (by simp) (by simp [cat, be_length] <;> omega)
 have hcat : cat [⟨A1, c1, be f 1⟩, ⟨A2, c2, be 0 1⟩, ⟨A3, c3, be (n : Int) 2⟩] = hdR f n := by simp [cat, hdR]
 rw [hcat] at cc
 rw [hdR_length] at cc
 clear hcat
 go_at_call 93
 refine (cc).mono ?_
 rintro e Y5 ⟨A5, c5, rfl, o5, u5⟩
 have t_Y5 : Below W0.heap.size W0 Y5 := t_Y4.trans (u5.mono t_Y4.size)
 replace z1 := z1.step u5
 replace z2 := z2.step u5
 replace z3 := z3.step u5
 replace hP := hP.step u5
 refine hK.out _ _ (KX.out _ t_Y5) (fun _ => ?_)
 clear hK K
 refine wpAnyH_ready (rs := [12]) (by kernel_rfl) (by simp) ?_
 refine AllReadyH.cons rfl (fun K hK => ?_) AllReadyH.nil
 go_simp
 refine hK.out _ _ (KX.out _ t_Y5) (fun _ => ?_)
 clear hK K
 refine wpAnyH_done (by kernel_rfl) ?_ _
 have O0 := Lib.hid (o5.lower (base' := W0.heap.size) t_Y4.size)
 have B0 := Lib.hid t_Y5
 obtain ⟨k0, k1⟩ := KX.out _ t_Y5
 clear cc hP o5 z1 z2 z3
 have hT : (4 : Nat) = 4 + 0 * 12 := rfl
 go_wp2_with fail
 clear k0 k1
 go_loopg [4, 25] n (fun gf v4 v25 wx => ∃ (j x : Nat) (A' : Option Addr) (c' : Nat), v4 = .slice A' x c' ∧ v25 = .int .i64 (j : Int) ∧ Hid (gf + j = n) ∧ Hid (x = 4 + j * 12) ∧ Hid (Own .u8 5 wx W0.heap.size A' c' (hdR f n ++ els (L.take j))) ∧ Hid (Below W0.heap.size W0 wx))
 case atStart => exact ⟨0, 4, A5, c5, rfl, rfl, Lib.hid (by omega), Lib.hid (by omega), Lib.hid (by simpa [els_nil] using O0.out), B0⟩
 case round =>
  obtain ⟨j, x, A', c', rfl, rfl, hj, hx, ho, hb⟩ := hrel
  have hj' := hj.out
  clear O0 B0
  cases gk with
  | zero =>
   have lt0 : decide ((j : Int) < (n : Int)) = false := by simp; omega
   have lt1 : decide (j < n) = false := by simp; omega
   have HF : Hid (Own .u8 5 wr W0.heap.size A' c' (enR f L)) := Lib.hid (by
    rw [HE.out]
    have := ho.out
    rwa [List.take_of_length_le (by rw [HLN.out]; omega)] at this)
   have HX : Hid (4 + n * 12 = x) := Lib.hid (by have := hx.out; omega)
   go_wp2
   go_ret2
   have e := HX.out
   refine ⟨A', c', ?_, HF.out.lower HB.out.size, HB.out.trans (hb.out.mono HB.out.size)⟩
   rw [e]
   rfl
  | succ gf =>
   have hlt : j < L.length := by rw [HLN.out]; omega
   have lt0 : (j : Int) < (n : Int) := by omega
   have hw1 : (j : Int) + 1 ≤ 10000 := by omega
   obtain ⟨b, off, hA, _, e0, e1, e2, e3⟩ := (HL.out.step hb.out).at hlt
   have hmem := gl_mem hlt
   have HV : Hid (L.take (j + 1) = L.take j ++ [gl L j]) := Lib.hid (take_gl hlt)
   have HSL : Hid ((hdR f n ++ els (L.take j)).length = x) := Lib.hid (by
    rw [List.length_append, hdR_length, els_length, List.length_take, HLN.out]
    have := hx.out
    omega)
   obtain ⟨y, hy⟩ : ∃ y, gl L j = y := ⟨_, rfl⟩
   rw [hy] at e0 e1 e2 e3 hmem HV
   have oy := OK.out y hmem
   have my := HLM.out y hmem
   subst hA
   clear hy hmem hlt
   obtain ⟨W1, hW1⟩ : ∃ V, wr.alloc (.cells #[Value.int .i64 y.k, .int .u32 y.i, .int .u32 y.d, .int .i64 y.c] 149) = V := ⟨_, rfl⟩
   have b1 : Below wr.heap.size wr W1 := by rw [← hW1]; exact below_alloc1 _ _
   obtain ⟨y0, y1, y2, y3⟩ := kb4_new hW1 (Below.refl _ _)
   have c1 := link_any y W1 oy my
   go_wp2_with fail
   refine c1.mono ?_
   rintro e W2 ⟨A2, c2, rfl, o2, u2⟩
   have sz := hb.out.size
   have b2 : Below wr.heap.size wr W2 := b1.trans (u2.mono b1.size)
   have hx9 : x ≤ 10000 := by have := hx.out; omega
   obtain ⟨A3, c3, W3, rW3, oW3, tW3⟩ := run_apn (P := Tryz.prog) W2 W0.heap.size 38 38 5 .u8 i0 _ 1 Tryz.underlying38 hi0 hz0 hz1 hz2 rfl _ _ _ (ho.out.below b2 (Nat.le_refl _)) _ A2 c2 _ o2.bs x 12 HSL.out (elk_length y) (by unfold maxLen; omega) (by omega) (Nat.le_trans sz b2.size)
   have HO : Hid (Own .u8 5 W3 W0.heap.size A3 c3 (hdR f n ++ els (L.take (j + 1)))) := Lib.hid (by
    rw [HV.out, els_snoc, ← List.append_assoc]
    exact oW3)
   have HB3 : Hid (Below W0.heap.size W0 W3) := Lib.hid ((hb.out.trans (b2.mono sz)).trans tW3)
   have HXX : Hid (x + 12 = 4 + (j + 1) * 12) := Lib.hid (by have := hx.out; omega)
   clear o2 u2 b1 b2 oW3 tW3 ho hb HSL hx c1 e0 e1 e2 e3 y0 y1 y2 y3 sz
   go_wp2_with (at_builtin; refine wpList_runb _ rfl (.tmp 29) (.tmp 31) 38 rfl rfl rfl rW3 ?_)
   go_wp2
   go_roundg gf
   case measure => omega
   case rel => exact ⟨j + 1, x + 12, A3, c3, by go_num, by go_num, Lib.hid (by omega), HXX, HO, HB3⟩
end Go.Proofs.YtadcicmccdphkaaGreat
