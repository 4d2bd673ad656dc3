/-
  The contract of store.Drop. No statement is proved here; no conditions.
-/
import Derived.Test.YtadcicmccdphkaaGreatG13
namespace Go.Proofs.YtadcicmccdphkaaGreat
open Go.RowKit Go.Joins
open List (getElem_toArray getElem_cons_zero getElem_cons_succ setIfInBounds_toArray set_cons_zero set_cons_succ)

theorem Aro.off {base : Nat} {w : World} {A : Option Addr} {c : Nat} {L : List Ae} (h : Aro base w A c L) {b : Nat} {cur : Array Value} {t : TypeId} {m : Nat × Nat} (hb : w.heap[b]? = some (.cells cur t m)) (ht : t ≠ 40) : ¬ A = some ⟨b, 0, none⟩ := fun e => by
 obtain ⟨cur2, m2, h2⟩ := h.row.typed e
 rw [hb] at h2
 injection h2 with h2
 injection h2 with _ h3 _
 exact ht h3
theorem Bk.kp {base : Nat} {w w' : World} {A : Option Addr} {c : Nat} {L : List Ae} {b : Nat} {cur : Array Value} {t : TypeId} {m : Nat × Nat} (hb : Bk w b (.cells cur t m)) (h : Aro base w A c L) (ht : t ≠ 40) (k : Kp (fun j => A = some ⟨j, 0, none⟩) w w') : Bk w' b (.cells cur t m) := (k.block b hb.lt (h.off hb ht)).trans hb
theorem cons_filter (L : List Ae) (y : Hd) : cons (L.filter fun x => !kq y x.h) = (cons L).filter fun x => !kq y x.1 := by
 simp only [cons, List.filter_map]
 rfl
def DrP (m : Int) (o : Bool) (n : Nat) (C : List Ct) (base : Nat) (w : World) (e : Ending) (w' : World) : Prop := ∃ A' c' n' L', e = .returned (.tuple #[.agg #[.int .i64 m, .slice A' n' c', .bool o], .bool (decide (n' < n))]) ∧ L'.length = n' ∧ cons L' = C ∧ Aro base w' A' c' L' ∧ Below base w w'
set_option maxRecDepth 100000 in
set_option maxHeartbeats 4000000 in
theorem sdrop_any (y : Hd) (m : Int) (A : Option Addr) (n c : Nat) (o : Bool) (L : List Ae) (w : World) (hn : L.length = n) (hl : Arr w A L) (hll : n ≤ 10000) (hsm : ∀ x ∈ L, x.l.length ≤ 100000) :
  Calls Tryz.prog 27 #[.agg #[.int .i64 m, .slice A n c, .bool o], .agg #[.int .i64 y.t, .int .u32 y.i, .int .u32 y.v]] w fun e w' => DrP m o n ((cons L).filter fun x => !kq y x.1) w.heap.size w e w' := by
 obtain ⟨W0, hW0⟩ : ∃ V, w.alloc (.cells #[.int .i64 m, .slice A n c, .bool o] 28) = V := ⟨_, rfl⟩
 have bW0 : Below w.heap.size w W0 := by rw [← hW0]; exact below_alloc1 _ _
 have sW0 : W0.heap.size = w.heap.size + 1 := by rw [← hW0]; simp
 have KX : Hid (∀ V, Below W0.heap.size W0 V → V.cell? ⟨w.heap.size, 0, none⟩ = some (.int .i64 m) ∧ V.cell? ⟨w.heap.size, 1, none⟩ = some (.slice A n c) ∧ V.cell? ⟨w.heap.size, 2, none⟩ = some (.bool o)) := Lib.hid (fun V hV => kb3_new hW0 hV)
 obtain ⟨W1, hW1⟩ : ∃ V, W0.alloc (.cells #[.int .i64 y.t, .int .u32 y.i, .int .u32 y.v] 25) = V := ⟨_, rfl⟩
 have bW1 : Below W0.heap.size W0 W1 := by rw [← hW1]; exact below_alloc1 _ _
 have sW1 : W1.heap.size = W0.heap.size + 1 := by rw [← hW1]; simp
 have KY : Hid (∀ V, Below W1.heap.size W1 V → V.cell? ⟨W0.heap.size, 0, none⟩ = some (.int .i64 y.t) ∧ V.cell? ⟨W0.heap.size, 1, none⟩ = some (.int .u32 y.i) ∧ V.cell? ⟨W0.heap.size, 2, none⟩ = some (.int .u32 y.v)) := Lib.hid (fun V hV => kb3_new hW1 hV)
 obtain ⟨W2, hW2⟩ : ∃ V, W1.alloc (.cells #[Value.int .i64 0, .slice none 0 0, .bool false] 28) = V := ⟨_, rfl⟩
 have bW2 : Below W1.heap.size W1 W2 := by rw [← hW2]; exact below_alloc1 _ _
 have sW2 : W2.heap.size = w.heap.size + 3 := by rw [← hW2]; simp; omega
 have b02 : Below W0.heap.size W0 W2 := bW1.trans (bW2.mono bW1.size)
 have b2 : Below w.heap.size w W2 := bW0.trans (b02.mono bW0.size)
 have G0 : Bk W2 w.heap.size (.cells #[.int .i64 m, .slice A n c, .bool o] 28) := (Bk.mk hW0).step b02
 have G1 : Bk W2 (w.heap.size + 1) (.cells #[.int .i64 y.t, .int .u32 y.i, .int .u32 y.v] 25) := (show Bk W1 (w.heap.size + 1) _ by have := Bk.mk hW1; rwa [sW0] at this).step bW2
 have G2 : Bk W2 (w.heap.size + 2) (.cells #[Value.int .i64 0, .slice none 0 0, .bool false] 28) := by have := Bk.mk hW2; rwa [show W1.heap.size = w.heap.size + 2 by omega] at this
 obtain ⟨k0, k1, k2⟩ := KX.out _ b02
 have CF := sfresh_any m A n c o L W2 hn (hl.step b2) hll hsm
 have HQ := Lib.hid sW2
 have HB := Lib.hid b2
 have HN := Lib.hid hn
 clear KX KY bW0 bW1 bW2 b02 b2 hl hn hsm
 go_enter Tryz.func27, Tryz.ntmps27
 go_wp2_with fail
 refine CF.mono ?_
 rintro e W3 ⟨A3, c3, L3, rfl, hc3, ha3, u3⟩
 have hn3 : L3.length = n := by have := congrArg List.length hc3; rw [cons_length, cons_length, HN.out] at this; exact this
 have HC3 := Lib.hid hc3
 have T3 := Lib.hid (HB.out.trans (u3.mono HB.out.size))
 obtain ⟨kO, hkO⟩ : ∃ q, W3.heap.size = q := ⟨_, rfl⟩
 obtain ⟨W4, hW4⟩ : ∃ V, W3.alloc (.cells #[Value.int .i64 0, .slice none 0 0, .bool false] 28) = V := ⟨_, rfl⟩
 have u4 : Below W3.heap.size W3 W4 := by rw [← hW4]; exact below_alloc1 _ _
 have GO4 : Bk W4 kO (.cells #[Value.int .i64 0, .slice none 0 0, .bool false] 28) := by rw [← hkO]; exact Bk.mk hW4
 obtain ⟨W5, hW5⟩ : ∃ V, ((W4.setCell ⟨kO, 0, none⟩ (.int .i64 m)).setCell ⟨kO, 1, none⟩ (.slice A3 n c3)).setCell ⟨kO, 2, none⟩ (.bool o) = V := ⟨_, rfl⟩
 have k45 : Kp (· = kO) W4 W5 := by rw [← hW5]; exact ((Kp.setCell (S := (· = kO)) W4 ⟨kO, 0, none⟩ _ rfl).then_set ⟨kO, 1, none⟩ _ rfl).then_set ⟨kO, 2, none⟩ _ rfl
 have GO5 : Bk W5 kO (.cells #[.int .i64 m, .slice A3 n c3, .bool o] 28) := by rw [← hW5]; exact kz3_set GO4 _ _ _
 have hkl : w.heap.size + 3 ≤ kO := by have := u3.size; omega
 have b34 : Below w.heap.size w W5 := (T3.out.trans (u4.mono T3.out.size)).trans (k45.below (fun j hj => by rw [hj]; omega) (T3.out.trans (u4.mono T3.out.size)).size)
 have up5 : ∀ (b : Nat) (ob : Obj), Bk W2 b ob → b < kO → Bk W5 b ob := fun b ob hb hlt => (k45.block b (by have := ((hb.step u3).step u4).lt; exact this) (by omega)).trans ((hb.step u3).step u4)
 have GA := Lib.hid (up5 _ _ G0 (by omega))
 have GB := Lib.hid (up5 _ _ G1 (by omega))
 have GC := Lib.hid (up5 _ _ G2 (by omega))
 have ha4 := ha3.step u4
 have ha5 : Aro W2.heap.size W5 A3 c3 L3 := by
  rw [← hW5]
  exact ((ha4.set GO4 (by decide) (by decide) _).set (i := 1) (Bk.set3 (i := 0) GO4) (by decide) (by decide) _).set (i := 2) (Bk.set3 (i := 1) (Bk.set3 (i := 0) GO4)) (by decide) (by decide) _
 have HA5 := Lib.hid ha5
 have HG5 := Lib.hid GO5
 have HB5 := Lib.hid b34
 have HKL := Lib.hid hkl
 obtain ⟨y0, y1, y2, f0, f1, f2, hz2⟩ := kz3_at GO4
 clear CF ha3 u3 hc3 u4 k45 b34 up5 ha4 ha5 G0 G1 G2 GO4 k0 k1 k2 hkl
 have KS : Hid (∀ V, Below W5.heap.size W5 V → (V.cell? ⟨w.heap.size + 1, 0, none⟩ = some (.int .i64 y.t) ∧ V.cell? ⟨w.heap.size + 1, 1, none⟩ = some (.int .u32 y.i) ∧ V.cell? ⟨w.heap.size + 1, 2, none⟩ = some (.int .u32 y.v))) := Lib.hid (fun V hV => by
  obtain ⟨q0, q1, q2, -⟩ := kz3_at (GB.out.step hV)
  exact ⟨q0, q1, q2⟩)
 have tt : Below W5.heap.size W5 W5 := Below.refl _ _
 have go0 := GO5
 clear GO5
 go_upto_region 2 with fail
 clear y0 y1 y2 f0 f1 f2 hz2 hW5 hW4 hkO
 refine wp_region_held_drew (S := fun V => V.cell? ⟨w.heap.size + 1, 0, none⟩ = some (.int .i64 y.t) ∧ V.cell? ⟨w.heap.size + 1, 1, none⟩ = some (.int .u32 y.i) ∧ V.cell? ⟨w.heap.size + 1, 2, none⟩ = some (.int .u32 y.v)) (by kernel_rfl) (KS.out _ tt.drew) (fun hHeld => ?_)
 replace go0 := go0.step tt.drew
 replace tt : Below W5.heap.size W5 W5.drew := tt.drew
 generalize hX0 : W5.drew = Y0 at tt go0 hHeld ⊢
 clear hX0
 refine wpAnyH_take (i := 0) (v := ?_) rfl (by kernel_rfl) (by kernel_rfl) (by kernel_rfl) (fun _ _ _ h => h) (Or.inl ⟨by rfl, ?_⟩) (by assumption) ?_
 rotate_left
 ·(intro w' hSw; (try dsimp only at hSw); go_simp; try with_reducible rfl)
 simp only [Act.put, getElem_toArray, getElem_cons_zero, setIfInBounds_toArray, set_cons_zero, set_cons_succ]
 refine wpAnyH_take (i := 2) (v := ?_) rfl (by kernel_rfl) (by kernel_rfl) (by kernel_rfl) (fun _ _ _ h => h) (Or.inl ⟨by rfl, ?_⟩) (by assumption) ?_
 rotate_left
 ·(intro w' hSw; (try dsimp only at hSw); go_simp; try with_reducible rfl)
 simp only [Act.put, getElem_toArray, getElem_cons_zero, getElem_cons_succ, setIfInBounds_toArray, set_cons_zero, set_cons_succ]
 refine wpAnyH_ready (rs := [1, 3]) (by kernel_rfl) (by simp) ?_
 refine AllReadyH.cons rfl (fun K hK => ?_) ?_
 ·obtain ⟨j0, j1, j2, q0, q1, q2, hjl⟩ := kz3_at go0
  go_simp
  clear j0 j1 j2 q0 q1 q2 hjl
  refine hK.out _ _ (KS.out _ tt) (fun _ => ?_)
  clear hK K
  refine wpAnyH_ready (rs := [3]) (by kernel_rfl) (by simp) ?_
  refine AllReadyH.cons rfl (fun K hK => ?_) AllReadyH.nil
  obtain ⟨hb0, hhb0⟩ : ∃ q, Y0.heap.size = q := ⟨_, rfl⟩
  have CH := has_any y Y0
  rw [hhb0] at CH
  go_simp
  go_at_call 41
  refine CH.mono ?_
  rintro e Y1 ⟨rfl, hbk, u1⟩
  rw [← hhb0] at u1
  clear CH hhb0
  have t_Y1 : Below W5.heap.size W5 Y1 := tt.trans (u1.mono tt.size)
  replace go0 := go0.step u1
  refine hK.out _ _ (KS.out _ t_Y1) (fun _ => ?_)
  clear hK K
  refine wpAnyH_ready (rs := [4]) (by kernel_rfl) (by simp) ?_
  refine AllReadyH.cons rfl (fun K hK => ?_) AllReadyH.nil
  have har := HA5.out.step t_Y1
  have bas : W2.heap.size ≤ Y1.heap.size := Nat.le_trans (by have := HB5.out.size; have := HKL.out; have := HG5.out.lt; have := HQ.out; omega) t_Y1.size
  go_simp
  go_at_call 56
  refine (del_any A3 n c3 L3 66 (.pointer (some ⟨hb0, 0, none⟩)) (fun x => kq y x.h) Y1 har bas hn3 hll enters_has1 (fun V x hx hV => has1_any y hb0 x V (hbk.kp har (by decide) hV))).mono ?_
  rintro e Z9 ⟨A9, c9, rfl, ha9, kp9, bl9⟩
  have GO9 := Lib.hid (go0.kp har (by decide) kp9)
  have GA9 := Lib.hid ((GA.out.step t_Y1).kp har (by decide) kp9)
  have GB9 := Lib.hid ((GB.out.step t_Y1).kp har (by decide) kp9)
  have GC9 := Lib.hid ((GC.out.step t_Y1).kp har (by decide) kp9)
  have HA9 := Lib.hid ha9
  have T9 : Hid (Below w.heap.size w Z9) := Lib.hid ((HB5.out.trans (t_Y1.mono HB5.out.size)).trans (kp9.below (fun j hj => by have h1 : W2.heap.size ≤ j := har.row.at hj; have := HQ.out; omega) (HB5.out.trans (t_Y1.mono HB5.out.size)).size))
  have KF : Hid (Z9.cell? ⟨w.heap.size + 1, 0, none⟩ = some (.int .i64 y.t) ∧ Z9.cell? ⟨w.heap.size + 1, 1, none⟩ = some (.int .u32 y.i) ∧ Z9.cell? ⟨w.heap.size + 1, 2, none⟩ = some (.int .u32 y.v)) := Lib.hid (by obtain ⟨q0, q1, q2, -⟩ := kz3_at GB9.out; exact ⟨q0, q1, q2⟩)
  obtain ⟨n9, hn9⟩ : ∃ q, (L3.filter fun x => !kq y x.h).length = q := ⟨_, rfl⟩
  rw [hn9]
  have HN9 := Lib.hid hn9
  clear har bas bl9 ha9 kp9 hbk hn9
  refine hK.out _ _ KF.out (fun _ => ?_)
  clear hK K
  refine wpAnyH_take (i := 5) (v := ?_) rfl (by kernel_rfl) (by kernel_rfl) (by kernel_rfl) (fun _ _ _ h => h) (Or.inl ⟨by rfl, ?_⟩) (by assumption) ?_
  rotate_left
  ·(intro w' hSw; (try dsimp only at hSw); go_simp; try with_reducible rfl)
  simp only [Act.put, getElem_toArray, getElem_cons_zero, getElem_cons_succ, setIfInBounds_toArray, set_cons_zero, set_cons_succ]
  refine wpAnyH_ready (rs := [6]) (by kernel_rfl) (by simp) ?_
  refine AllReadyH.cons rfl (fun K hK => ?_) AllReadyH.nil
  obtain ⟨y0, y1, y2, f0, f1, f2, hzl⟩ := kz3_at GO9.out
  go_simp
  have GOX : Hid (Bk (Z9.setCell ⟨kO, 1, none⟩ (.slice A9 n9 c9)) kO (.cells #[.int .i64 m, .slice A9 n9 c9, .bool o] 28)) := Lib.hid (Bk.set3 (i := 1) GO9.out)
  have GAX : Hid (Bk (Z9.setCell ⟨kO, 1, none⟩ (.slice A9 n9 c9)) w.heap.size (.cells #[.int .i64 m, .slice A n c, .bool o] 28)) := Lib.hid ((Below.heap_setCell _ _ _ _ (by show w.heap.size ≠ kO; have := HKL.out; omega)).trans GA9.out)
  have GBX : Hid (Bk (Z9.setCell ⟨kO, 1, none⟩ (.slice A9 n9 c9)) (w.heap.size + 1) (.cells #[.int .i64 y.t, .int .u32 y.i, .int .u32 y.v] 25)) := Lib.hid ((Below.heap_setCell _ _ _ _ (by show w.heap.size + 1 ≠ kO; have := HKL.out; omega)).trans GB9.out)
  have GCX : Hid (Bk (Z9.setCell ⟨kO, 1, none⟩ (.slice A9 n9 c9)) (w.heap.size + 2) (.cells #[Value.int .i64 0, .slice none 0 0, .bool false] 28)) := Lib.hid ((Below.heap_setCell _ _ _ _ (by show w.heap.size + 2 ≠ kO; have := HKL.out; omega)).trans GC9.out)
  have HAX := Lib.hid (HA9.out.set (i := 1) GO9.out (by decide) (by decide) (.slice A9 n9 c9))
  have TX : Hid (Below w.heap.size w (Z9.setCell ⟨kO, 1, none⟩ (.slice A9 n9 c9))) := Lib.hid (T9.out.setCell (p := ⟨kO, 1, none⟩) (by show w.heap.size ≤ kO; have := HKL.out; omega) _)
  have KG : Hid ((Z9.setCell ⟨kO, 1, none⟩ (.slice A9 n9 c9)).cell? ⟨w.heap.size + 1, 0, none⟩ = some (.int .i64 y.t) ∧ (Z9.setCell ⟨kO, 1, none⟩ (.slice A9 n9 c9)).cell? ⟨w.heap.size + 1, 1, none⟩ = some (.int .u32 y.i) ∧ (Z9.setCell ⟨kO, 1, none⟩ (.slice A9 n9 c9)).cell? ⟨w.heap.size + 1, 2, none⟩ = some (.int .u32 y.v)) := Lib.hid (by obtain ⟨q0, q1, q2, -⟩ := kz3_at GBX.out; exact ⟨q0, q1, q2⟩)
  skip
  refine hK.out _ _ KG.out (fun _ => ?_)
  clear hK K
  refine wpAnyH_done (by kernel_rfl) ?_ _
  obtain ⟨ZX, hZX⟩ : ∃ V, Z9.setCell ⟨kO, 1, none⟩ (.slice A9 n9 c9) = V := ⟨_, rfl⟩
  rw [hZX] at GOX GAX GBX GCX HAX TX ⊢
  clear y0 y1 y2 f0 f1 f2 hzl hZX KG KF GO9 GA9 GB9 GC9 HA9 T9 GA GB GC HA5 HG5 HB5 KS HB
  obtain ⟨y0, y1, y2, f0, f1, f2, hzl⟩ := kz3_at GOX.out
  obtain ⟨z0, z1, z2, -⟩ := kz3_at GAX.out
  go_upto_region 3 with fail
  have KH : Hid (∀ V, Below ZX.heap.size ZX V → (V.cell? ⟨kO, 0, none⟩ = some (.int .i64 m) ∧ V.cell? ⟨kO, 1, none⟩ = some (.slice A9 n9 c9) ∧ V.cell? ⟨kO, 2, none⟩ = some (.bool o)) ∧ (V.cell? ⟨w.heap.size, 0, none⟩ = some (.int .i64 m) ∧ V.cell? ⟨w.heap.size, 1, none⟩ = some (.slice A n c) ∧ V.cell? ⟨w.heap.size, 2, none⟩ = some (.bool o))) := Lib.hid (fun V hV => by
   obtain ⟨q0, q1, q2, -⟩ := kz3_at (GOX.out.step hV)
   obtain ⟨r0, r1, r2, -⟩ := kz3_at (GAX.out.step hV)
   exact ⟨⟨q0, q1, q2⟩, r0, r1, r2⟩)
  have tz : Below ZX.heap.size ZX ZX := Below.refl _ _
  clear y0 y1 y2 f0 f1 f2 z0 z1 z2 hzl
  refine wp_region_held_drew (S := fun V => (V.cell? ⟨kO, 0, none⟩ = some (.int .i64 m) ∧ V.cell? ⟨kO, 1, none⟩ = some (.slice A9 n9 c9) ∧ V.cell? ⟨kO, 2, none⟩ = some (.bool o)) ∧ (V.cell? ⟨w.heap.size, 0, none⟩ = some (.int .i64 m) ∧ V.cell? ⟨w.heap.size, 1, none⟩ = some (.slice A n c) ∧ V.cell? ⟨w.heap.size, 2, none⟩ = some (.bool o))) (by kernel_rfl) (KH.out _ tz.drew) (fun hHeld => ?_)
  have gc0 := GCX.out.step tz.drew
  have ha0 := HAX.out.step tz.drew
  have TY := Lib.hid (TX.out.trans (tz.drew.mono TX.out.size))
  replace tz : Below ZX.heap.size ZX ZX.drew := tz.drew
  generalize hX0 : ZX.drew = U0 at tz gc0 ha0 TY hHeld ⊢
  clear hX0
  refine wpAnyH_take (i := 0) (v := ?_) rfl (by kernel_rfl) (by kernel_rfl) (by kernel_rfl) (fun _ _ _ h => h) (Or.inl ⟨by rfl, ?_⟩) (by assumption) ?_
  rotate_left
  ·(intro w' hSw; (try dsimp only at hSw); go_simp; try with_reducible rfl)
  simp only [Act.put, getElem_toArray, getElem_cons_zero, setIfInBounds_toArray, set_cons_zero, set_cons_succ]
  refine wpAnyH_take (i := 1) (v := ?_) rfl (by kernel_rfl) (by kernel_rfl) (by kernel_rfl) (fun _ _ _ h => h) (Or.inl ⟨by rfl, ?_⟩) (by assumption) ?_
  rotate_left
  ·(intro w' hSw; (try dsimp only at hSw); go_simp; try with_reducible rfl)
  simp only [Act.put, getElem_toArray, getElem_cons_zero, getElem_cons_succ, setIfInBounds_toArray, set_cons_zero, set_cons_succ]
  refine wpAnyH_take (i := 2) (v := ?_) rfl (by kernel_rfl) (by kernel_rfl) (by kernel_rfl) (fun _ _ _ h => h) (Or.inl ⟨by rfl, ?_⟩) (by assumption) ?_
  rotate_left
  ·(intro w' hSw; (try dsimp only at hSw); go_simp; try with_reducible rfl)
  simp only [Act.put, getElem_toArray, getElem_cons_zero, getElem_cons_succ, setIfInBounds_toArray, set_cons_zero, set_cons_succ]
  refine wpAnyH_take (i := 3) (v := ?_) rfl (by kernel_rfl) (by kernel_rfl) (by kernel_rfl) (fun _ _ _ h => h) (Or.inl ⟨by rfl, ?_⟩) (by assumption) ?_
  rotate_left
  ·(intro w' hSw; (try dsimp only at hSw); go_simp; try with_reducible rfl)
  simp only [Act.put, getElem_toArray, getElem_cons_zero, getElem_cons_succ, setIfInBounds_toArray, set_cons_zero, set_cons_succ]
  refine wpAnyH_take (i := 4) (v := ?_) rfl (by kernel_rfl) (by kernel_rfl) (by kernel_rfl) (fun _ _ _ h => h) (Or.inl ⟨by rfl, ?_⟩) (by assumption) ?_
  rotate_left
  ·(intro w' hSw; (try dsimp only at hSw); go_simp; try with_reducible rfl)
  simp only [Act.put, getElem_toArray, getElem_cons_zero, getElem_cons_succ, setIfInBounds_toArray, set_cons_zero, set_cons_succ]
  refine wpAnyH_take (i := 5) (v := ?_) rfl (by kernel_rfl) (by kernel_rfl) (by kernel_rfl) (fun _ _ _ h => h) (Or.inl ⟨by rfl, ?_⟩) (by assumption) ?_
  rotate_left
  ·(intro w' hSw; (try dsimp only at hSw); go_simp; try with_reducible rfl)
  simp only [Act.put, getElem_toArray, getElem_cons_zero, getElem_cons_succ, setIfInBounds_toArray, set_cons_zero, set_cons_succ]
  refine wpAnyH_take (i := 6) (v := ?_) rfl (by kernel_rfl) (by kernel_rfl) (by kernel_rfl) (fun _ _ _ h => h) (Or.inl ⟨by rfl, ?_⟩) (by assumption) ?_
  rotate_left
  ·(intro w' hSw; (try dsimp only at hSw); go_simp; try with_reducible rfl)
  simp only [Act.put, getElem_toArray, getElem_cons_zero, getElem_cons_succ, setIfInBounds_toArray, set_cons_zero, set_cons_succ]
  refine wpAnyH_take (i := 7) (v := ?_) rfl (by kernel_rfl) (by kernel_rfl) (by kernel_rfl) (fun _ _ _ h => h) (Or.inl ⟨by rfl, ?_⟩) (by assumption) ?_
  rotate_left
  ·(intro w' hSw; (try dsimp only at hSw); go_simp; try with_reducible rfl)
  simp only [Act.put, getElem_toArray, getElem_cons_zero, getElem_cons_succ, setIfInBounds_toArray, set_cons_zero, set_cons_succ]
  refine wpAnyH_ready (rs := [8]) (by kernel_rfl) (by simp) ?_
  refine AllReadyH.cons rfl (fun K hK => ?_) AllReadyH.nil
  obtain ⟨y0, y1, y2, f0, f1, f2, hzl⟩ := kz3_at gc0
  go_simp
  have HAZ : Hid (Aro w.heap.size ((((U0).setCell ⟨(w.heap.size + 2), 0, none⟩ (.int .i64 m)).setCell ⟨(w.heap.size + 2), 1, none⟩ (.slice A9 n9 c9)).setCell ⟨(w.heap.size + 2), 2, none⟩ (.bool o)) A9 c9 _) := Lib.hid ((((ha0.set gc0 (by decide) (by decide) (.int .i64 m)).set (i := 1) (Bk.set3 (i := 0) gc0) (by decide) (by decide) (.slice A9 n9 c9)).set (i := 2) (Bk.set3 (i := 1) (Bk.set3 (i := 0) gc0)) (by decide) (by decide) (.bool o)).lower (by have := HQ.out; omega))
  have TZ : Hid (Below w.heap.size w ((((U0).setCell ⟨(w.heap.size + 2), 0, none⟩ (.int .i64 m)).setCell ⟨(w.heap.size + 2), 1, none⟩ (.slice A9 n9 c9)).setCell ⟨(w.heap.size + 2), 2, none⟩ (.bool o))) := Lib.hid (below_st3 TY.out (by omega) _ _ _)
  have KI : Hid ((((((U0).setCell ⟨(w.heap.size + 2), 0, none⟩ (.int .i64 m)).setCell ⟨(w.heap.size + 2), 1, none⟩ (.slice A9 n9 c9)).setCell ⟨(w.heap.size + 2), 2, none⟩ (.bool o)).cell? ⟨kO, 0, none⟩ = some (.int .i64 m) ∧ ((((U0).setCell ⟨(w.heap.size + 2), 0, none⟩ (.int .i64 m)).setCell ⟨(w.heap.size + 2), 1, none⟩ (.slice A9 n9 c9)).setCell ⟨(w.heap.size + 2), 2, none⟩ (.bool o)).cell? ⟨kO, 1, none⟩ = some (.slice A9 n9 c9) ∧ ((((U0).setCell ⟨(w.heap.size + 2), 0, none⟩ (.int .i64 m)).setCell ⟨(w.heap.size + 2), 1, none⟩ (.slice A9 n9 c9)).setCell ⟨(w.heap.size + 2), 2, none⟩ (.bool o)).cell? ⟨kO, 2, none⟩ = some (.bool o)) ∧ (((((U0).setCell ⟨(w.heap.size + 2), 0, none⟩ (.int .i64 m)).setCell ⟨(w.heap.size + 2), 1, none⟩ (.slice A9 n9 c9)).setCell ⟨(w.heap.size + 2), 2, none⟩ (.bool o)).cell? ⟨w.heap.size, 0, none⟩ = some (.int .i64 m) ∧ ((((U0).setCell ⟨(w.heap.size + 2), 0, none⟩ (.int .i64 m)).setCell ⟨(w.heap.size + 2), 1, none⟩ (.slice A9 n9 c9)).setCell ⟨(w.heap.size + 2), 2, none⟩ (.bool o)).cell? ⟨w.heap.size, 1, none⟩ = some (.slice A n c) ∧ ((((U0).setCell ⟨(w.heap.size + 2), 0, none⟩ (.int .i64 m)).setCell ⟨(w.heap.size + 2), 1, none⟩ (.slice A9 n9 c9)).setCell ⟨(w.heap.size + 2), 2, none⟩ (.bool o)).cell? ⟨w.heap.size, 2, none⟩ = some (.bool o))) := Lib.hid (by
   obtain ⟨⟨q0, q1, q2⟩, r0, r1, r2⟩ := KH.out _ tz
   have h1 : kO ≠ w.heap.size + 2 := by have := HKL.out; omega
   have h2 : w.heap.size ≠ w.heap.size + 2 := by omega
   exact ⟨⟨(cell_st3 (p := ⟨kO, 0, none⟩) h1 _ _ _).trans q0, (cell_st3 (p := ⟨kO, 1, none⟩) h1 _ _ _).trans q1, (cell_st3 (p := ⟨kO, 2, none⟩) h1 _ _ _).trans q2⟩, (cell_st3 (p := ⟨w.heap.size, 0, none⟩) h2 _ _ _).trans r0, (cell_st3 (p := ⟨w.heap.size, 1, none⟩) h2 _ _ _).trans r1, (cell_st3 (p := ⟨w.heap.size, 2, none⟩) h2 _ _ _).trans r2⟩)
  refine hK.out _ _ KI.out (fun _ => ?_)
  clear hK K
  refine wpAnyH_ready (rs := [9]) (by kernel_rfl) (by simp) ?_
  refine AllReadyH.cons rfl (fun K hK => ?_) AllReadyH.nil
  go_simp
  refine hK.out _ _ KI.out (fun _ => ?_)
  clear hK K
  refine wpAnyH_done (by kernel_rfl) ?_ _
  clear y0 y1 y2 f0 f1 f2 hzl
  obtain ⟨r0, r1, r2⟩ := kz3_get gc0 (Value.int .i64 m) (.slice A9 n9 c9) (.bool o)
  go_wp2
  refine bodyPost_ret (v := .tuple #[.agg #[.int .i64 m, .slice A9 n9 c9, .bool o], .bool (decide ((n9 : Int) < (n : Int)))]) (by simp [results, Tryz.results27, go_sem, r0, r1, r2]) rfl ⟨A9, c9, n9, _, by simp, HN9.out, by rw [cons_filter, HC3.out], HAZ.out, TZ.out⟩
 refine AllReadyH.cons rfl (fun K hK => ?_) AllReadyH.nil
 obtain ⟨hb0, hhb0⟩ : ∃ q, Y0.heap.size = q := ⟨_, rfl⟩
 have CH := has_any y Y0
 rw [hhb0] at CH
 go_simp
 go_at_call 41
 refine CH.mono ?_
 rintro e Y1 ⟨rfl, hbk, u1⟩
 rw [← hhb0] at u1
 clear CH hhb0
 have t_Y1 : Below W5.heap.size W5 Y1 := tt.trans (u1.mono tt.size)
 replace go0 := go0.step u1
 refine hK.out _ _ (KS.out _ t_Y1) (fun _ => ?_)
 clear hK K
 refine wpAnyH_ready (rs := [1]) (by kernel_rfl) (by simp) ?_
 refine AllReadyH.cons rfl (fun K hK => ?_) AllReadyH.nil
 obtain ⟨j0, j1, j2, q0, q1, q2, hjl⟩ := kz3_at go0
 go_simp
 clear j0 j1 j2 q0 q1 q2 hjl
 refine hK.out _ _ (KS.out _ t_Y1) (fun _ => ?_)
 clear hK K
 refine wpAnyH_ready (rs := [4]) (by kernel_rfl) (by simp) ?_
 refine AllReadyH.cons rfl (fun K hK => ?_) AllReadyH.nil
 have har := HA5.out.step t_Y1
 have bas : W2.heap.size ≤ Y1.heap.size := Nat.le_trans (by have := HB5.out.size; have := HKL.out; have := HG5.out.lt; have := HQ.out; omega) t_Y1.size
 go_simp
 go_at_call 56
 refine (del_any A3 n c3 L3 66 (.pointer (some ⟨hb0, 0, none⟩)) (fun x => kq y x.h) Y1 har bas hn3 hll enters_has1 (fun V x hx hV => has1_any y hb0 x V (hbk.kp har (by decide) hV))).mono ?_
 rintro e Z9 ⟨A9, c9, rfl, ha9, kp9, bl9⟩
 have GO9 := Lib.hid (go0.kp har (by decide) kp9)
 have GA9 := Lib.hid ((GA.out.step t_Y1).kp har (by decide) kp9)
 have GB9 := Lib.hid ((GB.out.step t_Y1).kp har (by decide) kp9)
 have GC9 := Lib.hid ((GC.out.step t_Y1).kp har (by decide) kp9)
 have HA9 := Lib.hid ha9
 have T9 : Hid (Below w.heap.size w Z9) := Lib.hid ((HB5.out.trans (t_Y1.mono HB5.out.size)).trans (kp9.below (fun j hj => by have h1 : W2.heap.size ≤ j := har.row.at hj; have := HQ.out; omega) (HB5.out.trans (t_Y1.mono HB5.out.size)).size))
 have KF : Hid (Z9.cell? ⟨w.heap.size + 1, 0, none⟩ = some (.int .i64 y.t) ∧ Z9.cell? ⟨w.heap.size + 1, 1, none⟩ = some (.int .u32 y.i) ∧ Z9.cell? ⟨w.heap.size + 1, 2, none⟩ = some (.int .u32 y.v)) := Lib.hid (by obtain ⟨q0, q1, q2, -⟩ := kz3_at GB9.out; exact ⟨q0, q1, q2⟩)
 obtain ⟨n9, hn9⟩ : ∃ q, (L3.filter fun x => !kq y x.h).length = q := ⟨_, rfl⟩
 rw [hn9]
 have HN9 := Lib.hid hn9
 clear har bas bl9 ha9 kp9 hbk hn9
 refine hK.out _ _ KF.out (fun _ => ?_)
 clear hK K
 refine wpAnyH_take (i := 5) (v := ?_) rfl (by kernel_rfl) (by kernel_rfl) (by kernel_rfl) (fun _ _ _ h => h) (Or.inl ⟨by rfl, ?_⟩) (by assumption) ?_
 rotate_left
 ·(intro w' hSw; (try dsimp only at hSw); go_simp; try with_reducible rfl)
 simp only [Act.put, getElem_toArray, getElem_cons_zero, getElem_cons_succ, setIfInBounds_toArray, set_cons_zero, set_cons_succ]
 refine wpAnyH_ready (rs := [6]) (by kernel_rfl) (by simp) ?_
 refine AllReadyH.cons rfl (fun K hK => ?_) AllReadyH.nil
 obtain ⟨y0, y1, y2, f0, f1, f2, hzl⟩ := kz3_at GO9.out
 go_simp
 have GOX : Hid (Bk (Z9.setCell ⟨kO, 1, none⟩ (.slice A9 n9 c9)) kO (.cells #[.int .i64 m, .slice A9 n9 c9, .bool o] 28)) := Lib.hid (Bk.set3 (i := 1) GO9.out)
 have GAX : Hid (Bk (Z9.setCell ⟨kO, 1, none⟩ (.slice A9 n9 c9)) w.heap.size (.cells #[.int .i64 m, .slice A n c, .bool o] 28)) := Lib.hid ((Below.heap_setCell _ _ _ _ (by show w.heap.size ≠ kO; have := HKL.out; omega)).trans GA9.out)
 have GBX : Hid (Bk (Z9.setCell ⟨kO, 1, none⟩ (.slice A9 n9 c9)) (w.heap.size + 1) (.cells #[.int .i64 y.t, .int .u32 y.i, .int .u32 y.v] 25)) := Lib.hid ((Below.heap_setCell _ _ _ _ (by show w.heap.size + 1 ≠ kO; have := HKL.out; omega)).trans GB9.out)
 have GCX : Hid (Bk (Z9.setCell ⟨kO, 1, none⟩ (.slice A9 n9 c9)) (w.heap.size + 2) (.cells #[Value.int .i64 0, .slice none 0 0, .bool false] 28)) := Lib.hid ((Below.heap_setCell _ _ _ _ (by show w.heap.size + 2 ≠ kO; have := HKL.out; omega)).trans GC9.out)
 have HAX := Lib.hid (HA9.out.set (i := 1) GO9.out (by decide) (by decide) (.slice A9 n9 c9))
 have TX : Hid (Below w.heap.size w (Z9.setCell ⟨kO, 1, none⟩ (.slice A9 n9 c9))) := Lib.hid (T9.out.setCell (p := ⟨kO, 1, none⟩) (by show w.heap.size ≤ kO; have := HKL.out; omega) _)
 have KG : Hid ((Z9.setCell ⟨kO, 1, none⟩ (.slice A9 n9 c9)).cell? ⟨w.heap.size + 1, 0, none⟩ = some (.int .i64 y.t) ∧ (Z9.setCell ⟨kO, 1, none⟩ (.slice A9 n9 c9)).cell? ⟨w.heap.size + 1, 1, none⟩ = some (.int .u32 y.i) ∧ (Z9.setCell ⟨kO, 1, none⟩ (.slice A9 n9 c9)).cell? ⟨w.heap.size + 1, 2, none⟩ = some (.int .u32 y.v)) := Lib.hid (by obtain ⟨q0, q1, q2, -⟩ := kz3_at GBX.out; exact ⟨q0, q1, q2⟩)
 skip
 refine hK.out _ _ KG.out (fun _ => ?_)
 clear hK K
 refine wpAnyH_done (by kernel_rfl) ?_ _
 obtain ⟨ZX, hZX⟩ : ∃ V, Z9.setCell ⟨kO, 1, none⟩ (.slice A9 n9 c9) = V := ⟨_, rfl⟩
 rw [hZX] at GOX GAX GBX GCX HAX TX ⊢
 clear y0 y1 y2 f0 f1 f2 hzl hZX KG KF GO9 GA9 GB9 GC9 HA9 T9 GA GB GC HA5 HG5 HB5 KS HB
 obtain ⟨y0, y1, y2, f0, f1, f2, hzl⟩ := kz3_at GOX.out
 obtain ⟨z0, z1, z2, -⟩ := kz3_at GAX.out
 go_upto_region 3 with fail
 have KH : Hid (∀ V, Below ZX.heap.size ZX V → (V.cell? ⟨kO, 0, none⟩ = some (.int .i64 m) ∧ V.cell? ⟨kO, 1, none⟩ = some (.slice A9 n9 c9) ∧ V.cell? ⟨kO, 2, none⟩ = some (.bool o)) ∧ (V.cell? ⟨w.heap.size, 0, none⟩ = some (.int .i64 m) ∧ V.cell? ⟨w.heap.size, 1, none⟩ = some (.slice A n c) ∧ V.cell? ⟨w.heap.size, 2, none⟩ = some (.bool o))) := Lib.hid (fun V hV => by
  obtain ⟨q0, q1, q2, -⟩ := kz3_at (GOX.out.step hV)
  obtain ⟨r0, r1, r2, -⟩ := kz3_at (GAX.out.step hV)
  exact ⟨⟨q0, q1, q2⟩, r0, r1, r2⟩)
 have tz : Below ZX.heap.size ZX ZX := Below.refl _ _
 clear y0 y1 y2 f0 f1 f2 z0 z1 z2 hzl
 refine wp_region_held_drew (S := fun V => (V.cell? ⟨kO, 0, none⟩ = some (.int .i64 m) ∧ V.cell? ⟨kO, 1, none⟩ = some (.slice A9 n9 c9) ∧ V.cell? ⟨kO, 2, none⟩ = some (.bool o)) ∧ (V.cell? ⟨w.heap.size, 0, none⟩ = some (.int .i64 m) ∧ V.cell? ⟨w.heap.size, 1, none⟩ = some (.slice A n c) ∧ V.cell? ⟨w.heap.size, 2, none⟩ = some (.bool o))) (by kernel_rfl) (KH.out _ tz.drew) (fun hHeld => ?_)
 have gc0 := GCX.out.step tz.drew
 have ha0 := HAX.out.step tz.drew
 have TY := Lib.hid (TX.out.trans (tz.drew.mono TX.out.size))
 replace tz : Below ZX.heap.size ZX ZX.drew := tz.drew
 generalize hX0 : ZX.drew = U0 at tz gc0 ha0 TY hHeld ⊢
 clear hX0
 refine wpAnyH_take (i := 0) (v := ?_) rfl (by kernel_rfl) (by kernel_rfl) (by kernel_rfl) (fun _ _ _ h => h) (Or.inl ⟨by rfl, ?_⟩) (by assumption) ?_
 rotate_left
 ·(intro w' hSw; (try dsimp only at hSw); go_simp; try with_reducible rfl)
 simp only [Act.put, getElem_toArray, getElem_cons_zero, setIfInBounds_toArray, set_cons_zero, set_cons_succ]
 refine wpAnyH_take (i := 1) (v := ?_) rfl (by kernel_rfl) (by kernel_rfl) (by kernel_rfl) (fun _ _ _ h => h) (Or.inl ⟨by rfl, ?_⟩) (by assumption) ?_
 rotate_left
 ·(intro w' hSw; (try dsimp only at hSw); go_simp; try with_reducible rfl)
 simp only [Act.put, getElem_toArray, getElem_cons_zero, getElem_cons_succ, setIfInBounds_toArray, set_cons_zero, set_cons_succ]
 refine wpAnyH_take (i := 2) (v := ?_) rfl (by kernel_rfl) (by kernel_rfl) (by kernel_rfl) (fun _ _ _ h => h) (Or.inl ⟨by rfl, ?_⟩) (by assumption) ?_
 rotate_left
 ·(intro w' hSw; (try dsimp only at hSw); go_simp; try with_reducible rfl)
 simp only [Act.put, getElem_toArray, getElem_cons_zero, getElem_cons_succ, setIfInBounds_toArray, set_cons_zero, set_cons_succ]
 refine wpAnyH_take (i := 3) (v := ?_) rfl (by kernel_rfl) (by kernel_rfl) (by kernel_rfl) (fun _ _ _ h => h) (Or.inl ⟨by rfl, ?_⟩) (by assumption) ?_
 rotate_left
 ·(intro w' hSw; (try dsimp only at hSw); go_simp; try with_reducible rfl)
 simp only [Act.put, getElem_toArray, getElem_cons_zero, getElem_cons_succ, setIfInBounds_toArray, set_cons_zero, set_cons_succ]
 refine wpAnyH_take (i := 4) (v := ?_) rfl (by kernel_rfl) (by kernel_rfl) (by kernel_rfl) (fun _ _ _ h => h) (Or.inl ⟨by rfl, ?_⟩) (by assumption) ?_
 rotate_left
 ·(intro w' hSw; (try dsimp only at hSw); go_simp; try with_reducible rfl)
 simp only [Act.put, getElem_toArray, getElem_cons_zero, getElem_cons_succ, setIfInBounds_toArray, set_cons_zero, set_cons_succ]
 refine wpAnyH_take (i := 5) (v := ?_) rfl (by kernel_rfl) (by kernel_rfl) (by kernel_rfl) (fun _ _ _ h => h) (Or.inl ⟨by rfl, ?_⟩) (by assumption) ?_
 rotate_left
 ·(intro w' hSw; (try dsimp only at hSw); go_simp; try with_reducible rfl)
 simp only [Act.put, getElem_toArray, getElem_cons_zero, getElem_cons_succ, setIfInBounds_toArray, set_cons_zero, set_cons_succ]
 refine wpAnyH_take (i := 6) (v := ?_) rfl (by kernel_rfl) (by kernel_rfl) (by kernel_rfl) (fun _ _ _ h => h) (Or.inl ⟨by rfl, ?_⟩) (by assumption) ?_
 rotate_left
 ·(intro w' hSw; (try dsimp only at hSw); go_simp; try with_reducible rfl)
 simp only [Act.put, getElem_toArray, getElem_cons_zero, getElem_cons_succ, setIfInBounds_toArray, set_cons_zero, set_cons_succ]
 refine wpAnyH_take (i := 7) (v := ?_) rfl (by kernel_rfl) (by kernel_rfl) (by kernel_rfl) (fun _ _ _ h => h) (Or.inl ⟨by rfl, ?_⟩) (by assumption) ?_
 rotate_left
 ·(intro w' hSw; (try dsimp only at hSw); go_simp; try with_reducible rfl)
 simp only [Act.put, getElem_toArray, getElem_cons_zero, getElem_cons_succ, setIfInBounds_toArray, set_cons_zero, set_cons_succ]
 refine wpAnyH_ready (rs := [8]) (by kernel_rfl) (by simp) ?_
 refine AllReadyH.cons rfl (fun K hK => ?_) AllReadyH.nil
 obtain ⟨y0, y1, y2, f0, f1, f2, hzl⟩ := kz3_at gc0
 go_simp
 have HAZ : Hid (Aro w.heap.size ((((U0).setCell ⟨(w.heap.size + 2), 0, none⟩ (.int .i64 m)).setCell ⟨(w.heap.size + 2), 1, none⟩ (.slice A9 n9 c9)).setCell ⟨(w.heap.size + 2), 2, none⟩ (.bool o)) A9 c9 _) := Lib.hid ((((ha0.set gc0 (by decide) (by decide) (.int .i64 m)).set (i := 1) (Bk.set3 (i := 0) gc0) (by decide) (by decide) (.slice A9 n9 c9)).set (i := 2) (Bk.set3 (i := 1) (Bk.set3 (i := 0) gc0)) (by decide) (by decide) (.bool o)).lower (by have := HQ.out; omega))
 have TZ : Hid (Below w.heap.size w ((((U0).setCell ⟨(w.heap.size + 2), 0, none⟩ (.int .i64 m)).setCell ⟨(w.heap.size + 2), 1, none⟩ (.slice A9 n9 c9)).setCell ⟨(w.heap.size + 2), 2, none⟩ (.bool o))) := Lib.hid (below_st3 TY.out (by omega) _ _ _)
 have KI : Hid ((((((U0).setCell ⟨(w.heap.size + 2), 0, none⟩ (.int .i64 m)).setCell ⟨(w.heap.size + 2), 1, none⟩ (.slice A9 n9 c9)).setCell ⟨(w.heap.size + 2), 2, none⟩ (.bool o)).cell? ⟨kO, 0, none⟩ = some (.int .i64 m) ∧ ((((U0).setCell ⟨(w.heap.size + 2), 0, none⟩ (.int .i64 m)).setCell ⟨(w.heap.size + 2), 1, none⟩ (.slice A9 n9 c9)).setCell ⟨(w.heap.size + 2), 2, none⟩ (.bool o)).cell? ⟨kO, 1, none⟩ = some (.slice A9 n9 c9) ∧ ((((U0).setCell ⟨(w.heap.size + 2), 0, none⟩ (.int .i64 m)).setCell ⟨(w.heap.size + 2), 1, none⟩ (.slice A9 n9 c9)).setCell ⟨(w.heap.size + 2), 2, none⟩ (.bool o)).cell? ⟨kO, 2, none⟩ = some (.bool o)) ∧ (((((U0).setCell ⟨(w.heap.size + 2), 0, none⟩ (.int .i64 m)).setCell ⟨(w.heap.size + 2), 1, none⟩ (.slice A9 n9 c9)).setCell ⟨(w.heap.size + 2), 2, none⟩ (.bool o)).cell? ⟨w.heap.size, 0, none⟩ = some (.int .i64 m) ∧ ((((U0).setCell ⟨(w.heap.size + 2), 0, none⟩ (.int .i64 m)).setCell ⟨(w.heap.size + 2), 1, none⟩ (.slice A9 n9 c9)).setCell ⟨(w.heap.size + 2), 2, none⟩ (.bool o)).cell? ⟨w.heap.size, 1, none⟩ = some (.slice A n c) ∧ ((((U0).setCell ⟨(w.heap.size + 2), 0, none⟩ (.int .i64 m)).setCell ⟨(w.heap.size + 2), 1, none⟩ (.slice A9 n9 c9)).setCell ⟨(w.heap.size + 2), 2, none⟩ (.bool o)).cell? ⟨w.heap.size, 2, none⟩ = some (.bool o))) := Lib.hid (by
  obtain ⟨⟨q0, q1, q2⟩, r0, r1, r2⟩ := KH.out _ tz
  have h1 : kO ≠ w.heap.size + 2 := by have := HKL.out; omega
  have h2 : w.heap.size ≠ w.heap.size + 2 := by omega
  exact ⟨⟨(cell_st3 (p := ⟨kO, 0, none⟩) h1 _ _ _).trans q0, (cell_st3 (p := ⟨kO, 1, none⟩) h1 _ _ _).trans q1, (cell_st3 (p := ⟨kO, 2, none⟩) h1 _ _ _).trans q2⟩, (cell_st3 (p := ⟨w.heap.size, 0, none⟩) h2 _ _ _).trans r0, (cell_st3 (p := ⟨w.heap.size, 1, none⟩) h2 _ _ _).trans r1, (cell_st3 (p := ⟨w.heap.size, 2, none⟩) h2 _ _ _).trans r2⟩)
 refine hK.out _ _ KI.out (fun _ => ?_)
 clear hK K
 refine wpAnyH_ready (rs := [9]) (by kernel_rfl) (by simp) ?_
 refine AllReadyH.cons rfl (fun K hK => ?_) AllReadyH.nil
 go_simp
 refine hK.out _ _ KI.out (fun _ => ?_)
 clear hK K
 refine wpAnyH_done (by kernel_rfl) ?_ _
 clear y0 y1 y2 f0 f1 f2 hzl
 obtain ⟨r0, r1, r2⟩ := kz3_get gc0 (Value.int .i64 m) (.slice A9 n9 c9) (.bool o)
 go_wp2
 refine bodyPost_ret (v := .tuple #[.agg #[.int .i64 m, .slice A9 n9 c9, .bool o], .bool (decide ((n9 : Int) < (n : Int)))]) (by simp [results, Tryz.results27, go_sem, r0, r1, r2]) rfl ⟨A9, c9, n9, _, by simp, HN9.out, by rw [cons_filter, HC3.out], HAZ.out, TZ.out⟩
end Go.Proofs.YtadcicmccdphkaaGreat
