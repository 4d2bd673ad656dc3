/-
  Put of the reference. No statement is proved here; no conditions.
-/
import Derived.Test.YtadcicmccdphkaaGreatG31
import Derived.Test.YtadcicmccdphkaaGreatG33
namespace Go.Proofs.YtadcicmccdphkaaGreat
open Go.RowKit Go.Joins
open List (getElem_toArray getElem_cons_zero getElem_cons_succ setIfInBounds_toArray set_cons_zero set_cons_succ)

theorem Arr.kp3 {W : World} {A : Option Addr} {L : List Ae} (h : Arr W A L) {b : Nat} {t : TypeId} (hb : W.heap[b]? = some (.cells #[Value.int .i64 0, .slice none 0 0, .bool false] t)) (u0 u1 u2 : Value) : Arr (st3 W b u0 u1 u2) A L := by
 refine ⟨fun hne => ?_, fun x hx => fun hl => ?_⟩
 ·obtain ⟨b', off, e, hS, hlt, hc⟩ := h.1 hne
  have hL : 0 < L.length := by
   rcases L with _ | ⟨x, L⟩
   ·exact absurd rfl hne
   ·simp
  have hlen : 8 < (aflat L).length := by rw [aflat_length]; omega
  have h8 := hc 8 _ (List.getElem?_eq_getElem hlen)
  have hbb : b' ≠ b := by
   rintro rfl
   simp only [World.cell?, hb] at h8
   simp at h8
  exact ⟨b', off, e, hS, by rw [size_st3]; exact hlt, fun i u hu => (cell_st3 (p := ⟨b', off + i, none⟩) hbb _ _ _).trans (hc i u hu)⟩
 ·obtain ⟨b', off, e, hlt, hc⟩ := h.2 x hx hl
  have hbb : b' ≠ b := by
   rintro rfl
   have h0 := hc 0 (List.length_pos_iff.2 hl)
   simp only [World.cell?, hb] at h0
   rcases off with _ | _ | _ | off <;> simp at h0
  exact ⟨b', off, e, by rw [size_st3]; exact hlt, fun i hi => (cell_st3 (p := ⟨b', off + i, none⟩) hbb _ _ _).trans (hc i hi)⟩
def RPP (m : Int) (R : PR) (L : List Ae) (w : World) (e : Ending) (w' : World) : Prop := ∃ A' c' n' L', e = .returned (.tuple #[.agg #[.int .i64 m, .slice A' n' c', .bool R.o], .int .i64 R.k, .int .i64 R.e]) ∧ L'.length = n' ∧ cons L' = R.C ∧ ((∀ x ∈ L, x.l.length ≤ x.c) → ∀ x ∈ L', x.l.length ≤ x.c) ∧ Arr w' A' L' ∧ Below w.heap.size w w'
theorem RPP.mk {m : Int} {w w' : World} {A : Option Addr} {c n : Nat} {o : Bool} {k er : Int} {L L0 : List Ae} {R : PR} (hR : R = ⟨cons L, o, k, er⟩) (hn : L.length = n) (ha : Arr w' A L) (hb : Below w.heap.size w w') (hc : (∀ x ∈ L0, x.l.length ≤ x.c) → ∀ x ∈ L, x.l.length ≤ x.c) : RPP m R L0 w (.returned (.tuple #[.agg #[.int .i64 m, .slice A n c, .bool o], .int .i64 k, .int .i64 er])) w' := by
 subst hR
 exact ⟨A, c, n, L, rfl, hn, rfl, hc, ha, hb⟩
set_option maxRecDepth 100000 in
set_option maxHeartbeats 8000000 in
theorem rput_any (h : Hd) (Ab : Option Addr) (mB d : Nat) (B : List Int) (m : Int) (A : Option Addr) (n c : Nat) (o : Bool) (L : List Ae) (w : World) (hn : L.length = n) (hl : Arr w A L) (hll : n ≤ 9000) (hv : Vs (cons L))
  (ok : Okd h) (hy : Byt B) (hB : B.length = mB) (hmB : mB ≤ 1600) (hmd : mB ≤ d) (hb : Bt w Ab B) :
  Calls Tryz.prog 26 #[.agg #[.int .i64 m, .slice A n c, .bool o], .agg #[.int .i64 h.a, .int .i64 h.o, .int .i64 h.t, .int .u32 h.i, .int .u32 h.v, .int .u32 h.q, .int .i64 h.s, .int .i64 h.n, .slice Ab mB d]] w fun e w' => RPP m (putR m (cons L) o (h, B)) L w e w' := by
 have HWY := Lib.hid (put_ways (m := m) (o := o) (x := (h, B)) hv)
 have HVS := Lib.hid hv
 have HBB := Lib.hid hb
 have HOD := Lib.hid ok
 have HY := Lib.hid hy
 have HMB := Lib.hid hB
 obtain ⟨W0, hW0⟩ : ∃ V, w.alloc (.cells #[.int .i64 m, .slice A n c, .bool o] 32) = V := ⟨_, rfl⟩
 have bW0 : Below w.heap.size w W0 := by rw [← hW0]; exact below_alloc1 _ _
 have sW0 : W0.heap.size = w.heap.size + 1 := by rw [← hW0]; simp
 obtain ⟨W1, hW1⟩ : ∃ V, W0.alloc (.cells #[Value.int .i64 h.a, .int .i64 h.o, .int .i64 h.t, .int .u32 h.i, .int .u32 h.v, .int .u32 h.q, .int .i64 h.s, .int .i64 h.n, .slice Ab mB d] 40) = V := ⟨_, rfl⟩
 have bW1 : Below W0.heap.size W0 W1 := by rw [← hW1]; exact below_alloc1 _ _
 have sW1 : W1.heap.size = w.heap.size + 2 := by rw [← hW1]; simp; omega
 obtain ⟨W2, hW2⟩ : ∃ V, W1.alloc (.cells #[Value.int .i64 0, .slice none 0 0, .bool false] 32) = V := ⟨_, rfl⟩
 have bW2 : Below W1.heap.size W1 W2 := by rw [← hW2]; exact below_alloc1 _ _
 have b02 : Below W0.heap.size W0 W2 := bW1.trans (bW2.mono bW1.size)
 have HB0 : Hid (Below w.heap.size w W2) := Lib.hid (bW0.trans (b02.mono bW0.size))
 have KB : Hid (∀ V, Below W2.heap.size W2 V → Bk V w.heap.size (.cells #[.int .i64 m, .slice A n c, .bool o] 32) ∧ Bk V (w.heap.size + 1) (.cells #[.int .i64 h.a, .int .i64 h.o, .int .i64 h.t, .int .u32 h.i, .int .u32 h.v, .int .u32 h.q, .int .i64 h.s, .int .i64 h.n, .slice Ab mB d] 40) ∧ Bk V (w.heap.size + 2) (.cells #[Value.int .i64 0, .slice none 0 0, .bool false] 32)) := Lib.hid (fun V hV => ⟨((Bk.mk hW0).step b02).step hV, (show Bk W2 _ _ by have := (Bk.mk hW1).step bW2; rwa [sW0] at this).step hV, (show Bk W2 _ _ by have := Bk.mk hW2; rwa [sW1] at this).step hV⟩)
 have HN := Lib.hid hn
 have HL := Lib.hid hl
 have HLT : Hid (w.heap.size + 3 ≤ W2.heap.size) := Lib.hid (by rw [← hW2]; simp; omega)
 obtain ⟨-, ab, -⟩ := KB.out _ (Below.refl _ _)
 obtain ⟨a0, a1, a2, a3, a4, a5, a6, a7, a8, -⟩ := kz9_at ab
 have CW := rwhole_any h Ab mB d B W2 hB ok (hb.step HB0.out) hy (by omega)
 clear hl hn hv hb ok hy hB bW0 bW1 bW2 b02 ab
 go_enter Tryz.func26, Tryz.ntmps26
 go_wp2_with fail
 refine CW.mono ?_
 rintro e W3 ⟨rfl, u3⟩
 have T3 := Lib.hid u3
 clear CW u3 a0 a1 a2 a3 a4 a5 a6 a7 a8 hW0 hW1 hW2 sW0 sW1
 cases hw : whl h B with
 | false =>
  have HR : Hid (putR m (cons L) o (h, B) = ⟨cons L, o, 0, 4⟩) := Lib.hid (by rw [putR, if_pos hw])
  clear hw
  obtain ⟨sb, -, zb⟩ := KB.out _ T3.out
  obtain ⟨k0, k1, k2, -⟩ := kz3_at sb
  obtain ⟨z0, z1, z2, f0, f1, f2, hzl⟩ := kz3_at zb
  have HZB := Lib.hid zb
  have HRR := Lib.hid (below_st3 (HB0.out.trans ((T3.out).mono HB0.out.size)) (show w.heap.size ≤ w.heap.size + 2 by omega) (Value.int .i64 m) (.slice A n c) (.bool o))
  clear sb zb
  go_wp2
  obtain ⟨r0, r1, r2⟩ := kz3_get HZB.out (Value.int .i64 m) (.slice A n c) (.bool o)
  refine bodyPost_ret (v := .tuple #[.agg #[.int .i64 m, .slice A n c, .bool o], .int .i64 0, .int .i64 4]) (by simp [results, Tryz.results26, go_sem, r0, r1, r2]) rfl (RPP.mk HR.out HN.out (HL.out.step HRR.out) HRR.out id)
 | true =>
  have HW := Lib.hid hw
  clear hw
  obtain ⟨-, ab, -⟩ := KB.out _ T3.out
  obtain ⟨a0, a1, a2, a3, a4, a5, a6, a7, a8, -⟩ := kz9_at ab
  have CR := rright_any h.a h.o h.t h.i h.v h.q h.s h.n Ab mB d B W3 HMB.out (HBB.out.step (HB0.out.trans (T3.out.mono HB0.out.size))) HY.out hmd (by omega)
  clear ab
  go_wp2_with fail
  refine CR.mono ?_
  rintro e W4 ⟨rfl, u4⟩
  have T4 := Lib.hid (T3.out.trans (u4.mono T3.out.size))
  clear CR u4 a0 a1 a2 a3 a4 a5 a6 a7 a8
  cases hr : rgt h.t B with
  | false =>
   have HR : Hid (putR m (cons L) o (h, B) = ⟨cons L, o, 0, 3⟩) := Lib.hid (by rw [putR, if_neg (by rw [HW.out]; simp), if_pos hr])
   clear hr
   obtain ⟨sb, -, zb⟩ := KB.out _ T4.out
   obtain ⟨k0, k1, k2, -⟩ := kz3_at sb
   obtain ⟨z0, z1, z2, f0, f1, f2, hzl⟩ := kz3_at zb
   have HZB := Lib.hid zb
   have HRR := Lib.hid (below_st3 (HB0.out.trans ((T4.out).mono HB0.out.size)) (show w.heap.size ≤ w.heap.size + 2 by omega) (Value.int .i64 m) (.slice A n c) (.bool o))
   clear sb zb
   go_wp2
   obtain ⟨r0, r1, r2⟩ := kz3_get HZB.out (Value.int .i64 m) (.slice A n c) (.bool o)
   refine bodyPost_ret (v := .tuple #[.agg #[.int .i64 m, .slice A n c, .bool o], .int .i64 0, .int .i64 3]) (by simp [results, Tryz.results26, go_sem, r0, r1, r2]) rfl (RPP.mk HR.out HN.out (HL.out.step HRR.out) HRR.out id)
  | true =>
   have HRT := Lib.hid hr
   clear hr
   obtain ⟨fh, fl, hfz⟩ : ∃ p q, fnd (cons L) h = (p, q) := ⟨_, _, rfl⟩
   obtain ⟨fn, hfn⟩ : ∃ q, fl.length = q := ⟨_, rfl⟩
   have CFd := fun V (hV : Below W4.heap.size W4 V) => rfind_any h m A n c o L V HN.out (HL.out.step ((HB0.out.trans (T4.out.mono HB0.out.size)).trans (hV.mono (HB0.out.trans (T4.out.mono HB0.out.size)).size))) hll
   simp only [RFP, hfz, hfn] at CFd
   obtain ⟨is, his⟩ : ∃ q, isin (cons L) h = q := ⟨_, rfl⟩
   rw [his] at CFd
   have HFZ := Lib.hid hfz
   have HIS := Lib.hid his
   have KS : Hid (∀ V, Below W4.heap.size W4 V → (V.cell? ⟨w.heap.size, 0, none⟩ = some (.int .i64 m) ∧ V.cell? ⟨w.heap.size, 1, none⟩ = some (.slice A n c) ∧ V.cell? ⟨w.heap.size, 2, none⟩ = some (.bool o)) ∧ (V.cell? ⟨(w.heap.size + 1), 0, none⟩ = some (.int .i64 h.a) ∧ V.cell? ⟨(w.heap.size + 1), 1, none⟩ = some (.int .i64 h.o) ∧ V.cell? ⟨(w.heap.size + 1), 2, none⟩ = some (.int .i64 h.t) ∧ V.cell? ⟨(w.heap.size + 1), 3, none⟩ = some (.int .u32 h.i) ∧ V.cell? ⟨(w.heap.size + 1), 4, none⟩ = some (.int .u32 h.v) ∧ V.cell? ⟨(w.heap.size + 1), 5, none⟩ = some (.int .u32 h.q) ∧ V.cell? ⟨(w.heap.size + 1), 6, none⟩ = some (.int .i64 h.s) ∧ V.cell? ⟨(w.heap.size + 1), 7, none⟩ = some (.int .i64 h.n) ∧ V.cell? ⟨(w.heap.size + 1), 8, none⟩ = some (.slice Ab mB d))) := Lib.hid (fun V hV => by
    obtain ⟨sb, ab, -⟩ := KB.out _ (T4.out.trans (hV.mono T4.out.size))
    obtain ⟨k0, k1, k2, -⟩ := kz3_at sb
    obtain ⟨a0, a1, a2, a3, a4, a5, a6, a7, a8, -⟩ := kz9_at ab
    exact ⟨⟨k0, k1, k2⟩, a0, a1, a2, a3, a4, a5, a6, a7, a8⟩)
   clear hfz hfn his
   go_upto_region 5 with fail
   go_cut [7, 8] (fun v7 v8 wx => ∃ kf : Nat, v7 = .pointer (some ⟨kf, 0, none⟩) ∧ v8 = .bool is ∧ Hid (Below W4.heap.size W4 wx) ∧ Hid (∃ A8 c8, Bk wx kf (.cells #[.int .i64 fh.a, .int .i64 fh.o, .int .i64 fh.t, .int .u32 fh.i, .int .u32 fh.v, .int .u32 fh.q, .int .i64 fh.s, .int .i64 fh.n, .slice A8 fn c8] 40)))
   case first =>
    have tt : Below W4.heap.size W4 W4 := Below.refl _ _
    refine wp_region_held_drew (S := fun V => (V.cell? ⟨w.heap.size, 0, none⟩ = some (.int .i64 m) ∧ V.cell? ⟨w.heap.size, 1, none⟩ = some (.slice A n c) ∧ V.cell? ⟨w.heap.size, 2, none⟩ = some (.bool o)) ∧ (V.cell? ⟨(w.heap.size + 1), 0, none⟩ = some (.int .i64 h.a) ∧ V.cell? ⟨(w.heap.size + 1), 1, none⟩ = some (.int .i64 h.o) ∧ V.cell? ⟨(w.heap.size + 1), 2, none⟩ = some (.int .i64 h.t) ∧ V.cell? ⟨(w.heap.size + 1), 3, none⟩ = some (.int .u32 h.i) ∧ V.cell? ⟨(w.heap.size + 1), 4, none⟩ = some (.int .u32 h.v) ∧ V.cell? ⟨(w.heap.size + 1), 5, none⟩ = some (.int .u32 h.q) ∧ V.cell? ⟨(w.heap.size + 1), 6, none⟩ = some (.int .i64 h.s) ∧ V.cell? ⟨(w.heap.size + 1), 7, none⟩ = some (.int .i64 h.n) ∧ V.cell? ⟨(w.heap.size + 1), 8, none⟩ = some (.slice Ab mB d))) (by kernel_rfl) (KS.out _ tt.drew) (fun hHeld => ?_)
    replace tt : Below W4.heap.size W4 W4.drew := tt.drew
    generalize hX0 : W4.drew = X0 at tt  hHeld ⊢
    clear hX0
    refine wpAnyH_take (i := 0) (v := ?_) rfl (by kernel_rfl) (by kernel_rfl) (by kernel_rfl) (fun _ _ _ h => h) (Or.inl ⟨by rfl, ?_⟩) (by assumption) ?_
    rotate_left
    ·(intro w' hSw; (try dsimp only at hSw); go_simp; try with_reducible rfl)
    simp only [Act.put, getElem_toArray, getElem_cons_zero, setIfInBounds_toArray, set_cons_zero, set_cons_succ]
    refine wpAnyH_take (i := 1) (v := ?_) rfl (by kernel_rfl) (by kernel_rfl) (by kernel_rfl) (fun _ _ _ h => h) (Or.inl ⟨by rfl, ?_⟩) (by assumption) ?_
    rotate_left
    ·(intro w' hSw; (try dsimp only at hSw); go_simp; try with_reducible rfl)
    simp only [Act.put, getElem_toArray, getElem_cons_zero, getElem_cons_succ, setIfInBounds_toArray, set_cons_zero, set_cons_succ]
    refine wpAnyH_take (i := 2) (v := ?_) rfl (by kernel_rfl) (by kernel_rfl) (by kernel_rfl) (fun _ _ _ h => h) (Or.inl ⟨by rfl, ?_⟩) (by assumption) ?_
    rotate_left
    ·(intro w' hSw; (try dsimp only at hSw); go_simp; try with_reducible rfl)
    simp only [Act.put, getElem_toArray, getElem_cons_zero, getElem_cons_succ, setIfInBounds_toArray, set_cons_zero, set_cons_succ]
    refine wpAnyH_ready (rs := [3, 8]) (by kernel_rfl) (by simp) ?_
    refine AllReadyH.cons rfl (fun K hK => ?_) ?_
    ·go_simp
     go_at_call 39
     refine (rkey_any h X0).mono ?_
     rintro e Y1 ⟨rfl, u1⟩
     have t_Y1 : Below W4.heap.size W4 Y1 := tt.trans (u1.mono tt.size)
     refine hK.out _ _ (KS.out _ t_Y1) (fun _ => ?_)
     clear hK K
     refine wpAnyH_ready (rs := [4, 8]) (by kernel_rfl) (by simp) ?_
     refine AllReadyH.cons rfl (fun K hK => ?_) ?_
     ·go_simp
      go_at_call 11
      refine (CFd Y1 t_Y1).mono ?_
      rintro e Y2 ⟨A8, c8, rfl, -, u2⟩
      have t_Y2 : Below W4.heap.size W4 Y2 := t_Y1.trans (u2.mono t_Y1.size)
      refine hK.out _ _ (KS.out _ t_Y2) (fun _ => ?_)
      clear hK K
      refine wpAnyH_take (i := 5) (v := ?_) rfl (by kernel_rfl) (by kernel_rfl) (by kernel_rfl) (fun _ _ _ h => h) (Or.inl ⟨by rfl, ?_⟩) (by assumption) ?_
      rotate_left
      ·(intro w' hSw; (try dsimp only at hSw); go_simp; try with_reducible rfl)
      simp only [Act.put, getElem_toArray, getElem_cons_zero, getElem_cons_succ, setIfInBounds_toArray, set_cons_zero, set_cons_succ]
      refine wpAnyH_take (i := 6) (v := ?_) rfl (by kernel_rfl) (by kernel_rfl) (by kernel_rfl) (fun _ _ _ h => h) (Or.inl ⟨by rfl, ?_⟩) (by assumption) ?_
      rotate_left
      ·(intro w' hSw; (try dsimp only at hSw); go_simp; try with_reducible rfl)
      simp only [Act.put, getElem_toArray, getElem_cons_zero, getElem_cons_succ, setIfInBounds_toArray, set_cons_zero, set_cons_succ]
      refine wpAnyH_take (i := 7) (v := ?_) rfl (by kernel_rfl) (by kernel_rfl) (by kernel_rfl) (fun _ _ _ h => h) (Or.inl ⟨by rfl, ?_⟩) (by assumption) ?_
      rotate_left
      ·(intro w' hSw; (try dsimp only at hSw); go_simp; try with_reducible rfl)
      simp only [Act.put, getElem_toArray, getElem_cons_zero, getElem_cons_succ, setIfInBounds_toArray, set_cons_zero, set_cons_succ]
      refine wpAnyH_ready (rs := [8]) (by kernel_rfl) (by simp) ?_
      refine AllReadyH.cons rfl (fun K hK => ?_) AllReadyH.nil
      go_simp
      obtain ⟨Y3, hY3⟩ : ∃ V, Y2.alloc (.cells #[Value.int .i64 0, .int .i64 0, .int .i64 0, .int .u32 0, .int .u32 0, .int .u32 0, .int .i64 0, .int .i64 0, .slice none 0 0] 40) = V := ⟨_, rfl⟩
      have u3 : Below Y2.heap.size Y2 Y3 := by rw [← hY3]; exact below_alloc1 _ _
      have kz := Bk.mk hY3
      have t_Y3 : Below W4.heap.size W4 Y3 := t_Y2.trans (u3.mono t_Y2.size)
      obtain ⟨kf, hkt⟩ : ∃ q, Y2.heap.size = q := ⟨_, rfl⟩
      rw [hkt] at kz
      have ga : Hid (W4.heap.size ≤ kf) := Lib.hid (by rw [← hkt]; exact t_Y2.size)
      try rw [hY3]
      try rw [hkt]
      clear hY3 hkt
      refine hK.out _ _ (KS.out _ t_Y3) (fun _ => ?_)
      clear hK K
      refine wpAnyH_ready (rs := [9]) (by kernel_rfl) (by simp) ?_
      refine AllReadyH.cons rfl (fun K hK => ?_) AllReadyH.nil
      have TW : Hid (Below W4.heap.size W4 ((((((((((Y3).setCell ⟨kf, 0, none⟩ (.int .i64 fh.a)).setCell ⟨kf, 1, none⟩ (.int .i64 fh.o)).setCell ⟨kf, 2, none⟩ (.int .i64 fh.t)).setCell ⟨kf, 3, none⟩ (.int .u32 fh.i)).setCell ⟨kf, 4, none⟩ (.int .u32 fh.v)).setCell ⟨kf, 5, none⟩ (.int .u32 fh.q)).setCell ⟨kf, 6, none⟩ (.int .i64 fh.s)).setCell ⟨kf, 7, none⟩ (.int .i64 fh.n)).setCell ⟨kf, 8, none⟩ (.slice A8 fn c8))) := Lib.hid (below_st9 t_Y3 ga.out (.int .i64 fh.a) (.int .i64 fh.o) (.int .i64 fh.t) (.int .u32 fh.i) (.int .u32 fh.v) (.int .u32 fh.q) (.int .i64 fh.s) (.int .i64 fh.n) (.slice A8 fn c8))
      have GW : Hid (Bk ((((((((((Y3).setCell ⟨kf, 0, none⟩ (.int .i64 fh.a)).setCell ⟨kf, 1, none⟩ (.int .i64 fh.o)).setCell ⟨kf, 2, none⟩ (.int .i64 fh.t)).setCell ⟨kf, 3, none⟩ (.int .u32 fh.i)).setCell ⟨kf, 4, none⟩ (.int .u32 fh.v)).setCell ⟨kf, 5, none⟩ (.int .u32 fh.q)).setCell ⟨kf, 6, none⟩ (.int .i64 fh.s)).setCell ⟨kf, 7, none⟩ (.int .i64 fh.n)).setCell ⟨kf, 8, none⟩ (.slice A8 fn c8)) kf (.cells #[.int .i64 fh.a, .int .i64 fh.o, .int .i64 fh.t, .int .u32 fh.i, .int .u32 fh.v, .int .u32 fh.q, .int .i64 fh.s, .int .i64 fh.n, .slice A8 fn c8] 40)) := Lib.hid (kz9_set kz (.int .i64 fh.a) (.int .i64 fh.o) (.int .i64 fh.t) (.int .u32 fh.i) (.int .u32 fh.v) (.int .u32 fh.q) (.int .i64 fh.s) (.int .i64 fh.n) (.slice A8 fn c8))
      obtain ⟨z0, z1, z2, z3, z4, z5, z6, z7, z8, g0, g1, g2, g3, g4, g5, g6, g7, g8, hzl⟩ := kz9_at kz
      clear kz
      go_simp
      obtain ⟨ZX, hZX⟩ : ∃ V, ((((((((((Y3).setCell ⟨kf, 0, none⟩ (.int .i64 fh.a)).setCell ⟨kf, 1, none⟩ (.int .i64 fh.o)).setCell ⟨kf, 2, none⟩ (.int .i64 fh.t)).setCell ⟨kf, 3, none⟩ (.int .u32 fh.i)).setCell ⟨kf, 4, none⟩ (.int .u32 fh.v)).setCell ⟨kf, 5, none⟩ (.int .u32 fh.q)).setCell ⟨kf, 6, none⟩ (.int .i64 fh.s)).setCell ⟨kf, 7, none⟩ (.int .i64 fh.n)).setCell ⟨kf, 8, none⟩ (.slice A8 fn c8)) = V := ⟨_, rfl⟩
      rw [hZX] at TW GW  ⊢
      clear z0 z1 z2 z3 z4 z5 z6 z7 z8 g0 g1 g2 g3 g4 g5 g6 g7 g8 hzl hZX
      refine hK.out _ _ (KS.out _ TW.out) (fun _ => ?_)
      clear hK K
      refine wpAnyH_ready (rs := [10]) (by kernel_rfl) (by simp) ?_
      refine AllReadyH.cons rfl (fun K hK => ?_) AllReadyH.nil
      go_simp
      refine hK.out _ _ (KS.out _ TW.out) (fun _ => ?_)
      clear hK K
      refine wpAnyH_done (by kernel_rfl) ?_ _
      go_wp2
      go_meet
      case rel => exact ⟨kf, rfl, rfl, TW, Lib.hid ⟨A8, c8, GW.out⟩⟩
     refine AllReadyH.cons rfl (fun K hK => ?_) AllReadyH.nil
     go_simp
     obtain ⟨Y2, hY2⟩ : ∃ V, Y1.alloc (.cells #[Value.int .i64 0, .int .i64 0, .int .i64 0, .int .u32 0, .int .u32 0, .int .u32 0, .int .i64 0, .int .i64 0, .slice none 0 0] 40) = V := ⟨_, rfl⟩
     have u2 : Below Y1.heap.size Y1 Y2 := by rw [← hY2]; exact below_alloc1 _ _
     have kz := Bk.mk hY2
     have t_Y2 : Below W4.heap.size W4 Y2 := t_Y1.trans (u2.mono t_Y1.size)
     obtain ⟨kf, hkt⟩ : ∃ q, Y1.heap.size = q := ⟨_, rfl⟩
     rw [hkt] at kz
     have ga : Hid (W4.heap.size ≤ kf) := Lib.hid (by rw [← hkt]; exact t_Y1.size)
     try rw [hY2]
     try rw [hkt]
     clear hY2 hkt
     refine hK.out _ _ (KS.out _ t_Y2) (fun _ => ?_)
     clear hK K
     refine wpAnyH_ready (rs := [4]) (by kernel_rfl) (by simp) ?_
     refine AllReadyH.cons rfl (fun K hK => ?_) AllReadyH.nil
     go_simp
     go_at_call 11
     refine (CFd Y2 t_Y2).mono ?_
     rintro e Y3 ⟨A8, c8, rfl, -, u3⟩
     have t_Y3 : Below W4.heap.size W4 Y3 := t_Y2.trans (u3.mono t_Y2.size)
     replace kz := kz.step u3
     refine hK.out _ _ (KS.out _ t_Y3) (fun _ => ?_)
     clear hK K
     refine wpAnyH_take (i := 5) (v := ?_) rfl (by kernel_rfl) (by kernel_rfl) (by kernel_rfl) (fun _ _ _ h => h) (Or.inl ⟨by rfl, ?_⟩) (by assumption) ?_
     rotate_left
     ·(intro w' hSw; (try dsimp only at hSw); go_simp; try with_reducible rfl)
     simp only [Act.put, getElem_toArray, getElem_cons_zero, getElem_cons_succ, setIfInBounds_toArray, set_cons_zero, set_cons_succ]
     refine wpAnyH_take (i := 6) (v := ?_) rfl (by kernel_rfl) (by kernel_rfl) (by kernel_rfl) (fun _ _ _ h => h) (Or.inl ⟨by rfl, ?_⟩) (by assumption) ?_
     rotate_left
     ·(intro w' hSw; (try dsimp only at hSw); go_simp; try with_reducible rfl)
     simp only [Act.put, getElem_toArray, getElem_cons_zero, getElem_cons_succ, setIfInBounds_toArray, set_cons_zero, set_cons_succ]
     refine wpAnyH_take (i := 7) (v := ?_) rfl (by kernel_rfl) (by kernel_rfl) (by kernel_rfl) (fun _ _ _ h => h) (Or.inl ⟨by rfl, ?_⟩) (by assumption) ?_
     rotate_left
     ·(intro w' hSw; (try dsimp only at hSw); go_simp; try with_reducible rfl)
     simp only [Act.put, getElem_toArray, getElem_cons_zero, getElem_cons_succ, setIfInBounds_toArray, set_cons_zero, set_cons_succ]
     refine wpAnyH_ready (rs := [9]) (by kernel_rfl) (by simp) ?_
     refine AllReadyH.cons rfl (fun K hK => ?_) AllReadyH.nil
     have TW : Hid (Below W4.heap.size W4 ((((((((((Y3).setCell ⟨kf, 0, none⟩ (.int .i64 fh.a)).setCell ⟨kf, 1, none⟩ (.int .i64 fh.o)).setCell ⟨kf, 2, none⟩ (.int .i64 fh.t)).setCell ⟨kf, 3, none⟩ (.int .u32 fh.i)).setCell ⟨kf, 4, none⟩ (.int .u32 fh.v)).setCell ⟨kf, 5, none⟩ (.int .u32 fh.q)).setCell ⟨kf, 6, none⟩ (.int .i64 fh.s)).setCell ⟨kf, 7, none⟩ (.int .i64 fh.n)).setCell ⟨kf, 8, none⟩ (.slice A8 fn c8))) := Lib.hid (below_st9 t_Y3 ga.out (.int .i64 fh.a) (.int .i64 fh.o) (.int .i64 fh.t) (.int .u32 fh.i) (.int .u32 fh.v) (.int .u32 fh.q) (.int .i64 fh.s) (.int .i64 fh.n) (.slice A8 fn c8))
     have GW : Hid (Bk ((((((((((Y3).setCell ⟨kf, 0, none⟩ (.int .i64 fh.a)).setCell ⟨kf, 1, none⟩ (.int .i64 fh.o)).setCell ⟨kf, 2, none⟩ (.int .i64 fh.t)).setCell ⟨kf, 3, none⟩ (.int .u32 fh.i)).setCell ⟨kf, 4, none⟩ (.int .u32 fh.v)).setCell ⟨kf, 5, none⟩ (.int .u32 fh.q)).setCell ⟨kf, 6, none⟩ (.int .i64 fh.s)).setCell ⟨kf, 7, none⟩ (.int .i64 fh.n)).setCell ⟨kf, 8, none⟩ (.slice A8 fn c8)) kf (.cells #[.int .i64 fh.a, .int .i64 fh.o, .int .i64 fh.t, .int .u32 fh.i, .int .u32 fh.v, .int .u32 fh.q, .int .i64 fh.s, .int .i64 fh.n, .slice A8 fn c8] 40)) := Lib.hid (kz9_set kz (.int .i64 fh.a) (.int .i64 fh.o) (.int .i64 fh.t) (.int .u32 fh.i) (.int .u32 fh.v) (.int .u32 fh.q) (.int .i64 fh.s) (.int .i64 fh.n) (.slice A8 fn c8))
     obtain ⟨z0, z1, z2, z3, z4, z5, z6, z7, z8, g0, g1, g2, g3, g4, g5, g6, g7, g8, hzl⟩ := kz9_at kz
     clear kz
     go_simp
     obtain ⟨ZX, hZX⟩ : ∃ V, ((((((((((Y3).setCell ⟨kf, 0, none⟩ (.int .i64 fh.a)).setCell ⟨kf, 1, none⟩ (.int .i64 fh.o)).setCell ⟨kf, 2, none⟩ (.int .i64 fh.t)).setCell ⟨kf, 3, none⟩ (.int .u32 fh.i)).setCell ⟨kf, 4, none⟩ (.int .u32 fh.v)).setCell ⟨kf, 5, none⟩ (.int .u32 fh.q)).setCell ⟨kf, 6, none⟩ (.int .i64 fh.s)).setCell ⟨kf, 7, none⟩ (.int .i64 fh.n)).setCell ⟨kf, 8, none⟩ (.slice A8 fn c8)) = V := ⟨_, rfl⟩
     rw [hZX] at TW GW  ⊢
     clear z0 z1 z2 z3 z4 z5 z6 z7 z8 g0 g1 g2 g3 g4 g5 g6 g7 g8 hzl hZX
     refine hK.out _ _ (KS.out _ TW.out) (fun _ => ?_)
     clear hK K
     refine wpAnyH_ready (rs := [10]) (by kernel_rfl) (by simp) ?_
     refine AllReadyH.cons rfl (fun K hK => ?_) AllReadyH.nil
     go_simp
     refine hK.out _ _ (KS.out _ TW.out) (fun _ => ?_)
     clear hK K
     refine wpAnyH_done (by kernel_rfl) ?_ _
     go_wp2
     go_meet
     case rel => exact ⟨kf, rfl, rfl, TW, Lib.hid ⟨A8, c8, GW.out⟩⟩
    refine AllReadyH.cons rfl (fun K hK => ?_) AllReadyH.nil
    go_simp
    obtain ⟨Y1, hY1⟩ : ∃ V, X0.alloc (.cells #[Value.int .i64 0, .int .i64 0, .int .i64 0, .int .u32 0, .int .u32 0, .int .u32 0, .int .i64 0, .int .i64 0, .slice none 0 0] 40) = V := ⟨_, rfl⟩
    have u1 : Below X0.heap.size X0 Y1 := by rw [← hY1]; exact below_alloc1 _ _
    have kz := Bk.mk hY1
    have t_Y1 : Below W4.heap.size W4 Y1 := tt.trans (u1.mono tt.size)
    obtain ⟨kf, hkt⟩ : ∃ q, X0.heap.size = q := ⟨_, rfl⟩
    rw [hkt] at kz
    have ga : Hid (W4.heap.size ≤ kf) := Lib.hid (by rw [← hkt]; exact tt.size)
    try rw [hY1]
    try rw [hkt]
    clear hY1 hkt
    refine hK.out _ _ (KS.out _ t_Y1) (fun _ => ?_)
    clear hK K
    refine wpAnyH_ready (rs := [3]) (by kernel_rfl) (by simp) ?_
    refine AllReadyH.cons rfl (fun K hK => ?_) AllReadyH.nil
    go_simp
    go_at_call 39
    refine (rkey_any h Y1).mono ?_
    rintro e Y2 ⟨rfl, u2⟩
    have t_Y2 : Below W4.heap.size W4 Y2 := t_Y1.trans (u2.mono t_Y1.size)
    replace kz := kz.step u2
    refine hK.out _ _ (KS.out _ t_Y2) (fun _ => ?_)
    clear hK K
    refine wpAnyH_ready (rs := [4]) (by kernel_rfl) (by simp) ?_
    refine AllReadyH.cons rfl (fun K hK => ?_) AllReadyH.nil
    go_simp
    go_at_call 11
    refine (CFd Y2 t_Y2).mono ?_
    rintro e Y3 ⟨A8, c8, rfl, -, u3⟩
    have t_Y3 : Below W4.heap.size W4 Y3 := t_Y2.trans (u3.mono t_Y2.size)
    replace kz := kz.step u3
    refine hK.out _ _ (KS.out _ t_Y3) (fun _ => ?_)
    clear hK K
    refine wpAnyH_take (i := 5) (v := ?_) rfl (by kernel_rfl) (by kernel_rfl) (by kernel_rfl) (fun _ _ _ h => h) (Or.inl ⟨by rfl, ?_⟩) (by assumption) ?_
    rotate_left
    ·(intro w' hSw; (try dsimp only at hSw); go_simp; try with_reducible rfl)
    simp only [Act.put, getElem_toArray, getElem_cons_zero, getElem_cons_succ, setIfInBounds_toArray, set_cons_zero, set_cons_succ]
    refine wpAnyH_take (i := 6) (v := ?_) rfl (by kernel_rfl) (by kernel_rfl) (by kernel_rfl) (fun _ _ _ h => h) (Or.inl ⟨by rfl, ?_⟩) (by assumption) ?_
    rotate_left
    ·(intro w' hSw; (try dsimp only at hSw); go_simp; try with_reducible rfl)
    simp only [Act.put, getElem_toArray, getElem_cons_zero, getElem_cons_succ, setIfInBounds_toArray, set_cons_zero, set_cons_succ]
    refine wpAnyH_take (i := 7) (v := ?_) rfl (by kernel_rfl) (by kernel_rfl) (by kernel_rfl) (fun _ _ _ h => h) (Or.inl ⟨by rfl, ?_⟩) (by assumption) ?_
    rotate_left
    ·(intro w' hSw; (try dsimp only at hSw); go_simp; try with_reducible rfl)
    simp only [Act.put, getElem_toArray, getElem_cons_zero, getElem_cons_succ, setIfInBounds_toArray, set_cons_zero, set_cons_succ]
    refine wpAnyH_ready (rs := [9]) (by kernel_rfl) (by simp) ?_
    refine AllReadyH.cons rfl (fun K hK => ?_) AllReadyH.nil
    have TW : Hid (Below W4.heap.size W4 ((((((((((Y3).setCell ⟨kf, 0, none⟩ (.int .i64 fh.a)).setCell ⟨kf, 1, none⟩ (.int .i64 fh.o)).setCell ⟨kf, 2, none⟩ (.int .i64 fh.t)).setCell ⟨kf, 3, none⟩ (.int .u32 fh.i)).setCell ⟨kf, 4, none⟩ (.int .u32 fh.v)).setCell ⟨kf, 5, none⟩ (.int .u32 fh.q)).setCell ⟨kf, 6, none⟩ (.int .i64 fh.s)).setCell ⟨kf, 7, none⟩ (.int .i64 fh.n)).setCell ⟨kf, 8, none⟩ (.slice A8 fn c8))) := Lib.hid (below_st9 t_Y3 ga.out (.int .i64 fh.a) (.int .i64 fh.o) (.int .i64 fh.t) (.int .u32 fh.i) (.int .u32 fh.v) (.int .u32 fh.q) (.int .i64 fh.s) (.int .i64 fh.n) (.slice A8 fn c8))
    have GW : Hid (Bk ((((((((((Y3).setCell ⟨kf, 0, none⟩ (.int .i64 fh.a)).setCell ⟨kf, 1, none⟩ (.int .i64 fh.o)).setCell ⟨kf, 2, none⟩ (.int .i64 fh.t)).setCell ⟨kf, 3, none⟩ (.int .u32 fh.i)).setCell ⟨kf, 4, none⟩ (.int .u32 fh.v)).setCell ⟨kf, 5, none⟩ (.int .u32 fh.q)).setCell ⟨kf, 6, none⟩ (.int .i64 fh.s)).setCell ⟨kf, 7, none⟩ (.int .i64 fh.n)).setCell ⟨kf, 8, none⟩ (.slice A8 fn c8)) kf (.cells #[.int .i64 fh.a, .int .i64 fh.o, .int .i64 fh.t, .int .u32 fh.i, .int .u32 fh.v, .int .u32 fh.q, .int .i64 fh.s, .int .i64 fh.n, .slice A8 fn c8] 40)) := Lib.hid (kz9_set kz (.int .i64 fh.a) (.int .i64 fh.o) (.int .i64 fh.t) (.int .u32 fh.i) (.int .u32 fh.v) (.int .u32 fh.q) (.int .i64 fh.s) (.int .i64 fh.n) (.slice A8 fn c8))
    obtain ⟨z0, z1, z2, z3, z4, z5, z6, z7, z8, g0, g1, g2, g3, g4, g5, g6, g7, g8, hzl⟩ := kz9_at kz
    clear kz
    go_simp
    obtain ⟨ZX, hZX⟩ : ∃ V, ((((((((((Y3).setCell ⟨kf, 0, none⟩ (.int .i64 fh.a)).setCell ⟨kf, 1, none⟩ (.int .i64 fh.o)).setCell ⟨kf, 2, none⟩ (.int .i64 fh.t)).setCell ⟨kf, 3, none⟩ (.int .u32 fh.i)).setCell ⟨kf, 4, none⟩ (.int .u32 fh.v)).setCell ⟨kf, 5, none⟩ (.int .u32 fh.q)).setCell ⟨kf, 6, none⟩ (.int .i64 fh.s)).setCell ⟨kf, 7, none⟩ (.int .i64 fh.n)).setCell ⟨kf, 8, none⟩ (.slice A8 fn c8)) = V := ⟨_, rfl⟩
    rw [hZX] at TW GW  ⊢
    clear z0 z1 z2 z3 z4 z5 z6 z7 z8 g0 g1 g2 g3 g4 g5 g6 g7 g8 hzl hZX
    refine hK.out _ _ (KS.out _ TW.out) (fun _ => ?_)
    clear hK K
    refine wpAnyH_ready (rs := [10]) (by kernel_rfl) (by simp) ?_
    refine AllReadyH.cons rfl (fun K hK => ?_) AllReadyH.nil
    go_simp
    refine hK.out _ _ (KS.out _ TW.out) (fun _ => ?_)
    clear hK K
    refine wpAnyH_done (by kernel_rfl) ?_ _
    go_wp2
    go_meet
    case rel => exact ⟨kf, rfl, rfl, TW, Lib.hid ⟨A8, c8, GW.out⟩⟩
   case rest =>
    obtain ⟨kf, rfl, rfl, T5, HF⟩ := hcut
    obtain ⟨A8, c8, gf⟩ := HF.out
    clear KS CFd HF
    have T45 := Lib.hid (T4.out.trans (T5.out.mono T4.out.size))
    rcases HWY.out with ⟨_, _, _, ⟨_, q⟩ | ⟨_, _, q⟩⟩ | ⟨_, _, ⟨j, hj, hkj, hpj, hcm⟩ | ⟨hno, hmm⟩⟩
    ·have := HW.out; rw [this] at q; cases q
    ·have := HRT.out; rw [this] at q; cases q
    ·obtain ⟨e1, e2⟩ := fnd_of_mem HVS.out.a (List.getElem_mem hj) hkj
     have his : is = true := by rw [← HIS.out]; exact e2
     subst his
     have hfe : (cons L)[j] = (fh, fl) := by rw [← e1, HFZ.out]
     have hsv := (HVS.out.e _ (List.getElem_mem hj)).sok
     rw [hfe] at hsv hcm hkj
     have hma := ((mayd_iff h).1 (whl_iff HW.out).1).1
     have CC := rcompare_any h fh wc HOD.out.q hsv.q hma hsv.a
     have HIS2 : Hid (intoC (cons L) (h, B) = (cons L).set j (h, B)) := Lib.hid (intoC_set HVS.out.a hj (by rw [hfe]; exact hkj))
     have hcm2 : (cmpH h fh = 1 ∧ putR m (cons L) o (h, B) = ⟨(cons L).set j (h, B), o, 2, 0⟩) ∨ (cmpH h fh ≠ 1 ∧ putR m (cons L) o (h, B) = ⟨cons L, o, cmpH h fh + 1, 0⟩) := hcm
     have HCM := Lib.hid hcm2
     have hbd := cmpH_bd h fh
     generalize cmpH h fh = r at *
     obtain ⟨-, ab, -⟩ := KB.out _ T45.out
     obtain ⟨a0, a1, a2, a3, a4, a5, a6, a7, a8, -⟩ := kz9_at ab
     obtain ⟨x0, x1, x2, x3, x4, x5, x6, x7, x8, -⟩ := kz9_at gf
     clear hcm hcm2 hsv hfe e1 e2 hkj hpj ab gf hma
     go_wp2_with fail
     refine CC.mono ?_
     rintro e W7 ⟨rfl, u7⟩
     have T7 := Lib.hid (T45.out.trans (u7.mono T45.out.size))
     clear CC u7 a0 a1 a2 a3 a4 a5 a6 a7 a8 x0 x1 x2 x3 x4 x5 x6 x7 x8
     by_cases hr1 : r = 1
     ·subst hr1
      have HPR : Hid (putR m (cons L) o (h, B) = ⟨(cons L).set j (h, B), o, 2, 0⟩) := Lib.hid (by
       rcases HCM.out with ⟨_, q⟩ | ⟨q, _⟩
       ·exact q
       ·exact absurd rfl q)
      obtain ⟨sb, ab, -⟩ := KB.out _ T7.out
      obtain ⟨k0, k1, k2, -⟩ := kz3_at sb
      obtain ⟨a0, a1, a2, a3, a4, a5, a6, a7, a8, -⟩ := kz9_at ab
      have hBW := HB0.out.trans ((T7.out).mono HB0.out.size)
      have CI := rinto_any ⟨h, Ab, d, B⟩ m A n c o L W7 HN.out (HL.out.step hBW) hll (HBB.out.step hBW)
      simp only [av, HMB.out] at CI
      have HBW := Lib.hid hBW
      have HTT := Lib.hid (T7.out)
      clear sb ab hBW
      go_wp2_with fail
      refine CI.mono ?_
      rintro e W8 ⟨A5, c5, n5, L5, rfl, hn5, hc5, hm5, ha5, u8⟩
      have HC7 : Hid ((∀ x ∈ L, x.l.length ≤ x.c) → ∀ x ∈ L5, x.l.length ≤ x.c) := Lib.hid (fun hc z hz => by
       rcases hm5 z hz with q | rfl
       ·exact hc z q
       ·show B.length ≤ d
        rw [HMB.out]
        exact hmd)
      clear hm5
      have T8 := Lib.hid (HTT.out.trans (u8.mono HTT.out.size))
      obtain ⟨-, -, zb⟩ := KB.out _ T8.out
      obtain ⟨z0, z1, z2, f0, f1, f2, hzl⟩ := kz3_at zb
      have HZB := Lib.hid zb
      have HC5 : Hid (putR m (cons L) o (h, B) = ⟨cons L5, o, 2, 0⟩) := Lib.hid (by rw [hc5]; exact by rw [HPR.out, ← HIS2.out]; rfl)
      have HN5 := Lib.hid hn5
      have HRR := Lib.hid (below_st3 (HB0.out.trans (T8.out.mono HB0.out.size)) (show w.heap.size ≤ w.heap.size + 2 by omega) (Value.int .i64 m) (.slice A5 n5 c5) (.bool o))
      have HA5 := Lib.hid ha5
      have HX5 : Hid (Arr ((((W8).setCell ⟨(w.heap.size + 2), 0, none⟩ (.int .i64 m)).setCell ⟨(w.heap.size + 2), 1, none⟩ (.slice A5 n5 c5)).setCell ⟨(w.heap.size + 2), 2, none⟩ (.bool o)) A5 L5) := Lib.hid (HA5.out.kp3 HZB.out _ _ _)
      clear CI u8 zb k0 k1 k2 a0 a1 a2 a3 a4 a5 a6 a7 a8 hn5 hc5 ha5
      go_wp2
      obtain ⟨r0, r1, r2⟩ := kz3_get HZB.out (Value.int .i64 m) (.slice A5 n5 c5) (.bool o)
      refine bodyPost_ret (v := .tuple #[.agg #[.int .i64 m, .slice A5 n5 c5, .bool o], .int .i64 2, .int .i64 0]) (by simp [results, Tryz.results26, go_sem, r0, r1, r2]) rfl (RPP.mk HC5.out HN5.out HX5.out HRR.out HC7.out)
     ·have HPR : Hid (putR m (cons L) o (h, B) = ⟨cons L, o, r + 1, 0⟩) := Lib.hid (by
       rcases HCM.out with ⟨q, _⟩ | ⟨_, q⟩
       ·exact absurd q hr1
       ·exact q)
      have hr0 : ¬ r > 0 := by omega
      have hwr : IntKind.i64.wrap (r + 1) = r + 1 := wrap_i64 (by omega) (by omega)
      obtain ⟨sb, -, zb⟩ := KB.out _ T7.out
      obtain ⟨k0, k1, k2, -⟩ := kz3_at sb
      obtain ⟨z0, z1, z2, f0, f1, f2, hzl⟩ := kz3_at zb
      have HZB := Lib.hid zb
      have HRR := Lib.hid (below_st3 (HB0.out.trans ((T7.out).mono HB0.out.size)) (show w.heap.size ≤ w.heap.size + 2 by omega) (Value.int .i64 m) (.slice A n c) (.bool o))
      clear sb zb
      go_wp2
      obtain ⟨r0, r1, r2⟩ := kz3_get HZB.out (Value.int .i64 m) (.slice A n c) (.bool o)
      refine bodyPost_ret (v := .tuple #[.agg #[.int .i64 m, .slice A n c, .bool o], .int .i64 (r + 1), .int .i64 0]) (by simp [results, Tryz.results26, go_sem, r0, r1, r2]) rfl (RPP.mk HPR.out HN.out (HL.out.step HRR.out) HRR.out id)
    ·have his : is = false := by rw [← HIS.out]; exact (fnd_none hno).2
     subst his
     clear gf
     have HNO := Lib.hid hno
     by_cases hm : m ≤ (n : Int)
     ·have hge : (n : Int) ≥ m := hm
      have HPR : Hid (putR m (cons L) o (h, B) = ⟨cons L, true, 0, 8⟩) := Lib.hid (by
       rcases hmm with ⟨_, q⟩ | ⟨q, _⟩
       ·exact q
       ·rw [cons_length, HN.out] at q; omega)
      obtain ⟨sb, -, zb⟩ := KB.out _ T45.out
      obtain ⟨k0, k1, k2, g0, g1, g2, hgl⟩ := kz3_at sb
      obtain ⟨Wx, hWx⟩ : ∃ V, wc.setCell ⟨w.heap.size, 2, none⟩ (.bool true) = V := ⟨_, rfl⟩
      have sx : Bk Wx w.heap.size (.cells #[.int .i64 m, .slice A n c, .bool true] 32) := by rw [← hWx]; exact Bk.set3 (i := 2) sb
      have zx : Bk Wx (w.heap.size + 2) (.cells #[Value.int .i64 0, .slice none 0 0, .bool false] 32) := by rw [← hWx]; exact (Below.heap_setCell _ _ _ _ (by show w.heap.size + 2 ≠ w.heap.size; omega)).trans zb
      have TX : Below w.heap.size w Wx := by rw [← hWx]; exact (HB0.out.trans (T45.out.mono HB0.out.size)).setCell (p := ⟨w.heap.size, 2, none⟩) (Nat.le_refl _) _
      obtain ⟨p0, p1, p2, -⟩ := kz3_at sx
      obtain ⟨z0, z1, z2, f0, f1, f2, hzl⟩ := kz3_at zx
      have HZB := Lib.hid zx
      have HRR := Lib.hid (below_st3 TX (show w.heap.size ≤ w.heap.size + 2 by omega) (Value.int .i64 m) (.slice A n c) (.bool true))
      clear sb zb sx zx TX hmm hno
      go_wp2
      obtain ⟨r0, r1, r2⟩ := kz3_get HZB.out (Value.int .i64 m) (.slice A n c) (.bool true)
      refine bodyPost_ret (v := .tuple #[.agg #[.int .i64 m, .slice A n c, .bool true], .int .i64 0, .int .i64 8]) (by simp [results, Tryz.results26, go_sem, r0, r1, r2]) rfl (RPP.mk HPR.out HN.out (HL.out.step HRR.out) HRR.out id)
     ·have hge : ¬ (n : Int) ≥ m := hm
      have HPR : Hid (putR m (cons L) o (h, B) = ⟨intoC (cons L) (h, B), o, 3, 0⟩) := Lib.hid (by
       rcases hmm with ⟨q, _⟩ | ⟨_, q⟩
       ·rw [cons_length, HN.out] at q; omega
       ·rw [q, intoC_ins HNO.out])
      clear hmm hno
      obtain ⟨sx, -, -⟩ := KB.out _ T45.out
      obtain ⟨p0, p1, p2, -⟩ := kz3_at sx
      clear sx
      obtain ⟨sb, ab, -⟩ := KB.out _ T45.out
      obtain ⟨k0, k1, k2, -⟩ := kz3_at sb
      obtain ⟨a0, a1, a2, a3, a4, a5, a6, a7, a8, -⟩ := kz9_at ab
      have hBW := HB0.out.trans ((T45.out).mono HB0.out.size)
      have CI := rinto_any ⟨h, Ab, d, B⟩ m A n c o L wc HN.out (HL.out.step hBW) hll (HBB.out.step hBW)
      simp only [av, HMB.out] at CI
      have HBW := Lib.hid hBW
      have HTT := Lib.hid (T45.out)
      clear sb ab hBW
      go_wp2_with fail
      refine CI.mono ?_
      rintro e W8 ⟨A5, c5, n5, L5, rfl, hn5, hc5, hm5, ha5, u8⟩
      have HC7 : Hid ((∀ x ∈ L, x.l.length ≤ x.c) → ∀ x ∈ L5, x.l.length ≤ x.c) := Lib.hid (fun hc z hz => by
       rcases hm5 z hz with q | rfl
       ·exact hc z q
       ·show B.length ≤ d
        rw [HMB.out]
        exact hmd)
      clear hm5
      have T8 := Lib.hid (HTT.out.trans (u8.mono HTT.out.size))
      obtain ⟨-, -, zb⟩ := KB.out _ T8.out
      obtain ⟨z0, z1, z2, f0, f1, f2, hzl⟩ := kz3_at zb
      have HZB := Lib.hid zb
      have HC5 : Hid (putR m (cons L) o (h, B) = ⟨cons L5, o, 3, 0⟩) := Lib.hid (by rw [hc5]; exact by rw [HPR.out]; rfl)
      have HN5 := Lib.hid hn5
      have HRR := Lib.hid (below_st3 (HB0.out.trans (T8.out.mono HB0.out.size)) (show w.heap.size ≤ w.heap.size + 2 by omega) (Value.int .i64 m) (.slice A5 n5 c5) (.bool o))
      have HA5 := Lib.hid ha5
      have HX5 : Hid (Arr ((((W8).setCell ⟨(w.heap.size + 2), 0, none⟩ (.int .i64 m)).setCell ⟨(w.heap.size + 2), 1, none⟩ (.slice A5 n5 c5)).setCell ⟨(w.heap.size + 2), 2, none⟩ (.bool o)) A5 L5) := Lib.hid (HA5.out.kp3 HZB.out _ _ _)
      clear CI u8 zb k0 k1 k2 a0 a1 a2 a3 a4 a5 a6 a7 a8 hn5 hc5 ha5
      go_wp2
      obtain ⟨r0, r1, r2⟩ := kz3_get HZB.out (Value.int .i64 m) (.slice A5 n5 c5) (.bool o)
      refine bodyPost_ret (v := .tuple #[.agg #[.int .i64 m, .slice A5 n5 c5, .bool o], .int .i64 3, .int .i64 0]) (by simp [results, Tryz.results26, go_sem, r0, r1, r2]) rfl (RPP.mk HC5.out HN5.out HX5.out HRR.out HC7.out)
end Go.Proofs.YtadcicmccdphkaaGreat
