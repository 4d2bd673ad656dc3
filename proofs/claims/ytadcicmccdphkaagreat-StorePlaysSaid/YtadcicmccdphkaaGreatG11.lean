/-
  The contract of store.fresh. No statement is proved here; no conditions.
-/
import Derived.Test.YtadcicmccdphkaaGreatG10
namespace Go.Proofs.YtadcicmccdphkaaGreat
open Go.RowKit Go.Joins
open List (getElem_toArray getElem_cons_zero getElem_cons_succ setIfInBounds_toArray set_cons_zero set_cons_succ)

theorem cell_st3 {W : World} {b : Nat} {p : Addr} (h : p.block ≠ b) (u0 u1 u2 : Value) : (st3 W b u0 u1 u2).cell? p = W.cell? p := World.cell?_of_block (far_st3 h u0 u1 u2)
theorem Bk.set3 {w : World} {b i : Nat} {a0 a1 a2 v : Value} {t : TypeId} (h : Bk w b (.cells #[a0, a1, a2] t)) : Bk (w.setCell ⟨b, i, none⟩ v) b (.cells (#[a0, a1, a2].setIfInBounds i v) t) := block_setCell (i := i) h v
theorem Bu.set {w : World} {x : Ae} (h : Bu w x) {b i : Nat} {cur : Array Value} {t : TypeId} {m : Nat × Nat} (hb : w.heap[b]? = some (.cells cur t m)) (ht : t ≠ 5) (v : Value) : Bu (w.setCell ⟨b, i, none⟩ v) x :=
 h.keep (by simp [World.setCell]) fun b2 off e hl => Below.heap_setCell _ _ _ _ fun q => by
  obtain ⟨_, cur2, m2, h2⟩ := h.2 b2 off e hl
  rw [q, hb] at h2
  injection h2 with h2
  injection h2 with _ h3 _
  exact ht h3
theorem Aro.set {base : Nat} {w : World} {A : Option Addr} {c : Nat} {L : List Ae} (h : Aro base w A c L) {b i : Nat} {cur : Array Value} {t : TypeId} {m : Nat × Nat} (hb : w.heap[b]? = some (.cells cur t m)) (ht : t ≠ 5) (ht2 : t ≠ 40) (v : Value) : Aro base (w.setCell ⟨b, i, none⟩ v) A c L := by
 refine ⟨?_, fun x hx => (h.bod x hx).set hb ht v⟩
 rcases h.row with q | ⟨g, h1, h2, h3⟩
 ·exact .inl q
 ·refine .inr ⟨g, h1, h2, h3.keep (Below.heap_setCell _ _ _ _ fun e => ?_)⟩
  obtain ⟨cur2, hg, _⟩ := h3
  rw [e, hb] at hg
  injection hg with hg
  injection hg with _ h4 _
  exact ht2 h4
theorem cons_take1 {L : List Ae} {k : Nat} (h : k < L.length) : cons (L.take (k + 1)) = cons (L.take k) ++ [con (ag L k)] := by rw [atake h, cons_snoc]
theorem Aro.lower {base b2 : Nat} {w : World} {A : Option Addr} {c : Nat} {L : List Ae} (h : Aro base w A c L) (hb : b2 ≤ base) : Aro b2 w A c L := ⟨h.row.more fun _j hj _ => Nat.le_trans hb hj, h.bod⟩
structure FJ (w : World) (L : List Ae) (m : Int) (o : Bool) (k : Nat) (Ao : Option Addr) (co : Nat) (wx : World) : Prop where
 out : Bk wx (w.heap.size + 2) (.cells #[.int .i64 m, .slice Ao k co, .bool o] 28)
 res : Bk wx (w.heap.size + 1) (.cells #[Value.int .i64 0, .slice none 0 0, .bool false] 28)
 row : ∃ Lo, Lo.length = k ∧ cons Lo = cons (L.take k) ∧ Aro (w.heap.size + 3) wx Ao co Lo
 bel : Below w.heap.size w wx
set_option maxRecDepth 100000 in
set_option maxHeartbeats 4000000 in
theorem sfresh_any (m : Int) (A : Option Addr) (n c : Nat) (o : Bool) (L : List Ae) (w : World) (hn : L.length = n) (hl : Arr w A L) (hll : n ≤ 10000) (hsm : ∀ x ∈ L, x.l.length ≤ 100000) :
  Calls Tryz.prog 46 #[.agg #[.int .i64 m, .slice A n c, .bool o]] w fun e w' => ∃ A' c' L', e = .returned (.agg #[.int .i64 m, .slice A' n c', .bool o]) ∧ cons L' = cons L ∧ Aro w.heap.size w' A' c' L' ∧ Below w.heap.size w w' := by
 obtain ⟨W0, hW0⟩ : ∃ V, w.alloc (.cells #[.int .i64 m, .slice A n c, .bool o] 28) = V := ⟨_, rfl⟩
 have bW0 : Below w.heap.size w W0 := by rw [← hW0]; exact below_alloc1 _ _
 have sW0 : W0.heap.size = w.heap.size + 1 := by rw [← hW0]; simp
 have KX : Hid (∀ V, Below W0.heap.size W0 V → V.cell? ⟨w.heap.size, 0, none⟩ = some (.int .i64 m) ∧ V.cell? ⟨w.heap.size, 1, none⟩ = some (.slice A n c) ∧ V.cell? ⟨w.heap.size, 2, none⟩ = some (.bool o)) := Lib.hid (fun V hV => kb3_new hW0 hV)
 obtain ⟨k0, k1, k2⟩ := KX.out _ (Below.refl _ _)
 obtain ⟨W1, hW1⟩ : ∃ V, W0.alloc (.cells #[Value.int .i64 0, .slice none 0 0, .bool false] 28) = V := ⟨_, rfl⟩
 have bW1 : Below W0.heap.size W0 W1 := by rw [← hW1]; exact below_alloc1 _ _
 have sW1 : W1.heap.size = w.heap.size + 2 := by rw [← hW1]; simp; omega
 have G1 := Bk.mk hW1
 rw [sW0] at G1
 obtain ⟨i0, i1, i2⟩ := KX.out _ bW1
 obtain ⟨W2, hW2⟩ : ∃ V, W1.alloc (.cells #[Value.int .i64 0, .slice none 0 0, .bool false] 28) = V := ⟨_, rfl⟩
 have bW2 : Below W1.heap.size W1 W2 := by rw [← hW2]; exact below_alloc1 _ _
 have sW2 : W2.heap.size = w.heap.size + 3 := by rw [← hW2]; simp; omega
 have G2 := Bk.mk hW2
 rw [sW1] at G2
 have G12 := G1.step bW2
 have T2 : Below w.heap.size w W2 := (bW0.trans (bW1.mono bW0.size)).trans (bW2.mono (bW0.trans (bW1.mono bW0.size)).size)
 obtain ⟨y0, y1, y2, f0, f1, f2, hz2⟩ := kz3_at G2
 obtain ⟨W3, hW3⟩ : ∃ V, ((W2.setCell ⟨w.heap.size + 2, 0, none⟩ (.int .i64 m)).setCell ⟨w.heap.size + 2, 1, none⟩ (.slice none 0 0)).setCell ⟨w.heap.size + 2, 2, none⟩ (.bool o) = V := ⟨_, rfl⟩
 have G3 : Bk W3 (w.heap.size + 2) (.cells #[.int .i64 m, .slice none 0 0, .bool o] 28) := by rw [← hW3]; exact kz3_set G2 _ _ _
 have G13 : Bk W3 (w.heap.size + 1) (.cells #[Value.int .i64 0, .slice none 0 0, .bool false] 28) := by rw [← hW3]; exact (far_st3 (by omega) _ _ _).trans G12
 have T3 : Below w.heap.size w W3 := by rw [← hW3]; exact below_st3 T2 (by omega) _ _ _
 have l1 : W3.cell? ⟨w.heap.size, 1, none⟩ = some (.slice A n c) := by rw [← hW3]; exact (cell_st3 (by show w.heap.size ≠ _; omega) _ _ _).trans (KX.out _ (bW1.trans (bW2.mono bW1.size))).2.1
 have J0 : Hid (FJ w L m o 0 none 0 W3) := Lib.hid ⟨G3, G13, ⟨[], rfl, rfl, Aro.nil _ _⟩, T3⟩
 clear G1 G12 G2 KX bW1 bW2 G3 T2
 have HL := Lib.hid hl
 have HN := Lib.hid hn
 have HS := Lib.hid hsm
 clear hl hn hsm
 go_enter Tryz.func46, Tryz.ntmps46
 go_wp2_with fail
 have NB : Hid (w.heap.size + 1 < W3.heap.size) := Lib.hid (by have := T3.size; have := G13.lt; omega)
 clear G13
 go_loopg [14] n (fun gf v14 wx => ∃ (k : Nat) (Ao : Option Addr) (co : Nat), v14 = .int .i64 (k : Int) ∧ Hid (gf + k = n) ∧ Hid (FJ w L m o k Ao co wx))
 case atStart => exact ⟨0, none, 0, rfl, Lib.hid (by omega), J0⟩
 case round =>
  obtain ⟨k, Ao, co, rfl, hk, hJ⟩ := hrel
  have hk' := hk.out
  obtain ⟨GO, GR, ⟨Lo, hlo, hco, hro⟩, hb⟩ := hJ.out
  have HLO := Lib.hid hlo
  have HCO := Lib.hid hco
  have HRO := Lib.hid hro
  have HB := Lib.hid hb
  clear hJ hlo hco hro
  cases gk with
  | zero =>
   have lt0 : decide ((k : Int) < (n : Int)) = false := by simp; omega
   have lt1 : decide (k < n) = false := by simp; omega
   obtain rfl : k = n := by omega
   have ht : L.take k = L := List.take_of_length_le (by rw [HN.out]; omega)
   obtain ⟨j0, j1, j2, e0, e1, e2, hlt⟩ := kz3_at GO
   obtain ⟨r0, r1, r2⟩ := kz3_get GR (Value.int .i64 m) (.slice Ao k co) (.bool o)
   obtain ⟨y0, y1, y2, f0, f1, f2, hlt1⟩ := kz3_at GR
   have HF : Hid (Below w.heap.size w (st3 wr (w.heap.size + 1) (Value.int .i64 m) (.slice Ao k co) (.bool o)) ∧ Aro w.heap.size (st3 wr (w.heap.size + 1) (Value.int .i64 m) (.slice Ao k co) (.bool o)) Ao co Lo) := Lib.hid ⟨below_st3 hb (by omega) _ _ _, by
    have q1 := HRO.out.set (i := 0) GR (by decide) (by decide) (Value.int .i64 m)
    have g1 : Bk (wr.setCell ⟨w.heap.size + 1, 0, none⟩ (Value.int .i64 m)) (w.heap.size + 1) _ := Bk.set3 (i := 0) GR
    have q2 := q1.set (i := 1) g1 (by decide) (by decide) (Value.slice Ao k co)
    have g2 : Bk ((wr.setCell ⟨w.heap.size + 1, 0, none⟩ (Value.int .i64 m)).setCell ⟨w.heap.size + 1, 1, none⟩ (Value.slice Ao k co)) (w.heap.size + 1) _ := Bk.set3 (i := 1) g1
    have q3 := q2.set (i := 2) g2 (by decide) (by decide) (Value.bool o)
    exact q3.lower (by omega)⟩
   have HC : Hid (cons Lo = cons L) := Lib.hid (by rw [HCO.out, ht])
   clear GO GR HB hb ht
   go_wp2
   refine bodyPost_ret (v := .agg #[.int .i64 m, .slice Ao k co, .bool o]) (by simp [results, Tryz.results46, go_sem, r0, r1, r2]) rfl ⟨Ao, co, Lo, rfl, HC.out, HF.out.2, HF.out.1⟩
  | succ gf =>
   have hkl : k < L.length := by rw [HN.out]; omega
   have lt0 : (k : Int) < (n : Int) := by omega
   have hw1 : (k : Int) + 1 ≤ 10000 := by omega
   have HAR := Lib.hid (Arr.step HL.out HB.out)
   obtain ⟨b, off, hA, _, e0, e1, e2, e3, e4, e5, e6, e7, e8⟩ := ard_at HAR.out.1 hkl
   have HCT : Hid (cons (L.take (k + 1)) = cons (L.take k) ++ [con (ag L k)]) := Lib.hid (cons_take1 hkl)
   have hmem := ag_mem hkl
   have HBT : Hid (∀ V, Below w.heap.size w V → Bt V (ag L k).A (ag L k).l) := Lib.hid (fun V hV => (Arr.step HL.out hV).2 _ hmem)
   have hm1 := HS.out _ hmem
   obtain ⟨y, hy⟩ : ∃ y, (ag L k).h = y := ⟨_, rfl⟩
   obtain ⟨B, hB⟩ : ∃ B, (ag L k).l = B := ⟨_, rfl⟩
   have hcon : con (ag L k) = (y, B) := by rw [con, hy, hB]
   rw [hcon] at HCT
   rw [hy] at e0 e1 e2 e3 e4 e5 e6 e7
   rw [hB] at e8 HBT hm1
   obtain ⟨mB, hmB⟩ : ∃ mB, B.length = mB := ⟨_, rfl⟩
   rw [hmB] at e8 hm1
   generalize (ag L k).A = Ab at *
   generalize (ag L k).c = d at *
   have HMB := Lib.hid hmB
   subst hA
   clear hkl hmem hy hB hcon hmB HAR
   obtain ⟨W1, hW1⟩ : ∃ V, wr.alloc (.cells #[Value.int .i64 y.a, .int .i64 y.o, .int .i64 y.t, .int .u32 y.i, .int .u32 y.v, .int .u32 y.q, .int .i64 y.s, .int .i64 y.n, .slice Ab mB d] 40) = V := ⟨_, rfl⟩
   have u1 : Below wr.heap.size wr W1 := by rw [← hW1]; exact below_alloc1 _ _
   have sW1 : W1.heap.size = wr.heap.size + 1 := by rw [← hW1]; simp
   have KV : Hid (∀ V, Below W1.heap.size W1 V → V.cell? ⟨wr.heap.size, 0, none⟩ = some (.int .i64 y.a) ∧ V.cell? ⟨wr.heap.size, 1, none⟩ = some (.int .i64 y.o) ∧ V.cell? ⟨wr.heap.size, 2, none⟩ = some (.int .i64 y.t) ∧ V.cell? ⟨wr.heap.size, 3, none⟩ = some (.int .u32 y.i) ∧ V.cell? ⟨wr.heap.size, 4, none⟩ = some (.int .u32 y.v) ∧ V.cell? ⟨wr.heap.size, 5, none⟩ = some (.int .u32 y.q) ∧ V.cell? ⟨wr.heap.size, 6, none⟩ = some (.int .i64 y.s) ∧ V.cell? ⟨wr.heap.size, 7, none⟩ = some (.int .i64 y.n) ∧ V.cell? ⟨wr.heap.size, 8, none⟩ = some (.slice Ab mB d)) := Lib.hid (fun V hV => kb9_new hW1 hV)
   have tt : Below W1.heap.size W1 W1 := Below.refl _ _
   have go0 := GO.step u1
   have HRB := Lib.hid (hb.trans (u1.mono hb.size))
   have U1 := Lib.hid u1
   have HKO := Lib.hid GO.lt
   have HKR := Lib.hid GR
   have HKOX := Lib.hid go0
   clear GO GR hb u1
   go_upto_region 5 with fail
   try rw [hW1]
   clear e0 e1 e2 e3 e4 e5 e6 e7 e8 hW1
   refine wp_region_held_drew (S := fun V => V.cell? ⟨wr.heap.size, 0, none⟩ = some (.int .i64 y.a) ∧ V.cell? ⟨wr.heap.size, 1, none⟩ = some (.int .i64 y.o) ∧ V.cell? ⟨wr.heap.size, 2, none⟩ = some (.int .i64 y.t) ∧ V.cell? ⟨wr.heap.size, 3, none⟩ = some (.int .u32 y.i) ∧ V.cell? ⟨wr.heap.size, 4, none⟩ = some (.int .u32 y.v) ∧ V.cell? ⟨wr.heap.size, 5, none⟩ = some (.int .u32 y.q) ∧ V.cell? ⟨wr.heap.size, 6, none⟩ = some (.int .i64 y.s) ∧ V.cell? ⟨wr.heap.size, 7, none⟩ = some (.int .i64 y.n) ∧ V.cell? ⟨wr.heap.size, 8, none⟩ = some (.slice Ab mB d)) (by kernel_rfl) (KV.out _ tt.drew) (fun hHeld => ?_)
   replace go0 := go0.step tt.drew
   replace tt : Below W1.heap.size W1 W1.drew := tt.drew
   generalize hX0 : W1.drew = Y0 at tt go0 hHeld ⊢
   clear hX0
   refine wpAnyH_take (i := 0) (v := ?_) rfl (by kernel_rfl) (by kernel_rfl) (by kernel_rfl) (fun _ _ _ h => h) (Or.inl ⟨by rfl, ?_⟩) (by assumption) ?_
   rotate_left
   ·(intro w' hSw; (try dsimp only at hSw); go_simp; try with_reducible rfl)
   simp only [Act.put, getElem_toArray, getElem_cons_zero, setIfInBounds_toArray, set_cons_zero, set_cons_succ]
   refine wpAnyH_take (i := 2) (v := ?_) rfl (by kernel_rfl) (by kernel_rfl) (by kernel_rfl) (fun _ _ _ h => h) (Or.inl ⟨by rfl, ?_⟩) (by assumption) ?_
   rotate_left
   ·(intro w' hSw; (try dsimp only at hSw); go_simp; try with_reducible rfl)
   simp only [Act.put, getElem_toArray, getElem_cons_zero, getElem_cons_succ, setIfInBounds_toArray, set_cons_zero, set_cons_succ]
   refine wpAnyH_ready (rs := [1, 3]) (by kernel_rfl) (by simp) ?_
   refine AllReadyH.cons rfl (fun K hK => ?_) ?_
   ·obtain ⟨j0, j1, j2, q0, q1, q2, hjl⟩ := kz3_at go0
    go_simp
    clear j0 j1 j2 q0 q1 q2 hjl
    refine hK.out _ _ (KV.out _ tt) (fun _ => ?_)
    clear hK K
    refine wpAnyH_ready (rs := [3]) (by kernel_rfl) (by simp) ?_
    refine AllReadyH.cons rfl (fun K hK => ?_) AllReadyH.nil
    go_simp
    go_at_call 42
    refine (fad_any y Ab mB d B Y0 HMB.out (HBT.out _ (HRB.out.trans (tt.mono HRB.out.size))) (by omega)).mono ?_
    rintro e Y1 ⟨A4, c4, rfl, o4, u1⟩
    have t_Y1 : Below W1.heap.size W1 Y1 := tt.trans (u1.mono tt.size)
    replace go0 := go0.step u1
    have o4' := Lib.hid o4
    clear o4
    refine hK.out _ _ (KV.out _ t_Y1) (fun _ => ?_)
    clear hK K
    refine wpAnyH_ready (rs := [4]) (by kernel_rfl) (by simp) ?_
    refine AllReadyH.cons rfl (fun K hK => ?_) AllReadyH.nil
    go_simp
    obtain ⟨Y2, hY2⟩ : ∃ V, Y1.alloc (.cells #[Value.int .i64 y.a, .int .i64 y.o, .int .i64 y.t, .int .u32 y.i, .int .u32 y.v, .int .u32 y.q, .int .i64 y.s, .int .i64 y.n, .slice A4 mB c4] 40) = V := ⟨_, rfl⟩
    have u2 : Below Y1.heap.size Y1 Y2 := by rw [← hY2]; exact below_alloc1 _ _
    have t_Y2 : Below W1.heap.size W1 Y2 := t_Y1.trans (u2.mono t_Y1.size)
    replace go0 := go0.step u2
    obtain ⟨k2, hk2⟩ : ∃ k, Y1.heap.size = k := ⟨_, rfl⟩
    try rw [hY2]
    try rw [hk2]
    refine hK.out _ _ (KV.out _ t_Y2) (fun _ => ?_)
    clear hK K
    refine wpAnyH_ready (rs := [5]) (by kernel_rfl) (by simp) ?_
    refine AllReadyH.cons rfl (fun K hK => ?_) AllReadyH.nil
    have bx4 : Bu Y1 ⟨y, A4, c4, B⟩ := Bu.of_own (x := ⟨y, A4, c4, B⟩) o4'.out
    have ar4 := HRO.out.step (U1.out.trans (t_Y1.mono U1.out.size))
    obtain ⟨g9, c9, Z9, r9, ro9, bl9, kp9⟩ := aro_app ar4 HLO.out ⟨y, A4, c4, B⟩ bx4 (by omega) k2 hk2 (by have h1 := HKO.out; have h2 := U1.out.size; have h3 := t_Y1.size; omega)
    rw [show (acs ⟨y, A4, c4, B⟩).toArray = #[Value.int .i64 y.a, .int .i64 y.o, .int .i64 y.t, .int .u32 y.i, .int .u32 y.v, .int .u32 y.q, .int .i64 y.s, .int .i64 y.n, .slice A4 mB c4] from by simp [acs, HMB.out], hY2] at r9
    have T9 : Hid (Below w.heap.size w Z9) := Lib.hid ((HRB.out.trans (t_Y1.mono HRB.out.size)).trans (kp9.below (fun j hj => by have h1 := ar4.row.at hj; show w.heap.size ≤ j; have h2 : w.heap.size + 3 ≤ j := h1; omega) (HRB.out.trans (t_Y1.mono HRB.out.size)).size))
    have GO9 : Hid (Bk Z9 (w.heap.size + 2) (.cells #[.int .i64 m, .slice Ao k co, .bool o] 28)) := Lib.hid ((kp9.block _ (by have h1 := HKO.out; have h2 := U1.out.size; have h3 := t_Y1.size; omega) (fun hj => by have h1 : w.heap.size + 3 ≤ w.heap.size + 2 := ar4.row.at hj; omega)).trans ((HKOX.out.step t_Y1)))
    have GR9 : Hid (Bk Z9 (w.heap.size + 1) (.cells #[Value.int .i64 0, .slice none 0 0, .bool false] 28)) := Lib.hid ((kp9.block _ (by have h1 := HKO.out; have h2 := U1.out.size; have h3 := t_Y1.size; omega) (fun hj => by have h1 : w.heap.size + 3 ≤ w.heap.size + 1 := ar4.row.at hj; omega)).trans ((HKR.out.step U1.out).step t_Y1))
    have HR9 := Lib.hid ro9
    have KF : Hid (Z9.cell? ⟨wr.heap.size, 0, none⟩ = some (.int .i64 y.a) ∧ Z9.cell? ⟨wr.heap.size, 1, none⟩ = some (.int .i64 y.o) ∧ Z9.cell? ⟨wr.heap.size, 2, none⟩ = some (.int .i64 y.t) ∧ Z9.cell? ⟨wr.heap.size, 3, none⟩ = some (.int .u32 y.i) ∧ Z9.cell? ⟨wr.heap.size, 4, none⟩ = some (.int .u32 y.v) ∧ Z9.cell? ⟨wr.heap.size, 5, none⟩ = some (.int .u32 y.q) ∧ Z9.cell? ⟨wr.heap.size, 6, none⟩ = some (.int .i64 y.s) ∧ Z9.cell? ⟨wr.heap.size, 7, none⟩ = some (.int .i64 y.n) ∧ Z9.cell? ⟨wr.heap.size, 8, none⟩ = some (.slice Ab mB d)) := Lib.hid <| by
     have hk : Z9.heap[wr.heap.size]? = Y1.heap[wr.heap.size]? := kp9.block _ (by have h3 := t_Y1.size; omega) (fun hj => by obtain ⟨cur, mm, hq⟩ := HRO.out.row.typed hj; have := lt_of_block hq; omega)
     obtain ⟨z0, z1, z2, z3, z4, z5, z6, z7, z8⟩ := KV.out _ t_Y1
     exact ⟨(World.cell?_of_block hk).trans z0, (World.cell?_of_block hk).trans z1, (World.cell?_of_block hk).trans z2, (World.cell?_of_block hk).trans z3, (World.cell?_of_block hk).trans z4, (World.cell?_of_block hk).trans z5, (World.cell?_of_block hk).trans z6, (World.cell?_of_block hk).trans z7, (World.cell?_of_block hk).trans z8⟩
    clear bx4 ar4 bl9 kp9 ro9
    refine step_runb _ rfl (.tmp 19) (.tmp 22) 26 rfl rfl rfl r9 ?_
    refine hK.out _ _ KF.out (fun _ => ?_)
    clear hK K
    refine wpAnyH_take (i := 6) (v := ?_) rfl (by kernel_rfl) (by kernel_rfl) (by kernel_rfl) (fun _ _ _ h => h) (Or.inl ⟨by rfl, ?_⟩) (by assumption) ?_
    rotate_left
    ·(intro w' hSw; (try dsimp only at hSw); go_simp; try with_reducible rfl)
    simp only [Act.put, getElem_toArray, getElem_cons_zero, getElem_cons_succ, setIfInBounds_toArray, set_cons_zero, set_cons_succ]
    refine wpAnyH_ready (rs := [7]) (by kernel_rfl) (by simp) ?_
    refine AllReadyH.cons rfl (fun K hK => ?_) AllReadyH.nil
    obtain ⟨y0, y1, y2, f0, f1, f2, hzl⟩ := kz3_at GO9.out
    go_simp
    have HZ : Hid (FJ w L m o (k + 1) (some ⟨g9, 0, none⟩) c9 (Z9.setCell ⟨w.heap.size + 2, 1, none⟩ (.slice (some ⟨g9, 0, none⟩) (k + 1) c9))) := Lib.hid ⟨by have q := Bk.set3 (i := 1) (v := .slice (some ⟨g9, 0, none⟩) (k + 1) c9) GO9.out; exact q, (Below.heap_setCell _ _ _ _ (by show w.heap.size + 1 ≠ w.heap.size + 2; omega)).trans GR9.out, ⟨Lo ++ [⟨y, A4, c4, B⟩], by rw [List.length_append, HLO.out]; rfl, by rw [cons_snoc, HCO.out, HCT.out]; rfl, HR9.out.set GO9.out (by decide) (by decide) _⟩, T9.out.setCell (p := ⟨w.heap.size + 2, 1, none⟩) (by show w.heap.size ≤ w.heap.size + 2; omega) _⟩
    have KG : Hid ((Z9.setCell ⟨w.heap.size + 2, 1, none⟩ (.slice (some ⟨g9, 0, none⟩) (k + 1) c9)).cell? ⟨wr.heap.size, 0, none⟩ = some (.int .i64 y.a) ∧ (Z9.setCell ⟨w.heap.size + 2, 1, none⟩ (.slice (some ⟨g9, 0, none⟩) (k + 1) c9)).cell? ⟨wr.heap.size, 1, none⟩ = some (.int .i64 y.o) ∧ (Z9.setCell ⟨w.heap.size + 2, 1, none⟩ (.slice (some ⟨g9, 0, none⟩) (k + 1) c9)).cell? ⟨wr.heap.size, 2, none⟩ = some (.int .i64 y.t) ∧ (Z9.setCell ⟨w.heap.size + 2, 1, none⟩ (.slice (some ⟨g9, 0, none⟩) (k + 1) c9)).cell? ⟨wr.heap.size, 3, none⟩ = some (.int .u32 y.i) ∧ (Z9.setCell ⟨w.heap.size + 2, 1, none⟩ (.slice (some ⟨g9, 0, none⟩) (k + 1) c9)).cell? ⟨wr.heap.size, 4, none⟩ = some (.int .u32 y.v) ∧ (Z9.setCell ⟨w.heap.size + 2, 1, none⟩ (.slice (some ⟨g9, 0, none⟩) (k + 1) c9)).cell? ⟨wr.heap.size, 5, none⟩ = some (.int .u32 y.q) ∧ (Z9.setCell ⟨w.heap.size + 2, 1, none⟩ (.slice (some ⟨g9, 0, none⟩) (k + 1) c9)).cell? ⟨wr.heap.size, 6, none⟩ = some (.int .i64 y.s) ∧ (Z9.setCell ⟨w.heap.size + 2, 1, none⟩ (.slice (some ⟨g9, 0, none⟩) (k + 1) c9)).cell? ⟨wr.heap.size, 7, none⟩ = some (.int .i64 y.n) ∧ (Z9.setCell ⟨w.heap.size + 2, 1, none⟩ (.slice (some ⟨g9, 0, none⟩) (k + 1) c9)).cell? ⟨wr.heap.size, 8, none⟩ = some (.slice Ab mB d)) := Lib.hid <| by
     obtain ⟨z0, z1, z2, z3, z4, z5, z6, z7, z8⟩ := KF.out
     have hne : wr.heap.size ≠ w.heap.size + 2 := by have := HKO.out; omega
     exact ⟨(World.cell?_setCell_other _ _ _ _ (by first | (simp; done) | (simp; omega))).trans z0, (World.cell?_setCell_other _ _ _ _ (by first | (simp; done) | (simp; omega))).trans z1, (World.cell?_setCell_other _ _ _ _ (by first | (simp; done) | (simp; omega))).trans z2, (World.cell?_setCell_other _ _ _ _ (by first | (simp; done) | (simp; omega))).trans z3, (World.cell?_setCell_other _ _ _ _ (by first | (simp; done) | (simp; omega))).trans z4, (World.cell?_setCell_other _ _ _ _ (by first | (simp; done) | (simp; omega))).trans z5, (World.cell?_setCell_other _ _ _ _ (by first | (simp; done) | (simp; omega))).trans z6, (World.cell?_setCell_other _ _ _ _ (by first | (simp; done) | (simp; omega))).trans z7, (World.cell?_setCell_other _ _ _ _ (by first | (simp; done) | (simp; omega))).trans z8⟩
    refine hK.out _ _ KG.out (fun _ => ?_)
    clear hK K
    refine wpAnyH_done (by kernel_rfl) ?_ _
    go_wp2
    go_roundg gf
    case measure => omega
    case rel => exact ⟨k + 1, _, _, by go_num, Lib.hid (by omega), HZ⟩
   refine AllReadyH.cons rfl (fun K hK => ?_) AllReadyH.nil
   go_simp
   go_at_call 42
   refine (fad_any y Ab mB d B Y0 HMB.out (HBT.out _ (HRB.out.trans (tt.mono HRB.out.size))) (by omega)).mono ?_
   rintro e Y1 ⟨A4, c4, rfl, o4, u1⟩
   have t_Y1 : Below W1.heap.size W1 Y1 := tt.trans (u1.mono tt.size)
   replace go0 := go0.step u1
   have o4' := Lib.hid o4
   clear o4
   refine hK.out _ _ (KV.out _ t_Y1) (fun _ => ?_)
   clear hK K
   refine wpAnyH_ready (rs := [1, 4]) (by kernel_rfl) (by simp) ?_
   refine AllReadyH.cons rfl (fun K hK => ?_) ?_
   ·obtain ⟨j0, j1, j2, q0, q1, q2, hjl⟩ := kz3_at go0
    go_simp
    clear j0 j1 j2 q0 q1 q2 hjl
    refine hK.out _ _ (KV.out _ t_Y1) (fun _ => ?_)
    clear hK K
    refine wpAnyH_ready (rs := [4]) (by kernel_rfl) (by simp) ?_
    refine AllReadyH.cons rfl (fun K hK => ?_) AllReadyH.nil
    go_simp
    obtain ⟨Y2, hY2⟩ : ∃ V, Y1.alloc (.cells #[Value.int .i64 y.a, .int .i64 y.o, .int .i64 y.t, .int .u32 y.i, .int .u32 y.v, .int .u32 y.q, .int .i64 y.s, .int .i64 y.n, .slice A4 mB c4] 40) = V := ⟨_, rfl⟩
    have u2 : Below Y1.heap.size Y1 Y2 := by rw [← hY2]; exact below_alloc1 _ _
    have t_Y2 : Below W1.heap.size W1 Y2 := t_Y1.trans (u2.mono t_Y1.size)
    replace go0 := go0.step u2
    obtain ⟨k2, hk2⟩ : ∃ k, Y1.heap.size = k := ⟨_, rfl⟩
    try rw [hY2]
    try rw [hk2]
    refine hK.out _ _ (KV.out _ t_Y2) (fun _ => ?_)
    clear hK K
    refine wpAnyH_ready (rs := [5]) (by kernel_rfl) (by simp) ?_
    refine AllReadyH.cons rfl (fun K hK => ?_) AllReadyH.nil
    have bx4 : Bu Y1 ⟨y, A4, c4, B⟩ := Bu.of_own (x := ⟨y, A4, c4, B⟩) o4'.out
    have ar4 := HRO.out.step (U1.out.trans (t_Y1.mono U1.out.size))
    obtain ⟨g9, c9, Z9, r9, ro9, bl9, kp9⟩ := aro_app ar4 HLO.out ⟨y, A4, c4, B⟩ bx4 (by omega) k2 hk2 (by have h1 := HKO.out; have h2 := U1.out.size; have h3 := t_Y1.size; omega)
    rw [show (acs ⟨y, A4, c4, B⟩).toArray = #[Value.int .i64 y.a, .int .i64 y.o, .int .i64 y.t, .int .u32 y.i, .int .u32 y.v, .int .u32 y.q, .int .i64 y.s, .int .i64 y.n, .slice A4 mB c4] from by simp [acs, HMB.out], hY2] at r9
    have T9 : Hid (Below w.heap.size w Z9) := Lib.hid ((HRB.out.trans (t_Y1.mono HRB.out.size)).trans (kp9.below (fun j hj => by have h1 := ar4.row.at hj; show w.heap.size ≤ j; have h2 : w.heap.size + 3 ≤ j := h1; omega) (HRB.out.trans (t_Y1.mono HRB.out.size)).size))
    have GO9 : Hid (Bk Z9 (w.heap.size + 2) (.cells #[.int .i64 m, .slice Ao k co, .bool o] 28)) := Lib.hid ((kp9.block _ (by have h1 := HKO.out; have h2 := U1.out.size; have h3 := t_Y1.size; omega) (fun hj => by have h1 : w.heap.size + 3 ≤ w.heap.size + 2 := ar4.row.at hj; omega)).trans ((HKOX.out.step t_Y1)))
    have GR9 : Hid (Bk Z9 (w.heap.size + 1) (.cells #[Value.int .i64 0, .slice none 0 0, .bool false] 28)) := Lib.hid ((kp9.block _ (by have h1 := HKO.out; have h2 := U1.out.size; have h3 := t_Y1.size; omega) (fun hj => by have h1 : w.heap.size + 3 ≤ w.heap.size + 1 := ar4.row.at hj; omega)).trans ((HKR.out.step U1.out).step t_Y1))
    have HR9 := Lib.hid ro9
    have KF : Hid (Z9.cell? ⟨wr.heap.size, 0, none⟩ = some (.int .i64 y.a) ∧ Z9.cell? ⟨wr.heap.size, 1, none⟩ = some (.int .i64 y.o) ∧ Z9.cell? ⟨wr.heap.size, 2, none⟩ = some (.int .i64 y.t) ∧ Z9.cell? ⟨wr.heap.size, 3, none⟩ = some (.int .u32 y.i) ∧ Z9.cell? ⟨wr.heap.size, 4, none⟩ = some (.int .u32 y.v) ∧ Z9.cell? ⟨wr.heap.size, 5, none⟩ = some (.int .u32 y.q) ∧ Z9.cell? ⟨wr.heap.size, 6, none⟩ = some (.int .i64 y.s) ∧ Z9.cell? ⟨wr.heap.size, 7, none⟩ = some (.int .i64 y.n) ∧ Z9.cell? ⟨wr.heap.size, 8, none⟩ = some (.slice Ab mB d)) := Lib.hid <| by
     have hk : Z9.heap[wr.heap.size]? = Y1.heap[wr.heap.size]? := kp9.block _ (by have h3 := t_Y1.size; omega) (fun hj => by obtain ⟨cur, mm, hq⟩ := HRO.out.row.typed hj; have := lt_of_block hq; omega)
     obtain ⟨z0, z1, z2, z3, z4, z5, z6, z7, z8⟩ := KV.out _ t_Y1
     exact ⟨(World.cell?_of_block hk).trans z0, (World.cell?_of_block hk).trans z1, (World.cell?_of_block hk).trans z2, (World.cell?_of_block hk).trans z3, (World.cell?_of_block hk).trans z4, (World.cell?_of_block hk).trans z5, (World.cell?_of_block hk).trans z6, (World.cell?_of_block hk).trans z7, (World.cell?_of_block hk).trans z8⟩
    clear bx4 ar4 bl9 kp9 ro9
    refine step_runb _ rfl (.tmp 19) (.tmp 22) 26 rfl rfl rfl r9 ?_
    refine hK.out _ _ KF.out (fun _ => ?_)
    clear hK K
    refine wpAnyH_take (i := 6) (v := ?_) rfl (by kernel_rfl) (by kernel_rfl) (by kernel_rfl) (fun _ _ _ h => h) (Or.inl ⟨by rfl, ?_⟩) (by assumption) ?_
    rotate_left
    ·(intro w' hSw; (try dsimp only at hSw); go_simp; try with_reducible rfl)
    simp only [Act.put, getElem_toArray, getElem_cons_zero, getElem_cons_succ, setIfInBounds_toArray, set_cons_zero, set_cons_succ]
    refine wpAnyH_ready (rs := [7]) (by kernel_rfl) (by simp) ?_
    refine AllReadyH.cons rfl (fun K hK => ?_) AllReadyH.nil
    obtain ⟨y0, y1, y2, f0, f1, f2, hzl⟩ := kz3_at GO9.out
    go_simp
    have HZ : Hid (FJ w L m o (k + 1) (some ⟨g9, 0, none⟩) c9 (Z9.setCell ⟨w.heap.size + 2, 1, none⟩ (.slice (some ⟨g9, 0, none⟩) (k + 1) c9))) := Lib.hid ⟨by have q := Bk.set3 (i := 1) (v := .slice (some ⟨g9, 0, none⟩) (k + 1) c9) GO9.out; exact q, (Below.heap_setCell _ _ _ _ (by show w.heap.size + 1 ≠ w.heap.size + 2; omega)).trans GR9.out, ⟨Lo ++ [⟨y, A4, c4, B⟩], by rw [List.length_append, HLO.out]; rfl, by rw [cons_snoc, HCO.out, HCT.out]; rfl, HR9.out.set GO9.out (by decide) (by decide) _⟩, T9.out.setCell (p := ⟨w.heap.size + 2, 1, none⟩) (by show w.heap.size ≤ w.heap.size + 2; omega) _⟩
    have KG : Hid ((Z9.setCell ⟨w.heap.size + 2, 1, none⟩ (.slice (some ⟨g9, 0, none⟩) (k + 1) c9)).cell? ⟨wr.heap.size, 0, none⟩ = some (.int .i64 y.a) ∧ (Z9.setCell ⟨w.heap.size + 2, 1, none⟩ (.slice (some ⟨g9, 0, none⟩) (k + 1) c9)).cell? ⟨wr.heap.size, 1, none⟩ = some (.int .i64 y.o) ∧ (Z9.setCell ⟨w.heap.size + 2, 1, none⟩ (.slice (some ⟨g9, 0, none⟩) (k + 1) c9)).cell? ⟨wr.heap.size, 2, none⟩ = some (.int .i64 y.t) ∧ (Z9.setCell ⟨w.heap.size + 2, 1, none⟩ (.slice (some ⟨g9, 0, none⟩) (k + 1) c9)).cell? ⟨wr.heap.size, 3, none⟩ = some (.int .u32 y.i) ∧ (Z9.setCell ⟨w.heap.size + 2, 1, none⟩ (.slice (some ⟨g9, 0, none⟩) (k + 1) c9)).cell? ⟨wr.heap.size, 4, none⟩ = some (.int .u32 y.v) ∧ (Z9.setCell ⟨w.heap.size + 2, 1, none⟩ (.slice (some ⟨g9, 0, none⟩) (k + 1) c9)).cell? ⟨wr.heap.size, 5, none⟩ = some (.int .u32 y.q) ∧ (Z9.setCell ⟨w.heap.size + 2, 1, none⟩ (.slice (some ⟨g9, 0, none⟩) (k + 1) c9)).cell? ⟨wr.heap.size, 6, none⟩ = some (.int .i64 y.s) ∧ (Z9.setCell ⟨w.heap.size + 2, 1, none⟩ (.slice (some ⟨g9, 0, none⟩) (k + 1) c9)).cell? ⟨wr.heap.size, 7, none⟩ = some (.int .i64 y.n) ∧ (Z9.setCell ⟨w.heap.size + 2, 1, none⟩ (.slice (some ⟨g9, 0, none⟩) (k + 1) c9)).cell? ⟨wr.heap.size, 8, none⟩ = some (.slice Ab mB d)) := Lib.hid <| by
     obtain ⟨z0, z1, z2, z3, z4, z5, z6, z7, z8⟩ := KF.out
     have hne : wr.heap.size ≠ w.heap.size + 2 := by have := HKO.out; omega
     exact ⟨(World.cell?_setCell_other _ _ _ _ (by first | (simp; done) | (simp; omega))).trans z0, (World.cell?_setCell_other _ _ _ _ (by first | (simp; done) | (simp; omega))).trans z1, (World.cell?_setCell_other _ _ _ _ (by first | (simp; done) | (simp; omega))).trans z2, (World.cell?_setCell_other _ _ _ _ (by first | (simp; done) | (simp; omega))).trans z3, (World.cell?_setCell_other _ _ _ _ (by first | (simp; done) | (simp; omega))).trans z4, (World.cell?_setCell_other _ _ _ _ (by first | (simp; done) | (simp; omega))).trans z5, (World.cell?_setCell_other _ _ _ _ (by first | (simp; done) | (simp; omega))).trans z6, (World.cell?_setCell_other _ _ _ _ (by first | (simp; done) | (simp; omega))).trans z7, (World.cell?_setCell_other _ _ _ _ (by first | (simp; done) | (simp; omega))).trans z8⟩
    refine hK.out _ _ KG.out (fun _ => ?_)
    clear hK K
    refine wpAnyH_done (by kernel_rfl) ?_ _
    go_wp2
    go_roundg gf
    case measure => omega
    case rel => exact ⟨k + 1, _, _, by go_num, Lib.hid (by omega), HZ⟩
   refine AllReadyH.cons rfl (fun K hK => ?_) AllReadyH.nil
   go_simp
   obtain ⟨Y2, hY2⟩ : ∃ V, Y1.alloc (.cells #[Value.int .i64 y.a, .int .i64 y.o, .int .i64 y.t, .int .u32 y.i, .int .u32 y.v, .int .u32 y.q, .int .i64 y.s, .int .i64 y.n, .slice A4 mB c4] 40) = V := ⟨_, rfl⟩
   have u2 : Below Y1.heap.size Y1 Y2 := by rw [← hY2]; exact below_alloc1 _ _
   have t_Y2 : Below W1.heap.size W1 Y2 := t_Y1.trans (u2.mono t_Y1.size)
   replace go0 := go0.step u2
   obtain ⟨k2, hk2⟩ : ∃ k, Y1.heap.size = k := ⟨_, rfl⟩
   try rw [hY2]
   try rw [hk2]
   refine hK.out _ _ (KV.out _ t_Y2) (fun _ => ?_)
   clear hK K
   refine wpAnyH_ready (rs := [1]) (by kernel_rfl) (by simp) ?_
   refine AllReadyH.cons rfl (fun K hK => ?_) AllReadyH.nil
   obtain ⟨j0, j1, j2, q0, q1, q2, hjl⟩ := kz3_at go0
   go_simp
   clear j0 j1 j2 q0 q1 q2 hjl
   refine hK.out _ _ (KV.out _ t_Y2) (fun _ => ?_)
   clear hK K
   refine wpAnyH_ready (rs := [5]) (by kernel_rfl) (by simp) ?_
   refine AllReadyH.cons rfl (fun K hK => ?_) AllReadyH.nil
   have bx4 : Bu Y1 ⟨y, A4, c4, B⟩ := Bu.of_own (x := ⟨y, A4, c4, B⟩) o4'.out
   have ar4 := HRO.out.step (U1.out.trans (t_Y1.mono U1.out.size))
   obtain ⟨g9, c9, Z9, r9, ro9, bl9, kp9⟩ := aro_app ar4 HLO.out ⟨y, A4, c4, B⟩ bx4 (by omega) k2 hk2 (by have h1 := HKO.out; have h2 := U1.out.size; have h3 := t_Y1.size; omega)
   rw [show (acs ⟨y, A4, c4, B⟩).toArray = #[Value.int .i64 y.a, .int .i64 y.o, .int .i64 y.t, .int .u32 y.i, .int .u32 y.v, .int .u32 y.q, .int .i64 y.s, .int .i64 y.n, .slice A4 mB c4] from by simp [acs, HMB.out], hY2] at r9
   have T9 : Hid (Below w.heap.size w Z9) := Lib.hid ((HRB.out.trans (t_Y1.mono HRB.out.size)).trans (kp9.below (fun j hj => by have h1 := ar4.row.at hj; show w.heap.size ≤ j; have h2 : w.heap.size + 3 ≤ j := h1; omega) (HRB.out.trans (t_Y1.mono HRB.out.size)).size))
   have GO9 : Hid (Bk Z9 (w.heap.size + 2) (.cells #[.int .i64 m, .slice Ao k co, .bool o] 28)) := Lib.hid ((kp9.block _ (by have h1 := HKO.out; have h2 := U1.out.size; have h3 := t_Y1.size; omega) (fun hj => by have h1 : w.heap.size + 3 ≤ w.heap.size + 2 := ar4.row.at hj; omega)).trans ((HKOX.out.step t_Y1)))
   have GR9 : Hid (Bk Z9 (w.heap.size + 1) (.cells #[Value.int .i64 0, .slice none 0 0, .bool false] 28)) := Lib.hid ((kp9.block _ (by have h1 := HKO.out; have h2 := U1.out.size; have h3 := t_Y1.size; omega) (fun hj => by have h1 : w.heap.size + 3 ≤ w.heap.size + 1 := ar4.row.at hj; omega)).trans ((HKR.out.step U1.out).step t_Y1))
   have HR9 := Lib.hid ro9
   have KF : Hid (Z9.cell? ⟨wr.heap.size, 0, none⟩ = some (.int .i64 y.a) ∧ Z9.cell? ⟨wr.heap.size, 1, none⟩ = some (.int .i64 y.o) ∧ Z9.cell? ⟨wr.heap.size, 2, none⟩ = some (.int .i64 y.t) ∧ Z9.cell? ⟨wr.heap.size, 3, none⟩ = some (.int .u32 y.i) ∧ Z9.cell? ⟨wr.heap.size, 4, none⟩ = some (.int .u32 y.v) ∧ Z9.cell? ⟨wr.heap.size, 5, none⟩ = some (.int .u32 y.q) ∧ Z9.cell? ⟨wr.heap.size, 6, none⟩ = some (.int .i64 y.s) ∧ Z9.cell? ⟨wr.heap.size, 7, none⟩ = some (.int .i64 y.n) ∧ Z9.cell? ⟨wr.heap.size, 8, none⟩ = some (.slice Ab mB d)) := Lib.hid <| by
    have hk : Z9.heap[wr.heap.size]? = Y1.heap[wr.heap.size]? := kp9.block _ (by have h3 := t_Y1.size; omega) (fun hj => by obtain ⟨cur, mm, hq⟩ := HRO.out.row.typed hj; have := lt_of_block hq; omega)
    obtain ⟨z0, z1, z2, z3, z4, z5, z6, z7, z8⟩ := KV.out _ t_Y1
    exact ⟨(World.cell?_of_block hk).trans z0, (World.cell?_of_block hk).trans z1, (World.cell?_of_block hk).trans z2, (World.cell?_of_block hk).trans z3, (World.cell?_of_block hk).trans z4, (World.cell?_of_block hk).trans z5, (World.cell?_of_block hk).trans z6, (World.cell?_of_block hk).trans z7, (World.cell?_of_block hk).trans z8⟩
   clear bx4 ar4 bl9 kp9 ro9
   refine step_runb _ rfl (.tmp 19) (.tmp 22) 26 rfl rfl rfl r9 ?_
   refine hK.out _ _ KF.out (fun _ => ?_)
   clear hK K
   refine wpAnyH_take (i := 6) (v := ?_) rfl (by kernel_rfl) (by kernel_rfl) (by kernel_rfl) (fun _ _ _ h => h) (Or.inl ⟨by rfl, ?_⟩) (by assumption) ?_
   rotate_left
   ·(intro w' hSw; (try dsimp only at hSw); go_simp; try with_reducible rfl)
   simp only [Act.put, getElem_toArray, getElem_cons_zero, getElem_cons_succ, setIfInBounds_toArray, set_cons_zero, set_cons_succ]
   refine wpAnyH_ready (rs := [7]) (by kernel_rfl) (by simp) ?_
   refine AllReadyH.cons rfl (fun K hK => ?_) AllReadyH.nil
   obtain ⟨y0, y1, y2, f0, f1, f2, hzl⟩ := kz3_at GO9.out
   go_simp
   have HZ : Hid (FJ w L m o (k + 1) (some ⟨g9, 0, none⟩) c9 (Z9.setCell ⟨w.heap.size + 2, 1, none⟩ (.slice (some ⟨g9, 0, none⟩) (k + 1) c9))) := Lib.hid ⟨by have q := Bk.set3 (i := 1) (v := .slice (some ⟨g9, 0, none⟩) (k + 1) c9) GO9.out; exact q, (Below.heap_setCell _ _ _ _ (by show w.heap.size + 1 ≠ w.heap.size + 2; omega)).trans GR9.out, ⟨Lo ++ [⟨y, A4, c4, B⟩], by rw [List.length_append, HLO.out]; rfl, by rw [cons_snoc, HCO.out, HCT.out]; rfl, HR9.out.set GO9.out (by decide) (by decide) _⟩, T9.out.setCell (p := ⟨w.heap.size + 2, 1, none⟩) (by show w.heap.size ≤ w.heap.size + 2; omega) _⟩
   have KG : Hid ((Z9.setCell ⟨w.heap.size + 2, 1, none⟩ (.slice (some ⟨g9, 0, none⟩) (k + 1) c9)).cell? ⟨wr.heap.size, 0, none⟩ = some (.int .i64 y.a) ∧ (Z9.setCell ⟨w.heap.size + 2, 1, none⟩ (.slice (some ⟨g9, 0, none⟩) (k + 1) c9)).cell? ⟨wr.heap.size, 1, none⟩ = some (.int .i64 y.o) ∧ (Z9.setCell ⟨w.heap.size + 2, 1, none⟩ (.slice (some ⟨g9, 0, none⟩) (k + 1) c9)).cell? ⟨wr.heap.size, 2, none⟩ = some (.int .i64 y.t) ∧ (Z9.setCell ⟨w.heap.size + 2, 1, none⟩ (.slice (some ⟨g9, 0, none⟩) (k + 1) c9)).cell? ⟨wr.heap.size, 3, none⟩ = some (.int .u32 y.i) ∧ (Z9.setCell ⟨w.heap.size + 2, 1, none⟩ (.slice (some ⟨g9, 0, none⟩) (k + 1) c9)).cell? ⟨wr.heap.size, 4, none⟩ = some (.int .u32 y.v) ∧ (Z9.setCell ⟨w.heap.size + 2, 1, none⟩ (.slice (some ⟨g9, 0, none⟩) (k + 1) c9)).cell? ⟨wr.heap.size, 5, none⟩ = some (.int .u32 y.q) ∧ (Z9.setCell ⟨w.heap.size + 2, 1, none⟩ (.slice (some ⟨g9, 0, none⟩) (k + 1) c9)).cell? ⟨wr.heap.size, 6, none⟩ = some (.int .i64 y.s) ∧ (Z9.setCell ⟨w.heap.size + 2, 1, none⟩ (.slice (some ⟨g9, 0, none⟩) (k + 1) c9)).cell? ⟨wr.heap.size, 7, none⟩ = some (.int .i64 y.n) ∧ (Z9.setCell ⟨w.heap.size + 2, 1, none⟩ (.slice (some ⟨g9, 0, none⟩) (k + 1) c9)).cell? ⟨wr.heap.size, 8, none⟩ = some (.slice Ab mB d)) := Lib.hid <| by
    obtain ⟨z0, z1, z2, z3, z4, z5, z6, z7, z8⟩ := KF.out
    have hne : wr.heap.size ≠ w.heap.size + 2 := by have := HKO.out; omega
    exact ⟨(World.cell?_setCell_other _ _ _ _ (by first | (simp; done) | (simp; omega))).trans z0, (World.cell?_setCell_other _ _ _ _ (by first | (simp; done) | (simp; omega))).trans z1, (World.cell?_setCell_other _ _ _ _ (by first | (simp; done) | (simp; omega))).trans z2, (World.cell?_setCell_other _ _ _ _ (by first | (simp; done) | (simp; omega))).trans z3, (World.cell?_setCell_other _ _ _ _ (by first | (simp; done) | (simp; omega))).trans z4, (World.cell?_setCell_other _ _ _ _ (by first | (simp; done) | (simp; omega))).trans z5, (World.cell?_setCell_other _ _ _ _ (by first | (simp; done) | (simp; omega))).trans z6, (World.cell?_setCell_other _ _ _ _ (by first | (simp; done) | (simp; omega))).trans z7, (World.cell?_setCell_other _ _ _ _ (by first | (simp; done) | (simp; omega))).trans z8⟩
   refine hK.out _ _ KG.out (fun _ => ?_)
   clear hK K
   refine wpAnyH_done (by kernel_rfl) ?_ _
   go_wp2
   go_roundg gf
   case measure => omega
   case rel => exact ⟨k + 1, _, _, by go_num, Lib.hid (by omega), HZ⟩
end Go.Proofs.YtadcicmccdphkaaGreat
