/-
  The contracts of body.readLink and of body.only, at each kind of body. No statement is proved here; no conditions.
-/
import Derived.Test.YtadcicmccdphkaaSp
namespace Go.Proofs.Ytadcicmccdphkaa
open Go.RowKit Go.Joins

def At (w : World) (b : Nat) (o : Obj) : Prop := w.heap[b]? = some o
theorem At.step {w w' : World} {b : Nat} {o : Obj} (h : At w b o) (hb : Below w.heap.size w w') : At w' b o := (hb.block b (lt_of_block h)).trans h
theorem At.lt {w : World} {b : Nat} {o : Obj} (h : At w b o) : b < w.heap.size := lt_of_block h
theorem At.mk {w w' : World} {o : Obj} (h : w.alloc o = w') : At w' w.heap.size o := by subst h; exact alloc_at _ _ _ rfl
theorem bs_sub0 {k : IntKind} {w : World} {B b off : Nat} {l : List Int} (h : Bs k w B (some ⟨b, off, none⟩) l) (j : Nat) : Bs k w B (some ⟨b, off, none⟩) (sub l 0 j) := by
  have := h.sub 0 j
  simpa using this
set_option maxRecDepth 100000 in
set_option maxHeartbeats 4000000 in
theorem readlink_any (A : Option Addr) (n c : Nat) (l : List Int) (w : World) (hn : l.length = n) (hb : Bt w A l) (hy : Byt l) (hc : n ≤ c) (h12 : 12 ≤ n) (hl : n ≤ 10000) :
    Calls Try.prog 59 #[.slice A n c] w fun e w' => e = .returned (lkv (lk0 l)) ∧ Below w.heap.size w w' := by
  obtain ⟨b, off, rfl, hbl, -⟩ := hb (by rintro rfl; simp at hn; omega)
  obtain ⟨W0, hW0⟩ : ∃ V, w.alloc (.cells #[Value.int .i64 0, .int .u32 0, .int .u32 0, .int .i64 0] 106) = V := ⟨_, rfl⟩
  have bW0 : Below w.heap.size w W0 := by rw [← hW0]; exact below_alloc1 _ _
  have sW0 : W0.heap.size = w.heap.size + 1 := by rw [← hW0]; simp
  have KZ : Hid (∀ V, Below W0.heap.size W0 V → V.heap[w.heap.size]? = some (.cells #[Value.int .i64 0, .int .u32 0, .int .u32 0, .int .i64 0] 106)) :=
    Lib.hid (fun V hV => by rw [hV.block _ (by omega), ← hW0]; exact alloc_at _ _ _ (by omega))
  have HB : Hid (Below w.heap.size w W0) := Lib.hid bW0
  have HN : Hid (b ≠ w.heap.size) := Lib.hid (by omega)
  have hb0 := hb.step bW0
  have q0 : Bt W0 (some ⟨b, off, none⟩) (sub l 0 4) := bs_sub0 hb0 4
  have q4 : Bt W0 (some ⟨b, off + 4, none⟩) (sub l 4 4) := hb0.sub 4 4
  have q10 : Bt W0 (some ⟨b, off + 10, none⟩) (sub l 10 2) := hb0.sub 10 2
  have g8 := hb0.get (i := 8) (by omega)
  have hb8 := hb0.blk (by rintro rfl; simp at hn; omega)
  have l0 : (sub l 0 4).length = 4 := sub_len (by omega)
  have l4 : (sub l 4 4).length = 4 := sub_len (by omega)
  have l10 : (sub l 10 2).length = 2 := sub_len (by omega)
  have z0 := sub_byt hy 0 4
  have z4 := sub_byt hy 4 4
  have z10 := sub_byt hy 10 2
  have v10 := num_two z10 l10
  have w8 := byt_getD hy 8
  have HD : Hid (lk0 l = ⟨l.getD 8 0, num (sub l 0 4), num (sub l 4 4), num (sub l 10 2)⟩) := Lib.hid rfl
  generalize lk0 l = K at *
  generalize sub l 0 4 = L0 at *
  generalize sub l 4 4 = L4 at *
  generalize sub l 10 2 = L10 at *
  generalize l.getD 8 0 = x8 at *
  have KS : Hid (∀ V, Below W0.heap.size W0 V → V.cell? ⟨b, off + 8, none⟩ = some (.int .u8 x8)) := Lib.hid (fun V hV => (hV.cell (p := ⟨b, off + 8, none⟩) hb8).trans g8)
  have n4 : ¬ (c = 4) := by omega
  have n10 : ¬ (c = 10) := by omega
  have i4 : (4 : Int) ≤ (c : Int) := by omega
  have i8 : (8 : Int) ≤ (c : Int) := by omega
  have i12 : (12 : Int) ≤ (c : Int) := by omega
  have j8 : (8 : Int) < (n : Int) := by omega
  have j8' : 8 < n := by omega
  have tt : Below W0.heap.size W0 W0 := Below.refl _ _
  clear hn hb bW0 hb0 g8 hb8 hbl hy sW0
  go_enter Try.func59, Try.ntmps59
  go_wp2_with fail
  refine wp_region_held_drew (S := fun V => V.cell? ⟨b, off + 8, none⟩ = some (.int .u8 x8)) (by kernel_rfl) (KS.out _ tt.drew) (fun hHeld => ?_)
  replace tt : Below W0.heap.size W0 W0.drew := tt.drew
  replace q0 : Bt W0.drew (some ⟨b, off, none⟩) L0 := q0
  replace q4 : Bt W0.drew (some ⟨b, off + 4, none⟩) L4 := q4
  replace q10 : Bt W0.drew (some ⟨b, off + 10, none⟩) L10 := q10
  generalize hX0 : W0.drew = X0 at tt q0 q4 q10 hHeld ⊢
  clear hX0
  refine wpAnyH_take (i := 0) (v := ?_) rfl (by kernel_rfl) (by kernel_rfl) (by kernel_rfl) (fun _ _ _ h => h) (Or.inl ⟨by rfl, ?_⟩) (by assumption) ?_
  rotate_left
  · (intro w' hSw; (try dsimp only at hSw); go_simp; try with_reducible rfl)
  simp only [Act.put, List.getElem_toArray, List.getElem_cons_zero, List.setIfInBounds_toArray, List.set_cons_zero, List.set_cons_succ]
  refine wpAnyH_take (i := 1) (v := .slice (some ⟨b, off, none⟩) 4 c) rfl (by kernel_rfl) (by kernel_rfl) (by kernel_rfl) (fun _ _ _ h => h) (Or.inl ⟨by rfl, ?_⟩) (by assumption) ?_
  · (intro w' hSw; (try dsimp only at hSw); go_simp; try rfl)
  simp only [Act.put, List.getElem_toArray, List.getElem_cons_zero, List.getElem_cons_succ, List.setIfInBounds_toArray, List.set_cons_zero, List.set_cons_succ]
  refine wpAnyH_take (i := 3) (v := ?_) rfl (by kernel_rfl) (by kernel_rfl) (by kernel_rfl) (fun _ _ _ h => h) (Or.inl ⟨by rfl, ?_⟩) (by assumption) ?_
  rotate_left
  · (intro w' hSw; (try dsimp only at hSw); go_simp; try with_reducible rfl)
  simp only [Act.put, List.getElem_toArray, List.getElem_cons_zero, List.getElem_cons_succ, List.setIfInBounds_toArray, List.set_cons_zero, List.set_cons_succ]
  refine wpAnyH_take (i := 4) (v := .slice (some ⟨b, off + 4, none⟩) 4 (c - 4)) rfl (by kernel_rfl) (by kernel_rfl) (by kernel_rfl) (fun _ _ _ h => h) (Or.inl ⟨by rfl, ?_⟩) (by assumption) ?_
  · (intro w' hSw; (try dsimp only at hSw); go_simp; try rfl)
  simp only [Act.put, List.getElem_toArray, List.getElem_cons_zero, List.getElem_cons_succ, List.setIfInBounds_toArray, List.set_cons_zero, List.set_cons_succ]
  refine wpAnyH_take (i := 6) (v := ?_) rfl (by kernel_rfl) (by kernel_rfl) (by kernel_rfl) (fun _ _ _ h => h) (Or.inl ⟨by rfl, ?_⟩) (by assumption) ?_
  rotate_left
  · (intro w' hSw; (try dsimp only at hSw); go_simp; try with_reducible rfl)
  simp only [Act.put, List.getElem_toArray, List.getElem_cons_zero, List.getElem_cons_succ, List.setIfInBounds_toArray, List.set_cons_zero, List.set_cons_succ]
  refine wpAnyH_take (i := 7) (v := ?_) rfl (by kernel_rfl) (by kernel_rfl) (by kernel_rfl) (fun _ _ _ h => h) (Or.inl ⟨by rfl, ?_⟩) (by assumption) ?_
  rotate_left
  · (intro w' hSw; (try dsimp only at hSw); go_simp; try with_reducible rfl)
  simp only [Act.put, List.getElem_toArray, List.getElem_cons_zero, List.getElem_cons_succ, List.setIfInBounds_toArray, List.set_cons_zero, List.set_cons_succ]
  refine wpAnyH_take (i := 8) (v := ?_) rfl (by kernel_rfl) (by kernel_rfl) (by kernel_rfl) (fun _ _ _ h => h) (Or.inl ⟨by rfl, ?_⟩) (by assumption) ?_
  rotate_left
  · (intro w' hSw; (try dsimp only at hSw); go_simp; try with_reducible rfl)
  simp only [Act.put, List.getElem_toArray, List.getElem_cons_zero, List.getElem_cons_succ, List.setIfInBounds_toArray, List.set_cons_zero, List.set_cons_succ]
  refine wpAnyH_take (i := 9) (v := .int .i64 x8) rfl (by kernel_rfl) (by kernel_rfl) (by kernel_rfl) (fun _ _ _ h => h) (Or.inl ⟨by rfl, ?_⟩) (by assumption) ?_
  · (intro w' hSw; (try dsimp only at hSw); go_simp; rw [wrap_i64 (by omega) (by omega)])
  simp only [Act.put, List.getElem_toArray, List.getElem_cons_zero, List.getElem_cons_succ, List.setIfInBounds_toArray, List.set_cons_zero, List.set_cons_succ]
  refine wpAnyH_take (i := 10) (v := ?_) rfl (by kernel_rfl) (by kernel_rfl) (by kernel_rfl) (fun _ _ _ h => h) (Or.inl ⟨by rfl, ?_⟩) (by assumption) ?_
  rotate_left
  · (intro w' hSw; (try dsimp only at hSw); go_simp; try with_reducible rfl)
  simp only [Act.put, List.getElem_toArray, List.getElem_cons_zero, List.getElem_cons_succ, List.setIfInBounds_toArray, List.set_cons_zero, List.set_cons_succ]
  refine wpAnyH_take (i := 11) (v := .slice (some ⟨b, off + 10, none⟩) 2 (c - 10)) rfl (by kernel_rfl) (by kernel_rfl) (by kernel_rfl) (fun _ _ _ h => h) (Or.inl ⟨by rfl, ?_⟩) (by assumption) ?_
  · (intro w' hSw; (try dsimp only at hSw); go_simp; try rfl)
  simp only [Act.put, List.getElem_toArray, List.getElem_cons_zero, List.getElem_cons_succ, List.setIfInBounds_toArray, List.set_cons_zero, List.set_cons_succ]
  refine wpAnyH_ready (rs := [2]) (by kernel_rfl) (by simp) ?_
  refine AllReadyH.cons rfl (fun K hK => ?_) AllReadyH.nil
  go_simp
  go_at_call 58
  refine (ynumber_any _ 4 _ L0 X0 q0 z0 l0 (by omega) (by decide) (by decide)).mono ?_
  rintro e Y11 ⟨rfl, u11⟩
  have t_Y11 : Below W0.heap.size W0 Y11 := tt.trans (u11.mono tt.size)
  replace q0 := q0.step u11
  replace q4 := q4.step u11
  replace q10 := q10.step u11
  refine hK.out _ _ (KS.out _ t_Y11) (fun _ => ?_)
  clear hK K
  refine wpAnyH_ready (rs := [5]) (by kernel_rfl) (by simp) ?_
  refine AllReadyH.cons rfl (fun K hK => ?_) AllReadyH.nil
  go_simp
  go_at_call 58
  refine (ynumber_any _ 4 _ L4 Y11 q4 z4 l4 (by omega) (by decide) (by decide)).mono ?_
  rintro e Y12 ⟨rfl, u12⟩
  have t_Y12 : Below W0.heap.size W0 Y12 := t_Y11.trans (u12.mono t_Y11.size)
  replace q0 := q0.step u12
  replace q4 := q4.step u12
  replace q10 := q10.step u12
  refine hK.out _ _ (KS.out _ t_Y12) (fun _ => ?_)
  clear hK K
  refine wpAnyH_ready (rs := [12]) (by kernel_rfl) (by simp) ?_
  refine AllReadyH.cons rfl (fun K hK => ?_) AllReadyH.nil
  go_simp
  go_at_call 58
  refine (ynumber_any _ 2 _ L10 Y12 q10 z10 l10 (by omega) (by decide) (by decide)).mono ?_
  rintro e Y13 ⟨rfl, u13⟩
  have t_Y13 : Below W0.heap.size W0 Y13 := t_Y12.trans (u13.mono t_Y12.size)
  replace q0 := q0.step u13
  replace q4 := q4.step u13
  replace q10 := q10.step u13
  refine hK.out _ _ (KS.out _ t_Y13) (fun _ => ?_)
  clear hK K
  refine wpAnyH_take (i := 13) (v := .int .i64 (num L10)) rfl (by kernel_rfl) (by kernel_rfl) (by kernel_rfl) (fun _ _ _ h => h) (Or.inl ⟨by rfl, ?_⟩) (by assumption) ?_
  · (intro w' hSw; (try dsimp only at hSw); go_simp; rw [wrap_i64 (by omega) (by omega)])
  simp only [Act.put, List.getElem_toArray, List.getElem_cons_zero, List.getElem_cons_succ, List.setIfInBounds_toArray, List.set_cons_zero, List.set_cons_succ]
  refine wpAnyH_take (i := 14) (v := .agg #[.int .i64 x8, .int .u32 (num L0), .int .u32 (num L4), .int .i64 (num L10)]) rfl (by kernel_rfl) (by kernel_rfl) (by kernel_rfl) (fun _ _ _ h => h) (Or.inl ⟨by rfl, ?_⟩) (by assumption) ?_
  · (intro w' hSw; (try dsimp only at hSw); go_simp; try rfl)
  simp only [Act.put, List.getElem_toArray, List.getElem_cons_zero, List.getElem_cons_succ, List.setIfInBounds_toArray, List.set_cons_zero, List.set_cons_succ]
  refine wpAnyH_ready (rs := [15]) (by kernel_rfl) (by simp) ?_
  refine AllReadyH.cons rfl (fun K hK => ?_) AllReadyH.nil
  have kz := KZ.out _ t_Y13
  obtain ⟨a0, a1, a2, a3, f0, f1, f2, f3, hzl⟩ := kz4_at kz
  have KR := Lib.hid <| kz4_get kz (Value.int .i64 x8) (.int .u32 (num L0)) (.int .u32 (num L4)) (.int .i64 (num L10))
  have TF : Hid (Below w.heap.size w (st4 Y13 w.heap.size (Value.int .i64 x8) (.int .u32 (num L0)) (.int .u32 (num L4)) (.int .i64 (num L10)))) := Lib.hid (below_st4 (HB.out.trans (t_Y13.mono HB.out.size)) (Nat.le_refl _) _ _ _ _)
  have KF : Hid ((st4 Y13 w.heap.size (Value.int .i64 x8) (.int .u32 (num L0)) (.int .u32 (num L4)) (.int .i64 (num L10))).cell? ⟨b, off + 8, none⟩ = some (.int .u8 x8)) := Lib.hid ((cell_st4 (p := ⟨b, off + 8, none⟩) HN.out _ _ _ _).trans (KS.out _ t_Y13))
  clear hHeld kz
  go_simp
  refine hK.out _ _ KF.out (fun _ => ?_)
  clear hK K
  refine wpAnyH_done (by kernel_rfl) ?_ _
  go_wp2
  obtain ⟨r0, r1, r2, r3⟩ := KR.out
  refine bodyPost_ret (v := .agg #[.int .i64 x8, .int .u32 (num L0), .int .u32 (num L4), .int .i64 (num L10)]) (by simp [results, Try.results59, go_sem, r0, r1, r2, r3]) rfl ⟨by rw [HD.out], TF.out⟩
theorem enters_Router (args : Array Value) (w' : World) : (callFunc 61 args).run Try.prog w' = .ok (.enter 61 args) w' := by simp [callFunc, Try.func61, Try.f61, mark]
set_option maxRecDepth 100000 in
set_option maxHeartbeats 4000000 in
theorem only_r (f : Int) (A : Option Addr) (n c : Nat) (L : List Lk) (B : Option Addr) (k d : Nat) (b : List Int) (w : World) (hn : L.length = n) (ok : Okls L) (hl : Lr w A L) (hll : n ≤ 10000) (hk : b.length = k) (hB : Bt w B b) (hy : Byt b) :
    Calls Try.prog 60 #[.agg #[.int .i64 f, .slice A n c], .func (.func 61) #[] #[], .slice B k d] w fun e w' => e = .returned (if encRE f L = 0 ∧ encRL f L = b then .tuple #[.agg #[.int .i64 f, .slice A n c], .int .i64 0] else .tuple #[.agg #[Value.int .i64 0, .slice none 0 0], .int .i64 3]) ∧ Below w.heap.size w w' := by
  obtain ⟨W0, hW0⟩ : ∃ V, w.alloc (.cells #[.int .i64 f, .slice A n c] 76) = V := ⟨_, rfl⟩
  have bW0 : Below w.heap.size w W0 := by rw [← hW0]; exact below_alloc1 _ _
  have sW0 : W0.heap.size = w.heap.size + 1 := by rw [← hW0]; simp
  have KX : Hid (∀ V, Below W0.heap.size W0 V → V.cell? ⟨w.heap.size, 0, none⟩ = some (.int .i64 f) ∧ V.cell? ⟨w.heap.size, 1, none⟩ = some (.slice A n c)) := Lib.hid (fun V hV => kb2_new hW0 hV)
  obtain ⟨W1, hW1⟩ : ∃ V, W0.alloc (.cells #[Value.int .i64 0, .slice none 0 0] 76) = V := ⟨_, rfl⟩
  have bW1 : Below W0.heap.size W0 W1 := by rw [← hW1]; exact below_alloc1 _ _
  have sW1 : W1.heap.size = W0.heap.size + 1 := by rw [← hW1]; simp
  have KZ : Hid (∀ V, Below W1.heap.size W1 V → V.heap[w.heap.size + 1]? = some (.cells #[Value.int .i64 0, .slice none 0 0] 76)) :=
    Lib.hid (fun V hV => by rw [hV.block _ (by omega), ← hW1]; exact alloc_at _ _ _ (by omega))
  have HB : Hid (Below w.heap.size w W1) := Lib.hid (bW0.trans (bW1.mono bW0.size))
  have q0 := hB.step HB.out
  have CW := router_any f A n c L W1 hn ok (hl.step HB.out) hll
  have hf := enters_Router #[.agg #[.int .i64 f, .slice A n c]] W1
  have HZ : Hid (w.heap.size ≤ w.heap.size + 1) := Lib.hid (by omega)
  have KR : Hid (∀ V, Below W1.heap.size W1 V → V.cell? ⟨w.heap.size, 0, none⟩ = some (.int .i64 f) ∧ V.cell? ⟨w.heap.size, 1, none⟩ = some (.slice A n c)) := Lib.hid (fun V hV => KX.out V (bW1.trans (hV.mono bW1.size)))
  obtain ⟨k0, k1⟩ := KR.out _ (Below.refl _ _)
  have s1 : W1.heap.size = w.heap.size + 2 := by omega
  have S1 := Lib.hid s1
  have HK := Lib.hid hk
  have yE : Byt (encRL f L) := by unfold encRL; split; exact enR_byt _ _; intro z hz; cases hz
  have HE : Hid (encRE f L = 0 ∨ encRE f L = 1) := Lib.hid (by unfold encRE; split <;> simp)
  generalize encRE f L = X at *
  generalize encRL f L = M at *
  obtain ⟨mm, hmm⟩ : ∃ mm, M.length = mm := ⟨_, rfl⟩
  rw [hmm] at CW
  have HM := Lib.hid hmm
  clear hB bW0 bW1 KX s1 hk hmm sW1
  by_cases hX : X = 1
  · subst hX
    have hno : ¬ ((1 : Int) = 0 ∧ M = b) := by omega
    rw [if_neg hno]
    clear hno HE
    go_enter Try.func60, Try.ntmps60
    go_wp2_with fail
    refine CW.mono ?_
    rintro e Y1 ⟨A1, c1, rfl, -, u1⟩
    clear sW0
    have HY : Hid (Below w.heap.size w Y1) := Lib.hid (HB.out.trans (u1.mono HB.out.size))
    obtain ⟨Z1, hZ1⟩ : ∃ V, Y1.alloc (.cells #[Value.int .i64 0, .slice none 0 0] 76) = V := ⟨_, rfl⟩
    have v1 : Below Y1.heap.size Y1 Z1 := by rw [← hZ1]; exact below_alloc1 _ _
    have kz2 := KZ.out _ (u1.trans (v1.mono u1.size))
    obtain ⟨a0, a1, f0, f1, hzl⟩ := kz2_at kz2
    have KG := Lib.hid <| kz2_get kz2 (Value.int .i64 0) (.slice none 0 0)
    have TF := Lib.hid <| below_st2 (b := w.heap.size + 1) (HY.out.trans (v1.mono HY.out.size)) HZ.out (Value.int .i64 0) (.slice none 0 0)
    obtain ⟨o0, o1⟩ := kb2_new hZ1 (Below.refl _ _)
    clear CW u1 v1 k0 k1 hf kz2 KZ KR
    subst hZ1
    go_wp2
    obtain ⟨r0, r1⟩ := KG.out
    refine bodyPost_ret (v := .tuple #[.agg #[Value.int .i64 0, .slice none 0 0], .int .i64 3]) (by simp [results, Try.results60, go_sem, r0, r1]) rfl ⟨rfl, TF.out⟩
  obtain rfl : X = 0 := by have := HE.out; omega
  by_cases hMb : M = b
  · have hyes : (0 : Int) = 0 ∧ M = b := ⟨rfl, hMb⟩
    rw [if_pos hyes]
    have hd : decide (M = b) = true := by simpa using hMb
    have HD := Lib.hid hd
    clear hyes HE hMb hd
    go_enter Try.func60, Try.ntmps60
    go_wp2_with fail
    refine CW.mono ?_
    rintro e Y1 ⟨A1, c1, rfl, o1, u1⟩
    clear sW0 k0 k1
    go_wp2_with fail
    refine (equal_any _ _ _ _ _ _ M b _ HM.out HK.out o1.bs (q0.step u1) yE hy).mono ?_
    rintro e _ ⟨rfl, rfl⟩
    rw [HD.out]
    have HY : Hid (Below w.heap.size w Y1) := Lib.hid (HB.out.trans (u1.mono HB.out.size))
    have kz2 := KZ.out _ u1
    obtain ⟨a0, a1, f0, f1, hzl⟩ := kz2_at kz2
    have KG := Lib.hid <| kz2_get kz2 (Value.int .i64 f) (.slice A n c)
    have TF := Lib.hid <| below_st2 (b := w.heap.size + 1) HY.out HZ.out (Value.int .i64 f) (.slice A n c)
    obtain ⟨g0, g1⟩ := KR.out _ u1
    clear CW u1 hf kz2 KZ KR o1
    go_wp2
    obtain ⟨r0, r1⟩ := KG.out
    refine bodyPost_ret (v := .tuple #[.agg #[.int .i64 f, .slice A n c], .int .i64 0]) (by simp [results, Try.results60, go_sem, r0, r1]) rfl ⟨rfl, TF.out⟩
  · have hno : ¬ ((0 : Int) = 0 ∧ M = b) := fun h => hMb h.2
    rw [if_neg hno]
    have hd : decide (M = b) = false := by simpa using hMb
    have HD := Lib.hid hd
    clear hno HE hMb hd
    go_enter Try.func60, Try.ntmps60
    go_wp2_with fail
    refine CW.mono ?_
    rintro e Y1 ⟨A1, c1, rfl, o1, u1⟩
    clear sW0
    go_wp2_with fail
    refine (equal_any _ _ _ _ _ _ M b _ HM.out HK.out o1.bs (q0.step u1) yE hy).mono ?_
    rintro e _ ⟨rfl, rfl⟩
    rw [HD.out]
    clear o1
    have HY : Hid (Below w.heap.size w Y1) := Lib.hid (HB.out.trans (u1.mono HB.out.size))
    obtain ⟨Z1, hZ1⟩ : ∃ V, Y1.alloc (.cells #[Value.int .i64 0, .slice none 0 0] 76) = V := ⟨_, rfl⟩
    have v1 : Below Y1.heap.size Y1 Z1 := by rw [← hZ1]; exact below_alloc1 _ _
    have kz2 := KZ.out _ (u1.trans (v1.mono u1.size))
    obtain ⟨a0, a1, f0, f1, hzl⟩ := kz2_at kz2
    have KG := Lib.hid <| kz2_get kz2 (Value.int .i64 0) (.slice none 0 0)
    have TF := Lib.hid <| below_st2 (b := w.heap.size + 1) (HY.out.trans (v1.mono HY.out.size)) HZ.out (Value.int .i64 0) (.slice none 0 0)
    obtain ⟨o0, o1⟩ := kb2_new hZ1 (Below.refl _ _)
    clear CW u1 v1 k0 k1 hf kz2 KZ KR
    subst hZ1
    go_wp2
    obtain ⟨r0, r1⟩ := KG.out
    refine bodyPost_ret (v := .tuple #[.agg #[Value.int .i64 0, .slice none 0 0], .int .i64 3]) (by simp [results, Try.results60, go_sem, r0, r1]) rfl ⟨rfl, TF.out⟩
end Go.Proofs.Ytadcicmccdphkaa
