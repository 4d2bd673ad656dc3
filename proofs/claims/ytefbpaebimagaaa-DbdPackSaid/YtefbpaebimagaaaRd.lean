/-
  What bytes say of a header; the contract of lsa's ReadHead. No statement is proved here; no conditions.
-/
import Derived.Test.YtefbpaebimagaaaEn
namespace Go.Proofs.Ytefbpaebimagaaa
open Go.RowKit Go.Joins

def At (w : World) (b : Nat) (o : Obj) : Prop := w.heap[b]? = some o
theorem At.step {w w' : World} {b : Nat} {o : Obj} (h : At w b o) (hb : Below w.heap.size w w') : At w' b o := (hb.block b (lt_of_block h)).trans h
theorem At.lt {w : World} {b : Nat} {o : Obj} (h : At w b o) : b < w.heap.size := lt_of_block h
theorem At.mk {w w' : World} {o : Obj} (h : w.alloc o = w') : At w' w.heap.size o := by subst h; exact alloc_at _ _ _ rfl
/-- The header that twenty bytes say. -/
def rdf (F : List Int) : Hd := ⟨num (F.take 2), F.getD 2 0, F.getD 3 0, num (sub F 4 4), num (sub F 8 4), num (sub F 12 4), num (sub F 16 2), num (sub F 18 2)⟩
def zhd : Hd := ⟨0, 0, 0, 0, 0, 0, 0, 0⟩
/-- Why these bytes do not begin with one; 0 if they do. -/
def rdE (l : List Int) : Int := if l.length < 20 then 2 else if mayd (rdf (l.take 20)) = true then 0 else 3
def rdp (l : List Int) : Hd := if rdE l = 0 then rdf (l.take 20) else zhd
def rdr (l : List Int) : List Int := if rdE l = 0 then l.drop 20 else []
set_option maxRecDepth 100000 in
set_option maxHeartbeats 40000000 in
theorem readhead_any (A : Option Addr) (n c : Nat) (l : List Int) (w : World) (hn : l.length = n) (hb : Bt w A l) (hy : Byt l) (hc : n ≤ c) (hl : n ≤ 5000) :
    Calls Try.prog 63 #[.slice A n c] w fun e w' => ∃ A' c', e = .returned (.tuple #[.agg #[.int .i64 (rdp l).a, .int .i64 (rdp l).o, .int .i64 (rdp l).t, .int .u32 (rdp l).i, .int .u32 (rdp l).v, .int .u32 (rdp l).q, .int .i64 (rdp l).s, .int .i64 (rdp l).n], .slice A' (rdr l).length c', .int .i64 (rdE l)]) ∧ Own .u8 5 w' w.heap.size A' c' (rdr l) ∧ Below w.heap.size w w' := by
  obtain ⟨W0, hW0⟩ : ∃ V, w.alloc (.cells #[Value.int .i64 0, .int .i64 0, .int .i64 0, .int .u32 0, .int .u32 0, .int .u32 0, .int .i64 0, .int .i64 0] 85) = V := ⟨_, rfl⟩
  have bW0 : Below w.heap.size w W0 := by rw [← hW0]; exact below_alloc1 _ _
  have sW0 : W0.heap.size = w.heap.size + 1 := by rw [← hW0]; simp
  have KZ : Hid (∀ V, Below W0.heap.size W0 V → V.heap[w.heap.size]? = some (.cells #[Value.int .i64 0, .int .i64 0, .int .i64 0, .int .u32 0, .int .u32 0, .int .u32 0, .int .i64 0, .int .i64 0] 85)) :=
    Lib.hid (fun V hV => by rw [hV.block _ (by omega), ← hW0]; exact alloc_at _ _ _ (by omega))
  have HB : Hid (Below w.heap.size w W0) := Lib.hid bW0
  have CC := cut_any A c l W0.heap.size 20 W0 (hb.step bW0) (by omega) (Nat.le_refl _) (by omega)
  rw [hn] at CC
  clear hb bW0 hc
  by_cases h20 : n < 20
  · have e1 : cutE l 20 = 2 := by simp [cutE, hn]; omega
    have e2 : cutL l 20 = [] := by simp [cutL, e1]
    have e3 : cutF l 20 = [] := by simp [cutF, e1]
    have e4 : rdE l = 2 := by simp [rdE, hn, h20]
    have e5 : rdp l = zhd := by simp [rdp, e4]
    have e6 : rdr l = [] := by simp [rdr, e4]
    rw [e1, e2, e3] at CC
    rw [e4, e5, e6]
    clear e1 e2 e3 e4 e5 e6
    go_enter Try.func63, Try.ntmps63
    go_wp2_with fail
    refine CC.mono ?_
    rintro e Y1 ⟨A1, c1, A2, c2, rfl, -, -, u1⟩
    have z1 := KZ.out _ u1
    obtain ⟨a0, a1, a2, a3, a4, a5, a6, a7, f0, f1, f2, f3, f4, f5, f6, f7, hzl⟩ := kz8_at z1
    have KR := Lib.hid <| kz8_get z1 (Value.int .i64 0) (.int .i64 0) (.int .i64 0) (.int .u32 0) (.int .u32 0) (.int .u32 0) (.int .i64 0) (.int .i64 0)
    have TF := Lib.hid <| below_st8 (HB.out.trans (u1.mono HB.out.size)) (Nat.le_refl _) (Value.int .i64 0) (.int .i64 0) (.int .i64 0) (.int .u32 0) (.int .u32 0) (.int .u32 0) (.int .i64 0) (.int .i64 0)
    clear u1 z1 CC KZ
    go_wp2
    obtain ⟨r0, r1, r2, r3, r4, r5, r6, r7⟩ := KR.out
    refine bodyPost_ret (v := .tuple #[.agg #[.int .i64 0, .int .i64 0, .int .i64 0, .int .u32 0, .int .u32 0, .int .u32 0, .int .i64 0, .int .i64 0], .slice none 0 0, .int .i64 2]) (by simp [results, Try.results63, go_sem, r0, r1, r2, r3, r4, r5, r6, r7]) rfl ⟨none, 0, rfl, Own.nil _ _, TF.out⟩
  have e1 : cutE l 20 = 0 := by simp [cutE, hn]; omega
  have e2 : cutL l 20 = l.drop 20 := by simp [cutL, e1]
  have e3 : cutF l 20 = l.take 20 := by simp [cutF, e1]
  have hE : rdE l = if mayd (rdf (l.take 20)) = true then 0 else 3 := by simp only [rdE, hn, if_neg h20]
  have hP : rdp l = if rdE l = 0 then rdf (l.take 20) else zhd := rfl
  have hR : rdr l = if rdE l = 0 then l.drop 20 else [] := rfl
  rw [e1, e2, e3] at CC
  have fl : (l.take 20).length = 20 := by simp; omega
  have fr : (l.drop 20).length = n - 20 := by simp; omega
  have fy := hy.take 20
  generalize l.take 20 = FF at *
  generalize l.drop 20 = LR at *
  rw [fl, fr] at CC
  have HFR := Lib.hid fr
  have l0 : (FF.take 2).length = 2 := by simp; omega
  have l4 : (sub FF 4 4).length = 4 := sub_len (by omega)
  have l8 : (sub FF 8 4).length = 4 := sub_len (by omega)
  have l12 : (sub FF 12 4).length = 4 := sub_len (by omega)
  have l16 : (sub FF 16 2).length = 2 := sub_len (by omega)
  have l18 : (sub FF 18 2).length = 2 := sub_len (by omega)
  have z0 := fy.take 2
  have z4 := sub_byt fy 4 4
  have z8 := sub_byt fy 8 4
  have z12 := sub_byt fy 12 4
  have z16 := sub_byt fy 16 2
  have z18 := sub_byt fy 18 2
  have v0 := num_two z0 l0
  have v16 := num_two z16 l16
  have v18 := num_two z18 l18
  have w2 := byt_getD fy 2
  have w3 := byt_getD fy 3
  have hD : rdf FF = ⟨num (FF.take 2), FF.getD 2 0, FF.getD 3 0, num (sub FF 4 4), num (sub FF 8 4), num (sub FF 12 4), num (sub FF 16 2), num (sub FF 18 2)⟩ := rfl
  have HE := Lib.hid hE
  have HP := Lib.hid hP
  have HR := Lib.hid hR
  clear e1 e2 e3 hy hn hE hP hR fr fy
  go_enter Try.func63, Try.ntmps63
  go_wp2_with fail
  refine CC.mono ?_
  rintro e Y1 ⟨A1, c1, A2, c2, rfl, o1, o2, u1⟩
  have hc1 := o1.cap_le
  obtain ⟨g, rfl, _, hg⟩ := o1.some (by omega)
  have q0 : Bt Y1 (some ⟨g, 0, none⟩) (FF.take 2) := o1.bs.take 2
  have q4 : Bt Y1 (some ⟨g, 4, none⟩) (sub FF 4 4) := by simpa using o1.bs.sub 4 4
  have q8 : Bt Y1 (some ⟨g, 8, none⟩) (sub FF 8 4) := by simpa using o1.bs.sub 8 4
  have q12 : Bt Y1 (some ⟨g, 12, none⟩) (sub FF 12 4) := by simpa using o1.bs.sub 12 4
  have q16 : Bt Y1 (some ⟨g, 16, none⟩) (sub FF 16 2) := by simpa using o1.bs.sub 16 2
  have q18 : Bt Y1 (some ⟨g, 18, none⟩) (sub FF 18 2) := by simpa using o1.bs.sub 18 2
  have g2 := o1.cellAt (i := 2) (by omega)
  have g3 := o1.cellAt (i := 3) (by omega)
  rw [fl] at hc1
  generalize FF.take 2 = L0 at *
  generalize sub FF 4 4 = L4 at *
  generalize sub FF 8 4 = L8 at *
  generalize sub FF 12 4 = L12 at *
  generalize sub FF 16 2 = L16 at *
  generalize sub FF 18 2 = L18 at *
  generalize FF.getD 2 0 = x2 at *
  generalize FF.getD 3 0 = x3 at *
  have HD := Lib.hid hD
  have KS : Hid (∀ V, Below Y1.heap.size Y1 V → V.cell? ⟨g, 2, none⟩ = some (.int .u8 x2) ∧ V.cell? ⟨g, 3, none⟩ = some (.int .u8 x3)) := Lib.hid (fun V hV => ⟨(hV.cell (p := ⟨g, 2, none⟩) hg).trans g2, (hV.cell (p := ⟨g, 3, none⟩) hg).trans g3⟩)
  have O2 := Lib.hid o2
  have U1 := Lib.hid u1
  have HG := Lib.hid hg
  have n4 : ¬ (c1 = 4) := by omega
  have n8 : ¬ (c1 = 8) := by omega
  have n12 : ¬ (c1 = 12) := by omega
  have n16 : ¬ (c1 = 16) := by omega
  have n18 : ¬ (c1 = 18) := by omega
  have i2 : (2 : Int) ≤ (c1 : Int) := by omega
  have i8 : (8 : Int) ≤ (c1 : Int) := by omega
  have i12 : (12 : Int) ≤ (c1 : Int) := by omega
  have i16 : (16 : Int) ≤ (c1 : Int) := by omega
  have i18 : (18 : Int) ≤ (c1 : Int) := by omega
  have i20 : (20 : Int) ≤ (c1 : Int) := by omega
  have tt : Below Y1.heap.size Y1 Y1 := Below.refl _ _
  clear o1 o2 u1 hD g2 g3 CC hg fl hW0 sW0
  go_upto_region 4 with fail
  go_cut [8] (fun v8 wx => ∃ k : Nat, v8 = .pointer (some ⟨k, 0, none⟩) ∧ Hid (Y1.heap.size ≤ k) ∧ Hid (Below Y1.heap.size Y1 wx) ∧ Hid (At wx k (.cells #[.int .i64 (num L0), .int .i64 x2, .int .i64 x3, .int .u32 (num L4), .int .u32 (num L8), .int .u32 (num L12), .int .i64 (num L16), .int .i64 (num L18)] 85)))
  case first =>
    refine wp_region_held_drew (S := fun V => V.cell? ⟨g, 2, none⟩ = some (.int .u8 x2) ∧ V.cell? ⟨g, 3, none⟩ = some (.int .u8 x3)) (by kernel_rfl) (KS.out _ tt.drew) (fun hHeld => ?_)
    replace tt : Below Y1.heap.size Y1 Y1.drew := tt.drew
    generalize hX0 : Y1.drew = X0 at tt hHeld ⊢
    clear hX0
    refine wpAnyH_take (i := 0) (v := ?_) rfl (by kernel_rfl) (by kernel_rfl) (by kernel_rfl) (fun _ _ _ h => h) (Or.inl ⟨by rfl, ?_⟩) (by assumption) ?_
    rotate_left
    · (intro w' hSw; (try dsimp only at hSw); go_simp; try with_reducible rfl)
    simp only [Act.put, List.getElem_toArray, List.getElem_cons_zero, List.setIfInBounds_toArray, List.set_cons_zero, List.set_cons_succ]
    refine wpAnyH_take (i := 1) (v := .slice (some ⟨g, 0, none⟩) 2 c1) rfl (by kernel_rfl) (by kernel_rfl) (by kernel_rfl) (fun _ _ _ h => h) (Or.inl ⟨by rfl, ?_⟩) (by assumption) ?_
    · (intro w' hSw; (try dsimp only at hSw); go_simp; try rfl)
    simp only [Act.put, List.getElem_toArray, List.getElem_cons_zero, List.getElem_cons_succ, List.setIfInBounds_toArray, List.set_cons_zero, List.set_cons_succ]
    refine wpAnyH_take (i := 4) (v := ?_) rfl (by kernel_rfl) (by kernel_rfl) (by kernel_rfl) (fun _ _ _ h => h) (Or.inl ⟨by rfl, ?_⟩) (by assumption) ?_
    rotate_left
    · (intro w' hSw; (try dsimp only at hSw); go_simp; try with_reducible rfl)
    simp only [Act.put, List.getElem_toArray, List.getElem_cons_zero, List.getElem_cons_succ, List.setIfInBounds_toArray, List.set_cons_zero, List.set_cons_succ]
    refine wpAnyH_take (i := 5) (v := ?_) rfl (by kernel_rfl) (by kernel_rfl) (by kernel_rfl) (fun _ _ _ h => h) (Or.inl ⟨by rfl, ?_⟩) (by assumption) ?_
    rotate_left
    · (intro w' hSw; (try dsimp only at hSw); go_simp; try with_reducible rfl)
    simp only [Act.put, List.getElem_toArray, List.getElem_cons_zero, List.getElem_cons_succ, List.setIfInBounds_toArray, List.set_cons_zero, List.set_cons_succ]
    refine wpAnyH_take (i := 6) (v := ?_) rfl (by kernel_rfl) (by kernel_rfl) (by kernel_rfl) (fun _ _ _ h => h) (Or.inl ⟨by rfl, ?_⟩) (by assumption) ?_
    rotate_left
    · (intro w' hSw; (try dsimp only at hSw); go_simp; try with_reducible rfl)
    simp only [Act.put, List.getElem_toArray, List.getElem_cons_zero, List.getElem_cons_succ, List.setIfInBounds_toArray, List.set_cons_zero, List.set_cons_succ]
    refine wpAnyH_take (i := 7) (v := .int .i64 x2) rfl (by kernel_rfl) (by kernel_rfl) (by kernel_rfl) (fun _ _ _ h => h) (Or.inl ⟨by rfl, ?_⟩) (by assumption) ?_
    · (intro w' hSw; (try dsimp only at hSw); go_simp; rw [wrap_i64 (by omega) (by omega)])
    simp only [Act.put, List.getElem_toArray, List.getElem_cons_zero, List.getElem_cons_succ, List.setIfInBounds_toArray, List.set_cons_zero, List.set_cons_succ]
    refine wpAnyH_take (i := 8) (v := ?_) rfl (by kernel_rfl) (by kernel_rfl) (by kernel_rfl) (fun _ _ _ h => h) (Or.inl ⟨by rfl, ?_⟩) (by assumption) ?_
    rotate_left
    · (intro w' hSw; (try dsimp only at hSw); go_simp; try with_reducible rfl)
    simp only [Act.put, List.getElem_toArray, List.getElem_cons_zero, List.getElem_cons_succ, List.setIfInBounds_toArray, List.set_cons_zero, List.set_cons_succ]
    refine wpAnyH_take (i := 9) (v := ?_) rfl (by kernel_rfl) (by kernel_rfl) (by kernel_rfl) (fun _ _ _ h => h) (Or.inl ⟨by rfl, ?_⟩) (by assumption) ?_
    rotate_left
    · (intro w' hSw; (try dsimp only at hSw); go_simp; try with_reducible rfl)
    simp only [Act.put, List.getElem_toArray, List.getElem_cons_zero, List.getElem_cons_succ, List.setIfInBounds_toArray, List.set_cons_zero, List.set_cons_succ]
    refine wpAnyH_take (i := 10) (v := ?_) rfl (by kernel_rfl) (by kernel_rfl) (by kernel_rfl) (fun _ _ _ h => h) (Or.inl ⟨by rfl, ?_⟩) (by assumption) ?_
    rotate_left
    · (intro w' hSw; (try dsimp only at hSw); go_simp; try with_reducible rfl)
    simp only [Act.put, List.getElem_toArray, List.getElem_cons_zero, List.getElem_cons_succ, List.setIfInBounds_toArray, List.set_cons_zero, List.set_cons_succ]
    refine wpAnyH_take (i := 11) (v := .int .i64 x3) rfl (by kernel_rfl) (by kernel_rfl) (by kernel_rfl) (fun _ _ _ h => h) (Or.inl ⟨by rfl, ?_⟩) (by assumption) ?_
    · (intro w' hSw; (try dsimp only at hSw); go_simp; rw [wrap_i64 (by omega) (by omega)])
    simp only [Act.put, List.getElem_toArray, List.getElem_cons_zero, List.getElem_cons_succ, List.setIfInBounds_toArray, List.set_cons_zero, List.set_cons_succ]
    refine wpAnyH_take (i := 12) (v := ?_) rfl (by kernel_rfl) (by kernel_rfl) (by kernel_rfl) (fun _ _ _ h => h) (Or.inl ⟨by rfl, ?_⟩) (by assumption) ?_
    rotate_left
    · (intro w' hSw; (try dsimp only at hSw); go_simp; try with_reducible rfl)
    simp only [Act.put, List.getElem_toArray, List.getElem_cons_zero, List.getElem_cons_succ, List.setIfInBounds_toArray, List.set_cons_zero, List.set_cons_succ]
    refine wpAnyH_take (i := 13) (v := .slice (some ⟨g, 4, none⟩) 4 (c1 - 4)) rfl (by kernel_rfl) (by kernel_rfl) (by kernel_rfl) (fun _ _ _ h => h) (Or.inl ⟨by rfl, ?_⟩) (by assumption) ?_
    · (intro w' hSw; (try dsimp only at hSw); go_simp; try rfl)
    simp only [Act.put, List.getElem_toArray, List.getElem_cons_zero, List.getElem_cons_succ, List.setIfInBounds_toArray, List.set_cons_zero, List.set_cons_succ]
    refine wpAnyH_take (i := 15) (v := ?_) rfl (by kernel_rfl) (by kernel_rfl) (by kernel_rfl) (fun _ _ _ h => h) (Or.inl ⟨by rfl, ?_⟩) (by assumption) ?_
    rotate_left
    · (intro w' hSw; (try dsimp only at hSw); go_simp; try with_reducible rfl)
    simp only [Act.put, List.getElem_toArray, List.getElem_cons_zero, List.getElem_cons_succ, List.setIfInBounds_toArray, List.set_cons_zero, List.set_cons_succ]
    refine wpAnyH_take (i := 16) (v := .slice (some ⟨g, 8, none⟩) 4 (c1 - 8)) rfl (by kernel_rfl) (by kernel_rfl) (by kernel_rfl) (fun _ _ _ h => h) (Or.inl ⟨by rfl, ?_⟩) (by assumption) ?_
    · (intro w' hSw; (try dsimp only at hSw); go_simp; try rfl)
    simp only [Act.put, List.getElem_toArray, List.getElem_cons_zero, List.getElem_cons_succ, List.setIfInBounds_toArray, List.set_cons_zero, List.set_cons_succ]
    refine wpAnyH_take (i := 18) (v := ?_) rfl (by kernel_rfl) (by kernel_rfl) (by kernel_rfl) (fun _ _ _ h => h) (Or.inl ⟨by rfl, ?_⟩) (by assumption) ?_
    rotate_left
    · (intro w' hSw; (try dsimp only at hSw); go_simp; try with_reducible rfl)
    simp only [Act.put, List.getElem_toArray, List.getElem_cons_zero, List.getElem_cons_succ, List.setIfInBounds_toArray, List.set_cons_zero, List.set_cons_succ]
    refine wpAnyH_take (i := 19) (v := .slice (some ⟨g, 12, none⟩) 4 (c1 - 12)) rfl (by kernel_rfl) (by kernel_rfl) (by kernel_rfl) (fun _ _ _ h => h) (Or.inl ⟨by rfl, ?_⟩) (by assumption) ?_
    · (intro w' hSw; (try dsimp only at hSw); go_simp; try rfl)
    simp only [Act.put, List.getElem_toArray, List.getElem_cons_zero, List.getElem_cons_succ, List.setIfInBounds_toArray, List.set_cons_zero, List.set_cons_succ]
    refine wpAnyH_take (i := 21) (v := ?_) rfl (by kernel_rfl) (by kernel_rfl) (by kernel_rfl) (fun _ _ _ h => h) (Or.inl ⟨by rfl, ?_⟩) (by assumption) ?_
    rotate_left
    · (intro w' hSw; (try dsimp only at hSw); go_simp; try with_reducible rfl)
    simp only [Act.put, List.getElem_toArray, List.getElem_cons_zero, List.getElem_cons_succ, List.setIfInBounds_toArray, List.set_cons_zero, List.set_cons_succ]
    refine wpAnyH_take (i := 22) (v := .slice (some ⟨g, 16, none⟩) 2 (c1 - 16)) rfl (by kernel_rfl) (by kernel_rfl) (by kernel_rfl) (fun _ _ _ h => h) (Or.inl ⟨by rfl, ?_⟩) (by assumption) ?_
    · (intro w' hSw; (try dsimp only at hSw); go_simp; try rfl)
    simp only [Act.put, List.getElem_toArray, List.getElem_cons_zero, List.getElem_cons_succ, List.setIfInBounds_toArray, List.set_cons_zero, List.set_cons_succ]
    refine wpAnyH_take (i := 25) (v := ?_) rfl (by kernel_rfl) (by kernel_rfl) (by kernel_rfl) (fun _ _ _ h => h) (Or.inl ⟨by rfl, ?_⟩) (by assumption) ?_
    rotate_left
    · (intro w' hSw; (try dsimp only at hSw); go_simp; try with_reducible rfl)
    simp only [Act.put, List.getElem_toArray, List.getElem_cons_zero, List.getElem_cons_succ, List.setIfInBounds_toArray, List.set_cons_zero, List.set_cons_succ]
    refine wpAnyH_take (i := 26) (v := .slice (some ⟨g, 18, none⟩) 2 (c1 - 18)) rfl (by kernel_rfl) (by kernel_rfl) (by kernel_rfl) (fun _ _ _ h => h) (Or.inl ⟨by rfl, ?_⟩) (by assumption) ?_
    · (intro w' hSw; (try dsimp only at hSw); go_simp; try rfl)
    simp only [Act.put, List.getElem_toArray, List.getElem_cons_zero, List.getElem_cons_succ, List.setIfInBounds_toArray, List.set_cons_zero, List.set_cons_succ]
    refine wpAnyH_ready (rs := [2, 30]) (by kernel_rfl) (by simp) ?_
    refine AllReadyH.cons rfl (fun K hK => ?_) ?_
    · go_simp
      go_at_call 80
      refine (number_any _ 2 _ L0 X0 (q0.step tt) z0 l0 (by omega) (by decide) (by decide)).mono ?_
      rintro e Y11 ⟨rfl, u11⟩
      have t_Y11 : Below Y1.heap.size Y1 Y11 := tt.trans (u11.mono tt.size)
      refine hK.out _ _ (KS.out _ t_Y11) (fun _ => ?_)
      clear hK K
      refine wpAnyH_take (i := 3) (v := .int .i64 (num L0)) rfl (by kernel_rfl) (by kernel_rfl) (by kernel_rfl) (fun _ _ _ h => h) (Or.inl ⟨by rfl, ?_⟩) (by assumption) ?_
      · (intro w' hSw; (try dsimp only at hSw); go_simp; rw [wrap_i64 (by omega) (by omega)])
      simp only [Act.put, List.getElem_toArray, List.getElem_cons_zero, List.getElem_cons_succ, List.setIfInBounds_toArray, List.set_cons_zero, List.set_cons_succ]
      refine wpAnyH_ready (rs := [14, 30]) (by kernel_rfl) (by simp) ?_
      refine AllReadyH.cons rfl (fun K hK => ?_) ?_
      · go_simp
        go_at_call 80
        refine (number_any _ 4 _ L4 Y11 (q4.step t_Y11) z4 l4 (by omega) (by decide) (by decide)).mono ?_
        rintro e Y12 ⟨rfl, u12⟩
        have t_Y12 : Below Y1.heap.size Y1 Y12 := t_Y11.trans (u12.mono t_Y11.size)
        refine hK.out _ _ (KS.out _ t_Y12) (fun _ => ?_)
        clear hK K
        refine wpAnyH_ready (rs := [17, 30]) (by kernel_rfl) (by simp) ?_
        refine AllReadyH.cons rfl (fun K hK => ?_) ?_
        · go_simp
          go_at_call 80
          refine (number_any _ 4 _ L8 Y12 (q8.step t_Y12) z8 l8 (by omega) (by decide) (by decide)).mono ?_
          rintro e Y13 ⟨rfl, u13⟩
          have t_Y13 : Below Y1.heap.size Y1 Y13 := t_Y12.trans (u13.mono t_Y12.size)
          refine hK.out _ _ (KS.out _ t_Y13) (fun _ => ?_)
          clear hK K
          refine wpAnyH_ready (rs := [20, 30]) (by kernel_rfl) (by simp) ?_
          refine AllReadyH.cons rfl (fun K hK => ?_) ?_
          · go_simp
            go_at_call 80
            refine (number_any _ 4 _ L12 Y13 (q12.step t_Y13) z12 l12 (by omega) (by decide) (by decide)).mono ?_
            rintro e Y14 ⟨rfl, u14⟩
            have t_Y14 : Below Y1.heap.size Y1 Y14 := t_Y13.trans (u14.mono t_Y13.size)
            refine hK.out _ _ (KS.out _ t_Y14) (fun _ => ?_)
            clear hK K
            refine wpAnyH_ready (rs := [23, 30]) (by kernel_rfl) (by simp) ?_
            refine AllReadyH.cons rfl (fun K hK => ?_) ?_
            · go_simp
              go_at_call 80
              refine (number_any _ 2 _ L16 Y14 (q16.step t_Y14) z16 l16 (by omega) (by decide) (by decide)).mono ?_
              rintro e Y15 ⟨rfl, u15⟩
              have t_Y15 : Below Y1.heap.size Y1 Y15 := t_Y14.trans (u15.mono t_Y14.size)
              refine hK.out _ _ (KS.out _ t_Y15) (fun _ => ?_)
              clear hK K
              refine wpAnyH_take (i := 24) (v := .int .i64 (num L16)) rfl (by kernel_rfl) (by kernel_rfl) (by kernel_rfl) (fun _ _ _ h => h) (Or.inl ⟨by rfl, ?_⟩) (by assumption) ?_
              · (intro w' hSw; (try dsimp only at hSw); go_simp; rw [wrap_i64 (by omega) (by omega)])
              simp only [Act.put, List.getElem_toArray, List.getElem_cons_zero, List.getElem_cons_succ, List.setIfInBounds_toArray, List.set_cons_zero, List.set_cons_succ]
              refine wpAnyH_ready (rs := [27, 30]) (by kernel_rfl) (by simp) ?_
              refine AllReadyH.cons rfl (fun K hK => ?_) ?_
              · go_simp
                go_at_call 80
                refine (number_any _ 2 _ L18 Y15 (q18.step t_Y15) z18 l18 (by omega) (by decide) (by decide)).mono ?_
                rintro e Y16 ⟨rfl, u16⟩
                have t_Y16 : Below Y1.heap.size Y1 Y16 := t_Y15.trans (u16.mono t_Y15.size)
                refine hK.out _ _ (KS.out _ t_Y16) (fun _ => ?_)
                clear hK K
                refine wpAnyH_take (i := 28) (v := .int .i64 (num L18)) rfl (by kernel_rfl) (by kernel_rfl) (by kernel_rfl) (fun _ _ _ h => h) (Or.inl ⟨by rfl, ?_⟩) (by assumption) ?_
                · (intro w' hSw; (try dsimp only at hSw); go_simp; rw [wrap_i64 (by omega) (by omega)])
                simp only [Act.put, List.getElem_toArray, List.getElem_cons_zero, List.getElem_cons_succ, List.setIfInBounds_toArray, List.set_cons_zero, List.set_cons_succ]
                refine wpAnyH_take (i := 29) (v := .agg #[.int .i64 (num L0), .int .i64 x2, .int .i64 x3, .int .u32 (num L4), .int .u32 (num L8), .int .u32 (num L12), .int .i64 (num L16), .int .i64 (num L18)]) rfl (by kernel_rfl) (by kernel_rfl) (by kernel_rfl) (fun _ _ _ h => h) (Or.inl ⟨by rfl, ?_⟩) (by assumption) ?_
                · (intro w' hSw; (try dsimp only at hSw); go_simp; try rfl)
                simp only [Act.put, List.getElem_toArray, List.getElem_cons_zero, List.getElem_cons_succ, List.setIfInBounds_toArray, List.set_cons_zero, List.set_cons_succ]
                refine wpAnyH_ready (rs := [30]) (by kernel_rfl) (by simp) ?_
                refine AllReadyH.cons rfl (fun K hK => ?_) AllReadyH.nil
                go_simp
                obtain ⟨Y17, hY17⟩ : ∃ V, Y16.alloc (.cells #[Value.int .i64 0, .int .i64 0, .int .i64 0, .int .u32 0, .int .u32 0, .int .u32 0, .int .i64 0, .int .i64 0] 85) = V := ⟨_, rfl⟩
                have u17 : Below Y16.heap.size Y16 Y17 := by rw [← hY17]; exact below_alloc1 _ _
                have kz := At.mk hY17
                have t_Y17 : Below Y1.heap.size Y1 Y17 := t_Y16.trans (u17.mono t_Y16.size)
                obtain ⟨k17, hk17⟩ : ∃ k, Y16.heap.size = k := ⟨_, rfl⟩
                rw [hk17] at kz
                have ga : Hid (Y1.heap.size ≤ k17) := Lib.hid (by rw [← hk17]; exact t_Y16.size)
                try rw [hY17]
                try rw [hk17]
                clear hY17 hk17
                refine hK.out _ _ (KS.out _ t_Y17) (fun _ => ?_)
                clear hK K
                refine wpAnyH_ready (rs := [31]) (by kernel_rfl) (by simp) ?_
                refine AllReadyH.cons rfl (fun K hK => ?_) AllReadyH.nil
                obtain ⟨a0, a1, a2, a3, a4, a5, a6, a7, f0, f1, f2, f3, f4, f5, f6, f7, hzl⟩ := kz8_at kz
                have KR : Hid (At (st8 Y17 k17 (Value.int .i64 (num L0)) (.int .i64 x2) (.int .i64 x3) (.int .u32 (num L4)) (.int .u32 (num L8)) (.int .u32 (num L12)) (.int .i64 (num L16)) (.int .i64 (num L18))) k17 (.cells #[.int .i64 (num L0), .int .i64 x2, .int .i64 x3, .int .u32 (num L4), .int .u32 (num L8), .int .u32 (num L12), .int .i64 (num L16), .int .i64 (num L18)] 85)) := Lib.hid (kz8_set kz (Value.int .i64 (num L0)) (.int .i64 x2) (.int .i64 x3) (.int .u32 (num L4)) (.int .u32 (num L8)) (.int .u32 (num L12)) (.int .i64 (num L16)) (.int .i64 (num L18)))
                have TF : Hid (Below Y1.heap.size Y1 (st8 Y17 k17 (Value.int .i64 (num L0)) (.int .i64 x2) (.int .i64 x3) (.int .u32 (num L4)) (.int .u32 (num L8)) (.int .u32 (num L12)) (.int .i64 (num L16)) (.int .i64 (num L18)))) := Lib.hid (below_st8 t_Y17 ga.out _ _ _ _ _ _ _ _)
                have hne : g ≠ k17 := by have := HG.out; have := ga.out; omega
                have KF : Hid ((st8 Y17 k17 (Value.int .i64 (num L0)) (.int .i64 x2) (.int .i64 x3) (.int .u32 (num L4)) (.int .u32 (num L8)) (.int .u32 (num L12)) (.int .i64 (num L16)) (.int .i64 (num L18))).cell? ⟨g, 2, none⟩ = some (.int .u8 x2) ∧ (st8 Y17 k17 (Value.int .i64 (num L0)) (.int .i64 x2) (.int .i64 x3) (.int .u32 (num L4)) (.int .u32 (num L8)) (.int .u32 (num L12)) (.int .i64 (num L16)) (.int .i64 (num L18))).cell? ⟨g, 3, none⟩ = some (.int .u8 x3)) := Lib.hid <| by
                  obtain ⟨e2, e3⟩ := KS.out _ t_Y17
                  exact ⟨(cell_st8 (p := ⟨g, 2, none⟩) hne _ _ _ _ _ _ _ _).trans e2, (cell_st8 (p := ⟨g, 3, none⟩) hne _ _ _ _ _ _ _ _).trans e3⟩
                clear hHeld
                go_simp
                refine hK.out _ _ KF.out (fun _ => ?_)
                clear hK K
                refine wpAnyH_done (by kernel_rfl) ?_ _
                go_wp2_with fail
                go_meet
                case rel => exact ⟨_, rfl, ga, TF, KR⟩
              refine AllReadyH.cons rfl (fun K hK => ?_) AllReadyH.nil
              go_simp
              obtain ⟨Y16, hY16⟩ : ∃ V, Y15.alloc (.cells #[Value.int .i64 0, .int .i64 0, .int .i64 0, .int .u32 0, .int .u32 0, .int .u32 0, .int .i64 0, .int .i64 0] 85) = V := ⟨_, rfl⟩
              have u16 : Below Y15.heap.size Y15 Y16 := by rw [← hY16]; exact below_alloc1 _ _
              have kz := At.mk hY16
              have t_Y16 : Below Y1.heap.size Y1 Y16 := t_Y15.trans (u16.mono t_Y15.size)
              obtain ⟨k16, hk16⟩ : ∃ k, Y15.heap.size = k := ⟨_, rfl⟩
              rw [hk16] at kz
              have ga : Hid (Y1.heap.size ≤ k16) := Lib.hid (by rw [← hk16]; exact t_Y15.size)
              try rw [hY16]
              try rw [hk16]
              clear hY16 hk16
              refine hK.out _ _ (KS.out _ t_Y16) (fun _ => ?_)
              clear hK K
              refine wpAnyH_ready (rs := [27]) (by kernel_rfl) (by simp) ?_
              refine AllReadyH.cons rfl (fun K hK => ?_) AllReadyH.nil
              go_simp
              go_at_call 80
              refine (number_any _ 2 _ L18 Y16 (q18.step t_Y16) z18 l18 (by omega) (by decide) (by decide)).mono ?_
              rintro e Y17 ⟨rfl, u17⟩
              have t_Y17 : Below Y1.heap.size Y1 Y17 := t_Y16.trans (u17.mono t_Y16.size)
              replace kz := kz.step u17
              refine hK.out _ _ (KS.out _ t_Y17) (fun _ => ?_)
              clear hK K
              refine wpAnyH_take (i := 28) (v := .int .i64 (num L18)) rfl (by kernel_rfl) (by kernel_rfl) (by kernel_rfl) (fun _ _ _ h => h) (Or.inl ⟨by rfl, ?_⟩) (by assumption) ?_
              · (intro w' hSw; (try dsimp only at hSw); go_simp; rw [wrap_i64 (by omega) (by omega)])
              simp only [Act.put, List.getElem_toArray, List.getElem_cons_zero, List.getElem_cons_succ, List.setIfInBounds_toArray, List.set_cons_zero, List.set_cons_succ]
              refine wpAnyH_take (i := 29) (v := .agg #[.int .i64 (num L0), .int .i64 x2, .int .i64 x3, .int .u32 (num L4), .int .u32 (num L8), .int .u32 (num L12), .int .i64 (num L16), .int .i64 (num L18)]) rfl (by kernel_rfl) (by kernel_rfl) (by kernel_rfl) (fun _ _ _ h => h) (Or.inl ⟨by rfl, ?_⟩) (by assumption) ?_
              · (intro w' hSw; (try dsimp only at hSw); go_simp; try rfl)
              simp only [Act.put, List.getElem_toArray, List.getElem_cons_zero, List.getElem_cons_succ, List.setIfInBounds_toArray, List.set_cons_zero, List.set_cons_succ]
              refine wpAnyH_ready (rs := [31]) (by kernel_rfl) (by simp) ?_
              refine AllReadyH.cons rfl (fun K hK => ?_) AllReadyH.nil
              obtain ⟨a0, a1, a2, a3, a4, a5, a6, a7, f0, f1, f2, f3, f4, f5, f6, f7, hzl⟩ := kz8_at kz
              have KR : Hid (At (st8 Y17 k16 (Value.int .i64 (num L0)) (.int .i64 x2) (.int .i64 x3) (.int .u32 (num L4)) (.int .u32 (num L8)) (.int .u32 (num L12)) (.int .i64 (num L16)) (.int .i64 (num L18))) k16 (.cells #[.int .i64 (num L0), .int .i64 x2, .int .i64 x3, .int .u32 (num L4), .int .u32 (num L8), .int .u32 (num L12), .int .i64 (num L16), .int .i64 (num L18)] 85)) := Lib.hid (kz8_set kz (Value.int .i64 (num L0)) (.int .i64 x2) (.int .i64 x3) (.int .u32 (num L4)) (.int .u32 (num L8)) (.int .u32 (num L12)) (.int .i64 (num L16)) (.int .i64 (num L18)))
              have TF : Hid (Below Y1.heap.size Y1 (st8 Y17 k16 (Value.int .i64 (num L0)) (.int .i64 x2) (.int .i64 x3) (.int .u32 (num L4)) (.int .u32 (num L8)) (.int .u32 (num L12)) (.int .i64 (num L16)) (.int .i64 (num L18)))) := Lib.hid (below_st8 t_Y17 ga.out _ _ _ _ _ _ _ _)
              have hne : g ≠ k16 := by have := HG.out; have := ga.out; omega
              have KF : Hid ((st8 Y17 k16 (Value.int .i64 (num L0)) (.int .i64 x2) (.int .i64 x3) (.int .u32 (num L4)) (.int .u32 (num L8)) (.int .u32 (num L12)) (.int .i64 (num L16)) (.int .i64 (num L18))).cell? ⟨g, 2, none⟩ = some (.int .u8 x2) ∧ (st8 Y17 k16 (Value.int .i64 (num L0)) (.int .i64 x2) (.int .i64 x3) (.int .u32 (num L4)) (.int .u32 (num L8)) (.int .u32 (num L12)) (.int .i64 (num L16)) (.int .i64 (num L18))).cell? ⟨g, 3, none⟩ = some (.int .u8 x3)) := Lib.hid <| by
                obtain ⟨e2, e3⟩ := KS.out _ t_Y17
                exact ⟨(cell_st8 (p := ⟨g, 2, none⟩) hne _ _ _ _ _ _ _ _).trans e2, (cell_st8 (p := ⟨g, 3, none⟩) hne _ _ _ _ _ _ _ _).trans e3⟩
              clear hHeld
              go_simp
              refine hK.out _ _ KF.out (fun _ => ?_)
              clear hK K
              refine wpAnyH_done (by kernel_rfl) ?_ _
              go_wp2_with fail
              go_meet
              case rel => exact ⟨_, rfl, ga, TF, KR⟩
            refine AllReadyH.cons rfl (fun K hK => ?_) AllReadyH.nil
            go_simp
            obtain ⟨Y15, hY15⟩ : ∃ V, Y14.alloc (.cells #[Value.int .i64 0, .int .i64 0, .int .i64 0, .int .u32 0, .int .u32 0, .int .u32 0, .int .i64 0, .int .i64 0] 85) = V := ⟨_, rfl⟩
            have u15 : Below Y14.heap.size Y14 Y15 := by rw [← hY15]; exact below_alloc1 _ _
            have kz := At.mk hY15
            have t_Y15 : Below Y1.heap.size Y1 Y15 := t_Y14.trans (u15.mono t_Y14.size)
            obtain ⟨k15, hk15⟩ : ∃ k, Y14.heap.size = k := ⟨_, rfl⟩
            rw [hk15] at kz
            have ga : Hid (Y1.heap.size ≤ k15) := Lib.hid (by rw [← hk15]; exact t_Y14.size)
            try rw [hY15]
            try rw [hk15]
            clear hY15 hk15
            refine hK.out _ _ (KS.out _ t_Y15) (fun _ => ?_)
            clear hK K
            refine wpAnyH_ready (rs := [23]) (by kernel_rfl) (by simp) ?_
            refine AllReadyH.cons rfl (fun K hK => ?_) AllReadyH.nil
            go_simp
            go_at_call 80
            refine (number_any _ 2 _ L16 Y15 (q16.step t_Y15) z16 l16 (by omega) (by decide) (by decide)).mono ?_
            rintro e Y16 ⟨rfl, u16⟩
            have t_Y16 : Below Y1.heap.size Y1 Y16 := t_Y15.trans (u16.mono t_Y15.size)
            replace kz := kz.step u16
            refine hK.out _ _ (KS.out _ t_Y16) (fun _ => ?_)
            clear hK K
            refine wpAnyH_take (i := 24) (v := .int .i64 (num L16)) rfl (by kernel_rfl) (by kernel_rfl) (by kernel_rfl) (fun _ _ _ h => h) (Or.inl ⟨by rfl, ?_⟩) (by assumption) ?_
            · (intro w' hSw; (try dsimp only at hSw); go_simp; rw [wrap_i64 (by omega) (by omega)])
            simp only [Act.put, List.getElem_toArray, List.getElem_cons_zero, List.getElem_cons_succ, List.setIfInBounds_toArray, List.set_cons_zero, List.set_cons_succ]
            refine wpAnyH_ready (rs := [27]) (by kernel_rfl) (by simp) ?_
            refine AllReadyH.cons rfl (fun K hK => ?_) AllReadyH.nil
            go_simp
            go_at_call 80
            refine (number_any _ 2 _ L18 Y16 (q18.step t_Y16) z18 l18 (by omega) (by decide) (by decide)).mono ?_
            rintro e Y17 ⟨rfl, u17⟩
            have t_Y17 : Below Y1.heap.size Y1 Y17 := t_Y16.trans (u17.mono t_Y16.size)
            replace kz := kz.step u17
            refine hK.out _ _ (KS.out _ t_Y17) (fun _ => ?_)
            clear hK K
            refine wpAnyH_take (i := 28) (v := .int .i64 (num L18)) rfl (by kernel_rfl) (by kernel_rfl) (by kernel_rfl) (fun _ _ _ h => h) (Or.inl ⟨by rfl, ?_⟩) (by assumption) ?_
            · (intro w' hSw; (try dsimp only at hSw); go_simp; rw [wrap_i64 (by omega) (by omega)])
            simp only [Act.put, List.getElem_toArray, List.getElem_cons_zero, List.getElem_cons_succ, List.setIfInBounds_toArray, List.set_cons_zero, List.set_cons_succ]
            refine wpAnyH_take (i := 29) (v := .agg #[.int .i64 (num L0), .int .i64 x2, .int .i64 x3, .int .u32 (num L4), .int .u32 (num L8), .int .u32 (num L12), .int .i64 (num L16), .int .i64 (num L18)]) rfl (by kernel_rfl) (by kernel_rfl) (by kernel_rfl) (fun _ _ _ h => h) (Or.inl ⟨by rfl, ?_⟩) (by assumption) ?_
            · (intro w' hSw; (try dsimp only at hSw); go_simp; try rfl)
            simp only [Act.put, List.getElem_toArray, List.getElem_cons_zero, List.getElem_cons_succ, List.setIfInBounds_toArray, List.set_cons_zero, List.set_cons_succ]
            refine wpAnyH_ready (rs := [31]) (by kernel_rfl) (by simp) ?_
            refine AllReadyH.cons rfl (fun K hK => ?_) AllReadyH.nil
            obtain ⟨a0, a1, a2, a3, a4, a5, a6, a7, f0, f1, f2, f3, f4, f5, f6, f7, hzl⟩ := kz8_at kz
            have KR : Hid (At (st8 Y17 k15 (Value.int .i64 (num L0)) (.int .i64 x2) (.int .i64 x3) (.int .u32 (num L4)) (.int .u32 (num L8)) (.int .u32 (num L12)) (.int .i64 (num L16)) (.int .i64 (num L18))) k15 (.cells #[.int .i64 (num L0), .int .i64 x2, .int .i64 x3, .int .u32 (num L4), .int .u32 (num L8), .int .u32 (num L12), .int .i64 (num L16), .int .i64 (num L18)] 85)) := Lib.hid (kz8_set kz (Value.int .i64 (num L0)) (.int .i64 x2) (.int .i64 x3) (.int .u32 (num L4)) (.int .u32 (num L8)) (.int .u32 (num L12)) (.int .i64 (num L16)) (.int .i64 (num L18)))
            have TF : Hid (Below Y1.heap.size Y1 (st8 Y17 k15 (Value.int .i64 (num L0)) (.int .i64 x2) (.int .i64 x3) (.int .u32 (num L4)) (.int .u32 (num L8)) (.int .u32 (num L12)) (.int .i64 (num L16)) (.int .i64 (num L18)))) := Lib.hid (below_st8 t_Y17 ga.out _ _ _ _ _ _ _ _)
            have hne : g ≠ k15 := by have := HG.out; have := ga.out; omega
            have KF : Hid ((st8 Y17 k15 (Value.int .i64 (num L0)) (.int .i64 x2) (.int .i64 x3) (.int .u32 (num L4)) (.int .u32 (num L8)) (.int .u32 (num L12)) (.int .i64 (num L16)) (.int .i64 (num L18))).cell? ⟨g, 2, none⟩ = some (.int .u8 x2) ∧ (st8 Y17 k15 (Value.int .i64 (num L0)) (.int .i64 x2) (.int .i64 x3) (.int .u32 (num L4)) (.int .u32 (num L8)) (.int .u32 (num L12)) (.int .i64 (num L16)) (.int .i64 (num L18))).cell? ⟨g, 3, none⟩ = some (.int .u8 x3)) := Lib.hid <| by
              obtain ⟨e2, e3⟩ := KS.out _ t_Y17
              exact ⟨(cell_st8 (p := ⟨g, 2, none⟩) hne _ _ _ _ _ _ _ _).trans e2, (cell_st8 (p := ⟨g, 3, none⟩) hne _ _ _ _ _ _ _ _).trans e3⟩
            clear hHeld
            go_simp
            refine hK.out _ _ KF.out (fun _ => ?_)
            clear hK K
            refine wpAnyH_done (by kernel_rfl) ?_ _
            go_wp2_with fail
            go_meet
            case rel => exact ⟨_, rfl, ga, TF, KR⟩
          refine AllReadyH.cons rfl (fun K hK => ?_) AllReadyH.nil
          go_simp
          obtain ⟨Y14, hY14⟩ : ∃ V, Y13.alloc (.cells #[Value.int .i64 0, .int .i64 0, .int .i64 0, .int .u32 0, .int .u32 0, .int .u32 0, .int .i64 0, .int .i64 0] 85) = V := ⟨_, rfl⟩
          have u14 : Below Y13.heap.size Y13 Y14 := by rw [← hY14]; exact below_alloc1 _ _
          have kz := At.mk hY14
          have t_Y14 : Below Y1.heap.size Y1 Y14 := t_Y13.trans (u14.mono t_Y13.size)
          obtain ⟨k14, hk14⟩ : ∃ k, Y13.heap.size = k := ⟨_, rfl⟩
          rw [hk14] at kz
          have ga : Hid (Y1.heap.size ≤ k14) := Lib.hid (by rw [← hk14]; exact t_Y13.size)
          try rw [hY14]
          try rw [hk14]
          clear hY14 hk14
          refine hK.out _ _ (KS.out _ t_Y14) (fun _ => ?_)
          clear hK K
          refine wpAnyH_ready (rs := [20]) (by kernel_rfl) (by simp) ?_
          refine AllReadyH.cons rfl (fun K hK => ?_) AllReadyH.nil
          go_simp
          go_at_call 80
          refine (number_any _ 4 _ L12 Y14 (q12.step t_Y14) z12 l12 (by omega) (by decide) (by decide)).mono ?_
          rintro e Y15 ⟨rfl, u15⟩
          have t_Y15 : Below Y1.heap.size Y1 Y15 := t_Y14.trans (u15.mono t_Y14.size)
          replace kz := kz.step u15
          refine hK.out _ _ (KS.out _ t_Y15) (fun _ => ?_)
          clear hK K
          refine wpAnyH_ready (rs := [23]) (by kernel_rfl) (by simp) ?_
          refine AllReadyH.cons rfl (fun K hK => ?_) AllReadyH.nil
          go_simp
          go_at_call 80
          refine (number_any _ 2 _ L16 Y15 (q16.step t_Y15) z16 l16 (by omega) (by decide) (by decide)).mono ?_
          rintro e Y16 ⟨rfl, u16⟩
          have t_Y16 : Below Y1.heap.size Y1 Y16 := t_Y15.trans (u16.mono t_Y15.size)
          replace kz := kz.step u16
          refine hK.out _ _ (KS.out _ t_Y16) (fun _ => ?_)
          clear hK K
          refine wpAnyH_take (i := 24) (v := .int .i64 (num L16)) rfl (by kernel_rfl) (by kernel_rfl) (by kernel_rfl) (fun _ _ _ h => h) (Or.inl ⟨by rfl, ?_⟩) (by assumption) ?_
          · (intro w' hSw; (try dsimp only at hSw); go_simp; rw [wrap_i64 (by omega) (by omega)])
          simp only [Act.put, List.getElem_toArray, List.getElem_cons_zero, List.getElem_cons_succ, List.setIfInBounds_toArray, List.set_cons_zero, List.set_cons_succ]
          refine wpAnyH_ready (rs := [27]) (by kernel_rfl) (by simp) ?_
          refine AllReadyH.cons rfl (fun K hK => ?_) AllReadyH.nil
          go_simp
          go_at_call 80
          refine (number_any _ 2 _ L18 Y16 (q18.step t_Y16) z18 l18 (by omega) (by decide) (by decide)).mono ?_
          rintro e Y17 ⟨rfl, u17⟩
          have t_Y17 : Below Y1.heap.size Y1 Y17 := t_Y16.trans (u17.mono t_Y16.size)
          replace kz := kz.step u17
          refine hK.out _ _ (KS.out _ t_Y17) (fun _ => ?_)
          clear hK K
          refine wpAnyH_take (i := 28) (v := .int .i64 (num L18)) rfl (by kernel_rfl) (by kernel_rfl) (by kernel_rfl) (fun _ _ _ h => h) (Or.inl ⟨by rfl, ?_⟩) (by assumption) ?_
          · (intro w' hSw; (try dsimp only at hSw); go_simp; rw [wrap_i64 (by omega) (by omega)])
          simp only [Act.put, List.getElem_toArray, List.getElem_cons_zero, List.getElem_cons_succ, List.setIfInBounds_toArray, List.set_cons_zero, List.set_cons_succ]
          refine wpAnyH_take (i := 29) (v := .agg #[.int .i64 (num L0), .int .i64 x2, .int .i64 x3, .int .u32 (num L4), .int .u32 (num L8), .int .u32 (num L12), .int .i64 (num L16), .int .i64 (num L18)]) rfl (by kernel_rfl) (by kernel_rfl) (by kernel_rfl) (fun _ _ _ h => h) (Or.inl ⟨by rfl, ?_⟩) (by assumption) ?_
          · (intro w' hSw; (try dsimp only at hSw); go_simp; try rfl)
          simp only [Act.put, List.getElem_toArray, List.getElem_cons_zero, List.getElem_cons_succ, List.setIfInBounds_toArray, List.set_cons_zero, List.set_cons_succ]
          refine wpAnyH_ready (rs := [31]) (by kernel_rfl) (by simp) ?_
          refine AllReadyH.cons rfl (fun K hK => ?_) AllReadyH.nil
          obtain ⟨a0, a1, a2, a3, a4, a5, a6, a7, f0, f1, f2, f3, f4, f5, f6, f7, hzl⟩ := kz8_at kz
          have KR : Hid (At (st8 Y17 k14 (Value.int .i64 (num L0)) (.int .i64 x2) (.int .i64 x3) (.int .u32 (num L4)) (.int .u32 (num L8)) (.int .u32 (num L12)) (.int .i64 (num L16)) (.int .i64 (num L18))) k14 (.cells #[.int .i64 (num L0), .int .i64 x2, .int .i64 x3, .int .u32 (num L4), .int .u32 (num L8), .int .u32 (num L12), .int .i64 (num L16), .int .i64 (num L18)] 85)) := Lib.hid (kz8_set kz (Value.int .i64 (num L0)) (.int .i64 x2) (.int .i64 x3) (.int .u32 (num L4)) (.int .u32 (num L8)) (.int .u32 (num L12)) (.int .i64 (num L16)) (.int .i64 (num L18)))
          have TF : Hid (Below Y1.heap.size Y1 (st8 Y17 k14 (Value.int .i64 (num L0)) (.int .i64 x2) (.int .i64 x3) (.int .u32 (num L4)) (.int .u32 (num L8)) (.int .u32 (num L12)) (.int .i64 (num L16)) (.int .i64 (num L18)))) := Lib.hid (below_st8 t_Y17 ga.out _ _ _ _ _ _ _ _)
          have hne : g ≠ k14 := by have := HG.out; have := ga.out; omega
          have KF : Hid ((st8 Y17 k14 (Value.int .i64 (num L0)) (.int .i64 x2) (.int .i64 x3) (.int .u32 (num L4)) (.int .u32 (num L8)) (.int .u32 (num L12)) (.int .i64 (num L16)) (.int .i64 (num L18))).cell? ⟨g, 2, none⟩ = some (.int .u8 x2) ∧ (st8 Y17 k14 (Value.int .i64 (num L0)) (.int .i64 x2) (.int .i64 x3) (.int .u32 (num L4)) (.int .u32 (num L8)) (.int .u32 (num L12)) (.int .i64 (num L16)) (.int .i64 (num L18))).cell? ⟨g, 3, none⟩ = some (.int .u8 x3)) := Lib.hid <| by
            obtain ⟨e2, e3⟩ := KS.out _ t_Y17
            exact ⟨(cell_st8 (p := ⟨g, 2, none⟩) hne _ _ _ _ _ _ _ _).trans e2, (cell_st8 (p := ⟨g, 3, none⟩) hne _ _ _ _ _ _ _ _).trans e3⟩
          clear hHeld
          go_simp
          refine hK.out _ _ KF.out (fun _ => ?_)
          clear hK K
          refine wpAnyH_done (by kernel_rfl) ?_ _
          go_wp2_with fail
          go_meet
          case rel => exact ⟨_, rfl, ga, TF, KR⟩
        refine AllReadyH.cons rfl (fun K hK => ?_) AllReadyH.nil
        go_simp
        obtain ⟨Y13, hY13⟩ : ∃ V, Y12.alloc (.cells #[Value.int .i64 0, .int .i64 0, .int .i64 0, .int .u32 0, .int .u32 0, .int .u32 0, .int .i64 0, .int .i64 0] 85) = V := ⟨_, rfl⟩
        have u13 : Below Y12.heap.size Y12 Y13 := by rw [← hY13]; exact below_alloc1 _ _
        have kz := At.mk hY13
        have t_Y13 : Below Y1.heap.size Y1 Y13 := t_Y12.trans (u13.mono t_Y12.size)
        obtain ⟨k13, hk13⟩ : ∃ k, Y12.heap.size = k := ⟨_, rfl⟩
        rw [hk13] at kz
        have ga : Hid (Y1.heap.size ≤ k13) := Lib.hid (by rw [← hk13]; exact t_Y12.size)
        try rw [hY13]
        try rw [hk13]
        clear hY13 hk13
        refine hK.out _ _ (KS.out _ t_Y13) (fun _ => ?_)
        clear hK K
        refine wpAnyH_ready (rs := [17]) (by kernel_rfl) (by simp) ?_
        refine AllReadyH.cons rfl (fun K hK => ?_) AllReadyH.nil
        go_simp
        go_at_call 80
        refine (number_any _ 4 _ L8 Y13 (q8.step t_Y13) z8 l8 (by omega) (by decide) (by decide)).mono ?_
        rintro e Y14 ⟨rfl, u14⟩
        have t_Y14 : Below Y1.heap.size Y1 Y14 := t_Y13.trans (u14.mono t_Y13.size)
        replace kz := kz.step u14
        refine hK.out _ _ (KS.out _ t_Y14) (fun _ => ?_)
        clear hK K
        refine wpAnyH_ready (rs := [20]) (by kernel_rfl) (by simp) ?_
        refine AllReadyH.cons rfl (fun K hK => ?_) AllReadyH.nil
        go_simp
        go_at_call 80
        refine (number_any _ 4 _ L12 Y14 (q12.step t_Y14) z12 l12 (by omega) (by decide) (by decide)).mono ?_
        rintro e Y15 ⟨rfl, u15⟩
        have t_Y15 : Below Y1.heap.size Y1 Y15 := t_Y14.trans (u15.mono t_Y14.size)
        replace kz := kz.step u15
        refine hK.out _ _ (KS.out _ t_Y15) (fun _ => ?_)
        clear hK K
        refine wpAnyH_ready (rs := [23]) (by kernel_rfl) (by simp) ?_
        refine AllReadyH.cons rfl (fun K hK => ?_) AllReadyH.nil
        go_simp
        go_at_call 80
        refine (number_any _ 2 _ L16 Y15 (q16.step t_Y15) z16 l16 (by omega) (by decide) (by decide)).mono ?_
        rintro e Y16 ⟨rfl, u16⟩
        have t_Y16 : Below Y1.heap.size Y1 Y16 := t_Y15.trans (u16.mono t_Y15.size)
        replace kz := kz.step u16
        refine hK.out _ _ (KS.out _ t_Y16) (fun _ => ?_)
        clear hK K
        refine wpAnyH_take (i := 24) (v := .int .i64 (num L16)) rfl (by kernel_rfl) (by kernel_rfl) (by kernel_rfl) (fun _ _ _ h => h) (Or.inl ⟨by rfl, ?_⟩) (by assumption) ?_
        · (intro w' hSw; (try dsimp only at hSw); go_simp; rw [wrap_i64 (by omega) (by omega)])
        simp only [Act.put, List.getElem_toArray, List.getElem_cons_zero, List.getElem_cons_succ, List.setIfInBounds_toArray, List.set_cons_zero, List.set_cons_succ]
        refine wpAnyH_ready (rs := [27]) (by kernel_rfl) (by simp) ?_
        refine AllReadyH.cons rfl (fun K hK => ?_) AllReadyH.nil
        go_simp
        go_at_call 80
        refine (number_any _ 2 _ L18 Y16 (q18.step t_Y16) z18 l18 (by omega) (by decide) (by decide)).mono ?_
        rintro e Y17 ⟨rfl, u17⟩
        have t_Y17 : Below Y1.heap.size Y1 Y17 := t_Y16.trans (u17.mono t_Y16.size)
        replace kz := kz.step u17
        refine hK.out _ _ (KS.out _ t_Y17) (fun _ => ?_)
        clear hK K
        refine wpAnyH_take (i := 28) (v := .int .i64 (num L18)) rfl (by kernel_rfl) (by kernel_rfl) (by kernel_rfl) (fun _ _ _ h => h) (Or.inl ⟨by rfl, ?_⟩) (by assumption) ?_
        · (intro w' hSw; (try dsimp only at hSw); go_simp; rw [wrap_i64 (by omega) (by omega)])
        simp only [Act.put, List.getElem_toArray, List.getElem_cons_zero, List.getElem_cons_succ, List.setIfInBounds_toArray, List.set_cons_zero, List.set_cons_succ]
        refine wpAnyH_take (i := 29) (v := .agg #[.int .i64 (num L0), .int .i64 x2, .int .i64 x3, .int .u32 (num L4), .int .u32 (num L8), .int .u32 (num L12), .int .i64 (num L16), .int .i64 (num L18)]) rfl (by kernel_rfl) (by kernel_rfl) (by kernel_rfl) (fun _ _ _ h => h) (Or.inl ⟨by rfl, ?_⟩) (by assumption) ?_
        · (intro w' hSw; (try dsimp only at hSw); go_simp; try rfl)
        simp only [Act.put, List.getElem_toArray, List.getElem_cons_zero, List.getElem_cons_succ, List.setIfInBounds_toArray, List.set_cons_zero, List.set_cons_succ]
        refine wpAnyH_ready (rs := [31]) (by kernel_rfl) (by simp) ?_
        refine AllReadyH.cons rfl (fun K hK => ?_) AllReadyH.nil
        obtain ⟨a0, a1, a2, a3, a4, a5, a6, a7, f0, f1, f2, f3, f4, f5, f6, f7, hzl⟩ := kz8_at kz
        have KR : Hid (At (st8 Y17 k13 (Value.int .i64 (num L0)) (.int .i64 x2) (.int .i64 x3) (.int .u32 (num L4)) (.int .u32 (num L8)) (.int .u32 (num L12)) (.int .i64 (num L16)) (.int .i64 (num L18))) k13 (.cells #[.int .i64 (num L0), .int .i64 x2, .int .i64 x3, .int .u32 (num L4), .int .u32 (num L8), .int .u32 (num L12), .int .i64 (num L16), .int .i64 (num L18)] 85)) := Lib.hid (kz8_set kz (Value.int .i64 (num L0)) (.int .i64 x2) (.int .i64 x3) (.int .u32 (num L4)) (.int .u32 (num L8)) (.int .u32 (num L12)) (.int .i64 (num L16)) (.int .i64 (num L18)))
        have TF : Hid (Below Y1.heap.size Y1 (st8 Y17 k13 (Value.int .i64 (num L0)) (.int .i64 x2) (.int .i64 x3) (.int .u32 (num L4)) (.int .u32 (num L8)) (.int .u32 (num L12)) (.int .i64 (num L16)) (.int .i64 (num L18)))) := Lib.hid (below_st8 t_Y17 ga.out _ _ _ _ _ _ _ _)
        have hne : g ≠ k13 := by have := HG.out; have := ga.out; omega
        have KF : Hid ((st8 Y17 k13 (Value.int .i64 (num L0)) (.int .i64 x2) (.int .i64 x3) (.int .u32 (num L4)) (.int .u32 (num L8)) (.int .u32 (num L12)) (.int .i64 (num L16)) (.int .i64 (num L18))).cell? ⟨g, 2, none⟩ = some (.int .u8 x2) ∧ (st8 Y17 k13 (Value.int .i64 (num L0)) (.int .i64 x2) (.int .i64 x3) (.int .u32 (num L4)) (.int .u32 (num L8)) (.int .u32 (num L12)) (.int .i64 (num L16)) (.int .i64 (num L18))).cell? ⟨g, 3, none⟩ = some (.int .u8 x3)) := Lib.hid <| by
          obtain ⟨e2, e3⟩ := KS.out _ t_Y17
          exact ⟨(cell_st8 (p := ⟨g, 2, none⟩) hne _ _ _ _ _ _ _ _).trans e2, (cell_st8 (p := ⟨g, 3, none⟩) hne _ _ _ _ _ _ _ _).trans e3⟩
        clear hHeld
        go_simp
        refine hK.out _ _ KF.out (fun _ => ?_)
        clear hK K
        refine wpAnyH_done (by kernel_rfl) ?_ _
        go_wp2_with fail
        go_meet
        case rel => exact ⟨_, rfl, ga, TF, KR⟩
      refine AllReadyH.cons rfl (fun K hK => ?_) AllReadyH.nil
      go_simp
      obtain ⟨Y12, hY12⟩ : ∃ V, Y11.alloc (.cells #[Value.int .i64 0, .int .i64 0, .int .i64 0, .int .u32 0, .int .u32 0, .int .u32 0, .int .i64 0, .int .i64 0] 85) = V := ⟨_, rfl⟩
      have u12 : Below Y11.heap.size Y11 Y12 := by rw [← hY12]; exact below_alloc1 _ _
      have kz := At.mk hY12
      have t_Y12 : Below Y1.heap.size Y1 Y12 := t_Y11.trans (u12.mono t_Y11.size)
      obtain ⟨k12, hk12⟩ : ∃ k, Y11.heap.size = k := ⟨_, rfl⟩
      rw [hk12] at kz
      have ga : Hid (Y1.heap.size ≤ k12) := Lib.hid (by rw [← hk12]; exact t_Y11.size)
      try rw [hY12]
      try rw [hk12]
      clear hY12 hk12
      refine hK.out _ _ (KS.out _ t_Y12) (fun _ => ?_)
      clear hK K
      refine wpAnyH_ready (rs := [14]) (by kernel_rfl) (by simp) ?_
      refine AllReadyH.cons rfl (fun K hK => ?_) AllReadyH.nil
      go_simp
      go_at_call 80
      refine (number_any _ 4 _ L4 Y12 (q4.step t_Y12) z4 l4 (by omega) (by decide) (by decide)).mono ?_
      rintro e Y13 ⟨rfl, u13⟩
      have t_Y13 : Below Y1.heap.size Y1 Y13 := t_Y12.trans (u13.mono t_Y12.size)
      replace kz := kz.step u13
      refine hK.out _ _ (KS.out _ t_Y13) (fun _ => ?_)
      clear hK K
      refine wpAnyH_ready (rs := [17]) (by kernel_rfl) (by simp) ?_
      refine AllReadyH.cons rfl (fun K hK => ?_) AllReadyH.nil
      go_simp
      go_at_call 80
      refine (number_any _ 4 _ L8 Y13 (q8.step t_Y13) z8 l8 (by omega) (by decide) (by decide)).mono ?_
      rintro e Y14 ⟨rfl, u14⟩
      have t_Y14 : Below Y1.heap.size Y1 Y14 := t_Y13.trans (u14.mono t_Y13.size)
      replace kz := kz.step u14
      refine hK.out _ _ (KS.out _ t_Y14) (fun _ => ?_)
      clear hK K
      refine wpAnyH_ready (rs := [20]) (by kernel_rfl) (by simp) ?_
      refine AllReadyH.cons rfl (fun K hK => ?_) AllReadyH.nil
      go_simp
      go_at_call 80
      refine (number_any _ 4 _ L12 Y14 (q12.step t_Y14) z12 l12 (by omega) (by decide) (by decide)).mono ?_
      rintro e Y15 ⟨rfl, u15⟩
      have t_Y15 : Below Y1.heap.size Y1 Y15 := t_Y14.trans (u15.mono t_Y14.size)
      replace kz := kz.step u15
      refine hK.out _ _ (KS.out _ t_Y15) (fun _ => ?_)
      clear hK K
      refine wpAnyH_ready (rs := [23]) (by kernel_rfl) (by simp) ?_
      refine AllReadyH.cons rfl (fun K hK => ?_) AllReadyH.nil
      go_simp
      go_at_call 80
      refine (number_any _ 2 _ L16 Y15 (q16.step t_Y15) z16 l16 (by omega) (by decide) (by decide)).mono ?_
      rintro e Y16 ⟨rfl, u16⟩
      have t_Y16 : Below Y1.heap.size Y1 Y16 := t_Y15.trans (u16.mono t_Y15.size)
      replace kz := kz.step u16
      refine hK.out _ _ (KS.out _ t_Y16) (fun _ => ?_)
      clear hK K
      refine wpAnyH_take (i := 24) (v := .int .i64 (num L16)) rfl (by kernel_rfl) (by kernel_rfl) (by kernel_rfl) (fun _ _ _ h => h) (Or.inl ⟨by rfl, ?_⟩) (by assumption) ?_
      · (intro w' hSw; (try dsimp only at hSw); go_simp; rw [wrap_i64 (by omega) (by omega)])
      simp only [Act.put, List.getElem_toArray, List.getElem_cons_zero, List.getElem_cons_succ, List.setIfInBounds_toArray, List.set_cons_zero, List.set_cons_succ]
      refine wpAnyH_ready (rs := [27]) (by kernel_rfl) (by simp) ?_
      refine AllReadyH.cons rfl (fun K hK => ?_) AllReadyH.nil
      go_simp
      go_at_call 80
      refine (number_any _ 2 _ L18 Y16 (q18.step t_Y16) z18 l18 (by omega) (by decide) (by decide)).mono ?_
      rintro e Y17 ⟨rfl, u17⟩
      have t_Y17 : Below Y1.heap.size Y1 Y17 := t_Y16.trans (u17.mono t_Y16.size)
      replace kz := kz.step u17
      refine hK.out _ _ (KS.out _ t_Y17) (fun _ => ?_)
      clear hK K
      refine wpAnyH_take (i := 28) (v := .int .i64 (num L18)) rfl (by kernel_rfl) (by kernel_rfl) (by kernel_rfl) (fun _ _ _ h => h) (Or.inl ⟨by rfl, ?_⟩) (by assumption) ?_
      · (intro w' hSw; (try dsimp only at hSw); go_simp; rw [wrap_i64 (by omega) (by omega)])
      simp only [Act.put, List.getElem_toArray, List.getElem_cons_zero, List.getElem_cons_succ, List.setIfInBounds_toArray, List.set_cons_zero, List.set_cons_succ]
      refine wpAnyH_take (i := 29) (v := .agg #[.int .i64 (num L0), .int .i64 x2, .int .i64 x3, .int .u32 (num L4), .int .u32 (num L8), .int .u32 (num L12), .int .i64 (num L16), .int .i64 (num L18)]) rfl (by kernel_rfl) (by kernel_rfl) (by kernel_rfl) (fun _ _ _ h => h) (Or.inl ⟨by rfl, ?_⟩) (by assumption) ?_
      · (intro w' hSw; (try dsimp only at hSw); go_simp; try rfl)
      simp only [Act.put, List.getElem_toArray, List.getElem_cons_zero, List.getElem_cons_succ, List.setIfInBounds_toArray, List.set_cons_zero, List.set_cons_succ]
      refine wpAnyH_ready (rs := [31]) (by kernel_rfl) (by simp) ?_
      refine AllReadyH.cons rfl (fun K hK => ?_) AllReadyH.nil
      obtain ⟨a0, a1, a2, a3, a4, a5, a6, a7, f0, f1, f2, f3, f4, f5, f6, f7, hzl⟩ := kz8_at kz
      have KR : Hid (At (st8 Y17 k12 (Value.int .i64 (num L0)) (.int .i64 x2) (.int .i64 x3) (.int .u32 (num L4)) (.int .u32 (num L8)) (.int .u32 (num L12)) (.int .i64 (num L16)) (.int .i64 (num L18))) k12 (.cells #[.int .i64 (num L0), .int .i64 x2, .int .i64 x3, .int .u32 (num L4), .int .u32 (num L8), .int .u32 (num L12), .int .i64 (num L16), .int .i64 (num L18)] 85)) := Lib.hid (kz8_set kz (Value.int .i64 (num L0)) (.int .i64 x2) (.int .i64 x3) (.int .u32 (num L4)) (.int .u32 (num L8)) (.int .u32 (num L12)) (.int .i64 (num L16)) (.int .i64 (num L18)))
      have TF : Hid (Below Y1.heap.size Y1 (st8 Y17 k12 (Value.int .i64 (num L0)) (.int .i64 x2) (.int .i64 x3) (.int .u32 (num L4)) (.int .u32 (num L8)) (.int .u32 (num L12)) (.int .i64 (num L16)) (.int .i64 (num L18)))) := Lib.hid (below_st8 t_Y17 ga.out _ _ _ _ _ _ _ _)
      have hne : g ≠ k12 := by have := HG.out; have := ga.out; omega
      have KF : Hid ((st8 Y17 k12 (Value.int .i64 (num L0)) (.int .i64 x2) (.int .i64 x3) (.int .u32 (num L4)) (.int .u32 (num L8)) (.int .u32 (num L12)) (.int .i64 (num L16)) (.int .i64 (num L18))).cell? ⟨g, 2, none⟩ = some (.int .u8 x2) ∧ (st8 Y17 k12 (Value.int .i64 (num L0)) (.int .i64 x2) (.int .i64 x3) (.int .u32 (num L4)) (.int .u32 (num L8)) (.int .u32 (num L12)) (.int .i64 (num L16)) (.int .i64 (num L18))).cell? ⟨g, 3, none⟩ = some (.int .u8 x3)) := Lib.hid <| by
        obtain ⟨e2, e3⟩ := KS.out _ t_Y17
        exact ⟨(cell_st8 (p := ⟨g, 2, none⟩) hne _ _ _ _ _ _ _ _).trans e2, (cell_st8 (p := ⟨g, 3, none⟩) hne _ _ _ _ _ _ _ _).trans e3⟩
      clear hHeld
      go_simp
      refine hK.out _ _ KF.out (fun _ => ?_)
      clear hK K
      refine wpAnyH_done (by kernel_rfl) ?_ _
      go_wp2_with fail
      go_meet
      case rel => exact ⟨_, rfl, ga, TF, KR⟩
    refine AllReadyH.cons rfl (fun K hK => ?_) AllReadyH.nil
    go_simp
    obtain ⟨Y11, hY11⟩ : ∃ V, X0.alloc (.cells #[Value.int .i64 0, .int .i64 0, .int .i64 0, .int .u32 0, .int .u32 0, .int .u32 0, .int .i64 0, .int .i64 0] 85) = V := ⟨_, rfl⟩
    have u11 : Below X0.heap.size X0 Y11 := by rw [← hY11]; exact below_alloc1 _ _
    have kz := At.mk hY11
    have t_Y11 : Below Y1.heap.size Y1 Y11 := tt.trans (u11.mono tt.size)
    obtain ⟨k11, hk11⟩ : ∃ k, X0.heap.size = k := ⟨_, rfl⟩
    rw [hk11] at kz
    have ga : Hid (Y1.heap.size ≤ k11) := Lib.hid (by rw [← hk11]; exact tt.size)
    try rw [hY11]
    try rw [hk11]
    clear hY11 hk11
    refine hK.out _ _ (KS.out _ t_Y11) (fun _ => ?_)
    clear hK K
    refine wpAnyH_ready (rs := [2]) (by kernel_rfl) (by simp) ?_
    refine AllReadyH.cons rfl (fun K hK => ?_) AllReadyH.nil
    go_simp
    go_at_call 80
    refine (number_any _ 2 _ L0 Y11 (q0.step t_Y11) z0 l0 (by omega) (by decide) (by decide)).mono ?_
    rintro e Y12 ⟨rfl, u12⟩
    have t_Y12 : Below Y1.heap.size Y1 Y12 := t_Y11.trans (u12.mono t_Y11.size)
    replace kz := kz.step u12
    refine hK.out _ _ (KS.out _ t_Y12) (fun _ => ?_)
    clear hK K
    refine wpAnyH_take (i := 3) (v := .int .i64 (num L0)) rfl (by kernel_rfl) (by kernel_rfl) (by kernel_rfl) (fun _ _ _ h => h) (Or.inl ⟨by rfl, ?_⟩) (by assumption) ?_
    · (intro w' hSw; (try dsimp only at hSw); go_simp; rw [wrap_i64 (by omega) (by omega)])
    simp only [Act.put, List.getElem_toArray, List.getElem_cons_zero, List.getElem_cons_succ, List.setIfInBounds_toArray, List.set_cons_zero, List.set_cons_succ]
    refine wpAnyH_ready (rs := [14]) (by kernel_rfl) (by simp) ?_
    refine AllReadyH.cons rfl (fun K hK => ?_) AllReadyH.nil
    go_simp
    go_at_call 80
    refine (number_any _ 4 _ L4 Y12 (q4.step t_Y12) z4 l4 (by omega) (by decide) (by decide)).mono ?_
    rintro e Y13 ⟨rfl, u13⟩
    have t_Y13 : Below Y1.heap.size Y1 Y13 := t_Y12.trans (u13.mono t_Y12.size)
    replace kz := kz.step u13
    refine hK.out _ _ (KS.out _ t_Y13) (fun _ => ?_)
    clear hK K
    refine wpAnyH_ready (rs := [17]) (by kernel_rfl) (by simp) ?_
    refine AllReadyH.cons rfl (fun K hK => ?_) AllReadyH.nil
    go_simp
    go_at_call 80
    refine (number_any _ 4 _ L8 Y13 (q8.step t_Y13) z8 l8 (by omega) (by decide) (by decide)).mono ?_
    rintro e Y14 ⟨rfl, u14⟩
    have t_Y14 : Below Y1.heap.size Y1 Y14 := t_Y13.trans (u14.mono t_Y13.size)
    replace kz := kz.step u14
    refine hK.out _ _ (KS.out _ t_Y14) (fun _ => ?_)
    clear hK K
    refine wpAnyH_ready (rs := [20]) (by kernel_rfl) (by simp) ?_
    refine AllReadyH.cons rfl (fun K hK => ?_) AllReadyH.nil
    go_simp
    go_at_call 80
    refine (number_any _ 4 _ L12 Y14 (q12.step t_Y14) z12 l12 (by omega) (by decide) (by decide)).mono ?_
    rintro e Y15 ⟨rfl, u15⟩
    have t_Y15 : Below Y1.heap.size Y1 Y15 := t_Y14.trans (u15.mono t_Y14.size)
    replace kz := kz.step u15
    refine hK.out _ _ (KS.out _ t_Y15) (fun _ => ?_)
    clear hK K
    refine wpAnyH_ready (rs := [23]) (by kernel_rfl) (by simp) ?_
    refine AllReadyH.cons rfl (fun K hK => ?_) AllReadyH.nil
    go_simp
    go_at_call 80
    refine (number_any _ 2 _ L16 Y15 (q16.step t_Y15) z16 l16 (by omega) (by decide) (by decide)).mono ?_
    rintro e Y16 ⟨rfl, u16⟩
    have t_Y16 : Below Y1.heap.size Y1 Y16 := t_Y15.trans (u16.mono t_Y15.size)
    replace kz := kz.step u16
    refine hK.out _ _ (KS.out _ t_Y16) (fun _ => ?_)
    clear hK K
    refine wpAnyH_take (i := 24) (v := .int .i64 (num L16)) rfl (by kernel_rfl) (by kernel_rfl) (by kernel_rfl) (fun _ _ _ h => h) (Or.inl ⟨by rfl, ?_⟩) (by assumption) ?_
    · (intro w' hSw; (try dsimp only at hSw); go_simp; rw [wrap_i64 (by omega) (by omega)])
    simp only [Act.put, List.getElem_toArray, List.getElem_cons_zero, List.getElem_cons_succ, List.setIfInBounds_toArray, List.set_cons_zero, List.set_cons_succ]
    refine wpAnyH_ready (rs := [27]) (by kernel_rfl) (by simp) ?_
    refine AllReadyH.cons rfl (fun K hK => ?_) AllReadyH.nil
    go_simp
    go_at_call 80
    refine (number_any _ 2 _ L18 Y16 (q18.step t_Y16) z18 l18 (by omega) (by decide) (by decide)).mono ?_
    rintro e Y17 ⟨rfl, u17⟩
    have t_Y17 : Below Y1.heap.size Y1 Y17 := t_Y16.trans (u17.mono t_Y16.size)
    replace kz := kz.step u17
    refine hK.out _ _ (KS.out _ t_Y17) (fun _ => ?_)
    clear hK K
    refine wpAnyH_take (i := 28) (v := .int .i64 (num L18)) rfl (by kernel_rfl) (by kernel_rfl) (by kernel_rfl) (fun _ _ _ h => h) (Or.inl ⟨by rfl, ?_⟩) (by assumption) ?_
    · (intro w' hSw; (try dsimp only at hSw); go_simp; rw [wrap_i64 (by omega) (by omega)])
    simp only [Act.put, List.getElem_toArray, List.getElem_cons_zero, List.getElem_cons_succ, List.setIfInBounds_toArray, List.set_cons_zero, List.set_cons_succ]
    refine wpAnyH_take (i := 29) (v := .agg #[.int .i64 (num L0), .int .i64 x2, .int .i64 x3, .int .u32 (num L4), .int .u32 (num L8), .int .u32 (num L12), .int .i64 (num L16), .int .i64 (num L18)]) rfl (by kernel_rfl) (by kernel_rfl) (by kernel_rfl) (fun _ _ _ h => h) (Or.inl ⟨by rfl, ?_⟩) (by assumption) ?_
    · (intro w' hSw; (try dsimp only at hSw); go_simp; try rfl)
    simp only [Act.put, List.getElem_toArray, List.getElem_cons_zero, List.getElem_cons_succ, List.setIfInBounds_toArray, List.set_cons_zero, List.set_cons_succ]
    refine wpAnyH_ready (rs := [31]) (by kernel_rfl) (by simp) ?_
    refine AllReadyH.cons rfl (fun K hK => ?_) AllReadyH.nil
    obtain ⟨a0, a1, a2, a3, a4, a5, a6, a7, f0, f1, f2, f3, f4, f5, f6, f7, hzl⟩ := kz8_at kz
    have KR : Hid (At (st8 Y17 k11 (Value.int .i64 (num L0)) (.int .i64 x2) (.int .i64 x3) (.int .u32 (num L4)) (.int .u32 (num L8)) (.int .u32 (num L12)) (.int .i64 (num L16)) (.int .i64 (num L18))) k11 (.cells #[.int .i64 (num L0), .int .i64 x2, .int .i64 x3, .int .u32 (num L4), .int .u32 (num L8), .int .u32 (num L12), .int .i64 (num L16), .int .i64 (num L18)] 85)) := Lib.hid (kz8_set kz (Value.int .i64 (num L0)) (.int .i64 x2) (.int .i64 x3) (.int .u32 (num L4)) (.int .u32 (num L8)) (.int .u32 (num L12)) (.int .i64 (num L16)) (.int .i64 (num L18)))
    have TF : Hid (Below Y1.heap.size Y1 (st8 Y17 k11 (Value.int .i64 (num L0)) (.int .i64 x2) (.int .i64 x3) (.int .u32 (num L4)) (.int .u32 (num L8)) (.int .u32 (num L12)) (.int .i64 (num L16)) (.int .i64 (num L18)))) := Lib.hid (below_st8 t_Y17 ga.out _ _ _ _ _ _ _ _)
    have hne : g ≠ k11 := by have := HG.out; have := ga.out; omega
    have KF : Hid ((st8 Y17 k11 (Value.int .i64 (num L0)) (.int .i64 x2) (.int .i64 x3) (.int .u32 (num L4)) (.int .u32 (num L8)) (.int .u32 (num L12)) (.int .i64 (num L16)) (.int .i64 (num L18))).cell? ⟨g, 2, none⟩ = some (.int .u8 x2) ∧ (st8 Y17 k11 (Value.int .i64 (num L0)) (.int .i64 x2) (.int .i64 x3) (.int .u32 (num L4)) (.int .u32 (num L8)) (.int .u32 (num L12)) (.int .i64 (num L16)) (.int .i64 (num L18))).cell? ⟨g, 3, none⟩ = some (.int .u8 x3)) := Lib.hid <| by
      obtain ⟨e2, e3⟩ := KS.out _ t_Y17
      exact ⟨(cell_st8 (p := ⟨g, 2, none⟩) hne _ _ _ _ _ _ _ _).trans e2, (cell_st8 (p := ⟨g, 3, none⟩) hne _ _ _ _ _ _ _ _).trans e3⟩
    clear hHeld
    go_simp
    refine hK.out _ _ KF.out (fun _ => ?_)
    clear hK K
    refine wpAnyH_done (by kernel_rfl) ?_ _
    go_wp2_with fail
    go_meet
    case rel => exact ⟨_, rfl, ga, TF, KR⟩
  case rest =>
    obtain ⟨k, rfl, hk, T6, K6⟩ := hcut
    have T7 : Below W0.heap.size W0 wc := U1.out.trans (T6.out.mono U1.out.size)
    obtain ⟨y0, y1, y2, y3, y4, y5, y6, y7, p0, p1, p2, p3, p4, p5, p6, p7, hkl⟩ := kz8_at K6.out
    have CM := may_any ⟨num L0, x2, x3, num L4, num L8, num L12, num L16, num L18⟩ wc
    clear q0 q4 q8 q12 q16 q18 l0 l4 l8 l12 l16 l18 z0 z4 z8 z12 z16 z18 v0 v16 v18 w2 w3
    by_cases hm : mayd ⟨num L0, x2, x3, num L4, num L8, num L12, num L16, num L18⟩ = true
    case neg =>
      have hm2 : mayd ⟨num L0, x2, x3, num L4, num L8, num L12, num L16, num L18⟩ = false := by simpa using hm
      rw [hm2] at CM
      have e4 : rdE l = 3 := by rw [HE.out, HD.out, if_neg hm]
      have e5 : rdp l = zhd := by rw [HP.out, e4]; rfl
      have e6 : rdr l = [] := by rw [HR.out, e4]; rfl
      have H4 := Lib.hid e4
      have H5 := Lib.hid e5
      have H6 := Lib.hid e6
      clear e4 e5 e6 hm hm2
      go_wp2_with fail
      refine CM.mono ?_
      rintro e V2 ⟨rfl, u7⟩
      have T8 : Below W0.heap.size W0 V2 := T7.trans (u7.mono T7.size)
      have z1 := KZ.out _ T8
      clear y0 y1 y2 y3 y4 y5 y6 y7 p0 p1 p2 p3 p4 p5 p6 p7
      obtain ⟨a0, a1, a2, a3, a4, a5, a6, a7, f0, f1, f2, f3, f4, f5, f6, f7, hzl⟩ := kz8_at z1
      have KR := Lib.hid <| kz8_get z1 (Value.int .i64 0) (.int .i64 0) (.int .i64 0) (.int .u32 0) (.int .u32 0) (.int .u32 0) (.int .i64 0) (.int .i64 0)
      have TF := Lib.hid <| below_st8 (HB.out.trans (T8.mono HB.out.size)) (Nat.le_refl _) (Value.int .i64 0) (.int .i64 0) (.int .i64 0) (.int .u32 0) (.int .u32 0) (.int .u32 0) (.int .i64 0) (.int .i64 0)
      clear T8 T7 u7 z1 CM KZ
      go_wp2
      obtain ⟨r0, r1, r2, r3, r4, r5, r6, r7⟩ := KR.out
      refine bodyPost_ret (v := .tuple #[.agg #[.int .i64 0, .int .i64 0, .int .i64 0, .int .u32 0, .int .u32 0, .int .u32 0, .int .i64 0, .int .i64 0], .slice none 0 0, .int .i64 3]) (by simp [results, Try.results63, go_sem, r0, r1, r2, r3, r4, r5, r6, r7]) rfl ⟨none, 0, ?_, ?_, TF.out⟩
      · rw [H4.out, H5.out, H6.out]
        rfl
      · rw [H6.out]
        exact Own.nil _ _
    rw [hm] at CM
    have e4 : rdE l = 0 := by rw [HE.out, HD.out, if_pos hm]
    have e5 : rdp l = ⟨num L0, x2, x3, num L4, num L8, num L12, num L16, num L18⟩ := by rw [HP.out, if_pos e4, HD.out]
    have e6 : rdr l = LR := by rw [HR.out, if_pos e4]
    have H4 := Lib.hid e4
    have H5 := Lib.hid e5
    have H6 := Lib.hid e6
    clear e4 e5 e6 hm
    go_wp2_with fail
    refine CM.mono ?_
    rintro e V2 ⟨rfl, u7⟩
    have T8 : Below W0.heap.size W0 V2 := T7.trans (u7.mono T7.size)
    have z1 := KZ.out _ T8
    have K7 := K6.out.step u7
    clear y0 y1 y2 y3 y4 y5 y6 y7 p0 p1 p2 p3 p4 p5 p6 p7 hkl
    obtain ⟨y0, y1, y2, y3, y4, y5, y6, y7, p0, p1, p2, p3, p4, p5, p6, p7, hkl⟩ := kz8_at K7
    obtain ⟨a0, a1, a2, a3, a4, a5, a6, a7, f0, f1, f2, f3, f4, f5, f6, f7, hzl⟩ := kz8_at z1
    have hs1 := U1.out.size
    have KR := Lib.hid <| kz8_get z1 (Value.int .i64 (num L0)) (.int .i64 x2) (.int .i64 x3) (.int .u32 (num L4)) (.int .u32 (num L8)) (.int .u32 (num L12)) (.int .i64 (num L16)) (.int .i64 (num L18))
    have TF := Lib.hid <| below_st8 (HB.out.trans (T8.mono HB.out.size)) (Nat.le_refl _) (Value.int .i64 (num L0)) (.int .i64 x2) (.int .i64 x3) (.int .u32 (num L4)) (.int .u32 (num L8)) (.int .u32 (num L12)) (.int .i64 (num L16)) (.int .i64 (num L18))
    have hs0 : w.heap.size < W0.heap.size := by have := HB.out; have := lt_of_block (KZ.out _ (Below.refl _ _)); omega
    have OF := Lib.hid <| ((O2.out.step (T6.out.trans (u7.mono T6.out.size))).far8 (b := w.heap.size) hs0 (Value.int .i64 (num L0)) (.int .i64 x2) (.int .i64 x3) (.int .u32 (num L4)) (.int .u32 (num L8)) (.int .u32 (num L12)) (.int .i64 (num L16)) (.int .i64 (num L18))).lower (base' := w.heap.size) (by omega)
    clear T8 T7 u7 z1 K7 CM KZ hs0 hs1
    go_wp2
    obtain ⟨r0, r1, r2, r3, r4, r5, r6, r7⟩ := KR.out
    refine bodyPost_ret (v := .tuple #[.agg #[.int .i64 (num L0), .int .i64 x2, .int .i64 x3, .int .u32 (num L4), .int .u32 (num L8), .int .u32 (num L12), .int .i64 (num L16), .int .i64 (num L18)], .slice A2 (n - 20) c2, .int .i64 0]) (by simp [results, Try.results63, go_sem, r0, r1, r2, r3, r4, r5, r6, r7]) rfl ⟨A2, c2, ?_, ?_, TF.out⟩
    · rw [H4.out, H5.out, H6.out, HFR.out]
    · rw [H6.out]
      exact OF.out
end Go.Proofs.Ytefbpaebimagaaa
