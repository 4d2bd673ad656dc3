/-
  The contract of the reference's TakeDesc. No statement is proved here; no conditions.
-/
import Derived.Test.YtefbpaebimagaaaTd
namespace Go.Proofs.Ytefbpaebimagaaa
open Go.RowKit Go.Joins

set_option maxRecDepth 100000 in
set_option maxHeartbeats 8000000 in
theorem rtakedesc_any (A : Option Addr) (n c : Nat) (l : List Int) (w : World) (hn : l.length = n) (hb : Bt w A l) (hy : Byt l) (hc : n ≤ c) (hl : n ≤ 5000) :
    Calls Try.prog 13 #[.slice A n c] w fun e w' => ∃ A' c', e = .returned (.tuple #[.agg #[.int .i64 (tdD l).m, .int .i64 (tdD l).o, .bool (tdD l).i, .bool (tdD l).r, .bool (tdD l).s, .int .u32 (tdD l).q, .slice A' (tdL l).length c'], .int .i64 (tdE l)]) ∧ hRr w' A' (tdL l) ∧ Below w.heap.size w w' := by
  obtain ⟨W0, hW0⟩ : ∃ V, w.alloc (.cells #[Value.int .i64 0, .int .i64 0, .bool false, .bool false, .bool false, .int .u32 0, .slice none 0 0] 32) = V := ⟨_, rfl⟩
  have bW0 : Below w.heap.size w W0 := by rw [← hW0]; exact below_alloc1 _ _
  have sW0 : W0.heap.size = w.heap.size + 1 := by rw [← hW0]; simp
  have KZ : Hid (∀ V, Below W0.heap.size W0 V → V.heap[w.heap.size]? = some (.cells #[Value.int .i64 0, .int .i64 0, .bool false, .bool false, .bool false, .int .u32 0, .slice none 0 0] 32)) :=
    Lib.hid (fun V hV => by rw [hV.block _ (by omega), ← hW0]; exact alloc_at _ _ _ (by omega))
  have HB : Hid (Below w.heap.size w W0) := Lib.hid bW0
  by_cases h8 : n < 8
  · obtain ⟨e1, e2, e3⟩ := td_short (l := l) (by omega)
    rw [e1, e2, e3]
    have h8' : (n : Int) < 8 := by omega
    clear e1 e2 e3 hb hy bW0 hn
    have z1 := KZ.out _ (Below.refl _ _)
    obtain ⟨a0, a1, a2, a3, a4, a5, a6, f0, f1, f2, f3, f4, f5, f6, hzl⟩ := kz7_at z1
    have KR := Lib.hid <| kz7_get z1 (Value.int .i64 0) (.int .i64 0) (.bool false) (.bool false) (.bool false) (.int .u32 0) (.slice none 0 0)
    have TF := Lib.hid <| below_st7 (HB.out.trans (((Below.refl _ _)).mono HB.out.size)) (Nat.le_refl _) (Value.int .i64 0) (.int .i64 0) (.bool false) (.bool false) (.bool false) (.int .u32 0) (.slice none 0 0)
    clear z1 KZ
    go_enter Try.func13, Try.ntmps13
    go_wp2
    obtain ⟨r0, r1, r2, r3, r4, r5, r6⟩ := KR.out
    refine bodyPost_ret (v := .tuple #[.agg #[.int .i64 0, .int .i64 0, .bool false, .bool false, .bool false, .int .u32 0, .slice none 0 0], .int .i64 2]) (by simp [results, Try.results13, go_sem, r0, r1, r2, r3, r4, r5, r6]) rfl ⟨none, 0, rfl, hRr.nil _ _, TF.out⟩
  have h8' : ¬ ((n : Int) < 8) := by omega
  have hb0 := hb.step bW0
  obtain ⟨b, off, rfl, hlt, -⟩ := hb0 (by rintro rfl; simp at hn; omega)
  have hbw := hb.blk (by rintro rfl; simp at hn; omega)
  have HBW : Hid (b ≠ w.heap.size) := Lib.hid (by omega)
  obtain ⟨A8, hA8⟩ : ∃ A8, (if c = 8 then (some ⟨b, off, none⟩ : Option Addr) else some ⟨b, off + 8, none⟩) = A8 := ⟨_, rfl⟩
  have q8 : Bt W0 A8 (l.drop 8) := hb0.drop 8 A8 (fun h => by rw [← hA8, if_neg (by omega)]; simp [addr_add])
  have l8 : (l.drop 8).length = n - 8 := by simp [hn]
  have CH := rreadheads_any 60 A8 (n - 8) (c - 8) (l.drop 8) W0 l8 q8 (hy.drop 8) (by omega) (by omega)
  have HT : Hid (thE (l.drop 8) 0 60 ≠ 0 → tdE l = thE (l.drop 8) 0 60 ∧ tdD l = zdc ∧ tdL l = []) := Lib.hid (fun h => td_heads (by omega) h)
  have HT2 : Hid (thE (l.drop 8) 0 60 = 0 → 7 < l.getD 3 0 → tdE l = 3 ∧ tdD l = zdc ∧ tdL l = []) := Lib.hid (fun h h2 => td_form (by omega) h h2)
  have HT3 : Hid (thE (l.drop 8) 0 60 = 0 → ¬ 7 < l.getD 3 0 → tdE l = 0 ∧ tdD l = ⟨num (l.take 2), l.getD 2 0, tb (l.getD 3 0) 4, tb (l.getD 3 0) 2, tb (l.getD 3 0) 1, num (sub l 4 4)⟩ ∧ tdL l = thL (l.drop 8) 0 60) := Lib.hid (fun h h2 => td_ok (by omega) h h2)
  have hB := hb0.blk (by rintro rfl; simp at hn; omega)
  have g0 := hb0.get (i := 0) (by omega)
  have g1 := hb0.get (i := 1) (by omega)
  have g2 := hb0.get (i := 2) (by omega)
  have g3 := hb0.get (i := 3) (by omega)
  have y0 := byt_getD hy 0
  have y1 := byt_getD hy 1
  have y2 := byt_getD hy 2
  have y3 := byt_getD hy 3
  have q0 : Bt W0 (some ⟨b, off, none⟩) (l.take 2) := hb0.take 2
  have q4 : Bt W0 (some ⟨b, off + 4, none⟩) (sub l 4 4) := hb0.sub 4 4
  have l0 : (l.take 2).length = 2 := by simp; omega
  have l4 : (sub l 4 4).length = 4 := sub_len (by omega)
  have z0 := hy.take 2
  have z4 := sub_byt hy 4 4
  have v0 := num_two z0 l0
  have e01 := num_01 (l := l) (by omega)
  have CT0 := fun V (hV : Below W0.heap.size W0 V) => rtake_ok (some ⟨b, off + 4, none⟩) (c - 4) (l.drop 4) V.heap.size 4 V ((hb0.drop 4 (some ⟨b, off + 4, none⟩) (fun h => by simp [addr_add])).step hV) (hy.drop 4) (by simp; omega) (Nat.le_refl _) (by simp; omega) (by decide) (by decide) (by simp; omega)
  have e4 : (l.drop 4).length = n - 4 := by simp [hn]
  have e44 : (l.drop 4).take (4 : Int).toNat = sub l 4 4 := rfl
  rw [e4, e44] at CT0
  have CT := fun V hV => CT0 V hV
  clear CT0 e4 e44
  generalize sub l 4 4 = L4 at *
  generalize l.take 2 = L0 at *
  generalize l.getD 0 0 = x0 at *
  generalize l.getD 1 0 = x1 at *
  generalize l.getD 2 0 = x2 at *
  generalize l.getD 3 0 = x3 at *
  generalize thE (l.drop 8) 0 60 = E at *
  generalize thL (l.drop 8) 0 60 = U at *
  obtain ⟨mU, hmU⟩ : ∃ m, U.length = m := ⟨_, rfl⟩
  rw [hmU] at CH
  have HMU := Lib.hid hmU
  have E01 := Lib.hid e01
  clear e01
  have KB : Hid (∀ V, Below W0.heap.size W0 V → V.cell? ⟨b, off, none⟩ = some (.int .u8 x0) ∧ V.cell? ⟨b, off + 1, none⟩ = some (.int .u8 x1) ∧ V.cell? ⟨b, off + 2, none⟩ = some (.int .u8 x2) ∧ V.cell? ⟨b, off + 3, none⟩ = some (.int .u8 x3)) := Lib.hid (fun V hV => ⟨(hV.cell (p := ⟨b, off, none⟩) hB).trans g0, (hV.cell (p := ⟨b, off + 1, none⟩) hB).trans g1, (hV.cell (p := ⟨b, off + 2, none⟩) hB).trans g2, (hV.cell (p := ⟨b, off + 3, none⟩) hB).trans g3⟩)
  have HQ0 := Lib.hid q0
  have HQ4 := Lib.hid q4
  have h4c : ¬ (c = 4) := by omega
  have p2 : (2 : Int) ≤ (c : Int) := by omega
  have p8 : (8 : Int) ≤ (c : Int) := by omega
  have n8' : (8 : Int) ≤ (n : Int) := by omega
  have i0 : (0 : Int) < (n : Int) := by omega
  have i1 : (1 : Int) < (n : Int) := by omega
  have i2 : (2 : Int) < (n : Int) := by omega
  have i3 : (3 : Int) < (n : Int) := by omega
  have j0 : 0 < n := by omega
  have j1 : 1 < n := by omega
  have j2 : 2 < n := by omega
  have j3 : 3 < n := by omega
  clear hbw hb hb0 hy hn bW0 sW0 q8 l8 g0 g1 g2 g3 q0 q4 hB hlt h8 hmU
  by_cases hE : E = 0
  case neg =>
    have HTT := Lib.hid (HT.out hE)
    have d : (E == 0) = false := by simpa using hE
    have d2 : (E != 0) = true := by simp [bne, d]
    clear hE HT HT2 HT3
    clear CT
    go_enter Try.func13, Try.ntmps13
    go_wp2_with fail
    try rw [hA8]
    refine CH.mono ?_
    rintro e Y1 ⟨A1, c1, rfl, r1, t1⟩
    have z1 := KZ.out _ t1
    obtain ⟨a0, a1, a2, a3, a4, a5, a6, f0, f1, f2, f3, f4, f5, f6, hzl⟩ := kz7_at z1
    have KR := Lib.hid <| kz7_get z1 (Value.int .i64 0) (.int .i64 0) (.bool false) (.bool false) (.bool false) (.int .u32 0) (.slice none 0 0)
    have TF := Lib.hid <| below_st7 (HB.out.trans ((t1).mono HB.out.size)) (Nat.le_refl _) (Value.int .i64 0) (.int .i64 0) (.bool false) (.bool false) (.bool false) (.int .u32 0) (.slice none 0 0)
    clear z1 KZ
    clear r1 t1 CH
    go_wp2
    obtain ⟨r0, r1, r2, r3, r4, r5, r6⟩ := KR.out
    obtain ⟨q1, q2, q3⟩ := HTT.out
    refine bodyPost_ret (v := .tuple #[.agg #[.int .i64 0, .int .i64 0, .bool false, .bool false, .bool false, .int .u32 0, .slice none 0 0], .int .i64 E]) (by simp [results, Try.results13, go_sem, r0, r1, r2, r3, r4, r5, r6]) rfl ?_
    rw [q1, q2, q3]
    exact ⟨none, 0, rfl, hRr.nil _ _, TF.out⟩
  subst hE
  by_cases h3 : 7 < x3
  · have HTT := Lib.hid (HT2.out rfl h3)
    have h3' : x3 > 7 := h3
    clear HT HT2 HT3
    clear CT
    go_enter Try.func13, Try.ntmps13
    go_wp2_with fail
    try rw [hA8]
    refine CH.mono ?_
    rintro e Y1 ⟨A1, c1, rfl, r1, t1⟩
    obtain ⟨m0, m1, m2, m3⟩ := KB.out _ t1
    have z1 := KZ.out _ t1
    obtain ⟨a0, a1, a2, a3, a4, a5, a6, f0, f1, f2, f3, f4, f5, f6, hzl⟩ := kz7_at z1
    have KR := Lib.hid <| kz7_get z1 (Value.int .i64 0) (.int .i64 0) (.bool false) (.bool false) (.bool false) (.int .u32 0) (.slice none 0 0)
    have TF := Lib.hid <| below_st7 (HB.out.trans ((t1).mono HB.out.size)) (Nat.le_refl _) (Value.int .i64 0) (.int .i64 0) (.bool false) (.bool false) (.bool false) (.int .u32 0) (.slice none 0 0)
    clear z1 KZ
    clear r1 t1 CH
    go_wp2
    obtain ⟨r0, r1, r2, r3, r4, r5, r6⟩ := KR.out
    obtain ⟨q1, q2, q3⟩ := HTT.out
    refine bodyPost_ret (v := .tuple #[.agg #[.int .i64 0, .int .i64 0, .bool false, .bool false, .bool false, .int .u32 0, .slice none 0 0], .int .i64 3]) (by simp [results, Try.results13, go_sem, r0, r1, r2, r3, r4, r5, r6]) rfl ?_
    rw [q1, q2, q3]
    exact ⟨none, 0, rfl, hRr.nil _ _, TF.out⟩
  have htt := HT3.out rfl h3
  obtain ⟨b4, hb4⟩ : ∃ b4, (bits .and .u8 x3 4 != 0) = b4 := ⟨_, rfl⟩
  obtain ⟨b2, hb2⟩ : ∃ b2, (bits .and .u8 x3 2 != 0) = b2 := ⟨_, rfl⟩
  obtain ⟨b1, hb1⟩ : ∃ b1, (bits .and .u8 x3 1 != 0) = b1 := ⟨_, rfl⟩
  rw [show tb x3 4 = b4 from hb4, show tb x3 2 = b2 from hb2, show tb x3 1 = b1 from hb1] at htt
  have HTT := Lib.hid htt
  have HB4 := Lib.hid hb4
  have HB2 := Lib.hid hb2
  have HB1 := Lib.hid hb1
  clear htt hb4 hb2 hb1
  have h3' : ¬ (x3 > 7) := h3
  clear HT HT2 HT3
  go_enter Try.func13, Try.ntmps13
  go_wp2_with fail
  try rw [hA8]
  refine CH.mono ?_
  rintro e Y1 ⟨A1, c1, rfl, r1, t1⟩
  obtain ⟨m0, m1, m2, m3⟩ := KB.out _ t1
  have R1 : Hid (∀ V, Below Y1.heap.size Y1 V → hRr V A1 U) := Lib.hid (fun V hV => r1.step hV)
  have T1 := Lib.hid t1
  clear r1 t1 CH
  go_wp2_with fail
  refine (CT _ T1.out).mono ?_
  rintro e Y2 ⟨A2, c2, N, R, ⟨rfl, -⟩, rfl, -, u2⟩
  have T2 := Lib.hid (T1.out.trans (u2.mono T1.out.size))
  have U2 := Lib.hid u2
  clear m0 m1 m2 m3 u2 CT
  have KS : Hid (∀ V, Below Y2.heap.size Y2 V → V.cell? ⟨b, off, none⟩ = some (.int .u8 x0) ∧ V.cell? ⟨b, off + 1, none⟩ = some (.int .u8 x1) ∧ V.cell? ⟨b, off + 2, none⟩ = some (.int .u8 x2) ∧ V.cell? ⟨b, off + 3, none⟩ = some (.int .u8 x3)) := Lib.hid (fun V hV => KB.out _ (T2.out.trans (hV.mono T2.out.size)))
  have KU : Hid (∀ V, Below Y2.heap.size Y2 V → Below W0.heap.size W0 V) := Lib.hid (fun V hV => T2.out.trans (hV.mono T2.out.size))
  have RU : Hid (∀ V, Below Y2.heap.size Y2 V → hRr V A1 U) := Lib.hid (fun V hV => R1.out _ (U2.out.trans (hV.mono U2.out.size)))
  have tt : Below Y2.heap.size Y2 Y2 := Below.refl _ _
  clear R1
  go_upto_region 9 with fail
  refine wp_region_held_drew (S := fun V => V.cell? ⟨b, off, none⟩ = some (.int .u8 x0) ∧ V.cell? ⟨b, off + 1, none⟩ = some (.int .u8 x1) ∧ V.cell? ⟨b, off + 2, none⟩ = some (.int .u8 x2) ∧ V.cell? ⟨b, off + 3, none⟩ = some (.int .u8 x3)) (by kernel_rfl) (KS.out _ tt.drew) (fun hHeld => ?_)
  replace tt : Below Y2.heap.size Y2 Y2.drew := tt.drew
  generalize hX0 : Y2.drew = Y0 at tt hHeld ⊢
  clear hX0
  refine wpAnyH_take (i := 0) (v := ?_) rfl (by kernel_rfl) (by kernel_rfl) (by kernel_rfl) (fun _ _ _ h => h) (Or.inl ⟨by rfl, ?_⟩) (by assumption) ?_
  rotate_left
  · (intro w' hSw; (try dsimp only at hSw); go_simp; try with_reducible rfl)
  simp only [Act.put, List.getElem_toArray, List.getElem_cons_zero, List.setIfInBounds_toArray, List.set_cons_zero, List.set_cons_succ]
  refine wpAnyH_take (i := 1) (v := ?_) rfl (by kernel_rfl) (by kernel_rfl) (by kernel_rfl) (fun _ _ _ h => h) (Or.inl ⟨by rfl, ?_⟩) (by assumption) ?_
  rotate_left
  · (intro w' hSw; (try dsimp only at hSw); go_simp; try with_reducible rfl)
  simp only [Act.put, List.getElem_toArray, List.getElem_cons_zero, List.getElem_cons_succ, List.setIfInBounds_toArray, List.set_cons_zero, List.set_cons_succ]
  refine wpAnyH_take (i := 2) (v := ?_) rfl (by kernel_rfl) (by kernel_rfl) (by kernel_rfl) (fun _ _ _ h => h) (Or.inl ⟨by rfl, ?_⟩) (by assumption) ?_
  rotate_left
  · (intro w' hSw; (try dsimp only at hSw); go_simp; try with_reducible rfl)
  simp only [Act.put, List.getElem_toArray, List.getElem_cons_zero, List.getElem_cons_succ, List.setIfInBounds_toArray, List.set_cons_zero, List.set_cons_succ]
  refine wpAnyH_take (i := 3) (v := .int .i64 x0) rfl (by kernel_rfl) (by kernel_rfl) (by kernel_rfl) (fun _ _ _ h => h) (Or.inl ⟨by rfl, ?_⟩) (by assumption) ?_
  · (intro w' hSw; (try dsimp only at hSw); go_simp; rw [wrap_i64 (by omega) (by omega)])
  simp only [Act.put, List.getElem_toArray, List.getElem_cons_zero, List.getElem_cons_succ, List.setIfInBounds_toArray, List.set_cons_zero, List.set_cons_succ]
  refine wpAnyH_take (i := 4) (v := .int .i64 (256 * x0)) rfl (by kernel_rfl) (by kernel_rfl) (by kernel_rfl) (fun _ _ _ h => h) (Or.inl ⟨by rfl, ?_⟩) (by assumption) ?_
  · (intro w' hSw; (try dsimp only at hSw); go_simp; rw [wrap_i64 (by omega) (by omega)])
  simp only [Act.put, List.getElem_toArray, List.getElem_cons_zero, List.getElem_cons_succ, List.setIfInBounds_toArray, List.set_cons_zero, List.set_cons_succ]
  refine wpAnyH_take (i := 5) (v := ?_) rfl (by kernel_rfl) (by kernel_rfl) (by kernel_rfl) (fun _ _ _ h => h) (Or.inl ⟨by rfl, ?_⟩) (by assumption) ?_
  rotate_left
  · (intro w' hSw; (try dsimp only at hSw); go_simp; try with_reducible rfl)
  simp only [Act.put, List.getElem_toArray, List.getElem_cons_zero, List.getElem_cons_succ, List.setIfInBounds_toArray, List.set_cons_zero, List.set_cons_succ]
  refine wpAnyH_take (i := 6) (v := ?_) rfl (by kernel_rfl) (by kernel_rfl) (by kernel_rfl) (fun _ _ _ h => h) (Or.inl ⟨by rfl, ?_⟩) (by assumption) ?_
  rotate_left
  · (intro w' hSw; (try dsimp only at hSw); go_simp; try with_reducible rfl)
  simp only [Act.put, List.getElem_toArray, List.getElem_cons_zero, List.getElem_cons_succ, List.setIfInBounds_toArray, List.set_cons_zero, List.set_cons_succ]
  refine wpAnyH_take (i := 7) (v := ?_) rfl (by kernel_rfl) (by kernel_rfl) (by kernel_rfl) (fun _ _ _ h => h) (Or.inl ⟨by rfl, ?_⟩) (by assumption) ?_
  rotate_left
  · (intro w' hSw; (try dsimp only at hSw); go_simp; try with_reducible rfl)
  simp only [Act.put, List.getElem_toArray, List.getElem_cons_zero, List.getElem_cons_succ, List.setIfInBounds_toArray, List.set_cons_zero, List.set_cons_succ]
  refine wpAnyH_take (i := 8) (v := .int .i64 x1) rfl (by kernel_rfl) (by kernel_rfl) (by kernel_rfl) (fun _ _ _ h => h) (Or.inl ⟨by rfl, ?_⟩) (by assumption) ?_
  · (intro w' hSw; (try dsimp only at hSw); go_simp; rw [wrap_i64 (by omega) (by omega)])
  simp only [Act.put, List.getElem_toArray, List.getElem_cons_zero, List.getElem_cons_succ, List.setIfInBounds_toArray, List.set_cons_zero, List.set_cons_succ]
  refine wpAnyH_take (i := 9) (v := .int .i64 (256 * x0 + x1)) rfl (by kernel_rfl) (by kernel_rfl) (by kernel_rfl) (fun _ _ _ h => h) (Or.inl ⟨by rfl, ?_⟩) (by assumption) ?_
  · (intro w' hSw; (try dsimp only at hSw); go_simp; rw [wrap_i64 (by omega) (by omega)])
  simp only [Act.put, List.getElem_toArray, List.getElem_cons_zero, List.getElem_cons_succ, List.setIfInBounds_toArray, List.set_cons_zero, List.set_cons_succ]
  refine wpAnyH_take (i := 10) (v := ?_) rfl (by kernel_rfl) (by kernel_rfl) (by kernel_rfl) (fun _ _ _ h => h) (Or.inl ⟨by rfl, ?_⟩) (by assumption) ?_
  rotate_left
  · (intro w' hSw; (try dsimp only at hSw); go_simp; try with_reducible rfl)
  simp only [Act.put, List.getElem_toArray, List.getElem_cons_zero, List.getElem_cons_succ, List.setIfInBounds_toArray, List.set_cons_zero, List.set_cons_succ]
  refine wpAnyH_take (i := 11) (v := ?_) rfl (by kernel_rfl) (by kernel_rfl) (by kernel_rfl) (fun _ _ _ h => h) (Or.inl ⟨by rfl, ?_⟩) (by assumption) ?_
  rotate_left
  · (intro w' hSw; (try dsimp only at hSw); go_simp; try with_reducible rfl)
  simp only [Act.put, List.getElem_toArray, List.getElem_cons_zero, List.getElem_cons_succ, List.setIfInBounds_toArray, List.set_cons_zero, List.set_cons_succ]
  refine wpAnyH_take (i := 12) (v := ?_) rfl (by kernel_rfl) (by kernel_rfl) (by kernel_rfl) (fun _ _ _ h => h) (Or.inl ⟨by rfl, ?_⟩) (by assumption) ?_
  rotate_left
  · (intro w' hSw; (try dsimp only at hSw); go_simp; try with_reducible rfl)
  simp only [Act.put, List.getElem_toArray, List.getElem_cons_zero, List.getElem_cons_succ, List.setIfInBounds_toArray, List.set_cons_zero, List.set_cons_succ]
  refine wpAnyH_take (i := 13) (v := .int .i64 x2) rfl (by kernel_rfl) (by kernel_rfl) (by kernel_rfl) (fun _ _ _ h => h) (Or.inl ⟨by rfl, ?_⟩) (by assumption) ?_
  · (intro w' hSw; (try dsimp only at hSw); go_simp; rw [wrap_i64 (by omega) (by omega)])
  simp only [Act.put, List.getElem_toArray, List.getElem_cons_zero, List.getElem_cons_succ, List.setIfInBounds_toArray, List.set_cons_zero, List.set_cons_succ]
  refine wpAnyH_take (i := 14) (v := ?_) rfl (by kernel_rfl) (by kernel_rfl) (by kernel_rfl) (fun _ _ _ h => h) (Or.inl ⟨by rfl, ?_⟩) (by assumption) ?_
  rotate_left
  · (intro w' hSw; (try dsimp only at hSw); go_simp; try with_reducible rfl)
  simp only [Act.put, List.getElem_toArray, List.getElem_cons_zero, List.getElem_cons_succ, List.setIfInBounds_toArray, List.set_cons_zero, List.set_cons_succ]
  refine wpAnyH_take (i := 15) (v := ?_) rfl (by kernel_rfl) (by kernel_rfl) (by kernel_rfl) (fun _ _ _ h => h) (Or.inl ⟨by rfl, ?_⟩) (by assumption) ?_
  rotate_left
  · (intro w' hSw; (try dsimp only at hSw); go_simp; try with_reducible rfl)
  simp only [Act.put, List.getElem_toArray, List.getElem_cons_zero, List.getElem_cons_succ, List.setIfInBounds_toArray, List.set_cons_zero, List.set_cons_succ]
  refine wpAnyH_take (i := 16) (v := ?_) rfl (by kernel_rfl) (by kernel_rfl) (by kernel_rfl) (fun _ _ _ h => h) (Or.inl ⟨by rfl, ?_⟩) (by assumption) ?_
  rotate_left
  · (intro w' hSw; (try dsimp only at hSw); go_simp; try with_reducible rfl)
  simp only [Act.put, List.getElem_toArray, List.getElem_cons_zero, List.getElem_cons_succ, List.setIfInBounds_toArray, List.set_cons_zero, List.set_cons_succ]
  refine wpAnyH_take (i := 17) (v := .int .u8 (bits .and .u8 x3 4)) rfl (by kernel_rfl) (by kernel_rfl) (by kernel_rfl) (fun _ _ _ h => h) (Or.inl ⟨by rfl, ?_⟩) (by assumption) ?_
  · (intro w' hSw; (try dsimp only at hSw); go_simp; try rfl)
  simp only [Act.put, List.getElem_toArray, List.getElem_cons_zero, List.getElem_cons_succ, List.setIfInBounds_toArray, List.set_cons_zero, List.set_cons_succ]
  refine wpAnyH_take (i := 18) (v := .bool b4) rfl (by kernel_rfl) (by kernel_rfl) (by kernel_rfl) (fun _ _ _ h => h) (Or.inl ⟨by rfl, ?_⟩) (by assumption) ?_
  · (intro w' hSw; (try dsimp only at hSw); go_simp; first | rw [HB4.out] | simp only [HB4.out])
  simp only [Act.put, List.getElem_toArray, List.getElem_cons_zero, List.getElem_cons_succ, List.setIfInBounds_toArray, List.set_cons_zero, List.set_cons_succ]
  refine wpAnyH_take (i := 19) (v := ?_) rfl (by kernel_rfl) (by kernel_rfl) (by kernel_rfl) (fun _ _ _ h => h) (Or.inl ⟨by rfl, ?_⟩) (by assumption) ?_
  rotate_left
  · (intro w' hSw; (try dsimp only at hSw); go_simp; try with_reducible rfl)
  simp only [Act.put, List.getElem_toArray, List.getElem_cons_zero, List.getElem_cons_succ, List.setIfInBounds_toArray, List.set_cons_zero, List.set_cons_succ]
  refine wpAnyH_take (i := 20) (v := ?_) rfl (by kernel_rfl) (by kernel_rfl) (by kernel_rfl) (fun _ _ _ h => h) (Or.inl ⟨by rfl, ?_⟩) (by assumption) ?_
  rotate_left
  · (intro w' hSw; (try dsimp only at hSw); go_simp; try with_reducible rfl)
  simp only [Act.put, List.getElem_toArray, List.getElem_cons_zero, List.getElem_cons_succ, List.setIfInBounds_toArray, List.set_cons_zero, List.set_cons_succ]
  refine wpAnyH_take (i := 21) (v := ?_) rfl (by kernel_rfl) (by kernel_rfl) (by kernel_rfl) (fun _ _ _ h => h) (Or.inl ⟨by rfl, ?_⟩) (by assumption) ?_
  rotate_left
  · (intro w' hSw; (try dsimp only at hSw); go_simp; try with_reducible rfl)
  simp only [Act.put, List.getElem_toArray, List.getElem_cons_zero, List.getElem_cons_succ, List.setIfInBounds_toArray, List.set_cons_zero, List.set_cons_succ]
  refine wpAnyH_take (i := 22) (v := .int .u8 (bits .and .u8 x3 2)) rfl (by kernel_rfl) (by kernel_rfl) (by kernel_rfl) (fun _ _ _ h => h) (Or.inl ⟨by rfl, ?_⟩) (by assumption) ?_
  · (intro w' hSw; (try dsimp only at hSw); go_simp; try rfl)
  simp only [Act.put, List.getElem_toArray, List.getElem_cons_zero, List.getElem_cons_succ, List.setIfInBounds_toArray, List.set_cons_zero, List.set_cons_succ]
  refine wpAnyH_take (i := 23) (v := .bool b2) rfl (by kernel_rfl) (by kernel_rfl) (by kernel_rfl) (fun _ _ _ h => h) (Or.inl ⟨by rfl, ?_⟩) (by assumption) ?_
  · (intro w' hSw; (try dsimp only at hSw); go_simp; first | rw [HB2.out] | simp only [HB2.out])
  simp only [Act.put, List.getElem_toArray, List.getElem_cons_zero, List.getElem_cons_succ, List.setIfInBounds_toArray, List.set_cons_zero, List.set_cons_succ]
  refine wpAnyH_take (i := 24) (v := ?_) rfl (by kernel_rfl) (by kernel_rfl) (by kernel_rfl) (fun _ _ _ h => h) (Or.inl ⟨by rfl, ?_⟩) (by assumption) ?_
  rotate_left
  · (intro w' hSw; (try dsimp only at hSw); go_simp; try with_reducible rfl)
  simp only [Act.put, List.getElem_toArray, List.getElem_cons_zero, List.getElem_cons_succ, List.setIfInBounds_toArray, List.set_cons_zero, List.set_cons_succ]
  refine wpAnyH_take (i := 25) (v := ?_) rfl (by kernel_rfl) (by kernel_rfl) (by kernel_rfl) (fun _ _ _ h => h) (Or.inl ⟨by rfl, ?_⟩) (by assumption) ?_
  rotate_left
  · (intro w' hSw; (try dsimp only at hSw); go_simp; try with_reducible rfl)
  simp only [Act.put, List.getElem_toArray, List.getElem_cons_zero, List.getElem_cons_succ, List.setIfInBounds_toArray, List.set_cons_zero, List.set_cons_succ]
  refine wpAnyH_take (i := 26) (v := ?_) rfl (by kernel_rfl) (by kernel_rfl) (by kernel_rfl) (fun _ _ _ h => h) (Or.inl ⟨by rfl, ?_⟩) (by assumption) ?_
  rotate_left
  · (intro w' hSw; (try dsimp only at hSw); go_simp; try with_reducible rfl)
  simp only [Act.put, List.getElem_toArray, List.getElem_cons_zero, List.getElem_cons_succ, List.setIfInBounds_toArray, List.set_cons_zero, List.set_cons_succ]
  refine wpAnyH_take (i := 27) (v := .int .u8 (bits .and .u8 x3 1)) rfl (by kernel_rfl) (by kernel_rfl) (by kernel_rfl) (fun _ _ _ h => h) (Or.inl ⟨by rfl, ?_⟩) (by assumption) ?_
  · (intro w' hSw; (try dsimp only at hSw); go_simp; try rfl)
  simp only [Act.put, List.getElem_toArray, List.getElem_cons_zero, List.getElem_cons_succ, List.setIfInBounds_toArray, List.set_cons_zero, List.set_cons_succ]
  refine wpAnyH_take (i := 28) (v := .bool b1) rfl (by kernel_rfl) (by kernel_rfl) (by kernel_rfl) (fun _ _ _ h => h) (Or.inl ⟨by rfl, ?_⟩) (by assumption) ?_
  · (intro w' hSw; (try dsimp only at hSw); go_simp; first | rw [HB1.out] | simp only [HB1.out])
  simp only [Act.put, List.getElem_toArray, List.getElem_cons_zero, List.getElem_cons_succ, List.setIfInBounds_toArray, List.set_cons_zero, List.set_cons_succ]
  refine wpAnyH_take (i := 29) (v := ?_) rfl (by kernel_rfl) (by kernel_rfl) (by kernel_rfl) (fun _ _ _ h => h) (Or.inl ⟨by rfl, ?_⟩) (by assumption) ?_
  rotate_left
  · (intro w' hSw; (try dsimp only at hSw); go_simp; try with_reducible rfl)
  simp only [Act.put, List.getElem_toArray, List.getElem_cons_zero, List.getElem_cons_succ, List.setIfInBounds_toArray, List.set_cons_zero, List.set_cons_succ]
  refine wpAnyH_take (i := 30) (v := ?_) rfl (by kernel_rfl) (by kernel_rfl) (by kernel_rfl) (fun _ _ _ h => h) (Or.inl ⟨by rfl, ?_⟩) (by assumption) ?_
  rotate_left
  · (intro w' hSw; (try dsimp only at hSw); go_simp; try with_reducible rfl)
  simp only [Act.put, List.getElem_toArray, List.getElem_cons_zero, List.getElem_cons_succ, List.setIfInBounds_toArray, List.set_cons_zero, List.set_cons_succ]
  refine wpAnyH_take (i := 31) (v := .agg #[.int .i64 (256 * x0 + x1), .int .i64 x2, .bool b4, .bool b2, .bool b1, .int .u32 (num L4), .slice A1 mU c1]) rfl (by kernel_rfl) (by kernel_rfl) (by kernel_rfl) (fun _ _ _ h => h) (Or.inl ⟨by rfl, ?_⟩) (by assumption) ?_
  · (intro w' hSw; (try dsimp only at hSw); go_simp; try rfl)
  simp only [Act.put, List.getElem_toArray, List.getElem_cons_zero, List.getElem_cons_succ, List.setIfInBounds_toArray, List.set_cons_zero, List.set_cons_succ]
  refine wpAnyH_ready (rs := [32]) (by kernel_rfl) (by simp) ?_
  refine AllReadyH.cons rfl (fun K hK => ?_) AllReadyH.nil
  obtain ⟨a0, a1, a2, a3, a4, a5, a6, f0, f1, f2, f3, f4, f5, f6, hzl⟩ := kz7_at (KZ.out _ (KU.out _ tt))
  have KR := Lib.hid <| kz7_get (KZ.out _ (KU.out _ tt)) (Value.int .i64 (256 * x0 + x1)) (.int .i64 x2) (.bool b4) (.bool b2) (.bool b1) (.int .u32 (num L4)) (.slice A1 mU c1)
  have TF : Hid (Below w.heap.size w (st7 Y0 w.heap.size (Value.int .i64 (256 * x0 + x1)) (.int .i64 x2) (.bool b4) (.bool b2) (.bool b1) (.int .u32 (num L4)) (.slice A1 mU c1))) := Lib.hid <| below_st7 (HB.out.trans ((KU.out _ tt).mono HB.out.size)) (Nat.le_refl _) _ _ _ _ _ _ _
  have OF : Hid (hRr (st7 Y0 w.heap.size (Value.int .i64 (256 * x0 + x1)) (.int .i64 x2) (.bool b4) (.bool b2) (.bool b1) (.int .u32 (num L4)) (.slice A1 mU c1)) A1 U) := Lib.hid <| (RU.out _ tt).off (k := w.heap.size) (below_st7 (Below.refl w.heap.size Y0) (Nat.le_refl _) _ _ _ _ _ _ _).size (fun b' off' e hne => hRr.far (RU.out _ tt) e hne (KZ.out _ (KU.out _ tt))) (fun j hj => far_st7 hj _ _ _ _ _ _ _)
  have KF : Hid ((st7 Y0 w.heap.size (Value.int .i64 (256 * x0 + x1)) (.int .i64 x2) (.bool b4) (.bool b2) (.bool b1) (.int .u32 (num L4)) (.slice A1 mU c1)).cell? ⟨b, off, none⟩ = some (.int .u8 x0) ∧ (st7 Y0 w.heap.size (Value.int .i64 (256 * x0 + x1)) (.int .i64 x2) (.bool b4) (.bool b2) (.bool b1) (.int .u32 (num L4)) (.slice A1 mU c1)).cell? ⟨b, off + 1, none⟩ = some (.int .u8 x1) ∧ (st7 Y0 w.heap.size (Value.int .i64 (256 * x0 + x1)) (.int .i64 x2) (.bool b4) (.bool b2) (.bool b1) (.int .u32 (num L4)) (.slice A1 mU c1)).cell? ⟨b, off + 2, none⟩ = some (.int .u8 x2) ∧ (st7 Y0 w.heap.size (Value.int .i64 (256 * x0 + x1)) (.int .i64 x2) (.bool b4) (.bool b2) (.bool b1) (.int .u32 (num L4)) (.slice A1 mU c1)).cell? ⟨b, off + 3, none⟩ = some (.int .u8 x3)) := Lib.hid <| by
    obtain ⟨e0, e1, e2, e3⟩ := KS.out _ tt
    exact ⟨(cell_st7 (p := ⟨b, off, none⟩) HBW.out _ _ _ _ _ _ _).trans e0, (cell_st7 (p := ⟨b, off + 1, none⟩) HBW.out _ _ _ _ _ _ _).trans e1, (cell_st7 (p := ⟨b, off + 2, none⟩) HBW.out _ _ _ _ _ _ _).trans e2, (cell_st7 (p := ⟨b, off + 3, none⟩) HBW.out _ _ _ _ _ _ _).trans e3⟩
  go_simp
  refine hK.out _ _ KF.out (fun _ => ?_)
  clear hK K
  refine wpAnyH_ready (rs := [33]) (by kernel_rfl) (by simp) ?_
  refine AllReadyH.cons rfl (fun K hK => ?_) AllReadyH.nil
  clear a0 a1 a2 a3 a4 a5 a6 f0 f1 f2 f3 f4 f5 f6 hzl
  go_simp
  refine hK.out _ _ KF.out (fun _ => ?_)
  clear hK K
  refine wpAnyH_done (by kernel_rfl) ?_ _
  go_wp2
  obtain ⟨r0, r1, r2, r3, r4, r5, r6⟩ := KR.out
  obtain ⟨q1, q2, q3⟩ := HTT.out
  refine bodyPost_ret (v := .tuple #[.agg #[.int .i64 (256 * x0 + x1), .int .i64 x2, .bool b4, .bool b2, .bool b1, .int .u32 (num L4), .slice A1 mU c1], .int .i64 0]) (by simp [results, Try.results13, go_sem, r0, r1, r2, r3, r4, r5, r6]) rfl ?_
  rw [q1, q2, q3, HMU.out, E01.out]
  exact ⟨A1, c1, rfl, OF.out, TF.out⟩
end Go.Proofs.Ytefbpaebimagaaa
