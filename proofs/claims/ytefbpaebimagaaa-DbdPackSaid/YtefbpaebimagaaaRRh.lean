/-
  The contract of the reference's ReadHead. No statement is proved here; no conditions.
-/
import Derived.Test.YtefbpaebimagaaaDh
import Derived.Test.YtefbpaebimagaaaDe
import Derived.Test.YtefbpaebimagaaaRefB
import Derived.Test.YtefbpaebimagaaaPh
namespace Go.Proofs.Ytefbpaebimagaaa
open Go.RowKit Go.Joins

theorem own_some {k : IntKind} {e : TypeId} {w : World} {base c : Nat} {A : Option Addr} {l : List Int} (h : Own k e w base A c l) (hl : 0 < l.length) : ∃ g, A = some ⟨g, 0, none⟩ ∧ base ≤ g ∧ g < w.heap.size := by
  rcases h.form with ⟨_, _, rfl⟩ | ⟨g, _, h1, h2, h3, _⟩
  · simp at hl
  · exact ⟨g, h1, h2, h3⟩
theorem own_cellAt {k : IntKind} {e : TypeId} {w : World} {base g c : Nat} {l : List Int} (h : Own k e w base (some ⟨g, 0, none⟩) c l) {i : Nat} (hi : i < l.length) : w.cell? ⟨g, i, none⟩ = some (.int k (l.getD i 0)) := by
  obtain ⟨b, off, hA, -, hc⟩ := h.bs.at_ hi
  injection hA with hA
  injection hA with h1 h2
  subst h1 h2
  rwa [Nat.zero_add] at hc
theorem At.mv {w w' : World} {b B : Nat} {o : Obj} (h : At w b o) (u : Below B w w') (hb : b < B) : At w' b o := (u.block b hb).trans h
theorem num_app (x y : List Int) : num (x ++ y) = num x * 256 ^ y.length + num y := by
  induction h : y.length generalizing y with
  | zero => obtain rfl := List.eq_nil_of_length_eq_zero h; simp [num]
  | succ k ih =>
    obtain ⟨a, z, rfl⟩ := snoc_of (l := y) (by rintro rfl; simp at h)
    have e := ih a (by simpa using h)
    rw [← List.append_assoc, num_snoc, num_snoc, e, Int.pow_succ, Int.add_mul, Int.mul_assoc, Int.add_assoc]
theorem num_split {l : List Int} (hy : Byt l) (i : Nat) (h : i + 4 ≤ l.length) : num (sub l i 4) / 65536 = num (sub l i 2) ∧ num (sub l i 4) % 65536 = num (sub l (i + 2) 2) := by
  have e : sub l i 4 = sub l i 2 ++ sub l (i + 2) 2 := by
    unfold sub
    rw [show (4 : Nat) = 2 + 2 from rfl, List.take_add, List.drop_drop]
  have h2 := num_two (sub_byt hy i 2) (sub_len (by omega))
  have h3 := num_two (sub_byt hy (i + 2) 2) (sub_len (by omega))
  rw [e, num_app, sub_len (by omega)]
  simp only [show (256 : Int) ^ 2 = 65536 from rfl]
  omega
set_option maxRecDepth 100000 in
set_option maxHeartbeats 40000000 in
theorem rreadhead_any (A : Option Addr) (n c : Nat) (l : List Int) (w : World) (hn : l.length = n) (hb : Bt w A l) (hy : Byt l) (hc : n ≤ c) (hl : n ≤ 5000) :
    Calls Try.prog 55 #[.slice A n c] w fun e w' => ∃ A' c', e = .returned (.tuple #[.agg #[.int .i64 (rdp l).a, .int .i64 (rdp l).o, .int .i64 (rdp l).t, .int .u32 (rdp l).i, .int .u32 (rdp l).v, .int .u32 (rdp l).q, .int .i64 (rdp l).s, .int .i64 (rdp l).n], .slice A' (rdr l).length c', .int .i64 (rdE l)]) ∧ Own .u8 5 w' w.heap.size A' c' (rdr l) ∧ Below w.heap.size w w' := by
  obtain ⟨W0, hW0⟩ : ∃ V, w.alloc (.cells #[Value.int .i64 0, .int .i64 0, .int .i64 0, .int .u32 0, .int .u32 0, .int .u32 0, .int .i64 0, .int .i64 0] 85) = V := ⟨_, rfl⟩
  have bW0 : Below w.heap.size w W0 := by rw [← hW0]; exact below_alloc1 _ _
  have sW0 : W0.heap.size = w.heap.size + 1 := by rw [← hW0]; simp
  have KZ : Hid (∀ V, Below W0.heap.size W0 V → V.heap[w.heap.size]? = some (.cells #[Value.int .i64 0, .int .i64 0, .int .i64 0, .int .u32 0, .int .u32 0, .int .u32 0, .int .i64 0, .int .i64 0] 85)) :=
    Lib.hid (fun V hV => by rw [hV.block _ (by omega), ← hW0]; exact alloc_at _ _ _ (by omega))
  have HB : Hid (Below w.heap.size w W0) := Lib.hid bW0
  by_cases h20 : n < 20
  · have e4 : rdE l = 2 := by simp [rdE, hn, h20]
    have e5 : rdp l = zhd := by simp [rdp, e4]
    have e6 : rdr l = [] := by simp [rdr, e4]
    rw [e4, e5, e6]
    have h20' : (n : Int) < 20 := by omega
    have z1 := KZ.out _ (Below.refl _ _)
    obtain ⟨a0, a1, a2, a3, a4, a5, a6, a7, f0, f1, f2, f3, f4, f5, f6, f7, hzl⟩ := kz8_at z1
    have KR := Lib.hid <| kz8_get z1 (Value.int .i64 0) (.int .i64 0) (.int .i64 0) (.int .u32 0) (.int .u32 0) (.int .u32 0) (.int .i64 0) (.int .i64 0)
    have TF := Lib.hid <| below_st8 HB.out (Nat.le_refl _) (Value.int .i64 0) (.int .i64 0) (.int .i64 0) (.int .u32 0) (.int .u32 0) (.int .u32 0) (.int .i64 0) (.int .i64 0)
    clear z1 KZ e4 e5 e6 hb bW0 hc hn hy
    go_enter Try.func55, Try.ntmps55
    go_wp2
    obtain ⟨r0, r1, r2, r3, r4, r5, r6, r7⟩ := KR.out
    refine bodyPost_ret (v := .tuple #[.agg #[.int .i64 0, .int .i64 0, .int .i64 0, .int .u32 0, .int .u32 0, .int .u32 0, .int .i64 0, .int .i64 0], .slice none 0 0, .int .i64 2]) (by simp [results, Try.results55, go_sem, r0, r1, r2, r3, r4, r5, r6, r7]) rfl ⟨none, 0, rfl, Own.nil _ _, TF.out⟩
  obtain ⟨b, off, rfl, hbl, -⟩ := hb (by rintro rfl; simp at hn; omega)
  have hb0 := hb.step bW0
  have hE : rdE l = if mayd (rdf (l.take 20)) = true then 0 else 3 := by simp only [rdE, hn, if_neg h20]
  have hP : rdp l = if rdE l = 0 then rdf (l.take 20) else zhd := rfl
  have hR : rdr l = if rdE l = 0 then l.drop 20 else [] := rfl
  have fl : (l.take 20).length = 20 := by simp; omega
  have fr : (l.drop 20).length = n - 20 := by simp; omega
  have fy := hy.take 20
  obtain ⟨a20, ha20⟩ : ∃ a : Nat, (if c = 20 then off else off + 20) = a := ⟨_, rfl⟩
  have q20 : Bs .u8 w w.heap.size (some ⟨b, a20, none⟩) (l.drop 20) := hb.drop 20 _ (fun hh => by
    rw [if_neg (by omega)] at ha20
    simp [addr_add, ha20])
  have HA20 := Lib.hid ha20
  clear ha20
  have qF : Bt W0 (some ⟨b, off, none⟩) (l.take 20) := hb0.take 20
  generalize l.take 20 = FF at *
  generalize l.drop 20 = LR at *
  have CR := rrows_any (some ⟨b, off, none⟩) c FF W0.heap.size 4 W0 qF fy (by omega) (Nat.le_refl _) (by omega)
  have r1 : rowsE FF 4 = 0 := by
    unfold rowsE
    rw [if_neg (by omega), if_neg]
    rw [fl]
    decide
  have r2 : rowsL FF 4 = [num (sub FF 0 4), num (sub FF 4 4), num (sub FF 8 4), num (sub FF 12 4), num (sub FF 16 4)] := by
    simp only [rowsL, r1, if_true]
    rw [fl]
    rfl
  have g2 := qF.get (i := 2) (by omega)
  have g3 := qF.get (i := 3) (by omega)
  have v0 := num_four (sub_byt fy 0 4) (sub_len (by omega))
  have v1 := num_four (sub_byt fy 4 4) (sub_len (by omega))
  have v2 := num_four (sub_byt fy 8 4) (sub_len (by omega))
  have v3 := num_four (sub_byt fy 12 4) (sub_len (by omega))
  have v4 := num_four (sub_byt fy 16 4) (sub_len (by omega))
  have w2 := byt_getD fy 2
  have w3 := byt_getD fy 3
  have hD : rdf FF = ⟨num (sub FF 0 4) / 65536, FF.getD 2 0, FF.getD 3 0, num (sub FF 4 4), num (sub FF 8 4), num (sub FF 12 4), num (sub FF 16 4) / 65536, num (sub FF 16 4) % 65536⟩ := by
    rw [(num_split fy 0 (by omega)).1, (num_split fy 16 (by omega)).1, (num_split fy 16 (by omega)).2]
    rfl
  rw [r1, r2, fl] at CR
  generalize num (sub FF 0 4) = N0 at *
  generalize num (sub FF 4 4) = N1 at *
  generalize num (sub FF 8 4) = N2 at *
  generalize num (sub FF 12 4) = N3 at *
  generalize num (sub FF 16 4) = N4 at *
  generalize FF.getD 2 0 = x2 at *
  generalize FF.getD 3 0 = x3 at *
  rw [hD] at hE hP
  have HE := Lib.hid hE
  have HP := Lib.hid hP
  have HR := Lib.hid hR
  have HBL := Lib.hid hbl
  have HQ := Lib.hid q20
  have HFR := Lib.hid fr
  have h20' : ¬ ((n : Int) < 20) := by omega
  have i20 : (20 : Int) ≤ (c : Int) := by omega
  have i20n : (20 : Int) ≤ (n : Int) := by omega
  have j2 : (2 : Int) < (n : Int) := by omega
  have j3 : (3 : Int) < (n : Int) := by omega
  have j2' : 2 < n := by omega
  have j3' : 3 < n := by omega
  have HW0 := Lib.hid sW0
  clear hE hP hR hb q20 qF fy hb0 hy hD r1 r2 fl fr hbl h20 hn hc
  go_enter Try.func55, Try.ntmps55
  go_wp2_with fail
  refine CR.mono ?_
  rintro e Y1 ⟨A1, c1, rfl, o1, u1⟩
  obtain ⟨g, rfl, hgl, hg⟩ := own_some o1 (by simp)
  have KS : Hid (∀ V, Below Y1.heap.size Y1 V → V.cell? ⟨g, 0, none⟩ = some (.int .u32 N0) ∧ V.cell? ⟨g, 1, none⟩ = some (.int .u32 N1) ∧ V.cell? ⟨g, 2, none⟩ = some (.int .u32 N2) ∧ V.cell? ⟨g, 3, none⟩ = some (.int .u32 N3) ∧ V.cell? ⟨g, 4, none⟩ = some (.int .u32 N4) ∧ V.cell? ⟨b, off + 2, none⟩ = some (.int .u8 x2) ∧ V.cell? ⟨b, off + 3, none⟩ = some (.int .u8 x3)) := Lib.hid (fun V hV => by
    have a0 := own_cellAt (o1.step hV) (i := 0) (by simp)
    have a1 := own_cellAt (o1.step hV) (i := 1) (by simp)
    have a2 := own_cellAt (o1.step hV) (i := 2) (by simp)
    have a3 := own_cellAt (o1.step hV) (i := 3) (by simp)
    have a4 := own_cellAt (o1.step hV) (i := 4) (by simp)
    simp only [List.getD_cons_zero, List.getD_cons_succ] at a0 a1 a2 a3 a4
    have hbb : b < W0.heap.size := by have := HBL.out; have := HW0.out; omega
    have T := u1.trans (hV.mono u1.size)
    exact ⟨a0, a1, a2, a3, a4, (T.cell (p := ⟨b, off + 2, none⟩) hbb).trans g2, (T.cell (p := ⟨b, off + 3, none⟩) hbb).trans g3⟩)
  have U1 := Lib.hid u1
  have HG := Lib.hid hg
  have tt : Below Y1.heap.size Y1 Y1 := Below.refl _ _
  clear o1 u1 g2 g3 CR hg hgl hW0 sW0
  go_upto_region 4 with fail
  go_cut [7] (fun v7 wx => ∃ k : Nat, v7 = .pointer (some ⟨k, 0, none⟩) ∧ Hid (Y1.heap.size ≤ k) ∧ Hid (Below Y1.heap.size Y1 wx) ∧ Hid (At wx k (.cells #[.int .i64 (N0 / 65536), .int .i64 x2, .int .i64 x3, .int .u32 N1, .int .u32 N2, .int .u32 N3, .int .i64 (N4 / 65536), .int .i64 (N4 % 65536)] 85)))
  case first =>
    refine wp_region_held_drew (S := fun V => V.cell? ⟨g, 0, none⟩ = some (.int .u32 N0) ∧ V.cell? ⟨g, 1, none⟩ = some (.int .u32 N1) ∧ V.cell? ⟨g, 2, none⟩ = some (.int .u32 N2) ∧ V.cell? ⟨g, 3, none⟩ = some (.int .u32 N3) ∧ V.cell? ⟨g, 4, none⟩ = some (.int .u32 N4) ∧ V.cell? ⟨b, off + 2, none⟩ = some (.int .u8 x2) ∧ V.cell? ⟨b, off + 3, none⟩ = some (.int .u8 x3)) (by kernel_rfl) (KS.out _ tt.drew) (fun hHeld => ?_)
    replace tt : Below Y1.heap.size Y1 Y1.drew := tt.drew
    generalize hX0 : Y1.drew = X0 at tt hHeld ⊢
    clear hX0
    refine wpAnyH_take (i := 0) (v := ?_) rfl (by kernel_rfl) (by kernel_rfl) (by kernel_rfl) (fun _ _ _ h => h) (Or.inl ⟨by rfl, ?_⟩) (by assumption) ?_
    rotate_left
    · (intro w' hSw; (try dsimp only at hSw); go_simp; try with_reducible rfl)
    simp only [Act.put, List.getElem_toArray, List.getElem_cons_zero, List.setIfInBounds_toArray, List.set_cons_zero, List.set_cons_succ]
    refine wpAnyH_take (i := 1) (v := ?_) rfl (by kernel_rfl) (by kernel_rfl) (by kernel_rfl) (fun _ _ _ h => h) (Or.inl ⟨by rfl, ?_⟩) (by assumption) ?_
    rotate_left
    · (intro w' hSw; (try dsimp only at hSw); go_simp; try with_reducible rfl)
    simp only [Act.put, List.getElem_toArray, List.getElem_cons_zero, List.getElem_cons_succ, List.setIfInBounds_toArray, List.set_cons_zero, List.set_cons_succ]
    refine wpAnyH_take (i := 2) (v := ?_) rfl (by kernel_rfl) (by kernel_rfl) (by kernel_rfl) (fun _ _ _ h => h) (Or.inl ⟨by rfl, ?_⟩) (by assumption) ?_
    rotate_left
    · (intro w' hSw; (try dsimp only at hSw); go_simp; try with_reducible rfl)
    simp only [Act.put, List.getElem_toArray, List.getElem_cons_zero, List.getElem_cons_succ, List.setIfInBounds_toArray, List.set_cons_zero, List.set_cons_succ]
    refine wpAnyH_take (i := 3) (v := .int .u32 (N0 / 65536)) rfl (by kernel_rfl) (by kernel_rfl) (by kernel_rfl) (fun _ _ _ h => h) (Or.inl ⟨by rfl, ?_⟩) (by assumption) ?_
    · (intro w' hSw; (try dsimp only at hSw); go_simp; rw [Int.tdiv_eq_ediv_of_nonneg (by omega), wrap_u32 (by omega) (by omega)])
    simp only [Act.put, List.getElem_toArray, List.getElem_cons_zero, List.getElem_cons_succ, List.setIfInBounds_toArray, List.set_cons_zero, List.set_cons_succ]
    refine wpAnyH_take (i := 4) (v := .int .i64 (N0 / 65536)) rfl (by kernel_rfl) (by kernel_rfl) (by kernel_rfl) (fun _ _ _ h => h) (Or.inl ⟨by rfl, ?_⟩) (by assumption) ?_
    · (intro w' hSw; (try dsimp only at hSw); go_simp; rw [wrap_i64 (by omega) (by omega)])
    simp only [Act.put, List.getElem_toArray, List.getElem_cons_zero, List.getElem_cons_succ, List.setIfInBounds_toArray, List.set_cons_zero, List.set_cons_succ]
    refine wpAnyH_take (i := 5) (v := ?_) rfl (by kernel_rfl) (by kernel_rfl) (by kernel_rfl) (fun _ _ _ h => h) (Or.inl ⟨by rfl, ?_⟩) (by assumption) ?_
    rotate_left
    · (intro w' hSw; (try dsimp only at hSw); go_simp; try with_reducible rfl)
    simp only [Act.put, List.getElem_toArray, List.getElem_cons_zero, List.getElem_cons_succ, List.setIfInBounds_toArray, List.set_cons_zero, List.set_cons_succ]
    refine wpAnyH_take (i := 6) (v := ?_) rfl (by kernel_rfl) (by kernel_rfl) (by kernel_rfl) (fun _ _ _ h => h) (Or.inl ⟨by rfl, ?_⟩) (by assumption) ?_
    rotate_left
    · (intro w' hSw; (try dsimp only at hSw); go_simp; try with_reducible rfl)
    simp only [Act.put, List.getElem_toArray, List.getElem_cons_zero, List.getElem_cons_succ, List.setIfInBounds_toArray, List.set_cons_zero, List.set_cons_succ]
    refine wpAnyH_take (i := 7) (v := ?_) rfl (by kernel_rfl) (by kernel_rfl) (by kernel_rfl) (fun _ _ _ h => h) (Or.inl ⟨by rfl, ?_⟩) (by assumption) ?_
    rotate_left
    · (intro w' hSw; (try dsimp only at hSw); go_simp; try with_reducible rfl)
    simp only [Act.put, List.getElem_toArray, List.getElem_cons_zero, List.getElem_cons_succ, List.setIfInBounds_toArray, List.set_cons_zero, List.set_cons_succ]
    refine wpAnyH_take (i := 8) (v := .int .i64 x2) rfl (by kernel_rfl) (by kernel_rfl) (by kernel_rfl) (fun _ _ _ h => h) (Or.inl ⟨by rfl, ?_⟩) (by assumption) ?_
    · (intro w' hSw; (try dsimp only at hSw); go_simp; rw [wrap_i64 (by omega) (by omega)])
    simp only [Act.put, List.getElem_toArray, List.getElem_cons_zero, List.getElem_cons_succ, List.setIfInBounds_toArray, List.set_cons_zero, List.set_cons_succ]
    refine wpAnyH_take (i := 9) (v := ?_) rfl (by kernel_rfl) (by kernel_rfl) (by kernel_rfl) (fun _ _ _ h => h) (Or.inl ⟨by rfl, ?_⟩) (by assumption) ?_
    rotate_left
    · (intro w' hSw; (try dsimp only at hSw); go_simp; try with_reducible rfl)
    simp only [Act.put, List.getElem_toArray, List.getElem_cons_zero, List.getElem_cons_succ, List.setIfInBounds_toArray, List.set_cons_zero, List.set_cons_succ]
    refine wpAnyH_take (i := 10) (v := ?_) rfl (by kernel_rfl) (by kernel_rfl) (by kernel_rfl) (fun _ _ _ h => h) (Or.inl ⟨by rfl, ?_⟩) (by assumption) ?_
    rotate_left
    · (intro w' hSw; (try dsimp only at hSw); go_simp; try with_reducible rfl)
    simp only [Act.put, List.getElem_toArray, List.getElem_cons_zero, List.getElem_cons_succ, List.setIfInBounds_toArray, List.set_cons_zero, List.set_cons_succ]
    refine wpAnyH_take (i := 11) (v := ?_) rfl (by kernel_rfl) (by kernel_rfl) (by kernel_rfl) (fun _ _ _ h => h) (Or.inl ⟨by rfl, ?_⟩) (by assumption) ?_
    rotate_left
    · (intro w' hSw; (try dsimp only at hSw); go_simp; try with_reducible rfl)
    simp only [Act.put, List.getElem_toArray, List.getElem_cons_zero, List.getElem_cons_succ, List.setIfInBounds_toArray, List.set_cons_zero, List.set_cons_succ]
    refine wpAnyH_take (i := 12) (v := .int .i64 x3) rfl (by kernel_rfl) (by kernel_rfl) (by kernel_rfl) (fun _ _ _ h => h) (Or.inl ⟨by rfl, ?_⟩) (by assumption) ?_
    · (intro w' hSw; (try dsimp only at hSw); go_simp; rw [wrap_i64 (by omega) (by omega)])
    simp only [Act.put, List.getElem_toArray, List.getElem_cons_zero, List.getElem_cons_succ, List.setIfInBounds_toArray, List.set_cons_zero, List.set_cons_succ]
    refine wpAnyH_take (i := 13) (v := ?_) rfl (by kernel_rfl) (by kernel_rfl) (by kernel_rfl) (fun _ _ _ h => h) (Or.inl ⟨by rfl, ?_⟩) (by assumption) ?_
    rotate_left
    · (intro w' hSw; (try dsimp only at hSw); go_simp; try with_reducible rfl)
    simp only [Act.put, List.getElem_toArray, List.getElem_cons_zero, List.getElem_cons_succ, List.setIfInBounds_toArray, List.set_cons_zero, List.set_cons_succ]
    refine wpAnyH_take (i := 14) (v := ?_) rfl (by kernel_rfl) (by kernel_rfl) (by kernel_rfl) (fun _ _ _ h => h) (Or.inl ⟨by rfl, ?_⟩) (by assumption) ?_
    rotate_left
    · (intro w' hSw; (try dsimp only at hSw); go_simp; try with_reducible rfl)
    simp only [Act.put, List.getElem_toArray, List.getElem_cons_zero, List.getElem_cons_succ, List.setIfInBounds_toArray, List.set_cons_zero, List.set_cons_succ]
    refine wpAnyH_take (i := 15) (v := ?_) rfl (by kernel_rfl) (by kernel_rfl) (by kernel_rfl) (fun _ _ _ h => h) (Or.inl ⟨by rfl, ?_⟩) (by assumption) ?_
    rotate_left
    · (intro w' hSw; (try dsimp only at hSw); go_simp; try with_reducible rfl)
    simp only [Act.put, List.getElem_toArray, List.getElem_cons_zero, List.getElem_cons_succ, List.setIfInBounds_toArray, List.set_cons_zero, List.set_cons_succ]
    refine wpAnyH_take (i := 16) (v := ?_) rfl (by kernel_rfl) (by kernel_rfl) (by kernel_rfl) (fun _ _ _ h => h) (Or.inl ⟨by rfl, ?_⟩) (by assumption) ?_
    rotate_left
    · (intro w' hSw; (try dsimp only at hSw); go_simp; try with_reducible rfl)
    simp only [Act.put, List.getElem_toArray, List.getElem_cons_zero, List.getElem_cons_succ, List.setIfInBounds_toArray, List.set_cons_zero, List.set_cons_succ]
    refine wpAnyH_take (i := 17) (v := ?_) rfl (by kernel_rfl) (by kernel_rfl) (by kernel_rfl) (fun _ _ _ h => h) (Or.inl ⟨by rfl, ?_⟩) (by assumption) ?_
    rotate_left
    · (intro w' hSw; (try dsimp only at hSw); go_simp; try with_reducible rfl)
    simp only [Act.put, List.getElem_toArray, List.getElem_cons_zero, List.getElem_cons_succ, List.setIfInBounds_toArray, List.set_cons_zero, List.set_cons_succ]
    refine wpAnyH_take (i := 18) (v := ?_) rfl (by kernel_rfl) (by kernel_rfl) (by kernel_rfl) (fun _ _ _ h => h) (Or.inl ⟨by rfl, ?_⟩) (by assumption) ?_
    rotate_left
    · (intro w' hSw; (try dsimp only at hSw); go_simp; try with_reducible rfl)
    simp only [Act.put, List.getElem_toArray, List.getElem_cons_zero, List.getElem_cons_succ, List.setIfInBounds_toArray, List.set_cons_zero, List.set_cons_succ]
    refine wpAnyH_take (i := 19) (v := ?_) rfl (by kernel_rfl) (by kernel_rfl) (by kernel_rfl) (fun _ _ _ h => h) (Or.inl ⟨by rfl, ?_⟩) (by assumption) ?_
    rotate_left
    · (intro w' hSw; (try dsimp only at hSw); go_simp; try with_reducible rfl)
    simp only [Act.put, List.getElem_toArray, List.getElem_cons_zero, List.getElem_cons_succ, List.setIfInBounds_toArray, List.set_cons_zero, List.set_cons_succ]
    refine wpAnyH_take (i := 20) (v := ?_) rfl (by kernel_rfl) (by kernel_rfl) (by kernel_rfl) (fun _ _ _ h => h) (Or.inl ⟨by rfl, ?_⟩) (by assumption) ?_
    rotate_left
    · (intro w' hSw; (try dsimp only at hSw); go_simp; try with_reducible rfl)
    simp only [Act.put, List.getElem_toArray, List.getElem_cons_zero, List.getElem_cons_succ, List.setIfInBounds_toArray, List.set_cons_zero, List.set_cons_succ]
    refine wpAnyH_take (i := 21) (v := ?_) rfl (by kernel_rfl) (by kernel_rfl) (by kernel_rfl) (fun _ _ _ h => h) (Or.inl ⟨by rfl, ?_⟩) (by assumption) ?_
    rotate_left
    · (intro w' hSw; (try dsimp only at hSw); go_simp; try with_reducible rfl)
    simp only [Act.put, List.getElem_toArray, List.getElem_cons_zero, List.getElem_cons_succ, List.setIfInBounds_toArray, List.set_cons_zero, List.set_cons_succ]
    refine wpAnyH_take (i := 22) (v := ?_) rfl (by kernel_rfl) (by kernel_rfl) (by kernel_rfl) (fun _ _ _ h => h) (Or.inl ⟨by rfl, ?_⟩) (by assumption) ?_
    rotate_left
    · (intro w' hSw; (try dsimp only at hSw); go_simp; try with_reducible rfl)
    simp only [Act.put, List.getElem_toArray, List.getElem_cons_zero, List.getElem_cons_succ, List.setIfInBounds_toArray, List.set_cons_zero, List.set_cons_succ]
    refine wpAnyH_take (i := 23) (v := ?_) rfl (by kernel_rfl) (by kernel_rfl) (by kernel_rfl) (fun _ _ _ h => h) (Or.inl ⟨by rfl, ?_⟩) (by assumption) ?_
    rotate_left
    · (intro w' hSw; (try dsimp only at hSw); go_simp; try with_reducible rfl)
    simp only [Act.put, List.getElem_toArray, List.getElem_cons_zero, List.getElem_cons_succ, List.setIfInBounds_toArray, List.set_cons_zero, List.set_cons_succ]
    refine wpAnyH_take (i := 24) (v := ?_) rfl (by kernel_rfl) (by kernel_rfl) (by kernel_rfl) (fun _ _ _ h => h) (Or.inl ⟨by rfl, ?_⟩) (by assumption) ?_
    rotate_left
    · (intro w' hSw; (try dsimp only at hSw); go_simp; try with_reducible rfl)
    simp only [Act.put, List.getElem_toArray, List.getElem_cons_zero, List.getElem_cons_succ, List.setIfInBounds_toArray, List.set_cons_zero, List.set_cons_succ]
    refine wpAnyH_take (i := 25) (v := .int .u32 (N4 / 65536)) rfl (by kernel_rfl) (by kernel_rfl) (by kernel_rfl) (fun _ _ _ h => h) (Or.inl ⟨by rfl, ?_⟩) (by assumption) ?_
    · (intro w' hSw; (try dsimp only at hSw); go_simp; rw [Int.tdiv_eq_ediv_of_nonneg (by omega), wrap_u32 (by omega) (by omega)])
    simp only [Act.put, List.getElem_toArray, List.getElem_cons_zero, List.getElem_cons_succ, List.setIfInBounds_toArray, List.set_cons_zero, List.set_cons_succ]
    refine wpAnyH_take (i := 26) (v := .int .i64 (N4 / 65536)) rfl (by kernel_rfl) (by kernel_rfl) (by kernel_rfl) (fun _ _ _ h => h) (Or.inl ⟨by rfl, ?_⟩) (by assumption) ?_
    · (intro w' hSw; (try dsimp only at hSw); go_simp; rw [wrap_i64 (by omega) (by omega)])
    simp only [Act.put, List.getElem_toArray, List.getElem_cons_zero, List.getElem_cons_succ, List.setIfInBounds_toArray, List.set_cons_zero, List.set_cons_succ]
    refine wpAnyH_take (i := 27) (v := ?_) rfl (by kernel_rfl) (by kernel_rfl) (by kernel_rfl) (fun _ _ _ h => h) (Or.inl ⟨by rfl, ?_⟩) (by assumption) ?_
    rotate_left
    · (intro w' hSw; (try dsimp only at hSw); go_simp; try with_reducible rfl)
    simp only [Act.put, List.getElem_toArray, List.getElem_cons_zero, List.getElem_cons_succ, List.setIfInBounds_toArray, List.set_cons_zero, List.set_cons_succ]
    refine wpAnyH_take (i := 28) (v := ?_) rfl (by kernel_rfl) (by kernel_rfl) (by kernel_rfl) (fun _ _ _ h => h) (Or.inl ⟨by rfl, ?_⟩) (by assumption) ?_
    rotate_left
    · (intro w' hSw; (try dsimp only at hSw); go_simp; try with_reducible rfl)
    simp only [Act.put, List.getElem_toArray, List.getElem_cons_zero, List.getElem_cons_succ, List.setIfInBounds_toArray, List.set_cons_zero, List.set_cons_succ]
    refine wpAnyH_take (i := 29) (v := ?_) rfl (by kernel_rfl) (by kernel_rfl) (by kernel_rfl) (fun _ _ _ h => h) (Or.inl ⟨by rfl, ?_⟩) (by assumption) ?_
    rotate_left
    · (intro w' hSw; (try dsimp only at hSw); go_simp; try with_reducible rfl)
    simp only [Act.put, List.getElem_toArray, List.getElem_cons_zero, List.getElem_cons_succ, List.setIfInBounds_toArray, List.set_cons_zero, List.set_cons_succ]
    refine wpAnyH_take (i := 30) (v := .int .u32 (N4 % 65536)) rfl (by kernel_rfl) (by kernel_rfl) (by kernel_rfl) (fun _ _ _ h => h) (Or.inl ⟨by rfl, ?_⟩) (by assumption) ?_
    · (intro w' hSw; (try dsimp only at hSw); go_simp; rw [Int.tmod_eq_emod_of_nonneg (by omega)])
    simp only [Act.put, List.getElem_toArray, List.getElem_cons_zero, List.getElem_cons_succ, List.setIfInBounds_toArray, List.set_cons_zero, List.set_cons_succ]
    refine wpAnyH_take (i := 31) (v := .int .i64 (N4 % 65536)) rfl (by kernel_rfl) (by kernel_rfl) (by kernel_rfl) (fun _ _ _ h => h) (Or.inl ⟨by rfl, ?_⟩) (by assumption) ?_
    · (intro w' hSw; (try dsimp only at hSw); go_simp; rw [wrap_i64 (by omega) (by omega)])
    simp only [Act.put, List.getElem_toArray, List.getElem_cons_zero, List.getElem_cons_succ, List.setIfInBounds_toArray, List.set_cons_zero, List.set_cons_succ]
    refine wpAnyH_take (i := 32) (v := .agg #[.int .i64 (N0 / 65536), .int .i64 x2, .int .i64 x3, .int .u32 N1, .int .u32 N2, .int .u32 N3, .int .i64 (N4 / 65536), .int .i64 (N4 % 65536)]) rfl (by kernel_rfl) (by kernel_rfl) (by kernel_rfl) (fun _ _ _ h => h) (Or.inl ⟨by rfl, ?_⟩) (by assumption) ?_
    · (intro w' hSw; (try dsimp only at hSw); go_simp; try rfl)
    simp only [Act.put, List.getElem_toArray, List.getElem_cons_zero, List.getElem_cons_succ, List.setIfInBounds_toArray, List.set_cons_zero, List.set_cons_succ]
    refine wpAnyH_ready (rs := [33]) (by kernel_rfl) (by simp) ?_
    refine AllReadyH.cons rfl (fun K hK => ?_) AllReadyH.nil
    go_simp
    obtain ⟨Y11, hY11⟩ : ∃ V, X0.alloc (.cells #[Value.int .i64 0, .int .i64 0, .int .i64 0, .int .u32 0, .int .u32 0, .int .u32 0, .int .i64 0, .int .i64 0] 85) = V := ⟨_, rfl⟩
    have u11 : Below X0.heap.size X0 Y11 := by rw [← hY11]; exact below_alloc1 _ _
    have kz := At.mk hY11
    have t_Y11 : Below Y1.heap.size Y1 Y11 := tt.trans (u11.mono tt.size)
    obtain ⟨k11, hk11⟩ : ∃ k, X0.heap.size = k := ⟨_, rfl⟩
    rw [hk11] at kz
    have ga : Hid (Y1.heap.size ≤ k11) := Lib.hid (by rw [← hk11]; exact tt.size)
    try rw [hY11]
    try rw [hk11]
    clear hY11 hk11
    refine hK.out _ _ (KS.out _ t_Y11) (fun _ => ?_)
    clear hK K
    refine wpAnyH_ready (rs := [34]) (by kernel_rfl) (by simp) ?_
    refine AllReadyH.cons rfl (fun K hK => ?_) AllReadyH.nil
    obtain ⟨a0, a1, a2, a3, a4, a5, a6, a7, f0, f1, f2, f3, f4, f5, f6, f7, hzl⟩ := kz8_at kz
    have KR : Hid (At (st8 Y11 k11 (Value.int .i64 (N0 / 65536)) (.int .i64 x2) (.int .i64 x3) (.int .u32 N1) (.int .u32 N2) (.int .u32 N3) (.int .i64 (N4 / 65536)) (.int .i64 (N4 % 65536))) k11 (.cells #[.int .i64 (N0 / 65536), .int .i64 x2, .int .i64 x3, .int .u32 N1, .int .u32 N2, .int .u32 N3, .int .i64 (N4 / 65536), .int .i64 (N4 % 65536)] 85)) := Lib.hid (kz8_set kz (Value.int .i64 (N0 / 65536)) (.int .i64 x2) (.int .i64 x3) (.int .u32 N1) (.int .u32 N2) (.int .u32 N3) (.int .i64 (N4 / 65536)) (.int .i64 (N4 % 65536)))
    have TF : Hid (Below Y1.heap.size Y1 (st8 Y11 k11 (Value.int .i64 (N0 / 65536)) (.int .i64 x2) (.int .i64 x3) (.int .u32 N1) (.int .u32 N2) (.int .u32 N3) (.int .i64 (N4 / 65536)) (.int .i64 (N4 % 65536)))) := Lib.hid (below_st8 t_Y11 ga.out _ _ _ _ _ _ _ _)
    have hne : g ≠ k11 := by have := HG.out; have := ga.out; omega
    have hnb : b ≠ k11 := by have := HBL.out; have := HW0.out; have := U1.out.size; have := ga.out; omega
    have KF : Hid ((st8 Y11 k11 (Value.int .i64 (N0 / 65536)) (.int .i64 x2) (.int .i64 x3) (.int .u32 N1) (.int .u32 N2) (.int .u32 N3) (.int .i64 (N4 / 65536)) (.int .i64 (N4 % 65536))).cell? ⟨g, 0, none⟩ = some (.int .u32 N0) ∧ (st8 Y11 k11 (Value.int .i64 (N0 / 65536)) (.int .i64 x2) (.int .i64 x3) (.int .u32 N1) (.int .u32 N2) (.int .u32 N3) (.int .i64 (N4 / 65536)) (.int .i64 (N4 % 65536))).cell? ⟨g, 1, none⟩ = some (.int .u32 N1) ∧ (st8 Y11 k11 (Value.int .i64 (N0 / 65536)) (.int .i64 x2) (.int .i64 x3) (.int .u32 N1) (.int .u32 N2) (.int .u32 N3) (.int .i64 (N4 / 65536)) (.int .i64 (N4 % 65536))).cell? ⟨g, 2, none⟩ = some (.int .u32 N2) ∧ (st8 Y11 k11 (Value.int .i64 (N0 / 65536)) (.int .i64 x2) (.int .i64 x3) (.int .u32 N1) (.int .u32 N2) (.int .u32 N3) (.int .i64 (N4 / 65536)) (.int .i64 (N4 % 65536))).cell? ⟨g, 3, none⟩ = some (.int .u32 N3) ∧ (st8 Y11 k11 (Value.int .i64 (N0 / 65536)) (.int .i64 x2) (.int .i64 x3) (.int .u32 N1) (.int .u32 N2) (.int .u32 N3) (.int .i64 (N4 / 65536)) (.int .i64 (N4 % 65536))).cell? ⟨g, 4, none⟩ = some (.int .u32 N4) ∧ (st8 Y11 k11 (Value.int .i64 (N0 / 65536)) (.int .i64 x2) (.int .i64 x3) (.int .u32 N1) (.int .u32 N2) (.int .u32 N3) (.int .i64 (N4 / 65536)) (.int .i64 (N4 % 65536))).cell? ⟨b, off + 2, none⟩ = some (.int .u8 x2) ∧ (st8 Y11 k11 (Value.int .i64 (N0 / 65536)) (.int .i64 x2) (.int .i64 x3) (.int .u32 N1) (.int .u32 N2) (.int .u32 N3) (.int .i64 (N4 / 65536)) (.int .i64 (N4 % 65536))).cell? ⟨b, off + 3, none⟩ = some (.int .u8 x3)) := Lib.hid <| by
      obtain ⟨e0, e1, e2, e3, e4, e5, e6⟩ := KS.out _ t_Y11
      exact ⟨(cell_st8 (p := ⟨g, 0, none⟩) hne _ _ _ _ _ _ _ _).trans e0, (cell_st8 (p := ⟨g, 1, none⟩) hne _ _ _ _ _ _ _ _).trans e1, (cell_st8 (p := ⟨g, 2, none⟩) hne _ _ _ _ _ _ _ _).trans e2, (cell_st8 (p := ⟨g, 3, none⟩) hne _ _ _ _ _ _ _ _).trans e3, (cell_st8 (p := ⟨g, 4, none⟩) hne _ _ _ _ _ _ _ _).trans e4, (cell_st8 (p := ⟨b, off + 2, none⟩) hnb _ _ _ _ _ _ _ _).trans e5, (cell_st8 (p := ⟨b, off + 3, none⟩) hnb _ _ _ _ _ _ _ _).trans e6⟩
    clear hHeld
    go_simp
    refine hK.out _ _ KF.out (fun _ => ?_)
    clear hK K
    refine wpAnyH_done (by kernel_rfl) ?_ _
    go_wp2_with fail
    go_meet
    case rel => exact ⟨_, rfl, ga, TF, KR⟩
  case rest =>
    obtain ⟨k, rfl, hk, T6, K6⟩ := hcut
    have T7 : Below W0.heap.size W0 wc := U1.out.trans (T6.out.mono U1.out.size)
    obtain ⟨y0, y1, y2, y3, y4, y5, y6, y7, p0, p1, p2, p3, p4, p5, p6, p7, hkl⟩ := kz8_at K6.out
    have CM := rmay_any ⟨N0 / 65536, x2, x3, N1, N2, N3, N4 / 65536, N4 % 65536⟩ wc
    clear v0 v1 v2 v3 v4 w2 w3 j2 j3 j2' j3' KS
    by_cases hm : mayd ⟨N0 / 65536, x2, x3, N1, N2, N3, N4 / 65536, N4 % 65536⟩ = true
    case neg =>
      have hm2 : mayd ⟨N0 / 65536, x2, x3, N1, N2, N3, N4 / 65536, N4 % 65536⟩ = false := by simpa using hm
      rw [hm2] at CM
      have e4 : rdE l = 3 := by rw [HE.out, if_neg hm]
      have e5 : rdp l = zhd := by rw [HP.out, e4]; rfl
      have e6 : rdr l = [] := by rw [HR.out, e4]; rfl
      have H4 := Lib.hid e4
      have H5 := Lib.hid e5
      have H6 := Lib.hid e6
      clear e4 e5 e6 hm hm2
      go_wp2_with fail
      refine CM.mono ?_
      rintro e V2 ⟨rfl, u7⟩
      have T8 : Below W0.heap.size W0 V2 := T7.trans (u7.mono T7.size)
      have z1 := KZ.out _ T8
      clear y0 y1 y2 y3 y4 y5 y6 y7 p0 p1 p2 p3 p4 p5 p6 p7
      obtain ⟨a0, a1, a2, a3, a4, a5, a6, a7, f0, f1, f2, f3, f4, f5, f6, f7, hzl⟩ := kz8_at z1
      have KR := Lib.hid <| kz8_get z1 (Value.int .i64 0) (.int .i64 0) (.int .i64 0) (.int .u32 0) (.int .u32 0) (.int .u32 0) (.int .i64 0) (.int .i64 0)
      have TF := Lib.hid <| below_st8 (HB.out.trans (T8.mono HB.out.size)) (Nat.le_refl _) (Value.int .i64 0) (.int .i64 0) (.int .i64 0) (.int .u32 0) (.int .u32 0) (.int .u32 0) (.int .i64 0) (.int .i64 0)
      clear T8 T7 u7 z1 CM KZ
      go_wp2
      obtain ⟨r0, r1, r2, r3, r4, r5, r6, r7⟩ := KR.out
      refine bodyPost_ret (v := .tuple #[.agg #[.int .i64 0, .int .i64 0, .int .i64 0, .int .u32 0, .int .u32 0, .int .u32 0, .int .i64 0, .int .i64 0], .slice none 0 0, .int .i64 3]) (by simp [results, Try.results55, go_sem, r0, r1, r2, r3, r4, r5, r6, r7]) rfl ⟨none, 0, ?_, ?_, TF.out⟩
      · rw [H4.out, H5.out, H6.out]
        rfl
      · rw [H6.out]
        exact Own.nil _ _
    rw [hm] at CM
    have e4 : rdE l = 0 := by rw [HE.out, if_pos hm]
    have e5 : rdp l = ⟨N0 / 65536, x2, x3, N1, N2, N3, N4 / 65536, N4 % 65536⟩ := by rw [HP.out, if_pos e4]
    have e6 : rdr l = LR := by rw [HR.out, if_pos e4]
    have H4 := Lib.hid e4
    have H5 := Lib.hid e5
    have H6 := Lib.hid e6
    clear e4 e5 e6 hm
    go_wp2_with fail
    refine CM.mono ?_
    rintro e V2 ⟨rfl, u7⟩
    have T8 : Below W0.heap.size W0 V2 := T7.trans (u7.mono T7.size)
    obtain ⟨B2, hB2⟩ : ∃ B, V2.heap.size = B := ⟨_, rfl⟩
    have kX : Hid (At V2 k (.cells #[.int .i64 (N0 / 65536), .int .i64 x2, .int .i64 x3, .int .u32 N1, .int .u32 N2, .int .u32 N3, .int .i64 (N4 / 65536), .int .i64 (N4 % 65536)] 85)) := Lib.hid (At.step K6.out u7)
    have zX : Hid (At V2 w.heap.size (.cells #[Value.int .i64 0, .int .i64 0, .int .i64 0, .int .u32 0, .int .u32 0, .int .u32 0, .int .i64 0, .int .i64 0] 85)) := Lib.hid (KZ.out _ T8)
    have bX : Hid (Below w.heap.size w V2) := Lib.hid (HB.out.trans (T8.mono HB.out.size))
    have sX : Hid (B2 ≤ V2.heap.size) := Lib.hid (by omega)
    have qX : Hid (Bs .u8 V2 w.heap.size (some ⟨b, a20, none⟩) LR) := Lib.hid (HQ.out.below bX.out)
    have hkw : k ≠ w.heap.size := by have := hk.out; have := U1.out.size; have := HW0.out; omega
    have kB : k < B2 := by have := At.lt kX.out; omega
    have wB : w.heap.size < B2 := by have := HW0.out; have := T8.size; omega
    have HKW := Lib.hid hkw
    have HKB := Lib.hid kB
    have HWB := Lib.hid wB
    obtain ⟨i0, hi0, hz0, hz1, hz2⟩ := info_of info5
    clear y0 y1 y2 y3 y4 y5 y6 y7 p0 p1 p2 p3 p4 p5 p6 p7 T7 T8 u7 CM KZ K6 HB HQ U1 T6 hk hB2 hkw kB wB
    go_upto_region 7 with fail
    refine wp_region_held_drew (S := fun V => V.cell? ⟨k, 0, none⟩ = some (.int .i64 (N0 / 65536)) ∧ V.cell? ⟨k, 1, none⟩ = some (.int .i64 x2) ∧ V.cell? ⟨k, 2, none⟩ = some (.int .i64 x3) ∧ V.cell? ⟨k, 3, none⟩ = some (.int .u32 N1) ∧ V.cell? ⟨k, 4, none⟩ = some (.int .u32 N2) ∧ V.cell? ⟨k, 5, none⟩ = some (.int .u32 N3) ∧ V.cell? ⟨k, 6, none⟩ = some (.int .i64 (N4 / 65536)) ∧ V.cell? ⟨k, 7, none⟩ = some (.int .i64 (N4 % 65536))) (by kernel_rfl) (have q := kz8_at (kX.out); ⟨q.1, q.2.1, q.2.2.1, q.2.2.2.1, q.2.2.2.2.1, q.2.2.2.2.2.1, q.2.2.2.2.2.2.1, q.2.2.2.2.2.2.2.1⟩) (fun hHeld => ?_)
    replace kX : Hid (At V2.drew k (.cells #[.int .i64 (N0 / 65536), .int .i64 x2, .int .i64 x3, .int .u32 N1, .int .u32 N2, .int .u32 N3, .int .i64 (N4 / 65536), .int .i64 (N4 % 65536)] 85)) := kX
    replace zX : Hid (At V2.drew w.heap.size (.cells #[Value.int .i64 0, .int .i64 0, .int .i64 0, .int .u32 0, .int .u32 0, .int .u32 0, .int .i64 0, .int .i64 0] 85)) := zX
    replace bX : Hid (Below w.heap.size w V2.drew) := Lib.hid bX.out.drew
    replace sX : Hid (B2 ≤ V2.drew.heap.size) := sX
    replace qX : Hid (Bs .u8 V2.drew w.heap.size (some ⟨b, a20, none⟩) LR) := qX
    generalize hX0 : V2.drew = X0 at kX zX bX sX qX hHeld ⊢
    clear hX0
    refine wpAnyH_take (i := 0) (v := ?_) rfl (by kernel_rfl) (by kernel_rfl) (by kernel_rfl) (fun _ _ _ h => h) (Or.inl ⟨by rfl, ?_⟩) (by assumption) ?_
    rotate_left
    · (intro w' hSw; (try dsimp only at hSw); go_simp; try with_reducible rfl)
    simp only [Act.put, List.getElem_toArray, List.getElem_cons_zero, List.setIfInBounds_toArray, List.set_cons_zero, List.set_cons_succ]
    refine wpAnyH_take (i := 2) (v := ?_) rfl (by kernel_rfl) (by kernel_rfl) (by kernel_rfl) (fun _ _ _ h => h) (Or.inl ⟨by rfl, ?_⟩) (by assumption) ?_
    rotate_left
    · (intro w' hSw; (try dsimp only at hSw); go_simp; try with_reducible rfl)
    simp only [Act.put, List.getElem_toArray, List.getElem_cons_zero, List.getElem_cons_succ, List.setIfInBounds_toArray, List.set_cons_zero, List.set_cons_succ]
    refine wpAnyH_take (i := 3) (v := .slice (some ⟨b, a20, none⟩) (n - 20) (c - 20)) rfl (by kernel_rfl) (by kernel_rfl) (by kernel_rfl) (fun _ _ _ h => h) (Or.inl ⟨by rfl, ?_⟩) (by assumption) ?_
    · (intro w' hSw; (try dsimp only at hSw); go_simp; (have q := HA20.out); by_cases h : c = 20 <;> simp_all)
    simp only [Act.put, List.getElem_toArray, List.getElem_cons_zero, List.getElem_cons_succ, List.setIfInBounds_toArray, List.set_cons_zero, List.set_cons_succ]
    refine wpAnyH_ready (rs := [1]) (by kernel_rfl) (by simp) ?_
    refine AllReadyH.cons rfl (fun K hK => ?_) AllReadyH.nil
    go_simp
    obtain ⟨Y31, hY31⟩ : ∃ V, X0.alloc (.cells #[] 5) = V := ⟨_, rfl⟩
    have u31 : Below B2 X0 Y31 := by rw [← hY31]; exact (below_alloc1 _ _).mono sX.out
    obtain ⟨k31, hk31⟩ : ∃ k, X0.heap.size = k := ⟨_, rfl⟩
    have oX : Hid (Own .u8 5 Y31 B2 (some ⟨k31, 0, none⟩) 0 []) := Lib.hid (by
      rw [← hk31, ← hY31]
      exact Own.empty _ _ sX.out _ _)
    replace kX := Lib.hid (At.mv kX.out u31 HKB.out)
    replace zX := Lib.hid (At.mv zX.out u31 HWB.out)
    replace bX := Lib.hid (bX.out.trans (u31.mono (Nat.le_of_lt HWB.out)))
    replace sX := Lib.hid (Nat.le_trans sX.out u31.size)
    replace qX := Lib.hid (qX.out.keep (fun p hp => u31.cell (Nat.lt_trans hp HWB.out)))
    try rw [hY31]
    try rw [hk31]
    clear u31 hY31 hk31
    refine hK.out _ _ (have q := kz8_at (kX.out); ⟨q.1, q.2.1, q.2.2.1, q.2.2.2.1, q.2.2.2.2.1, q.2.2.2.2.2.1, q.2.2.2.2.2.2.1, q.2.2.2.2.2.2.2.1⟩) (fun _ => ?_)
    clear hK K
    refine wpAnyH_ready (rs := [4]) (by kernel_rfl) (by simp) ?_
    refine AllReadyH.cons rfl (fun K hK => ?_) AllReadyH.nil
    obtain ⟨A32, c32, Y32, r32, o32, u32⟩ := run_apn (P := Try.prog) Y31 B2 26 26 5 .u8 i0 _ 1 Try.underlying26 hi0 hz0 hz1 hz2 rfl _ _ _ oX.out _ (some ⟨b, a20, none⟩) (c - 20) _ qX.out 0 (n - 20) rfl HFR.out (by unfold maxLen; omega) (by omega) sX.out
    rw [Nat.zero_add] at r32
    rw [List.nil_append] at o32
    have oY := Lib.hid o32
    replace kX := Lib.hid (At.mv kX.out u32 HKB.out)
    replace zX := Lib.hid (At.mv zX.out u32 HWB.out)
    replace bX := Lib.hid (bX.out.trans (u32.mono (Nat.le_of_lt HWB.out)))
    replace sX := Lib.hid (Nat.le_trans sX.out u32.size)
    replace qX := Lib.hid (qX.out.keep (fun p hp => u32.cell (Nat.lt_trans hp HWB.out)))
    clear o32 u32
    refine step_runb _ rfl (.tmp 56) (.tmp 58) 26 rfl rfl rfl r32 ?_
    refine hK.out _ _ (have q := kz8_at (kX.out); ⟨q.1, q.2.1, q.2.2.1, q.2.2.2.1, q.2.2.2.2.1, q.2.2.2.2.2.1, q.2.2.2.2.2.2.1, q.2.2.2.2.2.2.2.1⟩) (fun _ => ?_)
    clear hK K
    refine wpAnyH_ready (rs := [5]) (by kernel_rfl) (by simp) ?_
    refine AllReadyH.cons rfl (fun K hK => ?_) AllReadyH.nil
    obtain ⟨a0, a1, a2, a3, a4, a5, a6, a7, f0, f1, f2, f3, f4, f5, f6, f7, hzl⟩ := kz8_at zX.out
    have kX2 : Hid (At (st8 Y32 w.heap.size (Value.int .i64 (N0 / 65536)) (.int .i64 x2) (.int .i64 x3) (.int .u32 N1) (.int .u32 N2) (.int .u32 N3) (.int .i64 (N4 / 65536)) (.int .i64 (N4 % 65536))) k (.cells #[.int .i64 (N0 / 65536), .int .i64 x2, .int .i64 x3, .int .u32 N1, .int .u32 N2, .int .u32 N3, .int .i64 (N4 / 65536), .int .i64 (N4 % 65536)] 85)) := Lib.hid ((far_st8 HKW.out _ _ _ _ _ _ _ _).trans kX.out)
    have zX2 : Hid (At (st8 Y32 w.heap.size (Value.int .i64 (N0 / 65536)) (.int .i64 x2) (.int .i64 x3) (.int .u32 N1) (.int .u32 N2) (.int .u32 N3) (.int .i64 (N4 / 65536)) (.int .i64 (N4 % 65536))) w.heap.size (.cells #[.int .i64 (N0 / 65536), .int .i64 x2, .int .i64 x3, .int .u32 N1, .int .u32 N2, .int .u32 N3, .int .i64 (N4 / 65536), .int .i64 (N4 % 65536)] 85)) := Lib.hid (kz8_set zX.out (Value.int .i64 (N0 / 65536)) (.int .i64 x2) (.int .i64 x3) (.int .u32 N1) (.int .u32 N2) (.int .u32 N3) (.int .i64 (N4 / 65536)) (.int .i64 (N4 % 65536)))
    have bX2 : Hid (Below w.heap.size w (st8 Y32 w.heap.size (Value.int .i64 (N0 / 65536)) (.int .i64 x2) (.int .i64 x3) (.int .u32 N1) (.int .u32 N2) (.int .u32 N3) (.int .i64 (N4 / 65536)) (.int .i64 (N4 % 65536)))) := Lib.hid (below_st8 bX.out (Nat.le_refl _) _ _ _ _ _ _ _ _)
    have sX2 : Hid (B2 ≤ (st8 Y32 w.heap.size (Value.int .i64 (N0 / 65536)) (.int .i64 x2) (.int .i64 x3) (.int .u32 N1) (.int .u32 N2) (.int .u32 N3) (.int .i64 (N4 / 65536)) (.int .i64 (N4 % 65536))).heap.size) := Lib.hid (by rw [size_st8]; exact sX.out)
    have qX2 : Hid (Bs .u8 (st8 Y32 w.heap.size (Value.int .i64 (N0 / 65536)) (.int .i64 x2) (.int .i64 x3) (.int .u32 N1) (.int .u32 N2) (.int .u32 N3) (.int .i64 (N4 / 65536)) (.int .i64 (N4 % 65536))) w.heap.size (some ⟨b, a20, none⟩) LR) := Lib.hid (qX.out.keep (fun p hp => cell_st8 (Nat.ne_of_lt hp) _ _ _ _ _ _ _ _))
    have oY2 : Hid (Own .u8 5 (st8 Y32 w.heap.size (Value.int .i64 (N0 / 65536)) (.int .i64 x2) (.int .i64 x3) (.int .u32 N1) (.int .u32 N2) (.int .u32 N3) (.int .i64 (N4 / 65536)) (.int .i64 (N4 % 65536))) B2 A32 c32 LR) := Lib.hid (oY.out.far8 HWB.out _ _ _ _ _ _ _ _)
    clear hHeld kX zX bX sX qX oY
    go_simp
    clear a0 a1 a2 a3 a4 a5 a6 a7 f0 f1 f2 f3 f4 f5 f6 f7 hzl
    have kX := kX2
    clear kX2
    have zX := zX2
    clear zX2
    have bX := bX2
    clear bX2
    have sX := sX2
    clear sX2
    have qX := qX2
    clear qX2
    have oY := oY2
    clear oY2
    refine hK.out _ _ (have q := kz8_at (kX.out); ⟨q.1, q.2.1, q.2.2.1, q.2.2.2.1, q.2.2.2.2.1, q.2.2.2.2.2.1, q.2.2.2.2.2.2.1, q.2.2.2.2.2.2.2.1⟩) (fun _ => ?_)
    clear hK K
    refine wpAnyH_ready (rs := [6]) (by kernel_rfl) (by simp) ?_
    refine AllReadyH.cons rfl (fun K hK => ?_) AllReadyH.nil
    go_simp
    refine hK.out _ _ (have q := kz8_at (kX.out); ⟨q.1, q.2.1, q.2.2.1, q.2.2.2.1, q.2.2.2.2.1, q.2.2.2.2.2.1, q.2.2.2.2.2.2.1, q.2.2.2.2.2.2.2.1⟩) (fun _ => ?_)
    clear hK K
    refine wpAnyH_ready (rs := [7]) (by kernel_rfl) (by simp) ?_
    refine AllReadyH.cons rfl (fun K hK => ?_) AllReadyH.nil
    go_simp
    refine hK.out _ _ (have q := kz8_at (kX.out); ⟨q.1, q.2.1, q.2.2.1, q.2.2.2.1, q.2.2.2.2.1, q.2.2.2.2.2.1, q.2.2.2.2.2.2.1, q.2.2.2.2.2.2.2.1⟩) (fun _ => ?_)
    clear hK K
    refine wpAnyH_done (by kernel_rfl) ?_ _
    obtain ⟨r0, r1, r2, r3, r4, r5, r6, r7, -⟩ := kz8_at zX.out
    go_wp2_with fail
    refine bodyPost_ret (v := .tuple #[.agg #[.int .i64 (N0 / 65536), .int .i64 x2, .int .i64 x3, .int .u32 N1, .int .u32 N2, .int .u32 N3, .int .i64 (N4 / 65536), .int .i64 (N4 % 65536)], .slice A32 (n - 20) c32, .int .i64 0]) (by simp [results, Try.results55, go_sem, r0, r1, r2, r3, r4, r5, r6, r7]) rfl ⟨A32, c32, ?_, ?_, bX.out⟩
    · rw [H4.out, H5.out, H6.out, HFR.out]
    · rw [H6.out]
      exact oY.out.lower (Nat.le_of_lt HWB.out)
end Go.Proofs.Ytefbpaebimagaaa
