/-
  The walk of ElectSteady. No statement is proved here; no conditions.
-/
import Derived.Test.YtpfppacmldjioaaAl3
import Derived.Test.YtpfppacmldjioaaCy
import Derived.Test.YtpfppacmldjioaaFs
namespace Go.Proofs.Ytpfppacmldjioaa
open Go.RowKit Go.Joins

/-- A row appended to a row of the call's own: only the row's own block is another. -/
theorem app_rows {base : Nat} {W : World} {A A2 : Option Addr} {n c n2 c2 : Nat} {L L2 : List Ca} (h : Ow4 40 base W A c L) (hn : L.length = n) (hr : Cr W A2 L2) (hn2 : L2.length = n2) (h0 : 0 < n2) (hb : n + n2 ≤ 1000000) (hbase : base ≤ W.heap.size) :
    ∃ g' c' W', (Builtin.append_ #[22, 22] 22 #[.slice A n c, .slice A2 n2 c2]).run Try.prog W = .ok (.slice (some ⟨g', 0, none⟩) (n + n2) c') W' ∧ Ow4 40 base W' (some ⟨g', 0, none⟩) c' (L ++ L2) ∧ Below base W W' ∧ Kp (fun j => A = some ⟨j, 0, none⟩) W W' := by
  obtain ⟨i0, hi0, hz0, hz1, hz2⟩ := info_of infoE
  have ob : Ob 40 4 (fun j => A = some ⟨j, 0, none⟩) W A c (cflat L) := by
    rcases h with h | ⟨g, _, h2, h3⟩
    · exact .inl h
    · exact .inr ⟨g, h2, h2, h3⟩
  have hat : ∀ j, A = some ⟨j, 0, none⟩ → base ≤ j := by
    intro j hj
    rcases h with ⟨h1, _, _⟩ | ⟨g, h1, h2, h3⟩
    · rw [h1] at hj; cases hj
    · rw [h2] at hj
      injection hj with hj
      injection hj with hj
      rw [← hj]; exact h1
  obtain ⟨g', c', W1, r1, r2, r3, r4⟩ := app_gen (P := Try.prog) Try.underlying22 hi0 hz0 hz1 hz2 rfl (by decide) (by decide) ob (n := n) (by rw [cflat_length, hn]) A2 c2 n2 (cflat L2) hr (by rw [cflat_length, hn2]) (cflat_one L2) h0 hb
  refine ⟨g', c', W1, r1, Ow4.of (by rw [cflat_app]; exact r2) ?_, r3.below hat hbase, r3⟩
  rcases r4 with q | q
  · exact hat _ q
  · omega
theorem cr_block {W : World} {b : Nat} {x : Ca} (h : Bk W b (.cells #[.int .u32 x.i, .int .i64 x.p, .int .u32 x.d, .int .u32 x.b] 40)) : Cr W (some ⟨b, 0, none⟩) [x] := fun _ => by
  refine ⟨b, 0, rfl, trivial, h.lt, fun j u hu => ?_⟩
  rw [Nat.zero_add, cell_of_block h]
  have : (cflat [x]) = [.int .u32 x.i, .int .i64 x.p, .int .u32 x.d, .int .u32 x.b] := rfl
  rw [this] at hu
  simpa using hu
theorem k4_at {W : World} {b : Nat} {t : TypeId} {v0 v1 v2 v3 : Value} (h : Bk W b (.cells #[v0, v1, v2, v3] t)) : W.cell? ⟨b, 0, none⟩ = some v0 ∧ W.cell? ⟨b, 1, none⟩ = some v1 ∧ W.cell? ⟨b, 2, none⟩ = some v2 ∧ W.cell? ⟨b, 3, none⟩ = some v3 :=
  ⟨(cell_of_block h 0).trans rfl, (cell_of_block h 1).trans rfl, (cell_of_block h 2).trans rfl, (cell_of_block h 3).trans rfl⟩
theorem okws_stn {L : List Ca} {d b : Int} (h : Okws L) (hd : 0 ≤ d ∧ d < 4294967296) (hb : 0 ≤ b ∧ b < 4294967296) : Okws (L.map (stn d b)) := fun x hx => by
  obtain ⟨z, hz, rfl⟩ := List.mem_map.1 hx
  exact ⟨(h z hz).i, hd, hb⟩
theorem okws_snoc {L : List Ca} {x : Ca} (h : Okws L) (hx : Okw x) : Okws (L ++ [x]) := fun z hz => by
  rcases List.mem_append.1 hz with q | q
  · exact h z q
  · rw [List.mem_singleton] at q; rw [q]; exact hx
set_option maxRecDepth 100000 in
set_option maxHeartbeats 8000000 in
theorem steady_walk (A0 : Option Addr) (n c : Nat) (L : List Ca) (y : Ca) (m o : Int) (w : World) (hn : L.length = n) (hw : Okws L) (hl : Cr w A0 L) (hy : Okw y) :
    Calls Try.prog 5 #[.slice A0 n c, cv y, .agg #[.int .i64 m, .int .i64 o]] w fun e w' => e = .returned (.bool true) ∧ Below w.heap.size w w' := by
  have CAl : Hid (∀ V, _) := Lib.hid (fun V => alive_any V)
  obtain ⟨W0, hW0⟩ : ∃ V, w.alloc (.cells #[.int .u32 y.i, .int .i64 y.p, .int .u32 y.d, .int .u32 y.b] 40) = V := ⟨_, rfl⟩
  have bW0 : Below w.heap.size w W0 := by rw [← hW0]; exact below_alloc1 _ _
  have sW0 : W0.heap.size = w.heap.size + 1 := by rw [← hW0]; simp
  have KX : Hid (∀ V, Below W0.heap.size W0 V → V.cell? ⟨w.heap.size, 0, none⟩ = some (.int .u32 y.i) ∧ V.cell? ⟨w.heap.size, 1, none⟩ = some (.int .i64 y.p) ∧ V.cell? ⟨w.heap.size, 2, none⟩ = some (.int .u32 y.d) ∧ V.cell? ⟨w.heap.size, 3, none⟩ = some (.int .u32 y.b)) := Lib.hid (fun V hV => kb4_new hW0 hV)
  have G0 := Bk.mk hW0
  obtain ⟨W1, hW1⟩ : ∃ V, W0.alloc (.cells #[.int .i64 m, .int .i64 o] 41) = V := ⟨_, rfl⟩
  have bW1 : Below W0.heap.size W0 W1 := by rw [← hW1]; exact below_alloc1 _ _
  have GP := Bk.mk hW1
  have p0 : W1.cell? ⟨W0.heap.size, 0, none⟩ = some (.int .i64 m) := (cell_of_block GP 0).trans rfl
  have p1 : W1.cell? ⟨W0.heap.size, 1, none⟩ = some (.int .i64 o) := (cell_of_block GP 1).trans rfl
  have G1 := Lib.hid (G0.step bW1)
  have HB1 : Hid (Below w.heap.size w W1) := Lib.hid (bW0.trans (bW1.mono bW0.size))
  have HGP := Lib.hid GP
  have HN := Lib.hid hn
  have HW := Lib.hid hw
  have HL := Lib.hid hl
  have HY := Lib.hid hy
  clear KX sW0 bW0 G0 bW1 GP hn hw hl hy
  by_cases h0 : n = 0
  · have z0 : ((n : Int) == 0) = true := by simp [h0]
    clear h0
    go_enter Try.func5, Try.ntmps5
    go_wp2_with fail
    refine (CAl.out W1).mono ?_
    rintro e W2 ⟨rfl, u2⟩
    go_wp2
    go_ret
    exact ⟨rfl, HB1.out.trans (u2.mono HB1.out.size)⟩
  have z0 : ((n : Int) == 0) = false := by simpa using h0
  by_cases h1 : 49 < n
  · have z1 : decide ((n : Int) > 49) = true := by simp; omega
    clear h0 h1
    go_enter Try.func5, Try.ntmps5
    go_wp2_with fail
    refine (CAl.out W1).mono ?_
    rintro e W2 ⟨rfl, u2⟩
    go_wp2
    go_ret
    exact ⟨rfl, HB1.out.trans (u2.mono HB1.out.size)⟩
  have z1 : decide ((n : Int) > 49) = false := by simp; omega
  by_cases h2 : m < 0
  · have z2 : decide (m < 0) = true := by simp [h2]
    clear h0 h1 h2
    go_enter Try.func5, Try.ntmps5
    go_wp2_with fail
    refine (CAl.out W1).mono ?_
    rintro e W2 ⟨rfl, u2⟩
    go_wp2
    go_ret
    exact ⟨rfl, HB1.out.trans (u2.mono HB1.out.size)⟩
  have z2 : decide (m < 0) = false := by simpa using h2
  by_cases h3 : o < 0
  · have z3 : decide (o < 0) = true := by simp [h3]
    clear h0 h1 h2 h3
    go_enter Try.func5, Try.ntmps5
    go_wp2_with fail
    refine (CAl.out W1).mono ?_
    rintro e W2 ⟨rfl, u2⟩
    go_wp2
    go_ret
    exact ⟨rfl, HB1.out.trans (u2.mono HB1.out.size)⟩
  have z3 : decide (o < 0) = false := by simpa using h3
  obtain ⟨M, rfl⟩ := Int.eq_ofNat_of_zero_le (Int.not_lt.1 h2)
  obtain ⟨O, rfl⟩ := Int.eq_ofNat_of_zero_le (Int.not_lt.1 h3)
  have hpos : 0 < n := Nat.pos_of_ne_zero h0
  have HN0 := Lib.hid h0
  obtain ⟨q0, hq0⟩ : ∃ q, M % n = q := ⟨_, rfl⟩
  obtain ⟨q1, hq1⟩ : ∃ q, O % n = q := ⟨_, rfl⟩
  have lq0 : q0 < n := by rw [← hq0]; exact Nat.mod_lt _ hpos
  have lq1 : q1 < n := by rw [← hq1]; exact Nat.mod_lt _ hpos
  have hr0 : Hid ((M : Int).tmod (n : Int) = (q0 : Int)) := Lib.hid (by rw [Int.tmod_eq_emod_of_nonneg (by omega), ← hq0]; exact (Int.natCast_emod M n).symm)
  have hr1 : Hid ((O : Int).tmod (n : Int) = (q1 : Int)) := Lib.hid (by rw [Int.tmod_eq_emod_of_nonneg (by omega), ← hq1]; exact (Int.natCast_emod O n).symm)
  obtain ⟨b, off, hA, hbw, d0, -, -, -⟩ := crd_at HL.out (i := q0) (by rw [HN.out]; exact lq0)
  obtain ⟨b', off', hA', -, f0, -, -, -⟩ := crd_at HL.out (i := q1) (by rw [HN.out]; exact lq1)
  have hA2 := hA.symm.trans hA'
  simp only [Option.some.injEq, Addr.mk.injEq] at hA2
  obtain ⟨rfl, rfl, -⟩ := hA2
  have okd := (HW.out _ (cg_mem (L := L) (k := q0) (by rw [HN.out]; exact lq0))).i
  have okb := (HW.out _ (cg_mem (L := L) (k := q1) (by rw [HN.out]; exact lq1))).i
  obtain ⟨vd, hvd⟩ : ∃ v, (cg L q0).i = v := ⟨_, rfl⟩
  obtain ⟨vb, hvb⟩ : ∃ v, (cg L q1).i = v := ⟨_, rfl⟩
  rw [hvd] at d0 okd
  rw [hvb] at f0 okb
  have HOD := Lib.hid okd
  have HOB := Lib.hid okb
  have l0 : (q0 : Int) < (n : Int) := by omega
  have l1 : (q1 : Int) < (n : Int) := by omega
  have KS : Hid (∀ V, Below w.heap.size w V → Bk V W0.heap.size (.cells #[.int .i64 (M : Int), .int .i64 (O : Int)] 41) → V.cell? ⟨W0.heap.size, 0, none⟩ = some (.int .i64 (M : Int)) ∧ V.cell? ⟨W0.heap.size, 1, none⟩ = some (.int .i64 (O : Int)) ∧ V.cell? ⟨b, off + q0 * 4, none⟩ = some (.int .u32 vd) ∧ V.cell? ⟨b, off + q1 * 4, none⟩ = some (.int .u32 vb)) := Lib.hid (fun V hV hG => by
    have hc : ∀ i, V.cell? ⟨b, i, none⟩ = w.cell? ⟨b, i, none⟩ := fun i => World.cell?_of_block (hV.block b hbw)
    exact ⟨(cell_of_block hG 0).trans rfl, (cell_of_block hG 1).trans rfl, (hc _).trans d0, (hc _).trans f0⟩)
  have hU : n ≤ 49 := by omega
  have HU := Lib.hid hU
  subst hA
  clear hA' h0 h1 h2 h3 hpos hq0 hq1 d0 f0 hvd hvb okd okb lq0 lq1 hbw hU
  go_enter Try.func5, Try.ntmps5
  go_upto_region 3 with fail
  go_cut [7, 8] (fun v7 v8 wx => v7 = .int .u32 vd ∧ v8 = .int .u32 vb ∧ Hid (Below W1.heap.size W1 wx))
  case first =>
    have tt := HB1.out
    have rf := Below.refl W1.heap.size W1
    have gp := HGP.out
    clear p0 p1 hW0 hW1
    refine wp_region_held_drew (S := fun V => V.cell? ⟨W0.heap.size, 0, none⟩ = some (.int .i64 (M : Int)) ∧ V.cell? ⟨W0.heap.size, 1, none⟩ = some (.int .i64 (O : Int)) ∧ V.cell? ⟨b, off + q0 * 4, none⟩ = some (.int .u32 vd) ∧ V.cell? ⟨b, off + q1 * 4, none⟩ = some (.int .u32 vb)) (by kernel_rfl) (KS.out _ tt.drew (gp.step rf.drew)) (fun hHeld => ?_)
    replace gp := gp.step rf.drew
    replace tt := tt.drew
    have TB := Lib.hid rf.drew
    generalize hX0 : W1.drew = Y0 at tt gp TB hHeld ⊢
    clear hX0 rf
    refine wpAnyH_take (i := 0) (v := ?_) rfl (by kernel_rfl) (by kernel_rfl) (by kernel_rfl) (fun _ _ _ h => h) (Or.inl ⟨by rfl, ?_⟩) (by assumption) ?_
    rotate_left
    · (intro w' hSw; (try dsimp only at hSw); go_simp; try with_reducible rfl)
    simp only [Act.put, List.getElem_toArray, List.getElem_cons_zero, List.setIfInBounds_toArray, List.set_cons_zero, List.set_cons_succ]
    refine wpAnyH_take (i := 1) (v := ?_) rfl (by kernel_rfl) (by kernel_rfl) (by kernel_rfl) (fun _ _ _ h => h) (Or.inl ⟨by rfl, ?_⟩) (by assumption) ?_
    rotate_left
    · (intro w' hSw; (try dsimp only at hSw); go_simp; try with_reducible rfl)
    simp only [Act.put, List.getElem_toArray, List.getElem_cons_zero, List.getElem_cons_succ, List.setIfInBounds_toArray, List.set_cons_zero, List.set_cons_succ]
    refine wpAnyH_take (i := 2) (v := ?_) rfl (by kernel_rfl) (by kernel_rfl) (by kernel_rfl) (fun _ _ _ h => h) (Or.inl ⟨by rfl, ?_⟩) (by assumption) ?_
    rotate_left
    · (intro w' hSw; (try dsimp only at hSw); go_simp; try with_reducible rfl)
    simp only [Act.put, List.getElem_toArray, List.getElem_cons_zero, List.getElem_cons_succ, List.setIfInBounds_toArray, List.set_cons_zero, List.set_cons_succ]
    refine wpAnyH_take (i := 3) (v := ?_) rfl (by kernel_rfl) (by kernel_rfl) (by kernel_rfl) (fun _ _ _ h => h) (Or.inl ⟨by rfl, ?_⟩) (by assumption) ?_
    rotate_left
    · (intro w' hSw; (try dsimp only at hSw); go_simp; try with_reducible rfl)
    simp only [Act.put, List.getElem_toArray, List.getElem_cons_zero, List.getElem_cons_succ, List.setIfInBounds_toArray, List.set_cons_zero, List.set_cons_succ]
    refine wpAnyH_take (i := 4) (v := ?_) rfl (by kernel_rfl) (by kernel_rfl) (by kernel_rfl) (fun _ _ _ h => h) (Or.inl ⟨by rfl, ?_⟩) (by assumption) ?_
    rotate_left
    · (intro w' hSw; (try dsimp only at hSw); go_simp; try with_reducible rfl)
    simp only [Act.put, List.getElem_toArray, List.getElem_cons_zero, List.getElem_cons_succ, List.setIfInBounds_toArray, List.set_cons_zero, List.set_cons_succ]
    refine wpAnyH_take (i := 5) (v := .int .i64 (q0 : Int)) rfl (by kernel_rfl) (by kernel_rfl) (by kernel_rfl) (fun _ _ _ h => h) (Or.inl ⟨by rfl, ?_⟩) (by assumption) ?_
    · (intro w' hSw; (try dsimp only at hSw); go_simp; rw [hr0.out, if_neg HN0.out])
    simp only [Act.put, List.getElem_toArray, List.getElem_cons_zero, List.getElem_cons_succ, List.setIfInBounds_toArray, List.set_cons_zero, List.set_cons_succ]
    refine wpAnyH_take (i := 6) (v := ?_) rfl (by kernel_rfl) (by kernel_rfl) (by kernel_rfl) (fun _ _ _ h => h) (Or.inl ⟨by rfl, ?_⟩) (by assumption) ?_
    rotate_left
    · (intro w' hSw; (try dsimp only at hSw); go_simp; try with_reducible rfl)
    simp only [Act.put, List.getElem_toArray, List.getElem_cons_zero, List.getElem_cons_succ, List.setIfInBounds_toArray, List.set_cons_zero, List.set_cons_succ]
    refine wpAnyH_take (i := 7) (v := ?_) rfl (by kernel_rfl) (by kernel_rfl) (by kernel_rfl) (fun _ _ _ h => h) (Or.inl ⟨by rfl, ?_⟩) (by assumption) ?_
    rotate_left
    · (intro w' hSw; (try dsimp only at hSw); go_simp; try with_reducible rfl)
    simp only [Act.put, List.getElem_toArray, List.getElem_cons_zero, List.getElem_cons_succ, List.setIfInBounds_toArray, List.set_cons_zero, List.set_cons_succ]
    refine wpAnyH_take (i := 8) (v := ?_) rfl (by kernel_rfl) (by kernel_rfl) (by kernel_rfl) (fun _ _ _ h => h) (Or.inl ⟨by rfl, ?_⟩) (by assumption) ?_
    rotate_left
    · (intro w' hSw; (try dsimp only at hSw); go_simp; try with_reducible rfl)
    simp only [Act.put, List.getElem_toArray, List.getElem_cons_zero, List.getElem_cons_succ, List.setIfInBounds_toArray, List.set_cons_zero, List.set_cons_succ]
    refine wpAnyH_take (i := 9) (v := ?_) rfl (by kernel_rfl) (by kernel_rfl) (by kernel_rfl) (fun _ _ _ h => h) (Or.inl ⟨by rfl, ?_⟩) (by assumption) ?_
    rotate_left
    · (intro w' hSw; (try dsimp only at hSw); go_simp; try with_reducible rfl)
    simp only [Act.put, List.getElem_toArray, List.getElem_cons_zero, List.getElem_cons_succ, List.setIfInBounds_toArray, List.set_cons_zero, List.set_cons_succ]
    refine wpAnyH_take (i := 10) (v := ?_) rfl (by kernel_rfl) (by kernel_rfl) (by kernel_rfl) (fun _ _ _ h => h) (Or.inl ⟨by rfl, ?_⟩) (by assumption) ?_
    rotate_left
    · (intro w' hSw; (try dsimp only at hSw); go_simp; try with_reducible rfl)
    simp only [Act.put, List.getElem_toArray, List.getElem_cons_zero, List.getElem_cons_succ, List.setIfInBounds_toArray, List.set_cons_zero, List.set_cons_succ]
    refine wpAnyH_take (i := 11) (v := ?_) rfl (by kernel_rfl) (by kernel_rfl) (by kernel_rfl) (fun _ _ _ h => h) (Or.inl ⟨by rfl, ?_⟩) (by assumption) ?_
    rotate_left
    · (intro w' hSw; (try dsimp only at hSw); go_simp; try with_reducible rfl)
    simp only [Act.put, List.getElem_toArray, List.getElem_cons_zero, List.getElem_cons_succ, List.setIfInBounds_toArray, List.set_cons_zero, List.set_cons_succ]
    refine wpAnyH_take (i := 12) (v := ?_) rfl (by kernel_rfl) (by kernel_rfl) (by kernel_rfl) (fun _ _ _ h => h) (Or.inl ⟨by rfl, ?_⟩) (by assumption) ?_
    rotate_left
    · (intro w' hSw; (try dsimp only at hSw); go_simp; try with_reducible rfl)
    simp only [Act.put, List.getElem_toArray, List.getElem_cons_zero, List.getElem_cons_succ, List.setIfInBounds_toArray, List.set_cons_zero, List.set_cons_succ]
    refine wpAnyH_take (i := 13) (v := ?_) rfl (by kernel_rfl) (by kernel_rfl) (by kernel_rfl) (fun _ _ _ h => h) (Or.inl ⟨by rfl, ?_⟩) (by assumption) ?_
    rotate_left
    · (intro w' hSw; (try dsimp only at hSw); go_simp; try with_reducible rfl)
    simp only [Act.put, List.getElem_toArray, List.getElem_cons_zero, List.getElem_cons_succ, List.setIfInBounds_toArray, List.set_cons_zero, List.set_cons_succ]
    refine wpAnyH_take (i := 14) (v := .int .i64 (q1 : Int)) rfl (by kernel_rfl) (by kernel_rfl) (by kernel_rfl) (fun _ _ _ h => h) (Or.inl ⟨by rfl, ?_⟩) (by assumption) ?_
    · (intro w' hSw; (try dsimp only at hSw); go_simp; rw [hr1.out, if_neg HN0.out])
    simp only [Act.put, List.getElem_toArray, List.getElem_cons_zero, List.getElem_cons_succ, List.setIfInBounds_toArray, List.set_cons_zero, List.set_cons_succ]
    refine wpAnyH_take (i := 15) (v := ?_) rfl (by kernel_rfl) (by kernel_rfl) (by kernel_rfl) (fun _ _ _ h => h) (Or.inl ⟨by rfl, ?_⟩) (by assumption) ?_
    rotate_left
    · (intro w' hSw; (try dsimp only at hSw); go_simp; try with_reducible rfl)
    simp only [Act.put, List.getElem_toArray, List.getElem_cons_zero, List.getElem_cons_succ, List.setIfInBounds_toArray, List.set_cons_zero, List.set_cons_succ]
    refine wpAnyH_take (i := 16) (v := ?_) rfl (by kernel_rfl) (by kernel_rfl) (by kernel_rfl) (fun _ _ _ h => h) (Or.inl ⟨by rfl, ?_⟩) (by assumption) ?_
    rotate_left
    · (intro w' hSw; (try dsimp only at hSw); go_simp; try with_reducible rfl)
    simp only [Act.put, List.getElem_toArray, List.getElem_cons_zero, List.getElem_cons_succ, List.setIfInBounds_toArray, List.set_cons_zero, List.set_cons_succ]
    refine wpAnyH_take (i := 17) (v := ?_) rfl (by kernel_rfl) (by kernel_rfl) (by kernel_rfl) (fun _ _ _ h => h) (Or.inl ⟨by rfl, ?_⟩) (by assumption) ?_
    rotate_left
    · (intro w' hSw; (try dsimp only at hSw); go_simp; try with_reducible rfl)
    simp only [Act.put, List.getElem_toArray, List.getElem_cons_zero, List.getElem_cons_succ, List.setIfInBounds_toArray, List.set_cons_zero, List.set_cons_succ]
    refine wpAnyH_ready (rs := [18]) (by kernel_rfl) (by simp) ?_
    refine AllReadyH.cons rfl (fun K hK => ?_) AllReadyH.nil
    go_simp
    refine hK.out _ _ (KS.out _ tt gp) (fun _ => ?_)
    clear hK K
    refine wpAnyH_ready (rs := [19]) (by kernel_rfl) (by simp) ?_
    refine AllReadyH.cons rfl (fun K hK => ?_) AllReadyH.nil
    go_simp
    refine hK.out _ _ (KS.out _ tt gp) (fun _ => ?_)
    clear hK K
    refine wpAnyH_done (by kernel_rfl) ?_ _
    go_wp2_with fail
    go_meet
    case rel => exact ⟨rfl, rfl, TB⟩
  case rest =>
    obtain ⟨rfl, rfl, T2⟩ := hcut
    rename World => W2
    have b2 := T2.out
    have GK2 := G1.out.step b2
    have HB2 : Hid (Below w.heap.size w W2) := Lib.hid (HB1.out.trans (b2.mono HB1.out.size))
    have G3 : Bk ((W2.setCell ⟨w.heap.size, 2, none⟩ (.int .u32 0)).setCell ⟨w.heap.size, 3, none⟩ (.int .u32 0)) w.heap.size (.cells #[Value.int .u32 y.i, .int .i64 y.p, .int .u32 0, .int .u32 0] 40) := block_setCell (i := 3) (block_setCell (i := 2) GK2 (.int .u32 0)) (.int .u32 0)
    obtain ⟨y0, y1, y2, y3, f0, f1, f2_, f3_, hlt⟩ := kz4_at GK2
    obtain ⟨W3, hW3⟩ : ∃ V, (W2.setCell ⟨w.heap.size, 2, none⟩ (.int .u32 0)).setCell ⟨w.heap.size, 3, none⟩ (.int .u32 0) = V := ⟨_, rfl⟩
    have T3 : Hid (Below w.heap.size w W3) := Lib.hid (by
      rw [← hW3]
      exact (HB2.out.setCell (p := ⟨w.heap.size, 2, none⟩) (Nat.le_refl _) _).setCell (p := ⟨w.heap.size, 3, none⟩) (Nat.le_refl _) _)
    rw [hW3] at G3
    have HG3 := Lib.hid G3
    have K3 := stand_any (some ⟨b, off, none⟩) n c L vd vb W3 HN.out (HL.out.step T3.out) (by have := HU.out; omega)
    obtain ⟨KL, hKL⟩ : ∃ q, L.map (stn vd vb) = q := ⟨_, rfl⟩
    have HKL := Lib.hid hKL
    have HKN : Hid (KL.length = n) := Lib.hid (by rw [← hKL, List.length_map]; exact HN.out)
    have HKW : Hid (Okws KL) := Lib.hid (by rw [← hKL]; exact okws_stn HW.out HOD.out HOB.out)
    have HNW : Hid (Okws (KL ++ [stn 0 0 y])) := Lib.hid (okws_snoc HKW.out ⟨HY.out.i, by show (0 : Int) ≤ 0 ∧ (0 : Int) < 4294967296; omega, by show (0 : Int) ≤ 0 ∧ (0 : Int) < 4294967296; omega⟩)
    have HNN : Hid ((KL ++ [stn 0 0 y]).length = n + 1) := Lib.hid (by rw [List.length_append, HKN.out]; rfl)
    rw [hKL] at K3
    clear b2 GK2 G3 hKL p0 p1 hW0 hW1 T2 HB1 HGP G1 HOD HOB HW HY KS hr0 hr1
    go_wp2_with fail
    refine K3.mono ?_
    rintro e W4 ⟨A4, c4, rfl, o4, u4⟩
    have T4 : Hid (Below w.heap.size w W4) := Lib.hid (T3.out.trans (u4.mono T3.out.size))
    have HG4 := Lib.hid (HG3.out.step u4)
    have HO4 := Lib.hid o4.cr
    clear y0 y1 y2 y3 f0 f1 f2_ f3_ hlt hW3 u4 o4 K3 HG3
    go_upto_region 7 with fail
    go_cut [10] (fun v wx => ∃ A' c', v = .slice A' (n + 1) c' ∧ Hid (Ow4 40 W4.heap.size wx A' c' (KL ++ [stn 0 0 y])) ∧ Hid (Below W4.heap.size W4 wx))
    case first =>
      have rf := Below.refl W4.heap.size W4
      have g := HG4.out
      have ltk : Hid (w.heap.size < W4.heap.size) := Lib.hid g.lt
      refine wp_region_held_drew (S := fun V => V.cell? ⟨w.heap.size, 0, none⟩ = some (.int .u32 y.i) ∧ V.cell? ⟨w.heap.size, 1, none⟩ = some (.int .i64 y.p) ∧ V.cell? ⟨w.heap.size, 2, none⟩ = some (.int .u32 0) ∧ V.cell? ⟨w.heap.size, 3, none⟩ = some (.int .u32 0)) (by kernel_rfl) (k4_at (g.step rf.drew)) (fun hHeld => ?_)
      replace g := g.step rf.drew
      replace rf := rf.drew
      generalize hX0 : W4.drew = Y0 at rf g hHeld ⊢
      clear hX0
      refine wpAnyH_take (i := 1) (v := ?_) rfl (by kernel_rfl) (by kernel_rfl) (by kernel_rfl) (fun _ _ _ h => h) (Or.inl ⟨by rfl, ?_⟩) (by assumption) ?_
      rotate_left
      · (intro w' hSw; (try dsimp only at hSw); go_simp; try with_reducible rfl)
      simp only [Act.put, List.getElem_toArray, List.getElem_cons_zero, List.getElem_cons_succ, List.setIfInBounds_toArray, List.set_cons_zero, List.set_cons_succ]
      refine wpAnyH_take (i := 3) (v := ?_) rfl (by kernel_rfl) (by kernel_rfl) (by kernel_rfl) (fun _ _ _ h => h) (Or.inl ⟨by rfl, ?_⟩) (by assumption) ?_
      rotate_left
      · (intro w' hSw; (try dsimp only at hSw); go_simp; try with_reducible rfl)
      simp only [Act.put, List.getElem_toArray, List.getElem_cons_zero, List.getElem_cons_succ, List.setIfInBounds_toArray, List.set_cons_zero, List.set_cons_succ]
      refine wpAnyH_ready (rs := [0, 4]) (by kernel_rfl) (by simp) ?_
      refine AllReadyH.cons rfl (fun K hK => ?_) ?_
      · go_simp
        obtain ⟨Y1, hY1⟩ : ∃ V, Y0.alloc (.cells #[] 40) = V := ⟨_, rfl⟩
        have u1 : Below Y0.heap.size Y0 Y1 := by rw [← hY1]; exact below_alloc1 _ _
        have t_Y1 : Below W4.heap.size W4 Y1 := rf.trans (u1.mono rf.size)
        replace g := g.step u1
        obtain ⟨k1, hk1⟩ : ∃ k, Y0.heap.size = k := ⟨_, rfl⟩
        have oE : Ow4 40 W4.heap.size Y1 (some ⟨k1, 0, none⟩) 0 [] := by rw [← hY1, ← hk1]; exact (Ow4.empty _ _).lower rf.size
        have gE : Bk Y1 k1 (.cells #[] 40) := by rw [← hk1]; exact Bk.mk hY1
        try rw [hY1]
        try rw [hk1]
        refine hK.out _ _ (k4_at g) (fun _ => ?_)
        clear hK K
        refine wpAnyH_ready (rs := [2, 4]) (by kernel_rfl) (by simp) ?_
        refine AllReadyH.cons rfl (fun K hK => ?_) ?_
        · obtain ⟨g2, c2, Z2, r2, oN, v2, kp2⟩ := app_rows (n := 0) (c2 := c4) oE rfl (HO4.out.step t_Y1) HKN.out (Nat.pos_of_ne_zero HN0.out) (by have := HU.out; omega) t_Y1.size
          rw [Nat.zero_add] at r2
          rw [List.nil_append] at oN
          have t_Z2 : Below W4.heap.size W4 Z2 := t_Y1.trans v2
          replace g : Bk Z2 w.heap.size _ := (v2.block w.heap.size ltk.out).trans g
          clear oE gE v2 kp2
          refine step_runb _ rfl (.tmp 61) (.tmp 62) 22 rfl rfl rfl r2 ?_
          refine hK.out _ _ (k4_at g) (fun _ => ?_)
          clear hK K
          refine wpAnyH_ready (rs := [4]) (by kernel_rfl) (by simp) ?_
          refine AllReadyH.cons rfl (fun K hK => ?_) AllReadyH.nil
          go_simp
          obtain ⟨Y3, hY3⟩ : ∃ V, Z2.alloc (.cells #[Value.int .u32 y.i, .int .i64 y.p, .int .u32 0, .int .u32 0] 40) = V := ⟨_, rfl⟩
          have u3 : Below Z2.heap.size Z2 Y3 := by rw [← hY3]; exact below_alloc1 _ _
          have t_Y3 : Below W4.heap.size W4 Y3 := t_Z2.trans (u3.mono t_Z2.size)
          replace g := g.step u3
          replace oN := oN.step u3
          obtain ⟨k3, hk3⟩ : ∃ k, Z2.heap.size = k := ⟨_, rfl⟩
          have gx : Bk Y3 k3 (.cells #[Value.int .u32 y.i, .int .i64 y.p, .int .u32 0, .int .u32 0] 40) := by rw [← hk3]; exact Bk.mk hY3
          try rw [hY3]
          try rw [hk3]
          refine hK.out _ _ (k4_at g) (fun _ => ?_)
          clear hK K
          refine wpAnyH_ready (rs := [5]) (by kernel_rfl) (by simp) ?_
          refine AllReadyH.cons rfl (fun K hK => ?_) AllReadyH.nil
          obtain ⟨g4, c4, Z4, r4, oF, v4, -⟩ := app_rows oN HKN.out (cr_block (x := stn 0 0 y) gx) (n2 := 1) (c2 := 1) rfl (by omega) (by have := HU.out; omega) t_Y3.size
          have OF := Lib.hid oF
          have TF := Lib.hid (t_Y3.trans v4)
          replace g : Bk Z4 w.heap.size _ := (v4.block w.heap.size ltk.out).trans g
          clear oF v4 oN gx
          refine step_runb _ rfl (.tmp 63) (.tmp 65) 22 rfl rfl rfl r4 ?_
          refine hK.out _ _ (k4_at g) (fun _ => ?_)
          clear hK K
          refine wpAnyH_ready (rs := [6]) (by kernel_rfl) (by simp) ?_
          refine AllReadyH.cons rfl (fun K hK => ?_) AllReadyH.nil
          go_simp
          refine hK.out _ _ (k4_at g) (fun _ => ?_)
          clear hK K
          refine wpAnyH_done (by kernel_rfl) ?_ _
          go_wp2_with fail
          go_meet
          case rel => exact ⟨_, _, rfl, OF, TF⟩
        refine AllReadyH.cons rfl (fun K hK => ?_) AllReadyH.nil
        have ltx := gE.lt
        go_simp
        obtain ⟨Y2, hY2⟩ : ∃ V, Y1.alloc (.cells #[Value.int .u32 y.i, .int .i64 y.p, .int .u32 0, .int .u32 0] 40) = V := ⟨_, rfl⟩
        have u2 : Below Y1.heap.size Y1 Y2 := by rw [← hY2]; exact below_alloc1 _ _
        have t_Y2 : Below W4.heap.size W4 Y2 := t_Y1.trans (u2.mono t_Y1.size)
        replace g := g.step u2
        replace oE := oE.step u2
        replace gE := gE.step u2
        obtain ⟨k2, hk2⟩ : ∃ k, Y1.heap.size = k := ⟨_, rfl⟩
        have gx : Bk Y2 k2 (.cells #[Value.int .u32 y.i, .int .i64 y.p, .int .u32 0, .int .u32 0] 40) := by rw [← hk2]; exact Bk.mk hY2
        try rw [hY2]
        try rw [hk2]
        have hne : k2 ≠ k1 := by omega
        clear ltx
        refine hK.out _ _ (k4_at g) (fun _ => ?_)
        clear hK K
        refine wpAnyH_ready (rs := [2]) (by kernel_rfl) (by simp) ?_
        refine AllReadyH.cons rfl (fun K hK => ?_) AllReadyH.nil
        obtain ⟨g3, c3, Z3, r3, oN, v3, kp3⟩ := app_rows (n := 0) (c2 := c4) oE rfl (HO4.out.step t_Y2) HKN.out (Nat.pos_of_ne_zero HN0.out) (by have := HU.out; omega) t_Y2.size
        rw [Nat.zero_add] at r3
        rw [List.nil_append] at oN
        have t_Z3 : Below W4.heap.size W4 Z3 := t_Y2.trans v3
        replace g : Bk Z3 w.heap.size _ := (v3.block w.heap.size ltk.out).trans g
        replace gx : Bk Z3 k2 _ := (kp3.block _ gx.lt (fun h => by injection h with h; injection h with h; exact hne h.symm)).trans gx
        clear oE gE v3 kp3
        refine step_runb _ rfl (.tmp 61) (.tmp 62) 22 rfl rfl rfl r3 ?_
        refine hK.out _ _ (k4_at g) (fun _ => ?_)
        clear hK K
        refine wpAnyH_ready (rs := [5]) (by kernel_rfl) (by simp) ?_
        refine AllReadyH.cons rfl (fun K hK => ?_) AllReadyH.nil
        obtain ⟨g4, c4, Z4, r4, oF, v4, -⟩ := app_rows oN HKN.out (cr_block (x := stn 0 0 y) gx) (n2 := 1) (c2 := 1) rfl (by omega) (by have := HU.out; omega) t_Z3.size
        have OF := Lib.hid oF
        have TF := Lib.hid (t_Z3.trans v4)
        replace g : Bk Z4 w.heap.size _ := (v4.block w.heap.size ltk.out).trans g
        clear oF v4 oN gx
        refine step_runb _ rfl (.tmp 63) (.tmp 65) 22 rfl rfl rfl r4 ?_
        refine hK.out _ _ (k4_at g) (fun _ => ?_)
        clear hK K
        refine wpAnyH_ready (rs := [6]) (by kernel_rfl) (by simp) ?_
        refine AllReadyH.cons rfl (fun K hK => ?_) AllReadyH.nil
        go_simp
        refine hK.out _ _ (k4_at g) (fun _ => ?_)
        clear hK K
        refine wpAnyH_done (by kernel_rfl) ?_ _
        go_wp2_with fail
        go_meet
        case rel => exact ⟨_, _, rfl, OF, TF⟩
      refine AllReadyH.cons rfl (fun K hK => ?_) AllReadyH.nil
      go_simp
      obtain ⟨Y1, hY1⟩ : ∃ V, Y0.alloc (.cells #[Value.int .u32 y.i, .int .i64 y.p, .int .u32 0, .int .u32 0] 40) = V := ⟨_, rfl⟩
      have u1 : Below Y0.heap.size Y0 Y1 := by rw [← hY1]; exact below_alloc1 _ _
      have t_Y1 : Below W4.heap.size W4 Y1 := rf.trans (u1.mono rf.size)
      replace g := g.step u1
      obtain ⟨k1, hk1⟩ : ∃ k, Y0.heap.size = k := ⟨_, rfl⟩
      have gx : Bk Y1 k1 (.cells #[Value.int .u32 y.i, .int .i64 y.p, .int .u32 0, .int .u32 0] 40) := by rw [← hk1]; exact Bk.mk hY1
      try rw [hY1]
      try rw [hk1]
      refine hK.out _ _ (k4_at g) (fun _ => ?_)
      clear hK K
      refine wpAnyH_ready (rs := [0]) (by kernel_rfl) (by simp) ?_
      refine AllReadyH.cons rfl (fun K hK => ?_) AllReadyH.nil
      have ltx := gx.lt
      go_simp
      obtain ⟨Y2, hY2⟩ : ∃ V, Y1.alloc (.cells #[] 40) = V := ⟨_, rfl⟩
      have u2 : Below Y1.heap.size Y1 Y2 := by rw [← hY2]; exact below_alloc1 _ _
      have t_Y2 : Below W4.heap.size W4 Y2 := t_Y1.trans (u2.mono t_Y1.size)
      replace g := g.step u2
      replace gx := gx.step u2
      obtain ⟨k2, hk2⟩ : ∃ k, Y1.heap.size = k := ⟨_, rfl⟩
      have oE : Ow4 40 W4.heap.size Y2 (some ⟨k2, 0, none⟩) 0 [] := by rw [← hY2, ← hk2]; exact (Ow4.empty _ _).lower t_Y1.size
      have gE : Bk Y2 k2 (.cells #[] 40) := by rw [← hk2]; exact Bk.mk hY2
      try rw [hY2]
      try rw [hk2]
      have hne : k1 ≠ k2 := by omega
      clear ltx
      refine hK.out _ _ (k4_at g) (fun _ => ?_)
      clear hK K
      refine wpAnyH_ready (rs := [2]) (by kernel_rfl) (by simp) ?_
      refine AllReadyH.cons rfl (fun K hK => ?_) AllReadyH.nil
      obtain ⟨g3, c3, Z3, r3, oN, v3, kp3⟩ := app_rows (n := 0) (c2 := c4) oE rfl (HO4.out.step t_Y2) HKN.out (Nat.pos_of_ne_zero HN0.out) (by have := HU.out; omega) t_Y2.size
      rw [Nat.zero_add] at r3
      rw [List.nil_append] at oN
      have t_Z3 : Below W4.heap.size W4 Z3 := t_Y2.trans v3
      replace g : Bk Z3 w.heap.size _ := (v3.block w.heap.size ltk.out).trans g
      replace gx : Bk Z3 k1 _ := (kp3.block _ gx.lt (fun h => by injection h with h; injection h with h; exact hne h.symm)).trans gx
      clear oE gE v3 kp3
      refine step_runb _ rfl (.tmp 61) (.tmp 62) 22 rfl rfl rfl r3 ?_
      refine hK.out _ _ (k4_at g) (fun _ => ?_)
      clear hK K
      refine wpAnyH_ready (rs := [5]) (by kernel_rfl) (by simp) ?_
      refine AllReadyH.cons rfl (fun K hK => ?_) AllReadyH.nil
      obtain ⟨g4, c4, Z4, r4, oF, v4, -⟩ := app_rows oN HKN.out (cr_block (x := stn 0 0 y) gx) (n2 := 1) (c2 := 1) rfl (by omega) (by have := HU.out; omega) t_Z3.size
      have OF := Lib.hid oF
      have TF := Lib.hid (t_Z3.trans v4)
      replace g : Bk Z4 w.heap.size _ := (v4.block w.heap.size ltk.out).trans g
      clear oF v4 oN gx
      refine step_runb _ rfl (.tmp 63) (.tmp 65) 22 rfl rfl rfl r4 ?_
      refine hK.out _ _ (k4_at g) (fun _ => ?_)
      clear hK K
      refine wpAnyH_ready (rs := [6]) (by kernel_rfl) (by simp) ?_
      refine AllReadyH.cons rfl (fun K hK => ?_) AllReadyH.nil
      go_simp
      refine hK.out _ _ (k4_at g) (fun _ => ?_)
      clear hK K
      refine wpAnyH_done (by kernel_rfl) ?_ _
      go_wp2_with fail
      go_meet
      case rel => exact ⟨_, _, rfl, OF, TF⟩
    case rest =>
      obtain ⟨A5, c5, rfl, O5, T5⟩ := hcut
      rename World => W5
      have HB5 : Hid (Below w.heap.size w W5) := Lib.hid (T4.out.trans (T5.out.mono T4.out.size))
      have G5 := Lib.hid (HG4.out.step T5.out)
      have OK5 := Lib.hid (HO4.out.step T5.out)
      have ON5 := Lib.hid O5.out.cr
      have CH : Hid (∀ v V, Below W5.heap.size W5 V → _) := Lib.hid (fun v V hV => has_any (some ⟨b, off, none⟩) n c L v V HN.out (HL.out.step (HB5.out.trans (hV.mono HB5.out.size))) (by have := HU.out; omega))
      have RN : Hid (∀ V, Below W5.heap.size W5 V → _) := Lib.hid (fun V hV => rows_any A5 (n + 1) c5 (KL ++ [stn 0 0 y]) V HNN.out (ON5.out.step hV) (by have := HU.out; omega))
      have RK : Hid (∀ V, Below W5.heap.size W5 V → _) := Lib.hid (fun V hV => rows_any A4 n c4 KL V HKN.out (OK5.out.step hV) (by have := HU.out; omega))
      have CTK : Hid (∀ V, Below W5.heap.size W5 V → _) := Lib.hid (fun V hV => turn_any A4 n c4 KL V HKN.out (OK5.out.step hV) HKW.out)
      have CTN : Hid (∀ V, Below W5.heap.size W5 V → _) := Lib.hid (fun V hV => turn_any A5 (n + 1) c5 (KL ++ [stn 0 0 y]) V HNN.out (ON5.out.step hV) HNW.out)
      have CEN : Hid (∀ V, Below W5.heap.size W5 V → _) := Lib.hid (fun V hV => elect_any A5 (n + 1) c5 (KL ++ [stn 0 0 y]) y.i V HNN.out (ON5.out.step hV) HNW.out)
      have CSK : Hid (∀ V, Below W5.heap.size W5 V → _) := Lib.hid (fun V hV => settle_any A4 n c4 KL V HKN.out (OK5.out.step hV) HKW.out)
      have B5 : Hid (Below W5.heap.size W5 W5) := Lib.hid (Below.refl _ _)
      clear T4 HG4 HO4 O5 T5 HKW HNW
      by_cases hdb : vd = vb
      · have z4 : (vd == vb) = true := by simp [hdb]
        clear hdb
        have KA := CAl.out W5
        go_wp2_with fail
        refine KA.mono ?_
        rintro e W99 ⟨rfl, u99⟩
        have T99 := HB5.out.trans ((B5.out.trans (u99.mono B5.out.size)).mono HB5.out.size)
        go_wp2
        go_ret
        exact ⟨rfl, T99⟩
      have z4 : (vd == vb) = false := by simpa using hdb
      have HDB := Lib.hid hdb
      have K6 := CH.out vd _ B5.out
      clear hdb
      cases h6 : hs L vd
      · rw [h6] at K6
        clear h6
        go_wp2_with fail
        refine K6.mono ?_
        rintro e W6 ⟨rfl, u6⟩
        have B6 := Lib.hid (B5.out.trans (u6.mono B5.out.size))
        clear u6 K6
        have KA := CAl.out W6
        go_wp2_with fail
        refine KA.mono ?_
        rintro e W99 ⟨rfl, u99⟩
        have T99 := HB5.out.trans ((B6.out.trans (u99.mono B6.out.size)).mono HB5.out.size)
        go_wp2
        go_ret
        exact ⟨rfl, T99⟩
      rw [h6] at K6
      have H6 := Lib.hid h6
      clear h6
      go_wp2_with fail
      refine K6.mono ?_
      rintro e W6 ⟨rfl, u6⟩
      have B6 := Lib.hid (B5.out.trans (u6.mono B5.out.size))
      have K7 := CH.out vb _ B6.out
      clear u6 K6
      cases h7 : hs L vb
      · rw [h7] at K7
        clear h7
        go_wp2_with fail
        refine K7.mono ?_
        rintro e W7 ⟨rfl, u7⟩
        have B7 := Lib.hid (B6.out.trans (u7.mono B6.out.size))
        clear u7 K7
        have KA := CAl.out W7
        go_wp2_with fail
        refine KA.mono ?_
        rintro e W99 ⟨rfl, u99⟩
        have T99 := HB5.out.trans ((B7.out.trans (u99.mono B7.out.size)).mono HB5.out.size)
        go_wp2
        go_ret
        exact ⟨rfl, T99⟩
      rw [h7] at K7
      have H7 := Lib.hid h7
      clear h7
      go_wp2_with fail
      refine K7.mono ?_
      rintro e W7 ⟨rfl, u7⟩
      have B7 := Lib.hid (B6.out.trans (u7.mono B6.out.size))
      have K8 := RN.out _ B7.out
      clear u7 K7
      go_wp2_with fail
      refine K8.mono ?_
      rintro e W8 ⟨A8, c8, rfl, o8, u8⟩
      have B8 := Lib.hid (B7.out.trans (u8.mono B7.out.size))
      have K9 := rmay_any A8 (n + 1) c8 (KL ++ [stn 0 0 y]) W8 HNN.out o8.cr
      clear u8 K8 o8
      cases h9 : mayl (KL ++ [stn 0 0 y])
      · rw [h9] at K9
        clear h9
        go_wp2_with fail
        refine K9.mono ?_
        rintro e W9 ⟨rfl, u9⟩
        have B9 := Lib.hid (B8.out.trans (u9.mono B8.out.size))
        clear u9 K9
        have KA := CAl.out W9
        go_wp2_with fail
        refine KA.mono ?_
        rintro e W99 ⟨rfl, u99⟩
        have T99 := HB5.out.trans ((B9.out.trans (u99.mono B9.out.size)).mono HB5.out.size)
        go_wp2
        go_ret
        exact ⟨rfl, T99⟩
      rw [h9] at K9
      have SY : Sty L y vd vb := steady_all HDB.out H6.out H7.out (by rw [HKL.out]; exact h9)
      obtain ⟨-, s1, s2, s3, s4, s5, s6, s7⟩ := SY
      rw [HKL.out] at s1 s2 s3 s4 s5 s6 s7
      simp only [s1, s2] at CTK
      simp only [s3, s4] at CTN
      simp only [s5, s6] at CEN
      simp only [SP, s7, HKN.out] at CSK
      clear h9 s1 s2 s3 s4 s5 s6 s7 H6 H7 HDB HKL
      go_wp2_with fail
      refine K9.mono ?_
      rintro e W9 ⟨rfl, u9⟩
      have B9 := Lib.hid (B8.out.trans (u9.mono B8.out.size))
      have K10 := CTK.out _ B9.out
      clear u9 K9
      go_wp2_with fail
      refine K10.mono ?_
      rintro e W10 ⟨rfl, u10⟩
      have B10 := Lib.hid (B9.out.trans (u10.mono B9.out.size))
      have K11 := CTN.out _ B10.out
      clear u10 K10
      go_wp2_with fail
      refine K11.mono ?_
      rintro e W11 ⟨rfl, u11⟩
      have B11 := Lib.hid (B10.out.trans (u11.mono B10.out.size))
      have K12 := CEN.out _ B11.out
      obtain ⟨y0, y1, y2, y3⟩ := k4_at (G5.out.step B11.out)
      clear u11 K11
      go_wp2_with fail
      refine K12.mono ?_
      rintro e W12 ⟨rfl, u12⟩
      have B12 := Lib.hid (B11.out.trans (u12.mono B11.out.size))
      have K13 := CSK.out _ B12.out
      clear u12 K12 y0 y1 y2 y3
      go_wp2_with fail
      refine K13.mono ?_
      rintro e W13 ⟨A13, m13, c13, hm13, rfl, o13, u13⟩
      have B13 := Lib.hid (B12.out.trans (u13.mono B12.out.size))
      subst hm13
      have O13 := Lib.hid o13.cr
      have K14 := CAl.out W13
      clear u13 K13 o13
      go_wp2_with fail
      refine K14.mono ?_
      rintro e W14 ⟨rfl, u14⟩
      have B14 := Lib.hid (B13.out.trans (u14.mono B13.out.size))
      have K15 := rows_any A13 m13 c13 KL W14 HKN.out (O13.out.step u14) (by have := HU.out; omega)
      clear u14 K14
      go_wp2_with fail
      refine K15.mono ?_
      rintro e W15 ⟨A15, c15, rfl, o15, u15⟩
      have B15 := Lib.hid (B14.out.trans (u15.mono B14.out.size))
      have O15 := Lib.hid o15.cr
      have K16 := RK.out _ B15.out
      clear u15 K15 o15
      go_wp2_with fail
      refine K16.mono ?_
      rintro e W16 ⟨A16, c16, rfl, o16, u16⟩
      have B16 := Lib.hid (B15.out.trans (u16.mono B15.out.size))
      have K17 := same_any A15 A16 m13 c15 c16 KL W16 HKN.out (O15.out.step u16) o16.cr (by have := HU.out; omega)
      clear u16 K16 o16
      go_wp2_with fail
      refine K17.mono ?_
      rintro e W17 ⟨rfl, u17⟩
      have B17 := Lib.hid (B16.out.trans (u17.mono B16.out.size))
      clear u17 K17
      have T99 := HB5.out.trans (B17.out.mono HB5.out.size)
      go_wp2
      go_ret
      exact ⟨rfl, T99⟩
end Go.Proofs.Ytpfppacmldjioaa
