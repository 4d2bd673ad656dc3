/-
  The contract of head's Decode. No statement is proved here; no conditions.
-/
import Derived.Test.YtfhickgdmcmodaaFa
namespace Go.Proofs.Ytfhickgdmcmodaa
open Go.RowKit Go.Joins

/-! ### A packet in a block that is written -/
theorem kz_at {W : World} {b : Nat} {t : TypeId} {v0 v1 v2 v3 v4 v5 v6 v7 v8 v9 v10 v11 v12 : Value} (h : W.heap[b]? = some (.cells #[v0, v1, v2, v3, v4, v5, v6, v7, v8, v9, v10, v11, v12] t)) :
    W.cell? ⟨b, 0, none⟩ = some v0 ∧ W.cell? ⟨b, 1, none⟩ = some v1 ∧ W.cell? ⟨b, 2, none⟩ = some v2 ∧ W.cell? ⟨b, 3, none⟩ = some v3 ∧ W.cell? ⟨b, 4, none⟩ = some v4 ∧ W.cell? ⟨b, 5, none⟩ = some v5 ∧ W.cell? ⟨b, 6, none⟩ = some v6 ∧ W.cell? ⟨b, 7, none⟩ = some v7 ∧ W.cell? ⟨b, 8, none⟩ = some v8 ∧ W.cell? ⟨b, 9, none⟩ = some v9 ∧ W.cell? ⟨b, 10, none⟩ = some v10 ∧ W.cell? ⟨b, 11, none⟩ = some v11 ∧ W.cell? ⟨b, 12, none⟩ = some v12 ∧ W.frozen? ⟨b, 0, none⟩ = false ∧ W.frozen? ⟨b, 1, none⟩ = false ∧ W.frozen? ⟨b, 2, none⟩ = false ∧ W.frozen? ⟨b, 3, none⟩ = false ∧ W.frozen? ⟨b, 4, none⟩ = false ∧ W.frozen? ⟨b, 5, none⟩ = false ∧ W.frozen? ⟨b, 6, none⟩ = false ∧ W.frozen? ⟨b, 7, none⟩ = false ∧ W.frozen? ⟨b, 8, none⟩ = false ∧ W.frozen? ⟨b, 9, none⟩ = false ∧ W.frozen? ⟨b, 10, none⟩ = false ∧ W.frozen? ⟨b, 11, none⟩ = false ∧ W.frozen? ⟨b, 12, none⟩ = false ∧ b < W.heap.size :=
  ⟨(cell_of_block h 0).trans rfl, (cell_of_block h 1).trans rfl, (cell_of_block h 2).trans rfl, (cell_of_block h 3).trans rfl, (cell_of_block h 4).trans rfl, (cell_of_block h 5).trans rfl, (cell_of_block h 6).trans rfl, (cell_of_block h 7).trans rfl, (cell_of_block h 8).trans rfl, (cell_of_block h 9).trans rfl, (cell_of_block h 10).trans rfl, (cell_of_block h 11).trans rfl, (cell_of_block h 12).trans rfl, unfrozen_of_block h 0, unfrozen_of_block h 1, unfrozen_of_block h 2, unfrozen_of_block h 3, unfrozen_of_block h 4, unfrozen_of_block h 5, unfrozen_of_block h 6, unfrozen_of_block h 7, unfrozen_of_block h 8, unfrozen_of_block h 9, unfrozen_of_block h 10, unfrozen_of_block h 11, unfrozen_of_block h 12, lt_of_block h⟩
abbrev st13 (W : World) (b : Nat) (u0 u1 u2 u3 u4 u5 u6 u7 u8 u9 u10 u11 u12 : Value) : World := (((((((((((((W).setCell ⟨b, 0, none⟩ u0).setCell ⟨b, 1, none⟩ u1).setCell ⟨b, 2, none⟩ u2).setCell ⟨b, 3, none⟩ u3).setCell ⟨b, 4, none⟩ u4).setCell ⟨b, 5, none⟩ u5).setCell ⟨b, 6, none⟩ u6).setCell ⟨b, 7, none⟩ u7).setCell ⟨b, 8, none⟩ u8).setCell ⟨b, 9, none⟩ u9).setCell ⟨b, 10, none⟩ u10).setCell ⟨b, 11, none⟩ u11).setCell ⟨b, 12, none⟩ u12
theorem kz_set {W : World} {b : Nat} {t : TypeId} {v0 v1 v2 v3 v4 v5 v6 v7 v8 v9 v10 v11 v12 : Value} (h : W.heap[b]? = some (.cells #[v0, v1, v2, v3, v4, v5, v6, v7, v8, v9, v10, v11, v12] t)) (u0 u1 u2 u3 u4 u5 u6 u7 u8 u9 u10 u11 u12 : Value) :
    (st13 W b u0 u1 u2 u3 u4 u5 u6 u7 u8 u9 u10 u11 u12).heap[b]? = some (.cells #[u0, u1, u2, u3, u4, u5, u6, u7, u8, u9, u10, u11, u12] t) := by
  rw [block_setCell (i := 12) (block_setCell (i := 11) (block_setCell (i := 10) (block_setCell (i := 9) (block_setCell (i := 8) (block_setCell (i := 7) (block_setCell (i := 6) (block_setCell (i := 5) (block_setCell (i := 4) (block_setCell (i := 3) (block_setCell (i := 2) (block_setCell (i := 1) (block_setCell (i := 0) h u0) u1) u2) u3) u4) u5) u6) u7) u8) u9) u10) u11) u12]
  simp only [List.setIfInBounds_toArray, List.set_cons_zero, List.set_cons_succ]
theorem kz_get {W : World} {b : Nat} {t : TypeId} {v0 v1 v2 v3 v4 v5 v6 v7 v8 v9 v10 v11 v12 : Value} (h : W.heap[b]? = some (.cells #[v0, v1, v2, v3, v4, v5, v6, v7, v8, v9, v10, v11, v12] t)) (u0 u1 u2 u3 u4 u5 u6 u7 u8 u9 u10 u11 u12 : Value) :
    (st13 W b u0 u1 u2 u3 u4 u5 u6 u7 u8 u9 u10 u11 u12).cell? ⟨b, 0, none⟩ = some u0 ∧ (st13 W b u0 u1 u2 u3 u4 u5 u6 u7 u8 u9 u10 u11 u12).cell? ⟨b, 1, none⟩ = some u1 ∧ (st13 W b u0 u1 u2 u3 u4 u5 u6 u7 u8 u9 u10 u11 u12).cell? ⟨b, 2, none⟩ = some u2 ∧ (st13 W b u0 u1 u2 u3 u4 u5 u6 u7 u8 u9 u10 u11 u12).cell? ⟨b, 3, none⟩ = some u3 ∧ (st13 W b u0 u1 u2 u3 u4 u5 u6 u7 u8 u9 u10 u11 u12).cell? ⟨b, 4, none⟩ = some u4 ∧ (st13 W b u0 u1 u2 u3 u4 u5 u6 u7 u8 u9 u10 u11 u12).cell? ⟨b, 5, none⟩ = some u5 ∧ (st13 W b u0 u1 u2 u3 u4 u5 u6 u7 u8 u9 u10 u11 u12).cell? ⟨b, 6, none⟩ = some u6 ∧ (st13 W b u0 u1 u2 u3 u4 u5 u6 u7 u8 u9 u10 u11 u12).cell? ⟨b, 7, none⟩ = some u7 ∧ (st13 W b u0 u1 u2 u3 u4 u5 u6 u7 u8 u9 u10 u11 u12).cell? ⟨b, 8, none⟩ = some u8 ∧ (st13 W b u0 u1 u2 u3 u4 u5 u6 u7 u8 u9 u10 u11 u12).cell? ⟨b, 9, none⟩ = some u9 ∧ (st13 W b u0 u1 u2 u3 u4 u5 u6 u7 u8 u9 u10 u11 u12).cell? ⟨b, 10, none⟩ = some u10 ∧ (st13 W b u0 u1 u2 u3 u4 u5 u6 u7 u8 u9 u10 u11 u12).cell? ⟨b, 11, none⟩ = some u11 ∧ (st13 W b u0 u1 u2 u3 u4 u5 u6 u7 u8 u9 u10 u11 u12).cell? ⟨b, 12, none⟩ = some u12 := by
  have k := kz_set h u0 u1 u2 u3 u4 u5 u6 u7 u8 u9 u10 u11 u12
  exact ⟨(cell_of_block k 0).trans rfl, (cell_of_block k 1).trans rfl, (cell_of_block k 2).trans rfl, (cell_of_block k 3).trans rfl, (cell_of_block k 4).trans rfl, (cell_of_block k 5).trans rfl, (cell_of_block k 6).trans rfl, (cell_of_block k 7).trans rfl, (cell_of_block k 8).trans rfl, (cell_of_block k 9).trans rfl, (cell_of_block k 10).trans rfl, (cell_of_block k 11).trans rfl, (cell_of_block k 12).trans rfl⟩
theorem below_st13 {W W' : World} {B b : Nat} (h : Below B W W') (hb : B ≤ b) (u0 u1 u2 u3 u4 u5 u6 u7 u8 u9 u10 u11 u12 : Value) : Below B W (st13 W' b u0 u1 u2 u3 u4 u5 u6 u7 u8 u9 u10 u11 u12) :=
  ((((((((((((((((((((((((((h).setCell (p := ⟨b, 0, none⟩) hb u0)).setCell (p := ⟨b, 1, none⟩) hb u1)).setCell (p := ⟨b, 2, none⟩) hb u2)).setCell (p := ⟨b, 3, none⟩) hb u3)).setCell (p := ⟨b, 4, none⟩) hb u4)).setCell (p := ⟨b, 5, none⟩) hb u5)).setCell (p := ⟨b, 6, none⟩) hb u6)).setCell (p := ⟨b, 7, none⟩) hb u7)).setCell (p := ⟨b, 8, none⟩) hb u8)).setCell (p := ⟨b, 9, none⟩) hb u9)).setCell (p := ⟨b, 10, none⟩) hb u10)).setCell (p := ⟨b, 11, none⟩) hb u11)).setCell (p := ⟨b, 12, none⟩) hb u12)
theorem size_st13 (W : World) (b : Nat) (u0 u1 u2 u3 u4 u5 u6 u7 u8 u9 u10 u11 u12 : Value) : (st13 W b u0 u1 u2 u3 u4 u5 u6 u7 u8 u9 u10 u11 u12).heap.size = W.heap.size := by simp [st13, World.setCell]
theorem far_st13 {W : World} {b k : Nat} (h : k ≠ b) (u0 u1 u2 u3 u4 u5 u6 u7 u8 u9 u10 u11 u12 : Value) : (st13 W b u0 u1 u2 u3 u4 u5 u6 u7 u8 u9 u10 u11 u12).heap[k]? = W.heap[k]? := by
  unfold st13
  rw [Below.heap_setCell _ _ _ _ h, Below.heap_setCell _ _ _ _ h, Below.heap_setCell _ _ _ _ h, Below.heap_setCell _ _ _ _ h, Below.heap_setCell _ _ _ _ h, Below.heap_setCell _ _ _ _ h, Below.heap_setCell _ _ _ _ h, Below.heap_setCell _ _ _ _ h, Below.heap_setCell _ _ _ _ h, Below.heap_setCell _ _ _ _ h, Below.heap_setCell _ _ _ _ h, Below.heap_setCell _ _ _ _ h, Below.heap_setCell _ _ _ _ h]
theorem Own.far13 {k : IntKind} {e : TypeId} {W : World} {base c b : Nat} {A : Option Addr} {l : List Int} (h : Own k e W base A c l) (hb : b < base) (u0 u1 u2 u3 u4 u5 u6 u7 u8 u9 u10 u11 u12 : Value) : Own k e (st13 W b u0 u1 u2 u3 u4 u5 u6 u7 u8 u9 u10 u11 u12) base A c l :=
  h.kept fun g hg _ => far_st13 (by omega) _ _ _ _ _ _ _ _ _ _ _ _ _
/-! ### What bytes say -/
def zpk : Pk := ⟨0, 0, 0, 0, 0, 0, 0, 0, 0, 0, 0, 0, []⟩
def dec (l : List Int) : Pk := ⟨l.getD 1 0, num (sub l 4 4), num (sub l 8 4), num (sub l 14 2), l.getD 16 0, l.getD 17 0, l.getD 18 0, l.getD 19 0, l.getD 20 0, l.getD 21 0, l.getD 22 0, l.getD 23 0, l.drop 24⟩
def decp (l : List Int) : Pk := if flt l = 0 then dec l else zpk
theorem byt_getD {l : List Int} (hy : Byt l) (i : Nat) : 0 ≤ l.getD i 0 ∧ l.getD i 0 < 256 := by
  by_cases h : i < l.length
  · have := hy l[i] (List.getElem_mem h)
    simpa [List.getD, h] using this
  · simp [List.getD, List.getElem?_eq_none (Nat.le_of_not_lt h)]
theorem Bs.get {k : IntKind} {w : World} {B b off : Nat} {l : List Int} (h : Bs k w B (some ⟨b, off, none⟩) l) {i : Nat} (hi : i < l.length) : w.cell? ⟨b, off + i, none⟩ = some (.int k (l.getD i 0)) := by
  obtain ⟨b', off', e, _, h⟩ := h.at_ hi
  simp only [Option.some.injEq, Addr.mk.injEq] at e
  obtain ⟨rfl, rfl, _⟩ := e
  exact h
theorem flt_ok {l : List Int} (h : flt l = 0) : 24 ≤ l.length ∧ l.length ≤ 1500 ∧ l.getD 0 0 = 2 ∧ mayT (l.getD 1 0) = true ∧ num (sub l 2 2) = (l.length : Int) ∧ num (sub l 12 2) = ck l ∧ num (sub l 14 2) ≤ 1 := by
  unfold flt at h
  split at h
  · omega
  split at h
  · omega
  split at h
  · omega
  split at h
  · omega
  split at h
  · omega
  split at h
  · omega
  rename_i h1 h2 h3 h4 h5 h6
  simp only [not_or] at h4
  refine ⟨by omega, by omega, by simpa using h2, by simpa using h4.1, by simpa using h4.2, by simpa using h5, by omega⟩
set_option maxRecDepth 100000 in
set_option maxHeartbeats 4000000 in
theorem decode_any (A : Option Addr) (c : Nat) (l : List Int) (w : World) (hb : Bt w A l) (hy : Byt l) (hc : l.length ≤ c) (hl : l.length ≤ 5000) :
    Calls Try.prog 13 #[.slice A l.length c] w fun e w' => ∃ A' c', e = .returned (.tuple #[pv' (decp l) A' c', .int .i64 (flt l)]) ∧ Own .u8 5 w' w.heap.size A' c' (decp l).b ∧ Below w.heap.size w w' := by
  obtain ⟨W0, hW0⟩ : ∃ W0, w.alloc (.cells #[Value.int .i64 0, .int .u32 0, .int .u32 0, .int .i64 0, .int .u8 0, .int .u8 0, .int .u8 0, .int .u8 0, .int .u8 0, .int .u8 0, .int .u8 0, .int .u8 0, .slice none 0 0] 26) = W0 := ⟨_, rfl⟩
  have b0 : Below w.heap.size w W0 := by rw [← hW0]; exact below_alloc1 _ _
  have s0 : W0.heap.size = w.heap.size + 1 := by rw [← hW0]; simp
  have KZ : Hid (∀ V, Below W0.heap.size W0 V → V.heap[w.heap.size]? = some (.cells #[Value.int .i64 0, .int .u32 0, .int .u32 0, .int .i64 0, .int .u8 0, .int .u8 0, .int .u8 0, .int .u8 0, .int .u8 0, .int .u8 0, .int .u8 0, .int .u8 0, .slice none 0 0] 26)) :=
    Lib.hid (fun V hV => by rw [hV.block _ (by omega), ← hW0]; exact alloc_at _ _ _ rfl)
  have HB : Hid (Below w.heap.size w W0) := Lib.hid b0
  obtain ⟨n, hn⟩ : ∃ n, l.length = n := ⟨_, rfl⟩
  have CF : Calls Try.prog 23 #[.slice A n c] W0 fun e w' => e = .returned (.int .i64 (flt l)) ∧ Below W0.heap.size W0 w' := by
    have := fault_any A c l W0 (hb.step b0) hy hc hl
    rwa [hn] at this
  by_cases hf : flt l = 0
  case neg =>
    have e : decp l = zpk := by simp [decp, hf]
    rw [e, hn]
    obtain ⟨E, hE⟩ : ∃ E, flt l = E := ⟨_, rfl⟩
    rw [hE] at CF hf ⊢
    have hf2 : (E != 0) = true := by simpa using hf
    have hf3 : (E == 0) = false := by simpa using hf
    clear e hE b0
    go_enter Try.func13, Try.ntmps13
    go_wp2_with fail
    refine CF.mono ?_
    rintro e W1 ⟨rfl, t1⟩
    obtain ⟨z0, z1, z2, z3, z4, z5, z6, z7, z8, z9, z10, z11, z12, f0, f1, f2, f3, f4, f5, f6, f7, f8, f9, f10, f11, f12, hzl⟩ := kz_at (KZ.out _ t1)
    obtain ⟨r0, r1, r2, r3, r4, r5, r6, r7, r8, r9, r10, r11, r12⟩ := kz_get (KZ.out _ t1) (Value.int .i64 0) (.int .u32 0) (.int .u32 0) (.int .i64 0) (.int .u8 0) (.int .u8 0) (.int .u8 0) (.int .u8 0) (.int .u8 0) (.int .u8 0) (.int .u8 0) (.int .u8 0) (.slice none 0 0)
    go_wp2
    refine bodyPost_ret (v := .tuple #[pv' zpk none 0, .int .i64 E]) (by simp [results, Try.results13, go_sem, r0, r1, r2, r3, r4, r5, r6, r7, r8, r9, r10, r11, r12, zpk]) rfl ⟨none, 0, rfl, Own.nil _ _, ?_⟩
    exact below_st13 (HB.out.trans (t1.mono HB.out.size)) (Nat.le_refl _) _ _ _ _ _ _ _ _ _ _ _ _ _
  obtain ⟨n24, _, -, -, -, -, -⟩ := flt_ok hf
  obtain ⟨b, off, rfl, hlt, -⟩ := hb (by rintro rfl; simp at n24)
  have e : decp l = dec l := by simp [decp, hf]
  rw [e, hn]
  rw [hf] at CF
  have HF := Lib.hid hf
  have g1 := hb.get (i := 1) (by omega)
  have g16 := hb.get (i := 16) (by omega)
  have g17 := hb.get (i := 17) (by omega)
  have g18 := hb.get (i := 18) (by omega)
  have g19 := hb.get (i := 19) (by omega)
  have g20 := hb.get (i := 20) (by omega)
  have g21 := hb.get (i := 21) (by omega)
  have g22 := hb.get (i := 22) (by omega)
  have g23 := hb.get (i := 23) (by omega)
  have q4 : Bt w _ (sub l 4 4) := hb.sub 4 4
  have q8 : Bt w _ (sub l 8 4) := hb.sub 8 4
  have q14 : Bt w _ (sub l 14 2) := hb.sub 14 2
  obtain ⟨A2, hA2⟩ : ∃ A2, (if c = 24 then (some ⟨b, off, none⟩ : Option Addr) else some ⟨b, off + 24, none⟩) = A2 := ⟨_, rfl⟩
  have q24 : Bt w A2 (l.drop 24) := hb.drop 24 A2 (fun h => by rw [← hA2, if_neg (by omega)]; simp [addr_add])
  have l4 : (sub l 4 4).length = 4 := sub_len (by omega)
  have l8 : (sub l 8 4).length = 4 := sub_len (by omega)
  have l14 : (sub l 14 2).length = 2 := sub_len (by omega)
  have l24 : (l.drop 24).length = n - 24 := by simp [hn]
  have z4 := sub_byt hy 4 4
  have z8 := sub_byt hy 8 4
  have z14 := sub_byt hy 14 2
  have v14 := num_two z14 l14
  have y1 := byt_getD hy 1
  have HD : Hid (dec l = ⟨l.getD 1 0, num (sub l 4 4), num (sub l 8 4), num (sub l 14 2), l.getD 16 0, l.getD 17 0, l.getD 18 0, l.getD 19 0, l.getD 20 0, l.getD 21 0, l.getD 22 0, l.getD 23 0, l.drop 24⟩) := Lib.hid rfl
  generalize hL24 : l.drop 24 = L24 at *
  generalize sub l 4 4 = L4 at *
  generalize sub l 8 4 = L8 at *
  generalize sub l 14 2 = L14 at *
  generalize l.getD 1 0 = x1 at *
  generalize l.getD 16 0 = h0 at *
  generalize l.getD 17 0 = h1 at *
  generalize l.getD 18 0 = h2 at *
  generalize l.getD 19 0 = h3 at *
  generalize l.getD 20 0 = h4 at *
  generalize l.getD 21 0 = h5 at *
  generalize l.getD 22 0 = h6 at *
  generalize l.getD 23 0 = h7 at *
  obtain ⟨m, hm⟩ : ∃ m, off + 16 = m := ⟨_, rfl⟩
  rw [hm] at g16
  rw [show off + 17 = m + 1 by omega] at g17
  rw [show off + 18 = m + 2 by omega] at g18
  rw [show off + 19 = m + 3 by omega] at g19
  rw [show off + 20 = m + 4 by omega] at g20
  rw [show off + 21 = m + 5 by omega] at g21
  rw [show off + 22 = m + 6 by omega] at g22
  rw [show off + 23 = m + 7 by omega] at g23
  rw [hn] at n24 hc hl
  have KS : Hid (∀ V, Below w.heap.size w V → V.cell? ⟨b, off + 1, none⟩ = some (.int .u8 x1) ∧ V.cell? ⟨b, m, none⟩ = some (.int .u8 h0) ∧ V.cell? ⟨b, m + 1, none⟩ = some (.int .u8 h1) ∧ V.cell? ⟨b, m + 2, none⟩ = some (.int .u8 h2) ∧ V.cell? ⟨b, m + 3, none⟩ = some (.int .u8 h3) ∧ V.cell? ⟨b, m + 4, none⟩ = some (.int .u8 h4) ∧ V.cell? ⟨b, m + 5, none⟩ = some (.int .u8 h5) ∧ V.cell? ⟨b, m + 6, none⟩ = some (.int .u8 h6) ∧ V.cell? ⟨b, m + 7, none⟩ = some (.int .u8 h7)) := Lib.hid (fun V hV => ⟨(hV.cell (p := ⟨b, off + 1, none⟩) hlt).trans g1, (hV.cell (p := ⟨b, m, none⟩) hlt).trans g16, (hV.cell (p := ⟨b, m + 1, none⟩) hlt).trans g17, (hV.cell (p := ⟨b, m + 2, none⟩) hlt).trans g18, (hV.cell (p := ⟨b, m + 3, none⟩) hlt).trans g19, (hV.cell (p := ⟨b, m + 4, none⟩) hlt).trans g20, (hV.cell (p := ⟨b, m + 5, none⟩) hlt).trans g21, (hV.cell (p := ⟨b, m + 6, none⟩) hlt).trans g22, (hV.cell (p := ⟨b, m + 7, none⟩) hlt).trans g23⟩)
  have h4c : ¬ (c = 4) := by omega
  have h8c : ¬ (c = 8) := by omega
  have h14c : ¬ (c = 14) := by omega
  have h16c : ¬ (c = 16) := by omega
  have p8 : (8 : Int) ≤ (c : Int) := by omega
  have p12 : (12 : Int) ≤ (c : Int) := by omega
  have p16 : (16 : Int) ≤ (c : Int) := by omega
  have p24 : (24 : Int) ≤ (c : Int) := by omega
  have n24' : (24 : Int) ≤ (n : Int) := by omega
  have i1 : (1 : Int) < (n : Int) := by omega
  clear hb hy hn e hf b0 g1 g16 g17 g18 g19 g20 g21 g22 g23 hL24
  go_enter Try.func13, Try.ntmps13
  go_wp2_with fail
  refine CF.mono ?_
  rintro e W1 ⟨rfl, t1⟩
  go_wp2_with fail
  refine wp_region_held_drew (S := fun V => V.cell? ⟨b, off + 1, none⟩ = some (.int .u8 x1) ∧ V.cell? ⟨b, m, none⟩ = some (.int .u8 h0) ∧ V.cell? ⟨b, m + 1, none⟩ = some (.int .u8 h1) ∧ V.cell? ⟨b, m + 2, none⟩ = some (.int .u8 h2) ∧ V.cell? ⟨b, m + 3, none⟩ = some (.int .u8 h3) ∧ V.cell? ⟨b, m + 4, none⟩ = some (.int .u8 h4) ∧ V.cell? ⟨b, m + 5, none⟩ = some (.int .u8 h5) ∧ V.cell? ⟨b, m + 6, none⟩ = some (.int .u8 h6) ∧ V.cell? ⟨b, m + 7, none⟩ = some (.int .u8 h7)) (by kernel_rfl) (KS.out _ (HB.out.trans (t1.mono HB.out.size)).drew) (fun hHeld => ?_)
  refine wpAnyH_take (i := 0) (v := ?_) rfl (by kernel_rfl) (by kernel_rfl) (by kernel_rfl) (fun _ _ _ h => h) (Or.inl ⟨by rfl, ?_⟩) (by assumption) ?_
  rotate_left
  · (intro w' hSw; (try dsimp only at hSw); go_simp; try with_reducible rfl)
  simp only [Act.put, List.getElem_toArray, List.getElem_cons_zero, List.setIfInBounds_toArray, List.set_cons_zero, List.set_cons_succ]
  refine wpAnyH_take (i := 1) (v := ?_) rfl (by kernel_rfl) (by kernel_rfl) (by kernel_rfl) (fun _ _ _ h => h) (Or.inl ⟨by rfl, ?_⟩) (by assumption) ?_
  rotate_left
  · (intro w' hSw; (try dsimp only at hSw); go_simp; try with_reducible rfl)
  simp only [Act.put, List.getElem_toArray, List.getElem_cons_zero, List.getElem_cons_succ, List.setIfInBounds_toArray, List.set_cons_zero, List.set_cons_succ]
  refine wpAnyH_take (i := 2) (v := ?_) rfl (by kernel_rfl) (by kernel_rfl) (by kernel_rfl) (fun _ _ _ h => h) (Or.inl ⟨by rfl, ?_⟩) (by assumption) ?_
  rotate_left
  · (intro w' hSw; (try dsimp only at hSw); go_simp; try with_reducible rfl)
  simp only [Act.put, List.getElem_toArray, List.getElem_cons_zero, List.getElem_cons_succ, List.setIfInBounds_toArray, List.set_cons_zero, List.set_cons_succ]
  refine wpAnyH_take (i := 3) (v := .int .i64 x1) rfl (by kernel_rfl) (by kernel_rfl) (by kernel_rfl) (fun _ _ _ h => h) (Or.inl ⟨by rfl, ?_⟩) (by assumption) ?_
  · (intro w' hSw; (try dsimp only at hSw); go_simp; try rw [wrap_i64 (by omega) (by omega)])
  simp only [Act.put, List.getElem_toArray, List.getElem_cons_zero, List.getElem_cons_succ, List.setIfInBounds_toArray, List.set_cons_zero, List.set_cons_succ]
  refine wpAnyH_take (i := 4) (v := ?_) rfl (by kernel_rfl) (by kernel_rfl) (by kernel_rfl) (fun _ _ _ h => h) (Or.inl ⟨by rfl, ?_⟩) (by assumption) ?_
  rotate_left
  · (intro w' hSw; (try dsimp only at hSw); go_simp; try with_reducible rfl)
  simp only [Act.put, List.getElem_toArray, List.getElem_cons_zero, List.getElem_cons_succ, List.setIfInBounds_toArray, List.set_cons_zero, List.set_cons_succ]
  refine wpAnyH_take (i := 5) (v := .slice (some ⟨b, off + 4, none⟩) 4 (c - 4)) rfl (by kernel_rfl) (by kernel_rfl) (by kernel_rfl) (fun _ _ _ h => h) (Or.inl ⟨by rfl, ?_⟩) (by assumption) ?_
  · (intro w' hSw; (try dsimp only at hSw); go_simp; try rfl)
  simp only [Act.put, List.getElem_toArray, List.getElem_cons_zero, List.getElem_cons_succ, List.setIfInBounds_toArray, List.set_cons_zero, List.set_cons_succ]
  refine wpAnyH_take (i := 7) (v := ?_) rfl (by kernel_rfl) (by kernel_rfl) (by kernel_rfl) (fun _ _ _ h => h) (Or.inl ⟨by rfl, ?_⟩) (by assumption) ?_
  rotate_left
  · (intro w' hSw; (try dsimp only at hSw); go_simp; try with_reducible rfl)
  simp only [Act.put, List.getElem_toArray, List.getElem_cons_zero, List.getElem_cons_succ, List.setIfInBounds_toArray, List.set_cons_zero, List.set_cons_succ]
  refine wpAnyH_take (i := 8) (v := .slice (some ⟨b, off + 8, none⟩) 4 (c - 8)) rfl (by kernel_rfl) (by kernel_rfl) (by kernel_rfl) (fun _ _ _ h => h) (Or.inl ⟨by rfl, ?_⟩) (by assumption) ?_
  · (intro w' hSw; (try dsimp only at hSw); go_simp; try rfl)
  simp only [Act.put, List.getElem_toArray, List.getElem_cons_zero, List.getElem_cons_succ, List.setIfInBounds_toArray, List.set_cons_zero, List.set_cons_succ]
  refine wpAnyH_take (i := 10) (v := ?_) rfl (by kernel_rfl) (by kernel_rfl) (by kernel_rfl) (fun _ _ _ h => h) (Or.inl ⟨by rfl, ?_⟩) (by assumption) ?_
  rotate_left
  · (intro w' hSw; (try dsimp only at hSw); go_simp; try with_reducible rfl)
  simp only [Act.put, List.getElem_toArray, List.getElem_cons_zero, List.getElem_cons_succ, List.setIfInBounds_toArray, List.set_cons_zero, List.set_cons_succ]
  refine wpAnyH_take (i := 11) (v := .slice (some ⟨b, off + 14, none⟩) 2 (c - 14)) rfl (by kernel_rfl) (by kernel_rfl) (by kernel_rfl) (fun _ _ _ h => h) (Or.inl ⟨by rfl, ?_⟩) (by assumption) ?_
  · (intro w' hSw; (try dsimp only at hSw); go_simp; try rfl)
  simp only [Act.put, List.getElem_toArray, List.getElem_cons_zero, List.getElem_cons_succ, List.setIfInBounds_toArray, List.set_cons_zero, List.set_cons_succ]
  refine wpAnyH_take (i := 14) (v := ?_) rfl (by kernel_rfl) (by kernel_rfl) (by kernel_rfl) (fun _ _ _ h => h) (Or.inl ⟨by rfl, ?_⟩) (by assumption) ?_
  rotate_left
  · (intro w' hSw; (try dsimp only at hSw); go_simp; try with_reducible rfl)
  simp only [Act.put, List.getElem_toArray, List.getElem_cons_zero, List.getElem_cons_succ, List.setIfInBounds_toArray, List.set_cons_zero, List.set_cons_succ]
  refine wpAnyH_take (i := 15) (v := .slice (some ⟨b, m, none⟩) 8 (c - 16)) rfl (by kernel_rfl) (by kernel_rfl) (by kernel_rfl) (fun _ _ _ h => h) (Or.inl ⟨by rfl, ?_⟩) (by assumption) ?_
  · (intro w' hSw; (try dsimp only at hSw); go_simp; try rw [hm])
  simp only [Act.put, List.getElem_toArray, List.getElem_cons_zero, List.getElem_cons_succ, List.setIfInBounds_toArray, List.set_cons_zero, List.set_cons_succ]
  refine wpAnyH_take (i := 16) (v := .pointer (some ⟨b, m, none⟩)) rfl (by kernel_rfl) (by kernel_rfl) (by kernel_rfl) (fun _ _ _ h => h) (Or.inl ⟨by rfl, ?_⟩) (by assumption) ?_
  · (intro w' hSw; (try dsimp only at hSw); go_simp; try rfl)
  simp only [Act.put, List.getElem_toArray, List.getElem_cons_zero, List.getElem_cons_succ, List.setIfInBounds_toArray, List.set_cons_zero, List.set_cons_succ]
  refine wpAnyH_take (i := 17) (v := .agg #[.int .u8 h0, .int .u8 h1, .int .u8 h2, .int .u8 h3, .int .u8 h4, .int .u8 h5, .int .u8 h6, .int .u8 h7]) rfl (by kernel_rfl) (by kernel_rfl) (by kernel_rfl) (fun _ _ _ h => h) (Or.inl ⟨by rfl, ?_⟩) (by assumption) ?_
  · (intro w' hSw; (try dsimp only at hSw); go_simp; try rfl)
  simp only [Act.put, List.getElem_toArray, List.getElem_cons_zero, List.getElem_cons_succ, List.setIfInBounds_toArray, List.set_cons_zero, List.set_cons_succ]
  refine wpAnyH_take (i := 18) (v := ?_) rfl (by kernel_rfl) (by kernel_rfl) (by kernel_rfl) (fun _ _ _ h => h) (Or.inl ⟨by rfl, ?_⟩) (by assumption) ?_
  rotate_left
  · (intro w' hSw; (try dsimp only at hSw); go_simp; try with_reducible rfl)
  simp only [Act.put, List.getElem_toArray, List.getElem_cons_zero, List.getElem_cons_succ, List.setIfInBounds_toArray, List.set_cons_zero, List.set_cons_succ]
  refine wpAnyH_take (i := 19) (v := .slice A2 (n - 24) (c - 24)) rfl (by kernel_rfl) (by kernel_rfl) (by kernel_rfl) (fun _ _ _ h => h) (Or.inl ⟨by rfl, ?_⟩) (by assumption) ?_
  · (intro w' hSw; (try dsimp only at hSw); go_simp; (try rw [hA2]))
  simp only [Act.put, List.getElem_toArray, List.getElem_cons_zero, List.getElem_cons_succ, List.setIfInBounds_toArray, List.set_cons_zero, List.set_cons_succ]
  replace t1 : Below W0.heap.size W0 W1.drew := t1.drew
  generalize hX0 : W1.drew = X0 at t1 ⊢
  clear hX0 hHeld CF
  refine wpAnyH_ready (rs := [6, 20]) (by kernel_rfl) (by simp) ?_
  refine AllReadyH.cons rfl (fun K hK => ?_) (AllReadyH.cons rfl (fun K hK => ?_) AllReadyH.nil)
  · go_simp
    go_at_call 24
    refine (number_any _ 4 _ L4 _ (q4.step (HB.out.trans (t1.mono HB.out.size))) z4 l4 (by omega) (by decide) (by decide)).mono ?_
    rintro e Y1 ⟨rfl, u1⟩
    have tt1 : Below W0.heap.size W0 Y1 := t1.trans (u1.mono t1.size)
    refine hK.out _ _ (KS.out _ (HB.out.trans (tt1.mono HB.out.size))) (fun _ => ?_)
    clear hK K
    refine wpAnyH_ready (rs := [9, 20]) (by kernel_rfl) (by simp) ?_
    refine AllReadyH.cons rfl (fun K hK => ?_) (AllReadyH.cons rfl (fun K hK => ?_) AllReadyH.nil)
    · go_simp
      go_at_call 24
      refine (number_any _ 4 _ L8 _ (q8.step (HB.out.trans (tt1.mono HB.out.size))) z8 l8 (by omega) (by decide) (by decide)).mono ?_
      rintro e Y2 ⟨rfl, u2⟩
      have tt2 : Below W0.heap.size W0 Y2 := tt1.trans (u2.mono tt1.size)
      refine hK.out _ _ (KS.out _ (HB.out.trans (tt2.mono HB.out.size))) (fun _ => ?_)
      clear hK K
      refine wpAnyH_ready (rs := [12, 20]) (by kernel_rfl) (by simp) ?_
      refine AllReadyH.cons rfl (fun K hK => ?_) (AllReadyH.cons rfl (fun K hK => ?_) AllReadyH.nil)
      · go_simp
        go_at_call 24
        refine (number_any _ 2 _ L14 _ (q14.step (HB.out.trans (tt2.mono HB.out.size))) z14 l14 (by omega) (by decide) (by decide)).mono ?_
        rintro e Y3 ⟨rfl, u3⟩
        have tt3 : Below W0.heap.size W0 Y3 := tt2.trans (u3.mono tt2.size)
        refine hK.out _ _ (KS.out _ (HB.out.trans (tt3.mono HB.out.size))) (fun _ => ?_)
        clear hK K
        refine wpAnyH_take (i := 13) (v := .int .i64 (num L14)) rfl (by kernel_rfl) (by kernel_rfl) (by kernel_rfl) (fun _ _ _ h => h) (Or.inl ⟨by rfl, ?_⟩) (by assumption) ?_
        · (intro w' hSw; (try dsimp only at hSw); go_simp; try rw [wrap_i64 (by omega) (by omega)])
        simp only [Act.put, List.getElem_toArray, List.getElem_cons_zero, List.getElem_cons_succ, List.setIfInBounds_toArray, List.set_cons_zero, List.set_cons_succ]
        refine wpAnyH_ready (rs := [20]) (by kernel_rfl) (by simp) ?_
        refine AllReadyH.cons rfl (fun K hK => ?_) AllReadyH.nil
        go_simp
        obtain ⟨Z, hZ⟩ : ∃ V, Y3.alloc (.cells #[.slice A2 (n - 24) (c - 24)] 24) = V := ⟨_, rfl⟩
        have uz : Below Y3.heap.size Y3 Z := by rw [← hZ]; exact below_alloc1 _ _
        have tz : Below W0.heap.size W0 Z := tt3.trans (uz.mono tt3.size)
        obtain ⟨k, hk⟩ : ∃ k, Y3.heap.size = k := ⟨_, rfl⟩
        have hP : Ps Z (some ⟨k, 0, none⟩) [⟨A2, c - 24, L24⟩] := by
          rw [← hZ]
          exact Ps.mk _ _ _ _ _ hk (by simp [l24])
        try rw [hZ]
        try rw [hk]
        refine hK.out _ _ (KS.out _ (HB.out.trans (tz.mono HB.out.size))) (fun _ => ?_)
        clear hK K hZ hk
        have cc := concat_n (some ⟨k, 0, none⟩) 1 1 _ Z rfl hP (fun p' hp => by
          simp only [List.mem_cons, List.not_mem_nil, or_false] at hp
          subst hp
          exact q24.step (HB.out.trans (tz.mono HB.out.size))) (by simp) (by simp [cat, l24]; omega)
        have hcat : cat [(⟨A2, c - 24, L24⟩ : Pc)] = L24 := by simp [cat]
        rw [hcat, l24] at cc
        clear hcat
        refine wpAnyH_ready (rs := [21]) (by kernel_rfl) (by simp) ?_
        refine AllReadyH.cons rfl (fun K hK => ?_) AllReadyH.nil
        go_simp
        go_at_call 25
        refine cc.mono ?_
        rintro e X9 ⟨A9, c9, rfl, o9, u9⟩
        have t9 : Below W0.heap.size W0 X9 := tz.trans (u9.mono tz.size)
        refine hK.out _ _ (KS.out _ (HB.out.trans (t9.mono HB.out.size))) (fun _ => ?_)
        clear hK K cc
        refine wpAnyH_take (i := 22) (v := .agg #[.int .i64 x1, .int .u32 (num L4), .int .u32 (num L8), .int .i64 (num L14), .int .u8 h0, .int .u8 h1, .int .u8 h2, .int .u8 h3, .int .u8 h4, .int .u8 h5, .int .u8 h6, .int .u8 h7, .slice A9 (n - 24) c9]) rfl (by kernel_rfl) (by kernel_rfl) (by kernel_rfl) (fun _ _ _ h => h) (Or.inl ⟨by rfl, ?_⟩) (by assumption) ?_
        · (intro w' hSw; (try dsimp only at hSw); go_simp; try rfl)
        simp only [Act.put, List.getElem_toArray, List.getElem_cons_zero, List.getElem_cons_succ, List.setIfInBounds_toArray, List.set_cons_zero, List.set_cons_succ]
        obtain ⟨a0, a1, a2, a3, a4, a5, a6, a7, a8, a9, a10, a11, a12, f0, f1, f2, f3, f4, f5, f6, f7, f8, f9, f10, f11, f12, hzl⟩ := kz_at (KZ.out _ t9)
        obtain ⟨r0, r1, r2, r3, r4, r5, r6, r7, r8, r9, r10, r11, r12⟩ := kz_get (KZ.out _ t9) (Value.int .i64 x1) (.int .u32 (num L4)) (.int .u32 (num L8)) (.int .i64 (num L14)) (.int .u8 h0) (.int .u8 h1) (.int .u8 h2) (.int .u8 h3) (.int .u8 h4) (.int .u8 h5) (.int .u8 h6) (.int .u8 h7) (.slice A9 (n - 24) c9)
        have tf : Below w.heap.size w (st13 X9 w.heap.size (.int .i64 x1) (.int .u32 (num L4)) (.int .u32 (num L8)) (.int .i64 (num L14)) (.int .u8 h0) (.int .u8 h1) (.int .u8 h2) (.int .u8 h3) (.int .u8 h4) (.int .u8 h5) (.int .u8 h6) (.int .u8 h7) (.slice A9 (n - 24) c9)) := below_st13 (HB.out.trans (t9.mono HB.out.size)) (Nat.le_refl _) _ _ _ _ _ _ _ _ _ _ _ _ _
        have of_ := (o9.far13 (b := w.heap.size) (by have := tz.size; omega) (.int .i64 x1) (.int .u32 (num L4)) (.int .u32 (num L8)) (.int .i64 (num L14)) (.int .u8 h0) (.int .u8 h1) (.int .u8 h2) (.int .u8 h3) (.int .u8 h4) (.int .u8 h5) (.int .u8 h6) (.int .u8 h7) (.slice A9 (n - 24) c9)).lower (Nat.le_trans HB.out.size tz.size)
        refine wpAnyH_ready (rs := [23]) (by kernel_rfl) (by simp) ?_
        refine AllReadyH.cons rfl (fun K hK => ?_) AllReadyH.nil
        go_simp
        refine hK.out _ _ (KS.out _ tf) (fun _ => ?_)
        clear hK K a0 a1 a2 a3 a4 a5 a6 a7 a8 a9 a10 a11 a12 f0 f1 f2 f3 f4 f5 f6 f7 f8 f9 f10 f11 f12 hzl
        refine wpAnyH_ready (rs := [24]) (by kernel_rfl) (by simp) ?_
        refine AllReadyH.cons rfl (fun K hK => ?_) AllReadyH.nil
        go_simp
        refine hK.out _ _ (KS.out _ tf) (fun _ => ?_)
        clear hK K
        refine wpAnyH_done (by kernel_rfl) ?_ _
        go_wp2
        refine bodyPost_ret (v := .tuple #[.agg #[.int .i64 x1, .int .u32 (num L4), .int .u32 (num L8), .int .i64 (num L14), .int .u8 h0, .int .u8 h1, .int .u8 h2, .int .u8 h3, .int .u8 h4, .int .u8 h5, .int .u8 h6, .int .u8 h7, .slice A9 (n - 24) c9], .int .i64 0]) (by simp [results, Try.results13, go_sem, r0, r1, r2, r3, r4, r5, r6, r7, r8, r9, r10, r11, r12]) rfl ⟨A9, c9, ?_, ?_, tf⟩
        · rw [HF.out, HD.out]
          simp only [pv', l24]
        · rw [HD.out]
          exact of_
      · go_simp
        obtain ⟨Z, hZ⟩ : ∃ V, Y2.alloc (.cells #[.slice A2 (n - 24) (c - 24)] 24) = V := ⟨_, rfl⟩
        have uz : Below Y2.heap.size Y2 Z := by rw [← hZ]; exact below_alloc1 _ _
        have tz : Below W0.heap.size W0 Z := tt2.trans (uz.mono tt2.size)
        obtain ⟨k, hk⟩ : ∃ k, Y2.heap.size = k := ⟨_, rfl⟩
        have hP : Ps Z (some ⟨k, 0, none⟩) [⟨A2, c - 24, L24⟩] := by
          rw [← hZ]
          exact Ps.mk _ _ _ _ _ hk (by simp [l24])
        try rw [hZ]
        try rw [hk]
        refine hK.out _ _ (KS.out _ (HB.out.trans (tz.mono HB.out.size))) (fun _ => ?_)
        clear hK K hZ hk
        refine wpAnyH_ready (rs := [12]) (by kernel_rfl) (by simp) ?_
        refine AllReadyH.cons rfl (fun K hK => ?_) AllReadyH.nil
        go_simp
        go_at_call 24
        refine (number_any _ 2 _ L14 _ (q14.step (HB.out.trans (tz.mono HB.out.size))) z14 l14 (by omega) (by decide) (by decide)).mono ?_
        rintro e Y3 ⟨rfl, u3⟩
        have tt3 : Below W0.heap.size W0 Y3 := tz.trans (u3.mono tz.size)
        replace hP := hP.step u3
        refine hK.out _ _ (KS.out _ (HB.out.trans (tt3.mono HB.out.size))) (fun _ => ?_)
        clear hK K
        refine wpAnyH_take (i := 13) (v := .int .i64 (num L14)) rfl (by kernel_rfl) (by kernel_rfl) (by kernel_rfl) (fun _ _ _ h => h) (Or.inl ⟨by rfl, ?_⟩) (by assumption) ?_
        · (intro w' hSw; (try dsimp only at hSw); go_simp; try rw [wrap_i64 (by omega) (by omega)])
        simp only [Act.put, List.getElem_toArray, List.getElem_cons_zero, List.getElem_cons_succ, List.setIfInBounds_toArray, List.set_cons_zero, List.set_cons_succ]
        have cc := concat_n (some ⟨k, 0, none⟩) 1 1 _ Y3 rfl hP (fun p' hp => by
          simp only [List.mem_cons, List.not_mem_nil, or_false] at hp
          subst hp
          exact q24.step (HB.out.trans (tt3.mono HB.out.size))) (by simp) (by simp [cat, l24]; omega)
        have hcat : cat [(⟨A2, c - 24, L24⟩ : Pc)] = L24 := by simp [cat]
        rw [hcat, l24] at cc
        clear hcat
        refine wpAnyH_ready (rs := [21]) (by kernel_rfl) (by simp) ?_
        refine AllReadyH.cons rfl (fun K hK => ?_) AllReadyH.nil
        go_simp
        go_at_call 25
        refine cc.mono ?_
        rintro e X9 ⟨A9, c9, rfl, o9, u9⟩
        have t9 : Below W0.heap.size W0 X9 := tt3.trans (u9.mono tt3.size)
        refine hK.out _ _ (KS.out _ (HB.out.trans (t9.mono HB.out.size))) (fun _ => ?_)
        clear hK K cc
        refine wpAnyH_take (i := 22) (v := .agg #[.int .i64 x1, .int .u32 (num L4), .int .u32 (num L8), .int .i64 (num L14), .int .u8 h0, .int .u8 h1, .int .u8 h2, .int .u8 h3, .int .u8 h4, .int .u8 h5, .int .u8 h6, .int .u8 h7, .slice A9 (n - 24) c9]) rfl (by kernel_rfl) (by kernel_rfl) (by kernel_rfl) (fun _ _ _ h => h) (Or.inl ⟨by rfl, ?_⟩) (by assumption) ?_
        · (intro w' hSw; (try dsimp only at hSw); go_simp; try rfl)
        simp only [Act.put, List.getElem_toArray, List.getElem_cons_zero, List.getElem_cons_succ, List.setIfInBounds_toArray, List.set_cons_zero, List.set_cons_succ]
        obtain ⟨a0, a1, a2, a3, a4, a5, a6, a7, a8, a9, a10, a11, a12, f0, f1, f2, f3, f4, f5, f6, f7, f8, f9, f10, f11, f12, hzl⟩ := kz_at (KZ.out _ t9)
        obtain ⟨r0, r1, r2, r3, r4, r5, r6, r7, r8, r9, r10, r11, r12⟩ := kz_get (KZ.out _ t9) (Value.int .i64 x1) (.int .u32 (num L4)) (.int .u32 (num L8)) (.int .i64 (num L14)) (.int .u8 h0) (.int .u8 h1) (.int .u8 h2) (.int .u8 h3) (.int .u8 h4) (.int .u8 h5) (.int .u8 h6) (.int .u8 h7) (.slice A9 (n - 24) c9)
        have tf : Below w.heap.size w (st13 X9 w.heap.size (.int .i64 x1) (.int .u32 (num L4)) (.int .u32 (num L8)) (.int .i64 (num L14)) (.int .u8 h0) (.int .u8 h1) (.int .u8 h2) (.int .u8 h3) (.int .u8 h4) (.int .u8 h5) (.int .u8 h6) (.int .u8 h7) (.slice A9 (n - 24) c9)) := below_st13 (HB.out.trans (t9.mono HB.out.size)) (Nat.le_refl _) _ _ _ _ _ _ _ _ _ _ _ _ _
        have of_ := (o9.far13 (b := w.heap.size) (by have := tt3.size; omega) (.int .i64 x1) (.int .u32 (num L4)) (.int .u32 (num L8)) (.int .i64 (num L14)) (.int .u8 h0) (.int .u8 h1) (.int .u8 h2) (.int .u8 h3) (.int .u8 h4) (.int .u8 h5) (.int .u8 h6) (.int .u8 h7) (.slice A9 (n - 24) c9)).lower (Nat.le_trans HB.out.size tt3.size)
        refine wpAnyH_ready (rs := [23]) (by kernel_rfl) (by simp) ?_
        refine AllReadyH.cons rfl (fun K hK => ?_) AllReadyH.nil
        go_simp
        refine hK.out _ _ (KS.out _ tf) (fun _ => ?_)
        clear hK K a0 a1 a2 a3 a4 a5 a6 a7 a8 a9 a10 a11 a12 f0 f1 f2 f3 f4 f5 f6 f7 f8 f9 f10 f11 f12 hzl
        refine wpAnyH_ready (rs := [24]) (by kernel_rfl) (by simp) ?_
        refine AllReadyH.cons rfl (fun K hK => ?_) AllReadyH.nil
        go_simp
        refine hK.out _ _ (KS.out _ tf) (fun _ => ?_)
        clear hK K
        refine wpAnyH_done (by kernel_rfl) ?_ _
        go_wp2
        refine bodyPost_ret (v := .tuple #[.agg #[.int .i64 x1, .int .u32 (num L4), .int .u32 (num L8), .int .i64 (num L14), .int .u8 h0, .int .u8 h1, .int .u8 h2, .int .u8 h3, .int .u8 h4, .int .u8 h5, .int .u8 h6, .int .u8 h7, .slice A9 (n - 24) c9], .int .i64 0]) (by simp [results, Try.results13, go_sem, r0, r1, r2, r3, r4, r5, r6, r7, r8, r9, r10, r11, r12]) rfl ⟨A9, c9, ?_, ?_, tf⟩
        · rw [HF.out, HD.out]
          simp only [pv', l24]
        · rw [HD.out]
          exact of_
    · go_simp
      obtain ⟨Z, hZ⟩ : ∃ V, Y1.alloc (.cells #[.slice A2 (n - 24) (c - 24)] 24) = V := ⟨_, rfl⟩
      have uz : Below Y1.heap.size Y1 Z := by rw [← hZ]; exact below_alloc1 _ _
      have tz : Below W0.heap.size W0 Z := tt1.trans (uz.mono tt1.size)
      obtain ⟨k, hk⟩ : ∃ k, Y1.heap.size = k := ⟨_, rfl⟩
      have hP : Ps Z (some ⟨k, 0, none⟩) [⟨A2, c - 24, L24⟩] := by
        rw [← hZ]
        exact Ps.mk _ _ _ _ _ hk (by simp [l24])
      try rw [hZ]
      try rw [hk]
      refine hK.out _ _ (KS.out _ (HB.out.trans (tz.mono HB.out.size))) (fun _ => ?_)
      clear hK K hZ hk
      refine wpAnyH_ready (rs := [9]) (by kernel_rfl) (by simp) ?_
      refine AllReadyH.cons rfl (fun K hK => ?_) AllReadyH.nil
      go_simp
      go_at_call 24
      refine (number_any _ 4 _ L8 _ (q8.step (HB.out.trans (tz.mono HB.out.size))) z8 l8 (by omega) (by decide) (by decide)).mono ?_
      rintro e Y2 ⟨rfl, u2⟩
      have tt2 : Below W0.heap.size W0 Y2 := tz.trans (u2.mono tz.size)
      replace hP := hP.step u2
      refine hK.out _ _ (KS.out _ (HB.out.trans (tt2.mono HB.out.size))) (fun _ => ?_)
      clear hK K
      refine wpAnyH_ready (rs := [12]) (by kernel_rfl) (by simp) ?_
      refine AllReadyH.cons rfl (fun K hK => ?_) AllReadyH.nil
      go_simp
      go_at_call 24
      refine (number_any _ 2 _ L14 _ (q14.step (HB.out.trans (tt2.mono HB.out.size))) z14 l14 (by omega) (by decide) (by decide)).mono ?_
      rintro e Y3 ⟨rfl, u3⟩
      have tt3 : Below W0.heap.size W0 Y3 := tt2.trans (u3.mono tt2.size)
      replace hP := hP.step u3
      refine hK.out _ _ (KS.out _ (HB.out.trans (tt3.mono HB.out.size))) (fun _ => ?_)
      clear hK K
      refine wpAnyH_take (i := 13) (v := .int .i64 (num L14)) rfl (by kernel_rfl) (by kernel_rfl) (by kernel_rfl) (fun _ _ _ h => h) (Or.inl ⟨by rfl, ?_⟩) (by assumption) ?_
      · (intro w' hSw; (try dsimp only at hSw); go_simp; try rw [wrap_i64 (by omega) (by omega)])
      simp only [Act.put, List.getElem_toArray, List.getElem_cons_zero, List.getElem_cons_succ, List.setIfInBounds_toArray, List.set_cons_zero, List.set_cons_succ]
      have cc := concat_n (some ⟨k, 0, none⟩) 1 1 _ Y3 rfl hP (fun p' hp => by
        simp only [List.mem_cons, List.not_mem_nil, or_false] at hp
        subst hp
        exact q24.step (HB.out.trans (tt3.mono HB.out.size))) (by simp) (by simp [cat, l24]; omega)
      have hcat : cat [(⟨A2, c - 24, L24⟩ : Pc)] = L24 := by simp [cat]
      rw [hcat, l24] at cc
      clear hcat
      refine wpAnyH_ready (rs := [21]) (by kernel_rfl) (by simp) ?_
      refine AllReadyH.cons rfl (fun K hK => ?_) AllReadyH.nil
      go_simp
      go_at_call 25
      refine cc.mono ?_
      rintro e X9 ⟨A9, c9, rfl, o9, u9⟩
      have t9 : Below W0.heap.size W0 X9 := tt3.trans (u9.mono tt3.size)
      refine hK.out _ _ (KS.out _ (HB.out.trans (t9.mono HB.out.size))) (fun _ => ?_)
      clear hK K cc
      refine wpAnyH_take (i := 22) (v := .agg #[.int .i64 x1, .int .u32 (num L4), .int .u32 (num L8), .int .i64 (num L14), .int .u8 h0, .int .u8 h1, .int .u8 h2, .int .u8 h3, .int .u8 h4, .int .u8 h5, .int .u8 h6, .int .u8 h7, .slice A9 (n - 24) c9]) rfl (by kernel_rfl) (by kernel_rfl) (by kernel_rfl) (fun _ _ _ h => h) (Or.inl ⟨by rfl, ?_⟩) (by assumption) ?_
      · (intro w' hSw; (try dsimp only at hSw); go_simp; try rfl)
      simp only [Act.put, List.getElem_toArray, List.getElem_cons_zero, List.getElem_cons_succ, List.setIfInBounds_toArray, List.set_cons_zero, List.set_cons_succ]
      obtain ⟨a0, a1, a2, a3, a4, a5, a6, a7, a8, a9, a10, a11, a12, f0, f1, f2, f3, f4, f5, f6, f7, f8, f9, f10, f11, f12, hzl⟩ := kz_at (KZ.out _ t9)
      obtain ⟨r0, r1, r2, r3, r4, r5, r6, r7, r8, r9, r10, r11, r12⟩ := kz_get (KZ.out _ t9) (Value.int .i64 x1) (.int .u32 (num L4)) (.int .u32 (num L8)) (.int .i64 (num L14)) (.int .u8 h0) (.int .u8 h1) (.int .u8 h2) (.int .u8 h3) (.int .u8 h4) (.int .u8 h5) (.int .u8 h6) (.int .u8 h7) (.slice A9 (n - 24) c9)
      have tf : Below w.heap.size w (st13 X9 w.heap.size (.int .i64 x1) (.int .u32 (num L4)) (.int .u32 (num L8)) (.int .i64 (num L14)) (.int .u8 h0) (.int .u8 h1) (.int .u8 h2) (.int .u8 h3) (.int .u8 h4) (.int .u8 h5) (.int .u8 h6) (.int .u8 h7) (.slice A9 (n - 24) c9)) := below_st13 (HB.out.trans (t9.mono HB.out.size)) (Nat.le_refl _) _ _ _ _ _ _ _ _ _ _ _ _ _
      have of_ := (o9.far13 (b := w.heap.size) (by have := tt3.size; omega) (.int .i64 x1) (.int .u32 (num L4)) (.int .u32 (num L8)) (.int .i64 (num L14)) (.int .u8 h0) (.int .u8 h1) (.int .u8 h2) (.int .u8 h3) (.int .u8 h4) (.int .u8 h5) (.int .u8 h6) (.int .u8 h7) (.slice A9 (n - 24) c9)).lower (Nat.le_trans HB.out.size tt3.size)
      refine wpAnyH_ready (rs := [23]) (by kernel_rfl) (by simp) ?_
      refine AllReadyH.cons rfl (fun K hK => ?_) AllReadyH.nil
      go_simp
      refine hK.out _ _ (KS.out _ tf) (fun _ => ?_)
      clear hK K a0 a1 a2 a3 a4 a5 a6 a7 a8 a9 a10 a11 a12 f0 f1 f2 f3 f4 f5 f6 f7 f8 f9 f10 f11 f12 hzl
      refine wpAnyH_ready (rs := [24]) (by kernel_rfl) (by simp) ?_
      refine AllReadyH.cons rfl (fun K hK => ?_) AllReadyH.nil
      go_simp
      refine hK.out _ _ (KS.out _ tf) (fun _ => ?_)
      clear hK K
      refine wpAnyH_done (by kernel_rfl) ?_ _
      go_wp2
      refine bodyPost_ret (v := .tuple #[.agg #[.int .i64 x1, .int .u32 (num L4), .int .u32 (num L8), .int .i64 (num L14), .int .u8 h0, .int .u8 h1, .int .u8 h2, .int .u8 h3, .int .u8 h4, .int .u8 h5, .int .u8 h6, .int .u8 h7, .slice A9 (n - 24) c9], .int .i64 0]) (by simp [results, Try.results13, go_sem, r0, r1, r2, r3, r4, r5, r6, r7, r8, r9, r10, r11, r12]) rfl ⟨A9, c9, ?_, ?_, tf⟩
      · rw [HF.out, HD.out]
        simp only [pv', l24]
      · rw [HD.out]
        exact of_
  · go_simp
    obtain ⟨Z, hZ⟩ : ∃ V, X0.alloc (.cells #[.slice A2 (n - 24) (c - 24)] 24) = V := ⟨_, rfl⟩
    have uz : Below X0.heap.size X0 Z := by rw [← hZ]; exact below_alloc1 _ _
    have tz : Below W0.heap.size W0 Z := t1.trans (uz.mono t1.size)
    obtain ⟨k, hk⟩ : ∃ k, X0.heap.size = k := ⟨_, rfl⟩
    have hP : Ps Z (some ⟨k, 0, none⟩) [⟨A2, c - 24, L24⟩] := by
      rw [← hZ]
      exact Ps.mk _ _ _ _ _ hk (by simp [l24])
    try rw [hZ]
    try rw [hk]
    refine hK.out _ _ (KS.out _ (HB.out.trans (tz.mono HB.out.size))) (fun _ => ?_)
    clear hK K hZ hk
    refine wpAnyH_ready (rs := [6]) (by kernel_rfl) (by simp) ?_
    refine AllReadyH.cons rfl (fun K hK => ?_) AllReadyH.nil
    go_simp
    go_at_call 24
    refine (number_any _ 4 _ L4 _ (q4.step (HB.out.trans (tz.mono HB.out.size))) z4 l4 (by omega) (by decide) (by decide)).mono ?_
    rintro e Y1 ⟨rfl, u1⟩
    have tt1 : Below W0.heap.size W0 Y1 := tz.trans (u1.mono tz.size)
    replace hP := hP.step u1
    refine hK.out _ _ (KS.out _ (HB.out.trans (tt1.mono HB.out.size))) (fun _ => ?_)
    clear hK K
    refine wpAnyH_ready (rs := [9]) (by kernel_rfl) (by simp) ?_
    refine AllReadyH.cons rfl (fun K hK => ?_) AllReadyH.nil
    go_simp
    go_at_call 24
    refine (number_any _ 4 _ L8 _ (q8.step (HB.out.trans (tt1.mono HB.out.size))) z8 l8 (by omega) (by decide) (by decide)).mono ?_
    rintro e Y2 ⟨rfl, u2⟩
    have tt2 : Below W0.heap.size W0 Y2 := tt1.trans (u2.mono tt1.size)
    replace hP := hP.step u2
    refine hK.out _ _ (KS.out _ (HB.out.trans (tt2.mono HB.out.size))) (fun _ => ?_)
    clear hK K
    refine wpAnyH_ready (rs := [12]) (by kernel_rfl) (by simp) ?_
    refine AllReadyH.cons rfl (fun K hK => ?_) AllReadyH.nil
    go_simp
    go_at_call 24
    refine (number_any _ 2 _ L14 _ (q14.step (HB.out.trans (tt2.mono HB.out.size))) z14 l14 (by omega) (by decide) (by decide)).mono ?_
    rintro e Y3 ⟨rfl, u3⟩
    have tt3 : Below W0.heap.size W0 Y3 := tt2.trans (u3.mono tt2.size)
    replace hP := hP.step u3
    refine hK.out _ _ (KS.out _ (HB.out.trans (tt3.mono HB.out.size))) (fun _ => ?_)
    clear hK K
    refine wpAnyH_take (i := 13) (v := .int .i64 (num L14)) rfl (by kernel_rfl) (by kernel_rfl) (by kernel_rfl) (fun _ _ _ h => h) (Or.inl ⟨by rfl, ?_⟩) (by assumption) ?_
    · (intro w' hSw; (try dsimp only at hSw); go_simp; try rw [wrap_i64 (by omega) (by omega)])
    simp only [Act.put, List.getElem_toArray, List.getElem_cons_zero, List.getElem_cons_succ, List.setIfInBounds_toArray, List.set_cons_zero, List.set_cons_succ]
    have cc := concat_n (some ⟨k, 0, none⟩) 1 1 _ Y3 rfl hP (fun p' hp => by
      simp only [List.mem_cons, List.not_mem_nil, or_false] at hp
      subst hp
      exact q24.step (HB.out.trans (tt3.mono HB.out.size))) (by simp) (by simp [cat, l24]; omega)
    have hcat : cat [(⟨A2, c - 24, L24⟩ : Pc)] = L24 := by simp [cat]
    rw [hcat, l24] at cc
    clear hcat
    refine wpAnyH_ready (rs := [21]) (by kernel_rfl) (by simp) ?_
    refine AllReadyH.cons rfl (fun K hK => ?_) AllReadyH.nil
    go_simp
    go_at_call 25
    refine cc.mono ?_
    rintro e X9 ⟨A9, c9, rfl, o9, u9⟩
    have t9 : Below W0.heap.size W0 X9 := tt3.trans (u9.mono tt3.size)
    refine hK.out _ _ (KS.out _ (HB.out.trans (t9.mono HB.out.size))) (fun _ => ?_)
    clear hK K cc
    refine wpAnyH_take (i := 22) (v := .agg #[.int .i64 x1, .int .u32 (num L4), .int .u32 (num L8), .int .i64 (num L14), .int .u8 h0, .int .u8 h1, .int .u8 h2, .int .u8 h3, .int .u8 h4, .int .u8 h5, .int .u8 h6, .int .u8 h7, .slice A9 (n - 24) c9]) rfl (by kernel_rfl) (by kernel_rfl) (by kernel_rfl) (fun _ _ _ h => h) (Or.inl ⟨by rfl, ?_⟩) (by assumption) ?_
    · (intro w' hSw; (try dsimp only at hSw); go_simp; try rfl)
    simp only [Act.put, List.getElem_toArray, List.getElem_cons_zero, List.getElem_cons_succ, List.setIfInBounds_toArray, List.set_cons_zero, List.set_cons_succ]
    obtain ⟨a0, a1, a2, a3, a4, a5, a6, a7, a8, a9, a10, a11, a12, f0, f1, f2, f3, f4, f5, f6, f7, f8, f9, f10, f11, f12, hzl⟩ := kz_at (KZ.out _ t9)
    obtain ⟨r0, r1, r2, r3, r4, r5, r6, r7, r8, r9, r10, r11, r12⟩ := kz_get (KZ.out _ t9) (Value.int .i64 x1) (.int .u32 (num L4)) (.int .u32 (num L8)) (.int .i64 (num L14)) (.int .u8 h0) (.int .u8 h1) (.int .u8 h2) (.int .u8 h3) (.int .u8 h4) (.int .u8 h5) (.int .u8 h6) (.int .u8 h7) (.slice A9 (n - 24) c9)
    have tf : Below w.heap.size w (st13 X9 w.heap.size (.int .i64 x1) (.int .u32 (num L4)) (.int .u32 (num L8)) (.int .i64 (num L14)) (.int .u8 h0) (.int .u8 h1) (.int .u8 h2) (.int .u8 h3) (.int .u8 h4) (.int .u8 h5) (.int .u8 h6) (.int .u8 h7) (.slice A9 (n - 24) c9)) := below_st13 (HB.out.trans (t9.mono HB.out.size)) (Nat.le_refl _) _ _ _ _ _ _ _ _ _ _ _ _ _
    have of_ := (o9.far13 (b := w.heap.size) (by have := tt3.size; omega) (.int .i64 x1) (.int .u32 (num L4)) (.int .u32 (num L8)) (.int .i64 (num L14)) (.int .u8 h0) (.int .u8 h1) (.int .u8 h2) (.int .u8 h3) (.int .u8 h4) (.int .u8 h5) (.int .u8 h6) (.int .u8 h7) (.slice A9 (n - 24) c9)).lower (Nat.le_trans HB.out.size tt3.size)
    refine wpAnyH_ready (rs := [23]) (by kernel_rfl) (by simp) ?_
    refine AllReadyH.cons rfl (fun K hK => ?_) AllReadyH.nil
    go_simp
    refine hK.out _ _ (KS.out _ tf) (fun _ => ?_)
    clear hK K a0 a1 a2 a3 a4 a5 a6 a7 a8 a9 a10 a11 a12 f0 f1 f2 f3 f4 f5 f6 f7 f8 f9 f10 f11 f12 hzl
    refine wpAnyH_ready (rs := [24]) (by kernel_rfl) (by simp) ?_
    refine AllReadyH.cons rfl (fun K hK => ?_) AllReadyH.nil
    go_simp
    refine hK.out _ _ (KS.out _ tf) (fun _ => ?_)
    clear hK K
    refine wpAnyH_done (by kernel_rfl) ?_ _
    go_wp2
    refine bodyPost_ret (v := .tuple #[.agg #[.int .i64 x1, .int .u32 (num L4), .int .u32 (num L8), .int .i64 (num L14), .int .u8 h0, .int .u8 h1, .int .u8 h2, .int .u8 h3, .int .u8 h4, .int .u8 h5, .int .u8 h6, .int .u8 h7, .slice A9 (n - 24) c9], .int .i64 0]) (by simp [results, Try.results13, go_sem, r0, r1, r2, r3, r4, r5, r6, r7, r8, r9, r10, r11, r12]) rfl ⟨A9, c9, ?_, ?_, tf⟩
    · rw [HF.out, HD.out]
      simp only [pv', l24]
    · rw [HD.out]
      exact of_
end Go.Proofs.Ytfhickgdmcmodaa
