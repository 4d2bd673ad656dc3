/-
  The contract of the program's Eval. No statement is proved here; no conditions.
-/
import Derived.Test.YtmcjpibahnlmbaaCh
namespace Go.Proofs.Ytmcjpibahnlmbaa
open Go.RowKit Go.Joins

/-! ### A route in a block that is written -/
/-- What is needed to write a block of five cells. -/
theorem tz_at {W : World} {b : Nat} {t : TypeId} {v0 v1 v2 v3 v4 : Value} (h : W.heap[b]? = some (.cells #[v0, v1, v2, v3, v4] t)) :
    W.cell? ⟨b, 0, none⟩ = some v0 ∧ W.cell? ⟨b, 1, none⟩ = some v1 ∧ W.cell? ⟨b, 2, none⟩ = some v2 ∧ W.cell? ⟨b, 3, none⟩ = some v3 ∧ W.cell? ⟨b, 4, none⟩ = some v4 ∧ W.frozen? ⟨b, 0, none⟩ = false ∧ W.frozen? ⟨b, 1, none⟩ = false ∧ W.frozen? ⟨b, 2, none⟩ = false ∧ W.frozen? ⟨b, 3, none⟩ = false ∧ W.frozen? ⟨b, 4, none⟩ = false ∧ b < W.heap.size :=
  ⟨(cell_of_block h 0).trans rfl, (cell_of_block h 1).trans rfl, (cell_of_block h 2).trans rfl, (cell_of_block h 3).trans rfl, (cell_of_block h 4).trans rfl, unfrozen_of_block h 0, unfrozen_of_block h 1, unfrozen_of_block h 2, unfrozen_of_block h 3, unfrozen_of_block h 4, lt_of_block h⟩
abbrev st5 (W : World) (b : Nat) (u0 u1 u2 u3 u4 : Value) : World := ((((W.setCell ⟨b, 0, none⟩ u0).setCell ⟨b, 1, none⟩ u1).setCell ⟨b, 2, none⟩ u2).setCell ⟨b, 3, none⟩ u3).setCell ⟨b, 4, none⟩ u4
theorem tz_set {W : World} {b : Nat} {t : TypeId} {v0 v1 v2 v3 v4 : Value} (h : W.heap[b]? = some (.cells #[v0, v1, v2, v3, v4] t)) (u0 u1 u2 u3 u4 : Value) :
    (st5 W b u0 u1 u2 u3 u4).heap[b]? = some (.cells #[u0, u1, u2, u3, u4] t) := by
  rw [block_setCell (i := 4) (block_setCell (i := 3) (block_setCell (i := 2) (block_setCell (i := 1) (block_setCell (i := 0) h u0) u1) u2) u3) u4]
  rfl
theorem tz_get {W : World} {b : Nat} {t : TypeId} {v0 v1 v2 v3 v4 : Value} (h : W.heap[b]? = some (.cells #[v0, v1, v2, v3, v4] t)) (u0 u1 u2 u3 u4 : Value) :
    (st5 W b u0 u1 u2 u3 u4).cell? ⟨b, 0, none⟩ = some u0 ∧ (st5 W b u0 u1 u2 u3 u4).cell? ⟨b, 1, none⟩ = some u1 ∧ (st5 W b u0 u1 u2 u3 u4).cell? ⟨b, 2, none⟩ = some u2 ∧ (st5 W b u0 u1 u2 u3 u4).cell? ⟨b, 3, none⟩ = some u3 ∧ (st5 W b u0 u1 u2 u3 u4).cell? ⟨b, 4, none⟩ = some u4 := by
  have k := tz_set h u0 u1 u2 u3 u4
  exact ⟨(cell_of_block k 0).trans rfl, (cell_of_block k 1).trans rfl, (cell_of_block k 2).trans rfl, (cell_of_block k 3).trans rfl, (cell_of_block k 4).trans rfl⟩
theorem below_st5 {W W' : World} {B b : Nat} (h : Below B W W') (hb : B ≤ b) (u0 u1 u2 u3 u4 : Value) : Below B W (st5 W' b u0 u1 u2 u3 u4) :=
  (((((h.setCell (p := ⟨b, 0, none⟩) hb u0).setCell (p := ⟨b, 1, none⟩) hb u1).setCell (p := ⟨b, 2, none⟩) hb u2).setCell (p := ⟨b, 3, none⟩) hb u3).setCell (p := ⟨b, 4, none⟩) hb u4)
theorem size_st5 (W : World) (b : Nat) (u0 u1 u2 u3 u4 : Value) : (st5 W b u0 u1 u2 u3 u4).heap.size = W.heap.size := by simp [st5, World.setCell]
theorem far_st5 {W : World} {b k : Nat} (h : k ≠ b) (u0 u1 u2 u3 u4 : Value) : (st5 W b u0 u1 u2 u3 u4).heap[k]? = W.heap[k]? := by
  unfold st5
  rw [Below.heap_setCell _ _ _ _ h, Below.heap_setCell _ _ _ _ h, Below.heap_setCell _ _ _ _ h, Below.heap_setCell _ _ _ _ h, Below.heap_setCell _ _ _ _ h]
/-! ### The first clause that matches -/
theorem evm_fix (l : List Cl) (t : Rt) : (fix (fun x : Cl => mtc x.c t) l = -1 ∧ evm (cps l) t = (zr, false, 0)) ∨ ∃ k : Nat, k < l.length ∧ fix (fun x : Cl => mtc x.c t) l = (k : Int) ∧ evm (cps l) t = ans (gc l k).c t := by
  unfold fix
  by_cases h : l.findIdx (fun x : Cl => mtc x.c t) < l.length
  · refine .inr ⟨_, h, if_pos h, ?_⟩
    rw [← gp_cps h]
    refine evm_at (by rw [cps_len]; exact h) (fun i hi => ?_) ?_
    · rw [gp_cps (by omega), gc_eq (by omega)]
      have := List.not_of_lt_findIdx hi
      simpa using this
    · rw [gp_cps h, gc_eq h]
      exact List.findIdx_getElem (w := h)
  · refine .inl ⟨if_neg h, evm_none fun i hi => ?_⟩
    rw [cps_len] at hi
    rw [gp_cps hi, gc_eq hi]
    have := List.not_of_lt_findIdx (show i < l.findIdx (fun x : Cl => mtc x.c t) by omega)
    simpa using this
set_option maxRecDepth 100000 in
theorem evc_any (x : Cl) (t : Rt) (b : Nat) (w : World) (hx : Cx w x) (hB : t.A < 4294967296) (hc : w.cell? ⟨b, 0, none⟩ = some (Value.int .u32 (t.A : Int)) ∧ w.cell? ⟨b, 1, none⟩ = some (Value.int .i64 t.N) ∧ w.cell? ⟨b, 2, none⟩ = some (Value.int .i64 t.k) ∧ w.cell? ⟨b, 3, none⟩ = some (Value.int .i64 t.c) ∧ w.cell? ⟨b, 4, none⟩ = some (Value.int .u32 (t.t : Int))) :
    Calls Try.prog 39 #[cv x, .pointer (some ⟨b, 0, none⟩)] w fun e w' => e = .returned (.bool (mtc x.c t)) ∧ Below w.heap.size w w' := by
  obtain ⟨W0, hW0⟩ : ∃ W0, w.alloc (.cells #[.int .i64 x.c.s, .bool x.c.p, .slice x.LA x.c.L.length x.Lc, .int .i64 x.c.k, .int .i64 x.c.lo, .int .i64 x.c.hi, .slice x.TA x.c.T.length x.Tc, .int .i64 x.c.sc, .int .i64 x.c.sp, .int .i64 x.c.sk, .bool x.c.st, .int .u32 (x.c.tg : Int)] 37) = W0 := ⟨_, rfl⟩
  have b0 : Below w.heap.size w W0 := by rw [← hW0]; exact below_alloc1 _ _
  obtain ⟨k0, k1, k2, k3, k4, k5, k6, k7, k8, k9, k10, k11⟩ := cb_new hW0 (Below.refl _ _)
  obtain ⟨h0, h1, h2, h3, h4⟩ := hc
  have hlt := World.block_lt_of_cell? _ _ h0
  have q0 : W0.cell? ⟨b, 0, none⟩ = some (Value.int .u32 (t.A : Int)) := by rw [World.cell?_of_block (b0.block b hlt)]; exact h0
  have q1 : W0.cell? ⟨b, 1, none⟩ = some (Value.int .i64 t.N) := by rw [World.cell?_of_block (b0.block b hlt)]; exact h1
  have q2 : W0.cell? ⟨b, 2, none⟩ = some (Value.int .i64 t.k) := by rw [World.cell?_of_block (b0.block b hlt)]; exact h2
  have q3 : W0.cell? ⟨b, 3, none⟩ = some (Value.int .i64 t.c) := by rw [World.cell?_of_block (b0.block b hlt)]; exact h3
  have q4 : W0.cell? ⟨b, 4, none⟩ = some (Value.int .u32 (t.t : Int)) := by rw [World.cell?_of_block (b0.block b hlt)]; exact h4
  have cm := matches_any x t W0 (hx.step b0) hB
  generalize mtc x.c t = E at *
  clear h0 h1 h2 h3 h4
  go_enter Try.func39, Try.ntmps39
  go_wp2_with fail
  refine cm.mono ?_
  rintro e W2 ⟨rfl, hb2⟩
  go_wp2
  go_ret
  exact ⟨rfl, b0.trans (hb2.mono b0.size)⟩
set_option maxRecDepth 100000 in
set_option maxHeartbeats 1000000 in
theorem eval8_any (A0 : Option Addr) (c : Nat) (l : List Cl) (t : Rt) (w : World) (hl : Cr w A0 l) (hll : l.length ≤ 10000) (hok : Oks (cps l)) (ht : okt t = true) (hB : t.A < 4294967296) :
    Calls Try.prog 21 #[.slice A0 l.length c, tv t] w fun e w' => e = .returned (.tuple #[tv (evm (cps l) t).1, .bool (evm (cps l) t).2.1, .int .i64 (evm (cps l) t).2.2]) ∧ Below w.heap.size w w' := by
  obtain ⟨W0, hW0⟩ : ∃ W0, w.alloc (.cells #[Value.int .u32 (t.A : Int), Value.int .i64 t.N, Value.int .i64 t.k, Value.int .i64 t.c, Value.int .u32 (t.t : Int)] 27) = W0 := ⟨_, rfl⟩
  have s0 : W0.heap.size = w.heap.size + 1 := by rw [← hW0]; simp
  obtain ⟨W1, hW1⟩ : ∃ W1, W0.alloc (.cells #[Value.int .u32 0, Value.int .i64 0, Value.int .i64 0, Value.int .i64 0, Value.int .u32 0] 27) = W1 := ⟨_, rfl⟩
  have s1 : W1.heap.size = w.heap.size + 2 := by rw [← hW1]; simp [s0]
  have b0 : Below w.heap.size w W0 := by rw [← hW0]; exact below_alloc1 _ _
  have b1 : Below W0.heap.size W0 W1 := by rw [← hW1]; exact below_alloc1 _ _
  have HB : Hid (Below w.heap.size w W1) := Lib.hid (b0.trans (b1.mono (by omega)))
  have KX : Hid (∀ V, Below W1.heap.size W1 V → V.cell? ⟨w.heap.size, 0, none⟩ = some (Value.int .u32 (t.A : Int)) ∧ V.cell? ⟨w.heap.size, 1, none⟩ = some (Value.int .i64 t.N) ∧ V.cell? ⟨w.heap.size, 2, none⟩ = some (Value.int .i64 t.k) ∧ V.cell? ⟨w.heap.size, 3, none⟩ = some (Value.int .i64 t.c) ∧ V.cell? ⟨w.heap.size, 4, none⟩ = some (Value.int .u32 (t.t : Int))) :=
    Lib.hid (fun V hV => tb_new hW0 (b1.trans (hV.mono b1.size)))
  have KZ : Hid (∀ V, Below W1.heap.size W1 V → V.heap[w.heap.size + 1]? = some (.cells #[Value.int .u32 0, Value.int .i64 0, Value.int .i64 0, Value.int .i64 0, Value.int .u32 0] 27)) :=
    Lib.hid (fun V hV => by rw [hV.block _ (by omega), ← hW1]; exact alloc_at _ _ _ (by omega))
  clear b0 b1
  have cf := cix_any A0 c l 39 (.pointer (some ⟨w.heap.size, 0, none⟩)) (fun x => mtc x.c t) W1 (hl.step HB.out) hll enters39 (fun V x hx hV => evc_any x t w.heap.size V ((hl.step (HB.out.trans (hV.mono (by omega)))).cx x hx) hB (KX.out V hV))
  have he := evm_fix l t
  obtain ⟨R, hR⟩ : ∃ R, fix (fun x : Cl => mtc x.c t) l = R := ⟨_, rfl⟩
  obtain ⟨E, hE⟩ : ∃ E, evm (cps l) t = E := ⟨_, rfl⟩
  obtain ⟨ln, hln⟩ : ∃ ln, l.length = ln := ⟨_, rfl⟩
  rw [hR] at cf he
  rw [hE] at he ⊢
  rw [hln] at cf he hll ⊢
  have HE := Lib.hid he
  have HL0 := Lib.hid hl
  have HL := Lib.hid (hl.step HB.out)
  have HLN := Lib.hid hln
  have HOK : Hid (∀ k, k < ln → okc (gc l k).c = true) := Lib.hid (fun k hk => by
    rw [← hln] at hk
    rw [gc_eq hk]
    exact hok _ (by rw [cps]; exact List.mem_map_of_mem (List.getElem_mem _)))
  clear he hR hE hl hln hok
  go_enter Try.func21, Try.ntmps21
  go_wp2_with fail
  refine cf.mono ?_
  rintro e V1 ⟨rfl, hb1⟩
  clear cf hW0 hW1
  have kz := KZ.out _ hb1
  obtain ⟨z0, z1, z2, z3, z4, f0, f1, f2, f3, f4, hzl⟩ := tz_at kz
  have HB1 := Lib.hid hb1
  clear hb1
  rcases HE.out with ⟨hr, hev⟩ | ⟨k, hk, hr, hev⟩
  · subst hr
    have HEV := Lib.hid hev
    obtain ⟨r0, r1, r2, r3, r4⟩ := tz_get kz (.int .u32 0) (.int .i64 0) (.int .i64 0) (.int .i64 0) (.int .u32 0)
    clear hev HE
    go_wp2
    refine bodyPost_ret (v := .tuple #[tv zr, .bool false, .int .i64 0]) (by simp [results, Try.results21, go_sem, r0, r1, r2, r3, r4, zr]) rfl ⟨by rw [HEV.out], ?_⟩
    exact below_st5 (HB.out.trans (HB1.out.mono (by omega))) (by omega) _ _ _ _ _
  · subst hr
    have HEV := Lib.hid hev
    have hok := HOK.out k hk
    obtain ⟨b, off, hA, hbl, hcx, e0, e1, e2, e3, e4, e5, e6, e7, e8, e9, e10, e11⟩ := (HL.out.step HB1.out).at (i := k) (by rw [HLN.out]; exact hk)
    obtain ⟨b', off', hA', hbl', _, d0, d1, d2, d3, d4, d5, d6, d7, d8, d9, d10, d11⟩ := HL.out.at (i := k) (by rw [HLN.out]; exact hk)
    obtain ⟨x, hx⟩ : ∃ x, gc l k = x := ⟨_, rfl⟩
    rw [hx] at hev hok hcx e0 d0 e1 d1 e2 d2 e3 d3 e4 d4 e5 d5 e6 d6 e7 d7 e8 d8 e9 d9 e10 d10 e11 d11
    subst hA
    simp only [Option.some.injEq, Addr.mk.injEq] at hA'
    obtain ⟨rfl, rfl, _⟩ := hA'
    have HEV := Lib.hid hev
    have lt0 : ¬ ((k : Int) < 0) := by omega
    have lt1 : (k : Int) < (ln : Int) := by omega
    obtain ⟨bb, oo, hA'', hbw, _⟩ := HL0.out.at (i := k) (by rw [HLN.out]; exact hk)
    simp only [Option.some.injEq, Addr.mk.injEq] at hA''
    obtain ⟨rfl, rfl, _⟩ := hA''
    have KS : Hid (∀ V : World, (∀ j, j < w.heap.size + 1 → V.heap[j]? = W1.heap[j]?) → (V.cell? ⟨b, off + k * 12, none⟩ = some (.int .i64 x.c.s) ∧ V.cell? ⟨b, off + k * 12 + 1, none⟩ = some (.bool x.c.p) ∧ V.cell? ⟨b, off + k * 12 + 2, none⟩ = some (.slice x.LA x.c.L.length x.Lc) ∧ V.cell? ⟨b, off + k * 12 + 3, none⟩ = some (.int .i64 x.c.k) ∧ V.cell? ⟨b, off + k * 12 + 4, none⟩ = some (.int .i64 x.c.lo) ∧ V.cell? ⟨b, off + k * 12 + 5, none⟩ = some (.int .i64 x.c.hi) ∧ V.cell? ⟨b, off + k * 12 + 6, none⟩ = some (.slice x.TA x.c.T.length x.Tc) ∧ V.cell? ⟨b, off + k * 12 + 7, none⟩ = some (.int .i64 x.c.sc) ∧ V.cell? ⟨b, off + k * 12 + 8, none⟩ = some (.int .i64 x.c.sp) ∧ V.cell? ⟨b, off + k * 12 + 9, none⟩ = some (.int .i64 x.c.sk) ∧ V.cell? ⟨b, off + k * 12 + 10, none⟩ = some (.bool x.c.st) ∧ V.cell? ⟨b, off + k * 12 + 11, none⟩ = some (.int .u32 (x.c.tg : Int)) ∧ V.cell? ⟨w.heap.size, 0, none⟩ = some (Value.int .u32 (t.A : Int)) ∧ V.cell? ⟨w.heap.size, 1, none⟩ = some (Value.int .i64 t.N) ∧ V.cell? ⟨w.heap.size, 2, none⟩ = some (Value.int .i64 t.k) ∧ V.cell? ⟨w.heap.size, 3, none⟩ = some (Value.int .i64 t.c) ∧ V.cell? ⟨w.heap.size, 4, none⟩ = some (Value.int .u32 (t.t : Int)))) := Lib.hid (fun V hV => by
      have hv : ∀ o, V.cell? ⟨b, o, none⟩ = W1.cell? ⟨b, o, none⟩ := fun o => World.cell?_of_block (hV b (by omega))
      have ht : ∀ o, V.cell? ⟨w.heap.size, o, none⟩ = W1.cell? ⟨w.heap.size, o, none⟩ := fun o => World.cell?_of_block (hV w.heap.size (by omega))
      obtain ⟨q0, q1, q2, q3, q4⟩ := KX.out _ (Below.refl _ _)
      exact ⟨(hv _).trans d0, (hv _).trans d1, (hv _).trans d2, (hv _).trans d3, (hv _).trans d4, (hv _).trans d5, (hv _).trans d6, (hv _).trans d7, (hv _).trans d8, (hv _).trans d9, (hv _).trans d10, (hv _).trans d11, (ht _).trans q0, (ht _).trans q1, (ht _).trans q2, (ht _).trans q3, (ht _).trans q4⟩)
    obtain ⟨q0, q1, q2, q3, q4⟩ := KX.out _ HB1.out
    clear hev HE hx hbl hbl' hcx d0 d1 d2 d3 d4 d5 d6 d7 d8 d9 d10 d11
    cases hp : x.c.p with
    | false =>
      rw [hp] at e1
      have HEV2 : Hid (E = (zr, false, x.c.s)) := Lib.hid (by rw [HEV.out, ans, hp]; rfl)
      clear hp
      go_wp2_with fail
      clear e0 e1 e2 e3 e4 e5 e6 e7 e8 e9 e10 e11 z0 z1 z2 z3 z4 f0 f1 f2 f3 f4 q0 q1 q2 q3 q4
      refine wp_region_held_drew (S := fun V => V.cell? ⟨b, off + k * 12, none⟩ = some (.int .i64 x.c.s) ∧ V.cell? ⟨b, off + k * 12 + 1, none⟩ = some (.bool x.c.p) ∧ V.cell? ⟨b, off + k * 12 + 2, none⟩ = some (.slice x.LA x.c.L.length x.Lc) ∧ V.cell? ⟨b, off + k * 12 + 3, none⟩ = some (.int .i64 x.c.k) ∧ V.cell? ⟨b, off + k * 12 + 4, none⟩ = some (.int .i64 x.c.lo) ∧ V.cell? ⟨b, off + k * 12 + 5, none⟩ = some (.int .i64 x.c.hi) ∧ V.cell? ⟨b, off + k * 12 + 6, none⟩ = some (.slice x.TA x.c.T.length x.Tc) ∧ V.cell? ⟨b, off + k * 12 + 7, none⟩ = some (.int .i64 x.c.sc) ∧ V.cell? ⟨b, off + k * 12 + 8, none⟩ = some (.int .i64 x.c.sp) ∧ V.cell? ⟨b, off + k * 12 + 9, none⟩ = some (.int .i64 x.c.sk) ∧ V.cell? ⟨b, off + k * 12 + 10, none⟩ = some (.bool x.c.st) ∧ V.cell? ⟨b, off + k * 12 + 11, none⟩ = some (.int .u32 (x.c.tg : Int)) ∧ V.cell? ⟨w.heap.size, 0, none⟩ = some (Value.int .u32 (t.A : Int)) ∧ V.cell? ⟨w.heap.size, 1, none⟩ = some (Value.int .i64 t.N) ∧ V.cell? ⟨w.heap.size, 2, none⟩ = some (Value.int .i64 t.k) ∧ V.cell? ⟨w.heap.size, 3, none⟩ = some (Value.int .i64 t.c) ∧ V.cell? ⟨w.heap.size, 4, none⟩ = some (Value.int .u32 (t.t : Int))) (by kernel_rfl) (KS.out _ (fun j hj => HB1.out.block j (by omega))) (fun hHeld => ?_)
      refine wpAnyH_take (i := 0) (v := ?_) rfl (by kernel_rfl) (by kernel_rfl) (by kernel_rfl) (fun _ _ _ h => h) (Or.inl ⟨by rfl, ?_⟩) (by assumption) ?_
      rotate_left
      · (intro w' hSw; (try dsimp only at hSw); go_simp; try with_reducible rfl)
      simp only [Act.put, List.getElem_toArray, List.getElem_cons_zero, List.setIfInBounds_toArray, List.set_cons_zero, List.set_cons_succ]
      refine wpAnyH_take (i := 1) (v := ?_) rfl (by kernel_rfl) (by kernel_rfl) (by kernel_rfl) (fun _ _ _ h => h) (Or.inl ⟨by rfl, ?_⟩) (by assumption) ?_
      rotate_left
      · (intro w' hSw; (try dsimp only at hSw); go_simp; try with_reducible rfl)
      simp only [Act.put, List.getElem_toArray, List.getElem_cons_zero, List.getElem_cons_succ, List.setIfInBounds_toArray, List.set_cons_zero, List.set_cons_succ]
      refine wpAnyH_take (i := 2) (v := ?_) rfl (by kernel_rfl) (by kernel_rfl) (by kernel_rfl) (fun _ _ _ h => h) (Or.inl ⟨by rfl, ?_⟩) (by assumption) ?_
      rotate_left
      · (intro w' hSw; (try dsimp only at hSw); go_simp; try with_reducible rfl)
      simp only [Act.put, List.getElem_toArray, List.getElem_cons_zero, List.getElem_cons_succ, List.setIfInBounds_toArray, List.set_cons_zero, List.set_cons_succ]
      refine wpAnyH_take (i := 3) (v := ?_) rfl (by kernel_rfl) (by kernel_rfl) (by kernel_rfl) (fun _ _ _ h => h) (Or.inl ⟨by rfl, ?_⟩) (by assumption) ?_
      rotate_left
      · (intro w' hSw; (try dsimp only at hSw); go_simp; try with_reducible rfl)
      simp only [Act.put, List.getElem_toArray, List.getElem_cons_zero, List.getElem_cons_succ, List.setIfInBounds_toArray, List.set_cons_zero, List.set_cons_succ]
      refine wpAnyH_take (i := 4) (v := ?_) rfl (by kernel_rfl) (by kernel_rfl) (by kernel_rfl) (fun _ _ _ h => h) (Or.inl ⟨by rfl, ?_⟩) (by assumption) ?_
      rotate_left
      · (intro w' hSw; (try dsimp only at hSw); go_simp; try with_reducible rfl)
      simp only [Act.put, List.getElem_toArray, List.getElem_cons_zero, List.getElem_cons_succ, List.setIfInBounds_toArray, List.set_cons_zero, List.set_cons_succ]
      refine wpAnyH_take (i := 5) (v := ?_) rfl (by kernel_rfl) (by kernel_rfl) (by kernel_rfl) (fun _ _ _ h => h) (Or.inl ⟨by rfl, ?_⟩) (by assumption) ?_
      rotate_left
      · (intro w' hSw; (try dsimp only at hSw); go_simp; try with_reducible rfl)
      simp only [Act.put, List.getElem_toArray, List.getElem_cons_zero, List.getElem_cons_succ, List.setIfInBounds_toArray, List.set_cons_zero, List.set_cons_succ]
      have tX : Hid (Below W1.heap.size W1 V1.drew) := Lib.hid (HB1.out.trans (below_draws _ _ 1))
      generalize hX : V1.drew = X at tX ⊢
      clear hX hHeld
      have kx := KZ.out _ tX.out
      obtain ⟨z0, z1, z2, z3, z4, f0, f1, f2, f3, f4, hzl⟩ := tz_at kx
      obtain ⟨r0, r1, r2, r3, r4⟩ := tz_get kx (.int .u32 0) (.int .i64 0) (.int .i64 0) (.int .i64 0) (.int .u32 0)
      have tY : Hid (∀ j, j < w.heap.size + 1 → (st5 X (w.heap.size + 1) (.int .u32 0) (.int .i64 0) (.int .i64 0) (.int .i64 0) (.int .u32 0)).heap[j]? = W1.heap[j]?) := Lib.hid (fun j hj => (far_st5 (by omega) _ _ _ _ _).trans (tX.out.block j (by omega)))
      refine wpAnyH_ready (rs := [6]) (by kernel_rfl) (by simp) ?_
      refine AllReadyH.cons rfl (fun K hK => ?_) AllReadyH.nil
      go_simp
      refine hK.out _ _ (KS.out _ tY.out) (fun _ => ?_)
      clear hK K
      clear z0 z1 z2 z3 z4 f0 f1 f2 f3 f4 hzl
      refine wpAnyH_ready (rs := [7]) (by kernel_rfl) (by simp) ?_
      refine AllReadyH.cons rfl (fun K hK => ?_) AllReadyH.nil
      go_simp
      refine hK.out _ _ (KS.out _ tY.out) (fun _ => ?_)
      clear hK K
      refine wpAnyH_ready (rs := [8]) (by kernel_rfl) (by simp) ?_
      refine AllReadyH.cons rfl (fun K hK => ?_) AllReadyH.nil
      go_simp
      refine hK.out _ _ (KS.out _ tY.out) (fun _ => ?_)
      clear hK K
      refine wpAnyH_done (by kernel_rfl) ?_ _
      go_wp2
      refine bodyPost_ret (v := .tuple #[tv zr, .bool false, .int .i64 x.c.s]) (by simp [results, Try.results21, go_sem, r0, r1, r2, r3, r4, zr]) rfl ⟨by rw [HEV2.out], ?_⟩
      exact below_st5 (HB.out.trans (tX.out.mono (by omega))) (by omega) _ _ _ _ _
    | true =>
      rw [hp] at e1
      have HEV2 : Hid (E = (chg x.c t, true, x.c.s)) := Lib.hid (by rw [HEV.out, ans, hp]; rfl)
      clear hp
      go_wp2_with fail
      clear e0 e1 e2 e3 e4 e5 e6 e7 e8 e9 e10 e11 z0 z1 z2 z3 z4 f0 f1 f2 f3 f4 q0 q1 q2 q3 q4
      refine wp_region_held_drew (S := fun V => V.cell? ⟨b, off + k * 12, none⟩ = some (.int .i64 x.c.s) ∧ V.cell? ⟨b, off + k * 12 + 1, none⟩ = some (.bool x.c.p) ∧ V.cell? ⟨b, off + k * 12 + 2, none⟩ = some (.slice x.LA x.c.L.length x.Lc) ∧ V.cell? ⟨b, off + k * 12 + 3, none⟩ = some (.int .i64 x.c.k) ∧ V.cell? ⟨b, off + k * 12 + 4, none⟩ = some (.int .i64 x.c.lo) ∧ V.cell? ⟨b, off + k * 12 + 5, none⟩ = some (.int .i64 x.c.hi) ∧ V.cell? ⟨b, off + k * 12 + 6, none⟩ = some (.slice x.TA x.c.T.length x.Tc) ∧ V.cell? ⟨b, off + k * 12 + 7, none⟩ = some (.int .i64 x.c.sc) ∧ V.cell? ⟨b, off + k * 12 + 8, none⟩ = some (.int .i64 x.c.sp) ∧ V.cell? ⟨b, off + k * 12 + 9, none⟩ = some (.int .i64 x.c.sk) ∧ V.cell? ⟨b, off + k * 12 + 10, none⟩ = some (.bool x.c.st) ∧ V.cell? ⟨b, off + k * 12 + 11, none⟩ = some (.int .u32 (x.c.tg : Int)) ∧ V.cell? ⟨w.heap.size, 0, none⟩ = some (Value.int .u32 (t.A : Int)) ∧ V.cell? ⟨w.heap.size, 1, none⟩ = some (Value.int .i64 t.N) ∧ V.cell? ⟨w.heap.size, 2, none⟩ = some (Value.int .i64 t.k) ∧ V.cell? ⟨w.heap.size, 3, none⟩ = some (Value.int .i64 t.c) ∧ V.cell? ⟨w.heap.size, 4, none⟩ = some (Value.int .u32 (t.t : Int))) (by kernel_rfl) (KS.out _ (fun j hj => HB1.out.block j (by omega))) (fun hHeld => ?_)
      refine wpAnyH_take (i := 0) (v := ?_) rfl (by kernel_rfl) (by kernel_rfl) (by kernel_rfl) (fun _ _ _ h => h) (Or.inl ⟨by rfl, ?_⟩) (by assumption) ?_
      rotate_left
      · (intro w' hSw; (try dsimp only at hSw); go_simp; try with_reducible rfl)
      simp only [Act.put, List.getElem_toArray, List.getElem_cons_zero, List.setIfInBounds_toArray, List.set_cons_zero, List.set_cons_succ]
      refine wpAnyH_take (i := 1) (v := ?_) rfl (by kernel_rfl) (by kernel_rfl) (by kernel_rfl) (fun _ _ _ h => h) (Or.inl ⟨by rfl, ?_⟩) (by assumption) ?_
      rotate_left
      · (intro w' hSw; (try dsimp only at hSw); go_simp; try with_reducible rfl)
      simp only [Act.put, List.getElem_toArray, List.getElem_cons_zero, List.getElem_cons_succ, List.setIfInBounds_toArray, List.set_cons_zero, List.set_cons_succ]
      refine wpAnyH_take (i := 2) (v := ?_) rfl (by kernel_rfl) (by kernel_rfl) (by kernel_rfl) (fun _ _ _ h => h) (Or.inl ⟨by rfl, ?_⟩) (by assumption) ?_
      rotate_left
      · (intro w' hSw; (try dsimp only at hSw); go_simp; try with_reducible rfl)
      simp only [Act.put, List.getElem_toArray, List.getElem_cons_zero, List.getElem_cons_succ, List.setIfInBounds_toArray, List.set_cons_zero, List.set_cons_succ]
      refine wpAnyH_take (i := 3) (v := ?_) rfl (by kernel_rfl) (by kernel_rfl) (by kernel_rfl) (fun _ _ _ h => h) (Or.inl ⟨by rfl, ?_⟩) (by assumption) ?_
      rotate_left
      · (intro w' hSw; (try dsimp only at hSw); go_simp; try with_reducible rfl)
      simp only [Act.put, List.getElem_toArray, List.getElem_cons_zero, List.getElem_cons_succ, List.setIfInBounds_toArray, List.set_cons_zero, List.set_cons_succ]
      refine wpAnyH_take (i := 4) (v := ?_) rfl (by kernel_rfl) (by kernel_rfl) (by kernel_rfl) (fun _ _ _ h => h) (Or.inl ⟨by rfl, ?_⟩) (by assumption) ?_
      rotate_left
      · (intro w' hSw; (try dsimp only at hSw); go_simp; try with_reducible rfl)
      simp only [Act.put, List.getElem_toArray, List.getElem_cons_zero, List.getElem_cons_succ, List.setIfInBounds_toArray, List.set_cons_zero, List.set_cons_succ]
      refine wpAnyH_take (i := 6) (v := ?_) rfl (by kernel_rfl) (by kernel_rfl) (by kernel_rfl) (fun _ _ _ h => h) (Or.inl ⟨by rfl, ?_⟩) (by assumption) ?_
      rotate_left
      · (intro w' hSw; (try dsimp only at hSw); go_simp; try with_reducible rfl)
      simp only [Act.put, List.getElem_toArray, List.getElem_cons_zero, List.getElem_cons_succ, List.setIfInBounds_toArray, List.set_cons_zero, List.set_cons_succ]
      refine wpAnyH_take (i := 7) (v := ?_) rfl (by kernel_rfl) (by kernel_rfl) (by kernel_rfl) (fun _ _ _ h => h) (Or.inl ⟨by rfl, ?_⟩) (by assumption) ?_
      rotate_left
      · (intro w' hSw; (try dsimp only at hSw); go_simp; try with_reducible rfl)
      simp only [Act.put, List.getElem_toArray, List.getElem_cons_zero, List.getElem_cons_succ, List.setIfInBounds_toArray, List.set_cons_zero, List.set_cons_succ]
      refine wpAnyH_take (i := 8) (v := ?_) rfl (by kernel_rfl) (by kernel_rfl) (by kernel_rfl) (fun _ _ _ h => h) (Or.inl ⟨by rfl, ?_⟩) (by assumption) ?_
      rotate_left
      · (intro w' hSw; (try dsimp only at hSw); go_simp; try with_reducible rfl)
      simp only [Act.put, List.getElem_toArray, List.getElem_cons_zero, List.getElem_cons_succ, List.setIfInBounds_toArray, List.set_cons_zero, List.set_cons_succ]
      refine wpAnyH_take (i := 9) (v := ?_) rfl (by kernel_rfl) (by kernel_rfl) (by kernel_rfl) (fun _ _ _ h => h) (Or.inl ⟨by rfl, ?_⟩) (by assumption) ?_
      rotate_left
      · (intro w' hSw; (try dsimp only at hSw); go_simp; try with_reducible rfl)
      simp only [Act.put, List.getElem_toArray, List.getElem_cons_zero, List.getElem_cons_succ, List.setIfInBounds_toArray, List.set_cons_zero, List.set_cons_succ]
      refine wpAnyH_take (i := 10) (v := ?_) rfl (by kernel_rfl) (by kernel_rfl) (by kernel_rfl) (fun _ _ _ h => h) (Or.inl ⟨by rfl, ?_⟩) (by assumption) ?_
      rotate_left
      · (intro w' hSw; (try dsimp only at hSw); go_simp; try with_reducible rfl)
      simp only [Act.put, List.getElem_toArray, List.getElem_cons_zero, List.getElem_cons_succ, List.setIfInBounds_toArray, List.set_cons_zero, List.set_cons_succ]
      have tX : Hid (Below W1.heap.size W1 V1.drew) := Lib.hid (HB1.out.trans (below_draws _ _ 1))
      generalize hX : V1.drew = X at tX ⊢
      clear hX hHeld
      refine wpAnyH_ready (rs := [5]) (by kernel_rfl) (by simp) ?_
      refine AllReadyH.cons rfl (fun K hK => ?_) AllReadyH.nil
      go_simp
      go_at_call 19
      refine (change_any x t X hok ht).mono ?_
      rintro e Y ⟨rfl, hbY⟩
      replace tX : Hid (Below W1.heap.size W1 Y) := Lib.hid (tX.out.trans (hbY.mono tX.out.size))
      refine hK.out _ _ (KS.out _ (fun j hj => tX.out.block j (by omega))) (fun _ => ?_)
      clear hK K hbY
      obtain ⟨r, hr⟩ : ∃ r, chg x.c t = r := ⟨_, rfl⟩
      have HR := Lib.hid hr
      rw [hr]
      clear hr
      have kx := KZ.out _ tX.out
      obtain ⟨z0, z1, z2, z3, z4, f0, f1, f2, f3, f4, hzl⟩ := tz_at kx
      obtain ⟨r0, r1, r2, r3, r4⟩ := tz_get kx (Value.int .u32 (r.A : Int)) (Value.int .i64 r.N) (Value.int .i64 r.k) (Value.int .i64 r.c) (Value.int .u32 (r.t : Int))
      have tY : Hid (∀ j, j < w.heap.size + 1 → (st5 Y (w.heap.size + 1) (Value.int .u32 (r.A : Int)) (Value.int .i64 r.N) (Value.int .i64 r.k) (Value.int .i64 r.c) (Value.int .u32 (r.t : Int))).heap[j]? = W1.heap[j]?) := Lib.hid (fun j hj => (far_st5 (by omega) _ _ _ _ _).trans (tX.out.block j (by omega)))
      refine wpAnyH_ready (rs := [11]) (by kernel_rfl) (by simp) ?_
      refine AllReadyH.cons rfl (fun K hK => ?_) AllReadyH.nil
      go_simp
      refine hK.out _ _ (KS.out _ tY.out) (fun _ => ?_)
      clear hK K
      clear z0 z1 z2 z3 z4 f0 f1 f2 f3 f4 hzl
      refine wpAnyH_ready (rs := [12]) (by kernel_rfl) (by simp) ?_
      refine AllReadyH.cons rfl (fun K hK => ?_) AllReadyH.nil
      go_simp
      refine hK.out _ _ (KS.out _ tY.out) (fun _ => ?_)
      clear hK K
      refine wpAnyH_ready (rs := [13]) (by kernel_rfl) (by simp) ?_
      refine AllReadyH.cons rfl (fun K hK => ?_) AllReadyH.nil
      go_simp
      refine hK.out _ _ (KS.out _ tY.out) (fun _ => ?_)
      clear hK K
      refine wpAnyH_done (by kernel_rfl) ?_ _
      go_wp2
      refine bodyPost_ret (v := .tuple #[tv r, .bool true, .int .i64 x.c.s]) (by simp [results, Try.results21, go_sem, r0, r1, r2, r3, r4]) rfl ⟨by rw [HEV2.out, HR.out], ?_⟩
      exact below_st5 (HB.out.trans (tX.out.mono (by omega))) (by omega) _ _ _ _ _
end Go.Proofs.Ytmcjpibahnlmbaa
