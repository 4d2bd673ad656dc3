/-
  Clauses and routes as the document's: contracts of rule, plain, rows and route, and rows that grow by one. No statement is proved here; no conditions.
-/
import Derived.Test.YtmcjpibahnlmbaaEv
namespace Go.Proofs.Ytmcjpibahnlmbaa
open Go.RowKit Go.Joins

/-! ### A clause in a block that is written -/
theorem cz_at {W : World} {b : Nat} {t : TypeId} {v0 v1 v2 v3 v4 v5 v6 v7 v8 v9 v10 v11 : Value} (h : W.heap[b]? = some (.cells #[v0, v1, v2, v3, v4, v5, v6, v7, v8, v9, v10, v11] t)) :
    W.cell? ⟨b, 0, none⟩ = some v0 ∧ W.cell? ⟨b, 1, none⟩ = some v1 ∧ W.cell? ⟨b, 2, none⟩ = some v2 ∧ W.cell? ⟨b, 3, none⟩ = some v3 ∧ W.cell? ⟨b, 4, none⟩ = some v4 ∧ W.cell? ⟨b, 5, none⟩ = some v5 ∧ W.cell? ⟨b, 6, none⟩ = some v6 ∧ W.cell? ⟨b, 7, none⟩ = some v7 ∧ W.cell? ⟨b, 8, none⟩ = some v8 ∧ W.cell? ⟨b, 9, none⟩ = some v9 ∧ W.cell? ⟨b, 10, none⟩ = some v10 ∧ W.cell? ⟨b, 11, none⟩ = some v11 ∧ W.frozen? ⟨b, 0, none⟩ = false ∧ W.frozen? ⟨b, 1, none⟩ = false ∧ W.frozen? ⟨b, 2, none⟩ = false ∧ W.frozen? ⟨b, 3, none⟩ = false ∧ W.frozen? ⟨b, 4, none⟩ = false ∧ W.frozen? ⟨b, 5, none⟩ = false ∧ W.frozen? ⟨b, 6, none⟩ = false ∧ W.frozen? ⟨b, 7, none⟩ = false ∧ W.frozen? ⟨b, 8, none⟩ = false ∧ W.frozen? ⟨b, 9, none⟩ = false ∧ W.frozen? ⟨b, 10, none⟩ = false ∧ W.frozen? ⟨b, 11, none⟩ = false ∧ b < W.heap.size :=
  ⟨(cell_of_block h 0).trans rfl, (cell_of_block h 1).trans rfl, (cell_of_block h 2).trans rfl, (cell_of_block h 3).trans rfl, (cell_of_block h 4).trans rfl, (cell_of_block h 5).trans rfl, (cell_of_block h 6).trans rfl, (cell_of_block h 7).trans rfl, (cell_of_block h 8).trans rfl, (cell_of_block h 9).trans rfl, (cell_of_block h 10).trans rfl, (cell_of_block h 11).trans rfl, unfrozen_of_block h 0, unfrozen_of_block h 1, unfrozen_of_block h 2, unfrozen_of_block h 3, unfrozen_of_block h 4, unfrozen_of_block h 5, unfrozen_of_block h 6, unfrozen_of_block h 7, unfrozen_of_block h 8, unfrozen_of_block h 9, unfrozen_of_block h 10, unfrozen_of_block h 11, lt_of_block h⟩
abbrev st12 (W : World) (b : Nat) (u0 u1 u2 u3 u4 u5 u6 u7 u8 u9 u10 u11 : Value) : World := ((((((((((((W).setCell ⟨b, 0, none⟩ u0).setCell ⟨b, 1, none⟩ u1).setCell ⟨b, 2, none⟩ u2).setCell ⟨b, 3, none⟩ u3).setCell ⟨b, 4, none⟩ u4).setCell ⟨b, 5, none⟩ u5).setCell ⟨b, 6, none⟩ u6).setCell ⟨b, 7, none⟩ u7).setCell ⟨b, 8, none⟩ u8).setCell ⟨b, 9, none⟩ u9).setCell ⟨b, 10, none⟩ u10).setCell ⟨b, 11, none⟩ u11
theorem cz_set {W : World} {b : Nat} {t : TypeId} {v0 v1 v2 v3 v4 v5 v6 v7 v8 v9 v10 v11 : Value} (h : W.heap[b]? = some (.cells #[v0, v1, v2, v3, v4, v5, v6, v7, v8, v9, v10, v11] t)) (u0 u1 u2 u3 u4 u5 u6 u7 u8 u9 u10 u11 : Value) :
    (st12 W b u0 u1 u2 u3 u4 u5 u6 u7 u8 u9 u10 u11).heap[b]? = some (.cells #[u0, u1, u2, u3, u4, u5, u6, u7, u8, u9, u10, u11] t) := by
  rw [block_setCell (i := 11) (block_setCell (i := 10) (block_setCell (i := 9) (block_setCell (i := 8) (block_setCell (i := 7) (block_setCell (i := 6) (block_setCell (i := 5) (block_setCell (i := 4) (block_setCell (i := 3) (block_setCell (i := 2) (block_setCell (i := 1) (block_setCell (i := 0) h u0) u1) u2) u3) u4) u5) u6) u7) u8) u9) u10) u11]
  simp only [List.setIfInBounds_toArray, List.set_cons_zero, List.set_cons_succ]
theorem cz_get {W : World} {b : Nat} {t : TypeId} {v0 v1 v2 v3 v4 v5 v6 v7 v8 v9 v10 v11 : Value} (h : W.heap[b]? = some (.cells #[v0, v1, v2, v3, v4, v5, v6, v7, v8, v9, v10, v11] t)) (u0 u1 u2 u3 u4 u5 u6 u7 u8 u9 u10 u11 : Value) :
    (st12 W b u0 u1 u2 u3 u4 u5 u6 u7 u8 u9 u10 u11).cell? ⟨b, 0, none⟩ = some u0 ∧ (st12 W b u0 u1 u2 u3 u4 u5 u6 u7 u8 u9 u10 u11).cell? ⟨b, 1, none⟩ = some u1 ∧ (st12 W b u0 u1 u2 u3 u4 u5 u6 u7 u8 u9 u10 u11).cell? ⟨b, 2, none⟩ = some u2 ∧ (st12 W b u0 u1 u2 u3 u4 u5 u6 u7 u8 u9 u10 u11).cell? ⟨b, 3, none⟩ = some u3 ∧ (st12 W b u0 u1 u2 u3 u4 u5 u6 u7 u8 u9 u10 u11).cell? ⟨b, 4, none⟩ = some u4 ∧ (st12 W b u0 u1 u2 u3 u4 u5 u6 u7 u8 u9 u10 u11).cell? ⟨b, 5, none⟩ = some u5 ∧ (st12 W b u0 u1 u2 u3 u4 u5 u6 u7 u8 u9 u10 u11).cell? ⟨b, 6, none⟩ = some u6 ∧ (st12 W b u0 u1 u2 u3 u4 u5 u6 u7 u8 u9 u10 u11).cell? ⟨b, 7, none⟩ = some u7 ∧ (st12 W b u0 u1 u2 u3 u4 u5 u6 u7 u8 u9 u10 u11).cell? ⟨b, 8, none⟩ = some u8 ∧ (st12 W b u0 u1 u2 u3 u4 u5 u6 u7 u8 u9 u10 u11).cell? ⟨b, 9, none⟩ = some u9 ∧ (st12 W b u0 u1 u2 u3 u4 u5 u6 u7 u8 u9 u10 u11).cell? ⟨b, 10, none⟩ = some u10 ∧ (st12 W b u0 u1 u2 u3 u4 u5 u6 u7 u8 u9 u10 u11).cell? ⟨b, 11, none⟩ = some u11 := by
  have k := cz_set h u0 u1 u2 u3 u4 u5 u6 u7 u8 u9 u10 u11
  exact ⟨(cell_of_block k 0).trans rfl, (cell_of_block k 1).trans rfl, (cell_of_block k 2).trans rfl, (cell_of_block k 3).trans rfl, (cell_of_block k 4).trans rfl, (cell_of_block k 5).trans rfl, (cell_of_block k 6).trans rfl, (cell_of_block k 7).trans rfl, (cell_of_block k 8).trans rfl, (cell_of_block k 9).trans rfl, (cell_of_block k 10).trans rfl, (cell_of_block k 11).trans rfl⟩
theorem below_st12 {W W' : World} {B b : Nat} (h : Below B W W') (hb : B ≤ b) (u0 u1 u2 u3 u4 u5 u6 u7 u8 u9 u10 u11 : Value) : Below B W (st12 W' b u0 u1 u2 u3 u4 u5 u6 u7 u8 u9 u10 u11) :=
  ((((((((((((((((((((((((h).setCell (p := ⟨b, 0, none⟩) hb u0)).setCell (p := ⟨b, 1, none⟩) hb u1)).setCell (p := ⟨b, 2, none⟩) hb u2)).setCell (p := ⟨b, 3, none⟩) hb u3)).setCell (p := ⟨b, 4, none⟩) hb u4)).setCell (p := ⟨b, 5, none⟩) hb u5)).setCell (p := ⟨b, 6, none⟩) hb u6)).setCell (p := ⟨b, 7, none⟩) hb u7)).setCell (p := ⟨b, 8, none⟩) hb u8)).setCell (p := ⟨b, 9, none⟩) hb u9)).setCell (p := ⟨b, 10, none⟩) hb u10)).setCell (p := ⟨b, 11, none⟩) hb u11)
theorem size_st12 (W : World) (b : Nat) (u0 u1 u2 u3 u4 u5 u6 u7 u8 u9 u10 u11 : Value) : (st12 W b u0 u1 u2 u3 u4 u5 u6 u7 u8 u9 u10 u11).heap.size = W.heap.size := by simp [st12, World.setCell]
theorem far_st12 {W : World} {b k : Nat} (h : k ≠ b) (u0 u1 u2 u3 u4 u5 u6 u7 u8 u9 u10 u11 : Value) : (st12 W b u0 u1 u2 u3 u4 u5 u6 u7 u8 u9 u10 u11).heap[k]? = W.heap[k]? := by
  unfold st12
  rw [Below.heap_setCell _ _ _ _ h, Below.heap_setCell _ _ _ _ h, Below.heap_setCell _ _ _ _ h, Below.heap_setCell _ _ _ _ h, Below.heap_setCell _ _ _ _ h, Below.heap_setCell _ _ _ _ h, Below.heap_setCell _ _ _ _ h, Below.heap_setCell _ _ _ _ h, Below.heap_setCell _ _ _ _ h, Below.heap_setCell _ _ _ _ h, Below.heap_setCell _ _ _ _ h, Below.heap_setCell _ _ _ _ h]
/-! ### Rows that grow by one -/
theorem info41 : ∃ i, Try.prog.info? 41 = some i ∧ i.zero = some (.agg #[Value.int .i64 0, Value.bool false, Value.slice none 0 0, Value.int .i64 0, Value.int .i64 0, Value.int .i64 0, Value.slice none 0 0, Value.int .i64 0, Value.int .i64 0, Value.int .i64 0, Value.bool false, Value.int .u32 0]) ∧ i.size = 12 ∧ i.bytes = 120 := info_of (by kernel_rfl)
theorem info37 : ∃ i, Try.prog.info? 37 = some i ∧ i.zero = some (.agg #[Value.int .i64 0, Value.bool false, Value.slice none 0 0, Value.int .i64 0, Value.int .i64 0, Value.int .i64 0, Value.slice none 0 0, Value.int .i64 0, Value.int .i64 0, Value.int .i64 0, Value.bool false, Value.int .u32 0]) ∧ i.size = 12 ∧ i.bytes = 120 := info_of (by kernel_rfl)
theorem info27 : ∃ i, Try.prog.info? 27 = some i ∧ i.zero = some (.agg #[Value.int .u32 0, Value.int .i64 0, Value.int .i64 0, Value.int .i64 0, Value.int .u32 0]) ∧ i.size = 5 ∧ i.bytes = 40 := info_of (by kernel_rfl)
theorem info44 : ∃ i, Try.prog.info? 44 = some i ∧ i.zero = some (.agg #[Value.int .u32 0, Value.int .i64 0, Value.int .i64 0, Value.int .i64 0, Value.int .u32 0]) ∧ i.size = 5 ∧ i.bytes = 40 := info_of (by kernel_rfl)
/-- One more. -/
theorem cl_app {S : Nat → Prop} {w : World} {A : Option Addr} {c n : Nat} {L : List Cl} (h : Ob 41 12 S w A c (cflat L)) (hn : L.length = n) (hl : n ≤ 100000) (x : Cl) (n0 : Nat) (hn0 : w.heap.size = n0) :
    ∃ g' c' w', (Builtin.append_ #[31, 31] 31 #[.slice A n c, .slice (some ⟨n0, 0, none⟩) 1 1]).run Try.prog (w.alloc (.cells #[.int .i64 x.c.s, .bool x.c.p, .slice x.LA x.c.L.length x.Lc, .int .i64 x.c.k, .int .i64 x.c.lo, .int .i64 x.c.hi, .slice x.TA x.c.T.length x.Tc, .int .i64 x.c.sc, .int .i64 x.c.sp, .int .i64 x.c.sk, .bool x.c.st, .int .u32 (x.c.tg : Int)] 41)) = .ok (.slice (some ⟨g', 0, none⟩) (n + 1) c') w' ∧ Rg 41 12 w' g' c' (cflat (L ++ [x])) ∧ Kp S w w' ∧ (S g' ∨ n0 < g') := by
  obtain ⟨ti, hi5, hz5, hsz5, hby5⟩ := info41
  have := app_one (P := Try.prog) Try.underlying31 hi5 hz5 hsz5 hby5 rfl (by omega) (by omega) h (n := n) (by rw [cflat_length, hn]) (cc x) rfl (cc_one x) (by omega) n0 hn0
  rw [cflat_append, show cflat [x] = cc x from List.append_nil _]
  exact this
/-- One more. -/
theorem cp_app {S : Nat → Prop} {w : World} {A : Option Addr} {c n : Nat} {L : List Cl} (h : Ob 37 12 S w A c (cflat L)) (hn : L.length = n) (hl : n ≤ 100000) (x : Cl) (n0 : Nat) (hn0 : w.heap.size = n0) :
    ∃ g' c' w', (Builtin.append_ #[22, 22] 22 #[.slice A n c, .slice (some ⟨n0, 0, none⟩) 1 1]).run Try.prog (w.alloc (.cells #[.int .i64 x.c.s, .bool x.c.p, .slice x.LA x.c.L.length x.Lc, .int .i64 x.c.k, .int .i64 x.c.lo, .int .i64 x.c.hi, .slice x.TA x.c.T.length x.Tc, .int .i64 x.c.sc, .int .i64 x.c.sp, .int .i64 x.c.sk, .bool x.c.st, .int .u32 (x.c.tg : Int)] 37)) = .ok (.slice (some ⟨g', 0, none⟩) (n + 1) c') w' ∧ Rg 37 12 w' g' c' (cflat (L ++ [x])) ∧ Kp S w w' ∧ (S g' ∨ n0 < g') := by
  obtain ⟨ti, hi5, hz5, hsz5, hby5⟩ := info37
  have := app_one (P := Try.prog) Try.underlying22 hi5 hz5 hsz5 hby5 rfl (by omega) (by omega) h (n := n) (by rw [cflat_length, hn]) (cc x) rfl (cc_one x) (by omega) n0 hn0
  rw [cflat_append, show cflat [x] = cc x from List.append_nil _]
  exact this
/-- One more. -/
theorem rt_app {S : Nat → Prop} {w : World} {A : Option Addr} {c n : Nat} {L : List Rt} (h : Ob 27 5 S w A c (tflat L)) (hn : L.length = n) (hl : n ≤ 100000) (x : Rt) (n0 : Nat) (hn0 : w.heap.size = n0) :
    ∃ g' c' w', (Builtin.append_ #[60, 60] 60 #[.slice A n c, .slice (some ⟨n0, 0, none⟩) 1 1]).run Try.prog (w.alloc (.cells #[Value.int .u32 (x.A : Int), Value.int .i64 x.N, Value.int .i64 x.k, Value.int .i64 x.c, Value.int .u32 (x.t : Int)] 27)) = .ok (.slice (some ⟨g', 0, none⟩) (n + 1) c') w' ∧ Rg 27 5 w' g' c' (tflat (L ++ [x])) ∧ Kp S w w' ∧ (S g' ∨ n0 < g') := by
  obtain ⟨ti, hi5, hz5, hsz5, hby5⟩ := info27
  have := app_one (P := Try.prog) Try.underlying60 hi5 hz5 hsz5 hby5 rfl (by omega) (by omega) h (n := n) (by rw [tflat_length, hn]) (tc x) rfl (tc_one x) (by omega) n0 hn0
  rw [tflat_append, show tflat [x] = tc x from List.append_nil _]
  exact this
/-- One more. -/
theorem rr_app {S : Nat → Prop} {w : World} {A : Option Addr} {c n : Nat} {L : List Rt} (h : Ob 44 5 S w A c (tflat L)) (hn : L.length = n) (hl : n ≤ 100000) (x : Rt) (n0 : Nat) (hn0 : w.heap.size = n0) :
    ∃ g' c' w', (Builtin.append_ #[61, 61] 61 #[.slice A n c, .slice (some ⟨n0, 0, none⟩) 1 1]).run Try.prog (w.alloc (.cells #[Value.int .u32 (x.A : Int), Value.int .i64 x.N, Value.int .i64 x.k, Value.int .i64 x.c, Value.int .u32 (x.t : Int)] 44)) = .ok (.slice (some ⟨g', 0, none⟩) (n + 1) c') w' ∧ Rg 44 5 w' g' c' (tflat (L ++ [x])) ∧ Kp S w w' ∧ (S g' ∨ n0 < g') := by
  obtain ⟨ti, hi5, hz5, hsz5, hby5⟩ := info44
  have := app_one (P := Try.prog) Try.underlying61 hi5 hz5 hsz5 hby5 rfl (by omega) (by omega) h (n := n) (by rw [tflat_length, hn]) (tc x) rfl (tc_one x) (by omega) n0 hn0
  rw [tflat_append, show tflat [x] = tc x from List.append_nil _]
  exact this
/-- Its own block alone. -/
theorem Ob.own {e : TypeId} {sz : Nat} {S : Nat → Prop} {w : World} {A : Option Addr} {c : Nat} {cs : List Value} (h : Ob e sz S w A c cs) : Ob e sz (fun j => A = some ⟨j, 0, none⟩ ∧ S j) w A c cs := by
  rcases h with q | ⟨g, h1, h2, h3⟩
  · exact .inl q
  · exact .inr ⟨g, ⟨h2, h1⟩, h2, h3⟩
theorem Ob.rdS {e : TypeId} {sz : Nat} {S : Nat → Prop} {w : World} {A : Option Addr} {c : Nat} {cs : List Value} (h : Ob e sz S w A c cs) : Rd S w A cs := by
  rcases h with ⟨_, _, rfl⟩ | ⟨g, h1, rfl, h3⟩
  · exact Rd.nil _
  · exact h3.rd.more fun j hj _ => by rw [hj]; exact h1
theorem Ob.lt {e : TypeId} {sz : Nat} {S : Nat → Prop} {w : World} {A : Option Addr} {c : Nat} {cs : List Value} (h : Ob e sz S w A c cs) {j : Nat} (hj : A = some ⟨j, 0, none⟩) : j < w.heap.size := by
  rcases h with ⟨q, _, _⟩ | ⟨g, h1, h2, h3⟩
  · rw [q] at hj; cases hj
  · rw [h2] at hj
    injection hj with hj
    injection hj with hj
    rw [← hj]; exact h3.lt
/-! ### As the document's -/
theorem rule_any (x : Ru) (w : World) : Calls Try.prog 34 #[rv x] w fun e w' => e = .returned (rv x) ∧ Below w.heap.size w w' := by
  have hb := below_alloc2 w (.cells #[.int .i64 x.s, .bool x.p, .int .u32 (x.A : Int), .int .i64 x.N, .int .i64 x.g, .int .i64 x.l] 75) (.cells #[.int .i64 x.s, .bool x.p, .int .u32 (x.A : Int), .int .i64 x.N, .int .i64 x.g, .int .i64 x.l] 73)
  go_enter Try.func34, Try.ntmps34
  go_wp2
  refine bodyPost_ret (v := rv x) (by simp [results, Try.results34, go_sem]) rfl ⟨rfl, ?_⟩
  exact hb
theorem route_any (x : Rt) (w : World) : Calls Try.prog 16 #[tv x] w fun e w' => e = .returned (tv x) ∧ Below w.heap.size w w' := by
  have hb := below_alloc2 w (.cells #[Value.int .u32 (x.A : Int), Value.int .i64 x.N, Value.int .i64 x.k, Value.int .i64 x.c, Value.int .u32 (x.t : Int)] 27) (.cells #[Value.int .u32 (x.A : Int), Value.int .i64 x.N, Value.int .i64 x.k, Value.int .i64 x.c, Value.int .u32 (x.t : Int)] 44)
  go_enter Try.func16, Try.ntmps16
  go_wp2
  refine bodyPost_ret (v := tv x) (by simp [results, Try.results16, go_sem]) rfl ⟨rfl, ?_⟩
  exact hb
/-- A clause as the document's comes back. -/
def Pln (w : World) (x : Cl) (e : Ending) (w' : World) : Prop := ∃ y : Cl, e = .returned (cv y) ∧ y.c = x.c ∧ y.TA = x.TA ∧ Rd (w.heap.size ≤ ·) w' y.LA (rflat y.c.L) ∧ Below w.heap.size w w'
set_option maxRecDepth 100000 in
set_option maxHeartbeats 1000000 in
theorem plain_any (x : Cl) (w : World) (hx : Cx w x) : Calls Try.prog 14 #[cv x] w fun e w' => Pln w x e w' := by
  obtain ⟨W0, hW0⟩ : ∃ W0, w.alloc (.cells #[.int .i64 x.c.s, .bool x.c.p, .slice x.LA x.c.L.length x.Lc, .int .i64 x.c.k, .int .i64 x.c.lo, .int .i64 x.c.hi, .slice x.TA x.c.T.length x.Tc, .int .i64 x.c.sc, .int .i64 x.c.sp, .int .i64 x.c.sk, .bool x.c.st, .int .u32 (x.c.tg : Int)] 37) = W0 := ⟨_, rfl⟩
  have s0 : W0.heap.size = w.heap.size + 1 := by rw [← hW0]; simp
  obtain ⟨W1, hW1⟩ : ∃ W1, W0.alloc (.cells #[Value.int .i64 0, Value.bool false, Value.slice none 0 0, Value.int .i64 0, Value.int .i64 0, Value.int .i64 0, Value.slice none 0 0, Value.int .i64 0, Value.int .i64 0, Value.int .i64 0, Value.bool false, Value.int .u32 0] 41) = W1 := ⟨_, rfl⟩
  have s1 : W1.heap.size = w.heap.size + 2 := by rw [← hW1]; simp [s0]
  obtain ⟨W2, hW2⟩ : ∃ W2, W1.alloc (.cells #[] 73) = W2 := ⟨_, rfl⟩
  have b0 : Below w.heap.size w W0 := by rw [← hW0]; exact below_alloc1 _ _
  have b1 : Below W0.heap.size W0 W1 := by rw [← hW1]; exact below_alloc1 _ _
  have B2 : Hid (Below W1.heap.size W1 W2) := Lib.hid (by rw [← hW2]; exact below_alloc1 _ _)
  have O2 : Hid (Ob 73 6 (W1.heap.size ≤ ·) W2 (some ⟨W1.heap.size, 0, none⟩) 0 []) := Lib.hid (by rw [← hW2]; exact Ob.lit0 W1 73 6)
  have HB : Hid (Below w.heap.size w W1) := Lib.hid (b0.trans (b1.mono (by omega)))
  have KX : Hid (∀ V, Below W1.heap.size W1 V → V.cell? ⟨w.heap.size, 0, none⟩ = some (.int .i64 x.c.s) ∧ V.cell? ⟨w.heap.size, 1, none⟩ = some (.bool x.c.p) ∧ V.cell? ⟨w.heap.size, 2, none⟩ = some (.slice x.LA x.c.L.length x.Lc) ∧ V.cell? ⟨w.heap.size, 3, none⟩ = some (.int .i64 x.c.k) ∧ V.cell? ⟨w.heap.size, 4, none⟩ = some (.int .i64 x.c.lo) ∧ V.cell? ⟨w.heap.size, 5, none⟩ = some (.int .i64 x.c.hi) ∧ V.cell? ⟨w.heap.size, 6, none⟩ = some (.slice x.TA x.c.T.length x.Tc) ∧ V.cell? ⟨w.heap.size, 7, none⟩ = some (.int .i64 x.c.sc) ∧ V.cell? ⟨w.heap.size, 8, none⟩ = some (.int .i64 x.c.sp) ∧ V.cell? ⟨w.heap.size, 9, none⟩ = some (.int .i64 x.c.sk) ∧ V.cell? ⟨w.heap.size, 10, none⟩ = some (.bool x.c.st) ∧ V.cell? ⟨w.heap.size, 11, none⟩ = some (.int .u32 (x.c.tg : Int))) :=
    Lib.hid (fun V hV => cb_new hW0 (b1.trans (hV.mono b1.size)))
  have KZ : Hid (∀ V, Below W1.heap.size W1 V → V.heap[w.heap.size + 1]? = some (.cells #[Value.int .i64 0, Value.bool false, Value.slice none 0 0, Value.int .i64 0, Value.int .i64 0, Value.int .i64 0, Value.slice none 0 0, Value.int .i64 0, Value.int .i64 0, Value.int .i64 0, Value.bool false, Value.int .u32 0] 41)) :=
    Lib.hid (fun V hV => by rw [hV.block _ (by omega), ← hW1]; exact alloc_at _ _ _ (by omega))
  have HX := Lib.hid hx
  have hll := hx.nL
  clear b0 b1 hx
  obtain ⟨ln, hln⟩ : ∃ ln, x.c.L.length = ln := ⟨_, rfl⟩
  rw [hln] at hll
  have HLN := Lib.hid hln
  have KX2 : Hid (∀ V, Below W1.heap.size W1 V → V.cell? ⟨w.heap.size, 2, none⟩ = some (.slice x.LA ln x.Lc)) := Lib.hid (fun V hV => by
    obtain ⟨_, _, h, _⟩ := KX.out V hV
    rw [hln] at h
    exact h)
  clear hln
  rw [s1] at O2
  go_enter Try.func14, Try.ntmps14
  go_upto_region 3 with fail
  clear hW0 hW1 hW2
  go_loopg [3, 4] ln (fun gf v3 v4 wx => ∃ (k : Nat) (A' : Option Addr) (c' : Nat), v3 = .slice A' k c' ∧ v4 = .int .i64 (k : Int) ∧ Hid (gf + k = ln) ∧ Hid (Ob 73 6 (w.heap.size + 2 ≤ ·) wx A' c' (rflat (x.c.L.take k))) ∧ Hid (Below W1.heap.size W1 wx))
  case atStart => exact ⟨0, _, _, rfl, rfl, Lib.hid (by omega), O2, B2⟩
  case round =>
    obtain ⟨k, A', c', rfl, rfl, hk, ho, hb⟩ := hrel
    have hk' := hk.out
    clear O2 B2
    have k2 := KX2.out _ hb.out
    cases gk with
    | zero =>
      have e1 : k = ln := by omega
      have lt0 : decide ((k : Int) < (ln : Int)) = false := by simp; omega
      have lt1 : decide (k < ln) = false := by simp; omega
      have h2 := ho.out
      rw [e1, ← HLN.out, List.take_length] at h2
      have HO := Lib.hid h2
      obtain ⟨k0, k1, -, k3, k4, k5, k6, k7, k8, k9, k10, k11⟩ := KX.out _ hb.out
      have kz := KZ.out _ hb.out
      obtain ⟨z0, z1, z2, z3, z4, z5, z6, z7, z8, z9, z10, z11, f0, f1, f2, f3, f4, f5, f6, f7, f8, f9, f10, f11, hzl⟩ := cz_at kz
      have rr := cz_get kz (.int .i64 x.c.s) (.bool x.c.p) (.slice A' k c') (.int .i64 x.c.k) (.int .i64 x.c.lo) (.int .i64 x.c.hi) (.slice x.TA x.c.T.length x.Tc) (.int .i64 x.c.sc) (.int .i64 x.c.sp) (.int .i64 x.c.sk) (.bool x.c.st) (.int .u32 (x.c.tg : Int))
      obtain ⟨r0, r1, r2, r3, r4, r5, r6, r7, r8, r9, r10, r11⟩ := rr
      have HK : Hid (k = x.c.L.length) := Lib.hid (by rw [HLN.out]; exact e1)
      clear h2 e1
      go_wp2
      refine bodyPost_ret (v := .agg #[.int .i64 x.c.s, .bool x.c.p, .slice A' k c', .int .i64 x.c.k, .int .i64 x.c.lo, .int .i64 x.c.hi, .slice x.TA x.c.T.length x.Tc, .int .i64 x.c.sc, .int .i64 x.c.sp, .int .i64 x.c.sk, .bool x.c.st, .int .u32 (x.c.tg : Int)]) (by simp [results, Try.results14, go_sem, r0, r1, r2, r3, r4, r5, r6, r7, r8, r9, r10, r11]) rfl ?_
      have bfin := below_st12 (HB.out.trans (hb.out.mono (by omega))) (show w.heap.size ≤ w.heap.size + 1 by omega) (.int .i64 x.c.s) (.bool x.c.p) (.slice A' k c') (.int .i64 x.c.k) (.int .i64 x.c.lo) (.int .i64 x.c.hi) (.slice x.TA x.c.T.length x.Tc) (.int .i64 x.c.sc) (.int .i64 x.c.sp) (.int .i64 x.c.sk) (.bool x.c.st) (.int .u32 (x.c.tg : Int))
      refine ⟨⟨x.c, A', c', x.TA, x.Tc⟩, by rw [HK.out], rfl, rfl, ?_, bfin⟩
      have hob : Ob 73 6 (w.heap.size + 2 ≤ ·) _ A' c' (rflat x.c.L) := HO.out.keep (w' := st12 wr (w.heap.size + 1) (.int .i64 x.c.s) (.bool x.c.p) (.slice A' k c') (.int .i64 x.c.k) (.int .i64 x.c.lo) (.int .i64 x.c.hi) (.slice x.TA x.c.T.length x.Tc) (.int .i64 x.c.sc) (.int .i64 x.c.sp) (.int .i64 x.c.sk) (.bool x.c.st) (.int .u32 (x.c.tg : Int))) (fun j hj _ => far_st12 (by omega) _ _ _ _ _ _ _ _ _ _ _ _)
      exact hob.rdS.more fun j hj _ => by omega
    | succ gf =>
      have hkl : k < x.c.L.length := by rw [HLN.out]; omega
      have lt0 : (k : Int) < (ln : Int) := by omega
      have hw1 : (k : Int) + 1 ≤ 10000 := by omega
      obtain ⟨b, off, hA, _, e0, e1, e2, e3, e4, e5⟩ := (HX.out.L.step (HB.out.trans (hb.out.mono (by omega)))).at hkl
      have hst := take_next hkl
      have hlk : (x.c.L.take k).length = k := by simp; omega
      obtain ⟨y, hy⟩ : ∃ y, gr x.c.L k = y := ⟨_, rfl⟩
      rw [hy] at e0 e1 e2 e3 e4 e5 hst
      rw [hA] at k2
      have HST := Lib.hid hst
      have HLK := Lib.hid hlk
      clear hy hst hkl hlk hA
      go_wp2_with fail
      refine (rule_any y _).mono ?_
      rintro e V1 ⟨rfl, hb1⟩
      have HB1 : Hid (Below W1.heap.size W1 V1) := Lib.hid (hb.out.trans (hb1.mono hb.out.size))
      have O1 := Lib.hid (ho.out.below hb1)
      clear hb1 e0 e1 e2 e3 e4 e5 hb ho k2
      obtain ⟨m, hm⟩ : ∃ m, V1.heap.size = m := ⟨_, rfl⟩
      have hsz := HB1.out.size
      obtain ⟨g', c2, W3, r1, r2, r3, r4⟩ := ru_app O1.out HLK.out (by omega) y m hm
      have HO : Hid (Ob 73 6 (w.heap.size + 2 ≤ ·) W3 (some ⟨g', 0, none⟩) c2 (rflat (x.c.L.take (k + 1)))) := Lib.hid (by rw [HST.out]; exact Ob.next r2 r4 (by omega))
      have HB3 : Hid (Below W1.heap.size W1 W3) := Lib.hid (HB1.out.trans (r3.below (fun j h => by omega) (by omega)))
      clear r2 r3 r4 O1 HB1 HST
      go_wp2_with (at_builtin; refine wpList_runb _ rfl (.tmp 13) (.tmp 20) 39 rfl rfl rfl r1 ?_)
      go_wp2
      go_roundg gf
      case measure => omega
      case rel => exact ⟨k + 1, _, c2, by go_num, by go_num, Lib.hid (by omega), HO, HB3⟩
/-- Its rows are read, in blocks of their own. -/
structure Cy (P Q : Nat → Prop) (w : World) (x : Cl) : Prop where
  L : Rd P w x.LA (rflat x.c.L)
  T : Rd Q w x.TA (nts x.c.T)
  wf : ∀ r ∈ x.c.L, r.A < 4294967296
  nL : x.c.L.length ≤ 20
  nT : x.c.T.length ≤ 20
theorem Cy.cx {P Q : Nat → Prop} {w : World} {x : Cl} (h : Cy P Q w x) : Cx w x := ⟨h.L.more fun _ _ _ => trivial, h.T.more fun _ _ _ => trivial, h.wf, h.nL, h.nT⟩
theorem Cy.keep {P Q : Nat → Prop} {w w' : World} {x : Cl} (h : Cy P Q w x) (k : Below w.heap.size w w') : Cy P Q w' x := ⟨h.L.keep k.size fun j _ hj => k.block j hj, h.T.keep k.size fun j _ hj => k.block j hj, h.wf, h.nL, h.nT⟩
/-- A map as the document's comes back. -/
def Rws (w : World) (l : List Cl) (e : Ending) (w' : World) : Prop := ∃ A' c' l', e = .returned (.slice A' l'.length c') ∧ cps l' = cps l ∧ Cr w' A' l' ∧ Below w.heap.size w w'
theorem take_nextc {l : List Cl} {k : Nat} (h : k < l.length) : cps (l.take (k + 1)) = cps (l.take k) ++ [(gc l k).c] := by rw [List.take_succ_eq_append_getElem h, gc_eq h, cps, List.map_append]; rfl
/-- The row grows by one: what is read elsewhere stays. -/
theorem cy_grow {V W3 : World} {A : Option Addr} {g B : Nat} {x : Cl} (_hB : B ≤ V.heap.size) (h : Cy (fun j => ¬ A = some ⟨j, 0, none⟩) (· < B) V x) (k : Kp (fun j => A = some ⟨j, 0, none⟩ ∧ B ≤ j) V W3) (hg : (A = some ⟨g, 0, none⟩ ∧ B ≤ g) ∨ V.heap.size < g) :
    Cy (fun j => ¬ some (⟨g, 0, none⟩ : Addr) = some ⟨j, 0, none⟩) (· < B) W3 x := by
  refine ⟨?_, ?_, h.wf, h.nL, h.nT⟩
  · have h1 : Rd (fun j => ¬ A = some ⟨j, 0, none⟩ ∧ ¬ some (⟨g, 0, none⟩ : Addr) = some ⟨j, 0, none⟩) V x.LA (rflat x.c.L) := h.L.more fun j hj hlt => ⟨hj, fun e => by
      injection e with e
      injection e with e
      rcases hg with ⟨q, _⟩ | q
      · exact hj (by rw [← e]; exact q)
      · omega⟩
    have h2 := h1.keep k.size fun j hj hlt => k.block j hlt fun q => hj.1 q.1
    exact h2.more fun j hj _ => hj.2
  · exact h.T.keep k.size fun j hj hlt => k.block j hlt fun q => by omega
set_option maxRecDepth 100000 in
set_option maxHeartbeats 1000000 in
theorem rows_any (A0 : Option Addr) (c : Nat) (l : List Cl) (w : World) (hl : Cr w A0 l) (hll : l.length ≤ 10000) :
    Calls Try.prog 11 #[.slice A0 l.length c] w fun e w' => Rws w l e w' := by
  have HL := Lib.hid hl
  obtain ⟨ln, hln⟩ : ∃ ln, l.length = ln := ⟨_, rfl⟩
  rw [hln] at hll ⊢
  have HLN := Lib.hid hln
  obtain ⟨W0, hW0⟩ : ∃ W0, w.alloc (.cells #[] 41) = W0 := ⟨_, rfl⟩
  have O0 : Hid (Ob 41 12 (w.heap.size ≤ ·) W0 (some ⟨w.heap.size, 0, none⟩) 0 []) := Lib.hid (by rw [← hW0]; exact Ob.lit0 w 41 12)
  have B0 : Hid (Below w.heap.size w W0) := Lib.hid (by rw [← hW0]; exact below_alloc1 _ _)
  clear hl hln
  go_enter Try.func11, Try.ntmps11
  go_wp2_with fail
  clear hW0
  go_loopg [3, 4] ln (fun gf v3 v4 wx => ∃ (k : Nat) (A' : Option Addr) (c' : Nat) (l' : List Cl), v3 = .slice A' k c' ∧ v4 = .int .i64 (k : Int) ∧ Hid (gf + k = ln) ∧ Hid (Ob 41 12 (w.heap.size ≤ ·) wx A' c' (cflat l')) ∧ Hid (cps l' = cps (l.take k)) ∧ Hid (∀ y ∈ l', Cy (fun j => ¬ A' = some ⟨j, 0, none⟩) (· < w.heap.size) wx y) ∧ Hid (Below w.heap.size w wx))
  case atStart => exact ⟨0, _, _, [], rfl, rfl, Lib.hid (by omega), O0, Lib.hid rfl, Lib.hid (fun y hy => by cases hy), B0⟩
  case round =>
    obtain ⟨k, A', c', l', rfl, rfl, hk, ho, hcp, hcx, hb⟩ := hrel
    have hk' := hk.out
    clear O0 B0
    have hlk : l'.length = k := by
      have := congrArg List.length hcp.out
      rw [cps_len, cps_len, List.length_take, HLN.out] at this
      omega
    have HLK := Lib.hid hlk
    clear hlk
    cases gk with
    | zero =>
      have e1 : k = ln := by omega
      have lt0 : decide ((k : Int) < (ln : Int)) = false := by simp; omega
      have lt1 : decide (k < ln) = false := by simp; omega
      have H2 : Hid (cps l' = cps l) := Lib.hid (by rw [hcp.out, e1, ← HLN.out, List.take_length])
      clear e1
      go_wp2
      go_ret
      exact ⟨A', c', l', by rw [HLK.out]; rfl, H2.out, ⟨ho.out.rd, fun y hy => (hcx.out y hy).cx⟩, hb.out⟩
    | succ gf =>
      have hkl : k < l.length := by rw [HLN.out]; omega
      have lt0 : (k : Int) < (ln : Int) := by omega
      have hw1 : (k : Int) + 1 ≤ 10000 := by omega
      obtain ⟨b, off, hA, _, hx, e0, e1, e2, e3, e4, e5, e6, e7, e8, e9, e10, e11⟩ := (HL.out.step hb.out).at hkl
      have hxw : Cx w (gc l k) := HL.out.cx _ (by rw [gc_eq hkl]; exact List.getElem_mem _)
      have hst := take_nextc hkl
      obtain ⟨x, hxe⟩ : ∃ x, gc l k = x := ⟨_, rfl⟩
      rw [hxe] at e0 e1 e2 e3 e4 e5 e6 e7 e8 e9 e10 e11 hst hx hxw
      subst hA
      have HST := Lib.hid hst
      have HXW := Lib.hid hxw
      have cpl := plain_any x wr hx
      clear hxe hst hkl hx hxw
      go_wp2_with fail
      refine cpl.mono ?_
      rintro e V1 ⟨y, rfl, hyc, hyt, hyl, hb1⟩
      have HB1 : Hid (Below w.heap.size w V1) := Lib.hid (hb.out.trans (hb1.mono hb.out.size))
      have O1 := Lib.hid (ho.out.below hb1).own
      have HCX : Hid (∀ z ∈ l' ++ [y], Cy (fun j => ¬ A' = some ⟨j, 0, none⟩) (· < w.heap.size) V1 z) := Lib.hid (fun z hz => by
        rcases List.mem_append.1 hz with q | q
        · exact (hcx.out z q).keep hb1
        · rw [List.mem_singleton.1 q]
          refine ⟨hyl.more fun j hj _ q => by have := ho.out.lt q; omega, ?_, by rw [hyc]; exact HXW.out.wf, by rw [hyc]; exact HXW.out.nL, by rw [hyc]; exact HXW.out.nT⟩
          rw [hyt, hyc]
          have h1 : Rd (· < w.heap.size) w x.TA (nts x.c.T) := Rd.more HXW.out.T fun _ _ h => h
          exact h1.keep HB1.out.size fun j hj _ => HB1.out.block j hj)
      have HCP : Hid (cps (l' ++ [y]) = cps (l.take (k + 1))) := Lib.hid (by rw [HST.out, ← hcp.out, ← hyc]; simp [cps])
      clear hb1 e0 e1 e2 e3 e4 e5 e6 e7 e8 e9 e10 e11 hb ho hcx hcp hyc hyt hyl cpl
      obtain ⟨m, hm⟩ : ∃ m, V1.heap.size = m := ⟨_, rfl⟩
      have hsz := HB1.out.size
      obtain ⟨g', c2, W3, r1, r2, r3, r4⟩ := cl_app O1.out HLK.out (by omega) y m hm
      have HO : Hid (Ob 41 12 (w.heap.size ≤ ·) W3 (some ⟨g', 0, none⟩) c2 (cflat (l' ++ [y]))) := Lib.hid (Ob.next r2 (r4.imp (fun q => q.2) id) (by omega))
      have HB3 : Hid (Below w.heap.size w W3) := Lib.hid (HB1.out.trans (r3.below (fun _ h => h.2) (by omega)))
      have HC3 : Hid (∀ z ∈ l' ++ [y], Cy (fun j => ¬ some (⟨g', 0, none⟩ : Addr) = some ⟨j, 0, none⟩) (· < w.heap.size) W3 z) := Lib.hid (fun z hz => cy_grow (by omega) (HCX.out z hz) r3 (by rw [hm]; exact r4))
      clear r2 r3 r4 O1 HB1 HST HCX HXW
      go_wp2_with (at_builtin; refine wpList_runb _ rfl (.tmp 12) (.tmp 18) 31 rfl rfl rfl r1 ?_)
      go_wp2
      go_roundg gf
      case measure => omega
      case rel => exact ⟨k + 1, _, c2, l' ++ [y], by go_num, by go_num, Lib.hid (by omega), HO, HCP, HC3, HB3⟩
end Go.Proofs.Ytmcjpibahnlmbaa
