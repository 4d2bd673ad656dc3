/-
  Descriptions as plain numbers; contracts of dbd.flags, dbd.PutDesc and of the law's plain. No statement is proved here; no conditions.
-/
import Derived.Test.YtefbpaebimagaaaAk
namespace Go.Proofs.Ytefbpaebimagaaa
open Go.RowKit Go.Joins

/-- A description, its headers left out. -/
structure Dc where
  (m o : Int)
  (i r s : Bool)
  q : Int
/-! ### A block of 7 cells -/
theorem kb7_new {w W0 W : World} {t : TypeId} {v0 v1 v2 v3 v4 v5 v6 : Value} (h0 : w.alloc (.cells #[v0, v1, v2, v3, v4, v5, v6] t) = W0) (h : Below W0.heap.size W0 W) :
    W.cell? ⟨w.heap.size, 0, none⟩ = some v0 ∧ W.cell? ⟨w.heap.size, 1, none⟩ = some v1 ∧ W.cell? ⟨w.heap.size, 2, none⟩ = some v2 ∧ W.cell? ⟨w.heap.size, 3, none⟩ = some v3 ∧ W.cell? ⟨w.heap.size, 4, none⟩ = some v4 ∧ W.cell? ⟨w.heap.size, 5, none⟩ = some v5 ∧ W.cell? ⟨w.heap.size, 6, none⟩ = some v6 := by
  subst h0
  have k := (h.block w.heap.size (by simp)).trans (alloc_at _ _ _ rfl)
  exact ⟨(cell_of_block k 0).trans rfl, (cell_of_block k 1).trans rfl, (cell_of_block k 2).trans rfl, (cell_of_block k 3).trans rfl, (cell_of_block k 4).trans rfl, (cell_of_block k 5).trans rfl, (cell_of_block k 6).trans rfl⟩
theorem kz7_at {W : World} {b : Nat} {t : TypeId} {v0 v1 v2 v3 v4 v5 v6 : Value} (h : W.heap[b]? = some (.cells #[v0, v1, v2, v3, v4, v5, v6] t)) :
    W.cell? ⟨b, 0, none⟩ = some v0 ∧ W.cell? ⟨b, 1, none⟩ = some v1 ∧ W.cell? ⟨b, 2, none⟩ = some v2 ∧ W.cell? ⟨b, 3, none⟩ = some v3 ∧ W.cell? ⟨b, 4, none⟩ = some v4 ∧ W.cell? ⟨b, 5, none⟩ = some v5 ∧ W.cell? ⟨b, 6, none⟩ = some v6 ∧ W.frozen? ⟨b, 0, none⟩ = false ∧ W.frozen? ⟨b, 1, none⟩ = false ∧ W.frozen? ⟨b, 2, none⟩ = false ∧ W.frozen? ⟨b, 3, none⟩ = false ∧ W.frozen? ⟨b, 4, none⟩ = false ∧ W.frozen? ⟨b, 5, none⟩ = false ∧ W.frozen? ⟨b, 6, none⟩ = false ∧ b < W.heap.size :=
  ⟨(cell_of_block h 0).trans rfl, (cell_of_block h 1).trans rfl, (cell_of_block h 2).trans rfl, (cell_of_block h 3).trans rfl, (cell_of_block h 4).trans rfl, (cell_of_block h 5).trans rfl, (cell_of_block h 6).trans rfl, unfrozen_of_block h 0, unfrozen_of_block h 1, unfrozen_of_block h 2, unfrozen_of_block h 3, unfrozen_of_block h 4, unfrozen_of_block h 5, unfrozen_of_block h 6, lt_of_block h⟩
abbrev st7 (W : World) (b : Nat) (u0 u1 u2 u3 u4 u5 u6 : Value) : World := (((((((W).setCell ⟨b, 0, none⟩ u0).setCell ⟨b, 1, none⟩ u1).setCell ⟨b, 2, none⟩ u2).setCell ⟨b, 3, none⟩ u3).setCell ⟨b, 4, none⟩ u4).setCell ⟨b, 5, none⟩ u5).setCell ⟨b, 6, none⟩ u6
theorem kz7_set {W : World} {b : Nat} {t : TypeId} {v0 v1 v2 v3 v4 v5 v6 : Value} (h : W.heap[b]? = some (.cells #[v0, v1, v2, v3, v4, v5, v6] t)) (u0 u1 u2 u3 u4 u5 u6 : Value) :
    (st7 W b u0 u1 u2 u3 u4 u5 u6).heap[b]? = some (.cells #[u0, u1, u2, u3, u4, u5, u6] t) := by
  rw [block_setCell (i := 6) (block_setCell (i := 5) (block_setCell (i := 4) (block_setCell (i := 3) (block_setCell (i := 2) (block_setCell (i := 1) (block_setCell (i := 0) h u0) u1) u2) u3) u4) u5) u6]
  simp only [List.setIfInBounds_toArray, List.set_cons_zero, List.set_cons_succ]
theorem kz7_get {W : World} {b : Nat} {t : TypeId} {v0 v1 v2 v3 v4 v5 v6 : Value} (h : W.heap[b]? = some (.cells #[v0, v1, v2, v3, v4, v5, v6] t)) (u0 u1 u2 u3 u4 u5 u6 : Value) :
    (st7 W b u0 u1 u2 u3 u4 u5 u6).cell? ⟨b, 0, none⟩ = some u0 ∧ (st7 W b u0 u1 u2 u3 u4 u5 u6).cell? ⟨b, 1, none⟩ = some u1 ∧ (st7 W b u0 u1 u2 u3 u4 u5 u6).cell? ⟨b, 2, none⟩ = some u2 ∧ (st7 W b u0 u1 u2 u3 u4 u5 u6).cell? ⟨b, 3, none⟩ = some u3 ∧ (st7 W b u0 u1 u2 u3 u4 u5 u6).cell? ⟨b, 4, none⟩ = some u4 ∧ (st7 W b u0 u1 u2 u3 u4 u5 u6).cell? ⟨b, 5, none⟩ = some u5 ∧ (st7 W b u0 u1 u2 u3 u4 u5 u6).cell? ⟨b, 6, none⟩ = some u6 := by
  have k := kz7_set h u0 u1 u2 u3 u4 u5 u6
  exact ⟨(cell_of_block k 0).trans rfl, (cell_of_block k 1).trans rfl, (cell_of_block k 2).trans rfl, (cell_of_block k 3).trans rfl, (cell_of_block k 4).trans rfl, (cell_of_block k 5).trans rfl, (cell_of_block k 6).trans rfl⟩
theorem below_st7 {W W' : World} {B b : Nat} (h : Below B W W') (hb : B ≤ b) (u0 u1 u2 u3 u4 u5 u6 : Value) : Below B W (st7 W' b u0 u1 u2 u3 u4 u5 u6) :=
  (((((((h).setCell (p := ⟨b, 0, none⟩) hb u0).setCell (p := ⟨b, 1, none⟩) hb u1).setCell (p := ⟨b, 2, none⟩) hb u2).setCell (p := ⟨b, 3, none⟩) hb u3).setCell (p := ⟨b, 4, none⟩) hb u4).setCell (p := ⟨b, 5, none⟩) hb u5).setCell (p := ⟨b, 6, none⟩) hb u6
theorem size_st7 (W : World) (b : Nat) (u0 u1 u2 u3 u4 u5 u6 : Value) : (st7 W b u0 u1 u2 u3 u4 u5 u6).heap.size = W.heap.size := by simp [st7, World.setCell]
theorem far_st7 {W : World} {b k : Nat} (h : k ≠ b) (u0 u1 u2 u3 u4 u5 u6 : Value) : (st7 W b u0 u1 u2 u3 u4 u5 u6).heap[k]? = W.heap[k]? := by
  unfold st7
  rw [Below.heap_setCell _ _ _ _ h, Below.heap_setCell _ _ _ _ h, Below.heap_setCell _ _ _ _ h, Below.heap_setCell _ _ _ _ h, Below.heap_setCell _ _ _ _ h, Below.heap_setCell _ _ _ _ h, Below.heap_setCell _ _ _ _ h]
theorem Own.far7 {k : IntKind} {e : TypeId} {W : World} {base c b : Nat} {A : Option Addr} {l : List Int} (h : Own k e W base A c l) (hb : b < base) (u0 u1 u2 u3 u4 u5 u6 : Value) : Own k e (st7 W b u0 u1 u2 u3 u4 u5 u6) base A c l :=
  h.kept fun g hg _ => far_st7 (by omega) _ _ _ _ _ _ _
theorem cell_st7 {W : World} {b : Nat} {p : Addr} (h : p.block ≠ b) (u0 u1 u2 u3 u4 u5 u6 : Value) : (st7 W b u0 u1 u2 u3 u4 u5 u6).cell? p = W.cell? p := World.cell?_of_block (far_st7 h u0 u1 u2 u3 u4 u5 u6)
/-- Its flags as a number. -/
def fgs (x : Dc) : Int := (if x.i = true then 4 else 0) + ((if x.r = true then 2 else 0) + (if x.s = true then 1 else 0))
theorem fgs_bd (x : Dc) : 0 ≤ fgs x ∧ fgs x < 8 := by
  unfold fgs
  split <;> split <;> split <;> omega
def dhd (x : Dc) : List Int := be x.m 2 ++ (be x.o 1 ++ (be (fgs x) 1 ++ be x.q 4))
theorem dhd_length (x : Dc) : (dhd x).length = 8 := by simp [dhd, be_length]
theorem dhd_byt (x : Dc) : Byt (dhd x) := (be_byt _ _).append ((be_byt _ _).append ((be_byt _ _).append (be_byt _ _)))
/-- Why a description with these headers is not written; 0 if it is; as what. -/
def pdE (x : Dc) (L : List Hd) : Int := if (win x.m 0 65535 && win x.o 0 255) = true then phE L 0 60 else 1
def pdL (x : Dc) (L : List Hd) : List Int := if pdE x L = 0 then dhd x ++ phL L 0 60 else []
theorem pdE_no {x : Dc} {L : List Hd} (h : (win x.m 0 65535 && win x.o 0 255) = false) : pdE x L = 1 ∧ pdL x L = [] := by
  have e : pdE x L = 1 := by rw [pdE, if_neg (by rw [h]; decide)]
  exact ⟨e, by rw [pdL, e]; rfl⟩
theorem pdE_eq {x : Dc} {L : List Hd} (h1 : win x.m 0 65535 = true) (h2 : win x.o 0 255 = true) : pdE x L = phE L 0 60 ∧ pdL x L = if phE L 0 60 = 0 then dhd x ++ phL L 0 60 else [] := by
  have e : pdE x L = phE L 0 60 := by rw [pdE, h1, h2]; rfl
  exact ⟨e, by rw [pdL, e]⟩
set_option maxRecDepth 100000 in
set_option maxHeartbeats 4000000 in
theorem flags_any (x : Dc) (A : Option Addr) (n c : Nat) (w : World) : Calls Try.prog 37 #[.agg #[.int .i64 x.m, .int .i64 x.o, .bool x.i, .bool x.r, .bool x.s, .int .u32 x.q, .slice A n c]] w fun e w' => e = .returned (.int .u32 (fgs x)) ∧ Below w.heap.size w w' := by
  obtain ⟨m, o, i, r, s, q⟩ := x
  obtain ⟨W0, hW0⟩ : ∃ V, w.alloc (.cells #[.int .i64 m, .int .i64 o, .bool i, .bool r, .bool s, .int .u32 q, .slice A n c] 25) = V := ⟨_, rfl⟩
  have bW0 : Below w.heap.size w W0 := by rw [← hW0]; exact below_alloc1 _ _
  have sW0 : W0.heap.size = w.heap.size + 1 := by rw [← hW0]; simp
  have KX : Hid (∀ V, Below W0.heap.size W0 V → V.cell? ⟨w.heap.size, 0, none⟩ = some (.int .i64 m) ∧ V.cell? ⟨w.heap.size, 1, none⟩ = some (.int .i64 o) ∧ V.cell? ⟨w.heap.size, 2, none⟩ = some (.bool i) ∧ V.cell? ⟨w.heap.size, 3, none⟩ = some (.bool r) ∧ V.cell? ⟨w.heap.size, 4, none⟩ = some (.bool s) ∧ V.cell? ⟨w.heap.size, 5, none⟩ = some (.int .u32 q) ∧ V.cell? ⟨w.heap.size, 6, none⟩ = some (.slice A n c)) := Lib.hid (fun V hV => kb7_new hW0 hV)
  have HB : Hid (Below w.heap.size w W0) := Lib.hid bW0
  obtain ⟨k0, k1, k2, k3, k4, k5, k6⟩ := KX.out _ (Below.refl _ _)
  clear bW0 KX
  cases i <;> cases r <;> cases s <;>
  · go_enter Try.func37, Try.ntmps37
    go_wp2
    go_ret
    exact ⟨rfl, HB.out⟩
set_option maxRecDepth 100000 in
set_option maxHeartbeats 8000000 in
theorem putdesc_any (x : Dc) (A : Option Addr) (n c : Nat) (L : List Hd) (w : World) (hq : 0 ≤ x.q ∧ x.q < 4294967296) (hn : L.length = n) (ok : ∀ x ∈ L, Okd x) (hl : hRr w A L) (hll : n ≤ 10000) :
    Calls Try.prog 9 #[.agg #[.int .i64 x.m, .int .i64 x.o, .bool x.i, .bool x.r, .bool x.s, .int .u32 x.q, .slice A n c]] w fun e w' => ∃ A' c', e = .returned (.tuple #[.slice A' (pdL x L).length c', .int .i64 (pdE x L)]) ∧ Own .u8 5 w' w.heap.size A' c' (pdL x L) ∧ Below w.heap.size w w' := by
  obtain ⟨W0, hW0⟩ : ∃ V, w.alloc (.cells #[.int .i64 x.m, .int .i64 x.o, .bool x.i, .bool x.r, .bool x.s, .int .u32 x.q, .slice A n c] 25) = V := ⟨_, rfl⟩
  have bW0 : Below w.heap.size w W0 := by rw [← hW0]; exact below_alloc1 _ _
  have sW0 : W0.heap.size = w.heap.size + 1 := by rw [← hW0]; simp
  have KX : Hid (∀ V, Below W0.heap.size W0 V → V.cell? ⟨w.heap.size, 0, none⟩ = some (.int .i64 x.m) ∧ V.cell? ⟨w.heap.size, 1, none⟩ = some (.int .i64 x.o) ∧ V.cell? ⟨w.heap.size, 2, none⟩ = some (.bool x.i) ∧ V.cell? ⟨w.heap.size, 3, none⟩ = some (.bool x.r) ∧ V.cell? ⟨w.heap.size, 4, none⟩ = some (.bool x.s) ∧ V.cell? ⟨w.heap.size, 5, none⟩ = some (.int .u32 x.q) ∧ V.cell? ⟨w.heap.size, 6, none⟩ = some (.slice A n c)) := Lib.hid (fun V hV => kb7_new hW0 hV)
  have HB : Hid (Below w.heap.size w W0) := Lib.hid bW0
  have CM := dwithin_any x.m 0 65535 W0
  have CO := dwithin_any x.o 0 255 W0
  have CP := putheads_any 0 60 A n c L W0 hn ok (hl.step bW0) hll
  obtain ⟨k0, k1, k2, k3, k4, k5, k6⟩ := KX.out _ (Below.refl _ _)
  clear bW0 hl ok
  cases hT : win x.m 0 65535
  · obtain ⟨e1, e2⟩ := pdE_no (x := x) (L := L) (by rw [hT]; rfl)
    rw [e1, e2]
    rw [hT] at CM
    clear e1 e2 hT hn CO CP
    go_enter Try.func9, Try.ntmps9
    go_wp2_with fail
    refine CM.mono ?_
    rintro e _ ⟨rfl, rfl⟩
    go_wp2
    go_ret2
    exact ⟨none, 0, rfl, Own.nil _ _, HB.out⟩
  rw [hT] at CM
  cases hU : win x.o 0 255
  · obtain ⟨e1, e2⟩ := pdE_no (x := x) (L := L) (by rw [hT, hU]; rfl)
    rw [e1, e2]
    rw [hU] at CO
    clear e1 e2 hT hU hn CP
    go_enter Try.func9, Try.ntmps9
    go_wp2_with fail
    refine CM.mono ?_
    rintro e _ ⟨rfl, rfl⟩
    go_wp2_with fail
    refine CO.mono ?_
    rintro e _ ⟨rfl, rfl⟩
    go_wp2
    go_ret2
    exact ⟨none, 0, rfl, Own.nil _ _, HB.out⟩
  rw [hU] at CO
  obtain ⟨e1, e2⟩ := pdE_eq (L := L) hT hU
  rw [e1, e2]
  obtain ⟨hm0, hm1⟩ := (win_iff _ _ _).1 hT
  obtain ⟨ho0, ho1⟩ := (win_iff _ _ _).1 hU
  have lP := ph_len L 0 60
  have lE : phE L 0 60 = 0 → L.length ≤ 60 := fun h => by
    unfold phE at h
    split at h
    · rename_i hw
      simp only [Bool.and_eq_true] at hw
      have := (win_iff _ _ _).1 hw.1
      omega
    · omega
  generalize phE L 0 60 = E at *
  generalize phL L 0 60 = P at *
  by_cases h0 : E = 0
  case neg =>
    rw [if_neg h0]
    have d : (E == 0) = false := by simpa using h0
    have d2 : (E != 0) = true := by simp [bne, d]
    clear e1 e2 hT hU hn h0 lP lE
    go_enter Try.func9, Try.ntmps9
    go_wp2_with fail
    refine CM.mono ?_
    rintro e _ ⟨rfl, rfl⟩
    go_wp2_with fail
    refine CO.mono ?_
    rintro e _ ⟨rfl, rfl⟩
    go_wp2_with fail
    refine CP.mono ?_
    rintro e X1 ⟨A1, c1, rfl, o1, u1⟩
    go_wp2
    go_ret2
    exact ⟨none, 0, rfl, Own.nil _ _, HB.out.trans (u1.mono HB.out.size)⟩
  subst h0
  rw [if_pos rfl]
  have lE := lE rfl
  obtain ⟨p, hp⟩ : ∃ p, P.length = p := ⟨_, rfl⟩
  rw [show (dhd x ++ P).length = 8 + p by rw [List.length_append, dhd_length, hp]]
  rw [hp] at CP lP
  have HPL := Lib.hid hp
  have lp : p ≤ 1200 := by omega
  have CF := fun V => flags_any x A n c V
  obtain ⟨y, hy⟩ : ∃ y, fgs x = y := ⟨_, rfl⟩
  obtain ⟨hy0, hy1⟩ := fgs_bd x
  rw [hy] at hy0 hy1 CF
  obtain ⟨hq0, hq1⟩ := hq
  have HX : Hid (be x.m 2 ++ (be x.o 1 ++ (be y 1 ++ (be x.q 4 ++ P))) = dhd x ++ P) := Lib.hid (by rw [dhd, hy]; simp)
  have HXL : Hid ((dhd x ++ P).length = 8 + p) := Lib.hid (by rw [List.length_append, dhd_length, hp])
  clear e1 e2 hT hU hn hp hy lP lE
  go_enter Try.func9, Try.ntmps9
  go_wp2_with fail
  refine CM.mono ?_
  rintro e _ ⟨rfl, rfl⟩
  go_wp2_with fail
  refine CO.mono ?_
  rintro e _ ⟨rfl, rfl⟩
  go_wp2_with fail
  refine CP.mono ?_
  rintro e X1 ⟨A0, c0, rfl, o0, t0⟩
  have z5 : Bs .u8 X1.drew X1.drew.heap.size A0 P := Bs.step o0.bs (Below.refl _ _).drew
  clear o0 CM CO CP k0 k1 k2 k3 k4 k5 k6
  go_upto_region 6 with fail
  refine wp_region_held_drew (S := fun V => V.cell? ⟨w.heap.size, 0, none⟩ = some (.int .i64 x.m) ∧ V.cell? ⟨w.heap.size, 1, none⟩ = some (.int .i64 x.o) ∧ V.cell? ⟨w.heap.size, 2, none⟩ = some (.bool x.i) ∧ V.cell? ⟨w.heap.size, 3, none⟩ = some (.bool x.r) ∧ V.cell? ⟨w.heap.size, 4, none⟩ = some (.bool x.s) ∧ V.cell? ⟨w.heap.size, 5, none⟩ = some (.int .u32 x.q) ∧ V.cell? ⟨w.heap.size, 6, none⟩ = some (.slice A n c)) (by kernel_rfl) (KX.out _ t0.drew) (fun hHeld => ?_)
  replace t0 : Below W0.heap.size W0 X1.drew := t0.drew
  generalize hX0 : X1.drew = Y0 at t0 z5 hHeld ⊢
  clear hX0
  refine wpAnyH_take (i := 0) (v := ?_) rfl (by kernel_rfl) (by kernel_rfl) (by kernel_rfl) (fun _ _ _ h => h) (Or.inl ⟨by rfl, ?_⟩) (by assumption) ?_
  rotate_left
  · (intro w' hSw; (try dsimp only at hSw); go_simp; try with_reducible rfl)
  simp only [Act.put, List.getElem_toArray, List.getElem_cons_zero, List.setIfInBounds_toArray, List.set_cons_zero, List.set_cons_succ]
  refine wpAnyH_take (i := 1) (v := ?_) rfl (by kernel_rfl) (by kernel_rfl) (by kernel_rfl) (fun _ _ _ h => h) (Or.inl ⟨by rfl, ?_⟩) (by assumption) ?_
  rotate_left
  · (intro w' hSw; (try dsimp only at hSw); go_simp; try with_reducible rfl)
  simp only [Act.put, List.getElem_toArray, List.getElem_cons_zero, List.getElem_cons_succ, List.setIfInBounds_toArray, List.set_cons_zero, List.set_cons_succ]
  refine wpAnyH_take (i := 2) (v := .int .u32 x.m) rfl (by kernel_rfl) (by kernel_rfl) (by kernel_rfl) (fun _ _ _ h => h) (Or.inl ⟨by rfl, ?_⟩) (by assumption) ?_
  · (intro w' hSw; (try dsimp only at hSw); go_simp; rw [wrap_u32 (by omega) (by omega)])
  simp only [Act.put, List.getElem_toArray, List.getElem_cons_zero, List.getElem_cons_succ, List.setIfInBounds_toArray, List.set_cons_zero, List.set_cons_succ]
  refine wpAnyH_take (i := 4) (v := ?_) rfl (by kernel_rfl) (by kernel_rfl) (by kernel_rfl) (fun _ _ _ h => h) (Or.inl ⟨by rfl, ?_⟩) (by assumption) ?_
  rotate_left
  · (intro w' hSw; (try dsimp only at hSw); go_simp; try with_reducible rfl)
  simp only [Act.put, List.getElem_toArray, List.getElem_cons_zero, List.getElem_cons_succ, List.setIfInBounds_toArray, List.set_cons_zero, List.set_cons_succ]
  refine wpAnyH_take (i := 5) (v := ?_) rfl (by kernel_rfl) (by kernel_rfl) (by kernel_rfl) (fun _ _ _ h => h) (Or.inl ⟨by rfl, ?_⟩) (by assumption) ?_
  rotate_left
  · (intro w' hSw; (try dsimp only at hSw); go_simp; try with_reducible rfl)
  simp only [Act.put, List.getElem_toArray, List.getElem_cons_zero, List.getElem_cons_succ, List.setIfInBounds_toArray, List.set_cons_zero, List.set_cons_succ]
  refine wpAnyH_take (i := 6) (v := .int .u32 x.o) rfl (by kernel_rfl) (by kernel_rfl) (by kernel_rfl) (fun _ _ _ h => h) (Or.inl ⟨by rfl, ?_⟩) (by assumption) ?_
  · (intro w' hSw; (try dsimp only at hSw); go_simp; rw [wrap_u32 (by omega) (by omega)])
  simp only [Act.put, List.getElem_toArray, List.getElem_cons_zero, List.getElem_cons_succ, List.setIfInBounds_toArray, List.set_cons_zero, List.set_cons_succ]
  refine wpAnyH_take (i := 8) (v := ?_) rfl (by kernel_rfl) (by kernel_rfl) (by kernel_rfl) (fun _ _ _ h => h) (Or.inl ⟨by rfl, ?_⟩) (by assumption) ?_
  rotate_left
  · (intro w' hSw; (try dsimp only at hSw); go_simp; try with_reducible rfl)
  simp only [Act.put, List.getElem_toArray, List.getElem_cons_zero, List.getElem_cons_succ, List.setIfInBounds_toArray, List.set_cons_zero, List.set_cons_succ]
  refine wpAnyH_take (i := 11) (v := ?_) rfl (by kernel_rfl) (by kernel_rfl) (by kernel_rfl) (fun _ _ _ h => h) (Or.inl ⟨by rfl, ?_⟩) (by assumption) ?_
  rotate_left
  · (intro w' hSw; (try dsimp only at hSw); go_simp; try with_reducible rfl)
  simp only [Act.put, List.getElem_toArray, List.getElem_cons_zero, List.getElem_cons_succ, List.setIfInBounds_toArray, List.set_cons_zero, List.set_cons_succ]
  refine wpAnyH_take (i := 12) (v := ?_) rfl (by kernel_rfl) (by kernel_rfl) (by kernel_rfl) (fun _ _ _ h => h) (Or.inl ⟨by rfl, ?_⟩) (by assumption) ?_
  rotate_left
  · (intro w' hSw; (try dsimp only at hSw); go_simp; try with_reducible rfl)
  simp only [Act.put, List.getElem_toArray, List.getElem_cons_zero, List.getElem_cons_succ, List.setIfInBounds_toArray, List.set_cons_zero, List.set_cons_succ]
  refine wpAnyH_take (i := 14) (v := ?_) rfl (by kernel_rfl) (by kernel_rfl) (by kernel_rfl) (fun _ _ _ h => h) (Or.inl ⟨by rfl, ?_⟩) (by assumption) ?_
  rotate_left
  · (intro w' hSw; (try dsimp only at hSw); go_simp; try with_reducible rfl)
  simp only [Act.put, List.getElem_toArray, List.getElem_cons_zero, List.getElem_cons_succ, List.setIfInBounds_toArray, List.set_cons_zero, List.set_cons_succ]
  refine wpAnyH_ready (rs := [3]) (by kernel_rfl) (by simp) ?_
  refine AllReadyH.cons rfl (fun K hK => ?_) AllReadyH.nil
  go_simp
  go_at_call 36
  refine (dfield_any x.m 2 2 Y0 rfl (by decide) (by decide) (by omega) (by omega) (by omega)).mono ?_
  rintro e Y1 ⟨A1, c1, rfl, o1, u1⟩
  have t_Y1 : Below W0.heap.size W0 Y1 := t0.trans (u1.mono t0.size)
  replace z5 := z5.step u1
  have z1 := o1.bs
  clear o1
  refine hK.out _ _ (KX.out _ t_Y1) (fun _ => ?_)
  clear hK K
  refine wpAnyH_ready (rs := [7]) (by kernel_rfl) (by simp) ?_
  refine AllReadyH.cons rfl (fun K hK => ?_) AllReadyH.nil
  go_simp
  go_at_call 36
  refine (dfield_any x.o 1 1 Y1 rfl (by decide) (by decide) (by omega) (by omega) (by omega)).mono ?_
  rintro e Y2 ⟨A2, c2, rfl, o2, u2⟩
  have t_Y2 : Below W0.heap.size W0 Y2 := t_Y1.trans (u2.mono t_Y1.size)
  replace z5 := z5.step u2
  replace z1 := z1.step u2
  have z2 := o2.bs
  clear o2
  refine hK.out _ _ (KX.out _ t_Y2) (fun _ => ?_)
  clear hK K
  refine wpAnyH_ready (rs := [9]) (by kernel_rfl) (by simp) ?_
  refine AllReadyH.cons rfl (fun K hK => ?_) AllReadyH.nil
  go_simp
  go_at_call 37
  refine (CF _).mono ?_
  rintro e Y3 ⟨rfl, u3⟩
  have t_Y3 : Below W0.heap.size W0 Y3 := t_Y2.trans (u3.mono t_Y2.size)
  replace z5 := z5.step u3
  replace z1 := z1.step u3
  replace z2 := z2.step u3
  refine hK.out _ _ (KX.out _ t_Y3) (fun _ => ?_)
  clear hK K
  refine wpAnyH_ready (rs := [10]) (by kernel_rfl) (by simp) ?_
  refine AllReadyH.cons rfl (fun K hK => ?_) AllReadyH.nil
  go_simp
  go_at_call 36
  refine (dfield_any y 1 1 Y3 rfl (by decide) (by decide) (by omega) (by omega) (by omega)).mono ?_
  rintro e Y4 ⟨A4, c4, rfl, o4, u4⟩
  have t_Y4 : Below W0.heap.size W0 Y4 := t_Y3.trans (u4.mono t_Y3.size)
  replace z5 := z5.step u4
  replace z1 := z1.step u4
  replace z2 := z2.step u4
  have z3 := o4.bs
  clear o4
  refine hK.out _ _ (KX.out _ t_Y4) (fun _ => ?_)
  clear hK K
  refine wpAnyH_ready (rs := [13]) (by kernel_rfl) (by simp) ?_
  refine AllReadyH.cons rfl (fun K hK => ?_) AllReadyH.nil
  go_simp
  go_at_call 36
  refine (dfield_any x.q 4 4 Y4 rfl (by decide) (by decide) (by omega) (by omega) (by omega)).mono ?_
  rintro e Y5 ⟨A5, c5, rfl, o5, u5⟩
  have t_Y5 : Below W0.heap.size W0 Y5 := t_Y4.trans (u5.mono t_Y4.size)
  replace z5 := z5.step u5
  replace z1 := z1.step u5
  replace z2 := z2.step u5
  replace z3 := z3.step u5
  have z4 := o5.bs
  clear o5
  refine hK.out _ _ (KX.out _ t_Y5) (fun _ => ?_)
  clear hK K
  refine wpAnyH_ready (rs := [15]) (by kernel_rfl) (by simp) ?_
  refine AllReadyH.cons rfl (fun K hK => ?_) AllReadyH.nil
  go_simp
  obtain ⟨Y6, hY6⟩ : ∃ V, Y5.alloc (.cells #[.slice A1 2 c1, .slice A2 1 c2, .slice A4 1 c4, .slice A5 4 c5, .slice A0 p c0] 26) = V := ⟨_, rfl⟩
  have u6 : Below Y5.heap.size Y5 Y6 := by rw [← hY6]; exact below_alloc1 _ _
  have t_Y6 : Below W0.heap.size W0 Y6 := t_Y5.trans (u6.mono t_Y5.size)
  replace z5 := z5.step u6
  replace z1 := z1.step u6
  replace z2 := z2.step u6
  replace z3 := z3.step u6
  replace z4 := z4.step u6
  obtain ⟨k6, hk6⟩ : ∃ k, Y5.heap.size = k := ⟨_, rfl⟩
  have hP : Ps Y6 (some ⟨k6, 0, none⟩) [⟨A1, c1, be x.m 2⟩, ⟨A2, c2, be x.o 1⟩, ⟨A4, c4, be y 1⟩, ⟨A5, c5, be x.q 4⟩, ⟨A0, c0, P⟩] := by
    rw [← hY6]
    exact Ps.mk _ _ _ _ _ hk6 (by simp [be_length, HPL.out])
  try rw [hY6]
  try rw [hk6]
  refine hK.out _ _ (KX.out _ t_Y6) (fun _ => ?_)
  clear hK K
  refine wpAnyH_ready (rs := [16]) (by kernel_rfl) (by simp) ?_
  refine AllReadyH.cons rfl (fun K hK => ?_) AllReadyH.nil
  go_simp
  have cc := concat_n (some ⟨k6, 0, none⟩) 5 5 _ Y6 rfl hP (fun p' hp => by
    simp only [List.mem_cons, List.not_mem_nil, or_false] at hp
    rcases hp with rfl | rfl | rfl | rfl | rfl
    · exact z1
    · exact z2
    · exact z3
    · exact z4
    · exact z5) (by simp) (by have := HPL.out; simp [cat, be_length] <;> omega)
  have hcat : cat [⟨A1, c1, be x.m 2⟩, ⟨A2, c2, be x.o 1⟩, ⟨A4, c4, be y 1⟩, ⟨A5, c5, be x.q 4⟩, ⟨A0, c0, P⟩] = dhd x ++ P := by rw [← HX.out]; simp [cat]
  rw [hcat] at cc
  rw [HXL.out] at cc
  clear hcat
  go_at_call 35
  refine (cc).mono ?_
  rintro e Y7 ⟨A7, c7, rfl, o7, u7⟩
  have t_Y7 : Below W0.heap.size W0 Y7 := t_Y6.trans (u7.mono t_Y6.size)
  replace z5 := z5.step u7
  replace z1 := z1.step u7
  replace z2 := z2.step u7
  replace z3 := z3.step u7
  replace z4 := z4.step u7
  replace hP := hP.step u7
  refine hK.out _ _ (KX.out _ t_Y7) (fun _ => ?_)
  clear hK K
  refine wpAnyH_ready (rs := [17]) (by kernel_rfl) (by simp) ?_
  refine AllReadyH.cons rfl (fun K hK => ?_) AllReadyH.nil
  go_simp
  refine hK.out _ _ (KX.out _ t_Y7) (fun _ => ?_)
  clear hK K
  refine wpAnyH_ready (rs := [18]) (by kernel_rfl) (by simp) ?_
  refine AllReadyH.cons rfl (fun K hK => ?_) AllReadyH.nil
  go_simp
  refine hK.out _ _ (KX.out _ t_Y7) (fun _ => ?_)
  clear hK K
  refine wpAnyH_done (by kernel_rfl) ?_ _
  go_wp2
  go_ret2
  exact ⟨A7, c7, rfl, o7.lower (Nat.le_trans HB.out.size t_Y6.size), HB.out.trans (t_Y7.mono HB.out.size)⟩
end Go.Proofs.Ytefbpaebimagaaa
