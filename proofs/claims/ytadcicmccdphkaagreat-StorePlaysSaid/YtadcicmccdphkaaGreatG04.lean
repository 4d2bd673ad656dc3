/-
  Headers as plain numbers; contracts of the small functions of package lsa and of its reference. Rows of headers, keys and advertisements; contracts of the small functions of package dbd. No statement is proved here; no conditions.
-/
import Derived.Test.YtadcicmccdphkaaGreatG03
import Derived.Lib.SliceRun
namespace Go.Proofs.YtadcicmccdphkaaGreat
open Go.RowKit Go.Joins

structure Hd where
 (a o t i v q s n : Int)
structure Okd (h : Hd) : Prop where
 i : 0 ≤ h.i ∧ h.i < 4294967296
 v : 0 ≤ h.v ∧ h.v < 4294967296
 q : 0 ≤ h.q ∧ h.q < 4294967296
def win (x l m : Int) : Bool := decide (l ≤ x) && decide (x ≤ m)
theorem win_iff (x l m : Int) : win x l m = true ↔ l ≤ x ∧ x ≤ m := by simp [win]
def mayd (h : Hd) : Bool := win h.a 0 3600 && win h.o 0 255 && win h.t 1 7 && decide (h.t ≠ 6) && win h.s 0 65535 && win h.n 20 1400
theorem mayd_iff (h : Hd) : mayd h = true ↔ (0 ≤ h.a ∧ h.a ≤ 3600) ∧ (0 ≤ h.o ∧ h.o ≤ 255) ∧ (1 ≤ h.t ∧ h.t ≤ 7) ∧ h.t ≠ 6 ∧ (0 ≤ h.s ∧ h.s ≤ 65535) ∧ (20 ≤ h.n ∧ h.n ≤ 1400) := by
 simp [mayd, win, and_assoc]
def ehd (h : Hd) : List Int := be h.a 2 ++ (be h.o 1 ++ (be h.t 1 ++ (be h.i 4 ++ (be h.v 4 ++ (be h.q 4 ++ (be h.s 2 ++ be h.n 2))))))
theorem ehd_length (h : Hd) : (ehd h).length = 20 := by simp [ehd, be_length]
theorem ehd_byt (h : Hd) : Byt (ehd h) := (be_byt _ _).append ((be_byt _ _).append ((be_byt _ _).append ((be_byt _ _).append ((be_byt _ _).append ((be_byt _ _).append ((be_byt _ _).append (be_byt _ _)))))))
def encE (h : Hd) : Int := if mayd h = true then 0 else 1
def encH (h : Hd) : List Int := if mayd h = true then ehd h else []
/-! ### A block of 8 cells -/
theorem kb8_new {w W0 W : World} {t : TypeId} {v0 v1 v2 v3 v4 v5 v6 v7 : Value} (h0 : w.alloc (.cells #[v0, v1, v2, v3, v4, v5, v6, v7] t) = W0) (h : Below W0.heap.size W0 W) :
  W.cell? ⟨w.heap.size, 0, none⟩ = some v0 ∧ W.cell? ⟨w.heap.size, 1, none⟩ = some v1 ∧ W.cell? ⟨w.heap.size, 2, none⟩ = some v2 ∧ W.cell? ⟨w.heap.size, 3, none⟩ = some v3 ∧ W.cell? ⟨w.heap.size, 4, none⟩ = some v4 ∧ W.cell? ⟨w.heap.size, 5, none⟩ = some v5 ∧ W.cell? ⟨w.heap.size, 6, none⟩ = some v6 ∧ W.cell? ⟨w.heap.size, 7, none⟩ = some v7 := by
 subst h0
 have k := (h.block w.heap.size (by simp)).trans (alloc_at _ _ _ rfl)
 exact ⟨(cell_of_block k 0).trans rfl, (cell_of_block k 1).trans rfl, (cell_of_block k 2).trans rfl, (cell_of_block k 3).trans rfl, (cell_of_block k 4).trans rfl, (cell_of_block k 5).trans rfl, (cell_of_block k 6).trans rfl, (cell_of_block k 7).trans rfl⟩
theorem kz8_at {W : World} {b : Nat} {t : TypeId} {v0 v1 v2 v3 v4 v5 v6 v7 : Value} (h : W.heap[b]? = some (.cells #[v0, v1, v2, v3, v4, v5, v6, v7] t)) :
  W.cell? ⟨b, 0, none⟩ = some v0 ∧ W.cell? ⟨b, 1, none⟩ = some v1 ∧ W.cell? ⟨b, 2, none⟩ = some v2 ∧ W.cell? ⟨b, 3, none⟩ = some v3 ∧ W.cell? ⟨b, 4, none⟩ = some v4 ∧ W.cell? ⟨b, 5, none⟩ = some v5 ∧ W.cell? ⟨b, 6, none⟩ = some v6 ∧ W.cell? ⟨b, 7, none⟩ = some v7 ∧ W.frozen? ⟨b, 0, none⟩ = false ∧ W.frozen? ⟨b, 1, none⟩ = false ∧ W.frozen? ⟨b, 2, none⟩ = false ∧ W.frozen? ⟨b, 3, none⟩ = false ∧ W.frozen? ⟨b, 4, none⟩ = false ∧ W.frozen? ⟨b, 5, none⟩ = false ∧ W.frozen? ⟨b, 6, none⟩ = false ∧ W.frozen? ⟨b, 7, none⟩ = false ∧ b < W.heap.size :=
 ⟨(cell_of_block h 0).trans rfl, (cell_of_block h 1).trans rfl, (cell_of_block h 2).trans rfl, (cell_of_block h 3).trans rfl, (cell_of_block h 4).trans rfl, (cell_of_block h 5).trans rfl, (cell_of_block h 6).trans rfl, (cell_of_block h 7).trans rfl, unfrozen_of_block h 0, unfrozen_of_block h 1, unfrozen_of_block h 2, unfrozen_of_block h 3, unfrozen_of_block h 4, unfrozen_of_block h 5, unfrozen_of_block h 6, unfrozen_of_block h 7, lt_of_block h⟩
abbrev st8 (W : World) (b : Nat) (u0 u1 u2 u3 u4 u5 u6 u7 : Value) : World := ((((((((W).setCell ⟨b, 0, none⟩ u0).setCell ⟨b, 1, none⟩ u1).setCell ⟨b, 2, none⟩ u2).setCell ⟨b, 3, none⟩ u3).setCell ⟨b, 4, none⟩ u4).setCell ⟨b, 5, none⟩ u5).setCell ⟨b, 6, none⟩ u6).setCell ⟨b, 7, none⟩ u7
theorem kz8_set {W : World} {b : Nat} {t : TypeId} {v0 v1 v2 v3 v4 v5 v6 v7 : Value} (h : W.heap[b]? = some (.cells #[v0, v1, v2, v3, v4, v5, v6, v7] t)) (u0 u1 u2 u3 u4 u5 u6 u7 : Value) :
  (st8 W b u0 u1 u2 u3 u4 u5 u6 u7).heap[b]? = some (.cells #[u0, u1, u2, u3, u4, u5, u6, u7] t) := by
 rw [block_setCell (i := 7) (block_setCell (i := 6) (block_setCell (i := 5) (block_setCell (i := 4) (block_setCell (i := 3) (block_setCell (i := 2) (block_setCell (i := 1) (block_setCell (i := 0) h u0) u1) u2) u3) u4) u5) u6) u7]
 simp only [List.setIfInBounds_toArray, List.set_cons_zero, List.set_cons_succ]
theorem below_st8 {W W' : World} {B b : Nat} (h : Below B W W') (hb : B ≤ b) (u0 u1 u2 u3 u4 u5 u6 u7 : Value) : Below B W (st8 W' b u0 u1 u2 u3 u4 u5 u6 u7) :=
 ((((((((h).setCell (p := ⟨b, 0, none⟩) hb u0).setCell (p := ⟨b, 1, none⟩) hb u1).setCell (p := ⟨b, 2, none⟩) hb u2).setCell (p := ⟨b, 3, none⟩) hb u3).setCell (p := ⟨b, 4, none⟩) hb u4).setCell (p := ⟨b, 5, none⟩) hb u5).setCell (p := ⟨b, 6, none⟩) hb u6).setCell (p := ⟨b, 7, none⟩) hb u7
theorem far_st8 {W : World} {b k : Nat} (h : k ≠ b) (u0 u1 u2 u3 u4 u5 u6 u7 : Value) : (st8 W b u0 u1 u2 u3 u4 u5 u6 u7).heap[k]? = W.heap[k]? := by
 unfold st8
 rw [Below.heap_setCell _ _ _ _ h, Below.heap_setCell _ _ _ _ h, Below.heap_setCell _ _ _ _ h, Below.heap_setCell _ _ _ _ h, Below.heap_setCell _ _ _ _ h, Below.heap_setCell _ _ _ _ h, Below.heap_setCell _ _ _ _ h, Below.heap_setCell _ _ _ _ h]
theorem Own.far8 {k : IntKind} {e : TypeId} {W : World} {base c b : Nat} {A : Option Addr} {l : List Int} (h : Own k e W base A c l) (hb : b < base) (u0 u1 u2 u3 u4 u5 u6 u7 : Value) : Own k e (st8 W b u0 u1 u2 u3 u4 u5 u6 u7) base A c l :=
 h.kept fun g hg _ => far_st8 (by omega) _ _ _ _ _ _ _ _
/-! ### A block of 9 cells -/
theorem kb9_new {w W0 W : World} {t : TypeId} {v0 v1 v2 v3 v4 v5 v6 v7 v8 : Value} (h0 : w.alloc (.cells #[v0, v1, v2, v3, v4, v5, v6, v7, v8] t) = W0) (h : Below W0.heap.size W0 W) :
  W.cell? ⟨w.heap.size, 0, none⟩ = some v0 ∧ W.cell? ⟨w.heap.size, 1, none⟩ = some v1 ∧ W.cell? ⟨w.heap.size, 2, none⟩ = some v2 ∧ W.cell? ⟨w.heap.size, 3, none⟩ = some v3 ∧ W.cell? ⟨w.heap.size, 4, none⟩ = some v4 ∧ W.cell? ⟨w.heap.size, 5, none⟩ = some v5 ∧ W.cell? ⟨w.heap.size, 6, none⟩ = some v6 ∧ W.cell? ⟨w.heap.size, 7, none⟩ = some v7 ∧ W.cell? ⟨w.heap.size, 8, none⟩ = some v8 := by
 subst h0
 have k := (h.block w.heap.size (by simp)).trans (alloc_at _ _ _ rfl)
 exact ⟨(cell_of_block k 0).trans rfl, (cell_of_block k 1).trans rfl, (cell_of_block k 2).trans rfl, (cell_of_block k 3).trans rfl, (cell_of_block k 4).trans rfl, (cell_of_block k 5).trans rfl, (cell_of_block k 6).trans rfl, (cell_of_block k 7).trans rfl, (cell_of_block k 8).trans rfl⟩
theorem kz9_at {W : World} {b : Nat} {t : TypeId} {v0 v1 v2 v3 v4 v5 v6 v7 v8 : Value} (h : W.heap[b]? = some (.cells #[v0, v1, v2, v3, v4, v5, v6, v7, v8] t)) :
  W.cell? ⟨b, 0, none⟩ = some v0 ∧ W.cell? ⟨b, 1, none⟩ = some v1 ∧ W.cell? ⟨b, 2, none⟩ = some v2 ∧ W.cell? ⟨b, 3, none⟩ = some v3 ∧ W.cell? ⟨b, 4, none⟩ = some v4 ∧ W.cell? ⟨b, 5, none⟩ = some v5 ∧ W.cell? ⟨b, 6, none⟩ = some v6 ∧ W.cell? ⟨b, 7, none⟩ = some v7 ∧ W.cell? ⟨b, 8, none⟩ = some v8 ∧ W.frozen? ⟨b, 0, none⟩ = false ∧ W.frozen? ⟨b, 1, none⟩ = false ∧ W.frozen? ⟨b, 2, none⟩ = false ∧ W.frozen? ⟨b, 3, none⟩ = false ∧ W.frozen? ⟨b, 4, none⟩ = false ∧ W.frozen? ⟨b, 5, none⟩ = false ∧ W.frozen? ⟨b, 6, none⟩ = false ∧ W.frozen? ⟨b, 7, none⟩ = false ∧ W.frozen? ⟨b, 8, none⟩ = false ∧ b < W.heap.size :=
 ⟨(cell_of_block h 0).trans rfl, (cell_of_block h 1).trans rfl, (cell_of_block h 2).trans rfl, (cell_of_block h 3).trans rfl, (cell_of_block h 4).trans rfl, (cell_of_block h 5).trans rfl, (cell_of_block h 6).trans rfl, (cell_of_block h 7).trans rfl, (cell_of_block h 8).trans rfl, unfrozen_of_block h 0, unfrozen_of_block h 1, unfrozen_of_block h 2, unfrozen_of_block h 3, unfrozen_of_block h 4, unfrozen_of_block h 5, unfrozen_of_block h 6, unfrozen_of_block h 7, unfrozen_of_block h 8, lt_of_block h⟩
abbrev st9 (W : World) (b : Nat) (u0 u1 u2 u3 u4 u5 u6 u7 u8 : Value) : World := (((((((((W).setCell ⟨b, 0, none⟩ u0).setCell ⟨b, 1, none⟩ u1).setCell ⟨b, 2, none⟩ u2).setCell ⟨b, 3, none⟩ u3).setCell ⟨b, 4, none⟩ u4).setCell ⟨b, 5, none⟩ u5).setCell ⟨b, 6, none⟩ u6).setCell ⟨b, 7, none⟩ u7).setCell ⟨b, 8, none⟩ u8
theorem kz9_set {W : World} {b : Nat} {t : TypeId} {v0 v1 v2 v3 v4 v5 v6 v7 v8 : Value} (h : W.heap[b]? = some (.cells #[v0, v1, v2, v3, v4, v5, v6, v7, v8] t)) (u0 u1 u2 u3 u4 u5 u6 u7 u8 : Value) :
  (st9 W b u0 u1 u2 u3 u4 u5 u6 u7 u8).heap[b]? = some (.cells #[u0, u1, u2, u3, u4, u5, u6, u7, u8] t) := by
 rw [block_setCell (i := 8) (block_setCell (i := 7) (block_setCell (i := 6) (block_setCell (i := 5) (block_setCell (i := 4) (block_setCell (i := 3) (block_setCell (i := 2) (block_setCell (i := 1) (block_setCell (i := 0) h u0) u1) u2) u3) u4) u5) u6) u7) u8]
 simp only [List.setIfInBounds_toArray, List.set_cons_zero, List.set_cons_succ]
theorem kz9_get {W : World} {b : Nat} {t : TypeId} {v0 v1 v2 v3 v4 v5 v6 v7 v8 : Value} (h : W.heap[b]? = some (.cells #[v0, v1, v2, v3, v4, v5, v6, v7, v8] t)) (u0 u1 u2 u3 u4 u5 u6 u7 u8 : Value) :
  (st9 W b u0 u1 u2 u3 u4 u5 u6 u7 u8).cell? ⟨b, 0, none⟩ = some u0 ∧ (st9 W b u0 u1 u2 u3 u4 u5 u6 u7 u8).cell? ⟨b, 1, none⟩ = some u1 ∧ (st9 W b u0 u1 u2 u3 u4 u5 u6 u7 u8).cell? ⟨b, 2, none⟩ = some u2 ∧ (st9 W b u0 u1 u2 u3 u4 u5 u6 u7 u8).cell? ⟨b, 3, none⟩ = some u3 ∧ (st9 W b u0 u1 u2 u3 u4 u5 u6 u7 u8).cell? ⟨b, 4, none⟩ = some u4 ∧ (st9 W b u0 u1 u2 u3 u4 u5 u6 u7 u8).cell? ⟨b, 5, none⟩ = some u5 ∧ (st9 W b u0 u1 u2 u3 u4 u5 u6 u7 u8).cell? ⟨b, 6, none⟩ = some u6 ∧ (st9 W b u0 u1 u2 u3 u4 u5 u6 u7 u8).cell? ⟨b, 7, none⟩ = some u7 ∧ (st9 W b u0 u1 u2 u3 u4 u5 u6 u7 u8).cell? ⟨b, 8, none⟩ = some u8 := by
 have k := kz9_set h u0 u1 u2 u3 u4 u5 u6 u7 u8
 exact ⟨(cell_of_block k 0).trans rfl, (cell_of_block k 1).trans rfl, (cell_of_block k 2).trans rfl, (cell_of_block k 3).trans rfl, (cell_of_block k 4).trans rfl, (cell_of_block k 5).trans rfl, (cell_of_block k 6).trans rfl, (cell_of_block k 7).trans rfl, (cell_of_block k 8).trans rfl⟩
theorem below_st9 {W W' : World} {B b : Nat} (h : Below B W W') (hb : B ≤ b) (u0 u1 u2 u3 u4 u5 u6 u7 u8 : Value) : Below B W (st9 W' b u0 u1 u2 u3 u4 u5 u6 u7 u8) :=
 (((((((((h).setCell (p := ⟨b, 0, none⟩) hb u0).setCell (p := ⟨b, 1, none⟩) hb u1).setCell (p := ⟨b, 2, none⟩) hb u2).setCell (p := ⟨b, 3, none⟩) hb u3).setCell (p := ⟨b, 4, none⟩) hb u4).setCell (p := ⟨b, 5, none⟩) hb u5).setCell (p := ⟨b, 6, none⟩) hb u6).setCell (p := ⟨b, 7, none⟩) hb u7).setCell (p := ⟨b, 8, none⟩) hb u8
theorem far_st9 {W : World} {b k : Nat} (h : k ≠ b) (u0 u1 u2 u3 u4 u5 u6 u7 u8 : Value) : (st9 W b u0 u1 u2 u3 u4 u5 u6 u7 u8).heap[k]? = W.heap[k]? := by
 unfold st9
 rw [Below.heap_setCell _ _ _ _ h, Below.heap_setCell _ _ _ _ h, Below.heap_setCell _ _ _ _ h, Below.heap_setCell _ _ _ _ h, Below.heap_setCell _ _ _ _ h, Below.heap_setCell _ _ _ _ h, Below.heap_setCell _ _ _ _ h, Below.heap_setCell _ _ _ _ h, Below.heap_setCell _ _ _ _ h]
theorem Own.far9 {k : IntKind} {e : TypeId} {W : World} {base c b : Nat} {A : Option Addr} {l : List Int} (h : Own k e W base A c l) (hb : b < base) (u0 u1 u2 u3 u4 u5 u6 u7 u8 : Value) : Own k e (st9 W b u0 u1 u2 u3 u4 u5 u6 u7 u8) base A c l :=
 h.kept fun g hg _ => far_st9 (by omega) _ _ _ _ _ _ _ _ _
/-! ### A block of 3 cells -/
theorem kb3_new {w W0 W : World} {t : TypeId} {v0 v1 v2 : Value} (h0 : w.alloc (.cells #[v0, v1, v2] t) = W0) (h : Below W0.heap.size W0 W) :
  W.cell? ⟨w.heap.size, 0, none⟩ = some v0 ∧ W.cell? ⟨w.heap.size, 1, none⟩ = some v1 ∧ W.cell? ⟨w.heap.size, 2, none⟩ = some v2 := by
 subst h0
 have k := (h.block w.heap.size (by simp)).trans (alloc_at _ _ _ rfl)
 exact ⟨(cell_of_block k 0).trans rfl, (cell_of_block k 1).trans rfl, (cell_of_block k 2).trans rfl⟩
theorem kz3_at {W : World} {b : Nat} {t : TypeId} {v0 v1 v2 : Value} (h : W.heap[b]? = some (.cells #[v0, v1, v2] t)) :
  W.cell? ⟨b, 0, none⟩ = some v0 ∧ W.cell? ⟨b, 1, none⟩ = some v1 ∧ W.cell? ⟨b, 2, none⟩ = some v2 ∧ W.frozen? ⟨b, 0, none⟩ = false ∧ W.frozen? ⟨b, 1, none⟩ = false ∧ W.frozen? ⟨b, 2, none⟩ = false ∧ b < W.heap.size :=
 ⟨(cell_of_block h 0).trans rfl, (cell_of_block h 1).trans rfl, (cell_of_block h 2).trans rfl, unfrozen_of_block h 0, unfrozen_of_block h 1, unfrozen_of_block h 2, lt_of_block h⟩
abbrev st3 (W : World) (b : Nat) (u0 u1 u2 : Value) : World := (((W).setCell ⟨b, 0, none⟩ u0).setCell ⟨b, 1, none⟩ u1).setCell ⟨b, 2, none⟩ u2
theorem kz3_set {W : World} {b : Nat} {t : TypeId} {v0 v1 v2 : Value} (h : W.heap[b]? = some (.cells #[v0, v1, v2] t)) (u0 u1 u2 : Value) :
  (st3 W b u0 u1 u2).heap[b]? = some (.cells #[u0, u1, u2] t) := by
 rw [block_setCell (i := 2) (block_setCell (i := 1) (block_setCell (i := 0) h u0) u1) u2]
 simp only [List.setIfInBounds_toArray, List.set_cons_zero, List.set_cons_succ]
theorem kz3_get {W : World} {b : Nat} {t : TypeId} {v0 v1 v2 : Value} (h : W.heap[b]? = some (.cells #[v0, v1, v2] t)) (u0 u1 u2 : Value) :
  (st3 W b u0 u1 u2).cell? ⟨b, 0, none⟩ = some u0 ∧ (st3 W b u0 u1 u2).cell? ⟨b, 1, none⟩ = some u1 ∧ (st3 W b u0 u1 u2).cell? ⟨b, 2, none⟩ = some u2 := by
 have k := kz3_set h u0 u1 u2
 exact ⟨(cell_of_block k 0).trans rfl, (cell_of_block k 1).trans rfl, (cell_of_block k 2).trans rfl⟩
theorem below_st3 {W W' : World} {B b : Nat} (h : Below B W W') (hb : B ≤ b) (u0 u1 u2 : Value) : Below B W (st3 W' b u0 u1 u2) :=
 (((h).setCell (p := ⟨b, 0, none⟩) hb u0).setCell (p := ⟨b, 1, none⟩) hb u1).setCell (p := ⟨b, 2, none⟩) hb u2
theorem size_st3 (W : World) (b : Nat) (u0 u1 u2 : Value) : (st3 W b u0 u1 u2).heap.size = W.heap.size := by simp [st3, World.setCell]
theorem far_st3 {W : World} {b k : Nat} (h : k ≠ b) (u0 u1 u2 : Value) : (st3 W b u0 u1 u2).heap[k]? = W.heap[k]? := by
 unfold st3
 rw [Below.heap_setCell _ _ _ _ h, Below.heap_setCell _ _ _ _ h, Below.heap_setCell _ _ _ _ h]
/-! ### within, May -/
theorem within_any (x l m : Int) (w : World) : Calls Tryz.prog 135 #[.int .i64 x, .int .i64 l, .int .i64 m] w fun e w' => e = .returned (.bool (win x l m)) ∧ w = w' := by
 by_cases h1 : l ≤ x
 ·by_cases h2 : x ≤ m
  ·have e : win x l m = true := by simp [win, h1, h2]
   have h3 : x ≥ l := h1
   rw [e]
   go_enter Tryz.func135, Tryz.ntmps135
   go_wp2
   go_ret
   exact ⟨rfl, rfl⟩
  ·have e : win x l m = false := by simp [win]; omega
   have h3 : x ≥ l := h1
   rw [e]
   go_enter Tryz.func135, Tryz.ntmps135
   go_wp2
   go_ret
   exact ⟨rfl, rfl⟩
 ·have e : win x l m = false := by simp [win, h1]
  have h3 : ¬ (x ≥ l) := h1
  rw [e]
  go_enter Tryz.func135, Tryz.ntmps135
  go_wp2
  go_ret
  exact ⟨rfl, rfl⟩
set_option maxRecDepth 100000 in
theorem may_any (h : Hd) (w : World) :
  Calls Tryz.prog 116 #[.agg #[.int .i64 h.a, .int .i64 h.o, .int .i64 h.t, .int .u32 h.i, .int .u32 h.v, .int .u32 h.q, .int .i64 h.s, .int .i64 h.n]] w fun e w' => e = .returned (.bool (mayd h)) ∧ Below w.heap.size w w' := by
 have HM : Hid (mayd h = (win h.a 0 3600 && win h.o 0 255 && win h.t 1 7 && decide (h.t ≠ 6) && win h.s 0 65535 && win h.n 20 1400)) := Lib.hid rfl
 obtain ⟨W0, hW0⟩ : ∃ V, w.alloc (.cells #[.int .i64 h.a, .int .i64 h.o, .int .i64 h.t, .int .u32 h.i, .int .u32 h.v, .int .u32 h.q, .int .i64 h.s, .int .i64 h.n] 37) = V := ⟨_, rfl⟩
 have bW0 : Below w.heap.size w W0 := by rw [← hW0]; exact below_alloc1 _ _
 have sW0 : W0.heap.size = w.heap.size + 1 := by rw [← hW0]; simp
 have KX : Hid (∀ V, Below W0.heap.size W0 V → V.cell? ⟨w.heap.size, 0, none⟩ = some (.int .i64 h.a) ∧ V.cell? ⟨w.heap.size, 1, none⟩ = some (.int .i64 h.o) ∧ V.cell? ⟨w.heap.size, 2, none⟩ = some (.int .i64 h.t) ∧ V.cell? ⟨w.heap.size, 3, none⟩ = some (.int .u32 h.i) ∧ V.cell? ⟨w.heap.size, 4, none⟩ = some (.int .u32 h.v) ∧ V.cell? ⟨w.heap.size, 5, none⟩ = some (.int .u32 h.q) ∧ V.cell? ⟨w.heap.size, 6, none⟩ = some (.int .i64 h.s) ∧ V.cell? ⟨w.heap.size, 7, none⟩ = some (.int .i64 h.n)) := Lib.hid (fun V hV => kb8_new hW0 hV)
 obtain ⟨k0, k1, k2, k3, k4, k5, k6, k7⟩ := KX.out _ (Below.refl _ _)
 obtain ⟨T1, hT1⟩ : ∃ T, win h.a 0 3600 = T := ⟨_, rfl⟩
 obtain ⟨T2, hT2⟩ : ∃ T, win h.o 0 255 = T := ⟨_, rfl⟩
 obtain ⟨T3, hT3⟩ : ∃ T, win h.t 1 7 = T := ⟨_, rfl⟩
 obtain ⟨T4, hT4⟩ : ∃ T, win h.s 0 65535 = T := ⟨_, rfl⟩
 obtain ⟨T5, hT5⟩ : ∃ T, win h.n 20 1400 = T := ⟨_, rfl⟩
 have H1 := Lib.hid hT1
 have H2 := Lib.hid hT2
 have H3 := Lib.hid hT3
 have H4 := Lib.hid hT4
 have H5 := Lib.hid hT5
 clear hT1 hT2 hT3 hT4 hT5 KX
 cases T1
 ·go_enter Tryz.func116, Tryz.ntmps116
  go_wp2_with fail
  refine (within_any _ _ _ _).mono ?_
  rintro e w1 ⟨rfl, rfl⟩
  rw [H1.out]
  go_wp2
  go_ret
  exact ⟨ret_bool (by rw [HM.out, H1.out, H2.out, H3.out, H4.out, H5.out]; simp), bW0⟩
 cases T2
 ·go_enter Tryz.func116, Tryz.ntmps116
  go_wp2_with fail
  refine (within_any _ _ _ _).mono ?_
  rintro e w1 ⟨rfl, rfl⟩
  rw [H1.out]
  go_wp2_with fail
  refine (within_any _ _ _ _).mono ?_
  rintro e w2 ⟨rfl, rfl⟩
  rw [H2.out]
  go_wp2
  go_ret
  exact ⟨ret_bool (by rw [HM.out, H1.out, H2.out, H3.out, H4.out, H5.out]; simp), bW0⟩
 cases T3
 ·go_enter Tryz.func116, Tryz.ntmps116
  go_wp2_with fail
  refine (within_any _ _ _ _).mono ?_
  rintro e w1 ⟨rfl, rfl⟩
  rw [H1.out]
  go_wp2_with fail
  refine (within_any _ _ _ _).mono ?_
  rintro e w2 ⟨rfl, rfl⟩
  rw [H2.out]
  go_wp2_with fail
  refine (within_any _ _ _ _).mono ?_
  rintro e w3 ⟨rfl, rfl⟩
  rw [H3.out]
  go_wp2
  go_ret
  exact ⟨ret_bool (by rw [HM.out, H1.out, H2.out, H3.out, H4.out, H5.out]; simp), bW0⟩
 by_cases h6 : h.t = 6
 ·have d6 : (h.t == 6) = true := by simpa using h6
  have e6 : (h.t != 6) = false := by simp [bne, d6]
  have HN : Hid (decide (h.t ≠ 6) = false) := Lib.hid (by simpa using h6)
  clear h6
  go_enter Tryz.func116, Tryz.ntmps116
  go_wp2_with fail
  refine (within_any _ _ _ _).mono ?_
  rintro e w1 ⟨rfl, rfl⟩
  rw [H1.out]
  go_wp2_with fail
  refine (within_any _ _ _ _).mono ?_
  rintro e w2 ⟨rfl, rfl⟩
  rw [H2.out]
  go_wp2_with fail
  refine (within_any _ _ _ _).mono ?_
  rintro e w3 ⟨rfl, rfl⟩
  rw [H3.out]
  go_wp2
  go_ret
  exact ⟨ret_bool (by rw [HM.out, H1.out, H2.out, H3.out, H4.out, H5.out]; rw [HN.out]; simp), bW0⟩
 have d6 : (h.t == 6) = false := by simpa using h6
 have e6 : (h.t != 6) = true := by simp [bne, d6]
 have HN : Hid (decide (h.t ≠ 6) = true) := Lib.hid (by simpa using h6)
 clear h6
 cases T4
 ·go_enter Tryz.func116, Tryz.ntmps116
  go_wp2_with fail
  refine (within_any _ _ _ _).mono ?_
  rintro e w1 ⟨rfl, rfl⟩
  rw [H1.out]
  go_wp2_with fail
  refine (within_any _ _ _ _).mono ?_
  rintro e w2 ⟨rfl, rfl⟩
  rw [H2.out]
  go_wp2_with fail
  refine (within_any _ _ _ _).mono ?_
  rintro e w3 ⟨rfl, rfl⟩
  rw [H3.out]
  go_wp2_with fail
  refine (within_any _ _ _ _).mono ?_
  rintro e w4 ⟨rfl, rfl⟩
  rw [H4.out]
  go_wp2
  go_ret
  exact ⟨ret_bool (by rw [HM.out, H1.out, H2.out, H3.out, H4.out, H5.out]; rw [HN.out]; simp), bW0⟩
 cases T5
 ·go_enter Tryz.func116, Tryz.ntmps116
  go_wp2_with fail
  refine (within_any _ _ _ _).mono ?_
  rintro e w1 ⟨rfl, rfl⟩
  rw [H1.out]
  go_wp2_with fail
  refine (within_any _ _ _ _).mono ?_
  rintro e w2 ⟨rfl, rfl⟩
  rw [H2.out]
  go_wp2_with fail
  refine (within_any _ _ _ _).mono ?_
  rintro e w3 ⟨rfl, rfl⟩
  rw [H3.out]
  go_wp2_with fail
  refine (within_any _ _ _ _).mono ?_
  rintro e w4 ⟨rfl, rfl⟩
  rw [H4.out]
  go_wp2_with fail
  refine (within_any _ _ _ _).mono ?_
  rintro e w5 ⟨rfl, rfl⟩
  rw [H5.out]
  go_wp2
  go_ret
  exact ⟨ret_bool (by rw [HM.out, H1.out, H2.out, H3.out, H4.out, H5.out]; rw [HN.out]; simp), bW0⟩
 ·go_enter Tryz.func116, Tryz.ntmps116
  go_wp2_with fail
  refine (within_any _ _ _ _).mono ?_
  rintro e w1 ⟨rfl, rfl⟩
  rw [H1.out]
  go_wp2_with fail
  refine (within_any _ _ _ _).mono ?_
  rintro e w2 ⟨rfl, rfl⟩
  rw [H2.out]
  go_wp2_with fail
  refine (within_any _ _ _ _).mono ?_
  rintro e w3 ⟨rfl, rfl⟩
  rw [H3.out]
  go_wp2_with fail
  refine (within_any _ _ _ _).mono ?_
  rintro e w4 ⟨rfl, rfl⟩
  rw [H4.out]
  go_wp2_with fail
  refine (within_any _ _ _ _).mono ?_
  rintro e w5 ⟨rfl, rfl⟩
  rw [H5.out]
  go_wp2
  go_ret
  exact ⟨ret_bool (by rw [HM.out, H1.out, H2.out, H3.out, H4.out, H5.out]; rw [HN.out]; simp), bW0⟩
set_option maxRecDepth 100000 in
theorem rmay_any (h : Hd) (w : World) :
  Calls Tryz.prog 87 #[.agg #[.int .i64 h.a, .int .i64 h.o, .int .i64 h.t, .int .u32 h.i, .int .u32 h.v, .int .u32 h.q, .int .i64 h.s, .int .i64 h.n]] w fun e w' => e = .returned (.bool (mayd h)) ∧ Below w.heap.size w w' := by
 have HM : Hid (mayd h = (win h.a 0 3600 && win h.o 0 255 && win h.t 1 7 && decide (h.t ≠ 6) && win h.s 0 65535 && win h.n 20 1400)) := Lib.hid rfl
 obtain ⟨W0, hW0⟩ : ∃ V, w.alloc (.cells #[.int .i64 h.a, .int .i64 h.o, .int .i64 h.t, .int .u32 h.i, .int .u32 h.v, .int .u32 h.q, .int .i64 h.s, .int .i64 h.n] 37) = V := ⟨_, rfl⟩
 have bW0 : Below w.heap.size w W0 := by rw [← hW0]; exact below_alloc1 _ _
 have sW0 : W0.heap.size = w.heap.size + 1 := by rw [← hW0]; simp
 have KX : Hid (∀ V, Below W0.heap.size W0 V → V.cell? ⟨w.heap.size, 0, none⟩ = some (.int .i64 h.a) ∧ V.cell? ⟨w.heap.size, 1, none⟩ = some (.int .i64 h.o) ∧ V.cell? ⟨w.heap.size, 2, none⟩ = some (.int .i64 h.t) ∧ V.cell? ⟨w.heap.size, 3, none⟩ = some (.int .u32 h.i) ∧ V.cell? ⟨w.heap.size, 4, none⟩ = some (.int .u32 h.v) ∧ V.cell? ⟨w.heap.size, 5, none⟩ = some (.int .u32 h.q) ∧ V.cell? ⟨w.heap.size, 6, none⟩ = some (.int .i64 h.s) ∧ V.cell? ⟨w.heap.size, 7, none⟩ = some (.int .i64 h.n)) := Lib.hid (fun V hV => kb8_new hW0 hV)
 obtain ⟨k0, k1, k2, k3, k4, k5, k6, k7⟩ := KX.out _ (Below.refl _ _)
 clear KX
 by_cases a1 : h.a ≥ 0
 case neg =>
  go_enter Tryz.func87, Tryz.ntmps87
  go_wp2
  go_ret
  exact ⟨ret_bool (by rw [HM.out]; unfold win; (simp <;> omega)), bW0⟩
 by_cases a2 : h.a ≤ 3600
 case neg =>
  go_enter Tryz.func87, Tryz.ntmps87
  go_wp2
  go_ret
  exact ⟨ret_bool (by rw [HM.out]; unfold win; (simp <;> omega)), bW0⟩
 by_cases o1 : h.o ≥ 0
 case neg =>
  go_enter Tryz.func87, Tryz.ntmps87
  go_wp2
  go_ret
  exact ⟨ret_bool (by rw [HM.out]; unfold win; (simp <;> omega)), bW0⟩
 by_cases o2 : h.o ≤ 255
 case neg =>
  go_enter Tryz.func87, Tryz.ntmps87
  go_wp2
  go_ret
  exact ⟨ret_bool (by rw [HM.out]; unfold win; (simp <;> omega)), bW0⟩
 by_cases t1 : h.t ≥ 1
 case neg =>
  go_enter Tryz.func87, Tryz.ntmps87
  go_wp2
  go_ret
  exact ⟨ret_bool (by rw [HM.out]; unfold win; (simp <;> omega)), bW0⟩
 by_cases t2 : h.t ≤ 7
 case neg =>
  go_enter Tryz.func87, Tryz.ntmps87
  go_wp2
  go_ret
  exact ⟨ret_bool (by rw [HM.out]; unfold win; (simp <;> omega)), bW0⟩
 by_cases h6 : h.t = 6
 case pos =>
  have d6 : (h.t == 6) = true := by simpa using h6
  have e6 : (h.t != 6) = false := by simp [bne, d6]
  have HN : Hid (decide (h.t ≠ 6) = false) := Lib.hid (by simpa using h6)
  clear h6
  go_enter Tryz.func87, Tryz.ntmps87
  go_wp2
  go_ret
  exact ⟨ret_bool (by rw [HM.out]; unfold win; rw [HN.out]; simp), bW0⟩
 have d6 : (h.t == 6) = false := by simpa using h6
 have e6 : (h.t != 6) = true := by simp [bne, d6]
 have HN : Hid (decide (h.t ≠ 6) = true) := Lib.hid (by simpa using h6)
 clear h6
 by_cases s1 : h.s ≥ 0
 case neg =>
  go_enter Tryz.func87, Tryz.ntmps87
  go_wp2
  go_ret
  exact ⟨ret_bool (by rw [HM.out]; unfold win; rw [HN.out]; (simp <;> omega)), bW0⟩
 by_cases s2 : h.s ≤ 65535
 case neg =>
  go_enter Tryz.func87, Tryz.ntmps87
  go_wp2
  go_ret
  exact ⟨ret_bool (by rw [HM.out]; unfold win; rw [HN.out]; (simp <;> omega)), bW0⟩
 by_cases n1 : h.n ≥ 20
 case neg =>
  go_enter Tryz.func87, Tryz.ntmps87
  go_wp2
  go_ret
  exact ⟨ret_bool (by rw [HM.out]; unfold win; rw [HN.out]; (simp <;> omega)), bW0⟩
 by_cases n2 : h.n ≤ 1400
 case neg =>
  go_enter Tryz.func87, Tryz.ntmps87
  go_wp2
  go_ret
  exact ⟨ret_bool (by rw [HM.out]; unfold win; rw [HN.out]; (simp <;> omega)), bW0⟩
 go_enter Tryz.func87, Tryz.ntmps87
 go_wp2
 go_ret
 exact ⟨ret_bool (by rw [HM.out]; unfold win; rw [HN.out]; (simp <;> omega)), bW0⟩
/-! ### field, number -/
theorem field_any (n m : Int) (k : Nat) (w : World) (hk : m.toNat = k) (h1 : 1 ≤ m) (h2 : m ≤ 4) (h3 : 0 ≤ n) (h4 : n < 4294967296) (h5 : n < 256 ^ k) :
  Calls Tryz.prog 117 #[.int .u32 n, .int .i64 m] w fun e w' => ∃ A' c', e = .returned (.slice A' k c') ∧ Own .u8 5 w' w.heap.size A' c' (be n k) ∧ Below w.heap.size w w' := by
 subst hk
 have e1 : putE n m = 0 := by
  unfold putE
  rw [if_neg (by omega), if_neg (by omega)]
 have e2 : putL [] n m = be n m.toNat := by simp [putL, e1]
 have hc := put_any none 0 [] w.heap.size n m w (Bs.nil _) (Nat.le_refl _) (by simp) h3 h4
 rw [e1, e2, be_length] at hc
 clear e1 e2 h5
 go_enter Tryz.func117, Tryz.ntmps117
 go_wp2_with fail
 refine hc.mono ?_
 rintro e w' ⟨A', c', rfl, ho, hb⟩
 go_wp2
 go_ret
 exact ⟨A', c', rfl, ho, hb⟩
theorem number_any (A : Option Addr) (n c : Nat) (l : List Int) (w : World) (hb : Bt w A l) (hy : Byt l) (hn : l.length = n) (hc : n ≤ c) (h1 : 1 ≤ n) (h2 : n ≤ 4) :
  Calls Tryz.prog 71 #[.slice A n c] w fun e w' => e = .returned (.int .u32 (num l)) ∧ Below w.heap.size w w' := by
 subst hn
 have e1 : takeE l l.length = 0 := by
  unfold takeE
  rw [if_neg (by omega), if_neg (by omega)]
 have e2 : takeN l l.length = num l := by simp [takeN, e1]
 have hcc := take_any A c l w.heap.size l.length w hb hy hc (Nat.le_refl _) (by omega)
 rw [e1, e2] at hcc
 generalize takeL l l.length = T at hcc
 clear e1 e2
 go_enter Tryz.func71, Tryz.ntmps71
 go_wp2_with fail
 refine hcc.mono ?_
 rintro e w' ⟨A', c', rfl, ho, hb'⟩
 go_wp2
 go_ret
 exact ⟨rfl, hb'⟩
/-! ### Next, Key -/
def nxt (q : Int) : Int := if q = 2147483647 then 0 else (q + 1) % 4294967296
def nxtE (q : Int) : Int := if q = 2147483647 then 5 else 0
set_option maxRecDepth 100000 in
theorem key_any (h : Hd) (w : World) : Calls Tryz.prog 43 #[.agg #[.int .i64 h.a, .int .i64 h.o, .int .i64 h.t, .int .u32 h.i, .int .u32 h.v, .int .u32 h.q, .int .i64 h.s, .int .i64 h.n]] w fun e w' => e = .returned (.agg #[.int .i64 h.t, .int .u32 h.i, .int .u32 h.v]) ∧ Below w.heap.size w w' := by
 obtain ⟨W0, hW0⟩ : ∃ V, w.alloc (.cells #[.int .i64 h.a, .int .i64 h.o, .int .i64 h.t, .int .u32 h.i, .int .u32 h.v, .int .u32 h.q, .int .i64 h.s, .int .i64 h.n] 37) = V := ⟨_, rfl⟩
 have bW0 : Below w.heap.size w W0 := by rw [← hW0]; exact below_alloc1 _ _
 have sW0 : W0.heap.size = w.heap.size + 1 := by rw [← hW0]; simp
 have KX : Hid (∀ V, Below W0.heap.size W0 V → V.cell? ⟨w.heap.size, 0, none⟩ = some (.int .i64 h.a) ∧ V.cell? ⟨w.heap.size, 1, none⟩ = some (.int .i64 h.o) ∧ V.cell? ⟨w.heap.size, 2, none⟩ = some (.int .i64 h.t) ∧ V.cell? ⟨w.heap.size, 3, none⟩ = some (.int .u32 h.i) ∧ V.cell? ⟨w.heap.size, 4, none⟩ = some (.int .u32 h.v) ∧ V.cell? ⟨w.heap.size, 5, none⟩ = some (.int .u32 h.q) ∧ V.cell? ⟨w.heap.size, 6, none⟩ = some (.int .i64 h.s) ∧ V.cell? ⟨w.heap.size, 7, none⟩ = some (.int .i64 h.n)) := Lib.hid (fun V hV => kb8_new hW0 hV)
 obtain ⟨W1, hW1⟩ : ∃ V, W0.alloc (.cells #[Value.int .i64 0, .int .u32 0, .int .u32 0] 25) = V := ⟨_, rfl⟩
 have b1 : Below W0.heap.size W0 W1 := by rw [← hW1]; exact below_alloc1 _ _
 have B1 : Hid (Below w.heap.size w W1) := Lib.hid (bW0.trans (b1.mono bW0.size))
 obtain ⟨k0, k1, k2, k3, k4, k5, k6, k7⟩ := KX.out _ b1
 obtain ⟨k, hk⟩ : ∃ k, W0.heap.size = k := ⟨_, rfl⟩
 have hz : W1.heap[k]? = some (.cells #[Value.int .i64 0, .int .u32 0, .int .u32 0] 25) := by rw [← hW1, ← hk]; exact alloc_at _ _ _ rfl
 obtain ⟨y0, y1, y2, f0, f1, f2, hzl⟩ := kz3_at hz
 obtain ⟨r0, r1, r2⟩ := kz3_get hz (Value.int .i64 h.t) (.int .u32 h.i) (.int .u32 h.v)
 have HF : Hid (Below w.heap.size w (st3 W1 k (Value.int .i64 h.t) (.int .u32 h.i) (.int .u32 h.v))) := Lib.hid (below_st3 B1.out (by omega) _ _ _)
 clear KX bW0 b1 B1 sW0 hz
 go_enter Tryz.func43, Tryz.ntmps43
 go_wp2
 refine bodyPost_ret (v := .agg #[.int .i64 h.t, .int .u32 h.i, .int .u32 h.v]) (by simp [results, Tryz.results43, go_sem, r0, r1, r2]) rfl ⟨rfl, HF.out⟩
set_option maxRecDepth 100000 in
theorem rkey_any (h : Hd) (w : World) : Calls Tryz.prog 39 #[.agg #[.int .i64 h.a, .int .i64 h.o, .int .i64 h.t, .int .u32 h.i, .int .u32 h.v, .int .u32 h.q, .int .i64 h.s, .int .i64 h.n]] w fun e w' => e = .returned (.agg #[.int .i64 h.t, .int .u32 h.i, .int .u32 h.v]) ∧ Below w.heap.size w w' := by
 obtain ⟨W0, hW0⟩ : ∃ V, w.alloc (.cells #[.int .i64 h.a, .int .i64 h.o, .int .i64 h.t, .int .u32 h.i, .int .u32 h.v, .int .u32 h.q, .int .i64 h.s, .int .i64 h.n] 37) = V := ⟨_, rfl⟩
 have bW0 : Below w.heap.size w W0 := by rw [← hW0]; exact below_alloc1 _ _
 have sW0 : W0.heap.size = w.heap.size + 1 := by rw [← hW0]; simp
 have KX : Hid (∀ V, Below W0.heap.size W0 V → V.cell? ⟨w.heap.size, 0, none⟩ = some (.int .i64 h.a) ∧ V.cell? ⟨w.heap.size, 1, none⟩ = some (.int .i64 h.o) ∧ V.cell? ⟨w.heap.size, 2, none⟩ = some (.int .i64 h.t) ∧ V.cell? ⟨w.heap.size, 3, none⟩ = some (.int .u32 h.i) ∧ V.cell? ⟨w.heap.size, 4, none⟩ = some (.int .u32 h.v) ∧ V.cell? ⟨w.heap.size, 5, none⟩ = some (.int .u32 h.q) ∧ V.cell? ⟨w.heap.size, 6, none⟩ = some (.int .i64 h.s) ∧ V.cell? ⟨w.heap.size, 7, none⟩ = some (.int .i64 h.n)) := Lib.hid (fun V hV => kb8_new hW0 hV)
 obtain ⟨W1, hW1⟩ : ∃ V, W0.alloc (.cells #[Value.int .i64 0, .int .u32 0, .int .u32 0] 25) = V := ⟨_, rfl⟩
 have b1 : Below W0.heap.size W0 W1 := by rw [← hW1]; exact below_alloc1 _ _
 have B1 : Hid (Below w.heap.size w W1) := Lib.hid (bW0.trans (b1.mono bW0.size))
 obtain ⟨k0, k1, k2, k3, k4, k5, k6, k7⟩ := KX.out _ b1
 obtain ⟨k, hk⟩ : ∃ k, W0.heap.size = k := ⟨_, rfl⟩
 have hz : W1.heap[k]? = some (.cells #[Value.int .i64 0, .int .u32 0, .int .u32 0] 25) := by rw [← hW1, ← hk]; exact alloc_at _ _ _ rfl
 obtain ⟨y0, y1, y2, f0, f1, f2, hzl⟩ := kz3_at hz
 obtain ⟨r0, r1, r2⟩ := kz3_get hz (Value.int .i64 h.t) (.int .u32 h.i) (.int .u32 h.v)
 have HF : Hid (Below w.heap.size w (st3 W1 k (Value.int .i64 h.t) (.int .u32 h.i) (.int .u32 h.v))) := Lib.hid (below_st3 B1.out (by omega) _ _ _)
 clear KX bW0 b1 B1 sW0 hz
 go_enter Tryz.func39, Tryz.ntmps39
 go_wp2
 refine bodyPost_ret (v := .agg #[.int .i64 h.t, .int .u32 h.i, .int .u32 h.v]) (by simp [results, Tryz.results39, go_sem, r0, r1, r2]) rfl ⟨rfl, HF.out⟩
/-! ### two -/
theorem two_any (n : Int) (w : World) (h0 : 0 ≤ n) (h1 : n < 65536) :
  Calls Tryz.prog 85 #[.int .i64 n] w fun e w' => ∃ A' c', e = .returned (.slice A' 2 c') ∧ Own .u8 5 w' w.heap.size A' c' (be n 2) ∧ Below w.heap.size w w' := by
 obtain ⟨W0, hW0⟩ : ∃ W0, w.alloc (.cells #[.int .u8 (n / 256), .int .u8 (n % 256)] 5) = W0 := ⟨_, rfl⟩
 have b0 : Below w.heap.size w W0 := by rw [← hW0]; exact below_alloc1 _ _
 have o0 : Own .u8 5 W0 w.heap.size (some ⟨w.heap.size, 0, none⟩) 2 (be n 2) := by
  rw [be2 n h0 h1, ← hW0]
  exact Own.lit w w.heap.size (Nat.le_refl _) [n / 256, n % 256] (by simp [maxLen])
 go_enter Tryz.func85, Tryz.ntmps85
 go_wp2
 go_ret
 exact ⟨_, _, rfl, o0, b0⟩
end Go.Proofs.YtadcicmccdphkaaGreat
namespace Go.Proofs.YtadcicmccdphkaaGreat
open Go.RowKit Go.Joins

structure Ky where
 (t i v : Int)
structure Ae where
 h : Hd
 A : Option Addr
 c : Nat
 l : List Int
/-! ### Rows of h -/
abbrev hcs (x : Hd) : List Value := [.int .i64 x.a, .int .i64 x.o, .int .i64 x.t, .int .u32 x.i, .int .u32 x.v, .int .u32 x.q, .int .i64 x.s, .int .i64 x.n]
theorem hcs_len (x : Hd) : (hcs x).length = 8 := rfl
def hflat (L : List Hd) : List Value := L.flatMap hcs
theorem hflat_length (L : List Hd) : (hflat L).length = L.length * 8 := fm_len hcs_len L
theorem hflat_snoc (L : List Hd) (x : Hd) : hflat (L ++ [x]) = hflat L ++ hcs x := by simp [hflat]
theorem hcs_one (x : Hd) : ∀ u ∈ hcs x, u.oneCell' = true := by
 intro u hu
 simp only [hcs, List.mem_cons, List.not_mem_nil, or_false] at hu
 rcases hu with rfl | rfl | rfl | rfl | rfl | rfl | rfl | rfl <;> rfl
def hg (L : List Hd) (k : Nat) : Hd := L.getD k ⟨0, 0, 0, 0, 0, 0, 0, 0⟩
theorem hg_eq {L : List Hd} {k : Nat} (h : k < L.length) : hg L k = L[k] := by simp [hg, List.getD, h]
theorem hrd_at {w : World} {A : Option Addr} {L : List Hd} (h : Rd (fun _ => True) w A (hflat L)) {i : Nat} (hi : i < L.length) :
  ∃ b off, A = some ⟨b, off, none⟩ ∧ b < w.heap.size ∧ w.cell? ⟨b, off + i * 8, none⟩ = some (.int .i64 (hg L i).a) ∧ w.cell? ⟨b, off + i * 8 + 1, none⟩ = some (.int .i64 (hg L i).o) ∧ w.cell? ⟨b, off + i * 8 + 2, none⟩ = some (.int .i64 (hg L i).t) ∧ w.cell? ⟨b, off + i * 8 + 3, none⟩ = some (.int .u32 (hg L i).i) ∧ w.cell? ⟨b, off + i * 8 + 4, none⟩ = some (.int .u32 (hg L i).v) ∧ w.cell? ⟨b, off + i * 8 + 5, none⟩ = some (.int .u32 (hg L i).q) ∧ w.cell? ⟨b, off + i * 8 + 6, none⟩ = some (.int .i64 (hg L i).s) ∧ w.cell? ⟨b, off + i * 8 + 7, none⟩ = some (.int .i64 (hg L i).n) := by
 obtain ⟨b, off, rfl, hlt, hc⟩ := fm_at hcs_len (by omega) h hi
 rw [hg_eq hi]
 exact ⟨b, off, rfl, hlt, hc 0 _ rfl, hc 1 _ rfl, hc 2 _ rfl, hc 3 _ rfl, hc 4 _ rfl, hc 5 _ rfl, hc 6 _ rfl, hc 7 _ rfl⟩
/-! ### Rows of k -/
abbrev kcs (x : Ky) : List Value := [.int .i64 x.t, .int .u32 x.i, .int .u32 x.v]
theorem kcs_len (x : Ky) : (kcs x).length = 3 := rfl
def kflat (L : List Ky) : List Value := L.flatMap kcs
theorem kflat_length (L : List Ky) : (kflat L).length = L.length * 3 := fm_len kcs_len L
theorem kflat_snoc (L : List Ky) (x : Ky) : kflat (L ++ [x]) = kflat L ++ kcs x := by simp [kflat]
theorem kcs_one (x : Ky) : ∀ u ∈ kcs x, u.oneCell' = true := by
 intro u hu
 simp only [kcs, List.mem_cons, List.not_mem_nil, or_false] at hu
 rcases hu with rfl | rfl | rfl <;> rfl
def kg (L : List Ky) (k : Nat) : Ky := L.getD k ⟨0, 0, 0⟩
theorem kg_eq {L : List Ky} {k : Nat} (h : k < L.length) : kg L k = L[k] := by simp [kg, List.getD, h]
theorem krd_at {w : World} {A : Option Addr} {L : List Ky} (h : Rd (fun _ => True) w A (kflat L)) {i : Nat} (hi : i < L.length) :
  ∃ b off, A = some ⟨b, off, none⟩ ∧ b < w.heap.size ∧ w.cell? ⟨b, off + i * 3, none⟩ = some (.int .i64 (kg L i).t) ∧ w.cell? ⟨b, off + i * 3 + 1, none⟩ = some (.int .u32 (kg L i).i) ∧ w.cell? ⟨b, off + i * 3 + 2, none⟩ = some (.int .u32 (kg L i).v) := by
 obtain ⟨b, off, rfl, hlt, hc⟩ := fm_at kcs_len (by omega) h hi
 rw [kg_eq hi]
 exact ⟨b, off, rfl, hlt, hc 0 _ rfl, hc 1 _ rfl, hc 2 _ rfl⟩
/-! ### Rows of a -/
abbrev acs (x : Ae) : List Value := [.int .i64 x.h.a, .int .i64 x.h.o, .int .i64 x.h.t, .int .u32 x.h.i, .int .u32 x.h.v, .int .u32 x.h.q, .int .i64 x.h.s, .int .i64 x.h.n, .slice x.A x.l.length x.c]
theorem acs_len (x : Ae) : (acs x).length = 9 := rfl
def aflat (L : List Ae) : List Value := L.flatMap acs
theorem aflat_length (L : List Ae) : (aflat L).length = L.length * 9 := fm_len acs_len L
theorem aflat_snoc (L : List Ae) (x : Ae) : aflat (L ++ [x]) = aflat L ++ acs x := by simp [aflat]
theorem acs_one (x : Ae) : ∀ u ∈ acs x, u.oneCell' = true := by
 intro u hu
 simp only [acs, List.mem_cons, List.not_mem_nil, or_false] at hu
 rcases hu with rfl | rfl | rfl | rfl | rfl | rfl | rfl | rfl | rfl <;> rfl
def ag (L : List Ae) (k : Nat) : Ae := L.getD k ⟨⟨0, 0, 0, 0, 0, 0, 0, 0⟩, none, 0, []⟩
theorem ag_eq {L : List Ae} {k : Nat} (h : k < L.length) : ag L k = L[k] := by simp [ag, List.getD, h]
theorem ag_mem {L : List Ae} {k : Nat} (h : k < L.length) : ag L k ∈ L := by rw [ag_eq h]; exact List.getElem_mem h
theorem atake {L : List Ae} {k : Nat} (h : k < L.length) : L.take (k + 1) = L.take k ++ [ag L k] := by rw [List.take_succ_eq_append_getElem h, ag_eq h]
theorem ard_at {w : World} {A : Option Addr} {L : List Ae} (h : Rd (fun _ => True) w A (aflat L)) {i : Nat} (hi : i < L.length) :
  ∃ b off, A = some ⟨b, off, none⟩ ∧ b < w.heap.size ∧ w.cell? ⟨b, off + i * 9, none⟩ = some (.int .i64 (ag L i).h.a) ∧ w.cell? ⟨b, off + i * 9 + 1, none⟩ = some (.int .i64 (ag L i).h.o) ∧ w.cell? ⟨b, off + i * 9 + 2, none⟩ = some (.int .i64 (ag L i).h.t) ∧ w.cell? ⟨b, off + i * 9 + 3, none⟩ = some (.int .u32 (ag L i).h.i) ∧ w.cell? ⟨b, off + i * 9 + 4, none⟩ = some (.int .u32 (ag L i).h.v) ∧ w.cell? ⟨b, off + i * 9 + 5, none⟩ = some (.int .u32 (ag L i).h.q) ∧ w.cell? ⟨b, off + i * 9 + 6, none⟩ = some (.int .i64 (ag L i).h.s) ∧ w.cell? ⟨b, off + i * 9 + 7, none⟩ = some (.int .i64 (ag L i).h.n) ∧ w.cell? ⟨b, off + i * 9 + 8, none⟩ = some (.slice (ag L i).A (ag L i).l.length (ag L i).c) := by
 obtain ⟨b, off, rfl, hlt, hc⟩ := fm_at acs_len (by omega) h hi
 rw [ag_eq hi]
 exact ⟨b, off, rfl, hlt, hc 0 _ rfl, hc 1 _ rfl, hc 2 _ rfl, hc 3 _ rfl, hc 4 _ rfl, hc 5 _ rfl, hc 6 _ rfl, hc 7 _ rfl, hc 8 _ rfl⟩
def hRr (w : World) (A : Option Addr) (L : List Hd) : Prop := Rd (fun _ => True) w A (hflat L)
theorem hRr.step {w w' : World} {A : Option Addr} {L : List Hd} (h : hRr w A L) (k : Below w.heap.size w w') : hRr w' A L := Rd.keep h k.size fun j _ hj => k.block j hj
def kRr (w : World) (A : Option Addr) (L : List Ky) : Prop := Rd (fun _ => True) w A (kflat L)
theorem kRr.step {w w' : World} {A : Option Addr} {L : List Ky} (h : kRr w A L) (k : Below w.heap.size w w') : kRr w' A L := Rd.keep h k.size fun j _ hj => k.block j hj
def encs (L : List Hd) : List Int := L.flatMap ehd
def mays (L : List Hd) : Bool := L.all mayd
def phE (L : List Hd) (a b : Int) : Int := if (win (L.length : Int) a b && mays L) = true then 0 else 1
def phL (L : List Hd) (a b : Int) : List Int := if phE L a b = 0 then encs L else []
/-! ### Contracts -/
end Go.Proofs.YtadcicmccdphkaaGreat
