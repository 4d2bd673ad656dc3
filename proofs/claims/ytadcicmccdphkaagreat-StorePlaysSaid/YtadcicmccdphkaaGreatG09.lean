/-
  Bodies as plain numbers; contracts of the small functions of package body and of its reference. Whether a router's body may be: slices.IndexFunc and slices.ContainsFunc at links, body.mayRouter, and the reference's MayRouter. No statement is proved here; no conditions.
-/
import Derived.Test.YtadcicmccdphkaaGreatG04
import Derived.Test.YtadcicmccdphkaaGreatG08
import Derived.Lib.SliceRun
import Derived.Lib.Bytes
import Derived.Deep.LoopGhost
namespace Go.Proofs.YtadcicmccdphkaaGreat
open Go.RowKit Go.Joins

/-! ### A block of 2 cells -/
theorem kb2_new {w W0 W : World} {t : TypeId} {v0 v1 : Value} (h0 : w.alloc (.cells #[v0, v1] t) = W0) (h : Below W0.heap.size W0 W) :
  W.cell? ⟨w.heap.size, 0, none⟩ = some v0 ∧ W.cell? ⟨w.heap.size, 1, none⟩ = some v1 := by
 subst h0
 have k := (h.block w.heap.size (by simp)).trans (alloc_at _ _ _ rfl)
 exact ⟨(cell_of_block k 0).trans rfl, (cell_of_block k 1).trans rfl⟩
theorem kz2_at {W : World} {b : Nat} {t : TypeId} {v0 v1 : Value} (h : W.heap[b]? = some (.cells #[v0, v1] t)) :
  W.cell? ⟨b, 0, none⟩ = some v0 ∧ W.cell? ⟨b, 1, none⟩ = some v1 ∧ W.frozen? ⟨b, 0, none⟩ = false ∧ W.frozen? ⟨b, 1, none⟩ = false ∧ b < W.heap.size :=
 ⟨(cell_of_block h 0).trans rfl, (cell_of_block h 1).trans rfl, unfrozen_of_block h 0, unfrozen_of_block h 1, lt_of_block h⟩
abbrev st2 (W : World) (b : Nat) (u0 u1 : Value) : World := ((W).setCell ⟨b, 0, none⟩ u0).setCell ⟨b, 1, none⟩ u1
theorem kz2_set {W : World} {b : Nat} {t : TypeId} {v0 v1 : Value} (h : W.heap[b]? = some (.cells #[v0, v1] t)) (u0 u1 : Value) :
  (st2 W b u0 u1).heap[b]? = some (.cells #[u0, u1] t) := by
 rw [block_setCell (i := 1) (block_setCell (i := 0) h u0) u1]
 simp only [List.setIfInBounds_toArray, List.set_cons_zero, List.set_cons_succ]
theorem kz2_get {W : World} {b : Nat} {t : TypeId} {v0 v1 : Value} (h : W.heap[b]? = some (.cells #[v0, v1] t)) (u0 u1 : Value) :
  (st2 W b u0 u1).cell? ⟨b, 0, none⟩ = some u0 ∧ (st2 W b u0 u1).cell? ⟨b, 1, none⟩ = some u1 := by
 have k := kz2_set h u0 u1
 exact ⟨(cell_of_block k 0).trans rfl, (cell_of_block k 1).trans rfl⟩
theorem below_st2 {W W' : World} {B b : Nat} (h : Below B W W') (hb : B ≤ b) (u0 u1 : Value) : Below B W (st2 W' b u0 u1) :=
 ((h).setCell (p := ⟨b, 0, none⟩) hb u0).setCell (p := ⟨b, 1, none⟩) hb u1
theorem size_st2 (W : World) (b : Nat) (u0 u1 : Value) : (st2 W b u0 u1).heap.size = W.heap.size := by simp [st2, World.setCell]
theorem far_st2 {W : World} {b k : Nat} (h : k ≠ b) (u0 u1 : Value) : (st2 W b u0 u1).heap[k]? = W.heap[k]? := by
 unfold st2
 rw [Below.heap_setCell _ _ _ _ h, Below.heap_setCell _ _ _ _ h]
theorem Own.far2 {k : IntKind} {e : TypeId} {W : World} {base c b : Nat} {A : Option Addr} {l : List Int} (h : Own k e W base A c l) (hb : b < base) (u0 u1 : Value) : Own k e (st2 W b u0 u1) base A c l :=
 h.kept fun g hg _ => far_st2 (by omega) _ _
/-! ### A block of 4 cells -/
theorem kb4_new {w W0 W : World} {t : TypeId} {v0 v1 v2 v3 : Value} (h0 : w.alloc (.cells #[v0, v1, v2, v3] t) = W0) (h : Below W0.heap.size W0 W) :
  W.cell? ⟨w.heap.size, 0, none⟩ = some v0 ∧ W.cell? ⟨w.heap.size, 1, none⟩ = some v1 ∧ W.cell? ⟨w.heap.size, 2, none⟩ = some v2 ∧ W.cell? ⟨w.heap.size, 3, none⟩ = some v3 := by
 subst h0
 have k := (h.block w.heap.size (by simp)).trans (alloc_at _ _ _ rfl)
 exact ⟨(cell_of_block k 0).trans rfl, (cell_of_block k 1).trans rfl, (cell_of_block k 2).trans rfl, (cell_of_block k 3).trans rfl⟩
theorem kz4_at {W : World} {b : Nat} {t : TypeId} {v0 v1 v2 v3 : Value} (h : W.heap[b]? = some (.cells #[v0, v1, v2, v3] t)) :
  W.cell? ⟨b, 0, none⟩ = some v0 ∧ W.cell? ⟨b, 1, none⟩ = some v1 ∧ W.cell? ⟨b, 2, none⟩ = some v2 ∧ W.cell? ⟨b, 3, none⟩ = some v3 ∧ W.frozen? ⟨b, 0, none⟩ = false ∧ W.frozen? ⟨b, 1, none⟩ = false ∧ W.frozen? ⟨b, 2, none⟩ = false ∧ W.frozen? ⟨b, 3, none⟩ = false ∧ b < W.heap.size :=
 ⟨(cell_of_block h 0).trans rfl, (cell_of_block h 1).trans rfl, (cell_of_block h 2).trans rfl, (cell_of_block h 3).trans rfl, unfrozen_of_block h 0, unfrozen_of_block h 1, unfrozen_of_block h 2, unfrozen_of_block h 3, lt_of_block h⟩
abbrev st4 (W : World) (b : Nat) (u0 u1 u2 u3 : Value) : World := ((((W).setCell ⟨b, 0, none⟩ u0).setCell ⟨b, 1, none⟩ u1).setCell ⟨b, 2, none⟩ u2).setCell ⟨b, 3, none⟩ u3
theorem kz4_set {W : World} {b : Nat} {t : TypeId} {v0 v1 v2 v3 : Value} (h : W.heap[b]? = some (.cells #[v0, v1, v2, v3] t)) (u0 u1 u2 u3 : Value) :
  (st4 W b u0 u1 u2 u3).heap[b]? = some (.cells #[u0, u1, u2, u3] t) := by
 rw [block_setCell (i := 3) (block_setCell (i := 2) (block_setCell (i := 1) (block_setCell (i := 0) h u0) u1) u2) u3]
 simp only [List.setIfInBounds_toArray, List.set_cons_zero, List.set_cons_succ]
theorem kz4_get {W : World} {b : Nat} {t : TypeId} {v0 v1 v2 v3 : Value} (h : W.heap[b]? = some (.cells #[v0, v1, v2, v3] t)) (u0 u1 u2 u3 : Value) :
  (st4 W b u0 u1 u2 u3).cell? ⟨b, 0, none⟩ = some u0 ∧ (st4 W b u0 u1 u2 u3).cell? ⟨b, 1, none⟩ = some u1 ∧ (st4 W b u0 u1 u2 u3).cell? ⟨b, 2, none⟩ = some u2 ∧ (st4 W b u0 u1 u2 u3).cell? ⟨b, 3, none⟩ = some u3 := by
 have k := kz4_set h u0 u1 u2 u3
 exact ⟨(cell_of_block k 0).trans rfl, (cell_of_block k 1).trans rfl, (cell_of_block k 2).trans rfl, (cell_of_block k 3).trans rfl⟩
theorem below_st4 {W W' : World} {B b : Nat} (h : Below B W W') (hb : B ≤ b) (u0 u1 u2 u3 : Value) : Below B W (st4 W' b u0 u1 u2 u3) :=
 ((((h).setCell (p := ⟨b, 0, none⟩) hb u0).setCell (p := ⟨b, 1, none⟩) hb u1).setCell (p := ⟨b, 2, none⟩) hb u2).setCell (p := ⟨b, 3, none⟩) hb u3
theorem far_st4 {W : World} {b k : Nat} (h : k ≠ b) (u0 u1 u2 u3 : Value) : (st4 W b u0 u1 u2 u3).heap[k]? = W.heap[k]? := by
 unfold st4
 rw [Below.heap_setCell _ _ _ _ h, Below.heap_setCell _ _ _ _ h, Below.heap_setCell _ _ _ _ h, Below.heap_setCell _ _ _ _ h]
/-! ### A block of 5 cells -/
theorem kb5_new {w W0 W : World} {t : TypeId} {v0 v1 v2 v3 v4 : Value} (h0 : w.alloc (.cells #[v0, v1, v2, v3, v4] t) = W0) (h : Below W0.heap.size W0 W) :
  W.cell? ⟨w.heap.size, 0, none⟩ = some v0 ∧ W.cell? ⟨w.heap.size, 1, none⟩ = some v1 ∧ W.cell? ⟨w.heap.size, 2, none⟩ = some v2 ∧ W.cell? ⟨w.heap.size, 3, none⟩ = some v3 ∧ W.cell? ⟨w.heap.size, 4, none⟩ = some v4 := by
 subst h0
 have k := (h.block w.heap.size (by simp)).trans (alloc_at _ _ _ rfl)
 exact ⟨(cell_of_block k 0).trans rfl, (cell_of_block k 1).trans rfl, (cell_of_block k 2).trans rfl, (cell_of_block k 3).trans rfl, (cell_of_block k 4).trans rfl⟩
theorem kz5_at {W : World} {b : Nat} {t : TypeId} {v0 v1 v2 v3 v4 : Value} (h : W.heap[b]? = some (.cells #[v0, v1, v2, v3, v4] t)) :
  W.cell? ⟨b, 0, none⟩ = some v0 ∧ W.cell? ⟨b, 1, none⟩ = some v1 ∧ W.cell? ⟨b, 2, none⟩ = some v2 ∧ W.cell? ⟨b, 3, none⟩ = some v3 ∧ W.cell? ⟨b, 4, none⟩ = some v4 ∧ W.frozen? ⟨b, 0, none⟩ = false ∧ W.frozen? ⟨b, 1, none⟩ = false ∧ W.frozen? ⟨b, 2, none⟩ = false ∧ W.frozen? ⟨b, 3, none⟩ = false ∧ W.frozen? ⟨b, 4, none⟩ = false ∧ b < W.heap.size :=
 ⟨(cell_of_block h 0).trans rfl, (cell_of_block h 1).trans rfl, (cell_of_block h 2).trans rfl, (cell_of_block h 3).trans rfl, (cell_of_block h 4).trans rfl, unfrozen_of_block h 0, unfrozen_of_block h 1, unfrozen_of_block h 2, unfrozen_of_block h 3, unfrozen_of_block h 4, lt_of_block h⟩
abbrev st5 (W : World) (b : Nat) (u0 u1 u2 u3 u4 : Value) : World := (((((W).setCell ⟨b, 0, none⟩ u0).setCell ⟨b, 1, none⟩ u1).setCell ⟨b, 2, none⟩ u2).setCell ⟨b, 3, none⟩ u3).setCell ⟨b, 4, none⟩ u4
theorem kz5_set {W : World} {b : Nat} {t : TypeId} {v0 v1 v2 v3 v4 : Value} (h : W.heap[b]? = some (.cells #[v0, v1, v2, v3, v4] t)) (u0 u1 u2 u3 u4 : Value) :
  (st5 W b u0 u1 u2 u3 u4).heap[b]? = some (.cells #[u0, u1, u2, u3, u4] t) := by
 rw [block_setCell (i := 4) (block_setCell (i := 3) (block_setCell (i := 2) (block_setCell (i := 1) (block_setCell (i := 0) h u0) u1) u2) u3) u4]
 simp only [List.setIfInBounds_toArray, List.set_cons_zero, List.set_cons_succ]
theorem kz5_get {W : World} {b : Nat} {t : TypeId} {v0 v1 v2 v3 v4 : Value} (h : W.heap[b]? = some (.cells #[v0, v1, v2, v3, v4] t)) (u0 u1 u2 u3 u4 : Value) :
  (st5 W b u0 u1 u2 u3 u4).cell? ⟨b, 0, none⟩ = some u0 ∧ (st5 W b u0 u1 u2 u3 u4).cell? ⟨b, 1, none⟩ = some u1 ∧ (st5 W b u0 u1 u2 u3 u4).cell? ⟨b, 2, none⟩ = some u2 ∧ (st5 W b u0 u1 u2 u3 u4).cell? ⟨b, 3, none⟩ = some u3 ∧ (st5 W b u0 u1 u2 u3 u4).cell? ⟨b, 4, none⟩ = some u4 := by
 have k := kz5_set h u0 u1 u2 u3 u4
 exact ⟨(cell_of_block k 0).trans rfl, (cell_of_block k 1).trans rfl, (cell_of_block k 2).trans rfl, (cell_of_block k 3).trans rfl, (cell_of_block k 4).trans rfl⟩
theorem below_st5 {W W' : World} {B b : Nat} (h : Below B W W') (hb : B ≤ b) (u0 u1 u2 u3 u4 : Value) : Below B W (st5 W' b u0 u1 u2 u3 u4) :=
 (((((h).setCell (p := ⟨b, 0, none⟩) hb u0).setCell (p := ⟨b, 1, none⟩) hb u1).setCell (p := ⟨b, 2, none⟩) hb u2).setCell (p := ⟨b, 3, none⟩) hb u3).setCell (p := ⟨b, 4, none⟩) hb u4
theorem far_st5 {W : World} {b k : Nat} (h : k ≠ b) (u0 u1 u2 u3 u4 : Value) : (st5 W b u0 u1 u2 u3 u4).heap[k]? = W.heap[k]? := by
 unfold st5
 rw [Below.heap_setCell _ _ _ _ h, Below.heap_setCell _ _ _ _ h, Below.heap_setCell _ _ _ _ h, Below.heap_setCell _ _ _ _ h, Below.heap_setCell _ _ _ _ h]
/-! ### A block of 9 cells -/
theorem cell_st2 {W : World} {b : Nat} {p : Addr} (h : p.block ≠ b) (u0 u1 : Value) : (st2 W b u0 u1).cell? p = W.cell? p := World.cell?_of_block (far_st2 h u0 u1)
theorem cell_st4 {W : World} {b : Nat} {p : Addr} (h : p.block ≠ b) (u0 u1 u2 u3 : Value) : (st4 W b u0 u1 u2 u3).cell? p = W.cell? p := World.cell?_of_block (far_st4 h u0 u1 u2 u3)
theorem cell_st5 {W : World} {b : Nat} {p : Addr} (h : p.block ≠ b) (u0 u1 u2 u3 u4 : Value) : (st5 W b u0 u1 u2 u3 u4).cell? p = W.cell? p := World.cell?_of_block (far_st5 h u0 u1 u2 u3 u4)
/-! ### Numbers -/
def isM (x : Int) : Bool := decide (x.toNat = mk (cl (oc x.toNat)))
structure Lk where
 (k i d c : Int)
structure Okl (x : Lk) : Prop where
 i : 0 ≤ x.i ∧ x.i < 4294967296
 d : 0 ≤ x.d ∧ x.d < 4294967296
def Okls (L : List Lk) : Prop := ∀ x ∈ L, Okl x
def mayk (x : Lk) : Bool := win x.k 1 4 && win x.c 0 65535
theorem mayk_iff (x : Lk) : mayk x = true ↔ (1 ≤ x.k ∧ x.k ≤ 4) ∧ (0 ≤ x.c ∧ x.c ≤ 65535) := by simp [mayk, win]
def elk (x : Lk) : List Int := be x.i 4 ++ (be x.d 4 ++ (be x.k 1 ++ (be 0 1 ++ be x.c 2)))
theorem elk_length (x : Lk) : (elk x).length = 12 := by simp [elk, be_length]
theorem elk_byt (x : Lk) : Byt (elk x) := (be_byt _ _).append ((be_byt _ _).append ((be_byt _ _).append ((be_byt _ _).append (be_byt _ _))))
def els (L : List Lk) : List Int := L.flatMap elk
theorem els_nil : els [] = [] := rfl
theorem els_snoc (L : List Lk) (x : Lk) : els (L ++ [x]) = els L ++ elk x := by simp [els]
theorem els_length (L : List Lk) : (els L).length = L.length * 12 := by
 induction L with
 | nil => rfl
 | cons x L ih =>
  have : els (x :: L) = elk x ++ els L := by simp [els]
  rw [this, List.length_append, ih, elk_length, List.length_cons]
  omega
theorem els_byt (L : List Lk) : Byt (els L) := by
 intro y hy
 obtain ⟨x, _, h⟩ := List.mem_flatMap.1 hy
 exact elk_byt x y h
/-! ### Links in memory -/
abbrev lkv (x : Lk) : Value := .agg #[.int .i64 x.k, .int .u32 x.i, .int .u32 x.d, .int .i64 x.c]
abbrev lkc (x : Lk) : List Value := [.int .i64 x.k, .int .u32 x.i, .int .u32 x.d, .int .i64 x.c]
def lflat (L : List Lk) : List Value := L.flatMap lkc
theorem lkc_len (x : Lk) : (lkc x).length = 4 := rfl
theorem lflat_length (L : List Lk) : (lflat L).length = L.length * 4 := fm_len lkc_len L
theorem lflat_snoc (L : List Lk) (x : Lk) : lflat (L ++ [x]) = lflat L ++ lkc x := by simp [lflat]
theorem lkc_one (x : Lk) : ∀ u ∈ lkc x, u.oneCell' = true := by
 intro u hu
 simp only [lkc, List.mem_cons, List.not_mem_nil, or_false] at hu
 rcases hu with rfl | rfl | rfl | rfl <;> rfl
def Lr (w : World) (A : Option Addr) (L : List Lk) : Prop := Rd (fun _ => True) w A (lflat L)
theorem Lr.step {w w' : World} {A : Option Addr} {L : List Lk} (h : Lr w A L) (k : Below w.heap.size w w') : Lr w' A L := Rd.keep h k.size fun j _ hj => k.block j hj
theorem Lr.nil (w : World) (A : Option Addr) : Lr w A [] := Rd.nil A
def gl (L : List Lk) (k : Nat) : Lk := L.getD k ⟨0, 0, 0, 0⟩
theorem gl_eq {L : List Lk} {k : Nat} (h : k < L.length) : gl L k = L[k] := by simp [gl, List.getD, h]
theorem gl_mem {L : List Lk} {k : Nat} (h : k < L.length) : gl L k ∈ L := by rw [gl_eq h]; exact List.getElem_mem h
theorem take_gl {L : List Lk} {k : Nat} (h : k < L.length) : L.take (k + 1) = L.take k ++ [gl L k] := by rw [List.take_succ_eq_append_getElem h, gl_eq h]
theorem Lr.at {w : World} {A : Option Addr} {L : List Lk} (h : Lr w A L) {i : Nat} (hi : i < L.length) :
  ∃ b off, A = some ⟨b, off, none⟩ ∧ b < w.heap.size ∧ w.cell? ⟨b, off + i * 4, none⟩ = some (.int .i64 (gl L i).k) ∧ w.cell? ⟨b, off + i * 4 + 1, none⟩ = some (.int .u32 (gl L i).i) ∧ w.cell? ⟨b, off + i * 4 + 2, none⟩ = some (.int .u32 (gl L i).d) ∧ w.cell? ⟨b, off + i * 4 + 3, none⟩ = some (.int .i64 (gl L i).c) := by
 obtain ⟨b, off, rfl, hlt, hc⟩ := fm_at lkc_len (by omega) h hi
 rw [gl_eq hi]
 exact ⟨b, off, rfl, hlt, hc 0 _ rfl, hc 1 _ rfl, hc 2 _ rfl, hc 3 _ rfl⟩
/-! ### Contracts -/
theorem ywithin_any (x l m : Int) (w : World) : Calls Tryz.prog 128 #[.int .i64 x, .int .i64 l, .int .i64 m] w fun e w' => e = .returned (.bool (win x l m)) ∧ w = w' := by
 by_cases h1 : l ≤ x
 ·by_cases h2 : x ≤ m
  ·have e : win x l m = true := by simp [win, h1, h2]
   have h3 : x ≥ l := h1
   rw [e]
   go_enter Tryz.func128, Tryz.ntmps128
   go_wp2
   go_ret
   exact ⟨rfl, rfl⟩
  ·have e : win x l m = false := by simp [win]; omega
   have h3 : x ≥ l := h1
   rw [e]
   go_enter Tryz.func128, Tryz.ntmps128
   go_wp2
   go_ret
   exact ⟨rfl, rfl⟩
 ·have e : win x l m = false := by simp [win, h1]
  have h3 : ¬ (x ≥ l) := h1
  rw [e]
  go_enter Tryz.func128, Tryz.ntmps128
  go_wp2
  go_ret
  exact ⟨rfl, rfl⟩
theorem isM_nat (n : Nat) : isM (n : Int) = decide (n = mk (cl (oc n))) := rfl
theorem isMask_any (x : Int) (w : World) (h0 : 0 ≤ x) (h1 : x < 4294967296) : Calls Tryz.prog 127 #[.int .u32 x] w fun e w' => e = .returned (.bool (isM x)) ∧ Below w.heap.size w w' := by
 obtain ⟨n, rfl⟩ := Int.eq_ofNat_of_zero_le h0
 have cc := long_any n w (by omega)
 rw [isM_nat]
 by_cases h : n = mk (cl (oc n))
 ·rw [if_pos h] at cc
  rw [decide_eq_true h]
  clear h
  generalize oc n = o at *
  go_enter Tryz.func127, Tryz.ntmps127
  go_wp2_with fail
  refine cc.mono ?_
  rintro e w1 ⟨rfl, hb⟩
  go_wp2
  go_ret
  exact ⟨rfl, hb⟩
 ·rw [if_neg h] at cc
  rw [decide_eq_false h]
  clear h
  go_enter Tryz.func127, Tryz.ntmps127
  go_wp2_with fail
  refine cc.mono ?_
  rintro e w1 ⟨rfl, hb⟩
  go_wp2
  go_ret
  exact ⟨rfl, hb⟩
theorem risMask_any (x : Int) (w : World) (h0 : 0 ≤ x) : Calls Tryz.prog 91 #[.int .u32 x] w fun e w' => e = .returned (.bool (isM x)) ∧ w = w' := by
 obtain ⟨n, rfl⟩ := Int.eq_ofNat_of_zero_le h0
 have cc := rlong_any n w
 rw [isM_nat]
 unfold lg at cc
 by_cases h : n = mk (cl (oc n))
 ·rw [if_pos h] at cc
  rw [decide_eq_true h]
  clear h
  generalize oc n = o at *
  go_enter Tryz.func91, Tryz.ntmps91
  go_wp2_with fail
  refine cc.mono ?_
  rintro e w1 ⟨rfl, rfl⟩
  go_wp2
  go_ret
  exact ⟨rfl, rfl⟩
 ·rw [if_neg h] at cc
  rw [decide_eq_false h]
  clear h
  go_enter Tryz.func91, Tryz.ntmps91
  go_wp2_with fail
  refine cc.mono ?_
  rintro e w1 ⟨rfl, rfl⟩
  go_wp2
  go_ret
  exact ⟨rfl, rfl⟩
def mayc (m x : Int) : Bool := isM m && win x 0 16777215
theorem mayCost_any (m x : Int) (w : World) (h0 : 0 ≤ m) (h1 : m < 4294967296) : Calls Tryz.prog 130 #[.int .u32 m, .int .i64 x] w fun e w' => e = .returned (.bool (mayc m x)) ∧ Below w.heap.size w w' := by
 have cc := isMask_any m w h0 h1
 have cw := fun V => ywithin_any x 0 16777215 V
 unfold mayc
 generalize isM m = M at *
 generalize win x 0 16777215 = T at *
 cases M
 ·go_enter Tryz.func130, Tryz.ntmps130
  go_wp2_with fail
  refine cc.mono ?_
  rintro e w1 ⟨rfl, hb⟩
  go_wp2
  go_ret
  exact ⟨rfl, hb⟩
 ·go_enter Tryz.func130, Tryz.ntmps130
  go_wp2_with fail
  refine cc.mono ?_
  rintro e w1 ⟨rfl, hb⟩
  go_wp2_with fail
  refine (cw _).mono ?_
  rintro e w2 ⟨rfl, rfl⟩
  go_wp2
  go_ret
  exact ⟨rfl, hb⟩
theorem yfield_any (n m : Int) (k : Nat) (w : World) (hk : m.toNat = k) (h1 : 1 ≤ m) (h2 : m ≤ 4) (h3 : 0 ≤ n) (h4 : n < 4294967296) (h5 : n < 256 ^ k) :
  Calls Tryz.prog 125 #[.int .u32 n, .int .i64 m] w fun e w' => ∃ A' c', e = .returned (.slice A' k c') ∧ Own .u8 5 w' w.heap.size A' c' (be n k) ∧ Below w.heap.size w w' := by
 subst hk
 have e1 : putE n m = 0 := by
  unfold putE
  rw [if_neg (by omega), if_neg (by omega)]
 have e2 : putL [] n m = be n m.toNat := by simp [putL, e1]
 have hc := put_any none 0 [] w.heap.size n m w (Bs.nil _) (Nat.le_refl _) (by simp) h3 h4
 rw [e1, e2, be_length] at hc
 clear e1 e2 h5
 go_enter Tryz.func125, Tryz.ntmps125
 go_wp2_with fail
 refine hc.mono ?_
 rintro e w' ⟨A', c', rfl, ho, hb⟩
 go_wp2
 go_ret
 exact ⟨A', c', rfl, ho, hb⟩
theorem brow_any (A : Option Addr) (n c k : Nat) (l : List Int) (w : World) (hn : l.length = n) (hk : n * 4 = k) (hb : Bs .u32 w w.heap.size A l) (hy : Wrd l) (hl : n ≤ 10000) :
  Calls Tryz.prog 129 #[.slice A n c] w fun e w' => ∃ A' c', e = .returned (.slice A' k c') ∧ Own .u8 5 w' w.heap.size A' c' (flat 4 l) ∧ Below w.heap.size w w' := by
 subst hn
 have e1 : rowE l 4 = 0 := rowE_fits (by decide) (by decide) (fun x hx => (hy x hx).2)
 have e2 : rowL l 4 = flat 4 l := by simp [rowL, e1]
 have hc := row_any A c l w.heap.size 4 w hb hy (Nat.le_refl _) hl
 rw [e1, e2, flat_length, hk] at hc
 clear e1 e2 hb hy
 go_enter Tryz.func129, Tryz.ntmps129
 go_wp2_with fail
 refine hc.mono ?_
 rintro e w' ⟨A', c', rfl, ho, hb⟩
 go_wp2
 go_ret
 exact ⟨A', c', rfl, ho, hb⟩
theorem ynumber_any (A : Option Addr) (n c : Nat) (l : List Int) (w : World) (hb : Bt w A l) (hy : Byt l) (hn : l.length = n) (hc : n ≤ c) (h1 : 1 ≤ n) (h2 : n ≤ 4) :
  Calls Tryz.prog 97 #[.slice A n c] w fun e w' => e = .returned (.int .u32 (num l)) ∧ Below w.heap.size w w' := by
 subst hn
 have e1 : takeE l l.length = 0 := by
  unfold takeE
  rw [if_neg (by omega), if_neg (by omega)]
 have e2 : takeN l l.length = num l := by simp [takeN, e1]
 have hcc := take_any A c l w.heap.size l.length w hb hy hc (Nat.le_refl _) (by omega)
 rw [e1, e2] at hcc
 generalize takeL l l.length = T at hcc
 clear e1 e2
 go_enter Tryz.func97, Tryz.ntmps97
 go_wp2_with fail
 refine hcc.mono ?_
 rintro e w' ⟨A', c', rfl, ho, hb'⟩
 go_wp2
 go_ret
 exact ⟨rfl, hb'⟩
theorem bytesOf_inj : ∀ {a b : List Int}, Byt a → Byt b → Lib.bytesOf a = Lib.bytesOf b → a = b := by
 intro a
 induction a with
 | nil => intro b _ _ h; cases b with
  | nil => rfl
  | cons y b => simp [Lib.bytesOf] at h
 | cons x a ih => intro b ha hb h; cases b with
  | nil => simp [Lib.bytesOf] at h
  | cons y b =>
   simp only [Lib.bytesOf, List.map_cons, List.cons.injEq] at h
   have hx := ha x (by simp)
   have hy := hb y (by simp)
   have e := congrArg UInt8.toNat h.1
   simp only [UInt8.toNat_ofNat'] at e
   have : x = y := by omega
   rw [this, ih (fun z hz => ha z (by simp [hz])) (fun z hz => hb z (by simp [hz])) h.2]
theorem str_eq {a b : List Int} (ha : Byt a) (hb : Byt b) : ((strOfNums a).toList == (strOfNums b).toList) = decide (a = b) := by
 rw [Lib.strOfNums_toList, Lib.strOfNums_toList, Bool.eq_iff_iff, decide_eq_true_eq, beq_iff_eq]
 exact ⟨bytesOf_inj ha hb, fun h => by rw [h]⟩
theorem equal_any (A1 A2 : Option Addr) (n1 n2 c1 c2 : Nat) (a b : List Int) (w : World) (h1 : a.length = n1) (h2 : b.length = n2) (ha : Bt w A1 a) (hb : Bt w A2 b) (ya : Byt a) (yb : Byt b) :
  Calls Tryz.prog 123 #[.slice A1 n1 c1, .slice A2 n2 c2] w fun e w' => e = .returned (.bool (decide (a = b))) ∧ w = w' := by
 subst h1 h2
 rw [← str_eq ya yb]
 have r1 := run_str w 38 5 9 Tryz.underlying38 Tryz.underlying5 Tryz.underlying9 _ A1 c1 a ha
 have r2 := run_str w 38 5 9 Tryz.underlying38 Tryz.underlying5 Tryz.underlying9 _ A2 c2 b hb
 generalize strOfNums a = sa at *
 generalize strOfNums b = sb at *
 go_enter Tryz.func123, Tryz.ntmps123
 go_wp2
 go_ret
 exact ⟨rfl, rfl⟩
set_option maxRecDepth 100000 in
theorem wrong_any (x : Lk) (w : World) : Calls Tryz.prog 138 #[.agg #[.int .i64 x.k, .int .u32 x.i, .int .u32 x.d, .int .i64 x.c]] w fun e w' => e = .returned (.bool (!mayk x)) ∧ Below w.heap.size w w' := by
 have HM : Hid (mayk x = (win x.k 1 4 && win x.c 0 65535)) := Lib.hid rfl
 obtain ⟨W0, hW0⟩ : ∃ V, w.alloc (.cells #[.int .i64 x.k, .int .u32 x.i, .int .u32 x.d, .int .i64 x.c] 149) = V := ⟨_, rfl⟩
 have bW0 : Below w.heap.size w W0 := by rw [← hW0]; exact below_alloc1 _ _
 have sW0 : W0.heap.size = w.heap.size + 1 := by rw [← hW0]; simp
 have KX : Hid (∀ V, Below W0.heap.size W0 V → V.cell? ⟨w.heap.size, 0, none⟩ = some (.int .i64 x.k) ∧ V.cell? ⟨w.heap.size, 1, none⟩ = some (.int .u32 x.i) ∧ V.cell? ⟨w.heap.size, 2, none⟩ = some (.int .u32 x.d) ∧ V.cell? ⟨w.heap.size, 3, none⟩ = some (.int .i64 x.c)) := Lib.hid (fun V hV => kb4_new hW0 hV)
 obtain ⟨k0, k1, k2, k3⟩ := KX.out _ (Below.refl _ _)
 have c1 := fun V => ywithin_any x.k 1 4 V
 have c2 := fun V => ywithin_any x.c 0 65535 V
 rw [HM.out]
 generalize win x.k 1 4 = T1 at *
 generalize win x.c 0 65535 = T2 at *
 clear HM KX
 cases T1
 ·go_enter Tryz.func138, Tryz.ntmps138
  go_wp2_with fail
  refine (c1 _).mono ?_
  rintro e w1 ⟨rfl, rfl⟩
  go_wp2
  go_ret
  exact ⟨rfl, bW0⟩
 ·go_enter Tryz.func138, Tryz.ntmps138
  go_wp2_with fail
  refine (c1 _).mono ?_
  rintro e w1 ⟨rfl, rfl⟩
  go_wp2_with fail
  refine (c2 _).mono ?_
  rintro e w1 ⟨rfl, rfl⟩
  go_wp2
  go_ret
  exact ⟨ret_bool (by simp), bW0⟩
structure Xb where
 (m : Int) (s : Bool) (c f t : Int)
def sec (s : Bool) : Int := if s then 128 else 0
set_option maxRecDepth 100000 in
theorem second_any (x : Xb) (w : World) : Calls Tryz.prog 131 #[.agg #[.int .u32 x.m, .bool x.s, .int .i64 x.c, .int .u32 x.f, .int .u32 x.t]] w fun e w' => e = .returned (.int .u32 (sec x.s)) ∧ Below w.heap.size w w' := by
 obtain ⟨W0, hW0⟩ : ∃ V, w.alloc (.cells #[.int .u32 x.m, .bool x.s, .int .i64 x.c, .int .u32 x.f, .int .u32 x.t] 133) = V := ⟨_, rfl⟩
 have bW0 : Below w.heap.size w W0 := by rw [← hW0]; exact below_alloc1 _ _
 have sW0 : W0.heap.size = w.heap.size + 1 := by rw [← hW0]; simp
 have KX : Hid (∀ V, Below W0.heap.size W0 V → V.cell? ⟨w.heap.size, 0, none⟩ = some (.int .u32 x.m) ∧ V.cell? ⟨w.heap.size, 1, none⟩ = some (.bool x.s) ∧ V.cell? ⟨w.heap.size, 2, none⟩ = some (.int .i64 x.c) ∧ V.cell? ⟨w.heap.size, 3, none⟩ = some (.int .u32 x.f) ∧ V.cell? ⟨w.heap.size, 4, none⟩ = some (.int .u32 x.t)) := Lib.hid (fun V hV => kb5_new hW0 hV)
 obtain ⟨k0, k1, k2, k3, k4⟩ := KX.out _ (Below.refl _ _)
 clear KX
 generalize hS : x.s = S at *
 cases S
 ·go_enter Tryz.func131, Tryz.ntmps131
  go_wp2
  go_ret
  exact ⟨rfl, bW0⟩
 ·go_enter Tryz.func131, Tryz.ntmps131
  go_wp2
  go_ret
  exact ⟨rfl, bW0⟩
end Go.Proofs.YtadcicmccdphkaaGreat
namespace Go.Proofs.YtadcicmccdphkaaGreat
open Go.RowKit Go.Joins

def fix {α : Type} (pr : α → Bool) (l : List α) : Int := if l.findIdx pr < l.length then (l.findIdx pr : Int) else -1
theorem fix_none {α : Type} {pr : α → Bool} {l : List α} (h : ∀ x ∈ l, pr x = false) : fix pr l = -1 := by
 unfold fix
 rw [if_neg]
 have := List.findIdx_eq_length.2 h
 omega
theorem fix_at {α : Type} {pr : α → Bool} {l : List α} {k : Nat} (hk : k < l.length) (h : ∀ i (hi : i < k), pr (l[i]'(by omega)) = false) (ht : pr l[k] = true) : fix pr l = k := by
 unfold fix
 have e : l.findIdx pr = k := (List.findIdx_eq hk).2 ⟨ht, fun j hj => h j hj⟩
 rw [e, if_pos hk]
theorem fix_any {α : Type} (pr : α → Bool) (l : List α) : decide (fix pr l ≥ 0) = l.any pr := by
 unfold fix
 rw [Bool.eq_iff_iff, decide_eq_true_eq, List.any_eq_true]
 rw [show (∃ x, x ∈ l ∧ pr x = true) ↔ l.findIdx pr < l.length from List.findIdx_lt_length.symm]
 split
 ·rename_i h; simp [h]
 ·rename_i h; simp [h]
theorem enters_wrong (args : Array Value) (w' : World) : (callFunc 138 args).run Tryz.prog w' = .ok (.enter 138 args) w' := by simp [callFunc, Tryz.func138, Tryz.f138, mark]
set_option maxRecDepth 100000 in
theorem lix_any (A0 : Option Addr) (n c : Nat) (L : List Lk) (w : World) (hn : L.length = n) (hl : Lr w A0 L) (hll : n ≤ 10000) :
  Calls Tryz.prog 143 #[.slice A0 n c, .func (.func 138) #[] #[]] w fun e w' => e = .returned (.int .i64 (fix (fun x => !mayk x) L)) ∧ Below w.heap.size w w' := by
 have HL := Lib.hid hl
 have HLN := Lib.hid hn
 obtain ⟨R, hR⟩ : ∃ R, fix (fun x => !mayk x) L = R := ⟨_, rfl⟩
 rw [hR]
 have HR := Lib.hid hR
 clear hl hn hR
 go_enter Tryz.func143, Tryz.ntmps143
 go_wp2_with fail
 go_loopg [8] n (fun gf v wx => ∃ (k : Nat), v = .int .i64 (k : Int) ∧ Hid (gf + k = n) ∧ Hid (∀ i (hi : i < L.length), i < k → (!mayk L[i]) = false) ∧ Hid (Below w.heap.size w wx))
 case atStart => exact ⟨0, rfl, Lib.hid (by omega), Lib.hid (fun i _ hi => by omega), Lib.hid (Below.refl _ _)⟩
 case round =>
  obtain ⟨k, rfl, hk, hp, hb⟩ := hrel
  have hk' := hk.out
  cases gk with
  | zero =>
   have e1 : k = n := by omega
   have lt0 : decide ((k : Int) < (n : Int)) = false := by simp; omega
   have lt1 : decide (k < n) = false := by simp; omega
   go_wp2
   go_ret
   refine ⟨ret_int ?_, hb.out⟩
   rw [← HR.out, fix_none]
   intro x hx
   obtain ⟨i, hi, rfl⟩ := List.getElem_of_mem hx
   exact hp.out i hi (by have := HLN.out; omega)
  | succ gf =>
   have hkl : k < L.length := by rw [HLN.out]; omega
   have lt0 : (k : Int) < (n : Int) := by omega
   have hw1 : (k : Int) + 1 ≤ 10000 := by omega
   obtain ⟨b, off, hA, _, e0, e1, e2, e3⟩ := (HL.out.step hb.out).at hkl
   have hxl : gl L k = L[k] := gl_eq hkl
   obtain ⟨x, hx⟩ : ∃ x, gl L k = x := ⟨_, rfl⟩
   rw [hx] at e0 e1 e2 e3 hxl
   subst hA
   have see := wrong_any x wr
   have HX := Lib.hid hxl
   clear hx hxl
   have hf1 := enters_wrong #[lkv x] wr
   cases hpr : mayk x with
   | false =>
    rw [hpr] at see
    have E9 : Hid (R = (k : Int)) := Lib.hid (by rw [← HR.out, fix_at hkl (fun i hi => hp.out i (by omega) hi) (by rw [← HX.out, hpr]; rfl)])
    clear HX hkl
    go_wp2_with fail
    refine see.mono ?_
    rintro e W2 ⟨rfl, hb2⟩
    go_wp2
    go_ret
    exact ⟨ret_int E9.out.symm, hb.out.trans (hb2.mono hb.out.size)⟩
   | true =>
    rw [hpr] at see
    have HN : Hid (∀ i (hi : i < L.length), i < k + 1 → (!mayk L[i]) = false) := Lib.hid (fun i hi hik => by
     rcases Nat.lt_or_ge i k with q | q
     ·exact hp.out i hi q
     ·obtain rfl : i = k := by omega
      rw [← HX.out, hpr]
      rfl)
    clear HX hkl
    go_wp2_with fail
    refine see.mono ?_
    rintro e W2 ⟨rfl, hb2⟩
    have HB2 := Lib.hid (hb.out.trans (hb2.mono hb.out.size))
    clear hb2 see hf1 e0 e1 e2 e3 hb
    go_wp2
    go_roundg gf
    case measure => omega
    case rel => exact ⟨k + 1, by go_num, Lib.hid (by omega), HN, HB2⟩
theorem lcf_any (A0 : Option Addr) (n c : Nat) (L : List Lk) (w : World) (hn : L.length = n) (hl : Lr w A0 L) (hll : n ≤ 10000) :
  Calls Tryz.prog 137 #[.slice A0 n c, .func (.func 138) #[] #[]] w fun e w' => e = .returned (.bool (!L.all mayk)) ∧ Below w.heap.size w w' := by
 have cf := lix_any A0 n c L w hn hl hll
 have he := fix_any (fun x => !mayk x) L
 rw [show L.any (fun x => !mayk x) = !L.all mayk by simp [List.not_all_eq_any_not]] at he
 generalize fix (fun x => !mayk x) L = R at *
 generalize (!L.all mayk) = E at *
 have HE := Lib.hid he
 clear hl he hn
 go_enter Tryz.func137, Tryz.ntmps137
 go_wp2_with fail
 refine cf.mono ?_
 rintro e W1 ⟨rfl, hb1⟩
 clear cf
 go_wp2
 go_ret
 exact ⟨ret_bool HE.out, hb1⟩
def mayR (f : Int) (L : List Lk) : Bool := win f 0 31 && (decide (L.length ≤ 100) && L.all mayk)
theorem mayR_iff (f : Int) (L : List Lk) : mayR f L = true ↔ (0 ≤ f ∧ f ≤ 31) ∧ L.length ≤ 100 ∧ ∀ x ∈ L, mayk x = true := by simp [mayR, win]
set_option maxRecDepth 100000 in
theorem mayR_any (f : Int) (A : Option Addr) (n c : Nat) (L : List Lk) (w : World) (hn : L.length = n) (hl : Lr w A L) (hll : n ≤ 10000) :
  Calls Tryz.prog 124 #[.agg #[.int .i64 f, .slice A n c]] w fun e w' => e = .returned (.bool (mayR f L)) ∧ Below w.heap.size w w' := by
 have HM : Hid (mayR f L = (win f 0 31 && (decide (n ≤ 100) && L.all mayk))) := Lib.hid (by unfold mayR; rw [hn])
 obtain ⟨W0, hW0⟩ : ∃ V, w.alloc (.cells #[.int .i64 f, .slice A n c] 124) = V := ⟨_, rfl⟩
 have bW0 : Below w.heap.size w W0 := by rw [← hW0]; exact below_alloc1 _ _
 have sW0 : W0.heap.size = w.heap.size + 1 := by rw [← hW0]; simp
 have KX : Hid (∀ V, Below W0.heap.size W0 V → V.cell? ⟨w.heap.size, 0, none⟩ = some (.int .i64 f) ∧ V.cell? ⟨w.heap.size, 1, none⟩ = some (.slice A n c)) := Lib.hid (fun V hV => kb2_new hW0 hV)
 obtain ⟨k0, k1⟩ := KX.out _ (Below.refl _ _)
 have c1 := fun V => ywithin_any f 0 31 V
 have c2 := lcf_any A n c L W0 hn (hl.step bW0) hll
 rw [HM.out]
 generalize win f 0 31 = T1 at *
 generalize L.all mayk = T2 at *
 clear HM KX hn hl
 cases T1
 ·go_enter Tryz.func124, Tryz.ntmps124
  go_wp2_with fail
  refine (c1 _).mono ?_
  rintro e w1 ⟨rfl, rfl⟩
  go_wp2
  go_ret
  exact ⟨rfl, bW0⟩
 by_cases h1 : n ≤ 100
 ·have d0 : decide ((n : Int) ≤ 100) = true := by simp; omega
  have d1 : decide (n ≤ 100) = true := by simpa using h1
  have d2 : (n : Int) ≤ 100 := by omega
  rw [d1]
  go_enter Tryz.func124, Tryz.ntmps124
  go_wp2_with fail
  refine (c1 _).mono ?_
  rintro e w1 ⟨rfl, rfl⟩
  go_wp2_with fail
  refine c2.mono ?_
  rintro e w2 ⟨rfl, u2⟩
  go_wp2
  go_ret
  exact ⟨ret_bool (by simp), bW0.trans (u2.mono bW0.size)⟩
 ·have d0 : decide ((n : Int) ≤ 100) = false := by simp; omega
  have d1 : decide (n ≤ 100) = false := by simpa using h1
  have d2 : ¬ ((n : Int) ≤ 100) := by omega
  rw [d1]
  go_enter Tryz.func124, Tryz.ntmps124
  go_wp2_with fail
  refine (c1 _).mono ?_
  rintro e w1 ⟨rfl, rfl⟩
  go_wp2
  go_ret
  exact ⟨rfl, bW0⟩
set_option maxRecDepth 100000 in
set_option maxHeartbeats 2000000 in
theorem rmayR_any (f : Int) (A : Option Addr) (n c : Nat) (L : List Lk) (w : World) (hn : L.length = n) (hl : Lr w A L) :
  Calls Tryz.prog 90 #[.agg #[.int .i64 f, .slice A n c]] w fun e w' => e = .returned (.bool (mayR f L)) ∧ Below w.heap.size w w' := by
 have HM : Hid (mayR f L = (win f 0 31 && (decide (n ≤ 100) && L.all mayk))) := Lib.hid (by unfold mayR; rw [hn])
 generalize mayR f L = M at *
 obtain ⟨W0, hW0⟩ : ∃ V, w.alloc (.cells #[.int .i64 f, .slice A n c] 103) = V := ⟨_, rfl⟩
 have bW0 : Below w.heap.size w W0 := by rw [← hW0]; exact below_alloc1 _ _
 have sW0 : W0.heap.size = w.heap.size + 1 := by rw [← hW0]; simp
 have KX : Hid (∀ V, Below W0.heap.size W0 V → V.cell? ⟨w.heap.size, 0, none⟩ = some (.int .i64 f) ∧ V.cell? ⟨w.heap.size, 1, none⟩ = some (.slice A n c)) := Lib.hid (fun V hV => kb2_new hW0 hV)
 obtain ⟨k0, k1⟩ := KX.out _ (Below.refl _ _)
 by_cases f0 : f < 0
 ·have e : win f 0 31 = false := by simp [win]; omega
  have HN := Lib.hid hn
  clear hn hl KX
  go_enter Tryz.func90, Tryz.ntmps90
  go_wp2
  go_ret
  exact ⟨ret_bool (by rw [HM.out]; rw [e]; rfl), bW0⟩
 by_cases f1 : f > 31
 ·have e : win f 0 31 = false := by simp [win]; omega
  have HN := Lib.hid hn
  clear hn hl KX
  go_enter Tryz.func90, Tryz.ntmps90
  go_wp2
  go_ret
  exact ⟨ret_bool (by rw [HM.out]; rw [e]; rfl), bW0⟩
 have e31 : win f 0 31 = true := by simp [win]; omega
 by_cases h1 : 100 < n
 ·have e : decide (n ≤ 100) = false := by simp; omega
  have d : (n : Int) > 100 := by omega
  have HN := Lib.hid hn
  clear hn hl KX
  go_enter Tryz.func90, Tryz.ntmps90
  go_wp2
  go_ret
  exact ⟨ret_bool (by rw [HM.out]; rw [e]; simp), bW0⟩
 have e100 : decide (n ≤ 100) = true := by simp; omega
 have d : ¬ ((n : Int) > 100) := by omega
 have HA : Hid (M = L.all mayk) := Lib.hid (by rw [HM.out, e31, e100]; simp)
 have HN := Lib.hid hn
 have HL := Lib.hid (hl.step bW0)
 have HB := Lib.hid bW0
 clear hn hl HM e31 e100 bW0
 go_enter Tryz.func90, Tryz.ntmps90
 go_wp2_with fail
 clear k0 k1
 go_loopg [3] n (fun gf v wx => ∃ (k : Nat), v = .int .i64 (k : Int) ∧ Hid (gf + k = n) ∧ Hid (∀ i (hi : i < L.length), i < k → mayk L[i] = true) ∧ Hid (Below W0.heap.size W0 wx))
 case atStart => exact ⟨0, rfl, Lib.hid (by omega), Lib.hid (fun i _ hi => by omega), Lib.hid (Below.refl _ _)⟩
 case round =>
  obtain ⟨k, rfl, hk, hp, hb⟩ := hrel
  have hk' := hk.out
  obtain ⟨k0, k1⟩ := KX.out _ hb.out
  cases gk with
  | zero =>
   have e1 : k = n := by omega
   have lt0 : decide ((k : Int) < (n : Int)) = false := by simp; omega
   have lt1 : decide (k < n) = false := by simp; omega
   have E9 : Hid (M = true) := Lib.hid (by
    rw [HA.out, List.all_eq_true]
    intro x hx
    obtain ⟨i, hi, rfl⟩ := List.getElem_of_mem hx
    exact hp.out i hi (by have := HN.out; omega))
   go_wp2
   go_ret
   exact ⟨ret_bool E9.out.symm, HB.out.trans (hb.out.mono HB.out.size)⟩
  | succ gf =>
   have hkl : k < L.length := by rw [HN.out]; omega
   have lt0 : (k : Int) < (n : Int) := by omega
   have hw1 : (k : Int) + 1 ≤ 10000 := by omega
   obtain ⟨b, off, hA, _, e0, e1, e2, e3⟩ := (HL.out.step hb.out).at hkl
   have hxl : gl L k = L[k] := gl_eq hkl
   obtain ⟨x, hx⟩ : ∃ x, gl L k = x := ⟨_, rfl⟩
   rw [hx] at e0 e1 e2 e3 hxl
   subst hA
   have HX := Lib.hid hxl
   have HF : mayk x = false → M = false := fun q => by
    rw [HA.out]
    refine Bool.eq_false_iff.2 fun h => ?_
    have := List.all_eq_true.1 h L[k] (List.getElem_mem hkl)
    rw [← HX.out, q] at this
    cases this
   obtain ⟨W1, hW1⟩ : ∃ V, wr.alloc (.cells #[Value.int .i64 x.k, .int .u32 x.i, .int .u32 x.d, .int .i64 x.c] 149) = V := ⟨_, rfl⟩
   have b1 : Below wr.heap.size wr W1 := by rw [← hW1]; exact below_alloc1 _ _
   obtain ⟨y0, y1, y2, y3⟩ := kb4_new hW1 (Below.refl _ _)
   have HB1 : Hid (Below W0.heap.size W0 W1) := Lib.hid (hb.out.trans (b1.mono hb.out.size))
   have HBF : Hid (Below w.heap.size w W1) := Lib.hid (HB.out.trans (HB1.out.mono HB.out.size))
   clear hx hxl b1
   by_cases g0 : x.k < 1
   ·have E9 : Hid (M = false) := Lib.hid (HF (by simp [mayk, win]; omega))
    clear HF HX hkl
    go_wp2
    go_ret
    exact ⟨ret_bool E9.out.symm, HBF.out⟩
   by_cases g1 : x.k > 4
   ·have E9 : Hid (M = false) := Lib.hid (HF (by simp [mayk, win]; omega))
    clear HF HX hkl
    go_wp2
    go_ret
    exact ⟨ret_bool E9.out.symm, HBF.out⟩
   by_cases g2 : x.c < 0
   ·have E9 : Hid (M = false) := Lib.hid (HF (by simp [mayk, win]; omega))
    clear HF HX hkl
    go_wp2
    go_ret
    exact ⟨ret_bool E9.out.symm, HBF.out⟩
   by_cases g3 : x.c > 65535
   ·have E9 : Hid (M = false) := Lib.hid (HF (by simp [mayk, win]; omega))
    clear HF HX hkl
    go_wp2
    go_ret
    exact ⟨ret_bool E9.out.symm, HBF.out⟩
   have HP : Hid (∀ i (hi : i < L.length), i < k + 1 → mayk L[i] = true) := Lib.hid (fun i hi hik => by
    rcases Nat.lt_or_ge i k with q | q
    ·exact hp.out i hi q
    ·obtain rfl : i = k := by omega
     rw [← HX.out]
     exact (mayk_iff x).2 ⟨⟨by omega, by omega⟩, by omega, by omega⟩)
   clear HF HX hkl hp
   go_wp2
   go_roundg gf
   case measure => omega
   case rel => exact ⟨k + 1, by go_num, Lib.hid (by omega), HP, HB1⟩
end Go.Proofs.YtadcicmccdphkaaGreat
