/-
  Bodies as plain numbers; contracts of the small functions of package body and of its reference. No statement is proved here; no conditions.
-/
import Derived.Test.YtadcicmccdphkaaLs
import Derived.Test.YtadcicmccdphkaaRow
import Derived.Test.YtadcicmccdphkaaMa
import Derived.Lib.SliceRun
import Derived.Lib.Bytes
namespace Go.Proofs.Ytadcicmccdphkaa
open Go.RowKit Go.Joins

/-! ### A block of 2 cells -/
theorem kb2_new {w W0 W : World} {t : TypeId} {v0 v1 : Value} (h0 : w.alloc (.cells #[v0, v1] t) = W0) (h : Below W0.heap.size W0 W) :
    W.cell? ⟨w.heap.size, 0, none⟩ = some v0 ∧ W.cell? ⟨w.heap.size, 1, none⟩ = some v1 := by
  subst h0
  have k := (h.block w.heap.size (by simp)).trans (alloc_at _ _ _ rfl)
  exact ⟨(cell_of_block k 0).trans rfl, (cell_of_block k 1).trans rfl⟩
theorem kz2_at {W : World} {b : Nat} {t : TypeId} {v0 v1 : Value} (h : W.heap[b]? = some (.cells #[v0, v1] t)) :
    W.cell? ⟨b, 0, none⟩ = some v0 ∧ W.cell? ⟨b, 1, none⟩ = some v1 ∧ W.frozen? ⟨b, 0, none⟩ = false ∧ W.frozen? ⟨b, 1, none⟩ = false ∧ b < W.heap.size :=
  ⟨(cell_of_block h 0).trans rfl, (cell_of_block h 1).trans rfl, unfrozen_of_block h 0, unfrozen_of_block h 1, lt_of_block h⟩
abbrev st2 (W : World) (b : Nat) (u0 u1 : Value) : World := ((W).setCell ⟨b, 0, none⟩ u0).setCell ⟨b, 1, none⟩ u1
theorem kz2_set {W : World} {b : Nat} {t : TypeId} {v0 v1 : Value} (h : W.heap[b]? = some (.cells #[v0, v1] t)) (u0 u1 : Value) :
    (st2 W b u0 u1).heap[b]? = some (.cells #[u0, u1] t) := by
  rw [block_setCell (i := 1) (block_setCell (i := 0) h u0) u1]
  simp only [List.setIfInBounds_toArray, List.set_cons_zero, List.set_cons_succ]
theorem kz2_get {W : World} {b : Nat} {t : TypeId} {v0 v1 : Value} (h : W.heap[b]? = some (.cells #[v0, v1] t)) (u0 u1 : Value) :
    (st2 W b u0 u1).cell? ⟨b, 0, none⟩ = some u0 ∧ (st2 W b u0 u1).cell? ⟨b, 1, none⟩ = some u1 := by
  have k := kz2_set h u0 u1
  exact ⟨(cell_of_block k 0).trans rfl, (cell_of_block k 1).trans rfl⟩
theorem below_st2 {W W' : World} {B b : Nat} (h : Below B W W') (hb : B ≤ b) (u0 u1 : Value) : Below B W (st2 W' b u0 u1) :=
  ((h).setCell (p := ⟨b, 0, none⟩) hb u0).setCell (p := ⟨b, 1, none⟩) hb u1
theorem size_st2 (W : World) (b : Nat) (u0 u1 : Value) : (st2 W b u0 u1).heap.size = W.heap.size := by simp [st2, World.setCell]
theorem far_st2 {W : World} {b k : Nat} (h : k ≠ b) (u0 u1 : Value) : (st2 W b u0 u1).heap[k]? = W.heap[k]? := by
  unfold st2
  rw [Below.heap_setCell _ _ _ _ h, Below.heap_setCell _ _ _ _ h]
theorem Own.far2 {k : IntKind} {e : TypeId} {W : World} {base c b : Nat} {A : Option Addr} {l : List Int} (h : Own k e W base A c l) (hb : b < base) (u0 u1 : Value) : Own k e (st2 W b u0 u1) base A c l :=
  h.kept fun g hg _ => far_st2 (by omega) _ _
/-! ### A block of 4 cells -/
theorem kb4_new {w W0 W : World} {t : TypeId} {v0 v1 v2 v3 : Value} (h0 : w.alloc (.cells #[v0, v1, v2, v3] t) = W0) (h : Below W0.heap.size W0 W) :
    W.cell? ⟨w.heap.size, 0, none⟩ = some v0 ∧ W.cell? ⟨w.heap.size, 1, none⟩ = some v1 ∧ W.cell? ⟨w.heap.size, 2, none⟩ = some v2 ∧ W.cell? ⟨w.heap.size, 3, none⟩ = some v3 := by
  subst h0
  have k := (h.block w.heap.size (by simp)).trans (alloc_at _ _ _ rfl)
  exact ⟨(cell_of_block k 0).trans rfl, (cell_of_block k 1).trans rfl, (cell_of_block k 2).trans rfl, (cell_of_block k 3).trans rfl⟩
theorem kz4_at {W : World} {b : Nat} {t : TypeId} {v0 v1 v2 v3 : Value} (h : W.heap[b]? = some (.cells #[v0, v1, v2, v3] t)) :
    W.cell? ⟨b, 0, none⟩ = some v0 ∧ W.cell? ⟨b, 1, none⟩ = some v1 ∧ W.cell? ⟨b, 2, none⟩ = some v2 ∧ W.cell? ⟨b, 3, none⟩ = some v3 ∧ W.frozen? ⟨b, 0, none⟩ = false ∧ W.frozen? ⟨b, 1, none⟩ = false ∧ W.frozen? ⟨b, 2, none⟩ = false ∧ W.frozen? ⟨b, 3, none⟩ = false ∧ b < W.heap.size :=
  ⟨(cell_of_block h 0).trans rfl, (cell_of_block h 1).trans rfl, (cell_of_block h 2).trans rfl, (cell_of_block h 3).trans rfl, unfrozen_of_block h 0, unfrozen_of_block h 1, unfrozen_of_block h 2, unfrozen_of_block h 3, lt_of_block h⟩
abbrev st4 (W : World) (b : Nat) (u0 u1 u2 u3 : Value) : World := ((((W).setCell ⟨b, 0, none⟩ u0).setCell ⟨b, 1, none⟩ u1).setCell ⟨b, 2, none⟩ u2).setCell ⟨b, 3, none⟩ u3
theorem kz4_set {W : World} {b : Nat} {t : TypeId} {v0 v1 v2 v3 : Value} (h : W.heap[b]? = some (.cells #[v0, v1, v2, v3] t)) (u0 u1 u2 u3 : Value) :
    (st4 W b u0 u1 u2 u3).heap[b]? = some (.cells #[u0, u1, u2, u3] t) := by
  rw [block_setCell (i := 3) (block_setCell (i := 2) (block_setCell (i := 1) (block_setCell (i := 0) h u0) u1) u2) u3]
  simp only [List.setIfInBounds_toArray, List.set_cons_zero, List.set_cons_succ]
theorem kz4_get {W : World} {b : Nat} {t : TypeId} {v0 v1 v2 v3 : Value} (h : W.heap[b]? = some (.cells #[v0, v1, v2, v3] t)) (u0 u1 u2 u3 : Value) :
    (st4 W b u0 u1 u2 u3).cell? ⟨b, 0, none⟩ = some u0 ∧ (st4 W b u0 u1 u2 u3).cell? ⟨b, 1, none⟩ = some u1 ∧ (st4 W b u0 u1 u2 u3).cell? ⟨b, 2, none⟩ = some u2 ∧ (st4 W b u0 u1 u2 u3).cell? ⟨b, 3, none⟩ = some u3 := by
  have k := kz4_set h u0 u1 u2 u3
  exact ⟨(cell_of_block k 0).trans rfl, (cell_of_block k 1).trans rfl, (cell_of_block k 2).trans rfl, (cell_of_block k 3).trans rfl⟩
theorem below_st4 {W W' : World} {B b : Nat} (h : Below B W W') (hb : B ≤ b) (u0 u1 u2 u3 : Value) : Below B W (st4 W' b u0 u1 u2 u3) :=
  ((((h).setCell (p := ⟨b, 0, none⟩) hb u0).setCell (p := ⟨b, 1, none⟩) hb u1).setCell (p := ⟨b, 2, none⟩) hb u2).setCell (p := ⟨b, 3, none⟩) hb u3
theorem size_st4 (W : World) (b : Nat) (u0 u1 u2 u3 : Value) : (st4 W b u0 u1 u2 u3).heap.size = W.heap.size := by simp [st4, World.setCell]
theorem far_st4 {W : World} {b k : Nat} (h : k ≠ b) (u0 u1 u2 u3 : Value) : (st4 W b u0 u1 u2 u3).heap[k]? = W.heap[k]? := by
  unfold st4
  rw [Below.heap_setCell _ _ _ _ h, Below.heap_setCell _ _ _ _ h, Below.heap_setCell _ _ _ _ h, Below.heap_setCell _ _ _ _ h]
theorem Own.far4 {k : IntKind} {e : TypeId} {W : World} {base c b : Nat} {A : Option Addr} {l : List Int} (h : Own k e W base A c l) (hb : b < base) (u0 u1 u2 u3 : Value) : Own k e (st4 W b u0 u1 u2 u3) base A c l :=
  h.kept fun g hg _ => far_st4 (by omega) _ _ _ _
/-! ### A block of 5 cells -/
theorem kb5_new {w W0 W : World} {t : TypeId} {v0 v1 v2 v3 v4 : Value} (h0 : w.alloc (.cells #[v0, v1, v2, v3, v4] t) = W0) (h : Below W0.heap.size W0 W) :
    W.cell? ⟨w.heap.size, 0, none⟩ = some v0 ∧ W.cell? ⟨w.heap.size, 1, none⟩ = some v1 ∧ W.cell? ⟨w.heap.size, 2, none⟩ = some v2 ∧ W.cell? ⟨w.heap.size, 3, none⟩ = some v3 ∧ W.cell? ⟨w.heap.size, 4, none⟩ = some v4 := by
  subst h0
  have k := (h.block w.heap.size (by simp)).trans (alloc_at _ _ _ rfl)
  exact ⟨(cell_of_block k 0).trans rfl, (cell_of_block k 1).trans rfl, (cell_of_block k 2).trans rfl, (cell_of_block k 3).trans rfl, (cell_of_block k 4).trans rfl⟩
theorem kz5_at {W : World} {b : Nat} {t : TypeId} {v0 v1 v2 v3 v4 : Value} (h : W.heap[b]? = some (.cells #[v0, v1, v2, v3, v4] t)) :
    W.cell? ⟨b, 0, none⟩ = some v0 ∧ W.cell? ⟨b, 1, none⟩ = some v1 ∧ W.cell? ⟨b, 2, none⟩ = some v2 ∧ W.cell? ⟨b, 3, none⟩ = some v3 ∧ W.cell? ⟨b, 4, none⟩ = some v4 ∧ W.frozen? ⟨b, 0, none⟩ = false ∧ W.frozen? ⟨b, 1, none⟩ = false ∧ W.frozen? ⟨b, 2, none⟩ = false ∧ W.frozen? ⟨b, 3, none⟩ = false ∧ W.frozen? ⟨b, 4, none⟩ = false ∧ b < W.heap.size :=
  ⟨(cell_of_block h 0).trans rfl, (cell_of_block h 1).trans rfl, (cell_of_block h 2).trans rfl, (cell_of_block h 3).trans rfl, (cell_of_block h 4).trans rfl, unfrozen_of_block h 0, unfrozen_of_block h 1, unfrozen_of_block h 2, unfrozen_of_block h 3, unfrozen_of_block h 4, lt_of_block h⟩
abbrev st5 (W : World) (b : Nat) (u0 u1 u2 u3 u4 : Value) : World := (((((W).setCell ⟨b, 0, none⟩ u0).setCell ⟨b, 1, none⟩ u1).setCell ⟨b, 2, none⟩ u2).setCell ⟨b, 3, none⟩ u3).setCell ⟨b, 4, none⟩ u4
theorem kz5_set {W : World} {b : Nat} {t : TypeId} {v0 v1 v2 v3 v4 : Value} (h : W.heap[b]? = some (.cells #[v0, v1, v2, v3, v4] t)) (u0 u1 u2 u3 u4 : Value) :
    (st5 W b u0 u1 u2 u3 u4).heap[b]? = some (.cells #[u0, u1, u2, u3, u4] t) := by
  rw [block_setCell (i := 4) (block_setCell (i := 3) (block_setCell (i := 2) (block_setCell (i := 1) (block_setCell (i := 0) h u0) u1) u2) u3) u4]
  simp only [List.setIfInBounds_toArray, List.set_cons_zero, List.set_cons_succ]
theorem kz5_get {W : World} {b : Nat} {t : TypeId} {v0 v1 v2 v3 v4 : Value} (h : W.heap[b]? = some (.cells #[v0, v1, v2, v3, v4] t)) (u0 u1 u2 u3 u4 : Value) :
    (st5 W b u0 u1 u2 u3 u4).cell? ⟨b, 0, none⟩ = some u0 ∧ (st5 W b u0 u1 u2 u3 u4).cell? ⟨b, 1, none⟩ = some u1 ∧ (st5 W b u0 u1 u2 u3 u4).cell? ⟨b, 2, none⟩ = some u2 ∧ (st5 W b u0 u1 u2 u3 u4).cell? ⟨b, 3, none⟩ = some u3 ∧ (st5 W b u0 u1 u2 u3 u4).cell? ⟨b, 4, none⟩ = some u4 := by
  have k := kz5_set h u0 u1 u2 u3 u4
  exact ⟨(cell_of_block k 0).trans rfl, (cell_of_block k 1).trans rfl, (cell_of_block k 2).trans rfl, (cell_of_block k 3).trans rfl, (cell_of_block k 4).trans rfl⟩
theorem below_st5 {W W' : World} {B b : Nat} (h : Below B W W') (hb : B ≤ b) (u0 u1 u2 u3 u4 : Value) : Below B W (st5 W' b u0 u1 u2 u3 u4) :=
  (((((h).setCell (p := ⟨b, 0, none⟩) hb u0).setCell (p := ⟨b, 1, none⟩) hb u1).setCell (p := ⟨b, 2, none⟩) hb u2).setCell (p := ⟨b, 3, none⟩) hb u3).setCell (p := ⟨b, 4, none⟩) hb u4
theorem size_st5 (W : World) (b : Nat) (u0 u1 u2 u3 u4 : Value) : (st5 W b u0 u1 u2 u3 u4).heap.size = W.heap.size := by simp [st5, World.setCell]
theorem far_st5 {W : World} {b k : Nat} (h : k ≠ b) (u0 u1 u2 u3 u4 : Value) : (st5 W b u0 u1 u2 u3 u4).heap[k]? = W.heap[k]? := by
  unfold st5
  rw [Below.heap_setCell _ _ _ _ h, Below.heap_setCell _ _ _ _ h, Below.heap_setCell _ _ _ _ h, Below.heap_setCell _ _ _ _ h, Below.heap_setCell _ _ _ _ h]
theorem Own.far5 {k : IntKind} {e : TypeId} {W : World} {base c b : Nat} {A : Option Addr} {l : List Int} (h : Own k e W base A c l) (hb : b < base) (u0 u1 u2 u3 u4 : Value) : Own k e (st5 W b u0 u1 u2 u3 u4) base A c l :=
  h.kept fun g hg _ => far_st5 (by omega) _ _ _ _ _
/-! ### A block of 9 cells -/
theorem cell_st2 {W : World} {b : Nat} {p : Addr} (h : p.block ≠ b) (u0 u1 : Value) : (st2 W b u0 u1).cell? p = W.cell? p := World.cell?_of_block (far_st2 h u0 u1)
theorem cell_st4 {W : World} {b : Nat} {p : Addr} (h : p.block ≠ b) (u0 u1 u2 u3 : Value) : (st4 W b u0 u1 u2 u3).cell? p = W.cell? p := World.cell?_of_block (far_st4 h u0 u1 u2 u3)
theorem cell_st5 {W : World} {b : Nat} {p : Addr} (h : p.block ≠ b) (u0 u1 u2 u3 u4 : Value) : (st5 W b u0 u1 u2 u3 u4).cell? p = W.cell? p := World.cell?_of_block (far_st5 h u0 u1 u2 u3 u4)
/-! ### Numbers -/
/-- Whether it is a mask. -/
def isM (x : Int) : Bool := decide (x.toNat = mk (cl (oc x.toNat)))
/-- A link. -/
structure Lk where
  (k i d c : Int)
/-- Its unsigned numbers have their widths. -/
structure Okl (x : Lk) : Prop where
  i : 0 ≤ x.i ∧ x.i < 4294967296
  d : 0 ≤ x.d ∧ x.d < 4294967296
def Okls (L : List Lk) : Prop := ∀ x ∈ L, Okl x
def mayk (x : Lk) : Bool := win x.k 1 4 && win x.c 0 65535
theorem mayk_iff (x : Lk) : mayk x = true ↔ (1 ≤ x.k ∧ x.k ≤ 4) ∧ (0 ≤ x.c ∧ x.c ≤ 65535) := by simp [mayk, win]
/-- The encoding of a link. -/
def elk (x : Lk) : List Int := be x.i 4 ++ (be x.d 4 ++ (be x.k 1 ++ (be 0 1 ++ be x.c 2)))
theorem elk_length (x : Lk) : (elk x).length = 12 := by simp [elk, be_length]
theorem elk_byt (x : Lk) : Byt (elk x) := (be_byt _ _).append ((be_byt _ _).append ((be_byt _ _).append ((be_byt _ _).append (be_byt _ _))))
def els (L : List Lk) : List Int := L.flatMap elk
theorem els_nil : els [] = [] := rfl
theorem els_snoc (L : List Lk) (x : Lk) : els (L ++ [x]) = els L ++ elk x := by simp [els]
theorem els_length (L : List Lk) : (els L).length = L.length * 12 := by
  induction L with
  | nil => rfl
  | cons x L ih =>
    have : els (x :: L) = elk x ++ els L := by simp [els]
    rw [this, List.length_append, ih, elk_length, List.length_cons]
    omega
theorem els_byt (L : List Lk) : Byt (els L) := by
  intro y hy
  obtain ⟨x, _, h⟩ := List.mem_flatMap.1 hy
  exact elk_byt x y h
/-! ### Links in memory -/
abbrev lkv (x : Lk) : Value := .agg #[.int .i64 x.k, .int .u32 x.i, .int .u32 x.d, .int .i64 x.c]
abbrev lkc (x : Lk) : List Value := [.int .i64 x.k, .int .u32 x.i, .int .u32 x.d, .int .i64 x.c]
def lflat (L : List Lk) : List Value := L.flatMap lkc
theorem lkc_len (x : Lk) : (lkc x).length = 4 := rfl
theorem lflat_length (L : List Lk) : (lflat L).length = L.length * 4 := fm_len lkc_len L
theorem lflat_snoc (L : List Lk) (x : Lk) : lflat (L ++ [x]) = lflat L ++ lkc x := by simp [lflat]
theorem lkc_one (x : Lk) : ∀ u ∈ lkc x, u.oneCell' = true := by
  intro u hu
  simp only [lkc, List.mem_cons, List.not_mem_nil, or_false] at hu
  rcases hu with rfl | rfl | rfl | rfl <;> rfl
/-- The links L are read at A. -/
def Lr (w : World) (A : Option Addr) (L : List Lk) : Prop := Rd (fun _ => True) w A (lflat L)
theorem Lr.step {w w' : World} {A : Option Addr} {L : List Lk} (h : Lr w A L) (k : Below w.heap.size w w') : Lr w' A L := Rd.keep h k.size fun j _ hj => k.block j hj
theorem Lr.nil (w : World) (A : Option Addr) : Lr w A [] := Rd.nil A
def gl (L : List Lk) (k : Nat) : Lk := L.getD k ⟨0, 0, 0, 0⟩
theorem gl_eq {L : List Lk} {k : Nat} (h : k < L.length) : gl L k = L[k] := by simp [gl, List.getD, h]
theorem gl_mem {L : List Lk} {k : Nat} (h : k < L.length) : gl L k ∈ L := by rw [gl_eq h]; exact List.getElem_mem h
theorem take_gl {L : List Lk} {k : Nat} (h : k < L.length) : L.take (k + 1) = L.take k ++ [gl L k] := by rw [List.take_succ_eq_append_getElem h, gl_eq h]
theorem Lr.at {w : World} {A : Option Addr} {L : List Lk} (h : Lr w A L) {i : Nat} (hi : i < L.length) :
    ∃ b off, A = some ⟨b, off, none⟩ ∧ b < w.heap.size ∧ w.cell? ⟨b, off + i * 4, none⟩ = some (.int .i64 (gl L i).k) ∧ w.cell? ⟨b, off + i * 4 + 1, none⟩ = some (.int .u32 (gl L i).i) ∧ w.cell? ⟨b, off + i * 4 + 2, none⟩ = some (.int .u32 (gl L i).d) ∧ w.cell? ⟨b, off + i * 4 + 3, none⟩ = some (.int .i64 (gl L i).c) := by
  obtain ⟨b, off, rfl, hlt, hc⟩ := fm_at lkc_len (by omega) h hi
  rw [gl_eq hi]
  exact ⟨b, off, rfl, hlt, hc 0 _ rfl, hc 1 _ rfl, hc 2 _ rfl, hc 3 _ rfl⟩
/-! ### Contracts -/
theorem ywithin_any (x l m : Int) (w : World) : Calls Try.prog 83 #[.int .i64 x, .int .i64 l, .int .i64 m] w fun e w' => e = .returned (.bool (win x l m)) ∧ w = w' := by
  by_cases h1 : l ≤ x
  · by_cases h2 : x ≤ m
    · have e : win x l m = true := by simp [win, h1, h2]
      have h3 : x ≥ l := h1
      rw [e]
      go_enter Try.func83, Try.ntmps83
      go_wp2
      go_ret
      exact ⟨rfl, rfl⟩
    · have e : win x l m = false := by simp [win]; omega
      have h3 : x ≥ l := h1
      rw [e]
      go_enter Try.func83, Try.ntmps83
      go_wp2
      go_ret
      exact ⟨rfl, rfl⟩
  · have e : win x l m = false := by simp [win, h1]
    have h3 : ¬ (x ≥ l) := h1
    rw [e]
    go_enter Try.func83, Try.ntmps83
    go_wp2
    go_ret
    exact ⟨rfl, rfl⟩
theorem isM_nat (n : Nat) : isM (n : Int) = decide (n = mk (cl (oc n))) := rfl
theorem isMask_any (x : Int) (w : World) (h0 : 0 ≤ x) (h1 : x < 4294967296) : Calls Try.prog 82 #[.int .u32 x] w fun e w' => e = .returned (.bool (isM x)) ∧ Below w.heap.size w w' := by
  obtain ⟨n, rfl⟩ := Int.eq_ofNat_of_zero_le h0
  have cc := long_any n w (by omega)
  rw [isM_nat]
  by_cases h : n = mk (cl (oc n))
  · rw [if_pos h] at cc
    rw [decide_eq_true h]
    clear h
    generalize oc n = o at *
    go_enter Try.func82, Try.ntmps82
    go_wp2_with fail
    refine cc.mono ?_
    rintro e w1 ⟨rfl, hb⟩
    go_wp2
    go_ret
    exact ⟨rfl, hb⟩
  · rw [if_neg h] at cc
    rw [decide_eq_false h]
    clear h
    go_enter Try.func82, Try.ntmps82
    go_wp2_with fail
    refine cc.mono ?_
    rintro e w1 ⟨rfl, hb⟩
    go_wp2
    go_ret
    exact ⟨rfl, hb⟩
def mayc (m x : Int) : Bool := isM m && win x 0 16777215
theorem mayCost_any (m x : Int) (w : World) (h0 : 0 ≤ m) (h1 : m < 4294967296) : Calls Try.prog 85 #[.int .u32 m, .int .i64 x] w fun e w' => e = .returned (.bool (mayc m x)) ∧ Below w.heap.size w w' := by
  have cc := isMask_any m w h0 h1
  have cw := fun V => ywithin_any x 0 16777215 V
  unfold mayc
  generalize isM m = M at *
  generalize win x 0 16777215 = T at *
  cases M
  · go_enter Try.func85, Try.ntmps85
    go_wp2_with fail
    refine cc.mono ?_
    rintro e w1 ⟨rfl, hb⟩
    go_wp2
    go_ret
    exact ⟨rfl, hb⟩
  · go_enter Try.func85, Try.ntmps85
    go_wp2_with fail
    refine cc.mono ?_
    rintro e w1 ⟨rfl, hb⟩
    go_wp2_with fail
    refine (cw _).mono ?_
    rintro e w2 ⟨rfl, rfl⟩
    go_wp2
    go_ret
    exact ⟨rfl, hb⟩
theorem yfield_any (n m : Int) (k : Nat) (w : World) (hk : m.toNat = k) (h1 : 1 ≤ m) (h2 : m ≤ 4) (h3 : 0 ≤ n) (h4 : n < 4294967296) (h5 : n < 256 ^ k) :
    Calls Try.prog 80 #[.int .u32 n, .int .i64 m] w fun e w' => ∃ A' c', e = .returned (.slice A' k c') ∧ Own .u8 5 w' w.heap.size A' c' (be n k) ∧ Below w.heap.size w w' := by
  subst hk
  have e1 : putE n m = 0 := by
    unfold putE
    rw [if_neg (by omega), if_neg (by omega)]
  have e2 : putL [] n m = be n m.toNat := by simp [putL, e1]
  have hc := put_any none 0 [] w.heap.size n m w (Bs.nil _) (Nat.le_refl _) (by simp) h3 h4
  rw [e1, e2, be_length] at hc
  clear e1 e2 h5
  go_enter Try.func80, Try.ntmps80
  go_wp2_with fail
  refine hc.mono ?_
  rintro e w' ⟨A', c', rfl, ho, hb⟩
  go_wp2
  go_ret
  exact ⟨A', c', rfl, ho, hb⟩
theorem brow_any (A : Option Addr) (n c k : Nat) (l : List Int) (w : World) (hn : l.length = n) (hk : n * 4 = k) (hb : Bs .u32 w w.heap.size A l) (hy : Wrd l) (hl : n ≤ 10000) :
    Calls Try.prog 84 #[.slice A n c] w fun e w' => ∃ A' c', e = .returned (.slice A' k c') ∧ Own .u8 5 w' w.heap.size A' c' (flat 4 l) ∧ Below w.heap.size w w' := by
  subst hn
  have e1 : rowE l 4 = 0 := rowE_fits (by decide) (by decide) (fun x hx => (hy x hx).2)
  have e2 : rowL l 4 = flat 4 l := by simp [rowL, e1]
  have hc := row_any A c l w.heap.size 4 w hb hy (Nat.le_refl _) hl
  rw [e1, e2, flat_length, hk] at hc
  clear e1 e2 hb hy
  go_enter Try.func84, Try.ntmps84
  go_wp2_with fail
  refine hc.mono ?_
  rintro e w' ⟨A', c', rfl, ho, hb⟩
  go_wp2
  go_ret
  exact ⟨A', c', rfl, ho, hb⟩
theorem ynumber_any (A : Option Addr) (n c : Nat) (l : List Int) (w : World) (hb : Bt w A l) (hy : Byt l) (hn : l.length = n) (hc : n ≤ c) (h1 : 1 ≤ n) (h2 : n ≤ 4) :
    Calls Try.prog 58 #[.slice A n c] w fun e w' => e = .returned (.int .u32 (num l)) ∧ Below w.heap.size w w' := by
  subst hn
  have e1 : takeE l l.length = 0 := by
    unfold takeE
    rw [if_neg (by omega), if_neg (by omega)]
  have e2 : takeN l l.length = num l := by simp [takeN, e1]
  have hcc := take_any A c l w.heap.size l.length w hb hy hc (Nat.le_refl _) (by omega)
  rw [e1, e2] at hcc
  generalize takeL l l.length = T at hcc
  clear e1 e2
  go_enter Try.func58, Try.ntmps58
  go_wp2_with fail
  refine hcc.mono ?_
  rintro e w' ⟨A', c', rfl, ho, hb'⟩
  go_wp2
  go_ret
  exact ⟨rfl, hb'⟩
theorem bytesOf_inj : ∀ {a b : List Int}, Byt a → Byt b → Lib.bytesOf a = Lib.bytesOf b → a = b := by
  intro a
  induction a with
  | nil => intro b _ _ h; cases b with
    | nil => rfl
    | cons y b => simp [Lib.bytesOf] at h
  | cons x a ih => intro b ha hb h; cases b with
    | nil => simp [Lib.bytesOf] at h
    | cons y b =>
      simp only [Lib.bytesOf, List.map_cons, List.cons.injEq] at h
      have hx := ha x (by simp)
      have hy := hb y (by simp)
      have e := congrArg UInt8.toNat h.1
      simp only [UInt8.toNat_ofNat'] at e
      have : x = y := by omega
      rw [this, ih (fun z hz => ha z (by simp [hz])) (fun z hz => hb z (by simp [hz])) h.2]
theorem str_eq {a b : List Int} (ha : Byt a) (hb : Byt b) : ((strOfNums a).toList == (strOfNums b).toList) = decide (a = b) := by
  rw [Lib.strOfNums_toList, Lib.strOfNums_toList, Bool.eq_iff_iff, decide_eq_true_eq, beq_iff_eq]
  exact ⟨bytesOf_inj ha hb, fun h => by rw [h]⟩
theorem equal_any (A1 A2 : Option Addr) (n1 n2 c1 c2 : Nat) (a b : List Int) (w : World) (h1 : a.length = n1) (h2 : b.length = n2) (ha : Bt w A1 a) (hb : Bt w A2 b) (ya : Byt a) (yb : Byt b) :
    Calls Try.prog 78 #[.slice A1 n1 c1, .slice A2 n2 c2] w fun e w' => e = .returned (.bool (decide (a = b))) ∧ w = w' := by
  subst h1 h2
  rw [← str_eq ya yb]
  have r1 := run_str w 32 5 9 Try.underlying32 Try.underlying5 Try.underlying9 _ A1 c1 a ha
  have r2 := run_str w 32 5 9 Try.underlying32 Try.underlying5 Try.underlying9 _ A2 c2 b hb
  generalize strOfNums a = sa at *
  generalize strOfNums b = sb at *
  go_enter Try.func78, Try.ntmps78
  go_wp2
  go_ret
  exact ⟨rfl, rfl⟩
set_option maxRecDepth 100000 in
theorem wrong_any (x : Lk) (w : World) : Calls Try.prog 91 #[.agg #[.int .i64 x.k, .int .u32 x.i, .int .u32 x.d, .int .i64 x.c]] w fun e w' => e = .returned (.bool (!mayk x)) ∧ Below w.heap.size w w' := by
  have HM : Hid (mayk x = (win x.k 1 4 && win x.c 0 65535)) := Lib.hid rfl
  obtain ⟨W0, hW0⟩ : ∃ V, w.alloc (.cells #[.int .i64 x.k, .int .u32 x.i, .int .u32 x.d, .int .i64 x.c] 106) = V := ⟨_, rfl⟩
  have bW0 : Below w.heap.size w W0 := by rw [← hW0]; exact below_alloc1 _ _
  have sW0 : W0.heap.size = w.heap.size + 1 := by rw [← hW0]; simp
  have KX : Hid (∀ V, Below W0.heap.size W0 V → V.cell? ⟨w.heap.size, 0, none⟩ = some (.int .i64 x.k) ∧ V.cell? ⟨w.heap.size, 1, none⟩ = some (.int .u32 x.i) ∧ V.cell? ⟨w.heap.size, 2, none⟩ = some (.int .u32 x.d) ∧ V.cell? ⟨w.heap.size, 3, none⟩ = some (.int .i64 x.c)) := Lib.hid (fun V hV => kb4_new hW0 hV)
  obtain ⟨k0, k1, k2, k3⟩ := KX.out _ (Below.refl _ _)
  have c1 := fun V => ywithin_any x.k 1 4 V
  have c2 := fun V => ywithin_any x.c 0 65535 V
  rw [HM.out]
  generalize win x.k 1 4 = T1 at *
  generalize win x.c 0 65535 = T2 at *
  clear HM KX
  cases T1
  · go_enter Try.func91, Try.ntmps91
    go_wp2_with fail
    refine (c1 _).mono ?_
    rintro e w1 ⟨rfl, rfl⟩
    go_wp2
    go_ret
    exact ⟨rfl, bW0⟩
  · go_enter Try.func91, Try.ntmps91
    go_wp2_with fail
    refine (c1 _).mono ?_
    rintro e w1 ⟨rfl, rfl⟩
    go_wp2_with fail
    refine (c2 _).mono ?_
    rintro e w1 ⟨rfl, rfl⟩
    go_wp2
    go_ret
    exact ⟨ret_bool (by simp), bW0⟩
/-- An external body. -/
structure Xb where
  (m : Int) (s : Bool) (c f t : Int)
def sec (s : Bool) : Int := if s then 128 else 0
set_option maxRecDepth 100000 in
theorem second_any (x : Xb) (w : World) : Calls Try.prog 86 #[.agg #[.int .u32 x.m, .bool x.s, .int .i64 x.c, .int .u32 x.f, .int .u32 x.t]] w fun e w' => e = .returned (.int .u32 (sec x.s)) ∧ Below w.heap.size w w' := by
  obtain ⟨W0, hW0⟩ : ∃ V, w.alloc (.cells #[.int .u32 x.m, .bool x.s, .int .i64 x.c, .int .u32 x.f, .int .u32 x.t] 89) = V := ⟨_, rfl⟩
  have bW0 : Below w.heap.size w W0 := by rw [← hW0]; exact below_alloc1 _ _
  have sW0 : W0.heap.size = w.heap.size + 1 := by rw [← hW0]; simp
  have KX : Hid (∀ V, Below W0.heap.size W0 V → V.cell? ⟨w.heap.size, 0, none⟩ = some (.int .u32 x.m) ∧ V.cell? ⟨w.heap.size, 1, none⟩ = some (.bool x.s) ∧ V.cell? ⟨w.heap.size, 2, none⟩ = some (.int .i64 x.c) ∧ V.cell? ⟨w.heap.size, 3, none⟩ = some (.int .u32 x.f) ∧ V.cell? ⟨w.heap.size, 4, none⟩ = some (.int .u32 x.t)) := Lib.hid (fun V hV => kb5_new hW0 hV)
  obtain ⟨k0, k1, k2, k3, k4⟩ := KX.out _ (Below.refl _ _)
  clear KX
  generalize hS : x.s = S at *
  cases S
  · go_enter Try.func86, Try.ntmps86
    go_wp2
    go_ret
    exact ⟨rfl, bW0⟩
  · go_enter Try.func86, Try.ntmps86
    go_wp2
    go_ret
    exact ⟨rfl, bW0⟩
end Go.Proofs.Ytadcicmccdphkaa
