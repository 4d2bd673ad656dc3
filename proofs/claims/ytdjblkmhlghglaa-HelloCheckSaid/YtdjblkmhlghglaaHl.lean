/-
  Greetings and interfaces as plain numbers; contracts of the small functions of package hello and of its reference. No statement is proved here; no conditions.
-/
import Derived.Test.YtdjblkmhlghglaaCat
import Derived.Test.YtdjblkmhlghglaaOct
import Derived.Test.YtdjblkmhlghglaaRow
import Derived.Test.YtdjblkmhlghglaaRefB
import Derived.Deep.DeepCutAuto
import Derived.Lib.QuietBelow
import Derived.Deep.RegionHeldLaw
namespace Go.Proofs.Ytdjblkmhlghglaa
open Go.RowKit Go.Joins

/-- A greeting. -/
structure He where
  (m i o p d r b : Int)
  s : List Int
/-- An interface. -/
structure If where
  (m i o d r : Int)
  pp : Bool
/-- Its numbers have their widths. -/
structure Okh (h : He) : Prop where
  m : 0 ≤ h.m ∧ h.m < 4294967296
  d : 0 ≤ h.d ∧ h.d < 4294967296
  r : 0 ≤ h.r ∧ h.r < 4294967296
  b : 0 ≤ h.b ∧ h.b < 4294967296
  s : Wrd h.s
def win (x m : Int) : Bool := decide (0 ≤ x) && decide (x ≤ m)
def mayh (h : He) : Bool := win h.i 65535 && win h.o 255 && win h.p 255 && decide (h.s.length ≤ 300)
theorem mayh_iff (h : He) : mayh h = true ↔ (0 ≤ h.i ∧ h.i ≤ 65535) ∧ (0 ≤ h.o ∧ h.o ≤ 255) ∧ (0 ≤ h.p ∧ h.p ≤ 255) ∧ h.s.length ≤ 300 := by
  simp [mayh, win, and_assoc]
theorem wrap_u32 {n : Int} (h0 : 0 ≤ n) (h1 : n < 4294967296) : IntKind.u32.wrap n = n := by
  simp [IntKind.wrap, IntKind.bits, IntKind.signed]
  omega
theorem wrap_i64 {n : Int} (h0 : 0 ≤ n) (h1 : n < 9223372036854775808) : IntKind.i64.wrap n = n := by
  simp [IntKind.wrap, IntKind.bits, IntKind.signed]
  omega
theorem wrap_u8 {n : Int} (h0 : 0 ≤ n) (h1 : n < 256) : IntKind.u8.wrap n = n := by
  simp [IntKind.wrap, IntKind.bits, IntKind.signed]
  omega
theorem ret_bool {a b : Bool} (h : a = b) : Ending.returned (.bool a) = .returned (.bool b) := by rw [h]
/-- The numbers l are read at A. -/
abbrev Wt (w : World) (A : Option Addr) (l : List Int) : Prop := Bs .u32 w w.heap.size A l
/-! ### A block of 6 cells -/
theorem kb6_new {w W0 W : World} {t : TypeId} {v0 v1 v2 v3 v4 v5 : Value} (h0 : w.alloc (.cells #[v0, v1, v2, v3, v4, v5] t) = W0) (h : Below W0.heap.size W0 W) :
    W.cell? ⟨w.heap.size, 0, none⟩ = some v0 ∧ W.cell? ⟨w.heap.size, 1, none⟩ = some v1 ∧ W.cell? ⟨w.heap.size, 2, none⟩ = some v2 ∧ W.cell? ⟨w.heap.size, 3, none⟩ = some v3 ∧ W.cell? ⟨w.heap.size, 4, none⟩ = some v4 ∧ W.cell? ⟨w.heap.size, 5, none⟩ = some v5 := by
  subst h0
  have k := (h.block w.heap.size (by simp)).trans (alloc_at _ _ _ rfl)
  exact ⟨(cell_of_block k 0).trans rfl, (cell_of_block k 1).trans rfl, (cell_of_block k 2).trans rfl, (cell_of_block k 3).trans rfl, (cell_of_block k 4).trans rfl, (cell_of_block k 5).trans rfl⟩
theorem kz6_at {W : World} {b : Nat} {t : TypeId} {v0 v1 v2 v3 v4 v5 : Value} (h : W.heap[b]? = some (.cells #[v0, v1, v2, v3, v4, v5] t)) :
    W.cell? ⟨b, 0, none⟩ = some v0 ∧ W.cell? ⟨b, 1, none⟩ = some v1 ∧ W.cell? ⟨b, 2, none⟩ = some v2 ∧ W.cell? ⟨b, 3, none⟩ = some v3 ∧ W.cell? ⟨b, 4, none⟩ = some v4 ∧ W.cell? ⟨b, 5, none⟩ = some v5 ∧ W.frozen? ⟨b, 0, none⟩ = false ∧ W.frozen? ⟨b, 1, none⟩ = false ∧ W.frozen? ⟨b, 2, none⟩ = false ∧ W.frozen? ⟨b, 3, none⟩ = false ∧ W.frozen? ⟨b, 4, none⟩ = false ∧ W.frozen? ⟨b, 5, none⟩ = false ∧ b < W.heap.size :=
  ⟨(cell_of_block h 0).trans rfl, (cell_of_block h 1).trans rfl, (cell_of_block h 2).trans rfl, (cell_of_block h 3).trans rfl, (cell_of_block h 4).trans rfl, (cell_of_block h 5).trans rfl, unfrozen_of_block h 0, unfrozen_of_block h 1, unfrozen_of_block h 2, unfrozen_of_block h 3, unfrozen_of_block h 4, unfrozen_of_block h 5, lt_of_block h⟩
abbrev st6 (W : World) (b : Nat) (u0 u1 u2 u3 u4 u5 : Value) : World := ((((((W).setCell ⟨b, 0, none⟩ u0).setCell ⟨b, 1, none⟩ u1).setCell ⟨b, 2, none⟩ u2).setCell ⟨b, 3, none⟩ u3).setCell ⟨b, 4, none⟩ u4).setCell ⟨b, 5, none⟩ u5
theorem kz6_set {W : World} {b : Nat} {t : TypeId} {v0 v1 v2 v3 v4 v5 : Value} (h : W.heap[b]? = some (.cells #[v0, v1, v2, v3, v4, v5] t)) (u0 u1 u2 u3 u4 u5 : Value) :
    (st6 W b u0 u1 u2 u3 u4 u5).heap[b]? = some (.cells #[u0, u1, u2, u3, u4, u5] t) := by
  rw [block_setCell (i := 5) (block_setCell (i := 4) (block_setCell (i := 3) (block_setCell (i := 2) (block_setCell (i := 1) (block_setCell (i := 0) h u0) u1) u2) u3) u4) u5]
  simp only [List.setIfInBounds_toArray, List.set_cons_zero, List.set_cons_succ]
theorem kz6_get {W : World} {b : Nat} {t : TypeId} {v0 v1 v2 v3 v4 v5 : Value} (h : W.heap[b]? = some (.cells #[v0, v1, v2, v3, v4, v5] t)) (u0 u1 u2 u3 u4 u5 : Value) :
    (st6 W b u0 u1 u2 u3 u4 u5).cell? ⟨b, 0, none⟩ = some u0 ∧ (st6 W b u0 u1 u2 u3 u4 u5).cell? ⟨b, 1, none⟩ = some u1 ∧ (st6 W b u0 u1 u2 u3 u4 u5).cell? ⟨b, 2, none⟩ = some u2 ∧ (st6 W b u0 u1 u2 u3 u4 u5).cell? ⟨b, 3, none⟩ = some u3 ∧ (st6 W b u0 u1 u2 u3 u4 u5).cell? ⟨b, 4, none⟩ = some u4 ∧ (st6 W b u0 u1 u2 u3 u4 u5).cell? ⟨b, 5, none⟩ = some u5 := by
  have k := kz6_set h u0 u1 u2 u3 u4 u5
  exact ⟨(cell_of_block k 0).trans rfl, (cell_of_block k 1).trans rfl, (cell_of_block k 2).trans rfl, (cell_of_block k 3).trans rfl, (cell_of_block k 4).trans rfl, (cell_of_block k 5).trans rfl⟩
theorem below_st6 {W W' : World} {B b : Nat} (h : Below B W W') (hb : B ≤ b) (u0 u1 u2 u3 u4 u5 : Value) : Below B W (st6 W' b u0 u1 u2 u3 u4 u5) :=
  ((((((h).setCell (p := ⟨b, 0, none⟩) hb u0).setCell (p := ⟨b, 1, none⟩) hb u1).setCell (p := ⟨b, 2, none⟩) hb u2).setCell (p := ⟨b, 3, none⟩) hb u3).setCell (p := ⟨b, 4, none⟩) hb u4).setCell (p := ⟨b, 5, none⟩) hb u5
theorem size_st6 (W : World) (b : Nat) (u0 u1 u2 u3 u4 u5 : Value) : (st6 W b u0 u1 u2 u3 u4 u5).heap.size = W.heap.size := by simp [st6, World.setCell]
theorem far_st6 {W : World} {b k : Nat} (h : k ≠ b) (u0 u1 u2 u3 u4 u5 : Value) : (st6 W b u0 u1 u2 u3 u4 u5).heap[k]? = W.heap[k]? := by
  unfold st6
  rw [Below.heap_setCell _ _ _ _ h, Below.heap_setCell _ _ _ _ h, Below.heap_setCell _ _ _ _ h, Below.heap_setCell _ _ _ _ h, Below.heap_setCell _ _ _ _ h, Below.heap_setCell _ _ _ _ h]
theorem Own.far6 {k : IntKind} {e : TypeId} {W : World} {base c b : Nat} {A : Option Addr} {l : List Int} (h : Own k e W base A c l) (hb : b < base) (u0 u1 u2 u3 u4 u5 : Value) : Own k e (st6 W b u0 u1 u2 u3 u4 u5) base A c l :=
  h.kept fun g hg _ => far_st6 (by omega) _ _ _ _ _ _
/-! ### A block of 8 cells -/
theorem kb8_new {w W0 W : World} {t : TypeId} {v0 v1 v2 v3 v4 v5 v6 v7 : Value} (h0 : w.alloc (.cells #[v0, v1, v2, v3, v4, v5, v6, v7] t) = W0) (h : Below W0.heap.size W0 W) :
    W.cell? ⟨w.heap.size, 0, none⟩ = some v0 ∧ W.cell? ⟨w.heap.size, 1, none⟩ = some v1 ∧ W.cell? ⟨w.heap.size, 2, none⟩ = some v2 ∧ W.cell? ⟨w.heap.size, 3, none⟩ = some v3 ∧ W.cell? ⟨w.heap.size, 4, none⟩ = some v4 ∧ W.cell? ⟨w.heap.size, 5, none⟩ = some v5 ∧ W.cell? ⟨w.heap.size, 6, none⟩ = some v6 ∧ W.cell? ⟨w.heap.size, 7, none⟩ = some v7 := by
  subst h0
  have k := (h.block w.heap.size (by simp)).trans (alloc_at _ _ _ rfl)
  exact ⟨(cell_of_block k 0).trans rfl, (cell_of_block k 1).trans rfl, (cell_of_block k 2).trans rfl, (cell_of_block k 3).trans rfl, (cell_of_block k 4).trans rfl, (cell_of_block k 5).trans rfl, (cell_of_block k 6).trans rfl, (cell_of_block k 7).trans rfl⟩
theorem kz8_at {W : World} {b : Nat} {t : TypeId} {v0 v1 v2 v3 v4 v5 v6 v7 : Value} (h : W.heap[b]? = some (.cells #[v0, v1, v2, v3, v4, v5, v6, v7] t)) :
    W.cell? ⟨b, 0, none⟩ = some v0 ∧ W.cell? ⟨b, 1, none⟩ = some v1 ∧ W.cell? ⟨b, 2, none⟩ = some v2 ∧ W.cell? ⟨b, 3, none⟩ = some v3 ∧ W.cell? ⟨b, 4, none⟩ = some v4 ∧ W.cell? ⟨b, 5, none⟩ = some v5 ∧ W.cell? ⟨b, 6, none⟩ = some v6 ∧ W.cell? ⟨b, 7, none⟩ = some v7 ∧ W.frozen? ⟨b, 0, none⟩ = false ∧ W.frozen? ⟨b, 1, none⟩ = false ∧ W.frozen? ⟨b, 2, none⟩ = false ∧ W.frozen? ⟨b, 3, none⟩ = false ∧ W.frozen? ⟨b, 4, none⟩ = false ∧ W.frozen? ⟨b, 5, none⟩ = false ∧ W.frozen? ⟨b, 6, none⟩ = false ∧ W.frozen? ⟨b, 7, none⟩ = false ∧ b < W.heap.size :=
  ⟨(cell_of_block h 0).trans rfl, (cell_of_block h 1).trans rfl, (cell_of_block h 2).trans rfl, (cell_of_block h 3).trans rfl, (cell_of_block h 4).trans rfl, (cell_of_block h 5).trans rfl, (cell_of_block h 6).trans rfl, (cell_of_block h 7).trans rfl, unfrozen_of_block h 0, unfrozen_of_block h 1, unfrozen_of_block h 2, unfrozen_of_block h 3, unfrozen_of_block h 4, unfrozen_of_block h 5, unfrozen_of_block h 6, unfrozen_of_block h 7, lt_of_block h⟩
abbrev st8 (W : World) (b : Nat) (u0 u1 u2 u3 u4 u5 u6 u7 : Value) : World := ((((((((W).setCell ⟨b, 0, none⟩ u0).setCell ⟨b, 1, none⟩ u1).setCell ⟨b, 2, none⟩ u2).setCell ⟨b, 3, none⟩ u3).setCell ⟨b, 4, none⟩ u4).setCell ⟨b, 5, none⟩ u5).setCell ⟨b, 6, none⟩ u6).setCell ⟨b, 7, none⟩ u7
theorem kz8_set {W : World} {b : Nat} {t : TypeId} {v0 v1 v2 v3 v4 v5 v6 v7 : Value} (h : W.heap[b]? = some (.cells #[v0, v1, v2, v3, v4, v5, v6, v7] t)) (u0 u1 u2 u3 u4 u5 u6 u7 : Value) :
    (st8 W b u0 u1 u2 u3 u4 u5 u6 u7).heap[b]? = some (.cells #[u0, u1, u2, u3, u4, u5, u6, u7] t) := by
  rw [block_setCell (i := 7) (block_setCell (i := 6) (block_setCell (i := 5) (block_setCell (i := 4) (block_setCell (i := 3) (block_setCell (i := 2) (block_setCell (i := 1) (block_setCell (i := 0) h u0) u1) u2) u3) u4) u5) u6) u7]
  simp only [List.setIfInBounds_toArray, List.set_cons_zero, List.set_cons_succ]
theorem kz8_get {W : World} {b : Nat} {t : TypeId} {v0 v1 v2 v3 v4 v5 v6 v7 : Value} (h : W.heap[b]? = some (.cells #[v0, v1, v2, v3, v4, v5, v6, v7] t)) (u0 u1 u2 u3 u4 u5 u6 u7 : Value) :
    (st8 W b u0 u1 u2 u3 u4 u5 u6 u7).cell? ⟨b, 0, none⟩ = some u0 ∧ (st8 W b u0 u1 u2 u3 u4 u5 u6 u7).cell? ⟨b, 1, none⟩ = some u1 ∧ (st8 W b u0 u1 u2 u3 u4 u5 u6 u7).cell? ⟨b, 2, none⟩ = some u2 ∧ (st8 W b u0 u1 u2 u3 u4 u5 u6 u7).cell? ⟨b, 3, none⟩ = some u3 ∧ (st8 W b u0 u1 u2 u3 u4 u5 u6 u7).cell? ⟨b, 4, none⟩ = some u4 ∧ (st8 W b u0 u1 u2 u3 u4 u5 u6 u7).cell? ⟨b, 5, none⟩ = some u5 ∧ (st8 W b u0 u1 u2 u3 u4 u5 u6 u7).cell? ⟨b, 6, none⟩ = some u6 ∧ (st8 W b u0 u1 u2 u3 u4 u5 u6 u7).cell? ⟨b, 7, none⟩ = some u7 := by
  have k := kz8_set h u0 u1 u2 u3 u4 u5 u6 u7
  exact ⟨(cell_of_block k 0).trans rfl, (cell_of_block k 1).trans rfl, (cell_of_block k 2).trans rfl, (cell_of_block k 3).trans rfl, (cell_of_block k 4).trans rfl, (cell_of_block k 5).trans rfl, (cell_of_block k 6).trans rfl, (cell_of_block k 7).trans rfl⟩
theorem below_st8 {W W' : World} {B b : Nat} (h : Below B W W') (hb : B ≤ b) (u0 u1 u2 u3 u4 u5 u6 u7 : Value) : Below B W (st8 W' b u0 u1 u2 u3 u4 u5 u6 u7) :=
  ((((((((h).setCell (p := ⟨b, 0, none⟩) hb u0).setCell (p := ⟨b, 1, none⟩) hb u1).setCell (p := ⟨b, 2, none⟩) hb u2).setCell (p := ⟨b, 3, none⟩) hb u3).setCell (p := ⟨b, 4, none⟩) hb u4).setCell (p := ⟨b, 5, none⟩) hb u5).setCell (p := ⟨b, 6, none⟩) hb u6).setCell (p := ⟨b, 7, none⟩) hb u7
theorem size_st8 (W : World) (b : Nat) (u0 u1 u2 u3 u4 u5 u6 u7 : Value) : (st8 W b u0 u1 u2 u3 u4 u5 u6 u7).heap.size = W.heap.size := by simp [st8, World.setCell]
theorem far_st8 {W : World} {b k : Nat} (h : k ≠ b) (u0 u1 u2 u3 u4 u5 u6 u7 : Value) : (st8 W b u0 u1 u2 u3 u4 u5 u6 u7).heap[k]? = W.heap[k]? := by
  unfold st8
  rw [Below.heap_setCell _ _ _ _ h, Below.heap_setCell _ _ _ _ h, Below.heap_setCell _ _ _ _ h, Below.heap_setCell _ _ _ _ h, Below.heap_setCell _ _ _ _ h, Below.heap_setCell _ _ _ _ h, Below.heap_setCell _ _ _ _ h, Below.heap_setCell _ _ _ _ h]
theorem Own.far8 {k : IntKind} {e : TypeId} {W : World} {base c b : Nat} {A : Option Addr} {l : List Int} (h : Own k e W base A c l) (hb : b < base) (u0 u1 u2 u3 u4 u5 u6 u7 : Value) : Own k e (st8 W b u0 u1 u2 u3 u4 u5 u6 u7) base A c l :=
  h.kept fun g hg _ => far_st8 (by omega) _ _ _ _ _ _ _ _
/-! ### A block of 4 cells -/
theorem kb4_new {w W0 W : World} {t : TypeId} {v0 v1 v2 v3 : Value} (h0 : w.alloc (.cells #[v0, v1, v2, v3] t) = W0) (h : Below W0.heap.size W0 W) :
    W.cell? ⟨w.heap.size, 0, none⟩ = some v0 ∧ W.cell? ⟨w.heap.size, 1, none⟩ = some v1 ∧ W.cell? ⟨w.heap.size, 2, none⟩ = some v2 ∧ W.cell? ⟨w.heap.size, 3, none⟩ = some v3 := by
  subst h0
  have k := (h.block w.heap.size (by simp)).trans (alloc_at _ _ _ rfl)
  exact ⟨(cell_of_block k 0).trans rfl, (cell_of_block k 1).trans rfl, (cell_of_block k 2).trans rfl, (cell_of_block k 3).trans rfl⟩
/-! ### within, May -/
theorem within_any (x m : Int) (w : World) : Calls Try.prog 27 #[.int .i64 x, .int .i64 m] w fun e w' => e = .returned (.bool (win x m)) ∧ w = w' := by
  by_cases h1 : 0 ≤ x
  · by_cases h2 : x ≤ m
    · have e : win x m = true := by simp [win, h1, h2]
      have h3 : x ≥ 0 := h1
      rw [e]
      go_enter Try.func27, Try.ntmps27
      go_wp2
      go_ret
      exact ⟨rfl, rfl⟩
    · have e : win x m = false := by simp [win]; omega
      have h3 : x ≥ 0 := h1
      rw [e]
      go_enter Try.func27, Try.ntmps27
      go_wp2
      go_ret
      exact ⟨rfl, rfl⟩
  · have e : win x m = false := by simp [win, h1]
    have h3 : ¬ (x ≥ 0) := h1
    rw [e]
    go_enter Try.func27, Try.ntmps27
    go_wp2
    go_ret
    exact ⟨rfl, rfl⟩
set_option maxRecDepth 100000 in
theorem may_any (h : He) (A : Option Addr) (n c : Nat) (w : World) (hn : h.s.length = n) :
    Calls Try.prog 11 #[.agg #[.int .u32 h.m, .int .i64 h.i, .int .i64 h.o, .int .i64 h.p, .int .u32 h.d, .int .u32 h.r, .int .u32 h.b, .slice A n c]] w fun e w' => e = .returned (.bool (mayh h)) ∧ Below w.heap.size w w' := by
  have HM : Hid (mayh h = (win h.i 65535 && win h.o 255 && win h.p 255 && decide (n ≤ 300))) := Lib.hid (by rw [← hn]; rfl)
  clear hn
  obtain ⟨W0, hW0⟩ : ∃ V, w.alloc (.cells #[.int .u32 h.m, .int .i64 h.i, .int .i64 h.o, .int .i64 h.p, .int .u32 h.d, .int .u32 h.r, .int .u32 h.b, .slice A n c] 25) = V := ⟨_, rfl⟩
  have bW0 : Below w.heap.size w W0 := by rw [← hW0]; exact below_alloc1 _ _
  have sW0 : W0.heap.size = w.heap.size + 1 := by rw [← hW0]; simp
  have KX : Hid (∀ V, Below W0.heap.size W0 V → V.cell? ⟨w.heap.size, 0, none⟩ = some (.int .u32 h.m) ∧ V.cell? ⟨w.heap.size, 1, none⟩ = some (.int .i64 h.i) ∧ V.cell? ⟨w.heap.size, 2, none⟩ = some (.int .i64 h.o) ∧ V.cell? ⟨w.heap.size, 3, none⟩ = some (.int .i64 h.p) ∧ V.cell? ⟨w.heap.size, 4, none⟩ = some (.int .u32 h.d) ∧ V.cell? ⟨w.heap.size, 5, none⟩ = some (.int .u32 h.r) ∧ V.cell? ⟨w.heap.size, 6, none⟩ = some (.int .u32 h.b) ∧ V.cell? ⟨w.heap.size, 7, none⟩ = some (.slice A n c)) := Lib.hid (fun V hV => kb8_new hW0 hV)
  obtain ⟨k0, k1, k2, k3, k4, k5, k6, k7⟩ := KX.out _ (Below.refl _ _)
  obtain ⟨T1, hT1⟩ : ∃ T, win h.i 65535 = T := ⟨_, rfl⟩
  obtain ⟨T2, hT2⟩ : ∃ T, win h.o 255 = T := ⟨_, rfl⟩
  obtain ⟨T3, hT3⟩ : ∃ T, win h.p 255 = T := ⟨_, rfl⟩
  have H1 := Lib.hid hT1
  have H2 := Lib.hid hT2
  have H3 := Lib.hid hT3
  clear hT1 hT2 hT3 KX
  cases T1
  · go_enter Try.func11, Try.ntmps11
    go_wp2_with fail
    refine (within_any _ _ _).mono ?_
    rintro e w1 ⟨rfl, rfl⟩
    rw [H1.out]
    go_wp2
    go_ret
    exact ⟨ret_bool (by rw [HM.out, H1.out, H2.out, H3.out]; simp), bW0⟩
  cases T2
  · go_enter Try.func11, Try.ntmps11
    go_wp2_with fail
    refine (within_any _ _ _).mono ?_
    rintro e w1 ⟨rfl, rfl⟩
    rw [H1.out]
    go_wp2_with fail
    refine (within_any _ _ _).mono ?_
    rintro e w2 ⟨rfl, rfl⟩
    rw [H2.out]
    go_wp2
    go_ret
    exact ⟨ret_bool (by rw [HM.out, H1.out, H2.out, H3.out]; simp), bW0⟩
  cases T3
  · go_enter Try.func11, Try.ntmps11
    go_wp2_with fail
    refine (within_any _ _ _).mono ?_
    rintro e w1 ⟨rfl, rfl⟩
    rw [H1.out]
    go_wp2_with fail
    refine (within_any _ _ _).mono ?_
    rintro e w2 ⟨rfl, rfl⟩
    rw [H2.out]
    go_wp2_with fail
    refine (within_any _ _ _).mono ?_
    rintro e w3 ⟨rfl, rfl⟩
    rw [H3.out]
    go_wp2
    go_ret
    exact ⟨ret_bool (by rw [HM.out, H1.out, H2.out, H3.out]; simp), bW0⟩
  by_cases h4 : n ≤ 300
  · have h5 : (n : Int) ≤ 300 := by omega
    go_enter Try.func11, Try.ntmps11
    go_wp2_with fail
    refine (within_any _ _ _).mono ?_
    rintro e w1 ⟨rfl, rfl⟩
    rw [H1.out]
    go_wp2_with fail
    refine (within_any _ _ _).mono ?_
    rintro e w2 ⟨rfl, rfl⟩
    rw [H2.out]
    go_wp2_with fail
    refine (within_any _ _ _).mono ?_
    rintro e w3 ⟨rfl, rfl⟩
    rw [H3.out]
    go_wp2
    go_ret
    exact ⟨ret_bool (by rw [HM.out, H1.out, H2.out, H3.out]; simp [h4]), bW0⟩
  · have h5 : ¬ ((n : Int) ≤ 300) := by omega
    go_enter Try.func11, Try.ntmps11
    go_wp2_with fail
    refine (within_any _ _ _).mono ?_
    rintro e w1 ⟨rfl, rfl⟩
    rw [H1.out]
    go_wp2_with fail
    refine (within_any _ _ _).mono ?_
    rintro e w2 ⟨rfl, rfl⟩
    rw [H2.out]
    go_wp2_with fail
    refine (within_any _ _ _).mono ?_
    rintro e w3 ⟨rfl, rfl⟩
    rw [H3.out]
    go_wp2
    go_ret
    exact ⟨ret_bool (by rw [HM.out, H1.out, H2.out, H3.out]; (simp <;> omega)), bW0⟩
set_option maxRecDepth 100000 in
theorem rmay_any (h : He) (A : Option Addr) (n c : Nat) (w : World) (hn : h.s.length = n) :
    Calls Try.prog 12 #[.agg #[.int .u32 h.m, .int .i64 h.i, .int .i64 h.o, .int .i64 h.p, .int .u32 h.d, .int .u32 h.r, .int .u32 h.b, .slice A n c]] w fun e w' => e = .returned (.bool (mayh h)) ∧ Below w.heap.size w w' := by
  have HM : Hid (mayh h = (win h.i 65535 && win h.o 255 && win h.p 255 && decide (n ≤ 300))) := Lib.hid (by rw [← hn]; rfl)
  clear hn
  obtain ⟨W0, hW0⟩ : ∃ V, w.alloc (.cells #[.int .u32 h.m, .int .i64 h.i, .int .i64 h.o, .int .i64 h.p, .int .u32 h.d, .int .u32 h.r, .int .u32 h.b, .slice A n c] 32) = V := ⟨_, rfl⟩
  have bW0 : Below w.heap.size w W0 := by rw [← hW0]; exact below_alloc1 _ _
  have sW0 : W0.heap.size = w.heap.size + 1 := by rw [← hW0]; simp
  have KX : Hid (∀ V, Below W0.heap.size W0 V → V.cell? ⟨w.heap.size, 0, none⟩ = some (.int .u32 h.m) ∧ V.cell? ⟨w.heap.size, 1, none⟩ = some (.int .i64 h.i) ∧ V.cell? ⟨w.heap.size, 2, none⟩ = some (.int .i64 h.o) ∧ V.cell? ⟨w.heap.size, 3, none⟩ = some (.int .i64 h.p) ∧ V.cell? ⟨w.heap.size, 4, none⟩ = some (.int .u32 h.d) ∧ V.cell? ⟨w.heap.size, 5, none⟩ = some (.int .u32 h.r) ∧ V.cell? ⟨w.heap.size, 6, none⟩ = some (.int .u32 h.b) ∧ V.cell? ⟨w.heap.size, 7, none⟩ = some (.slice A n c)) := Lib.hid (fun V hV => kb8_new hW0 hV)
  obtain ⟨k0, k1, k2, k3, k4, k5, k6, k7⟩ := KX.out _ (Below.refl _ _)
  clear KX
  by_cases i1 : h.i ≥ 0
  case neg =>
    go_enter Try.func12, Try.ntmps12
    go_wp2
    go_ret
    exact ⟨ret_bool (by rw [HM.out]; unfold win; (simp <;> omega)), bW0⟩
  by_cases i2 : h.i ≤ 65535
  case neg =>
    go_enter Try.func12, Try.ntmps12
    go_wp2
    go_ret
    exact ⟨ret_bool (by rw [HM.out]; unfold win; (simp <;> omega)), bW0⟩
  by_cases o1 : h.o ≥ 0
  case neg =>
    go_enter Try.func12, Try.ntmps12
    go_wp2
    go_ret
    exact ⟨ret_bool (by rw [HM.out]; unfold win; (simp <;> omega)), bW0⟩
  by_cases o2 : h.o ≤ 255
  case neg =>
    go_enter Try.func12, Try.ntmps12
    go_wp2
    go_ret
    exact ⟨ret_bool (by rw [HM.out]; unfold win; (simp <;> omega)), bW0⟩
  by_cases p1 : h.p ≥ 0
  case neg =>
    go_enter Try.func12, Try.ntmps12
    go_wp2
    go_ret
    exact ⟨ret_bool (by rw [HM.out]; unfold win; (simp <;> omega)), bW0⟩
  by_cases p2 : h.p ≤ 255
  case neg =>
    go_enter Try.func12, Try.ntmps12
    go_wp2
    go_ret
    exact ⟨ret_bool (by rw [HM.out]; unfold win; (simp <;> omega)), bW0⟩
  by_cases h4 : n ≤ 300
  · have h5 : (n : Int) ≤ 300 := by omega
    go_enter Try.func12, Try.ntmps12
    go_wp2
    go_ret
    exact ⟨ret_bool (by rw [HM.out]; unfold win; (simp <;> omega)), bW0⟩
  · have h5 : ¬ ((n : Int) ≤ 300) := by omega
    go_enter Try.func12, Try.ntmps12
    go_wp2
    go_ret
    exact ⟨ret_bool (by rw [HM.out]; unfold win; (simp <;> omega)), bW0⟩
/-! ### field, row, number -/
theorem field_any (n m : Int) (k : Nat) (w : World) (hk : m.toNat = k) (h1 : 1 ≤ m) (h2 : m ≤ 4) (h3 : 0 ≤ n) (h4 : n < 4294967296) (h5 : n < 256 ^ k) :
    Calls Try.prog 24 #[.int .u32 n, .int .i64 m] w fun e w' => ∃ A' c', e = .returned (.slice A' k c') ∧ Own .u8 5 w' w.heap.size A' c' (be n k) ∧ Below w.heap.size w w' := by
  subst hk
  have e1 : putE n m = 0 := by
    unfold putE
    rw [if_neg (by omega), if_neg (by omega)]
  have e2 : putL [] n m = be n m.toNat := by simp [putL, e1]
  have hc := put_any none 0 [] w.heap.size n m w (Bs.nil _) (Nat.le_refl _) (by simp) h3 h4
  rw [e1, e2, be_length] at hc
  clear e1 e2 h5
  go_enter Try.func24, Try.ntmps24
  go_wp2_with fail
  refine hc.mono ?_
  rintro e w' ⟨A', c', rfl, ho, hb⟩
  go_wp2
  go_ret
  exact ⟨A', c', rfl, ho, hb⟩
theorem rowf_any (A : Option Addr) (n c : Nat) (l : List Int) (w : World) (hb : Wt w A l) (hy : Wrd l) (hn : l.length = n) (hl : l.length ≤ 10000) :
    Calls Try.prog 25 #[.slice A n c] w fun e w' => ∃ A' c', e = .returned (.slice A' (n * 4) c') ∧ Own .u8 5 w' w.heap.size A' c' (flat 4 l) ∧ Below w.heap.size w w' := by
  subst hn
  have e1 : rowE l 4 = 0 := rowE_fits (by decide) (by decide) (fun x hx => (hy x hx).2)
  have e2 : rowL l 4 = flat 4 l := by simp [rowL, e1]
  have hc := row_any A c l w.heap.size 4 w hb hy (Nat.le_refl _) hl
  rw [e1, e2, flat_length] at hc
  clear e1 e2
  go_enter Try.func25, Try.ntmps25
  go_wp2_with fail
  refine hc.mono ?_
  rintro e w' ⟨A', c', rfl, ho, hb⟩
  go_wp2
  go_ret
  exact ⟨A', c', rfl, ho, hb⟩
theorem number_any (A : Option Addr) (n c : Nat) (l : List Int) (w : World) (hb : Bt w A l) (hy : Byt l) (hn : l.length = n) (hc : n ≤ c) (h1 : 1 ≤ n) (h2 : n ≤ 4) :
    Calls Try.prog 30 #[.slice A n c] w fun e w' => e = .returned (.int .u32 (num l)) ∧ Below w.heap.size w w' := by
  subst hn
  have e1 : takeE l l.length = 0 := by
    unfold takeE
    rw [if_neg (by omega), if_neg (by omega)]
  have e2 : takeN l l.length = num l := by simp [takeN, e1]
  have hcc := take_any A c l w.heap.size l.length w hb hy hc (Nat.le_refl _) (by omega)
  rw [e1, e2] at hcc
  generalize takeL l l.length = T at hcc
  clear e1 e2
  go_enter Try.func30, Try.ntmps30
  go_wp2_with fail
  refine hcc.mono ?_
  rintro e w' ⟨A', c', rfl, ho, hb'⟩
  go_wp2
  go_ret
  exact ⟨rfl, hb'⟩
/-! ### fault -/
/-- Why these bytes are no greeting; 0 if they are one. -/
def flt (l : List Int) : Int := if l.length < 20 ∨ (l.length - 20) % 4 ≠ 0 then 2 else if 1220 < l.length then 5 else 0
theorem fault_any (A : Option Addr) (c : Nat) (l : List Int) (w : World) (hl : l.length ≤ 100000) :
    Calls Try.prog 28 #[.slice A l.length c] w fun e w' => e = .returned (.int .i64 (flt l)) ∧ w = w' := by
  have HF : Hid (flt l = if l.length < 20 ∨ (l.length - 20) % 4 ≠ 0 then 2 else if 1220 < l.length then 5 else 0) := Lib.hid rfl
  generalize l.length = n at *
  by_cases c1 : n < 20
  · have e : flt l = 2 := by rw [HF.out, if_pos (.inl c1)]
    rw [e]
    have c2 : (n : Int) < 20 := by omega
    clear e HF
    go_enter Try.func28, Try.ntmps28
    go_wp2
    go_ret
    exact ⟨rfl, rfl⟩
  have c2 : ¬ ((n : Int) < 20) := by omega
  have hw : wrap64 ((n : Int) - 20) = (n : Int) - 20 := by unfold wrap64; omega
  by_cases c3 : (n - 20) % 4 = 0
  case neg =>
    have e : flt l = 2 := by rw [HF.out, if_pos (.inr c3)]
    rw [e]
    have c4 : (((n : Int) - 20) % 4 == 0) = false := by simp; omega
    have c5 : ((n : Int) - 20) % 4 ≠ 0 := by omega
    have c6 : 0 ≤ (n : Int) - 20 := by omega
    clear e HF
    go_enter Try.func28, Try.ntmps28
    go_wp2
    go_ret
    exact ⟨rfl, rfl⟩
  have c4 : ((n : Int) - 20) % 4 = 0 := by omega
  have c6 : 0 ≤ (n : Int) - 20 := by omega
  have HF2 : Hid (flt l = if 1220 < n then 5 else 0) := Lib.hid (by rw [HF.out, if_neg (by omega)])
  clear HF
  by_cases c5 : 1220 < n
  · have e : flt l = 5 := by rw [HF2.out, if_pos c5]
    rw [e]
    have c7 : (n : Int) > 1220 := by omega
    clear e HF2
    go_enter Try.func28, Try.ntmps28
    go_wp2
    go_ret
    exact ⟨rfl, rfl⟩
  · have e : flt l = 0 := by rw [HF2.out, if_neg c5]
    rw [e]
    have c7 : ¬ ((n : Int) > 1220) := by omega
    clear e HF2
    go_enter Try.func28, Try.ntmps28
    go_wp2
    go_ret
    exact ⟨rfl, rfl⟩
/-! ### plain, iface, Same -/
theorem plain_any (h : He) (A : Option Addr) (n c : Nat) (w : World) : Calls Try.prog 10 #[.agg #[.int .u32 h.m, .int .i64 h.i, .int .i64 h.o, .int .i64 h.p, .int .u32 h.d, .int .u32 h.r, .int .u32 h.b, .slice A n c]] w fun e w' => e = .returned (.agg #[.int .u32 h.m, .int .i64 h.i, .int .i64 h.o, .int .i64 h.p, .int .u32 h.d, .int .u32 h.r, .int .u32 h.b, .slice A n c]) ∧ Below w.heap.size w w' := by
  have hb := below_alloc2 w (.cells #[.int .u32 h.m, .int .i64 h.i, .int .i64 h.o, .int .i64 h.p, .int .u32 h.d, .int .u32 h.r, .int .u32 h.b, .slice A n c] 25) (.cells #[.int .u32 h.m, .int .i64 h.i, .int .i64 h.o, .int .i64 h.p, .int .u32 h.d, .int .u32 h.r, .int .u32 h.b, .slice A n c] 32)
  go_enter Try.func10, Try.ntmps10
  go_wp2
  refine bodyPost_ret (v := .agg #[.int .u32 h.m, .int .i64 h.i, .int .i64 h.o, .int .i64 h.p, .int .u32 h.d, .int .u32 h.r, .int .u32 h.b, .slice A n c]) (by simp [results, Try.results10, go_sem]) rfl ⟨rfl, ?_⟩
  exact hb
theorem iface_any (f : If) (w : World) : Calls Try.prog 18 #[.agg #[.int .u32 f.m, .int .i64 f.i, .int .i64 f.o, .int .u32 f.d, .int .u32 f.r, .bool f.pp]] w fun e w' => e = .returned (.agg #[.int .u32 f.m, .int .i64 f.i, .int .i64 f.o, .int .u32 f.d, .int .u32 f.r, .bool f.pp]) ∧ Below w.heap.size w w' := by
  have hb := below_alloc2 w (.cells #[.int .u32 f.m, .int .i64 f.i, .int .i64 f.o, .int .u32 f.d, .int .u32 f.r, .bool f.pp] 43) (.cells #[.int .u32 f.m, .int .i64 f.i, .int .i64 f.o, .int .u32 f.d, .int .u32 f.r, .bool f.pp] 46)
  go_enter Try.func18, Try.ntmps18
  go_wp2
  refine bodyPost_ret (v := .agg #[.int .u32 f.m, .int .i64 f.i, .int .i64 f.o, .int .u32 f.d, .int .u32 f.r, .bool f.pp]) (by simp [results, Try.results18, go_sem]) rfl ⟨rfl, ?_⟩
  exact hb
set_option maxRecDepth 100000 in
theorem same_any (h : He) (A A' : Option Addr) (n c c' : Nat) (w : World) (hn : h.s.length = n) (g : Wt w A h.s) (g' : Wt w A' h.s) (hl : n ≤ 100000) :
    Calls Try.prog 15 #[.agg #[.int .u32 h.m, .int .i64 h.i, .int .i64 h.o, .int .i64 h.p, .int .u32 h.d, .int .u32 h.r, .int .u32 h.b, .slice A n c], .agg #[.int .u32 h.m, .int .i64 h.i, .int .i64 h.o, .int .i64 h.p, .int .u32 h.d, .int .u32 h.r, .int .u32 h.b, .slice A' n c']] w fun e w' => e = .returned (.bool true) ∧ Below w.heap.size w w' := by
  obtain ⟨W0, hW0⟩ : ∃ V, w.alloc (.cells #[.int .u32 h.m, .int .i64 h.i, .int .i64 h.o, .int .i64 h.p, .int .u32 h.d, .int .u32 h.r, .int .u32 h.b, .slice A n c] 32) = V := ⟨_, rfl⟩
  have bW0 : Below w.heap.size w W0 := by rw [← hW0]; exact below_alloc1 _ _
  have sW0 : W0.heap.size = w.heap.size + 1 := by rw [← hW0]; simp
  have KX : Hid (∀ V, Below W0.heap.size W0 V → V.cell? ⟨w.heap.size, 0, none⟩ = some (.int .u32 h.m) ∧ V.cell? ⟨w.heap.size, 1, none⟩ = some (.int .i64 h.i) ∧ V.cell? ⟨w.heap.size, 2, none⟩ = some (.int .i64 h.o) ∧ V.cell? ⟨w.heap.size, 3, none⟩ = some (.int .i64 h.p) ∧ V.cell? ⟨w.heap.size, 4, none⟩ = some (.int .u32 h.d) ∧ V.cell? ⟨w.heap.size, 5, none⟩ = some (.int .u32 h.r) ∧ V.cell? ⟨w.heap.size, 6, none⟩ = some (.int .u32 h.b) ∧ V.cell? ⟨w.heap.size, 7, none⟩ = some (.slice A n c)) := Lib.hid (fun V hV => kb8_new hW0 hV)
  obtain ⟨W1, hW1⟩ : ∃ V, W0.alloc (.cells #[.int .u32 h.m, .int .i64 h.i, .int .i64 h.o, .int .i64 h.p, .int .u32 h.d, .int .u32 h.r, .int .u32 h.b, .slice A' n c'] 32) = V := ⟨_, rfl⟩
  have bW1 : Below W0.heap.size W0 W1 := by rw [← hW1]; exact below_alloc1 _ _
  have sW1 : W1.heap.size = W0.heap.size + 1 := by rw [← hW1]; simp
  have KY : Hid (∀ V, Below W1.heap.size W1 V → V.cell? ⟨W0.heap.size, 0, none⟩ = some (.int .u32 h.m) ∧ V.cell? ⟨W0.heap.size, 1, none⟩ = some (.int .i64 h.i) ∧ V.cell? ⟨W0.heap.size, 2, none⟩ = some (.int .i64 h.o) ∧ V.cell? ⟨W0.heap.size, 3, none⟩ = some (.int .i64 h.p) ∧ V.cell? ⟨W0.heap.size, 4, none⟩ = some (.int .u32 h.d) ∧ V.cell? ⟨W0.heap.size, 5, none⟩ = some (.int .u32 h.r) ∧ V.cell? ⟨W0.heap.size, 6, none⟩ = some (.int .u32 h.b) ∧ V.cell? ⟨W0.heap.size, 7, none⟩ = some (.slice A' n c')) := Lib.hid (fun V hV => kb8_new hW1 hV)
  have b2 : Below w.heap.size w W1 := bW0.trans (bW1.mono bW0.size)
  obtain ⟨k0, k1, k2, k3, k4, k5, k6, k7⟩ := KX.out _ bW1
  have kj := KY.out _ (Below.refl _ _)
  rw [sW0] at kj
  obtain ⟨j0, j1, j2, j3, j4, j5, j6, j7⟩ := kj
  have q1 := g.step b2
  have q2 := g'.step b2
  have HN := Lib.hid hn
  clear g g' bW0 bW1 KX KY hn
  go_enter Try.func15, Try.ntmps15
  go_wp2_with fail
  refine (same_n A A' n n c c' h.s _ HN.out.symm HN.out.symm q1 q2 (by rw [HN.out]; exact hl)).mono ?_
  rintro e w3 ⟨rfl, b3⟩
  go_wp2
  go_ret
  exact ⟨rfl, b2.trans (b3.mono b2.size)⟩
end Go.Proofs.Ytdjblkmhlghglaa
