/-
  Candidates: in words, and in memory. No statement is proved here; no conditions.
-/
import Derived.Test.YtpfppacmldjioaaMr
import Derived.KernelRfl
import Derived.Lib.Hide
import Derived.BigQuiet
import Derived.Deep.QuietTactic
import Derived.Lib.QuietBelow
import Derived.Laws.CopyRow
namespace Go.Proofs.Ytpfppacmldjioaa
open Go.RowKit Go.Joins

theorem ret_bool {a b : Bool} (h : a = b) : Ending.returned (.bool a) = .returned (.bool b) := by rw [h]
theorem ret_int {k : IntKind} {a b : Int} (h : a = b) : Ending.returned (.int k a) = .returned (.int k b) := by rw [h]
theorem ret_pair {a b c d : Int} (h1 : a = c) (h2 : b = d) : Ending.returned (.tuple #[.int .u32 a, .int .u32 b]) = .returned (.tuple #[.int .u32 c, .int .u32 d]) := by rw [h1, h2]
theorem wrap_i64 {n : Int} (h0 : 0 ≤ n) (h1 : n < 9223372036854775808) : IntKind.i64.wrap n = n := by
  simp [IntKind.wrap, IntKind.bits, IntKind.signed]
  omega
theorem alloc_at (w : World) (o : Obj) (n : Nat) (h : n = w.heap.size) : (w.alloc o).heap[n]? = some o := by
  subst h
  show (w.heap.push o)[w.heap.size]? = some o
  simp
/-- Block b holds o. -/
def Bk (w : World) (b : Nat) (o : Obj) : Prop := w.heap[b]? = some o
theorem Bk.lt {w : World} {b : Nat} {o : Obj} (h : Bk w b o) : b < w.heap.size := lt_of_block h
theorem Bk.step {w w' : World} {b : Nat} {o : Obj} (h : Bk w b o) (k : Below w.heap.size w w') : Bk w' b o := (k.block b h.lt).trans h
theorem Bk.mk {w W0 : World} {o : Obj} (h : w.alloc o = W0) : Bk W0 w.heap.size o := by subst h; exact alloc_at _ _ _ rfl
/-! ### A block of 4 cells -/
theorem kb4_new {w W0 W : World} {t : TypeId} {v0 v1 v2 v3 : Value} (h0 : w.alloc (.cells #[v0, v1, v2, v3] t) = W0) (h : Below W0.heap.size W0 W) :
    W.cell? ⟨w.heap.size, 0, none⟩ = some v0 ∧ W.cell? ⟨w.heap.size, 1, none⟩ = some v1 ∧ W.cell? ⟨w.heap.size, 2, none⟩ = some v2 ∧ W.cell? ⟨w.heap.size, 3, none⟩ = some v3 := by
  subst h0
  have k := (h.block w.heap.size (by simp)).trans (alloc_at _ _ _ rfl)
  exact ⟨(cell_of_block k 0).trans rfl, (cell_of_block k 1).trans rfl, (cell_of_block k 2).trans rfl, (cell_of_block k 3).trans rfl⟩
theorem kz4_at {W : World} {b : Nat} {t : TypeId} {v0 v1 v2 v3 : Value} (h : W.heap[b]? = some (.cells #[v0, v1, v2, v3] t)) :
    W.cell? ⟨b, 0, none⟩ = some v0 ∧ W.cell? ⟨b, 1, none⟩ = some v1 ∧ W.cell? ⟨b, 2, none⟩ = some v2 ∧ W.cell? ⟨b, 3, none⟩ = some v3 ∧ W.frozen? ⟨b, 0, none⟩ = false ∧ W.frozen? ⟨b, 1, none⟩ = false ∧ W.frozen? ⟨b, 2, none⟩ = false ∧ W.frozen? ⟨b, 3, none⟩ = false ∧ b < W.heap.size :=
  ⟨(cell_of_block h 0).trans rfl, (cell_of_block h 1).trans rfl, (cell_of_block h 2).trans rfl, (cell_of_block h 3).trans rfl, unfrozen_of_block h 0, unfrozen_of_block h 1, unfrozen_of_block h 2, unfrozen_of_block h 3, lt_of_block h⟩
abbrev st4 (W : World) (b : Nat) (u0 u1 u2 u3 : Value) : World := ((((W).setCell ⟨b, 0, none⟩ u0).setCell ⟨b, 1, none⟩ u1).setCell ⟨b, 2, none⟩ u2).setCell ⟨b, 3, none⟩ u3
theorem kz4_set {W : World} {b : Nat} {t : TypeId} {v0 v1 v2 v3 : Value} (h : W.heap[b]? = some (.cells #[v0, v1, v2, v3] t)) (u0 u1 u2 u3 : Value) :
    (st4 W b u0 u1 u2 u3).heap[b]? = some (.cells #[u0, u1, u2, u3] t) := by
  rw [block_setCell (i := 3) (block_setCell (i := 2) (block_setCell (i := 1) (block_setCell (i := 0) h u0) u1) u2) u3]
  simp only [List.setIfInBounds_toArray, List.set_cons_zero, List.set_cons_succ]
theorem kz4_get {W : World} {b : Nat} {t : TypeId} {v0 v1 v2 v3 : Value} (h : W.heap[b]? = some (.cells #[v0, v1, v2, v3] t)) (u0 u1 u2 u3 : Value) :
    (st4 W b u0 u1 u2 u3).cell? ⟨b, 0, none⟩ = some u0 ∧ (st4 W b u0 u1 u2 u3).cell? ⟨b, 1, none⟩ = some u1 ∧ (st4 W b u0 u1 u2 u3).cell? ⟨b, 2, none⟩ = some u2 ∧ (st4 W b u0 u1 u2 u3).cell? ⟨b, 3, none⟩ = some u3 := by
  have k := kz4_set h u0 u1 u2 u3
  exact ⟨(cell_of_block k 0).trans rfl, (cell_of_block k 1).trans rfl, (cell_of_block k 2).trans rfl, (cell_of_block k 3).trans rfl⟩
theorem below_st4 {W W' : World} {B b : Nat} (h : Below B W W') (hb : B ≤ b) (u0 u1 u2 u3 : Value) : Below B W (st4 W' b u0 u1 u2 u3) :=
  ((((h).setCell (p := ⟨b, 0, none⟩) hb u0).setCell (p := ⟨b, 1, none⟩) hb u1).setCell (p := ⟨b, 2, none⟩) hb u2).setCell (p := ⟨b, 3, none⟩) hb u3
theorem size_st4 (W : World) (b : Nat) (u0 u1 u2 u3 : Value) : (st4 W b u0 u1 u2 u3).heap.size = W.heap.size := by simp [st4, World.setCell]
theorem far_st4 {W : World} {b k : Nat} (h : k ≠ b) (u0 u1 u2 u3 : Value) : (st4 W b u0 u1 u2 u3).heap[k]? = W.heap[k]? := by
  unfold st4
  rw [Below.heap_setCell _ _ _ _ h, Below.heap_setCell _ _ _ _ h, Below.heap_setCell _ _ _ _ h, Below.heap_setCell _ _ _ _ h]

/-! ### In words -/
/-- A candidate. -/
structure Ca where
  i : Int
  p : Int
  d : Int
  b : Int
def zca : Ca := ⟨0, 0, 0, 0⟩
/-- It ranks higher. -/
def abv (c d : Ca) : Bool := decide (d.p < c.p) || (decide (c.p = d.p) && decide (d.i < c.i))
def sDR (c : Ca) : Bool := decide (c.d = c.i)
def sBR (c : Ca) : Bool := decide (c.b = c.i)
def hstep (f : Ca → Bool) (y c : Ca) : Ca := if 0 < c.p ∧ f c = true ∧ abv c y = true then c else y
/-- The highest one for which f is true. -/
def hbs (f : Ca → Bool) (L : List Ca) : Ca := L.foldl (hstep f) zca
def hi (f : Ca → Bool) (L : List Ca) : Int := (hbs f L).i
/-- One round. -/
def rB (L : List Ca) : Int := if hi (fun c => !sDR c && sBR c) L = 0 then hi (fun c => !sDR c) L else hi (fun c => !sDR c && sBR c) L
def rD (L : List Ca) : Int := if hi sDR L = 0 then rB L else hi sDR L
/-- One that may be. -/
def okc (c : Ca) : Bool := decide (c.i ≠ 0) && (decide (0 ≤ c.p) && decide (c.p ≤ 255))
def mayl (L : List Ca) : Bool := decide (L.length ≤ 50) && (L.all okc && decide (L.map (·.i)).Nodup)
def chg (c : Ca) (d b : Int) : Bool := (sDR c != decide (c.i = d)) || (sBR c != decide (c.i = b))
/-- The place of the first candidate of this ID. -/
def plc (L : List Ca) (o : Int) : Nat := L.findIdx fun c => decide (c.i = o)
def cg (L : List Ca) (k : Nat) : Ca := L.getD k zca
def set2 (L : List Ca) (k : Nat) (d b : Int) : List Ca := L.set k ⟨(cg L k).i, (cg L k).p, d, b⟩
def goes (L : List Ca) (o : Int) : Bool := decide (plc L o < L.length) && chg (cg L (plc L o)) (rD L) (rB L)
def sec (L : List Ca) (o : Int) : List Ca := if goes L o = true then set2 L (plc L o) (rD L) (rB L) else L
def eD (L : List Ca) (o : Int) : Int := if mayl L = true then rD (sec L o) else 0
def eB (L : List Ca) (o : Int) : Int := if mayl L = true then rB (sec L o) else 0
def tD (L : List Ca) : Int := if mayl L = true then rD L else 0
def tB (L : List Ca) : Int := if mayl L = true then rB L else 0
def spk (L : List Ca) : Int := if mayl L = true then hi (fun _ => true) L else 0
def stl (L : List Ca) : List Ca := if mayl L = true then L.map (fun c => ⟨c.i, c.p, eD L c.i, eB L c.i⟩) else []
theorem cg_eq {L : List Ca} {k : Nat} (h : k < L.length) : cg L k = L[k] := by simp [cg, List.getD, h]
theorem cg_mem {L : List Ca} {k : Nat} (h : k < L.length) : cg L k ∈ L := by rw [cg_eq h]; exact List.getElem_mem h
theorem ctake {L : List Ca} {k : Nat} (h : k < L.length) : L.take (k + 1) = L.take k ++ [cg L k] := by rw [List.take_succ_eq_append_getElem h, cg_eq h]
theorem hbs_take {f : Ca → Bool} {L : List Ca} {k : Nat} (h : k < L.length) : hbs f (L.take (k + 1)) = hstep f (hbs f (L.take k)) (cg L k) := by
  rw [ctake h, hbs, List.foldl_append]
  rfl
/-! ### In memory -/
abbrev cv (x : Ca) : Value := .agg #[.int .u32 x.i, .int .i64 x.p, .int .u32 x.d, .int .u32 x.b]
abbrev ccs (x : Ca) : List Value := [.int .u32 x.i, .int .i64 x.p, .int .u32 x.d, .int .u32 x.b]
theorem ccs_len (x : Ca) : (ccs x).length = 4 := rfl
def cflat (L : List Ca) : List Value := L.flatMap ccs
theorem cflat_length (L : List Ca) : (cflat L).length = L.length * 4 := fm_len ccs_len L
theorem cflat_snoc (L : List Ca) (x : Ca) : cflat (L ++ [x]) = cflat L ++ ccs x := by simp [cflat]
theorem cflat_app (L M : List Ca) : cflat (L ++ M) = cflat L ++ cflat M := by simp [cflat]
theorem ccs_one (x : Ca) : ∀ u ∈ ccs x, u.oneCell' = true := by
  intro u hu
  simp only [ccs, List.mem_cons, List.not_mem_nil, or_false] at hu
  rcases hu with rfl | rfl | rfl | rfl <;> rfl
theorem cflat_one (L : List Ca) : ∀ u ∈ cflat L, u.oneCell' = true := by
  intro u hu
  obtain ⟨x, _, h⟩ := List.mem_flatMap.1 hu
  exact ccs_one x u h
/-- The row is read at A. -/
def Cr (w : World) (A : Option Addr) (L : List Ca) : Prop := Rd (fun _ => True) w A (cflat L)
theorem Cr.step {w w' : World} {A : Option Addr} {L : List Ca} (h : Cr w A L) (k : Below w.heap.size w w') : Cr w' A L := Rd.keep h k.size fun j _ hj => k.block j hj
theorem Cr.nil (w : World) (A : Option Addr) : Cr w A [] := Rd.nil A
theorem crd_at {w : World} {A : Option Addr} {L : List Ca} (h : Cr w A L) {i : Nat} (hi : i < L.length) :
    ∃ b off, A = some ⟨b, off, none⟩ ∧ b < w.heap.size ∧ w.cell? ⟨b, off + i * 4, none⟩ = some (.int .u32 (cg L i).i) ∧ w.cell? ⟨b, off + i * 4 + 1, none⟩ = some (.int .i64 (cg L i).p) ∧ w.cell? ⟨b, off + i * 4 + 2, none⟩ = some (.int .u32 (cg L i).d) ∧ w.cell? ⟨b, off + i * 4 + 3, none⟩ = some (.int .u32 (cg L i).b) := by
  obtain ⟨b, off, rfl, hlt, hc⟩ := fm_at ccs_len (by omega) h hi
  rw [cg_eq hi]
  exact ⟨b, off, rfl, hlt, hc 0 _ rfl, hc 1 _ rfl, hc 2 _ rfl, hc 3 _ rfl⟩
theorem infoE : (Try.prog.info? 40).map (fun i => (i.zero, i.size, i.bytes)) = some (some (.agg #[.int .u32 0, .int .i64 0, .int .u32 0, .int .u32 0]), 4, 24) := by kernel_rfl
theorem infoR : (Try.prog.info? 45).map (fun i => (i.zero, i.size, i.bytes)) = some (some (.agg #[.int .u32 0, .int .i64 0, .int .u32 0, .int .u32 0]), 4, 24) := by kernel_rfl
/-! ### Rows of the call's own -/
theorem set_at (P T : List Value) (j : Nat) (v : Value) : (P ++ T).set (P.length + j) v = P ++ T.set j v := by
  rw [List.set_append_right _ _ (by omega), Nat.add_sub_cancel_left]
theorem cflat_set {L : List Ca} {q : Nat} (hq : q < L.length) (x : Ca) : cflat (L.set q x) = cflat (L.take q) ++ (ccs x ++ cflat (L.drop (q + 1))) := by
  rw [List.set_eq_take_append_cons_drop, if_pos hq, cflat, List.flatMap_append, List.flatMap_cons]
  rfl
theorem cflat_here {L : List Ca} {q : Nat} (hq : q < L.length) : cflat L = cflat (L.take q) ++ (ccs (cg L q) ++ cflat (L.drop (q + 1))) := by
  have h : L.set q (cg L q) = L := by rw [cg_eq hq]; exact List.set_getElem_self hq
  rw [← cflat_set hq, h]
/-- Both declarations of one candidate of a row are others. -/
theorem rg_set2 {e : TypeId} {w : World} {g c : Nat} {L : List Ca} (h : Rg e 4 w g c (cflat L)) {q : Nat} (hq : q < L.length) (d b : Int) : Rg e 4 ((w.setCell ⟨g, q * 4 + 2, none⟩ (.int .u32 d)).setCell ⟨g, q * 4 + 3, none⟩ (.int .u32 b)) g c (cflat (set2 L q d b)) := by
  have k := (h.set (q * 4 + 2) (.int .u32 d)).set (q * 4 + 3) (.int .u32 b)
  have e1 : (cflat (L.take q)).length = q * 4 := by rw [cflat_length, List.length_take, Nat.min_eq_left (by omega)]
  rw [cflat_here hq, ← e1, set_at, set_at] at k
  rw [set2, cflat_set hq, ← e1]
  exact k
theorem rgc_at {e : TypeId} {w : World} {g c : Nat} {L : List Ca} (h : Rg e 4 w g c (cflat L)) {q : Nat} (hq : q < L.length) : (w.cell? ⟨g, q * 4, none⟩ = some (.int .u32 (cg L q).i) ∧ w.cell? ⟨g, q * 4 + 1, none⟩ = some (.int .i64 (cg L q).p) ∧ w.cell? ⟨g, q * 4 + 2, none⟩ = some (.int .u32 (cg L q).d) ∧ w.cell? ⟨g, q * 4 + 3, none⟩ = some (.int .u32 (cg L q).b)) ∧ w.frozen? ⟨g, q * 4, none⟩ = false ∧ w.frozen? ⟨g, q * 4 + 1, none⟩ = false ∧ w.frozen? ⟨g, q * 4 + 2, none⟩ = false ∧ w.frozen? ⟨g, q * 4 + 3, none⟩ = false := by
  have k : ∀ j u, (ccs (cg L q))[j]? = some u → w.cell? ⟨g, q * 4 + j, none⟩ = some u := fun j u hu => h.cell (by
    have hj := (List.getElem?_eq_some_iff.1 hu).1
    have := fm_get (f := ccs) ccs_len (l := L) (i := q) (j := j) hq hj
    rw [cflat, this, ← cg_eq hq]
    exact hu)
  exact ⟨⟨k 0 _ rfl, k 1 _ rfl, k 2 _ rfl, k 3 _ rfl⟩, h.frozen _, h.frozen _, h.frozen _, h.frozen _⟩
/-- A row of the call's own: nil, or in a block from 'base' on. -/
def Ow4 (e : TypeId) (base : Nat) (w : World) (A : Option Addr) (c : Nat) (L : List Ca) : Prop := Ob e 4 (base ≤ ·) w A c (cflat L)
theorem Ow4.nil (e : TypeId) (base : Nat) (w : World) : Ow4 e base w none 0 [] := .inl ⟨rfl, rfl, rfl⟩
theorem Ow4.step {e : TypeId} {base : Nat} {w w' : World} {A : Option Addr} {c : Nat} {L : List Ca} (h : Ow4 e base w A c L) (k : Below w.heap.size w w') : Ow4 e base w' A c L := Ob.below h k
theorem Ow4.cr {e : TypeId} {base : Nat} {w : World} {A : Option Addr} {c : Nat} {L : List Ca} (h : Ow4 e base w A c L) : Cr w A L := Ob.rd h
theorem Ow4.lower {e : TypeId} {base b' : Nat} {w : World} {A : Option Addr} {c : Nat} {L : List Ca} (h : Ow4 e base w A c L) (hb : b' ≤ base) : Ow4 e b' w A c L := Ob.more h fun _j hj _ => Nat.le_trans hb hj
theorem Ow4.row {e : TypeId} {base : Nat} {w : World} {A : Option Addr} {c : Nat} {L : List Ca} (h : Ow4 e base w A c L) (hl : 0 < L.length) : ∃ g, A = some ⟨g, 0, none⟩ ∧ base ≤ g ∧ Rg e 4 w g c (cflat L) := by
  rcases h with ⟨_, _, h3⟩ | ⟨g, h1, h2, h3⟩
  · have := congrArg List.length h3
    rw [cflat_length] at this
    simp at this
    omega
  · exact ⟨g, h2, h1, h3⟩
theorem Ow4.of {e : TypeId} {base : Nat} {w : World} {g c : Nat} {L : List Ca} (h : Rg e 4 w g c (cflat L)) (hb : base ≤ g) : Ow4 e base w (some ⟨g, 0, none⟩) c L := .inr ⟨g, hb, rfl, h⟩
theorem Ow4.empty (e : TypeId) (w : World) : Ow4 e w.heap.size (w.alloc (.cells #[] e)) (some ⟨w.heap.size, 0, none⟩) 0 [] := Ow4.of (Rg.lit w e 4 0 _ [] rfl rfl (Nat.zero_le _)) (Nat.le_refl _)
theorem Ow4.room {e : TypeId} {base : Nat} {w : World} {A : Option Addr} {c : Nat} {L : List Ca} (h : Ow4 e base w A c L) : L.length ≤ c := by
  rcases h with ⟨_, h2, h3⟩ | ⟨g, h1, h2, h3⟩
  · have := congrArg List.length h3
    rw [cflat_length] at this
    simp at this
    omega
  · have := h3.cap
    rw [cflat_length] at this
    omega
/-- One candidate more, out of a new block: for both packages' rows. -/
theorem app4 {t e : TypeId} {z : Value} (ht : Try.prog.underlying t = some (.slice e)) (hin : (Try.prog.info? e).map (fun i => (i.zero, i.size, i.bytes)) = some (some z, 4, 24)) (hz : z.cells.size = 4) {base : Nat} {w : World} {A : Option Addr} {c n : Nat} {L : List Ca} (h : Ow4 e base w A c L) (hn : L.length = n) (x : Ca) (hb : n ≤ 100000) (n0 : Nat) (hn0 : w.heap.size = n0) (hbase : base ≤ w.heap.size) :
    ∃ g' c' w', (Builtin.append_ #[t, t] t #[.slice A n c, .slice (some ⟨n0, 0, none⟩) 1 1]).run Try.prog (w.alloc (.cells (ccs x).toArray e)) = .ok (.slice (some ⟨g', 0, none⟩) (n + 1) c') w' ∧ Ow4 e base w' (some ⟨g', 0, none⟩) c' (L ++ [x]) ∧ Below base w w' ∧ Kp (fun j => A = some ⟨j, 0, none⟩) w w' ∧ (A = some ⟨g', 0, none⟩ ∨ w.heap.size ≤ g') := by
  obtain ⟨i0, hi0, hz0, hz1, hz2⟩ := info_of hin
  have ob : Ob e 4 (fun j => A = some ⟨j, 0, none⟩) w A c (cflat L) := by
    rcases h with h | ⟨g, _, h2, h3⟩
    · exact .inl h
    · exact .inr ⟨g, h2, h2, h3⟩
  have hat : ∀ j, A = some ⟨j, 0, none⟩ → base ≤ j := by
    intro j hj
    rcases h with ⟨h1, _, _⟩ | ⟨g, h1, h2, h3⟩
    · rw [h1] at hj; cases hj
    · rw [h2] at hj
      injection hj with hj
      injection hj with hj
      rw [← hj]; exact h1
  obtain ⟨g9, c9, Z9, r9, rg9, kp9, hg9⟩ := app_one (P := Try.prog) ht hi0 hz0 hz1 hz2 hz (by decide) (by decide) ob (n := n) (by rw [cflat_length, hn]) (ccs x) rfl (ccs_one x) hb n0 hn0
  refine ⟨g9, c9, Z9, r9, Ow4.of (by rw [cflat_snoc]; exact rg9) ?_, kp9.below hat hbase, kp9, ?_⟩
  · rcases hg9 with q | q
    · exact hat _ q
    · omega
  · rcases hg9 with q | q
    · exact .inl q
    · exact .inr (by omega)
end Go.Proofs.Ytpfppacmldjioaa
