/-
  Clauses and routes in memory. No statement is proved here; no conditions.
-/
import Derived.Test.YtmcjpibahnlmbaaCm
import Derived.Test.YtmcjpibahnlmbaaApp
import Derived.Test.YtmcjpibahnlmbaaRw
namespace Go.Proofs.Ytmcjpibahnlmbaa
open Go.RowKit Go.Joins

/-! ### Rows of equal pieces -/
theorem fm_len {α : Type} {f : α → List Value} {sz : Nat} (hf : ∀ x, (f x).length = sz) (l : List α) : (l.flatMap f).length = l.length * sz := by
  induction l with
  | nil => simp
  | cons x l ih => simp [ih, hf, Nat.add_mul]; omega
theorem fm_get {α : Type} {f : α → List Value} {sz : Nat} (hf : ∀ x, (f x).length = sz) {l : List α} {i j : Nat} (hi : i < l.length) (hj : j < sz) : (l.flatMap f)[i * sz + j]? = (f l[i])[j]? := by
  induction l generalizing i with
  | nil => simp at hi
  | cons x l ih =>
    cases i with
    | zero => simp [List.flatMap_cons, List.getElem?_append_left (show j < (f x).length by rw [hf]; exact hj)]
    | succ i =>
      have := ih (i := i) (by simpa using hi)
      rw [List.flatMap_cons, List.getElem?_append_right (by rw [hf, Nat.add_mul]; omega), hf]
      rw [show (i + 1) * sz + j - sz = i * sz + j by rw [Nat.add_mul]; omega]
      simpa using this
theorem fm_at {α : Type} {f : α → List Value} {sz : Nat} (hf : ∀ x, (f x).length = sz) (hsz : 0 < sz) {w : World} {A : Option Addr} {l : List α} (h : Rd (fun _ => True) w A (l.flatMap f)) {i : Nat} (hi : i < l.length) :
    ∃ b off, A = some ⟨b, off, none⟩ ∧ b < w.heap.size ∧ ∀ j u, (f l[i])[j]? = some u → w.cell? ⟨b, off + i * sz + j, none⟩ = some u := by
  have hne : l.flatMap f ≠ [] := by
    intro e
    have h1 := fm_len hf l
    rw [e] at h1
    have := Nat.mul_pos (show 0 < l.length by omega) hsz
    simp only [List.length_nil] at h1
    omega
  obtain ⟨b, off, rfl, _, hlt, hc⟩ := h hne
  refine ⟨b, off, rfl, hlt, fun j u hu => ?_⟩
  have hj : j < sz := by
    have := (List.getElem?_eq_some_iff.1 hu).1
    rwa [hf] at this
  have := hc _ _ ((fm_get hf hi hj).trans hu)
  rwa [← Nat.add_assoc] at this
/-! ### Tags -/
def nts (T : List Nat) : List Value := T.map fun (n : Nat) => .int .u32 (n : Int)
/-- The tags T are read at A. -/
def Tr (w : World) (A : Option Addr) (T : List Nat) : Prop := Rd (fun _ => True) w A (nts T)
theorem Tr.step {w w' : World} {A : Option Addr} {T : List Nat} (h : Tr w A T) (k : Below w.heap.size w w') : Tr w' A T := Rd.keep h k.size fun j _ hj => k.block j hj
theorem Tr.at {w : World} {A : Option Addr} {T : List Nat} (h : Tr w A T) {i : Nat} (hi : i < T.length) : ∃ b off, A = some ⟨b, off, none⟩ ∧ b < w.heap.size ∧ w.cell? ⟨b, off + i, none⟩ = some (.int .u32 (T[i] : Int)) := by
  have hne : nts T ≠ [] := by
    intro e
    simp only [nts, List.map_eq_nil_iff] at e
    rw [e] at hi
    simp at hi
  obtain ⟨b, off, rfl, _, hlt, hc⟩ := h hne
  exact ⟨b, off, rfl, hlt, hc _ _ (by simp [nts, hi])⟩
/-! ### Routes -/
abbrev tv (x : Rt) : Value := .agg #[.int .u32 (x.A : Int), .int .i64 x.N, .int .i64 x.k, .int .i64 x.c, .int .u32 (x.t : Int)]
abbrev tc (x : Rt) : List Value := [.int .u32 (x.A : Int), .int .i64 x.N, .int .i64 x.k, .int .i64 x.c, .int .u32 (x.t : Int)]
def tflat (l : List Rt) : List Value := l.flatMap tc
theorem tc_len (x : Rt) : (tc x).length = 5 := rfl
theorem tflat_length (l : List Rt) : (tflat l).length = l.length * 5 := fm_len tc_len l
theorem tflat_append (a b : List Rt) : tflat (a ++ b) = tflat a ++ tflat b := by simp [tflat]
theorem tc_one (x : Rt) : ∀ u ∈ tc x, u.oneCell' = true := by
  intro u hu
  simp only [tc, List.mem_cons, List.not_mem_nil, or_false] at hu
  rcases hu with rfl | rfl | rfl | rfl | rfl <;> rfl
/-- The routes l are read at A. -/
def Tt (w : World) (A : Option Addr) (l : List Rt) : Prop := Rd (fun _ => True) w A (tflat l)
theorem Tt.step {w w' : World} {A : Option Addr} {l : List Rt} (h : Tt w A l) (k : Below w.heap.size w w') : Tt w' A l := Rd.keep h k.size fun j _ hj => k.block j hj
theorem Tt.nil (w : World) (A : Option Addr) : Tt w A [] := Rd.nil A
theorem Tt.at {w : World} {A : Option Addr} {l : List Rt} (h : Tt w A l) {i : Nat} (hi : i < l.length) :
    ∃ b off, A = some ⟨b, off, none⟩ ∧ b < w.heap.size ∧ w.cell? ⟨b, off + i * 5, none⟩ = some (.int .u32 ((gt l i).A : Int)) ∧ w.cell? ⟨b, off + i * 5 + 1, none⟩ = some (.int .i64 (gt l i).N) ∧ w.cell? ⟨b, off + i * 5 + 2, none⟩ = some (.int .i64 (gt l i).k) ∧ w.cell? ⟨b, off + i * 5 + 3, none⟩ = some (.int .i64 (gt l i).c) ∧ w.cell? ⟨b, off + i * 5 + 4, none⟩ = some (.int .u32 ((gt l i).t : Int)) := by
  obtain ⟨b, off, rfl, hlt, hc⟩ := fm_at tc_len (by omega) h hi
  rw [gt_eq hi]
  exact ⟨b, off, rfl, hlt, hc 0 _ rfl, hc 1 _ rfl, hc 2 _ rfl, hc 3 _ rfl, hc 4 _ rfl⟩
/-- A route in a new block, in every world behind. -/
theorem tb_new {w W0 W : World} {t : TypeId} {v0 v1 v2 v3 v4 : Value} (h0 : w.alloc (.cells #[v0, v1, v2, v3, v4] t) = W0) (h : Below W0.heap.size W0 W) :
    W.cell? ⟨w.heap.size, 0, none⟩ = some v0 ∧ W.cell? ⟨w.heap.size, 1, none⟩ = some v1 ∧ W.cell? ⟨w.heap.size, 2, none⟩ = some v2 ∧ W.cell? ⟨w.heap.size, 3, none⟩ = some v3 ∧ W.cell? ⟨w.heap.size, 4, none⟩ = some v4 := by
  subst h0
  have k := (h.block w.heap.size (by simp)).trans (alloc_at _ _ _ rfl)
  exact ⟨(cell_of_block k 0).trans rfl, (cell_of_block k 1).trans rfl, (cell_of_block k 2).trans rfl, (cell_of_block k 3).trans rfl, (cell_of_block k 4).trans rfl⟩
/-! ### Clauses -/
/-- A clause, and where its rows lie. -/
structure Cl where
  c : Cp
  LA : Option Addr
  Lc : Nat
  TA : Option Addr
  Tc : Nat
abbrev cv (x : Cl) : Value := .agg #[.int .i64 x.c.s, .bool x.c.p, .slice x.LA x.c.L.length x.Lc, .int .i64 x.c.k, .int .i64 x.c.lo, .int .i64 x.c.hi, .slice x.TA x.c.T.length x.Tc, .int .i64 x.c.sc, .int .i64 x.c.sp, .int .i64 x.c.sk, .bool x.c.st, .int .u32 (x.c.tg : Int)]
abbrev cc (x : Cl) : List Value := [.int .i64 x.c.s, .bool x.c.p, .slice x.LA x.c.L.length x.Lc, .int .i64 x.c.k, .int .i64 x.c.lo, .int .i64 x.c.hi, .slice x.TA x.c.T.length x.Tc, .int .i64 x.c.sc, .int .i64 x.c.sp, .int .i64 x.c.sk, .bool x.c.st, .int .u32 (x.c.tg : Int)]
def cflat (l : List Cl) : List Value := l.flatMap cc
theorem cc_len (x : Cl) : (cc x).length = 12 := rfl
theorem cflat_length (l : List Cl) : (cflat l).length = l.length * 12 := fm_len cc_len l
theorem cflat_append (a b : List Cl) : cflat (a ++ b) = cflat a ++ cflat b := by simp [cflat]
theorem cc_one (x : Cl) : ∀ u ∈ cc x, u.oneCell' = true := by
  intro u hu
  simp only [cc, List.mem_cons, List.not_mem_nil, or_false] at hu
  rcases hu with rfl | rfl | rfl | rfl | rfl | rfl | rfl | rfl | rfl | rfl | rfl | rfl <;> rfl
/-- The rows of a clause are read. -/
structure Cx (w : World) (x : Cl) : Prop where
  L : Rr w x.LA x.c.L
  T : Tr w x.TA x.c.T
  wf : ∀ r ∈ x.c.L, r.A < 4294967296
  nL : x.c.L.length ≤ 20
  nT : x.c.T.length ≤ 20
theorem Cx.step {w w' : World} {x : Cl} (h : Cx w x) (k : Below w.heap.size w w') : Cx w' x := ⟨h.L.step k, h.T.step k, h.wf, h.nL, h.nT⟩
def gc (l : List Cl) (i : Nat) : Cl := l.getD i ⟨⟨0, false, [], 0, 0, 0, [], 0, 0, 0, false, 0⟩, none, 0, none, 0⟩
theorem gc_eq {l : List Cl} {i : Nat} (h : i < l.length) : gc l i = l[i] := by simp [gc, List.getD, h]
/-- What a map says. -/
def cps (l : List Cl) : List Cp := l.map Cl.c
theorem cps_len (l : List Cl) : (cps l).length = l.length := by simp [cps]
theorem gp_cps {l : List Cl} {i : Nat} (h : i < l.length) : gp (cps l) i = (gc l i).c := by rw [gp_eq (by rw [cps_len]; exact h), gc_eq h]; simp [cps]
/-- The clauses l are read at A. -/
structure Cr (w : World) (A : Option Addr) (l : List Cl) : Prop where
  rd : Rd (fun _ => True) w A (cflat l)
  cx : ∀ x ∈ l, Cx w x
theorem Cr.step {w w' : World} {A : Option Addr} {l : List Cl} (h : Cr w A l) (k : Below w.heap.size w w') : Cr w' A l := ⟨Rd.keep h.rd k.size fun j _ hj => k.block j hj, fun x hx => (h.cx x hx).step k⟩
theorem Cr.at {w : World} {A : Option Addr} {l : List Cl} (h : Cr w A l) {i : Nat} (hi : i < l.length) :
    ∃ b off, A = some ⟨b, off, none⟩ ∧ b < w.heap.size ∧ Cx w (gc l i) ∧ w.cell? ⟨b, off + i * 12, none⟩ = some (.int .i64 (gc l i).c.s) ∧ w.cell? ⟨b, off + i * 12 + 1, none⟩ = some (.bool (gc l i).c.p) ∧ w.cell? ⟨b, off + i * 12 + 2, none⟩ = some (.slice (gc l i).LA (gc l i).c.L.length (gc l i).Lc) ∧ w.cell? ⟨b, off + i * 12 + 3, none⟩ = some (.int .i64 (gc l i).c.k) ∧ w.cell? ⟨b, off + i * 12 + 4, none⟩ = some (.int .i64 (gc l i).c.lo) ∧ w.cell? ⟨b, off + i * 12 + 5, none⟩ = some (.int .i64 (gc l i).c.hi) ∧ w.cell? ⟨b, off + i * 12 + 6, none⟩ = some (.slice (gc l i).TA (gc l i).c.T.length (gc l i).Tc) ∧ w.cell? ⟨b, off + i * 12 + 7, none⟩ = some (.int .i64 (gc l i).c.sc) ∧ w.cell? ⟨b, off + i * 12 + 8, none⟩ = some (.int .i64 (gc l i).c.sp) ∧ w.cell? ⟨b, off + i * 12 + 9, none⟩ = some (.int .i64 (gc l i).c.sk) ∧ w.cell? ⟨b, off + i * 12 + 10, none⟩ = some (.bool (gc l i).c.st) ∧ w.cell? ⟨b, off + i * 12 + 11, none⟩ = some (.int .u32 ((gc l i).c.tg : Int)) := by
  obtain ⟨b, off, rfl, hlt, hc⟩ := fm_at cc_len (by omega) h.rd hi
  rw [gc_eq hi]
  exact ⟨b, off, rfl, hlt, h.cx _ (List.getElem_mem _), hc 0 _ rfl, hc 1 _ rfl, hc 2 _ rfl, hc 3 _ rfl, hc 4 _ rfl, hc 5 _ rfl, hc 6 _ rfl, hc 7 _ rfl, hc 8 _ rfl, hc 9 _ rfl, hc 10 _ rfl, hc 11 _ rfl⟩
/-- A clause in a new block, in every world behind. -/
theorem cb_new {w W0 W : World} {t : TypeId} {v0 v1 v2 v3 v4 v5 v6 v7 v8 v9 v10 v11 : Value} (h0 : w.alloc (.cells #[v0, v1, v2, v3, v4, v5, v6, v7, v8, v9, v10, v11] t) = W0) (h : Below W0.heap.size W0 W) :
    W.cell? ⟨w.heap.size, 0, none⟩ = some v0 ∧ W.cell? ⟨w.heap.size, 1, none⟩ = some v1 ∧ W.cell? ⟨w.heap.size, 2, none⟩ = some v2 ∧ W.cell? ⟨w.heap.size, 3, none⟩ = some v3 ∧ W.cell? ⟨w.heap.size, 4, none⟩ = some v4 ∧ W.cell? ⟨w.heap.size, 5, none⟩ = some v5 ∧ W.cell? ⟨w.heap.size, 6, none⟩ = some v6 ∧ W.cell? ⟨w.heap.size, 7, none⟩ = some v7 ∧ W.cell? ⟨w.heap.size, 8, none⟩ = some v8 ∧ W.cell? ⟨w.heap.size, 9, none⟩ = some v9 ∧ W.cell? ⟨w.heap.size, 10, none⟩ = some v10 ∧ W.cell? ⟨w.heap.size, 11, none⟩ = some v11 := by
  subst h0
  have k := (h.block w.heap.size (by simp)).trans (alloc_at _ _ _ rfl)
  exact ⟨(cell_of_block k 0).trans rfl, (cell_of_block k 1).trans rfl, (cell_of_block k 2).trans rfl, (cell_of_block k 3).trans rfl, (cell_of_block k 4).trans rfl, (cell_of_block k 5).trans rfl, (cell_of_block k 6).trans rfl, (cell_of_block k 7).trans rfl, (cell_of_block k 8).trans rfl, (cell_of_block k 9).trans rfl, (cell_of_block k 10).trans rfl, (cell_of_block k 11).trans rfl⟩
end Go.Proofs.Ytmcjpibahnlmbaa
