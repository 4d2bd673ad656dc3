/-
  Lemmas on slices by their cells: slices that are read, rows that the call itself has made, with laws for make and append. No statement is proved here; no conditions.
-/
import Derived.Test.YtkpmdfgjaodlaaaNew
namespace Go.Proofs.Ytkpmdfgjaodlaaa
open Go.RowKit Go.Joins

/-- The cells cs lie at A, in a block of S; nil is let in where there are none. -/
def Rd (S : Nat → Prop) (w : World) (A : Option Addr) (cs : List Value) : Prop :=
  cs ≠ [] → ∃ b off, A = some ⟨b, off, none⟩ ∧ S b ∧ b < w.heap.size ∧ ∀ j u, cs[j]? = some u → w.cell? ⟨b, off + j, none⟩ = some u
section
variable {S T : Nat → Prop} {w w' : World} {A : Option Addr} {cs : List Value}
theorem Rd.nil (A : Option Addr) : Rd S w A [] := fun h => absurd rfl h
theorem Rd.keep (h : Rd S w A cs) (hs : w.heap.size ≤ w'.heap.size) (hk : ∀ j, S j → j < w.heap.size → w'.heap[j]? = w.heap[j]?) : Rd S w' A cs := fun hl => by
  obtain ⟨b, off, e, hb, hlt, hc⟩ := h hl
  exact ⟨b, off, e, hb, by omega, fun i u hi => (World.cell?_of_block (hk b hb hlt)).trans (hc i u hi)⟩
theorem Rd.kp (h : Rd S w A cs) (k : Kp T w w') (hST : ∀ j, S j → ¬ T j) : Rd S w' A cs := h.keep k.size fun j hj hlt => k.block j hlt (hST j hj)
theorem Rd.below {B : Nat} (h : Rd S w A cs) (k : Below B w w') (hS : ∀ j, S j → j < w.heap.size → j < B) : Rd S w' A cs := h.keep k.size fun j hj hlt => k.block j (hS j hj hlt)
theorem Rd.more (h : Rd S w A cs) (hS : ∀ j, S j → j < w.heap.size → T j) : Rd T w A cs := fun hl => by
  obtain ⟨b, off, e, hb, hlt, hc⟩ := h hl
  exact ⟨b, off, e, hS b hb hlt, hlt, hc⟩
end

/-- Block g is a row of c elements of type e, of sz cells each; its first cells are cs. -/
def Rg (e : TypeId) (sz : Nat) (w : World) (g c : Nat) (cs : List Value) : Prop :=
  ∃ cur, w.heap[g]? = some (.cells cur e (0, 0)) ∧ cs.length ≤ c * sz ∧ c ≤ maxLen ∧ cur.size = c * sz ∧ cur.toList.take cs.length = cs
section
variable {S T : Nat → Prop} {e : TypeId} {sz : Nat} {w w' : World} {g c : Nat} {cs : List Value}
theorem Rg.lt (h : Rg e sz w g c cs) : g < w.heap.size := by obtain ⟨cur, hg, _⟩ := h; exact lt_of_block hg
theorem Rg.cap (h : Rg e sz w g c cs) : cs.length ≤ c * sz := by obtain ⟨cur, _, h1, _⟩ := h; exact h1
theorem Rg.max (h : Rg e sz w g c cs) : c ≤ maxLen := by obtain ⟨cur, _, _, h1, _⟩ := h; exact h1
theorem Rg.keep (h : Rg e sz w g c cs) (hk : w'.heap[g]? = w.heap[g]?) : Rg e sz w' g c cs := by obtain ⟨cur, hg, r⟩ := h; exact ⟨cur, hk.trans hg, r⟩
theorem Rg.kp (h : Rg e sz w g c cs) (k : Kp S w w') (hs : ¬ S g) : Rg e sz w' g c cs := h.keep (k.block g h.lt hs)
theorem Rg.below {B : Nat} (h : Rg e sz w g c cs) (k : Below B w w') (hB : g < B) : Rg e sz w' g c cs := h.keep (k.block g hB)
theorem Rg.below' (h : Rg e sz w g c cs) (k : Below w.heap.size w w') : Rg e sz w' g c cs := h.keep (k.block g h.lt)
theorem Rg.alloc (h : Rg e sz w g c cs) (o : Obj) : Rg e sz (w.alloc o) g c cs := h.keep (Below.heap_alloc w o g h.lt)
theorem Rg.drew (h : Rg e sz w g c cs) : Rg e sz w.drew g c cs := h
theorem Rg.drewN (h : Rg e sz w g c cs) (n : Nat) : Rg e sz (w.drewN n) g c cs := h
theorem Rg.cell (h : Rg e sz w g c cs) {i : Nat} {u : Value} (hi : cs[i]? = some u) : w.cell? ⟨g, i, none⟩ = some u := by
  obtain ⟨cur, hg, h1, h2, h3, h4⟩ := h
  have hil : i < cs.length := by
    rcases Nat.lt_or_ge i cs.length with x | x
    · exact x
    · simp [List.getElem?_eq_none x] at hi
  rw [← h4, List.getElem?_take, if_pos hil, Array.getElem?_toList] at hi
  exact (cell_of_row w g _ cur e (0, 0) hg).trans hi
theorem Rg.frozen (h : Rg e sz w g c cs) (i : Nat) : w.frozen? ⟨g, i, none⟩ = false := by
  obtain ⟨cur, hg, _⟩ := h
  simp [World.frozen?, hg]
theorem Rg.rd (h : Rg e sz w g c cs) : Rd (· = g) w (some ⟨g, 0, none⟩) cs := fun _ => ⟨g, 0, rfl, rfl, h.lt, fun i u hi => by simpa using h.cell hi⟩
theorem Rg.set (h : Rg e sz w g c cs) (i : Nat) (v : Value) : Rg e sz (w.setCell ⟨g, i, none⟩ v) g c (cs.set i v) := by
  obtain ⟨cur, hg, h1, h2, h3, h4⟩ := h
  have e1 := setCell_eq_setRow w g i cur e (0, 0) v hg
  refine ⟨cur.setIfInBounds i v, by rw [e1]; exact setRow_heap w g cur _ e _ hg, by simpa using h1, h2, by simpa using h3, ?_⟩
  rw [List.length_set, Array.toList_setIfInBounds, List.take_set, h4]
theorem Rg.ne_type {e2 : TypeId} {sz2 : Nat} {g2 c2 : Nat} {cs2 : List Value} (h : Rg e sz w g c cs) (h2 : Rg e2 sz2 w g2 c2 cs2) (hne : e ≠ e2) : g ≠ g2 := by
  rintro rfl
  obtain ⟨cur, hg, _⟩ := h
  obtain ⟨cur2, hg2, _⟩ := h2
  rw [hg] at hg2
  simp at hg2
  exact hne hg2.2
theorem Rg.own (h : Rg e sz w g c cs) {n : Nat} (hn : cs.length = n * sz) (hsz : 0 < sz) : w.ownsRow 0 e sz (.slice (some ⟨g, 0, none⟩) n c) n cs := by
  obtain ⟨cur, hg, h1, h2, h3, h4⟩ := h
  exact ⟨hn, .inr ⟨g, c, cur, rfl, Nat.zero_le _, hg, Nat.le_of_mul_le_mul_right (hn ▸ h1) hsz, h2, h3, hn ▸ h4⟩⟩
theorem Rg.lit (w : World) (e : TypeId) (sz n : Nat) (ar : Array Value) (cs : List Value) (hc : ar = cs.toArray) (hl : cs.length = n * sz) (hn : n ≤ maxLen) : Rg e sz (w.alloc (.cells ar e)) w.heap.size n cs := by
  subst hc
  exact ⟨_, Go.heap_alloc_new w _, by omega, hn, by simpa using hl, by simp⟩
end

section
variable {P : Program} (w : World)
/-- 'make' of n elements. -/
theorem run_mkr (t e : TypeId) (i : TypeInfo) (z : Value) (sz by_ : Nat) (ht : P.underlying t = some (.slice e)) (hi : P.info? e = some i) (hz : i.zero = some z) (hsz : i.size = sz) (hby : i.bytes = by_) (n : Nat) (hn : n ≤ 1000000) (hb : by_ ≤ 100) :
    ∃ w', (Instr.makeSlice t (.int .i64 (n : Int)) (.int .i64 (n : Int))).run P w = .ok (.slice (some ⟨w.heap.size, 0, none⟩) n n) w' ∧ Rg e sz w' w.heap.size n (madeCells z.cells (n * sz)).toList ∧ Below w.heap.size w w' ∧ w'.heap.size = w.heap.size + 1 := by
  have hmul : (i.bytes : Int) * (n : Int) ≤ 100 * 1000000 := by
    rw [hby]
    exact Int.mul_le_mul (by omega) (by omega) (by omega) (by omega)
  have hr := run_make (P := P) w t e i _ ht hi hz .i64 .i64 n n (by omega) (by omega) (by omega) (by omega)
  refine ⟨_, by simpa using hr, ⟨_, by simpa using Go.heap_alloc_new w _, by simp [size_madeCells], by unfold maxLen; omega, by simp [size_madeCells, hsz], ?_⟩, by simpa using below_alloc1 w _, by simp⟩
  rw [hsz, List.take_of_length_le (by simp [size_madeCells])]
theorem made_one (z : Value) (hz : z.cells = #[z]) (n : Nat) : (madeCells z.cells n).toList = List.replicate n z := by
  rw [hz]
  apply List.ext_getElem
  · simp [madeCells]
  · intro i h1 h2
    simp [madeCells, Nat.mod_one]

/-- A slice that is nil, or a row of the call's own. -/
def Ow (e : TypeId) (sz : Nat) (w : World) (A : Option Addr) (g c n : Nat) (cs : List Value) : Prop :=
  cs.length = n * sz ∧ ((A = none ∧ c = 0 ∧ n = 0) ∨ (A = some ⟨g, 0, none⟩ ∧ Rg e sz w g c cs))
theorem Ow.own {e : TypeId} {sz : Nat} {A : Option Addr} {g c n : Nat} {cs : List Value} (h : Ow e sz w A g c n cs) (hsz : 0 < sz) : w.ownsRow 0 e sz (.slice A n c) n cs := by
  rcases h with ⟨h1, ⟨rfl, rfl, rfl⟩ | ⟨rfl, r⟩⟩
  · exact ⟨h1, .inl ⟨rfl, rfl⟩⟩
  · exact r.own h1 hsz
/-- 'append' of at least one element. -/
theorem run_appr (t ty e : TypeId) (i : TypeInfo) (z : Value) (sz by_ : Nat) (ht : P.underlying t = some (.slice e)) (hi : P.info? e = some i) (hz : i.zero = some z) (hsize : i.size = sz) (hby : i.bytes = by_) (hzs : z.cells.size = sz) (hsz : 0 < sz) (hb100 : by_ ≤ 100)
    (A : Option Addr) (g c n : Nat) (cs : List Value) (hown : Ow e sz w A g c n cs)
    (S : Nat → Prop) (A2 : Option Addr) (c2 n2 : Nat) (cs2 : List Value) (hr : Rd S w A2 cs2) (hl2 : cs2.length = n2 * sz) (h1 : ∀ u ∈ cs2, u.oneCell' = true) (hn2 : 0 < n2) (hb : n + n2 ≤ 1000000) :
    ∃ g' c' w', (Builtin.append_ #[t, t] ty #[.slice A n c, .slice A2 n2 c2]).run P w = .ok (.slice (some ⟨g', 0, none⟩) (n + n2) c') w' ∧ Rg e sz w' g' c' (cs ++ cs2) ∧ Kp (fun j => A = some ⟨j, 0, none⟩) w w' ∧ (A = some ⟨g', 0, none⟩ ∨ g' = w.heap.size) := by
  have hne : cs2 ≠ [] := by
    rintro rfl
    have := Nat.mul_pos hn2 hsz
    simp at hl2
    omega
  obtain ⟨b, off, rfl, _, _, hc⟩ := hr hne
  have hbb : (n + n2) * by_ ≤ 1000000 * 100 := Nat.mul_le_mul hb hb100
  obtain ⟨v', w', hrun, h2, h3, h4, h5⟩ := run_append_own_at (P := P) w 0 t ty e i z sz by_ ht hi hz hsize hby hzs hsz _ _ _ (hown.own w hsz) ⟨b, off, none⟩ n2 c2 cs2 hl2 (fun j u hu => by rw [addr_add]; exact hc j u hu) h1 (by unfold maxLen; omega) (by omega) (Nat.zero_le _)
  rcases h2.2 with ⟨rfl, h⟩ | ⟨g', cap, cur, rfl, _, q1, q2, q3, q4, q5⟩
  · omega
  · refine ⟨g', cap, w', hrun, ⟨cur, q1, by rw [h2.1]; exact Nat.mul_le_mul_right _ q2, q3, q4, by rw [h2.1]; exact q5⟩, Kp.of_grown h3 (fun j hj => ?_), ?_⟩
    · rcases hown.2 with ⟨rfl, _⟩ | ⟨rfl, _⟩
      · simp [Value.ownBlock] at hj
      · simp [Value.ownBlock] at hj; simp [hj]
    · rcases hown.2 with ⟨rfl, _⟩ | ⟨rfl, _⟩
      · simp [Value.ownBlock] at h5; exact .inr h5
      · simp [Value.ownBlock] at h5
        rcases h5 with h5 | h5
        · exact .inl (by simp [h5])
        · exact .inr h5
/-- 'append' of nothing to a row. -/
theorem run_app0 (t ty e : TypeId) (i : TypeInfo) (__sz : Nat) (ht : P.underlying t = some (.slice e)) (hi : P.info? e = some i) (g c n : Nat) (A2 : Option Addr) (c2 : Nat) (hc : n ≤ c) :
    (Builtin.append_ #[t, t] ty #[.slice (some ⟨g, 0, none⟩) n c, .slice A2 0 c2]).run P w = .ok (.slice (some ⟨g, 0, none⟩) n c) w := by
  cases A2 <;> simp [Builtin.append_, run_underlying ht, sizeOf, typeInfo, hi, Builtin.lenOf, Builtin.firstCells, run_load0, storeCells, hc]
theorem wp_runb {o : Oper} {a : Act} {K : Act → World → Prop} {Q : Exit → Act → World → Prop} (s x : Operand) (t : TypeId)
    (ho : o.op = .call { callee := .builtin .append, args := #[s, x], argTypes := #[t, t] }) {vs vx v : Value} {w' : World} (hs : a.eval s = vs) (hx : a.eval x = vx)
    (hrun : (Builtin.append_ #[t, t] o.type #[vs, vx]).run P w = .ok v w') (h : K (a.put o.dst v) w') : o.wp P a w K Q := by
  unfold Oper.wp execOp
  simp only [ho, resolve, invoke, builtin, Sem.run_bind, Sem.run_pure, Result.andThen_ok, List.map_toArray, List.map_cons, List.map_nil, hs, hx, hrun]
  exact h
theorem wpList_runb {ops : Array Oper} {rest : List Oper} {o : Oper} {a : Act} {Q : Exit → Act → World → Prop} (hgd : o.guard = none) (s x : Operand) (t : TypeId)
    (ho : o.op = .call { callee := .builtin .append, args := #[s, x], argTypes := #[t, t] }) {vs vx v : Value} {w' : World} (hs : a.eval s = vs) (hx : a.eval x = vx)
    (hrun : (Builtin.append_ #[t, t] o.type #[vs, vx]).run P w = .ok v w') (h : wpList P ops Q rest (a.put o.dst v) w') : wpList P ops Q (o :: rest) a w :=
  wpList_plain hgd fun _ hK => wp_runb w s x t ho hs hx hrun (hK _ _ h)
theorem step_runb {ops : Array Oper} {o : Oper} {a : Act} {K : Act → World → Prop} {Q : Exit → Act → World → Prop} {E : Prop} (hgd : o.guard = none) (s x : Operand) (t : TypeId)
    (ho : o.op = .call { callee := .builtin .append, args := #[s, x], argTypes := #[t, t] }) {vs vx v : Value} {w' : World} (hs : a.eval s = vs) (hx : a.eval x = vx)
    (hrun : (Builtin.append_ #[t, t] o.type #[vs, vx]).run P w = .ok v w') (h : K (a.put o.dst v) w') :
    if Region.wanted o (yielded ops a.tmps) = true then Oper.wp P o a w K Q else E := by
  rw [if_pos (by simp [Region.wanted, hgd])]
  exact wp_runb w s x t ho hs hx hrun h
end

/-! ### Edges as cells -/
/-- An edge: from, to, cost. -/
structure Ed where
  f : Int
  t : Int
  c : Int
/-- An edge as a value. -/
abbrev ev (x : Ed) : Value := .agg #[.int .i64 x.f, .int .i64 x.t, .int .i64 x.c]
/-- Edges as cells. -/
def eflat : List Ed → List Value
  | [] => []
  | x :: l => .int .i64 x.f :: .int .i64 x.t :: .int .i64 x.c :: eflat l
theorem eflat_length (l : List Ed) : (eflat l).length = l.length * 3 := by
  induction l with
  | nil => rfl
  | cons x l ih => simp [eflat, ih]; omega
theorem eflat_append (a b : List Ed) : eflat (a ++ b) = eflat a ++ eflat b := by
  induction a with
  | nil => rfl
  | cons x l ih => simp [eflat, ih]
theorem eflat_one (l : List Ed) : ∀ u ∈ eflat l, u.oneCell' = true := by
  induction l with
  | nil => intro u hu; cases hu
  | cons x l ih =>
    intro u hu
    simp only [eflat, List.mem_cons] at hu
    rcases hu with rfl | rfl | rfl | hu
    · rfl
    · rfl
    · rfl
    · exact ih u hu
theorem eflat_get {l : List Ed} : ∀ {i : Nat} (h : i < l.length), (eflat l)[i * 3]? = some (.int .i64 l[i].f) ∧ (eflat l)[i * 3 + 1]? = some (.int .i64 l[i].t) ∧ (eflat l)[i * 3 + 2]? = some (.int .i64 l[i].c) := by
  induction l with
  | nil => intro i h; simp at h
  | cons x l ih =>
    intro i h
    cases i with
    | zero => exact ⟨rfl, rfl, rfl⟩
    | succ i =>
      have := ih (i := i) (by simpa using h)
      rw [show (i + 1) * 3 = i * 3 + 3 by omega]
      exact this
theorem eflat_set {l : List Ed} (x : Ed) : ∀ {i : Nat}, i < l.length → eflat (l.set i x) = (((eflat l).set (i * 3) (.int .i64 x.f)).set (i * 3 + 1) (.int .i64 x.t)).set (i * 3 + 2) (.int .i64 x.c) := by
  induction l with
  | nil => intro i h; simp at h
  | cons y l ih =>
    intro i h
    cases i with
    | zero => rfl
    | succ i =>
      have := ih (i := i) (by simpa using h)
      rw [show (i + 1) * 3 = i * 3 + 3 by omega]
      simp [eflat, this]
/-- The edge i. -/
def ge (E : List Ed) (i : Nat) : Ed := E.getD i ⟨0, 0, 0⟩
theorem ge_eq {E : List Ed} {i : Nat} (h : i < E.length) : ge E i = E[i] := by simp [ge, List.getD, h]
theorem Rd.edge {S : Nat → Prop} {w : World} {A : Option Addr} {E : List Ed} (h : Rd S w A (eflat E)) {i : Nat} (hi : i < E.length) :
    ∃ b off, A = some ⟨b, off, none⟩ ∧ S b ∧ b < w.heap.size ∧ w.cell? ⟨b, off + i * 3, none⟩ = some (.int .i64 (ge E i).f) ∧ w.cell? ⟨b, off + i * 3 + 1, none⟩ = some (.int .i64 (ge E i).t) ∧ w.cell? ⟨b, off + i * 3 + 2, none⟩ = some (.int .i64 (ge E i).c) := by
  have hne : eflat E ≠ [] := by
    intro e
    have := eflat_length E
    rw [e] at this
    simp at this
    omega
  obtain ⟨b, off, rfl, hb, hlt, hc⟩ := h hne
  obtain ⟨c1, c2, c3⟩ := eflat_get hi
  rw [ge_eq hi]
  exact ⟨b, off, rfl, hb, hlt, hc _ _ c1, by simpa [Nat.add_assoc] using hc _ _ c2, by simpa [Nat.add_assoc] using hc _ _ c3⟩
/-- Whole numbers as cells. -/
abbrev nts (l : List Nat) : List Value := l.map fun (n : Nat) => .int .i64 (n : Int)
abbrev its (l : List Int) : List Value := l.map (.int .i64)
abbrev bls (l : List Bool) : List Value := l.map .bool
theorem nts_one (l : List Nat) : ∀ u ∈ nts l, u.oneCell' = true := by
  intro u hu
  obtain ⟨x, _, rfl⟩ := List.mem_map.1 hu
  rfl
theorem bls_one (l : List Bool) : ∀ u ∈ bls l, u.oneCell' = true := by
  intro u hu
  obtain ⟨x, _, rfl⟩ := List.mem_map.1 hu
  rfl
/-- A graph as a value. -/
abbrev gv (N : Int) (A : Option Addr) (n c : Nat) : Value := .agg #[.int .i64 N, .slice A n c]
theorem info_of {e : TypeId} {z : Value} {s b : Nat} (h : (Try.prog.info? e).map (fun i => (i.zero, i.size, i.bytes)) = some (some z, s, b)) : ∃ i, Try.prog.info? e = some i ∧ i.zero = some z ∧ i.size = s ∧ i.bytes = b := by
  cases hq : Try.prog.info? e with
  | none => rw [hq] at h; cases h
  | some i =>
    rw [hq] at h
    simp only [Option.map_some, Option.some.injEq, Prod.mk.injEq] at h
    exact ⟨i, rfl, h.1, h.2.1, h.2.2⟩
theorem info3 : ∃ i, Try.prog.info? 3 = some i ∧ i.zero = some (.int .i64 0) ∧ i.size = 1 ∧ i.bytes = 8 := info_of (by kernel_rfl)
theorem info4 : ∃ i, Try.prog.info? 4 = some i ∧ i.zero = some (.bool false) ∧ i.size = 1 ∧ i.bytes = 1 := info_of (by kernel_rfl)
theorem info26 : ∃ i, Try.prog.info? 26 = some i ∧ i.zero = some (.slice none 0 0) ∧ i.size = 1 ∧ i.bytes = 24 := info_of (by kernel_rfl)
theorem info50 : ∃ i, Try.prog.info? 50 = some i ∧ i.zero = some (.agg #[.int .i64 0, .int .i64 0, .int .i64 0]) ∧ i.size = 3 ∧ i.bytes = 24 := info_of (by kernel_rfl)
end Go.Proofs.Ytkpmdfgjaodlaaa
