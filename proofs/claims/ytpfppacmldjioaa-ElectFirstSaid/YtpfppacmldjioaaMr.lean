/-
  Lemmas on memory: what stays, cells that are read, rows that the call itself has made, with laws for append. No statement is proved here; no conditions.
-/
import Derived.Test.YtpfppacmldjioaaMemG
import Derived.Test.YtpfppacmldjioaaProg
import Derived.Lib.SmallJoins
namespace Go.Proofs.Ytpfppacmldjioaa
open Go.RowKit Go.Joins

/-! ### What stays -/
/-- All blocks but those of S are as they were. -/
structure Kp (S : Nat → Prop) (w w' : World) : Prop where
  os : w'.os = w.os
  tape : w'.tape = w.tape
  output : w'.output = w.output
  size : w.heap.size ≤ w'.heap.size
  block : ∀ j, j < w.heap.size → ¬ S j → w'.heap[j]? = w.heap[j]?
section
variable {S T : Nat → Prop} {w w' a b c : World}
theorem Kp.refl (S : Nat → Prop) (w : World) : Kp S w w := ⟨rfl, rfl, rfl, Nat.le_refl _, fun _ _ _ => rfl⟩
theorem Kp.trans (h : Kp S a b) (k : Kp T b c) (hT : ∀ j, T j → S j ∨ a.heap.size ≤ j) : Kp S a c :=
  ⟨k.os.trans h.os, k.tape.trans h.tape, k.output.trans h.output, Nat.le_trans h.size k.size, fun i hi hs => (k.block i (Nat.lt_of_lt_of_le hi h.size) (fun ht => by rcases hT i ht with x | x; exact hs x; omega)).trans (h.block i hi hs)⟩
theorem Kp.of_below {B : Nat} (h : Below B w w') (hB : w.heap.size ≤ B) : Kp S w w' := ⟨h.os, h.tape, h.output, h.size, fun j hj _ => h.block j (by omega)⟩
theorem Kp.below {B : Nat} (h : Kp S w w') (hS : ∀ j, S j → B ≤ j) (hB : B ≤ w.heap.size) : Below B w w' :=
  ⟨h.os, h.tape, h.output, h.size, fun j hj => h.block j (by omega) (fun hs => by have := hS j hs; omega)⟩
theorem Kp.then_below {B : Nat} (h : Kp S a b) (k : Below B b c) (hB : b.heap.size ≤ B) : Kp S a c := h.trans (Kp.of_below (S := S) k hB) (fun _ h => .inl h)
theorem Kp.of_grown {r : Option Nat} (h : w.grownBy w' r) (hr : ∀ j, some j = r → S j) : Kp S w w' := ⟨h.os, h.tape, h.output, h.size, fun j hj hs => h.block j hj (fun e => hs (hr j e))⟩
theorem Kp.mono (h : Kp S w w') (hs : ∀ j, S j → T j) : Kp T w w' := ⟨h.os, h.tape, h.output, h.size, fun j hj ht => h.block j hj (fun x => ht (hs j x))⟩
theorem Kp.setCell (w : World) (p : Addr) (v : Value) (hS : S p.block) : Kp S w (w.setCell p v) := ⟨rfl, rfl, rfl, by simp [World.setCell], fun j _ hs => Below.heap_setCell _ _ _ _ (fun e => hs (e ▸ hS))⟩
theorem Kp.then_set (h : Kp S a w) (p : Addr) (v : Value) (hS : S p.block) : Kp S a (w.setCell p v) := h.trans (Kp.setCell (S := S) w p v hS) (fun _ x => .inl x)
theorem Kp.drew (h : Kp S a w) : Kp S a w.drew := ⟨h.os, h.tape, h.output, h.size, h.block⟩
theorem Kp.alloc (h : Kp S a w) (o : Obj) : Kp S a (w.alloc o) := h.trans (Kp.of_below (S := S) ((Below.refl w.heap.size w).alloc (Nat.le_refl _) o) (Nat.le_refl _)) (fun _ x => .inl x)
theorem Kp.setRow (w : World) (g : Nat) (cs : Array Value) (hS : S g) : Kp S w (w.setRow g cs) := ⟨rfl, rfl, rfl, by simp [World.setRow], fun j _ hs => setRow_other w g j cs (fun e => hs (e ▸ hS))⟩
end

theorem lt_of_block {w : World} {g : Nat} {o : Obj} (h : w.heap[g]? = some o) : g < w.heap.size := by
  rcases Nat.lt_or_ge g w.heap.size with x | x
  · exact x
  · rw [Array.getElem?_eq_none x] at h; cases h
/-- The cells cs lie at A, in a block of S; nil is let in where there are none. -/
def Rd (S : Nat → Prop) (w : World) (A : Option Addr) (cs : List Value) : Prop :=
  cs ≠ [] → ∃ b off, A = some ⟨b, off, none⟩ ∧ S b ∧ b < w.heap.size ∧ ∀ j u, cs[j]? = some u → w.cell? ⟨b, off + j, none⟩ = some u
section
variable {S T : Nat → Prop} {w w' : World} {A : Option Addr} {cs : List Value}
theorem Rd.nil (A : Option Addr) : Rd S w A [] := fun h => absurd rfl h
theorem Rd.keep (h : Rd S w A cs) (hs : w.heap.size ≤ w'.heap.size) (hk : ∀ j, S j → j < w.heap.size → w'.heap[j]? = w.heap[j]?) : Rd S w' A cs := fun hl => by
  obtain ⟨b, off, e, hb, hlt, hc⟩ := h hl
  exact ⟨b, off, e, hb, by omega, fun i u hi => (World.cell?_of_block (hk b hb hlt)).trans (hc i u hi)⟩
theorem Rd.kp (h : Rd S w A cs) (k : Kp T w w') (hST : ∀ j, S j → ¬ T j) : Rd S w' A cs := h.keep k.size fun j hj hlt => k.block j hlt (hST j hj)
theorem Rd.below {B : Nat} (h : Rd S w A cs) (k : Below B w w') (hS : ∀ j, S j → j < w.heap.size → j < B) : Rd S w' A cs := h.keep k.size fun j hj hlt => k.block j (hS j hj hlt)
theorem Rd.more (h : Rd S w A cs) (hS : ∀ j, S j → j < w.heap.size → T j) : Rd T w A cs := fun hl => by
  obtain ⟨b, off, e, hb, hlt, hc⟩ := h hl
  exact ⟨b, off, e, hS b hb hlt, hlt, hc⟩
end

/-- Block g is a row of c elements of type e, of sz cells each; its first cells are cs. -/
def Rg (e : TypeId) (sz : Nat) (w : World) (g c : Nat) (cs : List Value) : Prop :=
  ∃ cur, w.heap[g]? = some (.cells cur e (0, 0)) ∧ cs.length ≤ c * sz ∧ c ≤ maxLen ∧ cur.size = c * sz ∧ cur.toList.take cs.length = cs
section
variable {S T : Nat → Prop} {e : TypeId} {sz : Nat} {w w' : World} {g c : Nat} {cs : List Value}
theorem Rg.lt (h : Rg e sz w g c cs) : g < w.heap.size := by obtain ⟨cur, hg, _⟩ := h; exact lt_of_block hg
theorem Rg.cap (h : Rg e sz w g c cs) : cs.length ≤ c * sz := by obtain ⟨cur, _, h1, _⟩ := h; exact h1
theorem Rg.max (h : Rg e sz w g c cs) : c ≤ maxLen := by obtain ⟨cur, _, _, h1, _⟩ := h; exact h1
theorem Rg.keep (h : Rg e sz w g c cs) (hk : w'.heap[g]? = w.heap[g]?) : Rg e sz w' g c cs := by obtain ⟨cur, hg, r⟩ := h; exact ⟨cur, hk.trans hg, r⟩
theorem Rg.kp (h : Rg e sz w g c cs) (k : Kp S w w') (hs : ¬ S g) : Rg e sz w' g c cs := h.keep (k.block g h.lt hs)
theorem Rg.below {B : Nat} (h : Rg e sz w g c cs) (k : Below B w w') (hB : g < B) : Rg e sz w' g c cs := h.keep (k.block g hB)
theorem Rg.below' (h : Rg e sz w g c cs) (k : Below w.heap.size w w') : Rg e sz w' g c cs := h.keep (k.block g h.lt)
theorem Rg.alloc (h : Rg e sz w g c cs) (o : Obj) : Rg e sz (w.alloc o) g c cs := h.keep (Below.heap_alloc w o g h.lt)
theorem Rg.drew (h : Rg e sz w g c cs) : Rg e sz w.drew g c cs := h
theorem Rg.drewN (h : Rg e sz w g c cs) (n : Nat) : Rg e sz (w.drewN n) g c cs := h
theorem Rg.cell (h : Rg e sz w g c cs) {i : Nat} {u : Value} (hi : cs[i]? = some u) : w.cell? ⟨g, i, none⟩ = some u := by
  obtain ⟨cur, hg, h1, h2, h3, h4⟩ := h
  have hil : i < cs.length := by
    rcases Nat.lt_or_ge i cs.length with x | x
    · exact x
    · simp [List.getElem?_eq_none x] at hi
  rw [← h4, List.getElem?_take, if_pos hil, Array.getElem?_toList] at hi
  exact (cell_of_row w g _ cur e (0, 0) hg).trans hi
theorem Rg.frozen (h : Rg e sz w g c cs) (i : Nat) : w.frozen? ⟨g, i, none⟩ = false := by
  obtain ⟨cur, hg, _⟩ := h
  simp [World.frozen?, hg]
theorem Rg.rd (h : Rg e sz w g c cs) : Rd (· = g) w (some ⟨g, 0, none⟩) cs := fun _ => ⟨g, 0, rfl, rfl, h.lt, fun i u hi => by simpa using h.cell hi⟩
theorem Rg.set (h : Rg e sz w g c cs) (i : Nat) (v : Value) : Rg e sz (w.setCell ⟨g, i, none⟩ v) g c (cs.set i v) := by
  obtain ⟨cur, hg, h1, h2, h3, h4⟩ := h
  have e1 := setCell_eq_setRow w g i cur e (0, 0) v hg
  refine ⟨cur.setIfInBounds i v, by rw [e1]; exact setRow_heap w g cur _ e _ hg, by simpa using h1, h2, by simpa using h3, ?_⟩
  rw [List.length_set, Array.toList_setIfInBounds, List.take_set, h4]
theorem Rg.ne_type {e2 : TypeId} {sz2 : Nat} {g2 c2 : Nat} {cs2 : List Value} (h : Rg e sz w g c cs) (h2 : Rg e2 sz2 w g2 c2 cs2) (hne : e ≠ e2) : g ≠ g2 := by
  rintro rfl
  obtain ⟨cur, hg, _⟩ := h
  obtain ⟨cur2, hg2, _⟩ := h2
  rw [hg] at hg2
  simp at hg2
  exact hne hg2.2
theorem Rg.own (h : Rg e sz w g c cs) {n : Nat} (hn : cs.length = n * sz) (hsz : 0 < sz) : w.ownsRow 0 e sz (.slice (some ⟨g, 0, none⟩) n c) n cs := by
  obtain ⟨cur, hg, h1, h2, h3, h4⟩ := h
  exact ⟨hn, .inr ⟨g, c, cur, rfl, Nat.zero_le _, hg, Nat.le_of_mul_le_mul_right (hn ▸ h1) hsz, h2, h3, hn ▸ h4⟩⟩
theorem Rg.lit (w : World) (e : TypeId) (sz n : Nat) (ar : Array Value) (cs : List Value) (hc : ar = cs.toArray) (hl : cs.length = n * sz) (hn : n ≤ maxLen) : Rg e sz (w.alloc (.cells ar e)) w.heap.size n cs := by
  subst hc
  exact ⟨_, Go.heap_alloc_new w _, by omega, hn, by simpa using hl, by simp⟩
end

section
variable {P : Program} (w : World)
/-- A slice that is nil, or a row of the call's own. -/
def Ow (e : TypeId) (sz : Nat) (w : World) (A : Option Addr) (g c n : Nat) (cs : List Value) : Prop :=
  cs.length = n * sz ∧ ((A = none ∧ c = 0 ∧ n = 0) ∨ (A = some ⟨g, 0, none⟩ ∧ Rg e sz w g c cs))
theorem Ow.own {e : TypeId} {sz : Nat} {A : Option Addr} {g c n : Nat} {cs : List Value} (h : Ow e sz w A g c n cs) (hsz : 0 < sz) : w.ownsRow 0 e sz (.slice A n c) n cs := by
  rcases h with ⟨h1, ⟨rfl, rfl, rfl⟩ | ⟨rfl, r⟩⟩
  · exact ⟨h1, .inl ⟨rfl, rfl⟩⟩
  · exact r.own h1 hsz
/-- 'append' of at least one element. -/
theorem run_appr (t ty e : TypeId) (i : TypeInfo) (z : Value) (sz by_ : Nat) (ht : P.underlying t = some (.slice e)) (hi : P.info? e = some i) (hz : i.zero = some z) (hsize : i.size = sz) (hby : i.bytes = by_) (hzs : z.cells.size = sz) (hsz : 0 < sz) (hb100 : by_ ≤ 200)
    (A : Option Addr) (g c n : Nat) (cs : List Value) (hown : Ow e sz w A g c n cs)
    (S : Nat → Prop) (A2 : Option Addr) (c2 n2 : Nat) (cs2 : List Value) (hr : Rd S w A2 cs2) (hl2 : cs2.length = n2 * sz) (h1 : ∀ u ∈ cs2, u.oneCell' = true) (hn2 : 0 < n2) (hb : n + n2 ≤ 1000000) :
    ∃ g' c' w', (Builtin.append_ #[t, t] ty #[.slice A n c, .slice A2 n2 c2]).run P w = .ok (.slice (some ⟨g', 0, none⟩) (n + n2) c') w' ∧ Rg e sz w' g' c' (cs ++ cs2) ∧ Kp (fun j => A = some ⟨j, 0, none⟩) w w' ∧ (A = some ⟨g', 0, none⟩ ∨ g' = w.heap.size) := by
  have hne : cs2 ≠ [] := by
    rintro rfl
    have := Nat.mul_pos hn2 hsz
    simp at hl2
    omega
  obtain ⟨b, off, rfl, _, _, hc⟩ := hr hne
  have hbb : (n + n2) * by_ ≤ 1000000 * 200 := Nat.mul_le_mul hb hb100
  obtain ⟨v', w', hrun, h2, h3, h4, h5⟩ := run_append_own_at (P := P) w 0 t ty e i z sz by_ ht hi hz hsize hby hzs hsz _ _ _ (hown.own w hsz) ⟨b, off, none⟩ n2 c2 cs2 hl2 (fun j u hu => by rw [addr_add]; exact hc j u hu) h1 (by unfold maxLen; omega) (by omega) (Nat.zero_le _)
  rcases h2.2 with ⟨rfl, h⟩ | ⟨g', cap, cur, rfl, _, q1, q2, q3, q4, q5⟩
  · omega
  · refine ⟨g', cap, w', hrun, ⟨cur, q1, by rw [h2.1]; exact Nat.mul_le_mul_right _ q2, q3, q4, by rw [h2.1]; exact q5⟩, Kp.of_grown h3 (fun j hj => ?_), ?_⟩
    · rcases hown.2 with ⟨rfl, _⟩ | ⟨rfl, _⟩
      · simp [Value.ownBlock] at hj
      · simp [Value.ownBlock] at hj; simp [hj]
    · rcases hown.2 with ⟨rfl, _⟩ | ⟨rfl, _⟩
      · simp [Value.ownBlock] at h5; exact .inr h5
      · simp [Value.ownBlock] at h5
        rcases h5 with h5 | h5
        · exact .inl (by simp [h5])
        · exact .inr h5
/-- 'append' of nothing to a row. -/
theorem run_app0 (t ty e : TypeId) (i : TypeInfo) (__sz : Nat) (ht : P.underlying t = some (.slice e)) (hi : P.info? e = some i) (g c n : Nat) (A2 : Option Addr) (c2 : Nat) (hc : n ≤ c) :
    (Builtin.append_ #[t, t] ty #[.slice (some ⟨g, 0, none⟩) n c, .slice A2 0 c2]).run P w = .ok (.slice (some ⟨g, 0, none⟩) n c) w := by
  cases A2 <;> simp [Builtin.append_, run_underlying ht, sizeOf, typeInfo, hi, Builtin.lenOf, Builtin.firstCells, run_load0, storeCells, hc]
theorem wp_runb {o : Oper} {a : Act} {K : Act → World → Prop} {Q : Exit → Act → World → Prop} (s x : Operand) (t : TypeId)
    (ho : o.op = .call { callee := .builtin .append, args := #[s, x], argTypes := #[t, t] }) {vs vx v : Value} {w' : World} (hs : a.eval s = vs) (hx : a.eval x = vx)
    (hrun : (Builtin.append_ #[t, t] o.type #[vs, vx]).run P w = .ok v w') (h : K (a.put o.dst v) w') : o.wp P a w K Q := by
  unfold Oper.wp execOp
  simp only [ho, resolve, invoke, builtin, Sem.run_bind, Sem.run_pure, Result.andThen_ok, List.map_toArray, List.map_cons, List.map_nil, hs, hx, hrun]
  exact h
theorem wpList_runb {ops : Array Oper} {rest : List Oper} {o : Oper} {a : Act} {Q : Exit → Act → World → Prop} (hgd : o.guard = none) (s x : Operand) (t : TypeId)
    (ho : o.op = .call { callee := .builtin .append, args := #[s, x], argTypes := #[t, t] }) {vs vx v : Value} {w' : World} (hs : a.eval s = vs) (hx : a.eval x = vx)
    (hrun : (Builtin.append_ #[t, t] o.type #[vs, vx]).run P w = .ok v w') (h : wpList P ops Q rest (a.put o.dst v) w') : wpList P ops Q (o :: rest) a w :=
  wpList_plain hgd fun _ hK => wp_runb w s x t ho hs hx hrun (hK _ _ h)
theorem step_runb {ops : Array Oper} {o : Oper} {a : Act} {K : Act → World → Prop} {Q : Exit → Act → World → Prop} {E : Prop} (hgd : o.guard = none) (s x : Operand) (t : TypeId)
    (ho : o.op = .call { callee := .builtin .append, args := #[s, x], argTypes := #[t, t] }) {vs vx v : Value} {w' : World} (hs : a.eval s = vs) (hx : a.eval x = vx)
    (hrun : (Builtin.append_ #[t, t] o.type #[vs, vx]).run P w = .ok v w') (h : K (a.put o.dst v) w') :
    if Region.wanted o (yielded ops a.tmps) = true then Oper.wp P o a w K Q else E := by
  rw [if_pos (by simp [Region.wanted, hgd])]
  exact wp_runb w s x t ho hs hx hrun h
end


/-! ### Rows of equal pieces -/
theorem fm_len {α : Type} {f : α → List Value} {sz : Nat} (hf : ∀ x, (f x).length = sz) (l : List α) : (l.flatMap f).length = l.length * sz := by
  induction l with
  | nil => simp
  | cons x l ih => simp [ih, hf, Nat.add_mul]; omega
theorem fm_get {α : Type} {f : α → List Value} {sz : Nat} (hf : ∀ x, (f x).length = sz) {l : List α} {i j : Nat} (hi : i < l.length) (hj : j < sz) : (l.flatMap f)[i * sz + j]? = (f l[i])[j]? := by
  induction l generalizing i with
  | nil => simp at hi
  | cons x l ih =>
    cases i with
    | zero => simp [List.flatMap_cons, List.getElem?_append_left (show j < (f x).length by rw [hf]; exact hj)]
    | succ i =>
      have := ih (i := i) (by simpa using hi)
      rw [List.flatMap_cons, List.getElem?_append_right (by rw [hf, Nat.add_mul]; omega), hf]
      rw [show (i + 1) * sz + j - sz = i * sz + j by rw [Nat.add_mul]; omega]
      simpa using this
theorem fm_at {α : Type} {f : α → List Value} {sz : Nat} (hf : ∀ x, (f x).length = sz) (hsz : 0 < sz) {w : World} {A : Option Addr} {l : List α} (h : Rd (fun _ => True) w A (l.flatMap f)) {i : Nat} (hi : i < l.length) :
    ∃ b off, A = some ⟨b, off, none⟩ ∧ b < w.heap.size ∧ ∀ j u, (f l[i])[j]? = some u → w.cell? ⟨b, off + i * sz + j, none⟩ = some u := by
  have hne : l.flatMap f ≠ [] := by
    intro e
    have h1 := fm_len hf l
    rw [e] at h1
    have := Nat.mul_pos (show 0 < l.length by omega) hsz
    simp only [List.length_nil] at h1
    omega
  obtain ⟨b, off, rfl, _, hlt, hc⟩ := h hne
  refine ⟨b, off, rfl, hlt, fun j u hu => ?_⟩
  have hj : j < sz := by
    have := (List.getElem?_eq_some_iff.1 hu).1
    rwa [hf] at this
  have := hc _ _ ((fm_get hf hi hj).trans hu)
  rwa [← Nat.add_assoc] at this
theorem info_of {e : TypeId} {z : Value} {s b : Nat} (h : (Try.prog.info? e).map (fun i => (i.zero, i.size, i.bytes)) = some (some z, s, b)) : ∃ i, Try.prog.info? e = some i ∧ i.zero = some z ∧ i.size = s ∧ i.bytes = b := by
  cases hq : Try.prog.info? e with
  | none => rw [hq] at h; cases h
  | some i =>
    rw [hq] at h
    simp only [Option.map_some, Option.some.injEq, Prod.mk.injEq] at h
    exact ⟨i, rfl, h.1, h.2.1, h.2.2⟩

/-- A slice: nil, or a row of the call's own in a block of S. -/
def Ob (e : TypeId) (sz : Nat) (S : Nat → Prop) (w : World) (A : Option Addr) (c : Nat) (cs : List Value) : Prop := (A = none ∧ c = 0 ∧ cs = []) ∨ ∃ g, S g ∧ A = some ⟨g, 0, none⟩ ∧ Rg e sz w g c cs
section
variable {S T : Nat → Prop} {w w' : World} {A : Option Addr} {c : Nat} {cs : List Value} {e : TypeId} {sz : Nat}
theorem Ob.keep (h : Ob e sz S w A c cs) (hk : ∀ j, S j → j < w.heap.size → w'.heap[j]? = w.heap[j]?) : Ob e sz S w' A c cs := by
  rcases h with h | ⟨g, h1, h2, h3⟩
  · exact .inl h
  · exact .inr ⟨g, h1, h2, h3.keep (hk g h1 h3.lt)⟩
theorem Ob.below (h : Ob e sz S w A c cs) (hb : Below w.heap.size w w') : Ob e sz S w' A c cs := h.keep fun j _ hj => hb.block j hj
theorem Ob.drew (h : Ob e sz S w A c cs) (n : Nat) : Ob e sz S (w.drewN n) A c cs := h
theorem Ob.more (h : Ob e sz S w A c cs) (hS : ∀ j, S j → j < w.heap.size → T j) : Ob e sz T w A c cs := by
  rcases h with h | ⟨g, h1, h2, h3⟩
  · exact .inl h
  · exact .inr ⟨g, hS g h1 h3.lt, h2, h3⟩
theorem Ob.rd (h : Ob e sz S w A c cs) : Rd (fun _ => True) w A cs := by
  rcases h with ⟨_, _, rfl⟩ | ⟨g, h1, rfl, h3⟩
  · exact Rd.nil _
  · exact h3.rd.more fun j hj _ => trivial
theorem Ob.ow (h : Ob e sz S w A c cs) {n : Nat} (hn : cs.length = n * sz) (hsz : 0 < sz) : ∃ g, Ow e sz w A g c n cs ∧ ∀ j, A = some ⟨j, 0, none⟩ → S j := by
  rcases h with ⟨rfl, rfl, rfl⟩ | ⟨g, h1, rfl, h3⟩
  · have : n = 0 := by
      rcases Nat.eq_zero_or_pos n with q | q
      · exact q
      · have := Nat.mul_pos q hsz
        simp at hn
        omega
    exact ⟨0, ⟨hn, .inl ⟨rfl, rfl, this⟩⟩, fun j hj => by cases hj⟩
  · exact ⟨g, ⟨hn, .inr ⟨rfl, h3⟩⟩, fun j hj => by injection hj with hj; injection hj with hj; exact hj ▸ h1⟩
end
/-- 'append' of a slice of at least one element. -/
theorem app_gen {P : Program} {S T : Nat → Prop} {w : World} {A : Option Addr} {c n : Nat} {cs : List Value} {e t : TypeId} {sz by_ : Nat} {z : Value} {i : TypeInfo} (ht : P.underlying t = some (.slice e)) (hi : P.info? e = some i) (hz : i.zero = some z) (hsize : i.size = sz) (hby : i.bytes = by_) (hzs : z.cells.size = sz) (hsz : 0 < sz) (hb100 : by_ ≤ 200)
    (h : Ob e sz S w A c cs) (hn : cs.length = n * sz) (A2 : Option Addr) (c2 n2 : Nat) (cs2 : List Value) (hr : Rd T w A2 cs2) (hl2 : cs2.length = n2 * sz) (h1 : ∀ u ∈ cs2, u.oneCell' = true) (hn2 : 0 < n2) (hb : n + n2 ≤ 1000000) :
    ∃ g' c' w', (Builtin.append_ #[t, t] t #[.slice A n c, .slice A2 n2 c2]).run P w = .ok (.slice (some ⟨g', 0, none⟩) (n + n2) c') w' ∧ Rg e sz w' g' c' (cs ++ cs2) ∧ Kp S w w' ∧ (S g' ∨ g' = w.heap.size) := by
  obtain ⟨g, ow, hS⟩ := h.ow hn hsz
  obtain ⟨g', c', w', r1, r2, r3, r4⟩ := run_appr (P := P) w t t e i z sz by_ ht hi hz hsize hby hzs hsz hb100 A g c n cs ow T A2 c2 n2 cs2 hr hl2 h1 hn2 hb
  refine ⟨g', c', w', r1, r2, r3.mono hS, ?_⟩
  rcases r4 with q | q
  · exact .inl (hS _ q)
  · exact .inr q
/-- 'append' of nothing. -/
theorem app_zero {P : Program} (w : World) (t ty e : TypeId) (i : TypeInfo) (ht : P.underlying t = some (.slice e)) (hi : P.info? e = some i) (A : Option Addr) (c n : Nat) (A2 : Option Addr) (c2 : Nat) (hc : n ≤ c) (hA : A = none → c = 0) :
    (Builtin.append_ #[t, t] ty #[.slice A n c, .slice A2 0 c2]).run P w = .ok (.slice A n c) w := by
  cases A with
  | none =>
    obtain rfl := hA rfl
    obtain rfl : n = 0 := by omega
    cases A2 <;> simp [Builtin.append_, run_underlying ht, sizeOf, typeInfo, hi, Builtin.lenOf, Builtin.firstCells, run_load0]
  | some a => cases A2 <;> simp [Builtin.append_, run_underlying ht, sizeOf, typeInfo, hi, Builtin.lenOf, Builtin.firstCells, run_load0, storeCells, hc]
/-- One element more, out of a new block. -/
theorem app_one {P : Program} {S : Nat → Prop} {w : World} {A : Option Addr} {c n : Nat} {cs : List Value} {e t : TypeId} {sz by_ : Nat} {z : Value} {i : TypeInfo} (ht : P.underlying t = some (.slice e)) (hi : P.info? e = some i) (hz : i.zero = some z) (hsize : i.size = sz) (hby : i.bytes = by_) (hzs : z.cells.size = sz) (hsz : 0 < sz) (hb100 : by_ ≤ 200)
    (h : Ob e sz S w A c cs) (hn : cs.length = n * sz) (xs : List Value) (hl2 : xs.length = sz) (h1 : ∀ u ∈ xs, u.oneCell' = true) (hb : n ≤ 100000) (n0 : Nat) (hn0 : w.heap.size = n0) :
    ∃ g' c' w', (Builtin.append_ #[t, t] t #[.slice A n c, .slice (some ⟨n0, 0, none⟩) 1 1]).run P (w.alloc (.cells xs.toArray e)) = .ok (.slice (some ⟨g', 0, none⟩) (n + 1) c') w' ∧ Rg e sz w' g' c' (cs ++ xs) ∧ Kp S w w' ∧ (S g' ∨ n0 < g') := by
  subst hn0
  obtain ⟨W5, hW5⟩ : ∃ W5, w.alloc (.cells xs.toArray e) = W5 := ⟨_, rfl⟩
  have hs5 : W5.heap.size = w.heap.size + 1 := by rw [← hW5]; simp
  have b5 : Below w.heap.size w W5 := by rw [← hW5]; exact below_alloc1 _ _
  have src : Rd (· = w.heap.size) W5 (some ⟨w.heap.size, 0, none⟩) xs := by
    rw [← hW5]
    exact (Rg.lit w e sz 1 _ xs rfl (by omega) (by unfold maxLen; omega)).rd
  obtain ⟨g', c', w', r1, r2, r3, r4⟩ := app_gen (P := P) ht hi hz hsize hby hzs hsz hb100 (h.below b5) hn _ 1 1 xs src (by omega) h1 (by omega) (by omega)
  rw [hW5]
  refine ⟨g', c', w', r1, r2, (Kp.of_below (S := S) b5 (Nat.le_refl _)).trans r3 fun _ h => .inl h, ?_⟩
  rcases r4 with q | q
  · exact .inl q
  · exact .inr (by omega)
theorem Ob.next {e : TypeId} {sz : Nat} {w' : World} {g c n0 B : Nat} {cs : List Value} (h : Rg e sz w' g c cs) (hg : B ≤ g ∨ n0 < g) (hn : B ≤ n0) : Ob e sz (B ≤ ·) w' (some ⟨g, 0, none⟩) c cs := .inr ⟨g, by rcases hg with q | q; exact q; show B ≤ g; omega, rfl, h⟩

end Go.Proofs.Ytpfppacmldjioaa
