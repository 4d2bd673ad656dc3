/-
  Lemmas on slices of items (two cells each): slices that are read, rows that the call itself has made, heaps behind a pointer; laws of the walk for append and copy on them. No statement is proved here; no conditions.
-/
import Derived.Test.YtkpmdfgjaodlaaaOrd
import Derived.WalkKit
import Derived.Below
import Derived.Maps.AppendAt
import Derived.Deep.AppendLies
import Derived.Deep.Draws
import Derived.Laws.CopyOwn
import Derived.OwnWalk
namespace Go.Proofs.Ytkpmdfgjaodlaaa
open Go.RowKit

/-- An item as a value. -/
abbrev iv (x : It) : Value := .agg #[.int .u64 x.1, .int .i64 x.2]
/-- Items as cells. -/
def flat : List It → List Value
  | [] => []
  | x :: l => .int .u64 x.1 :: .int .i64 x.2 :: flat l
theorem flat_length (l : List It) : (flat l).length = l.length * 2 := by
  induction l with
  | nil => rfl
  | cons x l ih => simp [flat, ih]; omega
theorem flat_append (a b : List It) : flat (a ++ b) = flat a ++ flat b := by
  induction a with
  | nil => rfl
  | cons x l ih => simp [flat, ih]
theorem flat_one (l : List It) : ∀ u ∈ flat l, u.oneCell' = true := by
  induction l with
  | nil => intro u hu; cases hu
  | cons x l ih =>
    intro u hu
    simp only [flat, List.mem_cons] at hu
    rcases hu with rfl | rfl | hu
    · rfl
    · rfl
    · exact ih u hu
theorem flat_get {l : List It} : ∀ {i : Nat}, i < l.length → (flat l)[i * 2]? = some (.int .u64 (gt l i).1) ∧ (flat l)[i * 2 + 1]? = some (.int .i64 (gt l i).2) := by
  induction l with
  | nil => intro i h; simp at h
  | cons x l ih =>
    intro i h
    cases i with
    | zero => exact ⟨rfl, rfl⟩
    | succ i =>
      have := ih (i := i) (by simpa using h)
      rw [show (i + 1) * 2 = i * 2 + 2 by omega]
      exact this
theorem flat_set {l : List It} (x : It) : ∀ {i : Nat}, i < l.length → flat (l.set i x) = ((flat l).set (i * 2) (.int .u64 x.1)).set (i * 2 + 1) (.int .i64 x.2) := by
  induction l with
  | nil => intro i h; simp at h
  | cons y l ih =>
    intro i h
    cases i with
    | zero => rfl
    | succ i =>
      have := ih (i := i) (by simpa using h)
      rw [show (i + 1) * 2 = i * 2 + 2 by omega]
      simp [flat, this]
theorem flat_take (l : List It) (n : Nat) : flat (l.take n) = (flat l).take (n * 2) := by
  induction l generalizing n with
  | nil => simp [flat]
  | cons x l ih =>
    cases n with
    | zero => simp [flat]
    | succ n => rw [show (n + 1) * 2 = n * 2 + 1 + 1 by omega]; simp [flat, ih]

/-! ### What stays -/
/-- All blocks but those of S are as they were. -/
structure Kp (S : Nat → Prop) (w w' : World) : Prop where
  os : w'.os = w.os
  tape : w'.tape = w.tape
  output : w'.output = w.output
  size : w.heap.size ≤ w'.heap.size
  block : ∀ j, j < w.heap.size → ¬ S j → w'.heap[j]? = w.heap[j]?
section
variable {S T : Nat → Prop} {w w' a b c : World}
theorem Kp.refl (S : Nat → Prop) (w : World) : Kp S w w := ⟨rfl, rfl, rfl, Nat.le_refl _, fun _ _ _ => rfl⟩
theorem Kp.trans (h : Kp S a b) (k : Kp T b c) (hT : ∀ j, T j → S j ∨ a.heap.size ≤ j) : Kp S a c :=
  ⟨k.os.trans h.os, k.tape.trans h.tape, k.output.trans h.output, Nat.le_trans h.size k.size, fun i hi hs => (k.block i (Nat.lt_of_lt_of_le hi h.size) (fun ht => by rcases hT i ht with x | x; exact hs x; omega)).trans (h.block i hi hs)⟩
theorem Kp.of_below {B : Nat} (h : Below B w w') (hB : w.heap.size ≤ B) : Kp S w w' := ⟨h.os, h.tape, h.output, h.size, fun j hj _ => h.block j (by omega)⟩
theorem Kp.below {B : Nat} (h : Kp S w w') (hS : ∀ j, S j → B ≤ j) (hB : B ≤ w.heap.size) : Below B w w' :=
  ⟨h.os, h.tape, h.output, h.size, fun j hj => h.block j (by omega) (fun hs => by have := hS j hs; omega)⟩
theorem Kp.then_below {B : Nat} (h : Kp S a b) (k : Below B b c) (hB : b.heap.size ≤ B) : Kp S a c := h.trans (Kp.of_below (S := S) k hB) (fun _ h => .inl h)
theorem Kp.of_grown {r : Option Nat} (h : w.grownBy w' r) (hr : ∀ j, some j = r → S j) : Kp S w w' := ⟨h.os, h.tape, h.output, h.size, fun j hj hs => h.block j hj (fun e => hs (hr j e))⟩
theorem Kp.mono (h : Kp S w w') (hs : ∀ j, S j → T j) : Kp T w w' := ⟨h.os, h.tape, h.output, h.size, fun j hj ht => h.block j hj (fun x => ht (hs j x))⟩
theorem Kp.setCell (w : World) (p : Addr) (v : Value) (hS : S p.block) : Kp S w (w.setCell p v) := ⟨rfl, rfl, rfl, by simp [World.setCell], fun j _ hs => Below.heap_setCell _ _ _ _ (fun e => hs (e ▸ hS))⟩
theorem Kp.then_set (h : Kp S a w) (p : Addr) (v : Value) (hS : S p.block) : Kp S a (w.setCell p v) := h.trans (Kp.setCell (S := S) w p v hS) (fun _ x => .inl x)
theorem Kp.drew (h : Kp S a w) : Kp S a w.drew := ⟨h.os, h.tape, h.output, h.size, h.block⟩
theorem Kp.alloc (h : Kp S a w) (o : Obj) : Kp S a (w.alloc o) := h.trans (Kp.of_below (S := S) ((Below.refl w.heap.size w).alloc (Nat.le_refl _) o) (Nat.le_refl _)) (fun _ x => .inl x)
theorem Kp.setRow (w : World) (g : Nat) (cs : Array Value) (hS : S g) : Kp S w (w.setRow g cs) := ⟨rfl, rfl, rfl, by simp [World.setRow], fun j _ hs => setRow_other w g j cs (fun e => hs (e ▸ hS))⟩
end

/-! ### A slice that is read -/
/-- The slice '.slice A l.length _' reads as the items l, in a block of S; nil is let in. -/
def Bs (S : Nat → Prop) (w : World) (A : Option Addr) (l : List It) : Prop :=
  l ≠ [] → ∃ b off, A = some ⟨b, off, none⟩ ∧ S b ∧ b < w.heap.size ∧ ∀ i, i < l.length → w.cell? ⟨b, off + i * 2, none⟩ = some (.int .u64 (gt l i).1) ∧ w.cell? ⟨b, off + i * 2 + 1, none⟩ = some (.int .i64 (gt l i).2)
section
variable {S T : Nat → Prop} {w w' : World} {A : Option Addr} {l : List It}
theorem Bs.nil (A : Option Addr) : Bs S w A [] := fun h => absurd rfl h
theorem Bs.keep (h : Bs S w A l) (hs : w.heap.size ≤ w'.heap.size) (hk : ∀ j, S j → j < w.heap.size → w'.heap[j]? = w.heap[j]?) : Bs S w' A l := fun hl => by
  obtain ⟨b, off, e, hb, hlt, hc⟩ := h hl
  exact ⟨b, off, e, hb, by omega, fun i hi => ⟨(World.cell?_of_block (hk b hb hlt)).trans (hc i hi).1, (World.cell?_of_block (hk b hb hlt)).trans (hc i hi).2⟩⟩
theorem Bs.kp (h : Bs S w A l) (k : Kp T w w') (hST : ∀ j, S j → ¬ T j) : Bs S w' A l := h.keep k.size fun j hj hlt => k.block j hlt (hST j hj)
theorem Bs.below {B : Nat} (h : Bs S w A l) (k : Below B w w') (hS : ∀ j, S j → j < w.heap.size → j < B) : Bs S w' A l := h.keep k.size fun j hj hlt => k.block j (hS j hj hlt)
theorem Bs.more (h : Bs S w A l) (hS : ∀ j, S j → j < w.heap.size → T j) : Bs T w A l := fun hl => by
  obtain ⟨b, off, e, hb, hlt, hc⟩ := h hl
  exact ⟨b, off, e, hS b hb hlt, hlt, hc⟩
theorem Bs.at_ (h : Bs S w A l) {i : Nat} (hi : i < l.length) : ∃ b off, A = some ⟨b, off, none⟩ ∧ S b ∧ b < w.heap.size ∧ w.cell? ⟨b, off + i * 2, none⟩ = some (.int .u64 (gt l i).1) ∧ w.cell? ⟨b, off + i * 2 + 1, none⟩ = some (.int .i64 (gt l i).2) := by
  obtain ⟨b, off, e, hb, hlt, hc⟩ := h (by rintro rfl; simp at hi)
  exact ⟨b, off, e, hb, hlt, (hc i hi).1, (hc i hi).2⟩
theorem addr_add (b off n : Nat) : (⟨b, off, none⟩ : Addr).add n = ⟨b, off + n, none⟩ := by unfold Addr.add; split <;> simp_all
theorem Bs.cells (h : Bs S w A l) (hl : l ≠ []) : ∃ b off, A = some ⟨b, off, none⟩ ∧ S b ∧ b < w.heap.size ∧ ∀ j u, (flat l)[j]? = some u → w.cell? ((⟨b, off, none⟩ : Addr).add j) = some u := by
  obtain ⟨b, off, e, hb, hlt, hc⟩ := h hl
  refine ⟨b, off, e, hb, hlt, fun j u hu => ?_⟩
  rw [addr_add]
  have hj : j < l.length * 2 := by
    rw [← flat_length]
    rcases Nat.lt_or_ge j (flat l).length with h | h
    · exact h
    · simp [List.getElem?_eq_none h] at hu
  have h2 : j / 2 < l.length := by omega
  obtain ⟨g1, g2⟩ := flat_get h2
  obtain ⟨d1, d2⟩ := hc _ h2
  rcases Nat.mod_two_eq_zero_or_one j with e | e
  · have ej : j / 2 * 2 = j := by omega
    rw [ej] at g1 d1
    rw [d1, ← g1, hu]
  · have ej : j / 2 * 2 + 1 = j := by omega
    rw [ej] at g2
    rw [Nat.add_assoc, ej] at d2
    rw [d2, ← g2, hu]
/-- What is behind the first one; the address where there is nothing left does not matter. -/
theorem Bs.tail {x : It} (h : Bs S w A (x :: l)) (A' : Option Addr) (hA : l ≠ [] → A' = A.map (·.add 2)) : Bs S w A' l := fun hl => by
  obtain ⟨b, off, rfl, hb, hlt, hc⟩ := h (by simp)
  refine ⟨b, off + 2, by rw [hA hl]; simp [addr_add], hb, hlt, fun i hi => ?_⟩
  have := hc (i + 1) (by simpa using hi)
  rw [show off + (i + 1) * 2 = off + 2 + i * 2 by omega] at this
  exact this
end

/-! ### A row that a call has made -/
/-- Block g is a row of c items of type e, of which the first ones are d. -/
def Rw (e : TypeId) (w : World) (g c : Nat) (d : List It) : Prop :=
  ∃ cur, w.heap[g]? = some (.cells cur e (0, 0)) ∧ d.length ≤ c ∧ c ≤ maxLen ∧ cur.size = c * 2 ∧ cur.toList.take (d.length * 2) = flat d
section
variable {S T : Nat → Prop} {e : TypeId} {w w' : World} {g c : Nat} {d : List It}
theorem lt_of_block {w : World} {g : Nat} {o : Obj} (h : w.heap[g]? = some o) : g < w.heap.size := by
  rcases Nat.lt_or_ge g w.heap.size with x | x
  · exact x
  · rw [Array.getElem?_eq_none x] at h; cases h
theorem Rw.lt (h : Rw e w g c d) : g < w.heap.size := by obtain ⟨cur, hg, _⟩ := h; exact lt_of_block hg
theorem Rw.cap (h : Rw e w g c d) : d.length ≤ c := by obtain ⟨cur, _, h1, _⟩ := h; exact h1
theorem Rw.max (h : Rw e w g c d) : c ≤ maxLen := by obtain ⟨cur, _, _, h1, _⟩ := h; exact h1
theorem Rw.keep (h : Rw e w g c d) (hk : w'.heap[g]? = w.heap[g]?) : Rw e w' g c d := by obtain ⟨cur, hg, r⟩ := h; exact ⟨cur, hk.trans hg, r⟩
theorem Rw.kp (h : Rw e w g c d) (k : Kp S w w') (hs : ¬ S g) : Rw e w' g c d := h.keep (k.block g h.lt hs)
theorem Rw.below {B : Nat} (h : Rw e w g c d) (k : Below B w w') (hB : g < B) : Rw e w' g c d := h.keep (k.block g hB)
theorem Rw.cell (h : Rw e w g c d) {i : Nat} (hi : i < d.length) : w.cell? ⟨g, i * 2, none⟩ = some (.int .u64 (gt d i).1) ∧ w.cell? ⟨g, i * 2 + 1, none⟩ = some (.int .i64 (gt d i).2) := by
  obtain ⟨cur, hg, h1, h2, h3, h4⟩ := h
  obtain ⟨g1, g2⟩ := flat_get hi
  rw [← h4, List.getElem?_take] at g1 g2
  rw [if_pos (by omega), Array.getElem?_toList] at g1 g2
  exact ⟨(cell_of_row w g _ cur e (0, 0) hg).trans g1, (cell_of_row w g _ cur e (0, 0) hg).trans g2⟩
theorem Rw.frozen (h : Rw e w g c d) (i : Nat) : w.frozen? ⟨g, i, none⟩ = false := by
  obtain ⟨cur, hg, _⟩ := h
  simp [World.frozen?, hg]
theorem Rw.bs (h : Rw e w g c d) : Bs (· = g) w (some ⟨g, 0, none⟩) d := fun _ => ⟨g, 0, rfl, rfl, h.lt, fun i hi => by simpa using h.cell hi⟩
theorem Rw.set (h : Rw e w g c d) {i : Nat} (hi : i < d.length) (x : It) : Rw e ((w.setCell ⟨g, i * 2, none⟩ (.int .u64 x.1)).setCell ⟨g, i * 2 + 1, none⟩ (.int .i64 x.2)) g c (d.set i x) := by
  obtain ⟨cur, hg, h1, h2, h3, h4⟩ := h
  have e1 := setCell_eq_setRow w g (i * 2) cur e (0, 0) (.int .u64 x.1) hg
  have hg1 : (w.setCell ⟨g, i * 2, none⟩ (.int .u64 x.1)).heap[g]? = some (.cells (cur.setIfInBounds (i * 2) (.int .u64 x.1)) e (0, 0)) := by rw [e1]; exact setRow_heap w g cur _ e _ hg
  have e2 := setCell_eq_setRow _ g (i * 2 + 1) _ e (0, 0) (.int .i64 x.2) hg1
  refine ⟨(cur.setIfInBounds (i * 2) (.int .u64 x.1)).setIfInBounds (i * 2 + 1) (.int .i64 x.2), by rw [e2]; exact setRow_heap _ g _ _ e _ hg1, by simpa using h1, h2, by simpa using h3, ?_⟩
  rw [flat_set x hi, ← h4, List.length_set, Array.toList_setIfInBounds, Array.toList_setIfInBounds, List.take_set, List.take_set]
theorem Rw.drew (h : Rw e w g c d) : Rw e w.drew g c d := h
theorem Rw.take (h : Rw e w g c d) (n : Nat) (hn : n ≤ d.length) : Rw e w g c (d.take n) := by
  obtain ⟨cur, hg, h1, h2, h3, h4⟩ := h
  refine ⟨cur, hg, by simp; omega, h2, h3, ?_⟩
  rw [flat_take, ← h4, List.take_take, List.length_take]
  congr 1
  omega
theorem Rw.own (h : Rw e w g c d) : w.ownsRow 0 e 2 (.slice (some ⟨g, 0, none⟩) d.length c) d.length (flat d) := by
  obtain ⟨cur, hg, h1, h2, h3, h4⟩ := h
  exact ⟨flat_length d, .inr ⟨g, c, cur, rfl, Nat.zero_le _, hg, h1, h2, h3, h4⟩⟩
theorem Rw.lit (w : World) (e : TypeId) (l : List It) (cs : Array Value) (hc : cs = (flat l).toArray) (hl : l.length ≤ maxLen) : Rw e (w.alloc (.cells cs e)) w.heap.size l.length l := by
  subst hc
  exact ⟨_, Go.heap_alloc_new w _, Nat.le_refl _, hl, by simp [flat_length], by rw [← flat_length]; simp⟩
end

/-! ### Append and copy -/
section
variable {P : Program} (w : World)
theorem run_load0 (w : World) (a : Addr) : (loadCells a 0).run P w = .ok #[] w := run_loadCells_list (P := P) w a [] (by simp)
theorem run_app (t ty e : TypeId) (i : TypeInfo) (z : Value) (ht : P.underlying t = some (.slice e)) (hi : P.info? e = some i) (hz : i.zero = some z)
    (hsize : i.size = 2) (hby : i.bytes = 16) (hzs : z.cells.size = 2) (g c : Nat) (l : List It) (hown : Rw e w g c l)
    (S : Nat → Prop) (A2 : Option Addr) (c2 : Nat) (l2 : List It) (hr : Bs S w A2 l2) (hb : l.length + l2.length ≤ 1000000) :
    ∃ g' c' w', (Builtin.append_ #[t, t] ty #[.slice (some ⟨g, 0, none⟩) l.length c, .slice A2 l2.length c2]).run P w = .ok (.slice (some ⟨g', 0, none⟩) (l ++ l2).length c') w' ∧ Rw e w' g' c' (l ++ l2) ∧ Kp (· = g) w w' ∧ (g' = g ∨ g' = w.heap.size) := by
  by_cases hl : l2 = []
  · subst hl
    refine ⟨g, c, w, ?_, by simpa using hown, Kp.refl _ _, .inl rfl⟩
    have h1 := hown.cap
    cases A2 <;> simp [Builtin.append_, run_underlying ht, sizeOf, typeInfo, hi, Builtin.lenOf, Builtin.firstCells, run_load0, storeCells, h1]
  · obtain ⟨b, off, rfl, _, _, hc⟩ := hr.cells hl
    obtain ⟨v', w', hrun, h2, h3, h4, h5⟩ := run_append_own_at (P := P) w 0 t ty e i z 2 16 ht hi hz hsize hby hzs (by decide) _ _ _ hown.own ⟨b, off, none⟩ l2.length c2 (flat l2) (flat_length l2) hc (flat_one l2) (by unfold maxLen; omega) (by omega) (Nat.zero_le _)
    rw [← flat_append] at h2
    rcases h2.2 with ⟨rfl, _⟩ | ⟨g', cap, cur, rfl, _, q1, q2, q3, q4, q5⟩
    · exact absurd (h4.1 rfl).1 (by simp)
    · refine ⟨g', cap, w', by rw [hrun, List.length_append], ⟨cur, q1, by rw [List.length_append]; exact q2, q3, q4, by rw [List.length_append]; exact q5⟩, Kp.of_grown h3 (fun j hj => by simpa [Value.ownBlock] using hj), by simpa [Value.ownBlock] using h5⟩

theorem wp_app {o : Oper} {a : Act} {K : Act → World → Prop} {Q : Exit → Act → World → Prop} (s x : Operand) (t : TypeId)
    (ho : o.op = .call { callee := .builtin .append, args := #[s, x], argTypes := #[t, t] })
    (e : TypeId) (i : TypeInfo) (z : Value) (ht : P.underlying t = some (.slice e)) (hi : P.info? e = some i) (hz : i.zero = some z)
    (hsize : i.size = 2) (hby : i.bytes = 16) (hzs : z.cells.size = 2) (g c : Nat) (l : List It) (hs : a.eval s = .slice (some ⟨g, 0, none⟩) l.length c) (hown : Rw e w g c l)
    (S : Nat → Prop) (A2 : Option Addr) (n2 c2 : Nat) (l2 : List It) (hx : a.eval x = .slice A2 n2 c2) (hn2 : n2 = l2.length) (hr : Bs S w A2 l2) (hb : l.length + l2.length ≤ 1000000)
    (h : ∀ l3 g' c' w', Hid (l3 = l ++ l2) → Rw e w' g' c' l3 → Kp (· = g) w w' → (g' = g ∨ g' = w.heap.size) → K (a.put o.dst (.slice (some ⟨g', 0, none⟩) l3.length c')) w') : o.wp P a w K Q := by
  subst hn2
  obtain ⟨g', c', w', hrun, h2, h3, h4⟩ := run_app (P := P) w t o.type e i z ht hi hz hsize hby hzs g c l hown S A2 c2 l2 hr hb
  unfold Oper.wp execOp
  simp only [ho, resolve, invoke, builtin, Sem.run_bind, Sem.run_pure, Result.andThen_ok, List.map_toArray, List.map_cons, List.map_nil, hs, hx, hrun]
  exact h _ g' c' w' rfl h2 h3 h4

theorem wpList_app {ops : Array Oper} {rest : List Oper} {o : Oper} {a : Act} {Q : Exit → Act → World → Prop} (hgd : o.guard = none) (s x : Operand) (t : TypeId)
    (ho : o.op = .call { callee := .builtin .append, args := #[s, x], argTypes := #[t, t] })
    (e : TypeId) (i : TypeInfo) (z : Value) (ht : P.underlying t = some (.slice e)) (hi : P.info? e = some i) (hz : i.zero = some z)
    (hsize : i.size = 2) (hby : i.bytes = 16) (hzs : z.cells.size = 2) (g c : Nat) (l : List It) (hs : a.eval s = .slice (some ⟨g, 0, none⟩) l.length c) (hown : Rw e w g c l)
    (S : Nat → Prop) (A2 : Option Addr) (n2 c2 : Nat) (l2 : List It) (hx : a.eval x = .slice A2 n2 c2) (hn2 : n2 = l2.length) (hr : Bs S w A2 l2) (hb : l.length + l2.length ≤ 1000000)
    (h : ∀ l3 g' c' w', Hid (l3 = l ++ l2) → Rw e w' g' c' l3 → Kp (· = g) w w' → (g' = g ∨ g' = w.heap.size) → wpList P ops Q rest (a.put o.dst (.slice (some ⟨g', 0, none⟩) l3.length c')) w') : wpList P ops Q (o :: rest) a w :=
  wpList_plain hgd fun _ hK => wp_app w s x t ho e i z ht hi hz hsize hby hzs g c l hs hown S A2 n2 c2 l2 hx hn2 hr hb fun l3 g' c' w' h1 h2 h3 h4 => hK _ _ (h l3 g' c' w' h1 h2 h3 h4)

/-- 'copy' of nothing. -/
theorem run_cp0 (t s ty e : TypeId) (i : TypeInfo) (ht : P.underlying t = some (.slice e)) (hi : P.info? e = some i) (D A2 : Option Addr) (n dCap c2 : Nat) :
    (Builtin.copy_ #[t, s] ty #[.slice D n dCap, .slice A2 0 c2]).run P w = .ok (goInt 0) w := by
  cases A2 <;> cases D <;> simp [Builtin.copy_, run_underlying ht, Builtin.lenOf, Builtin.firstCells, sizeOf, typeInfo, hi, run_load0, storeCells]
/-- 'copy(row[n:], l)' where the row has room. -/
theorem run_cp (t s ty e : TypeId) (i : TypeInfo) (ht : P.underlying t = some (.slice e)) (hi : P.info? e = some i) (hsize : i.size = 2)
    (g c dCap : Nat) (D : Option Addr) (d l : List It) (hd : Rw e w g c d) (hroom : d.length + l.length ≤ c) (hD : l ≠ [] → D = some ⟨g, d.length * 2, none⟩) (S : Nat → Prop) (A2 : Option Addr) (c2 : Nat) (hr : Bs S w A2 l) :
    ∃ w', (Builtin.copy_ #[t, s] ty #[.slice D l.length dCap, .slice A2 l.length c2]).run P w = .ok (goInt l.length) w' ∧ Rw e w' g c (d ++ l) ∧ Kp (· = g) w w' := by
  by_cases hl : l = []
  · subst hl
    exact ⟨w, run_cp0 w t s ty e i ht hi _ _ _ _ _, by simpa using hd, Kp.refl _ _⟩
  · obtain rfl := hD hl
    obtain ⟨b, off, rfl, _, _, hc⟩ := hr.cells hl
    obtain ⟨cur, hg, h1, h2, h3, h4⟩ := hd
    have hld := run_loadCells_list (P := P) w ⟨b, off, none⟩ (flat l) hc
    have hst := run_storeCells_at P g (d.length * 2) e (flat l) 0 cur w hg (by rw [flat_length]; omega) (flat_one l)
    rw [flat_length] at hld
    refine ⟨w.setRow g (cur.toList.take (d.length * 2 + 0) ++ flat l ++ cur.toList.drop (d.length * 2 + 0 + (flat l).length)).toArray, ?_, ?_, Kp.setRow _ _ _ rfl⟩
    · simp [Builtin.copy_, run_underlying ht, Builtin.lenOf, Builtin.firstCells, sizeOf, typeInfo, hi, hsize, hld] at hst ⊢
      simp [hst]
    · refine ⟨_, setRow_heap w g cur _ e (0, 0) hg, by rw [List.length_append]; exact hroom, h2, ?_, ?_⟩
      · simp [flat_length]; omega
      · rw [Nat.add_zero, h4, flat_append, List.length_append, Nat.add_mul, ← flat_length d, ← flat_length l, ← List.length_append, List.take_append_of_le_length (by simp), List.take_length]
theorem wpList_cpr {ops : Array Oper} {rest : List Oper} {o : Oper} {a : Act} {Q : Exit → Act → World → Prop} (hgd : o.guard = none) (d s : Operand) (dT sT : TypeId)
    (ho : o.op = .call { callee := .builtin .copy, args := #[d, s], argTypes := #[dT, sT] }) (vd vs v : Value) (w' : World) (hd : a.eval d = vd) (hs : a.eval s = vs)
    (hr : (Builtin.copy_ #[dT, sT] o.type #[vd, vs]).run P w = .ok v w') (h : wpList P ops Q rest (a.put o.dst v) w') : wpList P ops Q (o :: rest) a w := by
  refine wpList_plain hgd fun K hK => ?_
  unfold Oper.wp execOp
  simp only [ho, resolve, invoke, builtin, Sem.run_bind, Sem.run_pure, Result.andThen_ok, List.map_toArray, List.map_cons, List.map_nil, hd, hs, hr]
  exact hK _ _ h
end
end Go.Proofs.Ytkpmdfgjaodlaaa
