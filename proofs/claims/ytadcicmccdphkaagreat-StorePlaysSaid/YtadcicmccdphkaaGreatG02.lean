/-
  Lemmas on memory: what stays, cells that are read, rows that the call itself has made, with laws for append. Contracts of the small functions of package octet. The contract of slices.Concat at bytes. No statement is proved here; no conditions.
-/
import Derived.Test.YtadcicmccdphkaaGreatG01
import Derived.Test.YtadcicmccdphkaaGreatProg
import Derived.Lib.SmallJoins
import Derived.KernelRfl
import Derived.Deep.QuietTactic
import Derived.BigQuiet
import Derived.Lib.AppendZerosOnto
import Derived.Deep.LoopGhost
namespace Go.Proofs.YtadcicmccdphkaaGreat
open Go.RowKit Go.Joins

/-! ### What stays -/
structure Kp (S : Nat → Prop) (w w' : World) : Prop where
 os : w'.os = w.os
 tape : w'.tape = w.tape
 output : w'.output = w.output
 size : w.heap.size ≤ w'.heap.size
 block : ∀ j, j < w.heap.size → ¬ S j → w'.heap[j]? = w.heap[j]?
section
variable {S T : Nat → Prop} {w w' a b c : World}
theorem Kp.refl (S : Nat → Prop) (w : World) : Kp S w w := ⟨rfl, rfl, rfl, Nat.le_refl _, fun _ _ _ => rfl⟩
theorem Kp.trans (h : Kp S a b) (k : Kp T b c) (hT : ∀ j, T j → S j ∨ a.heap.size ≤ j) : Kp S a c :=
 ⟨k.os.trans h.os, k.tape.trans h.tape, k.output.trans h.output, Nat.le_trans h.size k.size, fun i hi hs => (k.block i (Nat.lt_of_lt_of_le hi h.size) (fun ht => by rcases hT i ht with x | x; exact hs x; omega)).trans (h.block i hi hs)⟩
theorem Kp.of_below {B : Nat} (h : Below B w w') (hB : w.heap.size ≤ B) : Kp S w w' := ⟨h.os, h.tape, h.output, h.size, fun j hj _ => h.block j (by omega)⟩
theorem Kp.below {B : Nat} (h : Kp S w w') (hS : ∀ j, S j → B ≤ j) (hB : B ≤ w.heap.size) : Below B w w' :=
 ⟨h.os, h.tape, h.output, h.size, fun j hj => h.block j (by omega) (fun hs => by have := hS j hs; omega)⟩
theorem Kp.then_below {B : Nat} (h : Kp S a b) (k : Below B b c) (hB : b.heap.size ≤ B) : Kp S a c := h.trans (Kp.of_below (S := S) k hB) (fun _ h => .inl h)
theorem Kp.of_grown {r : Option Nat} (h : w.grownBy w' r) (hr : ∀ j, some j = r → S j) : Kp S w w' := ⟨h.os, h.tape, h.output, h.size, fun j hj hs => h.block j hj (fun e => hs (hr j e))⟩
theorem Kp.mono (h : Kp S w w') (hs : ∀ j, S j → T j) : Kp T w w' := ⟨h.os, h.tape, h.output, h.size, fun j hj ht => h.block j hj (fun x => ht (hs j x))⟩
theorem Kp.setCell (w : World) (p : Addr) (v : Value) (hS : S p.block) : Kp S w (w.setCell p v) := ⟨rfl, rfl, rfl, by simp [World.setCell], fun j _ hs => Below.heap_setCell _ _ _ _ (fun e => hs (e ▸ hS))⟩
theorem Kp.then_set (h : Kp S a w) (p : Addr) (v : Value) (hS : S p.block) : Kp S a (w.setCell p v) := h.trans (Kp.setCell (S := S) w p v hS) (fun _ x => .inl x)
theorem Kp.drew (h : Kp S a w) : Kp S a w.drew := ⟨h.os, h.tape, h.output, h.size, h.block⟩
theorem Kp.setRow (w : World) (g : Nat) (cs : Array Value) (hS : S g) : Kp S w (w.setRow g cs) := ⟨rfl, rfl, rfl, by simp [World.setRow], fun j _ hs => setRow_other w g j cs (fun e => hs (e ▸ hS))⟩
end

theorem lt_of_block {w : World} {g : Nat} {o : Obj} (h : w.heap[g]? = some o) : g < w.heap.size := by
 rcases Nat.lt_or_ge g w.heap.size with x | x
 ·exact x
 ·rw [Array.getElem?_eq_none x] at h; cases h
def Rd (S : Nat → Prop) (w : World) (A : Option Addr) (cs : List Value) : Prop :=
 cs ≠ [] → ∃ b off, A = some ⟨b, off, none⟩ ∧ S b ∧ b < w.heap.size ∧ ∀ j u, cs[j]? = some u → w.cell? ⟨b, off + j, none⟩ = some u
section
variable {S T : Nat → Prop} {w w' : World} {A : Option Addr} {cs : List Value}
theorem Rd.nil (A : Option Addr) : Rd S w A [] := fun h => absurd rfl h
theorem Rd.keep (h : Rd S w A cs) (hs : w.heap.size ≤ w'.heap.size) (hk : ∀ j, S j → j < w.heap.size → w'.heap[j]? = w.heap[j]?) : Rd S w' A cs := fun hl => by
 obtain ⟨b, off, e, hb, hlt, hc⟩ := h hl
 exact ⟨b, off, e, hb, by omega, fun i u hi => (World.cell?_of_block (hk b hb hlt)).trans (hc i u hi)⟩
theorem Rd.more (h : Rd S w A cs) (hS : ∀ j, S j → j < w.heap.size → T j) : Rd T w A cs := fun hl => by
 obtain ⟨b, off, e, hb, hlt, hc⟩ := h hl
 exact ⟨b, off, e, hS b hb hlt, hlt, hc⟩
end

def Rg (e : TypeId) (sz : Nat) (w : World) (g c : Nat) (cs : List Value) : Prop :=
 ∃ cur, w.heap[g]? = some (.cells cur e (0, 0)) ∧ cs.length ≤ c * sz ∧ c ≤ maxLen ∧ cur.size = c * sz ∧ cur.toList.take cs.length = cs
section
variable {S T : Nat → Prop} {e : TypeId} {sz : Nat} {w w' : World} {g c : Nat} {cs : List Value}
theorem Rg.lt (h : Rg e sz w g c cs) : g < w.heap.size := by obtain ⟨cur, hg, _⟩ := h; exact lt_of_block hg
theorem Rg.cap (h : Rg e sz w g c cs) : cs.length ≤ c * sz := by obtain ⟨cur, _, h1, _⟩ := h; exact h1
theorem Rg.max (h : Rg e sz w g c cs) : c ≤ maxLen := by obtain ⟨cur, _, _, h1, _⟩ := h; exact h1
theorem Rg.keep (h : Rg e sz w g c cs) (hk : w'.heap[g]? = w.heap[g]?) : Rg e sz w' g c cs := by obtain ⟨cur, hg, r⟩ := h; exact ⟨cur, hk.trans hg, r⟩
theorem Rg.below' (h : Rg e sz w g c cs) (k : Below w.heap.size w w') : Rg e sz w' g c cs := h.keep (k.block g h.lt)
theorem Rg.cell (h : Rg e sz w g c cs) {i : Nat} {u : Value} (hi : cs[i]? = some u) : w.cell? ⟨g, i, none⟩ = some u := by
 obtain ⟨cur, hg, h1, h2, h3, h4⟩ := h
 have hil : i < cs.length := by
  rcases Nat.lt_or_ge i cs.length with x | x
  ·exact x
  ·simp [List.getElem?_eq_none x] at hi
 rw [← h4, List.getElem?_take, if_pos hil, Array.getElem?_toList] at hi
 exact (cell_of_row w g _ cur e (0, 0) hg).trans hi
theorem Rg.frozen (h : Rg e sz w g c cs) (i : Nat) : w.frozen? ⟨g, i, none⟩ = false := by
 obtain ⟨cur, hg, _⟩ := h
 simp [World.frozen?, hg]
theorem Rg.rd (h : Rg e sz w g c cs) : Rd (· = g) w (some ⟨g, 0, none⟩) cs := fun _ => ⟨g, 0, rfl, rfl, h.lt, fun i u hi => by simpa using h.cell hi⟩
theorem Rg.set (h : Rg e sz w g c cs) (i : Nat) (v : Value) : Rg e sz (w.setCell ⟨g, i, none⟩ v) g c (cs.set i v) := by
 obtain ⟨cur, hg, h1, h2, h3, h4⟩ := h
 have e1 := setCell_eq_setRow w g i cur e (0, 0) v hg
 refine ⟨cur.setIfInBounds i v, by rw [e1]; exact setRow_heap w g cur _ e _ hg, by simpa using h1, h2, by simpa using h3, ?_⟩
 rw [List.length_set, Array.toList_setIfInBounds, List.take_set, h4]
theorem Rg.own (h : Rg e sz w g c cs) {n : Nat} (hn : cs.length = n * sz) (hsz : 0 < sz) : w.ownsRow 0 e sz (.slice (some ⟨g, 0, none⟩) n c) n cs := by
 obtain ⟨cur, hg, h1, h2, h3, h4⟩ := h
 exact ⟨hn, .inr ⟨g, c, cur, rfl, Nat.zero_le _, hg, Nat.le_of_mul_le_mul_right (hn ▸ h1) hsz, h2, h3, hn ▸ h4⟩⟩
theorem Rg.lit (w : World) (e : TypeId) (sz n : Nat) (ar : Array Value) (cs : List Value) (hc : ar = cs.toArray) (hl : cs.length = n * sz) (hn : n ≤ maxLen) : Rg e sz (w.alloc (.cells ar e)) w.heap.size n cs := by
 subst hc
 exact ⟨_, Go.heap_alloc_new w _, by omega, hn, by simpa using hl, by simp⟩
end

section
variable {P : Program} (w : World)
def Ow (e : TypeId) (sz : Nat) (w : World) (A : Option Addr) (g c n : Nat) (cs : List Value) : Prop :=
 cs.length = n * sz ∧ ((A = none ∧ c = 0 ∧ n = 0) ∨ (A = some ⟨g, 0, none⟩ ∧ Rg e sz w g c cs))
theorem Ow.own {e : TypeId} {sz : Nat} {A : Option Addr} {g c n : Nat} {cs : List Value} (h : Ow e sz w A g c n cs) (hsz : 0 < sz) : w.ownsRow 0 e sz (.slice A n c) n cs := by
 rcases h with ⟨h1, ⟨rfl, rfl, rfl⟩ | ⟨rfl, r⟩⟩
 ·exact ⟨h1, .inl ⟨rfl, rfl⟩⟩
 ·exact r.own h1 hsz
theorem run_appr (t ty e : TypeId) (i : TypeInfo) (z : Value) (sz by_ : Nat) (ht : P.underlying t = some (.slice e)) (hi : P.info? e = some i) (hz : i.zero = some z) (hsize : i.size = sz) (hby : i.bytes = by_) (hzs : z.cells.size = sz) (hsz : 0 < sz) (hb100 : by_ ≤ 200)
  (A : Option Addr) (g c n : Nat) (cs : List Value) (hown : Ow e sz w A g c n cs)
  (S : Nat → Prop) (A2 : Option Addr) (c2 n2 : Nat) (cs2 : List Value) (hr : Rd S w A2 cs2) (hl2 : cs2.length = n2 * sz) (h1 : ∀ u ∈ cs2, u.oneCell' = true) (hn2 : 0 < n2) (hb : n + n2 ≤ 1000000) :
  ∃ g' c' w', (Builtin.append_ #[t, t] ty #[.slice A n c, .slice A2 n2 c2]).run P w = .ok (.slice (some ⟨g', 0, none⟩) (n + n2) c') w' ∧ Rg e sz w' g' c' (cs ++ cs2) ∧ Kp (fun j => A = some ⟨j, 0, none⟩) w w' ∧ (A = some ⟨g', 0, none⟩ ∨ g' = w.heap.size) := by
 have hne : cs2 ≠ [] := by
  rintro rfl
  have := Nat.mul_pos hn2 hsz
  simp at hl2
  omega
 obtain ⟨b, off, rfl, _, _, hc⟩ := hr hne
 have hbb : (n + n2) * by_ ≤ 1000000 * 200 := Nat.mul_le_mul hb hb100
 obtain ⟨v', w', hrun, h2, h3, h4, h5⟩ := run_append_own_at (P := P) w 0 t ty e i z sz by_ ht hi hz hsize hby hzs hsz _ _ _ (hown.own w hsz) ⟨b, off, none⟩ n2 c2 cs2 hl2 (fun j u hu => by rw [addr_add]; exact hc j u hu) h1 (by unfold maxLen; omega) (by omega) (Nat.zero_le _)
 rcases h2.2 with ⟨rfl, h⟩ | ⟨g', cap, cur, rfl, _, q1, q2, q3, q4, q5⟩
 ·omega
 ·refine ⟨g', cap, w', hrun, ⟨cur, q1, by rw [h2.1]; exact Nat.mul_le_mul_right _ q2, q3, q4, by rw [h2.1]; exact q5⟩, Kp.of_grown h3 (fun j hj => ?_), ?_⟩
  ·rcases hown.2 with ⟨rfl, _⟩ | ⟨rfl, _⟩
   ·simp [Value.ownBlock] at hj
   ·simp [Value.ownBlock] at hj; simp [hj]
  ·rcases hown.2 with ⟨rfl, _⟩ | ⟨rfl, _⟩
   ·simp [Value.ownBlock] at h5; exact .inr h5
   ·simp [Value.ownBlock] at h5
    rcases h5 with h5 | h5
    ·exact .inl (by simp [h5])
    ·exact .inr h5
theorem wp_runb {o : Oper} {a : Act} {K : Act → World → Prop} {Q : Exit → Act → World → Prop} (s x : Operand) (t : TypeId)
  (ho : o.op = .call { callee := .builtin .append, args := #[s, x], argTypes := #[t, t] }) {vs vx v : Value} {w' : World} (hs : a.eval s = vs) (hx : a.eval x = vx)
  (hrun : (Builtin.append_ #[t, t] o.type #[vs, vx]).run P w = .ok v w') (h : K (a.put o.dst v) w') : o.wp P a w K Q := by
 unfold Oper.wp execOp
 simp only [ho, resolve, invoke, builtin, Sem.run_bind, Sem.run_pure, Result.andThen_ok, List.map_toArray, List.map_cons, List.map_nil, hs, hx, hrun]
 exact h
theorem wpList_runb {ops : Array Oper} {rest : List Oper} {o : Oper} {a : Act} {Q : Exit → Act → World → Prop} (hgd : o.guard = none) (s x : Operand) (t : TypeId)
  (ho : o.op = .call { callee := .builtin .append, args := #[s, x], argTypes := #[t, t] }) {vs vx v : Value} {w' : World} (hs : a.eval s = vs) (hx : a.eval x = vx)
  (hrun : (Builtin.append_ #[t, t] o.type #[vs, vx]).run P w = .ok v w') (h : wpList P ops Q rest (a.put o.dst v) w') : wpList P ops Q (o :: rest) a w :=
 wpList_plain hgd fun _ hK => wp_runb w s x t ho hs hx hrun (hK _ _ h)
theorem step_runb {ops : Array Oper} {o : Oper} {a : Act} {K : Act → World → Prop} {Q : Exit → Act → World → Prop} {E : Prop} (hgd : o.guard = none) (s x : Operand) (t : TypeId)
  (ho : o.op = .call { callee := .builtin .append, args := #[s, x], argTypes := #[t, t] }) {vs vx v : Value} {w' : World} (hs : a.eval s = vs) (hx : a.eval x = vx)
  (hrun : (Builtin.append_ #[t, t] o.type #[vs, vx]).run P w = .ok v w') (h : K (a.put o.dst v) w') :
  if Region.wanted o (yielded ops a.tmps) = true then Oper.wp P o a w K Q else E := by
 rw [if_pos (by simp [Region.wanted, hgd])]
 exact wp_runb w s x t ho hs hx hrun h
end


/-! ### Rows of equal pieces -/
theorem fm_len {α : Type} {f : α → List Value} {sz : Nat} (hf : ∀ x, (f x).length = sz) (l : List α) : (l.flatMap f).length = l.length * sz := by
 induction l with
 | nil => simp
 | cons x l ih => simp [ih, hf, Nat.add_mul]; omega
theorem fm_get {α : Type} {f : α → List Value} {sz : Nat} (hf : ∀ x, (f x).length = sz) {l : List α} {i j : Nat} (hi : i < l.length) (hj : j < sz) : (l.flatMap f)[i * sz + j]? = (f l[i])[j]? := by
 induction l generalizing i with
 | nil => simp at hi
 | cons x l ih =>
  cases i with
  | zero => simp [List.flatMap_cons, List.getElem?_append_left (show j < (f x).length by rw [hf]; exact hj)]
  | succ i =>
   have := ih (i := i) (by simpa using hi)
   rw [List.flatMap_cons, List.getElem?_append_right (by rw [hf, Nat.add_mul]; omega), hf]
   rw [show (i + 1) * sz + j - sz = i * sz + j by rw [Nat.add_mul]; omega]
   simpa using this
theorem fm_at {α : Type} {f : α → List Value} {sz : Nat} (hf : ∀ x, (f x).length = sz) (hsz : 0 < sz) {w : World} {A : Option Addr} {l : List α} (h : Rd (fun _ => True) w A (l.flatMap f)) {i : Nat} (hi : i < l.length) :
  ∃ b off, A = some ⟨b, off, none⟩ ∧ b < w.heap.size ∧ ∀ j u, (f l[i])[j]? = some u → w.cell? ⟨b, off + i * sz + j, none⟩ = some u := by
 have hne : l.flatMap f ≠ [] := by
  intro e
  have h1 := fm_len hf l
  rw [e] at h1
  have := Nat.mul_pos (show 0 < l.length by omega) hsz
  simp only [List.length_nil] at h1
  omega
 obtain ⟨b, off, rfl, _, hlt, hc⟩ := h hne
 refine ⟨b, off, rfl, hlt, fun j u hu => ?_⟩
 have hj : j < sz := by
  have := (List.getElem?_eq_some_iff.1 hu).1
  rwa [hf] at this
 have := hc _ _ ((fm_get hf hi hj).trans hu)
 rwa [← Nat.add_assoc] at this
theorem info_of {e : TypeId} {z : Value} {s b : Nat} (h : (Tryz.prog.info? e).map (fun i => (i.zero, i.size, i.bytes)) = some (some z, s, b)) : ∃ i, Tryz.prog.info? e = some i ∧ i.zero = some z ∧ i.size = s ∧ i.bytes = b := by
 cases hq : Tryz.prog.info? e with
 | none => rw [hq] at h; cases h
 | some i =>
  rw [hq] at h
  simp only [Option.map_some, Option.some.injEq, Prod.mk.injEq] at h
  exact ⟨i, rfl, h.1, h.2.1, h.2.2⟩

def Ob (e : TypeId) (sz : Nat) (S : Nat → Prop) (w : World) (A : Option Addr) (c : Nat) (cs : List Value) : Prop := (A = none ∧ c = 0 ∧ cs = []) ∨ ∃ g, S g ∧ A = some ⟨g, 0, none⟩ ∧ Rg e sz w g c cs
section
variable {S T : Nat → Prop} {w w' : World} {A : Option Addr} {c : Nat} {cs : List Value} {e : TypeId} {sz : Nat}
theorem Ob.keep (h : Ob e sz S w A c cs) (hk : ∀ j, S j → j < w.heap.size → w'.heap[j]? = w.heap[j]?) : Ob e sz S w' A c cs := by
 rcases h with h | ⟨g, h1, h2, h3⟩
 ·exact .inl h
 ·exact .inr ⟨g, h1, h2, h3.keep (hk g h1 h3.lt)⟩
theorem Ob.below (h : Ob e sz S w A c cs) (hb : Below w.heap.size w w') : Ob e sz S w' A c cs := h.keep fun j _ hj => hb.block j hj
theorem Ob.more (h : Ob e sz S w A c cs) (hS : ∀ j, S j → j < w.heap.size → T j) : Ob e sz T w A c cs := by
 rcases h with h | ⟨g, h1, h2, h3⟩
 ·exact .inl h
 ·exact .inr ⟨g, hS g h1 h3.lt, h2, h3⟩
theorem Ob.rd (h : Ob e sz S w A c cs) : Rd (fun _ => True) w A cs := by
 rcases h with ⟨_, _, rfl⟩ | ⟨g, h1, rfl, h3⟩
 ·exact Rd.nil _
 ·exact h3.rd.more fun j hj _ => trivial
theorem Ob.ow (h : Ob e sz S w A c cs) {n : Nat} (hn : cs.length = n * sz) (hsz : 0 < sz) : ∃ g, Ow e sz w A g c n cs ∧ ∀ j, A = some ⟨j, 0, none⟩ → S j := by
 rcases h with ⟨rfl, rfl, rfl⟩ | ⟨g, h1, rfl, h3⟩
 ·have : n = 0 := by
   rcases Nat.eq_zero_or_pos n with q | q
   ·exact q
   ·have := Nat.mul_pos q hsz
    simp at hn
    omega
  exact ⟨0, ⟨hn, .inl ⟨rfl, rfl, this⟩⟩, fun j hj => by cases hj⟩
 ·exact ⟨g, ⟨hn, .inr ⟨rfl, h3⟩⟩, fun j hj => by injection hj with hj; injection hj with hj; exact hj ▸ h1⟩
end
theorem app_gen {P : Program} {S T : Nat → Prop} {w : World} {A : Option Addr} {c n : Nat} {cs : List Value} {e t : TypeId} {sz by_ : Nat} {z : Value} {i : TypeInfo} (ht : P.underlying t = some (.slice e)) (hi : P.info? e = some i) (hz : i.zero = some z) (hsize : i.size = sz) (hby : i.bytes = by_) (hzs : z.cells.size = sz) (hsz : 0 < sz) (hb100 : by_ ≤ 200)
  (h : Ob e sz S w A c cs) (hn : cs.length = n * sz) (A2 : Option Addr) (c2 n2 : Nat) (cs2 : List Value) (hr : Rd T w A2 cs2) (hl2 : cs2.length = n2 * sz) (h1 : ∀ u ∈ cs2, u.oneCell' = true) (hn2 : 0 < n2) (hb : n + n2 ≤ 1000000) :
  ∃ g' c' w', (Builtin.append_ #[t, t] t #[.slice A n c, .slice A2 n2 c2]).run P w = .ok (.slice (some ⟨g', 0, none⟩) (n + n2) c') w' ∧ Rg e sz w' g' c' (cs ++ cs2) ∧ Kp S w w' ∧ (S g' ∨ g' = w.heap.size) := by
 obtain ⟨g, ow, hS⟩ := h.ow hn hsz
 obtain ⟨g', c', w', r1, r2, r3, r4⟩ := run_appr (P := P) w t t e i z sz by_ ht hi hz hsize hby hzs hsz hb100 A g c n cs ow T A2 c2 n2 cs2 hr hl2 h1 hn2 hb
 refine ⟨g', c', w', r1, r2, r3.mono hS, ?_⟩
 rcases r4 with q | q
 ·exact .inl (hS _ q)
 ·exact .inr q
theorem app_one {P : Program} {S : Nat → Prop} {w : World} {A : Option Addr} {c n : Nat} {cs : List Value} {e t : TypeId} {sz by_ : Nat} {z : Value} {i : TypeInfo} (ht : P.underlying t = some (.slice e)) (hi : P.info? e = some i) (hz : i.zero = some z) (hsize : i.size = sz) (hby : i.bytes = by_) (hzs : z.cells.size = sz) (hsz : 0 < sz) (hb100 : by_ ≤ 200)
  (h : Ob e sz S w A c cs) (hn : cs.length = n * sz) (xs : List Value) (hl2 : xs.length = sz) (h1 : ∀ u ∈ xs, u.oneCell' = true) (hb : n ≤ 100000) (n0 : Nat) (hn0 : w.heap.size = n0) :
  ∃ g' c' w', (Builtin.append_ #[t, t] t #[.slice A n c, .slice (some ⟨n0, 0, none⟩) 1 1]).run P (w.alloc (.cells xs.toArray e)) = .ok (.slice (some ⟨g', 0, none⟩) (n + 1) c') w' ∧ Rg e sz w' g' c' (cs ++ xs) ∧ Kp S w w' ∧ (S g' ∨ n0 < g') := by
 subst hn0
 obtain ⟨W5, hW5⟩ : ∃ W5, w.alloc (.cells xs.toArray e) = W5 := ⟨_, rfl⟩
 have hs5 : W5.heap.size = w.heap.size + 1 := by rw [← hW5]; simp
 have b5 : Below w.heap.size w W5 := by rw [← hW5]; exact below_alloc1 _ _
 have src : Rd (· = w.heap.size) W5 (some ⟨w.heap.size, 0, none⟩) xs := by
  rw [← hW5]
  exact (Rg.lit w e sz 1 _ xs rfl (by omega) (by unfold maxLen; omega)).rd
 obtain ⟨g', c', w', r1, r2, r3, r4⟩ := app_gen (P := P) ht hi hz hsize hby hzs hsz hb100 (h.below b5) hn _ 1 1 xs src (by omega) h1 (by omega) (by omega)
 rw [hW5]
 refine ⟨g', c', w', r1, r2, (Kp.of_below (S := S) b5 (Nat.le_refl _)).trans r3 fun _ h => .inl h, ?_⟩
 rcases r4 with q | q
 ·exact .inl q
 ·exact .inr (by omega)
end Go.Proofs.YtadcicmccdphkaaGreat
namespace Go.Proofs.YtadcicmccdphkaaGreat
open Go.RowKit

theorem info5 : (Tryz.prog.info? 5).map (fun i => (i.zero, i.size, i.bytes)) = some (some (.int .u8 0), 1, 1) := by kernel_rfl
theorem info23 : (Tryz.prog.info? 23).map (fun i => (i.zero, i.size, i.bytes)) = some (some (.int .u32 0), 1, 4) := by kernel_rfl

theorem isWidth_yes (m : Int) (w : World) (h1 : 1 ≤ m) (h2 : m ≤ 4) : Calls Tryz.prog 120 #[.int .i64 m] w fun e w' => e = .returned (.bool true) ∧ w = w' := by
 go_enter Tryz.func120, Tryz.ntmps120
 go_wp2
 go_ret
 exact ⟨rfl, rfl⟩
theorem isWidth_no (m : Int) (w : World) (h : m < 1 ∨ 4 < m) : Calls Tryz.prog 120 #[.int .i64 m] w fun e w' => e = .returned (.bool false) ∧ w = w' := by
 rcases h with h | h
 ·go_enter Tryz.func120, Tryz.ntmps120
  go_wp2
  go_ret
  exact ⟨rfl, rfl⟩
 ·have h1 : 1 ≤ m := by omega
  have h2 : decide (m ≤ 4) = false := by simp; omega
  go_enter Tryz.func120, Tryz.ntmps120
  go_wp2
  go_ret
  exact ⟨rfl, rfl⟩

theorem pow8 (m : Int) : (2 : Int) ^ (8 * m).toNat = 256 ^ m.toNat := by
 rw [show (8 * m).toNat = 8 * m.toNat by omega, Int.pow_mul]; rfl
theorem pow_pos' (k : Nat) : (0 : Int) < 256 ^ k := Int.pow_pos (by decide)
theorem fits_yes (n m : Int) (w : World) (h1 : 1 ≤ m) (h2 : m ≤ 4) (h3 : 0 ≤ n) (__h4 : n < 4294967296) (h5 : n < 256 ^ m.toNat) : Calls Tryz.prog 141 #[.int .u32 n, .int .i64 m] w fun e w' => e = .returned (.bool true) ∧ w = w' := by
 have hd : (n / 2 ^ (8 * m).toNat == 0) = true := by rw [pow8]; simp; exact Int.ediv_eq_zero_of_lt h3 h5
 clear h5
 go_enter Tryz.func141, Tryz.ntmps141
 go_wp2
 go_ret
 exact ⟨rfl, rfl⟩
theorem fits_no (n m : Int) (w : World) (h1 : 1 ≤ m) (h2 : m ≤ 4) (_h3 : 0 ≤ n) (_h4 : n < 4294967296) (h5 : 256 ^ m.toNat ≤ n) : Calls Tryz.prog 141 #[.int .u32 n, .int .i64 m] w fun e w' => e = .returned (.bool false) ∧ w = w' := by
 have hd : (n / 2 ^ (8 * m).toNat == 0) = false := by
  rw [pow8]; simp
  have := Int.le_ediv_of_mul_le (c := 256 ^ m.toNat) (a := 1) (b := n) (pow_pos' _) (by omega)
  omega
 clear h5
 go_enter Tryz.func141, Tryz.ntmps141
 go_wp2
 go_ret
 exact ⟨rfl, rfl⟩

theorem ofInt_u32 (a : Nat) (ha : a < 4294967296) : (BitVec.ofInt 32 (a : Int)).toNat = a := by
 rw [BitVec.ofInt_natCast, BitVec.toNat_ofNat]; exact Nat.mod_eq_of_lt (by omega)
theorem or_byte (a x : Int) (ha : 0 ≤ a) (ha2 : a < 16777216) (hx : 0 ≤ x) (hx2 : x < 256) : bits .or .u32 (a * 256 % 4294967296) (x % 4294967296) = a * 256 + x := by
 obtain ⟨m, rfl⟩ := Int.eq_ofNat_of_zero_le ha
 obtain ⟨y, rfl⟩ := Int.eq_ofNat_of_zero_le hx
 rw [show (m : Int) * 256 % 4294967296 = ((m * 256 : Nat) : Int) by omega, show (y : Int) % 4294967296 = (y : Int) by omega]
 show IntKind.u32.wrap ((BitVec.ofInt 32 ((m * 256 : Nat) : Int) ||| BitVec.ofInt 32 (y : Int)).toNat : Int) = _
 rw [BitVec.toNat_or, ofInt_u32 _ (by omega), ofInt_u32 _ (by omega)]
 have h := Nat.shiftLeft_add_eq_or_of_lt (i := 8) (b := y) (by omega) m
 rw [Nat.shiftLeft_eq] at h
 rw [show m * 256 = m * 2 ^ 8 by rfl, ← h]
 simp [IntKind.wrap, IntKind.bits, IntKind.signed]
 omega
theorem num_take (l : List Int) (hy : Byt l) (j : Nat) (hj : j < l.length) (hl : l.length ≤ 4) : 0 ≤ num (l.take j) ∧ num (l.take j) < 16777216 := by
 have h := num_bd (l.take j) (hy.take j)
 have hj' : (l.take j).length = j := by simp; omega
 rw [hj'] at h
 have : (256 : Int) ^ j ≤ 16777216 := by
  have : j = 0 ∨ j = 1 ∨ j = 2 ∨ j = 3 := by omega
  rcases this with rfl | rfl | rfl | rfl <;> decide
 omega
theorem num_step (l : List Int) (hy : Byt l) (j : Nat) (hj : j < l.length) (hl : l.length ≤ 4) : bits .or .u32 (num (l.take j) * 256 % 4294967296) (l[j] % 4294967296) = num (l.take (j + 1)) := by
 have hb := num_take l hy j hj hl
 have hx := hy l[j] (List.getElem_mem hj)
 rw [or_byte _ _ hb.1 hb.2 hx.1 hx.2, List.take_succ_eq_append_getElem hj, num_snoc]

theorem val_int {k : IntKind} {a b : Int} (h : a = b) : Value.int k a = .int k b := by rw [h]
theorem ret_int {k : IntKind} {a b : Int} (h : a = b) : Ending.returned (.int k a) = .returned (.int k b) := by rw [h]

theorem num_any (A : Option Addr) (c : Nat) (l : List Int) (B : Nat) (w : World) (hb : Bs .u8 w B A l) (hl : l.length ≤ 4) (hy : Byt l) :
  Calls Tryz.prog 121 #[.slice A l.length c] w fun e w' => e = .returned (.int .u32 (num l)) ∧ w = w' := by
 go_enter Tryz.func121, Tryz.ntmps121
 go_wp2
 go_loop [3, 8, 5] (fun n i _ => ∃ j : Nat, j ≤ l.length ∧ i = .int .i64 j ∧ n = .int .u32 (num (l.take j))) (fun _ i _ => l.length - (intOf i).toNat)
 case atStart => exact ⟨0, Nat.zero_le _, rfl, rfl⟩
 case round =>
  obtain ⟨j, hj, rfl, rfl⟩ := hrel
  by_cases hlt : j < l.length
  ·obtain ⟨b, off, rfl, _, hc⟩ := hb.at_ hlt
   go_wp2
   go_round
   case rel => exact ⟨j + 1, by omega, by go_num, val_int (num_step l hy j hlt hl)⟩
   case measure => simp [intOf]; omega
  ·go_wp2
   go_ret
   exact ⟨ret_int (by rw [List.take_of_length_le (by omega)]), rfl⟩

theorem be_step (n : Int) (m j : Nat) (hj : j < m) : be (n / 256 ^ (j + 1)) (m - (j + 1)) ++ [n / 256 ^ j % 256] = be (n / 256 ^ j) (m - j) := by
 rw [show m - j = (m - (j + 1)) + 1 by omega, be, Int.pow_succ, Int.ediv_ediv_of_nonneg (by exact Int.le_of_lt (pow_pos' j))]

theorem app_any (A : Option Addr) (c : Nat) (l : List Int) (base : Nat) (n m : Int) (w : World) (ho : Own .u8 5 w base A c l) (h1 : 1 ≤ m) (h2 : m ≤ 4) (_h3 : 0 ≤ n) (_h4 : n < 4294967296) (hB : base ≤ w.heap.size) (hl : l.length ≤ 1000000) :
  Calls Tryz.prog 142 #[.slice A l.length c, .int .u32 n, .int .i64 m] w fun e w' => ∃ A' c' L, Hid (L = l ++ be n m.toNat) ∧ e = .returned (.slice A' L.length c') ∧ Own .u8 5 w' base A' c' L ∧ Below base w w' := by
 obtain ⟨i0, hi, hz0, hz1, hz2⟩ := info_parts info5
 go_enter Tryz.func142, Tryz.ntmps142
 go_wp2
 go_loopw [0, 7] (fun v i wr => ∃ (j : Nat) (A' : Option Addr) (c' : Nat) (l' : List Int), j ≤ m.toNat ∧ i = .int .i64 ((j : Int) - 1) ∧ v = .slice A' l'.length c' ∧ Hid (l' = l ++ be (n / 256 ^ j) (m.toNat - j)) ∧ Own .u8 5 wr base A' c' l' ∧ Below base w wr) (fun _ i _ => (intOf i + 1).toNat)
 case atStart => exact ⟨m.toNat, A, c, l, by omega, by rw [Int.toNat_of_nonneg (by omega)], rfl, (by show _ = _; simp [be]), ho, Below.refl _ _⟩
 case round =>
  obtain ⟨j, A', c', l', hj, rfl, rfl, hl', ho', hbw⟩ := hrel
  cases j with
  | zero =>
   have hE : Hid (l' = l ++ be n m.toNat) := by show _ = _; rw [hl'.out]; simp
   go_wp2
   go_ret
   exact ⟨A', c', l', hE, rfl, ho', hbw⟩
  | succ j =>
   rw [show (((j + 1 : Nat) : Int) - 1) = (j : Int) from by omega]
   have hlen : l'.length ≤ 1000004 := by rw [hl'.out]; simp [be_length]; omega
   have hsz := hbw.size
   go_wp2_with (at_builtin; refine wpList_app _ rfl (.tmp 14) (.tmp 20) 38 rfl base 5 .u8 i0 _ 1 Tryz.underlying38 hi hz0 hz1 hz2 rfl A' c' l' rfl (ho'.alloc _) _ _ 1 [_] rfl (Bs.one _ _ _ _) (by simp [maxLen]; omega) (by simp; omega) (by simp; omega) ?_; intro l3 A3 c3 w3 hl3 ho3 hb3)
   go_roundw
   case rel => exact ⟨j, A3, c3, l3, by omega, by go_num, rfl, (by show _ = _; rw [hl3.out, hl'.out, List.append_assoc, show (2 : Int) ^ (8 * j) = 256 ^ j by rw [Int.pow_mul]; rfl, be_step _ _ _ (by omega)]), ho3, (hbw.alloc (by omega) _).trans hb3⟩
   case measure => simp [intOf]
theorem fresh_any (A : Option Addr) (c : Nat) (l : List Int) (B : Nat) (w : World) (hb : Bs .u8 w B A l) (hB : B ≤ w.heap.size) (hl : l.length ≤ 1000000) :
  Calls Tryz.prog 122 #[.slice A l.length c] w fun e w' => e = .returned (.slice (some ⟨w.heap.size, 0, none⟩) l.length l.length) ∧ Own .u8 5 w' w.heap.size (some ⟨w.heap.size, 0, none⟩) l.length l ∧ Below w.heap.size w w' := by
 obtain ⟨i0, hi, hz0, hz1, hz2⟩ := info_parts info5
 obtain ⟨z, w1, hz, hmk, hO, hB1⟩ := mk_own (P := Tryz.prog) w 38 5 .u8 i0 Tryz.underlying38 hi hz0 hz1 .i64 .i64 l.length l.length l.length l.length rfl rfl (Nat.le_refl _) (by rw [hz2]; omega) (by unfold maxLen; omega)
 have hb1 := hb.below (hB1.mono hB)
 have HR := Lib.hid hz
 clear hz
 go_enter Tryz.func122, Tryz.ntmps122
 go_wp2_with (with_reducible refine wpList_cp (o := ⟨some 9, _, _, _, _, _⟩) _ rfl (.tmp 7) (.tmp 8) 38 38 rfl w.heap.size 5 .u8 Tryz.underlying38 (by kernel_rfl) _ l.length z rfl hO B A c l rfl hb1 (by rw [HR.out]; exact Nat.le_refl _) ?_; intro w2 hO2 hB2)
 go_ret
 rw [List.drop_eq_nil_of_le (by rw [HR.out]; exact Nat.le_refl _), List.append_nil] at hO2
 refine ⟨?_, hO2, hB1.trans hB2⟩
 show Ending.returned (.slice _ z.length _) = _
 rw [HR.out]

/-! ### Put -/
def putE (n m : Int) : Int := if m < 1 ∨ 4 < m then 1 else if 256 ^ m.toNat ≤ n then 5 else 0
def putL (l : List Int) (n m : Int) : List Int := if putE n m = 0 then l ++ be n m.toNat else []
theorem put_any (A : Option Addr) (c : Nat) (l : List Int) (B : Nat) (n m : Int) (w : World) (hb : Bs .u8 w B A l) (hB : B ≤ w.heap.size) (hl : l.length ≤ 100000) (h3 : 0 ≤ n) (h4 : n < 4294967296) :
  Calls Tryz.prog 136 #[.slice A l.length c, .int .u32 n, .int .i64 m] w fun e w' => ∃ A' c', e = .returned (.tuple #[.slice A' (putL l n m).length c', .int .i64 (putE n m)]) ∧ Own .u8 5 w' w.heap.size A' c' (putL l n m) ∧ Below w.heap.size w w' := by
 by_cases hm : m < 1 ∨ 4 < m
 ·have e1 : putE n m = 1 := by simp [putE, hm]
  have e2 : putL l n m = [] := by simp [putL, e1]
  rw [e1, e2]
  have HM := Lib.hid hm
  clear hm e1 e2
  go_enter Tryz.func136, Tryz.ntmps136
  go_wp2_with (go_at_call 120; refine (isWidth_no _ _ HM.out).mono ?_; rintro e w' ⟨rfl, rfl⟩)
  go_ret2
  exact ⟨none, 0, rfl, Own.nil _ _, Below.refl _ _⟩
 ·have h1 : 1 ≤ m := by omega
  have h2 : m ≤ 4 := by omega
  by_cases hf : 256 ^ m.toNat ≤ n
  ·have e1 : putE n m = 5 := by simp [putE, hm, hf]
   have e2 : putL l n m = [] := by simp [putL, e1]
   rw [e1, e2]
   have HF := Lib.hid hf
   clear hm e1 e2 hf
   go_enter Tryz.func136, Tryz.ntmps136
   go_wp2_with (first | (go_at_call 120; refine (isWidth_yes _ _ h1 h2).mono ?_; rintro e w' ⟨rfl, rfl⟩) | (go_at_call 141; refine (fits_no _ _ _ h1 h2 h3 h4 HF.out).mono ?_; rintro e w' ⟨rfl, rfl⟩))
   go_ret2
   exact ⟨none, 0, rfl, Own.nil _ _, Below.refl _ _⟩
  ·have e1 : putE n m = 0 := by simp [putE, hm, hf]
   have e2 : putL l n m = l ++ be n m.toNat := by simp [putL, e1]
   rw [e1, e2]
   have hf' : n < 256 ^ m.toNat := by omega
   have HF := Lib.hid hf'
   clear hm e1 e2 hf hf'
   obtain ⟨i0, hi, hz0, hz1, hz2⟩ := info_parts info5
   obtain ⟨z, w1, hz, hmk, hO, hB1⟩ := mk_own (P := Tryz.prog) w 38 5 .u8 i0 Tryz.underlying38 hi hz0 hz1 .i64 .i64 l.length (l.length + m) l.length (l.length + m.toNat) rfl (by omega) (by omega) (by rw [hz2]; omega) (by unfold maxLen; omega)
   have hb1 := hb.below (hB1.mono hB)
   have HR := Lib.hid hz
   clear hz
   go_enter Tryz.func136, Tryz.ntmps136
   go_wp2_with (first | (go_at_call 120; refine (isWidth_yes _ _ h1 h2).mono ?_; rintro e w' ⟨rfl, rfl⟩) | (go_at_call 141; refine (fits_yes _ _ _ h1 h2 h3 h4 HF.out).mono ?_; rintro e w' ⟨rfl, rfl⟩) | (with_reducible refine wpList_cp (o := ⟨some 25, _, _, _, _, _⟩) _ rfl (.tmp 23) (.tmp 24) 38 38 rfl w.heap.size 5 .u8 Tryz.underlying38 (by kernel_rfl) _ (l.length + m.toNat) z rfl hO B A c l rfl hb1 (by rw [HR.out]; exact Nat.le_refl _) ?_; intro w2 hO2 hB2))
   rw [List.drop_eq_nil_of_le (by rw [HR.out]; exact Nat.le_refl _), List.append_nil] at hO2
   rw [HR.out]
   have hs1 := hB1.size
   have hs2 := hB2.size
   refine (app_any _ _ l w.heap.size n m w2 hO2 h1 h2 h3 h4 (by omega) (by omega)).mono ?_
   rintro e w3 ⟨A', c', L, hL, rfl, hO3, hB3⟩
   go_wp2
   go_ret2
   rw [← hL.out]
   exact ⟨A', c', rfl, hO3, (hB1.trans hB2).trans hB3⟩
end Go.Proofs.YtadcicmccdphkaaGreat
namespace Go.Proofs.YtadcicmccdphkaaGreat
open Go.RowKit Go.Joins

theorem alloc_at (w : World) (o : Obj) (n : Nat) (h : n = w.heap.size) : (w.alloc o).heap[n]? = some o := by
 subst h
 show (w.heap.push o)[w.heap.size]? = some o
 simp
abbrev Bt (w : World) (A : Option Addr) (l : List Int) : Prop := Bs .u8 w w.heap.size A l
theorem Bs.step {k : IntKind} {w w' : World} {A : Option Addr} {l : List Int} (h : Bs k w w.heap.size A l) (hb : Below w.heap.size w w') : Bs k w' w'.heap.size A l := (h.below hb).more hb.size
structure Pc where
 a : Option Addr
 c : Nat
 l : List Int
abbrev pv (p : Pc) : Value := .slice p.a p.l.length p.c
def gp (ps : List Pc) (k : Nat) : Pc := ps.getD k ⟨none, 0, []⟩
theorem gp_eq {ps : List Pc} {k : Nat} (h : k < ps.length) : gp ps k = ps[k] := by simp [gp, List.getD, h]
def cat : List Pc → List Int
 | [] => []
 | p :: ps => p.l ++ cat ps
theorem cat_append (a b : List Pc) : cat (a ++ b) = cat a ++ cat b := by
 induction a with
 | nil => rfl
 | cons p a ih => simp [cat, ih]
theorem cat_take {ps : List Pc} {k : Nat} (h : k < ps.length) : cat (ps.take (k + 1)) = cat (ps.take k) ++ (gp ps k).l := by
 rw [List.take_succ_eq_append_getElem h, cat_append, gp_eq h]
 simp [cat]
theorem cat_le (ps : List Pc) (k : Nat) : (cat (ps.take k)).length ≤ (cat ps).length := by
 have := cat_append (ps.take k) (ps.drop k)
 rw [List.take_append_drop] at this
 rw [this, List.length_append]
 omega
def Ps (w : World) (A : Option Addr) (ps : List Pc) : Prop := ps ≠ [] → ∃ b off, A = some ⟨b, off, none⟩ ∧ b < w.heap.size ∧ ∀ i, i < ps.length → w.cell? ⟨b, off + i, none⟩ = some (pv (gp ps i))
theorem Ps.step {w w' : World} {A : Option Addr} {ps : List Pc} (h : Ps w A ps) (hb : Below w.heap.size w w') : Ps w' A ps := fun hn => by
 obtain ⟨b, off, e, hlt, hc⟩ := h hn
 exact ⟨b, off, e, Nat.lt_of_lt_of_le hlt hb.size, fun i hi => (hb.cell (p := ⟨b, off + i, none⟩) hlt).trans (hc i hi)⟩
theorem Ps.at {w : World} {A : Option Addr} {ps : List Pc} (h : Ps w A ps) {k : Nat} (hk : k < ps.length) : ∃ b off, A = some ⟨b, off, none⟩ ∧ b < w.heap.size ∧ w.cell? ⟨b, off + k, none⟩ = some (pv (gp ps k)) := by
 obtain ⟨b, off, e, hlt, hc⟩ := h (by rintro rfl; simp at hk)
 exact ⟨b, off, e, hlt, hc k hk⟩
theorem Ps.lit (w : World) (e : TypeId) (ps : List Pc) : Ps (w.alloc (.cells (ps.map pv).toArray e)) (some ⟨w.heap.size, 0, none⟩) ps := fun _ => by
 refine ⟨w.heap.size, 0, rfl, by simp, fun i hi => ?_⟩
 rw [cell_of_block (alloc_at w _ _ rfl), gp_eq hi]
 simp [hi]
theorem zc_size (k : Nat) : (Builtin.zeroCells (Value.int .u8 0).cells k).size = k := by
 simp [Builtin.zeroCells, Value.cells]
set_option maxRecDepth 100000 in
theorem grow_any (n : Nat) (w : World) (hn : n ≤ 1000000) :
  Calls Tryz.prog 118 #[.slice none 0 0, .int .i64 (n : Int)] w fun e w' => ∃ A' c', e = .returned (.slice A' 0 c') ∧ Own .u8 5 w' w.heap.size A' c' [] ∧ Below w.heap.size w w' := by
 have h1 : ¬ ((n : Int) < 0) := by omega
 have h2 : wrap64 (n : Int) = (n : Int) := by unfold wrap64; omega
 by_cases h0 : n = 0
 ·subst h0
  go_enter Tryz.func118, Tryz.ntmps118
  go_wp2
  go_ret
  exact ⟨none, 0, rfl, Own.nil _ _, Below.refl _ _⟩
 ·obtain ⟨i, hi, hz, hsz, hby⟩ := info_of info5
  have h4 : (n : Int) > 0 := by omega
  have hold : (Builtin.firstCells 1 0 (.slice none 0 0)).run Tryz.prog w.drew = .ok (([] : List Value).toArray) w.drew := run_firstCells_none w.drew 1 0 0 0
  obtain ⟨G, hG⟩ : ∃ G, G = grownCap w n 0 5 := ⟨_, rfl⟩
  have hGn : n ≤ G := hG ▸ grownCap_ge w _ _ _
  have hGm : G ≤ maxLen := hG ▸ grownCap_le_maxLen w _ _ _ (by unfold maxLen; omega)
  obtain ⟨Z, hZ⟩ : ∃ Z, Z = ([] : List Value).toArray ++ Builtin.zeroCells (Value.int .u8 0).cells n ++ Builtin.zeroCells (Value.int .u8 0).cells (G - n) := ⟨_, rfl⟩
  have hrun : ∀ ty, (Builtin.append_ #[38, 3] ty #[.slice none 0 0, .int .i64 (n : Int)]).run Tryz.prog w = .ok (.slice (some ⟨w.heap.size, 0, none⟩) n G) (w.drew.alloc (.cells Z 5)) := fun ty => by
   have hx := Lib.run_append_grow_zeros w 38 3 ty 5 i _ .i64 .i64 Tryz.underlying38 Tryz.underlying3 hi hz none 0 0 [] (by rw [hsz]; exact hold) n (by omega) (by omega) (by omega) (by omega) (by rw [hby]; omega)
    (by rw [hby, Nat.zero_add]; exact growslice_fits (by omega) (by omega))
   rw [Nat.zero_add, ← hG, ← hZ] at hx
   exact hx
  have hRw : Hid (Own .u8 5 (w.drew.alloc (.cells Z 5)) w.heap.size (some ⟨w.heap.size, 0, none⟩) G []) := by
   refine Lib.hid (Own.of_form (g := w.heap.size) (cur := Z) (Nat.le_refl _) (Go.heap_alloc_new w.drew _) (by simp) hGm ?_ (by simp))
   rw [hZ]; simp only [Array.size_append, zc_size]; simp; omega
  have hG63 : (G : Int) ≤ 9223372036854775807 := by unfold maxLen at hGm; omega
  clear hold hG hZ hi hz hsz hby hGm
  go_enter Tryz.func118, Tryz.ntmps118
  go_wp2_with (at_builtin; refine Lib.wpList_append_run _ rfl _ _ _ _ rfl _ _ rfl rfl _ _ (hrun _) ?_)
  all_goals go_ret
  all_goals exact ⟨_, G, rfl, hRw.out, (Below.refl _ w).drew.alloc (Nat.le_refl _) _⟩
set_option maxRecDepth 100000 in
theorem concat_any (P0 : Option Addr) (pc : Nat) (ps : List Pc) (w : World) (hP : Ps w P0 ps) (hr : ∀ p ∈ ps, Bt w p.a p.l) (hpl : ps.length ≤ 100) (hll : (cat ps).length ≤ 10000) :
  Calls Tryz.prog 93 #[.slice P0 ps.length pc] w fun e w' => ∃ A' c', e = .returned (.slice A' (cat ps).length c') ∧ Own .u8 5 w' w.heap.size A' c' (cat ps) ∧ Below w.heap.size w w' := by
 have HP := Lib.hid hP
 have HR := Lib.hid hr
 obtain ⟨ln, hln⟩ : ∃ ln, ps.length = ln := ⟨_, rfl⟩
 have HLN := Lib.hid hln
 rw [hln] at hpl ⊢
 have HLL := Lib.hid hll
 clear hP hr hln hll
 go_enter Tryz.func93, Tryz.ntmps93
 go_wp2_with fail
 go_loopg [3, 11] ln (fun gf v3 v11 wx => ∃ (k m : Nat), v3 = .int .i64 (m : Int) ∧ v11 = .int .i64 (k : Int) ∧ Hid (gf + k = ln) ∧ Hid (m = (cat (ps.take k)).length) ∧ wx = w)
 case atStart => exact ⟨0, 0, rfl, rfl, Lib.hid (by omega), Lib.hid (by simp [cat]), rfl⟩
 case round =>
  obtain ⟨k, m, rfl, rfl, hk, hm, hwx⟩ := hrel
  replace hwx := hwx.symm
  subst hwx
  have hk' := hk.out
  have hm2 : m ≤ 10000 := by have := hm.out; have := cat_le ps k; have := HLL.out; omega
  cases gk with
  | succ gf =>
   have hkl : k < ps.length := by rw [HLN.out]; omega
   have lt0 : (k : Int) < (ln : Int) := by omega
   have hw1 : (k : Int) + 1 ≤ 10000 := by omega
   obtain ⟨b, off, hA, _, e0⟩ := HP.out.at hkl
   obtain ⟨x, hx⟩ : ∃ x, gp ps k = x := ⟨_, rfl⟩
   have hn : m + x.l.length = (cat (ps.take (k + 1))).length := by rw [cat_take hkl, List.length_append, ← hm.out, hx]
   have hn2 : m + x.l.length ≤ 10000 := by rw [hn]; have := cat_le ps (k + 1); have := HLL.out; omega
   rw [hx] at e0
   have HN := Lib.hid hn
   subst hA
   clear hx hn hkl
   obtain ⟨xn, hxn⟩ : ∃ xn, x.l.length = xn := ⟨_, rfl⟩
   have e1 : w.cell? ⟨b, off + k, none⟩ = some (.slice x.a xn x.c) := by rw [← hxn]; exact e0
   have HXN := Lib.hid hxn
   rw [hxn] at hn2
   clear e0 hxn
   have hn3 : ¬ ((m : Int) + (xn : Int) < 0) := by omega
   go_wp2
   go_roundg gf
   case measure => omega
   case rel => exact ⟨k + 1, m + xn, by go_num, by go_num, Lib.hid (by omega), Lib.hid (by rw [← HXN.out]; exact HN.out), rfl⟩
  | zero =>
   have e1 : k = ln := by omega
   have lt0 : decide ((k : Int) < (ln : Int)) = false := by simp; omega
   have lt1 : decide (k < ln) = false := by simp; omega
   go_wp2_with fail
   refine (grow_any m _ (by omega)).mono ?_
   rintro e W1 ⟨A1, c1, rfl, o1, b1⟩
   have O1 := Lib.hid o1
   have B1 := Lib.hid b1
   clear o1 b1
   go_wp2_with fail
   go_loopg [6, 27] ln (fun gf v6 v27 wx => ∃ (j n : Nat) (A' : Option Addr) (c' : Nat), v6 = .slice A' n c' ∧ v27 = .int .i64 (j : Int) ∧ Hid (gf + j = ln) ∧ Hid (n = (cat (ps.take j)).length) ∧ Hid (Own .u8 5 wx w.heap.size A' c' (cat (ps.take j))) ∧ Hid (Below w.heap.size w wx))
   case atStart => exact ⟨0, 0, A1, c1, rfl, rfl, Lib.hid (by omega), Lib.hid (by simp [cat]), O1, B1⟩
   case round =>
    obtain ⟨j, n, A2, c2, rfl, rfl, hj, hn, ho, hb⟩ := hrel
    have hj' := hj.out
    clear O1 B1
    cases gk with
    | zero =>
     have e1 : j = ln := by omega
     have lt0 : decide ((j : Int) < (ln : Int)) = false := by simp; omega
     have lt1 : decide (j < ln) = false := by simp; omega
     go_wp2
     go_ret
     have e2 : ps.take j = ps := by rw [e1, ← HLN.out]; exact List.take_length
     have h1 := hn.out
     have h2 := ho.out
     rw [e2] at h1 h2
     refine ⟨A2, c2, ?_, h2, hb.out⟩
     rw [h1]
     rfl
    | succ gf =>
     have hkl : j < ps.length := by rw [HLN.out]; omega
     have lt0 : (j : Int) < (ln : Int) := by omega
     have hw1 : (j : Int) + 1 ≤ 10000 := by omega
     have hsz := hb.out.size
     obtain ⟨b, off, hA, _, e0⟩ := (HP.out.step hb.out).at hkl
     have hx2 := Bs.step (HR.out (gp ps j) (by rw [gp_eq hkl]; exact List.getElem_mem _)) hb.out
     obtain ⟨x, hx⟩ : ∃ x, gp ps j = x := ⟨_, rfl⟩
     have hc := cat_take hkl
     have hm1 : n + x.l.length = (cat (ps.take (j + 1))).length := by rw [hc, List.length_append, ← hn.out, hx]
     have hm2 : n + x.l.length ≤ 10000 := by rw [hm1]; have := cat_le ps (j + 1); have := HLL.out; omega
     rw [hx] at e0 hx2 hc
     subst hA
     clear hx hkl
     obtain ⟨xn, hxn⟩ : ∃ xn, x.l.length = xn := ⟨_, rfl⟩
     have e1 : wr.cell? ⟨b, off + j, none⟩ = some (.slice x.a xn x.c) := by rw [← hxn]; exact e0
     have HC := Lib.hid hc
     have HM := Lib.hid hm1
     have HXN := Lib.hid hxn
     obtain ⟨ti, hi5, hz5, hsz5, hby5⟩ := info_of info5
     obtain ⟨A3, c3, W3, r1, r2, r3⟩ := run_app (P := Tryz.prog) wr w.heap.size 38 38 5 .u8 ti _ 1 Tryz.underlying38 hi5 hz5 hsz5 hby5 rfl A2 c2 _ ho.out _ x.a x.c x.l hx2 (by rw [← hn.out]; unfold maxLen; omega) (by rw [← hn.out]; omega) hsz
     have HO : Hid (Own .u8 5 W3 w.heap.size A3 c3 (cat (ps.take (j + 1)))) := Lib.hid (by rw [HC.out]; exact r2)
     have HB : Hid (Below w.heap.size w W3) := Lib.hid (hb.out.trans r3)
     have hr1 : (Builtin.append_ #[38, 38] 38 #[.slice A2 n c2, .slice x.a xn x.c]).run Tryz.prog wr = .ok (.slice A3 (n + xn) c3) W3 := by
      rw [List.length_append, ← hn.out, hxn] at r1
      exact r1
     rw [hxn] at hm2
     clear e0 hc hm1 hxn hx2 hi5 hz5 hsz5 hby5 r1 r2 r3 ho hb
     go_wp2_with (at_builtin; refine wpList_runb _ rfl (.tmp 31) (.tmp 32) 38 rfl rfl rfl hr1 ?_)
     go_wp2
     go_roundg gf
     case measure => omega
     case rel => exact ⟨j + 1, n + xn, _, c3, by go_num, by go_num, Lib.hid (by omega), Lib.hid (by rw [← HM.out, HXN.out]), HO, HB⟩
end Go.Proofs.YtadcicmccdphkaaGreat
