/-
  Plain lemmas on lists of numbers, on slices of numbers that are read, and on slices of numbers that the call itself has made. Laws of the walk for append, make, copy and string conversion, where the slices are 'Own' or 'Bs' of the text Lib. The law of append once more, saying that no block but the row's own has changed. No statement is proved here; no conditions.
-/
import Derived.WalkKit
import Derived.Lib.Hide
import Derived.Maps.AppendAt
import Derived.Deep.AppendLies
import Derived.Deep.Draws
import Derived.Laws.BytesArg
import Derived.Laws.CopyOwn
import Derived.OwnWalk
namespace Go.Proofs.YtadcicmccdphkaaGreat
open Go.RowKit

/-! ### Numbers as bytes -/
def be (n : Int) : Nat → List Int
 | 0 => []
 | k + 1 => be (n / 256) k ++ [n % 256]
def num (l : List Int) : Int := l.foldl (fun a x => a * 256 + x) 0
def Byt (l : List Int) : Prop := ∀ x ∈ l, 0 ≤ x ∧ x < 256
def Wrd (l : List Int) : Prop := ∀ x ∈ l, 0 ≤ x ∧ x < 4294967296

theorem be_length (n : Int) (k : Nat) : (be n k).length = k := by
 induction k generalizing n with
 | zero => rfl
 | succ k ih => simp [be, ih]
theorem be_byt (n : Int) (k : Nat) : Byt (be n k) := by
 induction k generalizing n with
 | zero => intro x hx; simp [be] at hx
 | succ k ih =>
  intro x hx
  simp only [be, List.mem_append, List.mem_singleton] at hx
  rcases hx with hx | rfl
  ·exact ih _ x hx
  ·omega
theorem Byt.append {a b : List Int} (ha : Byt a) (hb : Byt b) : Byt (a ++ b) := by
 intro x hx
 rcases List.mem_append.1 hx with h | h
 ·exact ha x h
 ·exact hb x h
theorem Byt.take {a : List Int} (ha : Byt a) (n : Nat) : Byt (a.take n) := fun x hx => ha x (List.mem_of_mem_take hx)
theorem Byt.drop {a : List Int} (ha : Byt a) (n : Nat) : Byt (a.drop n) := fun x hx => ha x (List.mem_of_mem_drop hx)
theorem num_snoc (l : List Int) (x : Int) : num (l ++ [x]) = num l * 256 + x := by simp [num]
theorem snoc_of {l : List Int} (h : l ≠ []) : ∃ a x, l = a ++ [x] := ⟨l.dropLast, l.getLast h, (List.dropLast_concat_getLast h).symm⟩
theorem num_bd (l : List Int) (hb : Byt l) : 0 ≤ num l ∧ num l < 256 ^ l.length := by
 induction h : l.length generalizing l with
 | zero => obtain rfl := List.eq_nil_of_length_eq_zero h; simp [num]
 | succ k ih =>
  obtain ⟨a, x, rfl⟩ := snoc_of (l := l) (by rintro rfl; simp at h)
  have ha := ih a (fun y hy => hb y (by simp [hy])) (by simpa using h)
  have hx := hb x (by simp)
  rw [num_snoc, Int.pow_succ]
  omega
theorem be_num (l : List Int) (hb : Byt l) : be (num l) l.length = l := by
 induction h : l.length generalizing l with
 | zero => obtain rfl := List.eq_nil_of_length_eq_zero h; rfl
 | succ k ih =>
  obtain ⟨a, x, rfl⟩ := snoc_of (l := l) (by rintro rfl; simp at h)
  have hx := hb x (by simp)
  have ha := ih a (fun y hy => hb y (by simp [hy])) (by simpa using h)
  rw [num_snoc, be, show (num a * 256 + x) / 256 = num a by omega, show (num a * 256 + x) % 256 = x by omega, ha]

/-! ### A slice that is read -/
def Bs (k : IntKind) (w : World) (B : Nat) (A : Option Addr) (l : List Int) : Prop :=
 l ≠ [] → ∃ b off, A = some ⟨b, off, none⟩ ∧ b < B ∧ ∀ i, i < l.length → w.cell? ⟨b, off + i, none⟩ = some (.int k (l.getD i 0))

section
variable {k : IntKind} {w w' : World} {B B' : Nat} {A : Option Addr} {l : List Int}
theorem Bs.nil (A : Option Addr) : Bs k w B A [] := fun h => absurd rfl h
theorem Bs.keep (h : Bs k w B A l) (hk : ∀ p : Addr, p.block < B → w'.cell? p = w.cell? p) : Bs k w' B A l := fun hl => by
 obtain ⟨b, off, e, hb, hc⟩ := h hl
 exact ⟨b, off, e, hb, fun i hi => (hk ⟨b, off + i, none⟩ hb).trans (hc i hi)⟩
theorem Bs.below (h : Bs k w B A l) (hb : Below B w w') : Bs k w' B A l := h.keep fun _ hp => hb.cell hp
theorem Bs.more (h : Bs k w B A l) (hB : B ≤ B') : Bs k w B' A l := fun hl => by
 obtain ⟨b, off, e, hb, hc⟩ := h hl
 exact ⟨b, off, e, by omega, hc⟩
theorem Bs.alloc (h : Bs k w B A l) (hB : B ≤ w.heap.size) (o : Obj) : Bs k (w.alloc o) B A l := h.keep fun p hp => World.cell?_alloc_lt w o p (by omega)
theorem addr_add (b off n : Nat) : (⟨b, off, none⟩ : Addr).add n = ⟨b, off + n, none⟩ := by unfold Addr.add; split <;> simp_all
theorem Bs.take (h : Bs k w B A l) (n : Nat) : Bs k w B A (l.take n) := fun hl => by
 obtain ⟨b, off, e, hb, hc⟩ := h (by rintro rfl; simp at hl)
 refine ⟨b, off, e, hb, fun i hi => ?_⟩
 have hi' : i < n ∧ i < l.length := by rw [List.length_take] at hi; omega
 rw [hc i hi'.2]
 simp [List.getD, hi'.1]
theorem Bs.drop (h : Bs k w B A l) (n : Nat) (A' : Option Addr) (hA : n < l.length → A' = A.map (·.add n)) : Bs k w B A' (l.drop n) := fun hl => by
 have hn : n < l.length := by
  rcases Nat.lt_or_ge n l.length with h | h
  ·exact h
  ·exact absurd (List.drop_eq_nil_of_le h) hl
 obtain ⟨b, off, rfl, hb, hc⟩ := h (by rintro rfl; simp at hn)
 refine ⟨b, off + n, by rw [hA hn]; simp [addr_add], hb, fun i hi => ?_⟩
 rw [List.length_drop] at hi
 rw [Nat.add_assoc, hc (n + i) (by omega)]
 simp [List.getD, List.getElem?_drop]
theorem Bs.at_ (h : Bs k w B A l) {i : Nat} (hi : i < l.length) : ∃ b off, A = some ⟨b, off, none⟩ ∧ b < B ∧ w.cell? ⟨b, off + i, none⟩ = some (.int k (l.getD i 0)) := by
 obtain ⟨b, off, e, hb, hc⟩ := h (by rintro rfl; simp at hi)
 exact ⟨b, off, e, hb, hc i hi⟩
theorem Bs.cells (h : Bs k w B A l) (hl : l ≠ []) : ∃ b off, A = some ⟨b, off, none⟩ ∧ b < B ∧ ∀ j u, (l.map (Value.int k))[j]? = some u → w.cell? ((⟨b, off, none⟩ : Addr).add j) = some u := by
 obtain ⟨b, off, e, hb, hc⟩ := h hl
 refine ⟨b, off, e, hb, fun j u hu => ?_⟩
 rw [addr_add]
 have hj : j < l.length := by
  rcases Nat.lt_or_ge j l.length with h | h
  ·exact h
  ·simp [List.getElem?_eq_none h] at hu
 rw [hc j hj]
 simp [List.getElem?_eq_getElem hj] at hu
 simp [List.getD, List.getElem?_eq_getElem hj, hu]
end

/-! ### A slice that the call itself has made -/
def Own (k : IntKind) (e : TypeId) (w : World) (base : Nat) (A : Option Addr) (c : Nat) (l : List Int) : Prop :=
 w.ownsRow base e 1 (.slice A l.length c) l.length (l.map (Value.int k))

section
variable {k : IntKind} {e : TypeId} {w w' : World} {base base' : Nat} {A : Option Addr} {c : Nat} {l : List Int}
theorem Own.nil (w : World) (base : Nat) : Own k e w base none 0 [] := World.ownsRow_nil _ _ _ _
theorem Own.form (h : Own k e w base A c l) : (A = none ∧ c = 0 ∧ l = []) ∨ ∃ g cur, A = some ⟨g, 0, none⟩ ∧ base ≤ g ∧ g < w.heap.size ∧ w.heap[g]? = some (.cells cur e (0, 0)) ∧ l.length ≤ c ∧ c ≤ maxLen ∧ cur.size = c ∧ cur.toList.take l.length = l.map (Value.int k) := by
 rcases h.2 with ⟨hv, hn⟩ | ⟨g, cap, cur, hv, hb, hg, h1, h2, h3, h4⟩
 ·left
  injection hv with h1 h2 h3
  exact ⟨h1, h3, List.eq_nil_of_length_eq_zero hn⟩
 ·right
  injection hv with e1 _ e3
  subst e3
  refine ⟨g, cur, e1, hb, ?_, hg, h1, h2, by simpa using h3, by simpa using h4⟩
  rcases Nat.lt_or_ge g w.heap.size with h | h
  ·exact h
  ·rw [Array.getElem?_eq_none h] at hg; cases hg
theorem Own.of_form {g : Nat} {cur : Array Value} (hb : base ≤ g) (hg : w.heap[g]? = some (.cells cur e (0, 0))) (h1 : l.length ≤ c) (h2 : c ≤ maxLen) (h3 : cur.size = c) (h4 : cur.toList.take l.length = l.map (Value.int k)) :
  Own k e w base (some ⟨g, 0, none⟩) c l :=
 ⟨by simp, .inr ⟨g, c, cur, rfl, hb, hg, h1, h2, by simpa using h3, by simpa using h4⟩⟩
theorem Own.kept (h : Own k e w base A c l) (hw : ∀ g, base ≤ g → g < w.heap.size → w'.heap[g]? = w.heap[g]?) : Own k e w' base A c l := by
 rcases h.form with ⟨rfl, rfl, rfl⟩ | ⟨g, cur, rfl, hb, hlt, hg, h1, h2, h3, h4⟩
 ·exact Own.nil _ _
 ·exact Own.of_form hb ((hw g hb hlt).trans hg) h1 h2 h3 h4
theorem Own.below {B : Nat} (h : Own k e w base A c l) (hb : Below B w w') (hB : w.heap.size ≤ B) : Own k e w' base A c l :=
 h.kept fun g _ hg => hb.block g (by omega)
theorem Own.lower (h : Own k e w base A c l) (hB : base' ≤ base) : Own k e w base' A c l := by
 rcases h.form with ⟨rfl, rfl, rfl⟩ | ⟨g, cur, rfl, hb, hlt, hg, h1, h2, h3, h4⟩
 ·exact Own.nil _ _
 ·exact Own.of_form (by omega) hg h1 h2 h3 h4
theorem Own.bs (h : Own k e w base A c l) : Bs k w w.heap.size A l := fun hl => by
 rcases h.form with ⟨rfl, rfl, rfl⟩ | ⟨g, cur, rfl, hb, hlt, hg, h1, h2, h3, h4⟩
 ·exact absurd rfl hl
 ·refine ⟨g, 0, rfl, hlt, fun i hi => ?_⟩
  rw [Nat.zero_add, cell_of_row w g i cur e (0, 0) hg]
  have hx : (cur.toList.take l.length)[i]? = (l.map (Value.int k))[i]? := by rw [h4]
  rw [List.getElem?_take, if_pos hi] at hx
  rw [← Array.getElem?_toList, hx]
  simp [List.getD, List.getElem?_eq_getElem hi]
theorem Own.cap_le (h : Own k e w base A c l) : l.length ≤ c := by
 rcases h.form with ⟨rfl, rfl, rfl⟩ | ⟨g, cur, rfl, hb, hlt, hg, h1, h2, h3, h4⟩
 ·simp
 ·exact h1
end
end Go.Proofs.YtadcicmccdphkaaGreat
namespace Go.Proofs.YtadcicmccdphkaaGreat
open Go.RowKit

theorem ints_one (k : IntKind) (l : List Int) : ∀ u ∈ l.map (Value.int k), u.oneCell' = true := by
 intro u hu
 obtain ⟨x, _, rfl⟩ := List.mem_map.1 hu
 rfl

section
variable {k : IntKind} {e : TypeId} {w w' : World} {base : Nat} {A : Option Addr} {c : Nat} {l : List Int}
theorem Own.alloc (h : Own k e w base A c l) (o : Obj) : Own k e (w.alloc o) base A c l := World.ownsRow.alloc h o
theorem Own.lit (w : World) (base : Nat) (h : base ≤ w.heap.size) (l : List Int) (hl : l.length ≤ maxLen) : Own k e (w.alloc (.cells (l.map (Value.int k)).toArray e)) base (some ⟨w.heap.size, 0, none⟩) l.length l :=
 Own.of_form h (heap_alloc_new w _) (Nat.le_refl _) hl (by simp) (List.take_of_length_le (by simp))
theorem own_of_row {v : Value} {n : Nat} (h : w.ownsRow base e 1 v n (l.map (Value.int k))) : ∃ A c, v = .slice A l.length c ∧ Own k e w base A c l := by
 have hn : n = l.length := by have := h.1; simp at this; omega
 subst hn
 rcases h.2 with ⟨rfl, hn⟩ | ⟨g, cap, cur, rfl, r⟩
 ·have : l = [] := List.eq_nil_of_length_eq_zero hn
  subst this
  exact ⟨none, 0, rfl, Own.nil _ _⟩
 ·exact ⟨_, cap, rfl, h⟩
end

theorem Own.one (w : World) (base : Nat) (h : base ≤ w.heap.size) (k : IntKind) (e : TypeId) (x : Int) : Own k e (w.alloc (.cells #[.int k x] e)) base (some ⟨w.heap.size, 0, none⟩) 1 [x] := Own.lit w base h [x] (by simp [maxLen])
theorem Own.empty (w : World) (base : Nat) (h : base ≤ w.heap.size) (k : IntKind) (e : TypeId) : Own k e (w.alloc (.cells #[] e)) base (some ⟨w.heap.size, 0, none⟩) 0 [] := Own.lit w base h [] (by simp)
theorem Bs.one (w : World) (k : IntKind) (e : TypeId) (x : Int) : Bs k (w.alloc (.cells #[.int k x] e)) (w.alloc (.cells #[.int k x] e)).heap.size (some ⟨w.heap.size, 0, none⟩) [x] := (Own.one w 0 (Nat.zero_le _) k e x).bs

theorem run_load0 {P : Program} (w : World) (a : Addr) : (loadCells a 0).run P w = .ok #[] w := run_loadCells_list (P := P) w a [] (by simp)

section
variable {P : Program} (w : World)

theorem run_app (base : Nat) (t ty e : TypeId) (k : IntKind) (i : TypeInfo) (z : Value) (bytes : Nat) (ht : P.underlying t = some (.slice e)) (hi : P.info? e = some i) (hz : i.zero = some z)
  (hsize : i.size = 1) (hby : i.bytes = bytes) (hzs : z.cells.size = 1) (A : Option Addr) (c : Nat) (l : List Int) (hown : Own k e w base A c l)
  (B : Nat) (A2 : Option Addr) (c2 : Nat) (l2 : List Int) (hr : Bs k w B A2 l2)
  (h63 : l.length + l2.length ≤ maxLen) (hbytes : (l.length + l2.length) * bytes ≤ 140737488355328) (hbase : base ≤ w.heap.size) :
  ∃ A' c' w', (Builtin.append_ #[t, t] ty #[.slice A l.length c, .slice A2 l2.length c2]).run P w = .ok (.slice A' (l ++ l2).length c') w' ∧ Own k e w' base A' c' (l ++ l2) ∧ Below base w w' := by
 by_cases hl : l2 = []
 ·subst hl
  refine ⟨A, c, w, ?_, by simpa using hown, Below.refl _ _⟩
  rcases hown.form with ⟨rfl, rfl, rfl⟩ | ⟨g, cur, rfl, hb, hlt, hg, h1, h2, h3, h4⟩
  ·cases A2 <;> simp [Builtin.append_, run_underlying ht, sizeOf, typeInfo, hi, Builtin.lenOf, Builtin.firstCells, run_load0]
  ·cases A2 <;> simp [Builtin.append_, run_underlying ht, sizeOf, typeInfo, hi, Builtin.lenOf, Builtin.firstCells, run_load0, storeCells, h1]
 ·obtain ⟨b, off, rfl, hb, hc⟩ := hr.cells hl
  obtain ⟨v', w', hrun, h2, h3, _, _⟩ := run_append_own_at (P := P) w base t ty e i z 1 bytes ht hi hz hsize hby hzs (by decide) _ _ _ hown ⟨b, off, none⟩ l2.length c2 (l2.map (Value.int k)) (by simp) hc (ints_one k l2) h63 hbytes hbase
  rw [← List.map_append] at h2
  obtain ⟨A', c', rfl, ho⟩ := own_of_row h2
  refine ⟨A', c', w', hrun, ho, ⟨h3.os, h3.tape, h3.output, h3.size, fun j hj => h3.block j (by omega) ?_⟩⟩
  rcases hown.form with ⟨rfl, _, _⟩ | ⟨g, cur, rfl, hg, _⟩
  ·simp [Value.ownBlock]
  ·simp [Value.ownBlock]; omega

theorem wp_app {o : Oper} {a : Act} {K : Act → World → Prop} {Q : Exit → Act → World → Prop} (s x : Operand) (t : TypeId)
  (ho : o.op = .call { callee := .builtin .append, args := #[s, x], argTypes := #[t, t] })
  (base : Nat) (e : TypeId) (k : IntKind) (i : TypeInfo) (z : Value) (bytes : Nat) (ht : P.underlying t = some (.slice e)) (hi : P.info? e = some i) (hz : i.zero = some z)
  (hsize : i.size = 1) (hby : i.bytes = bytes) (hzs : z.cells.size = 1) (A : Option Addr) (c : Nat) (l : List Int) (hs : a.eval s = .slice A l.length c) (hown : Own k e w base A c l)
  (B : Nat) (A2 : Option Addr) (c2 : Nat) (l2 : List Int) (hx : a.eval x = .slice A2 l2.length c2) (hr : Bs k w B A2 l2)
  (h63 : l.length + l2.length ≤ maxLen) (hbytes : (l.length + l2.length) * bytes ≤ 140737488355328) (hbase : base ≤ w.heap.size)
  (h : ∀ l3 A' c' w', Hid (l3 = l ++ l2) → Own k e w' base A' c' l3 → Below base w w' → K (a.put o.dst (.slice A' l3.length c')) w') : o.wp P a w K Q := by
 obtain ⟨A', c', w', hrun, h2, h3⟩ := run_app (P := P) w base t o.type e k i z bytes ht hi hz hsize hby hzs A c l hown B A2 c2 l2 hr h63 hbytes hbase
 unfold Oper.wp execOp
 simp only [ho, resolve, invoke, builtin, Sem.run_bind, Sem.run_pure, Result.andThen_ok, List.map_toArray, List.map_cons, List.map_nil, hs, hx, hrun]
 exact h _ A' c' w' rfl h2 h3

theorem wpList_app {ops : Array Oper} {rest : List Oper} {o : Oper} {a : Act} {Q : Exit → Act → World → Prop} (hgd : o.guard = none) (s x : Operand) (t : TypeId)
  (ho : o.op = .call { callee := .builtin .append, args := #[s, x], argTypes := #[t, t] })
  (base : Nat) (e : TypeId) (k : IntKind) (i : TypeInfo) (z : Value) (bytes : Nat) (ht : P.underlying t = some (.slice e)) (hi : P.info? e = some i) (hz : i.zero = some z)
  (hsize : i.size = 1) (hby : i.bytes = bytes) (hzs : z.cells.size = 1) (A : Option Addr) (c : Nat) (l : List Int) (hs : a.eval s = .slice A l.length c) (hown : Own k e w base A c l)
  (B : Nat) (A2 : Option Addr) (c2 : Nat) (l2 : List Int) (hx : a.eval x = .slice A2 l2.length c2) (hr : Bs k w B A2 l2)
  (h63 : l.length + l2.length ≤ maxLen) (hbytes : (l.length + l2.length) * bytes ≤ 140737488355328) (hbase : base ≤ w.heap.size)
  (h : ∀ l3 A' c' w', Hid (l3 = l ++ l2) → Own k e w' base A' c' l3 → Below base w w' → wpList P ops Q rest (a.put o.dst (.slice A' l3.length c')) w') : wpList P ops Q (o :: rest) a w :=
 wpList_plain hgd fun _ hK => wp_app w s x t ho base e k i z bytes ht hi hz hsize hby hzs A c l hs hown B A2 c2 l2 hx hr h63 hbytes hbase fun l3 A' c' w' h1 h2 h3 => hK _ _ (h l3 A' c' w' h1 h2 h3)

theorem wpList_appn {ops : Array Oper} {rest : List Oper} {o : Oper} {a : Act} {Q : Exit → Act → World → Prop} (hgd : o.guard = none) (s x : Operand) (t : TypeId)
  (ho : o.op = .call { callee := .builtin .append, args := #[s, x], argTypes := #[t, t] })
  (base : Nat) (e : TypeId) (k : IntKind) (i : TypeInfo) (z : Value) (bytes : Nat) (ht : P.underlying t = some (.slice e)) (hi : P.info? e = some i) (hz : i.zero = some z)
  (hsize : i.size = 1) (hby : i.bytes = bytes) (hzs : z.cells.size = 1) (A : Option Addr) (c : Nat) (l : List Int) (hs : a.eval s = .slice A l.length c) (hown : Own k e w base A c l)
  (B : Nat) (A2 : Option Addr) (n2 c2 : Nat) (l2 : List Int) (hx : a.eval x = .slice A2 n2 c2) (hn2 : n2 = l2.length) (hr : Bs k w B A2 l2)
  (h63 : l.length + l2.length ≤ maxLen) (hbytes : (l.length + l2.length) * bytes ≤ 140737488355328) (hbase : base ≤ w.heap.size)
  (h : ∀ l3 A' c' w', Hid (l3 = l ++ l2) → Own k e w' base A' c' l3 → Below base w w' → wpList P ops Q rest (a.put o.dst (.slice A' l3.length c')) w') : wpList P ops Q (o :: rest) a w := by
 subst hn2
 exact wpList_app w hgd s x t ho base e k i z bytes ht hi hz hsize hby hzs A c l hs hown B A2 c2 l2 hx hr h63 hbytes hbase h

theorem run_mk (t e : TypeId) (k : IntKind) (i : TypeInfo) (ht : P.underlying t = some (.slice e)) (hi : P.info? e = some i) (hz : i.zero = some (.int k 0)) (hsize : i.size = 1)
  (kl kc : IntKind) (n c : Nat) (hnc : n ≤ c) (hbytes : i.bytes * c ≤ 281474976710656) (h63 : c ≤ 9223372036854775807) :
  (Instr.makeSlice t (.int kl (n : Int)) (.int kc (c : Int))).run P w = .ok (.slice (some ⟨w.heap.size, 0, none⟩) n c) (w.alloc (.cells ((List.replicate c (0 : Int)).map (Value.int k)).toArray e)) := by
 have hb : (i.bytes : Int) * (c : Int) ≤ 281474976710656 := by
  have h : ((i.bytes * c : Nat) : Int) ≤ 281474976710656 := by omega
  rwa [Int.natCast_mul] at h
 have hr := run_make (P := P) w t e i _ ht hi hz kl kc n c (by omega) (by omega) hb (by omega)
 simp only [Int.toNat_natCast, hsize, Nat.mul_one] at hr
 rw [hr]
 have : (madeCells (Value.int k 0).cells c) = ((List.replicate c (0 : Int)).map (Value.int k)).toArray := by
  apply Array.toList_inj.1
  rw [show (Value.int k 0).cells = #[.int k 0] from rfl, toList_madeCells_one]
  simp
 rw [this]

theorem mk_own (t e : TypeId) (k : IntKind) (i : TypeInfo) (ht : P.underlying t = some (.slice e)) (hi : P.info? e = some i) (hz : i.zero = some (.int k 0)) (hsize : i.size = 1)
  (kl kc : IntKind) (L C : Int) (n c : Nat) (hL : L = n) (hC : C = c) (hnc : n ≤ c) (hbytes : i.bytes * c ≤ 281474976710656) (h63 : c ≤ maxLen) :
  ∃ z w1, z.length = n ∧ (Instr.makeSlice t (.int kl L) (.int kc C)).run P w = .ok (.slice (some ⟨w.heap.size, 0, none⟩) z.length c) w1 ∧ Own k e w1 w.heap.size (some ⟨w.heap.size, 0, none⟩) c z ∧ Below w.heap.size w w1 := by
 subst hL hC
 refine ⟨List.replicate n 0, w.alloc (.cells ((List.replicate c (0 : Int)).map (Value.int k)).toArray e), by simp, ?_, ?_, (Below.refl _ _).alloc (Nat.le_refl _) _⟩
 ·rw [List.length_replicate]
  exact run_mk w t e k i ht hi hz hsize kl kc n c hnc hbytes (by unfold maxLen at h63; omega)
 ·refine Own.of_form (Nat.le_refl _) (heap_alloc_new w _) (by simpa using hnc) h63 (by simp) ?_
  simp [List.take_replicate, Nat.min_eq_left hnc]

theorem run_cp (base : Nat) (t s ty e : TypeId) (k : IntKind) (ht : P.underlying t = some (.slice e)) (hsz : (P.info? e).map (·.size) = some 1)
  (A : Option Addr) (c : Nat) (l : List Int) (hown : Own k e w base A c l) (B : Nat) (A2 : Option Addr) (c2 : Nat) (l2 : List Int) (hr : Bs k w B A2 l2) (hlen : l2.length ≤ l.length) :
  ∃ w', (Builtin.copy_ #[t, s] ty #[.slice A l.length c, .slice A2 l2.length c2]).run P w = .ok (goInt l2.length) w' ∧ Own k e w' base A c (l2 ++ l.drop l2.length) ∧ Below base w w' := by
 by_cases hl : l2 = []
 ·subst hl
  exact ⟨w, run_copy_none w t s ty e A A2 l.length c 0 c2 ht hsz (by simp), by simpa using hown, Below.refl _ _⟩
 ·have hpos : 0 < l2.length := List.length_pos_iff.2 hl
  obtain ⟨b, off, rfl, hb, hc⟩ := hr.cells hl
  rcases hown.form with ⟨rfl, rfl, rfl⟩ | ⟨g, cur, rfl, hg0, hlt, hg, h1, h2, h3, h4⟩
  ·simp at hlen; exact absurd hlen hl
  ·have hrun := run_copy_row (P := P) w t s ty e g 0 l.length c ⟨b, off, none⟩ l2.length c2 cur e (l2.map (Value.int k)) ht hsz hg (by simp [hlen]) hc (by simp [h3]; omega) (ints_one k l2)
   refine ⟨w.setRow g ((l2.map (Value.int k) ++ cur.toList.drop l2.length)).toArray, by simpa using hrun, ?_, ⟨rfl, rfl, rfl, by simp [World.setRow], fun j hj => setRow_other w g j _ (by omega)⟩⟩
   have hll : (l2 ++ l.drop l2.length).length = l.length := by simp; omega
   have hh := setRow_heap w g cur ((l2.map (Value.int k) ++ cur.toList.drop l2.length)).toArray e (0, 0) hg
   have hO : Own k e (w.setRow g ((l2.map (Value.int k) ++ cur.toList.drop l2.length)).toArray) base (some ⟨g, 0, none⟩) c (l2 ++ l.drop l2.length) := by
    refine Own.of_form hg0 hh (by rw [hll]; exact h1) h2 (by simp [h3]; omega) ?_
    rw [hll]
    have hm : (l.drop l2.length).map (Value.int k) = (cur.toList.take l.length).drop l2.length := by rw [h4, List.map_drop]
    rw [List.map_append, hm, List.take_append, List.drop_take, List.take_of_length_le (by simpa using hlen)]
    simp
   exact hO

theorem wpList_cp {ops : Array Oper} {rest : List Oper} {o : Oper} {a : Act} {Q : Exit → Act → World → Prop} (hgd : o.guard = none) (d s : Operand) (dT sT : TypeId)
  (ho : o.op = .call { callee := .builtin .copy, args := #[d, s], argTypes := #[dT, sT] })
  (base : Nat) (e : TypeId) (k : IntKind) (ht : P.underlying dT = some (.slice e)) (hsz : (P.info? e).map (·.size) = some 1)
  (A : Option Addr) (c : Nat) (l : List Int) (hd : a.eval d = .slice A l.length c) (hown : Own k e w base A c l)
  (B : Nat) (A2 : Option Addr) (c2 : Nat) (l2 : List Int) (hs : a.eval s = .slice A2 l2.length c2) (hr : Bs k w B A2 l2) (hlen : l2.length ≤ l.length)
  (h : ∀ w', Own k e w' base A c (l2 ++ l.drop l2.length) → Below base w w' → wpList P ops Q rest (a.put o.dst (goInt l2.length)) w') : wpList P ops Q (o :: rest) a w := by
 refine wpList_plain hgd fun K hK => ?_
 obtain ⟨w', hrun, h2, h3⟩ := run_cp (P := P) w base dT sT o.type e k ht hsz A c l hown B A2 c2 l2 hr hlen
 unfold Oper.wp execOp
 simp only [ho, resolve, invoke, builtin, Sem.run_bind, Sem.run_pure, Result.andThen_ok, List.map_toArray, List.map_cons, List.map_nil, hd, hs, hrun]
 exact hK _ _ (h w' h2 h3)

theorem run_str (src e dst : TypeId) (hs : P.underlying src = some (.slice e)) (he : P.underlying e = some (.int .u8)) (hd : P.underlying dst = some .string) (B : Nat) (A : Option Addr) (c : Nat) (l : List Int) (hb : Bs .u8 w B A l) :
  (convert src dst (.slice A l.length c)).run P w = .ok (.string (strOfNums l)) w := by
 by_cases hl : l = []
 ·subst hl
  cases A with
  | none => rw [run_convert_bytes_nil w src e hs he _ _ dst hd]; rfl
  | some a =>
   rw [run_convert_bytes_string w src dst e _ _ _ hs he hd, run_bytesToString w a _ _ [] (by simpa using run_load0 w a)]
   rfl
 ·obtain ⟨b, off, rfl, _, hc⟩ := hb hl
  exact run_convert_bytes_arg w src e hs he b off l.length c l rfl hc dst hd
end
end Go.Proofs.YtadcicmccdphkaaGreat
namespace Go.Proofs.YtadcicmccdphkaaGreat
open Go.RowKit

def blk (A : Option Addr) : Option Nat := A.map (·.block)

section
variable {k : IntKind} {e : TypeId} {w w' : World} {base : Nat} {A : Option Addr} {c : Nat} {l : List Int}
theorem Own.grown {row : Option Nat} (h : Own k e w base A c l) (hg : w.grownBy w' row) (hne : ∀ g, A = some ⟨g, 0, none⟩ → row ≠ some g) : Own k e w' base A c l := by
 rcases h.form with ⟨rfl, rfl, rfl⟩ | ⟨g, cur, rfl, hb, hlt, hg', h1, h2, h3, h4⟩
 ·exact Own.nil _ _
 ·exact Own.of_form hb ((hg.block g hlt (fun h => hne g rfl h.symm)).trans hg') h1 h2 h3 h4
theorem Own.blk_lt (h : Own k e w base A c l) : ∀ g, blk A = some g → base ≤ g ∧ g < w.heap.size := by
 intro g hg
 rcases h.form with ⟨rfl, _, _⟩ | ⟨g', cur, rfl, hb, hlt, _⟩
 ·cases hg
 ·simp [blk] at hg; omega
theorem grown_below {row : Option Nat} (hg : w.grownBy w' row) (hB : base ≤ w.heap.size) (hr : ∀ g, row = some g → base ≤ g) : Below base w w' := (Below.refl base w).grown hg hB hr
end

section
variable {P : Program} (w : World)
theorem run_appg (base : Nat) (t ty e : TypeId) (k : IntKind) (i : TypeInfo) (z : Value) (bytes : Nat) (ht : P.underlying t = some (.slice e)) (hi : P.info? e = some i) (hz : i.zero = some z)
  (hsize : i.size = 1) (hby : i.bytes = bytes) (hzs : z.cells.size = 1) (A : Option Addr) (c : Nat) (l : List Int) (hown : Own k e w base A c l)
  (B : Nat) (A2 : Option Addr) (c2 : Nat) (l2 : List Int) (hr : Bs k w B A2 l2)
  (h63 : l.length + l2.length ≤ maxLen) (hbytes : (l.length + l2.length) * bytes ≤ 140737488355328) (hbase : base ≤ w.heap.size) :
  ∃ A' c' w', (Builtin.append_ #[t, t] ty #[.slice A l.length c, .slice A2 l2.length c2]).run P w = .ok (.slice A' (l ++ l2).length c') w' ∧ Own k e w' base A' c' (l ++ l2) ∧ w.grownBy w' (blk A) ∧ (blk A' = blk A ∨ blk A' = some w.heap.size) := by
 by_cases hl : l2 = []
 ·subst hl
  refine ⟨A, c, w, ?_, by simpa using hown, World.grownBy.refl _ _, .inl rfl⟩
  rcases hown.form with ⟨rfl, rfl, rfl⟩ | ⟨g, cur, rfl, hb, hlt, hg, h1, h2, h3, h4⟩
  ·cases A2 <;> simp [Builtin.append_, run_underlying ht, sizeOf, typeInfo, hi, Builtin.lenOf, Builtin.firstCells, run_load0]
  ·cases A2 <;> simp [Builtin.append_, run_underlying ht, sizeOf, typeInfo, hi, Builtin.lenOf, Builtin.firstCells, run_load0, storeCells, h1]
 ·obtain ⟨b, off, rfl, hb, hc⟩ := hr.cells hl
  obtain ⟨v', w', hrun, h2, h3, _, h5⟩ := run_append_own_at (P := P) w base t ty e i z 1 bytes ht hi hz hsize hby hzs (by decide) _ _ _ hown ⟨b, off, none⟩ l2.length c2 (l2.map (Value.int k)) (by simp) hc (ints_one k l2) h63 hbytes hbase
  rw [← List.map_append] at h2
  obtain ⟨A', c', rfl, ho⟩ := own_of_row h2
  have hob : ∀ (X : Option Addr) (n c : Nat), (Value.slice X n c).ownBlock = blk X := by intro X n c; cases X <;> rfl
  rw [hob] at h3
  rw [hob, hob] at h5
  exact ⟨A', c', w', hrun, ho, h3, h5⟩

theorem wp_appg {o : Oper} {a : Act} {K : Act → World → Prop} {Q : Exit → Act → World → Prop} (s x : Operand) (t : TypeId)
  (ho : o.op = .call { callee := .builtin .append, args := #[s, x], argTypes := #[t, t] })
  (base : Nat) (e : TypeId) (k : IntKind) (i : TypeInfo) (z : Value) (bytes : Nat) (ht : P.underlying t = some (.slice e)) (hi : P.info? e = some i) (hz : i.zero = some z)
  (hsize : i.size = 1) (hby : i.bytes = bytes) (hzs : z.cells.size = 1) (A : Option Addr) (c : Nat) (l : List Int) (hs : a.eval s = .slice A l.length c) (hown : Own k e w base A c l)
  (B : Nat) (A2 : Option Addr) (n2 c2 : Nat) (l2 : List Int) (hx : a.eval x = .slice A2 n2 c2) (hn2 : n2 = l2.length) (hr : Bs k w B A2 l2)
  (h63 : l.length + l2.length ≤ maxLen) (hbytes : (l.length + l2.length) * bytes ≤ 140737488355328) (hbase : base ≤ w.heap.size)
  (h : ∀ l3 A' c' w', Hid (l3 = l ++ l2) → Own k e w' base A' c' l3 → w.grownBy w' (blk A) → (blk A' = blk A ∨ blk A' = some w.heap.size) → K (a.put o.dst (.slice A' l3.length c')) w') : o.wp P a w K Q := by
 subst hn2
 obtain ⟨A', c', w', hrun, h2, h3, h4⟩ := run_appg (P := P) w base t o.type e k i z bytes ht hi hz hsize hby hzs A c l hown B A2 c2 l2 hr h63 hbytes hbase
 unfold Oper.wp execOp
 simp only [ho, resolve, invoke, builtin, Sem.run_bind, Sem.run_pure, Result.andThen_ok, List.map_toArray, List.map_cons, List.map_nil, hs, hx, hrun]
 exact h _ A' c' w' rfl h2 h3 h4

theorem wpList_appg {ops : Array Oper} {rest : List Oper} {o : Oper} {a : Act} {Q : Exit → Act → World → Prop} (hgd : o.guard = none) (s x : Operand) (t : TypeId)
  (ho : o.op = .call { callee := .builtin .append, args := #[s, x], argTypes := #[t, t] })
  (base : Nat) (e : TypeId) (k : IntKind) (i : TypeInfo) (z : Value) (bytes : Nat) (ht : P.underlying t = some (.slice e)) (hi : P.info? e = some i) (hz : i.zero = some z)
  (hsize : i.size = 1) (hby : i.bytes = bytes) (hzs : z.cells.size = 1) (A : Option Addr) (c : Nat) (l : List Int) (hs : a.eval s = .slice A l.length c) (hown : Own k e w base A c l)
  (B : Nat) (A2 : Option Addr) (n2 c2 : Nat) (l2 : List Int) (hx : a.eval x = .slice A2 n2 c2) (hn2 : n2 = l2.length) (hr : Bs k w B A2 l2)
  (h63 : l.length + l2.length ≤ maxLen) (hbytes : (l.length + l2.length) * bytes ≤ 140737488355328) (hbase : base ≤ w.heap.size)
  (h : ∀ l3 A' c' w', Hid (l3 = l ++ l2) → Own k e w' base A' c' l3 → w.grownBy w' (blk A) → (blk A' = blk A ∨ blk A' = some w.heap.size) → wpList P ops Q rest (a.put o.dst (.slice A' l3.length c')) w') : wpList P ops Q (o :: rest) a w :=
 wpList_plain hgd fun _ hK => wp_appg w s x t ho base e k i z bytes ht hi hz hsize hby hzs A c l hs hown B A2 n2 c2 l2 hx hn2 hr h63 hbytes hbase fun l3 A' c' w' h1 h2 h3 h4 => hK _ _ (h l3 A' c' w' h1 h2 h3 h4)

end
end Go.Proofs.YtadcicmccdphkaaGreat
