/-
  Plain lemmas on lists of numbers, on slices of numbers that are read, and on slices of numbers that the call itself has made. No statement is proved here; no conditions.
-/
import Derived.WalkKit
import Derived.Lib.Hide
import Derived.Maps.AppendAt
import Derived.Deep.AppendLies
import Derived.Deep.Draws
import Derived.Laws.BytesArg
import Derived.Laws.CopyOwn
import Derived.OwnWalk
namespace Go.Proofs.Ytpfppacmldjioaa
open Go.RowKit

/-! ### Numbers as bytes -/
/-- The lowest 'k' bytes of n, the highest first. -/
def be (n : Int) : Nat → List Int
  | 0 => []
  | k + 1 => be (n / 256) k ++ [n % 256]
/-- What bytes say, the highest first. -/
def num (l : List Int) : Int := l.foldl (fun a x => a * 256 + x) 0
/-- Every number is a byte. -/
def Byt (l : List Int) : Prop := ∀ x ∈ l, 0 ≤ x ∧ x < 256
/-- Every number is an unsigned one of 32 bits. -/
def Wrd (l : List Int) : Prop := ∀ x ∈ l, 0 ≤ x ∧ x < 4294967296

theorem be_length (n : Int) (k : Nat) : (be n k).length = k := by
  induction k generalizing n with
  | zero => rfl
  | succ k ih => simp [be, ih]
theorem be_byt (n : Int) (k : Nat) : Byt (be n k) := by
  induction k generalizing n with
  | zero => intro x hx; simp [be] at hx
  | succ k ih =>
    intro x hx
    simp only [be, List.mem_append, List.mem_singleton] at hx
    rcases hx with hx | rfl
    · exact ih _ x hx
    · omega
theorem Byt.append {a b : List Int} (ha : Byt a) (hb : Byt b) : Byt (a ++ b) := by
  intro x hx
  rcases List.mem_append.1 hx with h | h
  · exact ha x h
  · exact hb x h
theorem Byt.take {a : List Int} (ha : Byt a) (n : Nat) : Byt (a.take n) := fun x hx => ha x (List.mem_of_mem_take hx)
theorem Byt.drop {a : List Int} (ha : Byt a) (n : Nat) : Byt (a.drop n) := fun x hx => ha x (List.mem_of_mem_drop hx)
theorem num_snoc (l : List Int) (x : Int) : num (l ++ [x]) = num l * 256 + x := by simp [num]
theorem num_nil : num [] = 0 := rfl
theorem num_be (n : Int) (k : Nat) : 0 ≤ n → n < 256 ^ k → num (be n k) = n := by
  induction k generalizing n with
  | zero => intro h0 h1; simp at h1; simp [be, num]; omega
  | succ k ih =>
    intro h0 h1
    rw [be, num_snoc, ih (n / 256) (by omega) (by rw [Int.pow_succ] at h1; omega)]
    omega
theorem snoc_of {l : List Int} (h : l ≠ []) : ∃ a x, l = a ++ [x] := ⟨l.dropLast, l.getLast h, (List.dropLast_concat_getLast h).symm⟩
theorem num_bd (l : List Int) (hb : Byt l) : 0 ≤ num l ∧ num l < 256 ^ l.length := by
  induction h : l.length generalizing l with
  | zero => obtain rfl := List.eq_nil_of_length_eq_zero h; simp [num]
  | succ k ih =>
    obtain ⟨a, x, rfl⟩ := snoc_of (l := l) (by rintro rfl; simp at h)
    have ha := ih a (fun y hy => hb y (by simp [hy])) (by simpa using h)
    have hx := hb x (by simp)
    rw [num_snoc, Int.pow_succ]
    omega
theorem be_num (l : List Int) (hb : Byt l) : be (num l) l.length = l := by
  induction h : l.length generalizing l with
  | zero => obtain rfl := List.eq_nil_of_length_eq_zero h; rfl
  | succ k ih =>
    obtain ⟨a, x, rfl⟩ := snoc_of (l := l) (by rintro rfl; simp at h)
    have hx := hb x (by simp)
    have ha := ih a (fun y hy => hb y (by simp [hy])) (by simpa using h)
    rw [num_snoc, be, show (num a * 256 + x) / 256 = num a by omega, show (num a * 256 + x) % 256 = x by omega, ha]

/-! ### A slice that is read -/
/-- The slice '.slice A l.length _' reads as the numbers l, in blocks below B; nil is let in. -/
def Bs (k : IntKind) (w : World) (B : Nat) (A : Option Addr) (l : List Int) : Prop :=
  l ≠ [] → ∃ b off, A = some ⟨b, off, none⟩ ∧ b < B ∧ ∀ i, i < l.length → w.cell? ⟨b, off + i, none⟩ = some (.int k (l.getD i 0))

section
variable {k : IntKind} {w w' : World} {B B' : Nat} {A : Option Addr} {l : List Int}
theorem Bs.nil (A : Option Addr) : Bs k w B A [] := fun h => absurd rfl h
theorem Bs.keep (h : Bs k w B A l) (hk : ∀ p : Addr, p.block < B → w'.cell? p = w.cell? p) : Bs k w' B A l := fun hl => by
  obtain ⟨b, off, e, hb, hc⟩ := h hl
  exact ⟨b, off, e, hb, fun i hi => (hk ⟨b, off + i, none⟩ hb).trans (hc i hi)⟩
theorem Bs.below (h : Bs k w B A l) (hb : Below B w w') : Bs k w' B A l := h.keep fun _ hp => hb.cell hp
theorem Bs.more (h : Bs k w B A l) (hB : B ≤ B') : Bs k w B' A l := fun hl => by
  obtain ⟨b, off, e, hb, hc⟩ := h hl
  exact ⟨b, off, e, by omega, hc⟩
theorem Bs.drew (h : Bs k w B A l) : Bs k w.drew B A l := h
theorem Bs.drewN (h : Bs k w B A l) (n : Nat) : Bs k (w.drewN n) B A l := h
theorem Bs.alloc (h : Bs k w B A l) (hB : B ≤ w.heap.size) (o : Obj) : Bs k (w.alloc o) B A l := h.keep fun p hp => World.cell?_alloc_lt w o p (by omega)
theorem addr_add (b off n : Nat) : (⟨b, off, none⟩ : Addr).add n = ⟨b, off + n, none⟩ := by unfold Addr.add; split <;> simp_all
/-- The first n. -/
theorem Bs.take (h : Bs k w B A l) (n : Nat) : Bs k w B A (l.take n) := fun hl => by
  obtain ⟨b, off, e, hb, hc⟩ := h (by rintro rfl; simp at hl)
  refine ⟨b, off, e, hb, fun i hi => ?_⟩
  have hi' : i < n ∧ i < l.length := by rw [List.length_take] at hi; omega
  rw [hc i hi'.2]
  simp [List.getD, hi'.1]
/-- What is behind the first n; the address where there is nothing left does not matter. -/
theorem Bs.drop (h : Bs k w B A l) (n : Nat) (A' : Option Addr) (hA : n < l.length → A' = A.map (·.add n)) : Bs k w B A' (l.drop n) := fun hl => by
  have hn : n < l.length := by
    rcases Nat.lt_or_ge n l.length with h | h
    · exact h
    · exact absurd (List.drop_eq_nil_of_le h) hl
  obtain ⟨b, off, rfl, hb, hc⟩ := h (by rintro rfl; simp at hn)
  refine ⟨b, off + n, by rw [hA hn]; simp [addr_add], hb, fun i hi => ?_⟩
  rw [List.length_drop] at hi
  rw [Nat.add_assoc, hc (n + i) (by omega)]
  simp [List.getD, List.getElem?_drop]
theorem Bs.at_ (h : Bs k w B A l) {i : Nat} (hi : i < l.length) : ∃ b off, A = some ⟨b, off, none⟩ ∧ b < B ∧ w.cell? ⟨b, off + i, none⟩ = some (.int k (l.getD i 0)) := by
  obtain ⟨b, off, e, hb, hc⟩ := h (by rintro rfl; simp at hi)
  exact ⟨b, off, e, hb, hc i hi⟩
theorem Bs.cells (h : Bs k w B A l) (hl : l ≠ []) : ∃ b off, A = some ⟨b, off, none⟩ ∧ b < B ∧ ∀ j u, (l.map (Value.int k))[j]? = some u → w.cell? ((⟨b, off, none⟩ : Addr).add j) = some u := by
  obtain ⟨b, off, e, hb, hc⟩ := h hl
  refine ⟨b, off, e, hb, fun j u hu => ?_⟩
  rw [addr_add]
  have hj : j < l.length := by
    rcases Nat.lt_or_ge j l.length with h | h
    · exact h
    · simp [List.getElem?_eq_none h] at hu
  rw [hc j hj]
  simp [List.getElem?_eq_getElem hj] at hu
  simp [List.getD, List.getElem?_eq_getElem hj, hu]
end

/-! ### A slice that the call itself has made -/
def Own (k : IntKind) (e : TypeId) (w : World) (base : Nat) (A : Option Addr) (c : Nat) (l : List Int) : Prop :=
  w.ownsRow base e 1 (.slice A l.length c) l.length (l.map (Value.int k))

section
variable {k : IntKind} {e : TypeId} {w w' : World} {base base' : Nat} {A : Option Addr} {c : Nat} {l : List Int}
theorem Own.nil (w : World) (base : Nat) : Own k e w base none 0 [] := World.ownsRow_nil _ _ _ _
theorem Own.form (h : Own k e w base A c l) : (A = none ∧ c = 0 ∧ l = []) ∨ ∃ g cur, A = some ⟨g, 0, none⟩ ∧ base ≤ g ∧ g < w.heap.size ∧ w.heap[g]? = some (.cells cur e (0, 0)) ∧ l.length ≤ c ∧ c ≤ maxLen ∧ cur.size = c ∧ cur.toList.take l.length = l.map (Value.int k) := by
  rcases h.2 with ⟨hv, hn⟩ | ⟨g, cap, cur, hv, hb, hg, h1, h2, h3, h4⟩
  · left
    injection hv with h1 h2 h3
    exact ⟨h1, h3, List.eq_nil_of_length_eq_zero hn⟩
  · right
    injection hv with e1 _ e3
    subst e3
    refine ⟨g, cur, e1, hb, ?_, hg, h1, h2, by simpa using h3, by simpa using h4⟩
    rcases Nat.lt_or_ge g w.heap.size with h | h
    · exact h
    · rw [Array.getElem?_eq_none h] at hg; cases hg
theorem Own.of_form {g : Nat} {cur : Array Value} (hb : base ≤ g) (hg : w.heap[g]? = some (.cells cur e (0, 0))) (h1 : l.length ≤ c) (h2 : c ≤ maxLen) (h3 : cur.size = c) (h4 : cur.toList.take l.length = l.map (Value.int k)) :
    Own k e w base (some ⟨g, 0, none⟩) c l :=
  ⟨by simp, .inr ⟨g, c, cur, rfl, hb, hg, h1, h2, by simpa using h3, by simpa using h4⟩⟩
theorem Own.kept (h : Own k e w base A c l) (hw : ∀ g, base ≤ g → g < w.heap.size → w'.heap[g]? = w.heap[g]?) : Own k e w' base A c l := by
  rcases h.form with ⟨rfl, rfl, rfl⟩ | ⟨g, cur, rfl, hb, hlt, hg, h1, h2, h3, h4⟩
  · exact Own.nil _ _
  · exact Own.of_form hb ((hw g hb hlt).trans hg) h1 h2 h3 h4
theorem Own.below {B : Nat} (h : Own k e w base A c l) (hb : Below B w w') (hB : w.heap.size ≤ B) : Own k e w' base A c l :=
  h.kept fun g _ hg => hb.block g (by omega)
theorem Own.lower (h : Own k e w base A c l) (hB : base' ≤ base) : Own k e w base' A c l := by
  rcases h.form with ⟨rfl, rfl, rfl⟩ | ⟨g, cur, rfl, hb, hlt, hg, h1, h2, h3, h4⟩
  · exact Own.nil _ _
  · exact Own.of_form (by omega) hg h1 h2 h3 h4
theorem Own.bs (h : Own k e w base A c l) : Bs k w w.heap.size A l := fun hl => by
  rcases h.form with ⟨rfl, rfl, rfl⟩ | ⟨g, cur, rfl, hb, hlt, hg, h1, h2, h3, h4⟩
  · exact absurd rfl hl
  · refine ⟨g, 0, rfl, hlt, fun i hi => ?_⟩
    rw [Nat.zero_add, cell_of_row w g i cur e (0, 0) hg]
    have hx : (cur.toList.take l.length)[i]? = (l.map (Value.int k))[i]? := by rw [h4]
    rw [List.getElem?_take, if_pos hi] at hx
    rw [← Array.getElem?_toList, hx]
    simp [List.getD, List.getElem?_eq_getElem hi]
theorem Own.cap_le (h : Own k e w base A c l) : l.length ≤ c := by
  rcases h.form with ⟨rfl, rfl, rfl⟩ | ⟨g, cur, rfl, hb, hlt, hg, h1, h2, h3, h4⟩
  · simp
  · exact h1
theorem Own.max (h : Own k e w base A c l) : c ≤ maxLen := by
  rcases h.form with ⟨rfl, rfl, rfl⟩ | ⟨g, cur, rfl, hb, hlt, hg, h1, h2, h3, h4⟩
  · simp
  · exact h2
end
end Go.Proofs.Ytpfppacmldjioaa
