/-
  Contracts of package octet's Row and Rows. No statement is proved here.
-/
import Derived.Test.YtfhickgdmcmodaaLeaf
namespace Go.Proofs.Ytfhickgdmcmodaa
open Go.RowKit

theorem num_n' (A : Option Addr) (n c : Nat) (l : List Int) (B : Nat) (w : World) (hn : n = l.length) (hb : Bs .u8 w B A l) (hl : l.length ≤ 4) (hy : Byt l) :
    Calls Try.prog 36 #[.slice A n c] w fun e w' => e = .returned (.int .u32 (num l)) ∧ w = w' := by subst hn; exact num_any A c l B w hb hl hy

/-! ### Row -/
/-- The numbers, one behind the other, each in k bytes. -/
def flat (k : Nat) (l : List Int) : List Int := (l.map fun x => be x k).flatten
theorem flat_snoc (k : Nat) (l : List Int) (x : Int) : flat k (l ++ [x]) = flat k l ++ be x k := by simp [flat]
theorem flat_length (k : Nat) (l : List Int) : (flat k l).length = l.length * k := by
  induction l with
  | nil => simp [flat]
  | cons x l ih =>
    have : flat k (x :: l) = be x k ++ flat k l := by simp [flat]
    rw [this, List.length_append, ih, be_length, List.length_cons, Nat.succ_mul, Nat.add_comm]
def rowE (l : List Int) (m : Int) : Int := if m < 1 ∨ 4 < m then 1 else if l.any (fun x => decide (256 ^ m.toNat ≤ x)) = true then 5 else 0
def rowL (l : List Int) (m : Int) : List Int := if rowE l m = 0 then flat m.toNat l else []
theorem rowE_large {l : List Int} {m : Int} (h1 : 1 ≤ m) (h2 : m ≤ 4) (j : Nat) (hj : j < l.length) (hx : 256 ^ m.toNat ≤ l[j]) : rowE l m = 5 := by
  have hm : ¬ (m < 1 ∨ 4 < m) := by omega
  have : l.any (fun x => decide (256 ^ m.toNat ≤ x)) = true := List.any_eq_true.2 ⟨l[j], List.getElem_mem hj, by simpa using hx⟩
  unfold rowE; rw [if_neg hm, if_pos this]
theorem rowE_fits {l : List Int} {m : Int} (h1 : 1 ≤ m) (h2 : m ≤ 4) (h : ∀ x ∈ l, x < 256 ^ m.toNat) : rowE l m = 0 := by
  have hm : ¬ (m < 1 ∨ 4 < m) := by omega
  have : ¬ (l.any (fun x => decide (256 ^ m.toNat ≤ x)) = true) := by
    rw [List.any_eq_true]; rintro ⟨x, hx, hd⟩
    have := h x hx; have := of_decide_eq_true hd; omega
  unfold rowE; rw [if_neg hm, if_neg this]
theorem forall_snoc {p : Int → Prop} {l : List Int} {j : Nat} (hj : j < l.length) (h : ∀ x ∈ l.take j, p x) (hx : p l[j]) : ∀ x ∈ l.take (j + 1), p x := by
  intro x hm
  rw [List.take_succ_eq_append_getElem hj] at hm
  rcases List.mem_append.1 hm with hm | hm
  · exact h x hm
  · simp at hm; subst hm; exact hx

/-! ### Rows -/
/-- The first q numbers of k bytes each. -/
def nums (k : Nat) : Nat → List Int → List Int
  | 0, _ => []
  | q + 1, l => nums k q l ++ [num ((l.drop (q * k)).take k)]
theorem nums_length (k q : Nat) (l : List Int) : (nums k q l).length = q := by
  induction q with
  | zero => rfl
  | succ q ih => simp [nums, ih]
def rowsE (l : List Int) (m : Int) : Int := if m < 1 ∨ 4 < m then 1 else if ((l.length : Int) % m != 0) = true then 2 else 0
def rowsL (l : List Int) (m : Int) : List Int := if rowsE l m = 0 then nums m.toNat (l.length / m.toNat) l else []
end Go.Proofs.Ytfhickgdmcmodaa
