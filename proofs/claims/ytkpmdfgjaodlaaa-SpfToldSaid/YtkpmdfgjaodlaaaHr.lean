/-
  The heap's items behind a pointer, and contracts of the small functions of package heap: before, swap, rise, sink. No statement is proved here; no conditions.
-/
import Derived.Test.YtkpmdfgjaodlaaaProg
import Derived.Test.YtkpmdfgjaodlaaaMem
import Derived.Lib.Hide
import Derived.Lib.SmallJoins
import Derived.KernelRfl
import Derived.Deep.QuietTactic
import Derived.BigQuiet
import Derived.BigRegion
import Derived.Lib.QuietBelow
import Derived.StillTailTactics
import Derived.Deep.LoopGhost
namespace Go.Proofs.Ytkpmdfgjaodlaaa
open Go.RowKit Go.Joins

theorem ret_bool {a b : Bool} (h : a = b) : Ending.returned (.bool a) = .returned (.bool b) := by rw [h]
theorem ret_int {k : IntKind} {a b : Int} (h : a = b) : Ending.returned (.int k a) = .returned (.int k b) := by rw [h]
theorem val_int {k : IntKind} {a b : Int} (h : a = b) : Value.int k a = .int k b := by rw [h]
/-- Behind block hb lie the items d, in row g (where there is none: g is hb). -/
def Hr (w : World) (hb : Nat) (A : Option Addr) (g c : Nat) (d : List It) : Prop :=
  w.heap[hb]? = some (.cells #[.slice A d.length c] 74 (0, 0)) ∧ ((A = none ∧ c = 0 ∧ d = [] ∧ g = hb) ∨ (A = some ⟨g, 0, none⟩ ∧ Rw 60 w g c d))
section
variable {S : Nat → Prop} {w w' : World} {hb g c : Nat} {A : Option Addr} {d : List It}
theorem Hr.lt (h : Hr w hb A g c d) : hb < w.heap.size := lt_of_block h.1
theorem Hr.glt (h : Hr w hb A g c d) : g < w.heap.size := by
  rcases h.2 with ⟨_, _, _, rfl⟩ | ⟨_, r⟩
  · exact h.lt
  · exact r.lt
theorem Hr.cell0 (h : Hr w hb A g c d) : w.cell? ⟨hb, 0, none⟩ = some (.slice A d.length c) := (cell_of_row w hb 0 _ _ _ h.1).trans rfl
theorem Hr.frozen0 (h : Hr w hb A g c d) : w.frozen? ⟨hb, 0, none⟩ = false := by simp [World.frozen?, h.1]
theorem Hr.cap (h : Hr w hb A g c d) : d.length ≤ c := by
  rcases h.2 with ⟨_, rfl, rfl, _⟩ | ⟨_, r⟩
  · simp
  · exact r.cap
theorem Hr.max (h : Hr w hb A g c d) : c ≤ maxLen := by
  rcases h.2 with ⟨_, rfl, rfl, _⟩ | ⟨_, r⟩
  · simp
  · exact r.max
theorem Hr.row (h : Hr w hb A g c d) (hd : 0 < d.length) : A = some ⟨g, 0, none⟩ ∧ Rw 60 w g c d := by
  rcases h.2 with ⟨_, rfl, rfl, _⟩ | r
  · simp at hd
  · exact r
theorem Hr.keep (h : Hr w hb A g c d) (h1 : w'.heap[hb]? = w.heap[hb]?) (h2 : w'.heap[g]? = w.heap[g]?) : Hr w' hb A g c d := by
  refine ⟨h1.trans h.1, ?_⟩
  rcases h.2 with r | ⟨r1, r2⟩
  · exact .inl r
  · exact .inr ⟨r1, r2.keep h2⟩
theorem Hr.kp (h : Hr w hb A g c d) (k : Kp S w w') (h1 : ¬ S hb) (h2 : ¬ S g) : Hr w' hb A g c d := h.keep (k.block hb h.lt h1) (k.block g h.glt h2)
theorem Hr.below {B : Nat} (h : Hr w hb A g c d) (k : Below B w w') (hB : w.heap.size ≤ B) : Hr w' hb A g c d := h.keep (k.block hb (by have := h.lt; omega)) (k.block g (by have := h.glt; omega))
theorem Hr.ne (h : Hr w hb A g c d) (hd : 0 < d.length) : g ≠ hb := by
  rintro rfl
  obtain ⟨cur, hg, _⟩ := (h.row hd).2
  have := h.1.symm.trans hg
  simp at this
end

theorem before_any (x y : It) (w : World) : Calls Try.prog 46 #[iv x, iv y] w fun e w' => e = .returned (.bool (lt x y)) ∧ Below w.heap.size w w' := by
  by_cases h : x.1 = y.1
  · have h1 : (x.1 != y.1) = false := by simp [h]
    go_enter Try.func46, Try.ntmps46
    go_wp2
    go_ret
    exact ⟨ret_bool (by unfold lt; exact decide_eq_decide.2 (by omega)), below_alloc2 _ _ _⟩
  · have h1 : (x.1 != y.1) = true := by simp; omega
    go_enter Try.func46, Try.ntmps46
    go_wp2
    go_ret
    exact ⟨ret_bool (by unfold lt; exact decide_eq_decide.2 (by omega)), below_alloc2 _ _ _⟩

theorem swap_any (hb : Nat) (A : Option Addr) (g c i j : Nat) (d : List It) (w : World) (h : Hr w hb A g c d) (hi : i < d.length) (hj : j < d.length) (hne : i ≠ j) :
    Calls Try.prog 47 #[.pointer (some ⟨hb, 0, none⟩), .int .i64 i, .int .i64 j] w fun e w' => e = .returned (.tuple #[]) ∧ Hr w' hb A g c (swp d i j) ∧ Kp (· = g) w w' := by
  obtain ⟨rfl, hR⟩ := h.row (by omega)
  have hgne := h.ne (by omega)
  have c0 := h.cell0
  obtain ⟨c1, c2⟩ := hR.cell hi
  obtain ⟨c3, c4⟩ := hR.cell hj
  have f1 := hR.frozen (i * 2)
  have f2 := hR.frozen (i * 2 + 1)
  have f3 := hR.frozen (j * 2)
  have f4 := hR.frozen (j * 2 + 1)
  have n1 : i * 2 ≠ j * 2 := by omega
  have n2 : i * 2 ≠ j * 2 + 1 := by omega
  have n3 : i * 2 + 1 ≠ j * 2 := by omega
  have i1 : (i : Int) < (d.length : Int) := by omega
  have i2 : (j : Int) < (d.length : Int) := by omega
  have R1 := hR.set hi (gt d j)
  have R2 := R1.set (i := j) (by simpa using hj) (gt d i)
  have hH : Hid (Hr w hb (some ⟨g, 0, none⟩) g c d) := h
  have hl := swp_length d i j
  have R3 : Hid (Rw 60 ((((w.setCell ⟨g, i * 2, none⟩ (.int .u64 (gt d j).1)).setCell ⟨g, i * 2 + 1, none⟩ (.int .i64 (gt d j).2)).setCell ⟨g, j * 2, none⟩ (.int .u64 (gt d i).1)).setCell ⟨g, j * 2 + 1, none⟩ (.int .i64 (gt d i).2)) g c (swp d i j)) := R2
  clear R1 R2 hR h hi hj
  generalize hx : gt d i = x at *
  generalize hy : gt d j = y at *
  generalize hD : swp d i j = D at *
  generalize hn : d.length = n at *
  have K1 : Kp (· = g) w ((((w.setCell ⟨g, i * 2, none⟩ (.int .u64 y.1)).setCell ⟨g, i * 2 + 1, none⟩ (.int .i64 y.2)).setCell ⟨g, j * 2, none⟩ (.int .u64 x.1)).setCell ⟨g, j * 2 + 1, none⟩ (.int .i64 x.2)) :=
    ((((Kp.refl (· = g) w).then_set _ _ rfl).then_set _ _ rfl).then_set _ _ rfl).then_set _ _ rfl
  have K2 : Hid (Kp (· = g) w ((((w.setCell ⟨g, i * 2, none⟩ (.int .u64 y.1)).setCell ⟨g, i * 2 + 1, none⟩ (.int .i64 y.2)).setCell ⟨g, j * 2, none⟩ (.int .u64 x.1)).setCell ⟨g, j * 2 + 1, none⟩ (.int .i64 x.2))) := K1
  clear K1
  go_enter Try.func47, Try.ntmps47
  go_wp2_with fail
  go_region
  go_end0
  have K := K2.out
  refine ⟨rfl, ⟨?_, .inr ⟨rfl, R3.out⟩⟩, ⟨K.os, K.tape, K.output, K.size, K.block⟩⟩
  have := K.block hb hH.out.lt (by omega)
  rw [hl]
  exact this.trans (by have := hH.out.1; rw [hn] at this; exact this)
end Go.Proofs.Ytkpmdfgjaodlaaa
