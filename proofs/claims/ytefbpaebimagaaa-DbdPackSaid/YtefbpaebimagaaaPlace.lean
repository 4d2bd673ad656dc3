/-
  Contract of the program's Place. No statement is proved here.
-/
import Derived.Test.YtefbpaebimagaaaPair
import Derived.Test.YtefbpaebimagaaaMemG
namespace Go.Proofs.Ytefbpaebimagaaa
open Go.RowKit

theorem Own.set {k : IntKind} {e : TypeId} {w : World} {base g c : Nat} {l : List Int} (h : Own k e w base (some ⟨g, 0, none⟩) c l) (i : Nat) (v : Int) : Own k e (w.setCell ⟨g, i, none⟩ (.int k v)) base (some ⟨g, 0, none⟩) c (l.set i v) := by
  have h' := (World.ownsRow.stored h i (.int k v)).1
  have e1 : (l.map (Value.int k)).set i (.int k v) = (l.set i v).map (Value.int k) := by rw [List.map_set]
  rw [e1] at h'
  unfold Own
  rw [List.length_set]
  exact h'
theorem Own.frozen {k : IntKind} {e : TypeId} {w : World} {base g c : Nat} {l : List Int} (h : Own k e w base (some ⟨g, 0, none⟩) c l) (i : Nat) : w.frozen? ⟨g, i, none⟩ = false := World.ownsRow.frozenAt h i
theorem Own.far {k : IntKind} {e : TypeId} {w : World} {base c : Nat} {A : Option Addr} {l : List Int} (h : Own k e w base A c l) {p : Addr} (hp : p.block < base) (v : Value) : Own k e (w.setCell p v) base A c l :=
  h.kept fun g hg _ => Below.heap_setCell w p v g (by omega)
theorem Own.cellAt {k : IntKind} {e : TypeId} {w : World} {base g c : Nat} {l : List Int} (h : Own k e w base (some ⟨g, 0, none⟩) c l) {i : Nat} (hi : i < l.length) : w.cell? ⟨g, i, none⟩ = some (.int k (l.getD i 0)) := by
  obtain ⟨b, off, hA, -, hc⟩ := h.bs.at_ hi
  injection hA with hA
  injection hA with h1 h2
  subst h1 h2
  rwa [Nat.zero_add] at hc
theorem Byt.set {l : List Int} (h : Byt l) (i : Nat) (v : Int) (h0 : 0 ≤ v) (h1 : v < 256) : Byt (l.set i v) := by
  intro x hx
  rcases List.mem_or_eq_of_mem_set hx with hx | rfl
  · exact h x hx
  · exact ⟨h0, h1⟩

/-- Two bytes from a place on replaced. -/
def two (l : List Int) (a : Nat) (x y : Int) : List Int := (l.set a x).set (a + 1) y
theorem two_length (l : List Int) (a : Nat) (x y : Int) : (two l a x y).length = l.length := by simp [two]
theorem two_byt {l : List Int} (h : Byt l) (a : Nat) (x y : Int) (hx : 0 ≤ x ∧ x < 256) (hy : 0 ≤ y ∧ y < 256) : Byt (two l a x y) := (h.set a x hx.1 hx.2).set _ y hy.1 hy.2
theorem two_two (l : List Int) (a : Nat) (x y u v : Int) : two (two l a x y) a u v = two l a u v := by
  apply List.ext_getElem?
  intro i
  simp only [two, List.getElem?_set, List.length_set]
  by_cases h1 : a + 1 = i
  · simp [h1]
  · by_cases h2 : a = i
    · simp [h2]
    · simp [h1, h2]

/-- The number of the first byte, from which it is made. -/
def fst1 (l : List Int) (a : Nat) : Int := (l.length - a - 1) * p0 (two l a 0 0) - p1 (two l a 0 0)
def placeX (l : List Int) (a : Nat) : Int := nz (fst1 l a)
def placeY (l : List Int) (a : Nat) : Int := nz (-p0 (two l a 0 0) - fst1 l a)
def placed (l : List Int) (a : Nat) : List Int := two l a (placeX l a) (placeY l a)

end Go.Proofs.Ytefbpaebimagaaa
