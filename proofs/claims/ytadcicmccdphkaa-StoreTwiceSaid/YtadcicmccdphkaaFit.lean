/-
  What was placed fits, and no other pair of bytes does; one other byte is found. Plain numbers. No statement is proved here; no conditions.
-/
import Derived.Test.YtadcicmccdphkaaPlace
namespace Go.Proofs.Ytadcicmccdphkaa
open Go.RowKit

theorem two_at (l : List Int) (a : Nat) (x y : Int) (h : a + 2 ≤ l.length) : (two l a x y)[a]? = some x := by
  simp only [two, List.getElem?_set, List.length_set]
  rw [if_neg (by omega), if_pos trivial, if_pos (by omega)]
theorem two_at1 (l : List Int) (a : Nat) (x y : Int) (h : a + 2 ≤ l.length) : (two l a x y)[a + 1]? = some y := by
  simp only [two, List.getElem?_set, List.length_set]
  rw [if_pos trivial, if_pos (by omega)]
theorem get_of {l : List Int} {i : Nat} {x : Int} (h : l[i]? = some x) : ∃ hi : i < l.length, l[i] = x := List.getElem?_eq_some_iff.1 h
theorem set_at1 (l : List Int) (a : Nat) (x y : Int) (v : Int) (h : a + 2 ≤ l.length) : ((two l a x y).set a v)[a + 1]? = some y := by
  rw [List.getElem?_set, if_neg (by omega)]; exact two_at1 l a x y h
theorem two_s0 (l : List Int) (a : Nat) (x y : Int) (h : a + 2 ≤ l.length) : s0 (two l a x y) = s0 (two l a 0 0) + x + y := by
  obtain ⟨h1, e1⟩ := get_of (two_at l a 0 0 h)
  obtain ⟨h2, e2⟩ := get_of (set_at1 l a 0 0 x h)
  rw [← two_two l a 0 0 x y]
  show s0 (((two l a 0 0).set a x).set (a + 1) y) = _
  rw [s0_set _ _ _ h2, s0_set _ _ _ h1, e1, e2]
  omega
theorem two_s1 (l : List Int) (a : Nat) (x y : Int) (h : a + 2 ≤ l.length) : s1 (two l a x y) = s1 (two l a 0 0) + ((l.length : Int) - a) * x + ((l.length : Int) - a - 1) * y := by
  obtain ⟨h1, e1⟩ := get_of (two_at l a 0 0 h)
  obtain ⟨h2, e2⟩ := get_of (set_at1 l a 0 0 x h)
  rw [← two_two l a 0 0 x y]
  show s1 (((two l a 0 0).set a x).set (a + 1) y) = _
  rw [s1_set _ _ _ h2, s1_set _ _ _ h1, e1, e2, List.length_set, two_length]
  rw [show (l.length : Int) - ((a + 1 : Nat) : Int) = (l.length : Int) - a - 1 by omega, Int.sub_zero, Int.sub_zero]

theorem nz_eq (n : Int) : ∃ u, nz n = n + 255 * u := ⟨-((n - 1) / 255), by unfold nz; omega⟩
theorem nz_of (n x : Int) (u : Int) (h : x = n + 255 * u) (h1 : 1 ≤ x) (h2 : x ≤ 255) : nz n = x := by unfold nz; omega
theorem place_fits (l : List Int) (a : Nat) (h : a + 2 ≤ l.length) : p0 (placed l a) = 0 ∧ p1 (placed l a) = 0 := by
  have e0 := two_s0 l a (placeX l a) (placeY l a) h
  have e1 := two_s1 l a (placeX l a) (placeY l a) h
  obtain ⟨u, hu⟩ := nz_eq (fst1 l a)
  obtain ⟨v, hv⟩ := nz_eq (-p0 (two l a 0 0) - fst1 l a)
  have hX : placeX l a = fst1 l a + 255 * u := hu
  have hY : placeY l a = -p0 (two l a 0 0) - fst1 l a + 255 * v := hv
  have hF : fst1 l a = ((l.length : Int) - a - 1) * p0 (two l a 0 0) - p1 (two l a 0 0) := rfl
  have hp : s0 (two l a 0 0) = p0 (two l a 0 0) + 255 * (s0 (two l a 0 0) / 255) := by unfold p0; omega
  have hq : s1 (two l a 0 0) = p1 (two l a 0 0) + 255 * (s1 (two l a 0 0) / 255) := by unfold p1; omega
  have g0 : s0 (placed l a) = 255 * (s0 (two l a 0 0) / 255 + u + v) := by
    show s0 (two l a (placeX l a) (placeY l a)) = _
    rw [e0, hX, hY]; omega
  have g1 : s1 (placed l a) = 255 * (s1 (two l a 0 0) / 255 + ((l.length : Int) - a) * u + ((l.length : Int) - a - 1) * v) := by
    show s1 (two l a (placeX l a) (placeY l a)) = _
    rw [e1, hX, hY]
    generalize s1 (two l a 0 0) / 255 = q at hq ⊢
    generalize p0 (two l a 0 0) = X at hF ⊢
    generalize s1 (two l a 0 0) = S at hq ⊢
    generalize p1 (two l a 0 0) = Y at hF hq ⊢
    generalize fst1 l a = F at hF ⊢
    generalize (l.length : Int) - a = T at hF ⊢
    grind
  constructor
  · unfold p0; rw [g0]; omega
  · unfold p1; rw [g1]; omega

/-- What the reference asks of a first byte: only one is right. -/
theorem right_x (l : List Int) (a : Nat) (x : Int) (h1 : 1 ≤ x) (h2 : x ≤ 255) :
    (p1 (two l a 0 0) + x * ((l.length : Int) - a) + nz (-p0 (two l a 0 0) - x) * ((l.length : Int) - a - 1)) % 255 = 0 ↔ x = placeX l a := by
  obtain ⟨v, hv⟩ := nz_eq (-p0 (two l a 0 0) - x)
  have hF : fst1 l a = ((l.length : Int) - a - 1) * p0 (two l a 0 0) - p1 (two l a 0 0) := rfl
  have e : p1 (two l a 0 0) + x * ((l.length : Int) - a) + nz (-p0 (two l a 0 0) - x) * ((l.length : Int) - a - 1) = x - fst1 l a + 255 * (v * ((l.length : Int) - a - 1)) := by
    rw [hv]
    generalize p0 (two l a 0 0) = X at hF ⊢
    generalize p1 (two l a 0 0) = Y at hF ⊢
    generalize fst1 l a = F at hF ⊢
    generalize (l.length : Int) - a = T at hF ⊢
    grind
  rw [e]
  constructor
  · intro hm
    exact (nz_of _ x ((x - fst1 l a) / 255) (by omega) h1 h2).symm
  · intro hx
    obtain ⟨u, hu⟩ := nz_eq (fst1 l a)
    have : placeX l a = fst1 l a + 255 * u := hu
    omega
theorem right_y (l : List Int) (a : Nat) : nz (-p0 (two l a 0 0) - placeX l a) = placeY l a := by
  obtain ⟨u, hu⟩ := nz_eq (fst1 l a)
  have h : placeX l a = fst1 l a + 255 * u := hu
  unfold placeY
  rw [h]; unfold nz; omega
theorem placeX_bd (l : List Int) (a : Nat) : 1 ≤ placeX l a ∧ placeX l a ≤ 255 := nz_bd _
theorem placeY_bd (l : List Int) (a : Nat) : 1 ≤ placeY l a ∧ placeY l a ≤ 255 := nz_bd _

/-- A row that fits does not with one other byte, but 0 for 255. -/
theorem found_fits (l : List Int) (hy : Byt l) (k : Nat) (v : Int) (hk : k < l.length) (hv0 : 0 ≤ v) (hv1 : v < 256) (hf : p0 l = 0) (hf' : p0 (l.set k v) = 0) : l[k] = v ∨ (l[k] = 0 ∧ v = 255) ∨ (l[k] = 255 ∧ v = 0) := by
  have hx := hy l[k] (List.getElem_mem hk)
  unfold p0 at hf hf'
  rw [s0_set l k v hk] at hf'
  omega
end Go.Proofs.Ytadcicmccdphkaa
