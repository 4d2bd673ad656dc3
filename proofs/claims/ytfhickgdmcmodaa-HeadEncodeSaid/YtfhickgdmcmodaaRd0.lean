/-
  The contract of the reference's Decode. No statement is proved here; no conditions.
-/
import Derived.Test.YtfhickgdmcmodaaREn
namespace Go.Proofs.Ytfhickgdmcmodaa
open Go.RowKit Go.Joins

theorem Own.set {k : IntKind} {e : TypeId} {w : World} {base g c : Nat} {l : List Int} (h : Own k e w base (some ⟨g, 0, none⟩) c l) (i : Nat) (v : Int) : Own k e (w.setCell ⟨g, i, none⟩ (.int k v)) base (some ⟨g, 0, none⟩) c (l.set i v) := by
  have h' := (World.ownsRow.stored h i (.int k v)).1
  have e1 : (l.map (Value.int k)).set i (.int k v) = (l.set i v).map (Value.int k) := by rw [List.map_set]
  rw [e1] at h'
  unfold Own
  rw [List.length_set]
  exact h'
theorem Own.frozen {k : IntKind} {e : TypeId} {w : World} {base g c : Nat} {l : List Int} (h : Own k e w base (some ⟨g, 0, none⟩) c l) (i : Nat) : w.frozen? ⟨g, i, none⟩ = false := World.ownsRow.frozenAt h i
theorem Own.far {k : IntKind} {e : TypeId} {w : World} {base c : Nat} {A : Option Addr} {l : List Int} (h : Own k e w base A c l) {p : Addr} (hp : p.block < base) (v : Value) : Own k e (w.setCell p v) base A c l :=
  h.kept fun g hg _ => Below.heap_setCell w p v g (by omega)

theorem Own.cellAt {k : IntKind} {e : TypeId} {w : World} {base g c : Nat} {l : List Int} (h : Own k e w base (some ⟨g, 0, none⟩) c l) {i : Nat} (hi : i < l.length) : w.cell? ⟨g, i, none⟩ = some (.int k (l.getD i 0)) := by
  obtain ⟨b, off, hA, -, hc⟩ := h.bs.at_ hi
  injection hA with hA
  injection hA with h1 h2
  subst h1 h2
  rwa [Nat.zero_add] at hc
theorem Bs.blk {k : IntKind} {w : World} {B g o : Nat} {l : List Int} (h : Bs k w B (some ⟨g, o, none⟩) l) (hl : l ≠ []) : g < B := by
  obtain ⟨b, off, hA, hb, -⟩ := h hl
  injection hA with hA
  injection hA with h1 _
  omega

theorem take_sub (l : List Int) (i k : Nat) : l.take (i + k) = l.take i ++ sub l i k := by
  unfold sub
  exact List.take_add
theorem be_sub {l : List Int} (hy : Byt l) (i k : Nat) (h : i + k ≤ l.length) : be (num (sub l i k)) k = sub l i k := by
  have := be_num (sub l i k) (sub_byt hy i k)
  rwa [sub_len h] at this
theorem sub_one {l : List Int} (i : Nat) (h : i < l.length) : sub l i 1 = [l.getD i 0] := by
  apply List.ext_getElem?
  intro j
  rcases j with _ | j
  · simp [sub, List.getD, h]
  · simp [sub]
    omega
/-- The sum over what the bytes say is that over the bytes. -/
theorem ck_dec {l : List Int} (hy : Byt l) (h24 : 24 ≤ l.length) (h0 : l.getD 0 0 = 2) (h1 : mayT (l.getD 1 0) = true) (h2 : num (sub l 2 2) = (l.length : Int)) : inet (ahd (dec l) 0 ++ l.drop 24) = ck l := by
  have ht : 1 ≤ l.getD 1 0 ∧ l.getD 1 0 ≤ 5 := by simpa [mayT] using h1
  have e : ahd (dec l) 0 = l.take 12 ++ ([0, 0] ++ sub l 14 2) := by
    have a1 : l.take 12 = sub l 0 1 ++ sub l 1 1 ++ sub l 2 2 ++ sub l 4 4 ++ sub l 8 4 := by
      rw [show (12 : Nat) = 8 + 4 by rfl, take_sub, show (8 : Nat) = 4 + 4 by rfl, take_sub, show (4 : Nat) = 2 + 2 by rfl, take_sub l 2 2, show (2 : Nat) = 1 + 1 by rfl, take_sub l 1 1, show (1 : Nat) = 0 + 1 by rfl, take_sub l 0 1]
      simp
    have a2 : 24 + ((dec l).b.length : Int) = (l.length : Int) := by simp [dec]; omega
    unfold ahd
    rw [a2, a1, ← h2, be_sub hy 2 2 (by omega)]
    show be 2 1 ++ (be (l.getD 1 0) 1 ++ (sub l 2 2 ++ (be (num (sub l 4 4)) 4 ++ (be (num (sub l 8 4)) 4 ++ (be 0 2 ++ be (num (sub l 14 2)) 2))))) = _
    rw [be_sub hy 4 4 (by omega), be_sub hy 8 4 (by omega), be_sub hy 14 2 (by omega), be1 (l.getD 1 0) (by omega) (by omega), sub_one 0 (by omega), sub_one 1 (by omega), h0, show be 2 1 = [2] by decide, show be 0 2 = [0, 0] by decide]
    simp
  rw [e]
  unfold ck
  simp [sub]
theorem dec_b (l : List Int) : (dec l).b = l.drop 24 := rfl
/-- A byte that is written already, or not yet. -/
def cel (j k : Nat) (h : Int) : Value := .int .u8 (if k < j then h else 0)
theorem cel_set (v0 v1 v2 v3 v12 : Value) (h0 h1 h2 h3 h4 h5 h6 h7 : Int) (j : Nat) (hj : j < 8) :
    (#[v0, v1, v2, v3, cel j 0 h0, cel j 1 h1, cel j 2 h2, cel j 3 h3, cel j 4 h4, cel j 5 h5, cel j 6 h6, cel j 7 h7, v12] : Array Value).setIfInBounds (4 + j) (.int .u8 ([h0, h1, h2, h3, h4, h5, h6, h7].getD j 0)) = #[v0, v1, v2, v3, cel (j + 1) 0 h0, cel (j + 1) 1 h1, cel (j + 1) 2 h2, cel (j + 1) 3 h3, cel (j + 1) 4 h4, cel (j + 1) 5 h5, cel (j + 1) 6 h6, cel (j + 1) 7 h7, v12] := by
  have : j = 0 ∨ j = 1 ∨ j = 2 ∨ j = 3 ∨ j = 4 ∨ j = 5 ∨ j = 6 ∨ j = 7 := by omega
  rcases this with rfl | rfl | rfl | rfl | rfl | rfl | rfl | rfl <;> simp [cel]
theorem cel_at (v0 v1 v2 v3 v12 : Value) (h0 h1 h2 h3 h4 h5 h6 h7 : Int) (j : Nat) (hj : j < 8) :
    (#[v0, v1, v2, v3, cel j 0 h0, cel j 1 h1, cel j 2 h2, cel j 3 h3, cel j 4 h4, cel j 5 h5, cel j 6 h6, cel j 7 h7, v12] : Array Value)[4 + j]? = some (.int .u8 0) := by
  have : j = 0 ∨ j = 1 ∨ j = 2 ∨ j = 3 ∨ j = 4 ∨ j = 5 ∨ j = 6 ∨ j = 7 := by omega
  rcases this with rfl | rfl | rfl | rfl | rfl | rfl | rfl | rfl <;> simp [cel]
end Go.Proofs.Ytfhickgdmcmodaa
