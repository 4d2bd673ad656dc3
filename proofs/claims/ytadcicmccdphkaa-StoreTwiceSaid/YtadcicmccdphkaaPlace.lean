/-
  Contract of the program's Place. No statement is proved here.
-/
import Derived.Test.YtadcicmccdphkaaPair
import Derived.Test.YtadcicmccdphkaaMemG
namespace Go.Proofs.Ytadcicmccdphkaa
open Go.RowKit

theorem Own.set {k : IntKind} {e : TypeId} {w : World} {base g c : Nat} {l : List Int} (h : Own k e w base (some ⟨g, 0, none⟩) c l) (i : Nat) (v : Int) : Own k e (w.setCell ⟨g, i, none⟩ (.int k v)) base (some ⟨g, 0, none⟩) c (l.set i v) := by
  have h' := (World.ownsRow.stored h i (.int k v)).1
  have e1 : (l.map (Value.int k)).set i (.int k v) = (l.set i v).map (Value.int k) := by rw [List.map_set]
  rw [e1] at h'
  unfold Own
  rw [List.length_set]
  exact h'
theorem Own.frozen {k : IntKind} {e : TypeId} {w : World} {base g c : Nat} {l : List Int} (h : Own k e w base (some ⟨g, 0, none⟩) c l) (i : Nat) : w.frozen? ⟨g, i, none⟩ = false := World.ownsRow.frozenAt h i
theorem Own.far {k : IntKind} {e : TypeId} {w : World} {base c : Nat} {A : Option Addr} {l : List Int} (h : Own k e w base A c l) {p : Addr} (hp : p.block < base) (v : Value) : Own k e (w.setCell p v) base A c l :=
  h.kept fun g hg _ => Below.heap_setCell w p v g (by omega)
theorem Own.cellAt {k : IntKind} {e : TypeId} {w : World} {base g c : Nat} {l : List Int} (h : Own k e w base (some ⟨g, 0, none⟩) c l) {i : Nat} (hi : i < l.length) : w.cell? ⟨g, i, none⟩ = some (.int k (l.getD i 0)) := by
  obtain ⟨b, off, hA, -, hc⟩ := h.bs.at_ hi
  injection hA with hA
  injection hA with h1 h2
  subst h1 h2
  rwa [Nat.zero_add] at hc
theorem Byt.set {l : List Int} (h : Byt l) (i : Nat) (v : Int) (h0 : 0 ≤ v) (h1 : v < 256) : Byt (l.set i v) := by
  intro x hx
  rcases List.mem_or_eq_of_mem_set hx with hx | rfl
  · exact h x hx
  · exact ⟨h0, h1⟩

/-- Two bytes from a place on replaced. -/
def two (l : List Int) (a : Nat) (x y : Int) : List Int := (l.set a x).set (a + 1) y
theorem two_length (l : List Int) (a : Nat) (x y : Int) : (two l a x y).length = l.length := by simp [two]
theorem two_byt {l : List Int} (h : Byt l) (a : Nat) (x y : Int) (hx : 0 ≤ x ∧ x < 256) (hy : 0 ≤ y ∧ y < 256) : Byt (two l a x y) := (h.set a x hx.1 hx.2).set _ y hy.1 hy.2
theorem two_two (l : List Int) (a : Nat) (x y u v : Int) : two (two l a x y) a u v = two l a u v := by
  apply List.ext_getElem?
  intro i
  simp only [two, List.getElem?_set, List.length_set]
  by_cases h1 : a + 1 = i
  · simp [h1]
  · by_cases h2 : a = i
    · simp [h2]
    · simp [h1, h2]

/-- The number of the first byte, from which it is made. -/
def fst1 (l : List Int) (a : Nat) : Int := (l.length - a - 1) * p0 (two l a 0 0) - p1 (two l a 0 0)
def placeX (l : List Int) (a : Nat) : Int := nz (fst1 l a)
def placeY (l : List Int) (a : Nat) : Int := nz (-p0 (two l a 0 0) - fst1 l a)
def placed (l : List Int) (a : Nat) : List Int := two l a (placeX l a) (placeY l a)

theorem place_no (A : Option Addr) (c : Nat) (l : List Int) (a : Int) (w : World) (hl : l.length ≤ 4000) (h : a < 0 ∨ (l.length : Int) - 2 < a) :
    Calls Try.prog 37 #[.slice A l.length c, .int .i64 a] w fun e w' => e = .returned (.tuple #[.slice none 0 0, .int .i64 1]) ∧ w = w' := by
  rcases h with h | h
  · go_enter Try.func37, Try.ntmps37
    go_wp2
    go_ret2
    exact ⟨rfl, rfl⟩
  · by_cases h0 : a < 0
    · go_enter Try.func37, Try.ntmps37
      go_wp2
      go_ret2
      exact ⟨rfl, rfl⟩
    · go_enter Try.func37, Try.ntmps37
      go_wp2
      go_ret2
      exact ⟨rfl, rfl⟩

set_option maxHeartbeats 1000000 in
theorem place_ok (A : Option Addr) (c : Nat) (l : List Int) (B : Nat) (a : Nat) (w : World) (hb : Bs .u8 w B A l) (hy : Byt l) (hB : B ≤ w.heap.size) (hl : l.length ≤ 4000) (h : a + 2 ≤ l.length) :
    Calls Try.prog 37 #[.slice A l.length c, .int .i64 a] w fun e w' => ∃ A' c' L, Hid (L = placed l a) ∧ e = .returned (.tuple #[.slice A' L.length c', .int .i64 0]) ∧ Own .u8 5 w' w.heap.size A' c' L ∧ Below w.heap.size w w' := by
  obtain ⟨i0, hi, hz0, hz1, hz2⟩ := info_parts info5
  obtain ⟨z, w1, hz, hmk, hO, hB1⟩ := mk_own (P := Try.prog) w 32 5 .u8 i0 Try.underlying32 hi hz0 hz1 .i64 .i64 l.length l.length l.length l.length rfl rfl (Nat.le_refl _) (by rw [hz2]; omega) (by unfold maxLen; omega)
  have hb1 := hb.below (hB1.mono hB)
  have HR := Lib.hid hz
  clear hz
  have t1 : ¬ (a : Int) < 0 := by omega
  have t2 : ¬ ((l.length : Int) - 2 < (a : Int)) := by omega
  have t3 : ¬ (4000 < (l.length : Int)) := by omega
  go_enter Try.func37, Try.ntmps37
  go_wp2_with ((with_reducible refine wpList_cp (o := ⟨some 30, _, _, _, _, _⟩) _ rfl (.tmp 28) (.tmp 29) 32 32 rfl w.heap.size 5 .u8 Try.underlying32 (by kernel_rfl) _ l.length z rfl hO B A c l rfl hb1 (by rw [HR.out]; exact Nat.le_refl _) ?_); intro w2 hO2 hB2; rw [List.drop_eq_nil_of_le (by rw [HR.out]; exact Nat.le_refl _), List.append_nil] at hO2; rw [HR.out]; have hc1 := hO2.cellAt (i := a) (by omega); have hf1 := hO2.frozen a; have hO3 := hO2.set a 0; have hc2 := hO3.cellAt (i := a + 1) (by rw [List.length_set]; omega); have hf2 := hO3.frozen (a + 1); have hO4 := hO3.set (a + 1) 0; have hbz := hO4.bs)
  have hP := pair_any (some ⟨w.heap.size, 0, none⟩) l.length (two l a 0 0) _ _ hbz (two_byt hy a 0 0 (by decide) (by decide)) (by rw [two_length]; omega)
  rw [two_length] at hP
  refine hP.mono ?_
  rintro e w' ⟨rfl, rfl⟩
  have hB4 : Below w.heap.size w _ := ((hB1.trans hB2).setCell (p := ⟨w.heap.size, a, none⟩) (Nat.le_refl _) (.int .u8 0)).setCell (p := ⟨w.heap.size, a + 1, none⟩) (Nat.le_refl _) (.int .u8 0)
  change Own .u8 5 _ w.heap.size _ _ (two l a 0 0) at hO4
  generalize (w2.setCell ⟨w.heap.size, a, none⟩ (.int .u8 0)).setCell ⟨w.heap.size, a + 1, none⟩ (.int .u8 0) = w4 at hO4 hB4 ⊢
  clear hP hbz hO3 hc1 hc2 hf1 hf2 hO2 hB2 hB1 hb1 hO hmk w2 hb hi hz0 hz1 hz2
  obtain ⟨X, hX⟩ : ∃ X, Hid (p0 (two l a 0 0) = X) := ⟨_, rfl⟩
  obtain ⟨Y, hY⟩ : ∃ Y, Hid (p1 (two l a 0 0) = Y) := ⟨_, rfl⟩
  have bX := p0_bd (two l a 0 0)
  have bY := p1_bd (two l a 0 0)
  rw [hX.out] at bX
  rw [hY.out] at bY
  rw [hX.out, hY.out]
  obtain ⟨bX0, bX1⟩ := bX
  obtain ⟨bY0, bY1⟩ := bY
  have hm0 : 0 ≤ ((l.length : Int) - a - 1) * X := Int.mul_nonneg (by omega) bX0
  have hm1 : ((l.length : Int) - a - 1) * X ≤ 4000 * 255 := Int.mul_le_mul (by omega) (by omega) bX0 (by omega)
  have HP : Hid (placed l a = two (two l a 0 0) a (nz (((l.length : Int) - a - 1) * X - Y)) (nz (-X - (((l.length : Int) - a - 1) * X - Y)))) := by
    show _ = _
    rw [two_two]; unfold placed placeX placeY fst1; rw [hX.out, hY.out]
  have hc1 := hO4.cellAt (i := a) (by rw [two_length]; omega)
  have hf1 := hO4.frozen a
  have hO5 := hO4.set a (nz (((l.length : Int) - a - 1) * X - Y))
  have hc2 := hO5.cellAt (i := a + 1) (by rw [List.length_set, two_length]; omega)
  have hf2 := hO5.frozen (a + 1)
  have hO6 := hO5.set (a + 1) (nz (-X - (((l.length : Int) - a - 1) * X - Y)))
  clear hO4 hO5
  go_wp2_with (go_at_call 56; refine (nonzero_any _ _ (by omega) (by omega)).mono ?_; rintro e w' ⟨rfl, rfl⟩)
  go_ret2
  refine ⟨_, _, _, HP.out.symm, ?_, hO6, ?_⟩
  · show _ = Ending.returned (.tuple #[.slice _ ((two l a 0 0).set a _ |>.set (a + 1) _).length _, _])
    rw [List.length_set, List.length_set, two_length]
    rfl
  · exact (hB4.setCell (p := ⟨w.heap.size, a, none⟩) (Nat.le_refl _) _).setCell (p := ⟨w.heap.size, a + 1, none⟩) (Nat.le_refl _) _
end Go.Proofs.Ytadcicmccdphkaa
