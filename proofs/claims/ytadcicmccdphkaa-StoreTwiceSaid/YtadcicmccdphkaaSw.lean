/-
  What is sealed is whole. No statement is proved here; no conditions.
-/
import Derived.Test.YtadcicmccdphkaaSe
namespace Go.Proofs.Ytadcicmccdphkaa
open Go.RowKit Go.Joins

/-- The bytes under the sum ahead of it. -/
def hdm (h : Hd) : List Int := be h.o 1 ++ (be h.t 1 ++ (be h.i 4 ++ (be h.v 4 ++ be h.q 4)))
theorem hdm_length (h : Hd) : (hdm h).length = 14 := by simp [hdm, be_length]
theorem smd_eq (h : Hd) (l : List Int) : smd h l = hdm h ++ (be h.s 2 ++ (be h.n 2 ++ l)) := by
  unfold smd ehd hdm
  rw [List.append_assoc, List.drop_left' (be_length _ _)]
  simp only [List.append_assoc]
theorem two_mid (M R : List Int) (a b x y : Int) (h : M.length = 14) : two (M ++ ([a, b] ++ R)) 14 x y = M ++ ([x, y] ++ R) := by
  unfold two
  rw [List.set_append_right _ _ (by omega), h, List.set_append_right _ _ (by omega), h]
  simp
theorem sub_two (M R : List Int) (x y : Int) (h : M.length = 14) : sub (M ++ ([x, y] ++ R)) 14 2 = [x, y] := sub_mid M [x, y] R 14 2 h rfl
theorem sck_eq (h : Hd) (l : List Int) (n : Nat) (_hn : l.length = n) : ∃ X Y : Int, (1 ≤ X ∧ X ≤ 255) ∧ (1 ≤ Y ∧ Y ≤ 255) ∧ sck h l n = X * 256 + Y ∧ placed (smd (sl h 0 (20 + (n : Int))) l) 14 = smd (sl h (sck h l n) (20 + (n : Int))) l := by
  obtain ⟨S, hS⟩ : ∃ S, smd (sl h 0 (20 + (n : Int))) l = S := ⟨_, rfl⟩
  have hx := placeX_bd S 14
  have hy := placeY_bd S 14
  have hp : placed S 14 = hdm h ++ ([placeX S 14, placeY S 14] ++ (be (20 + (n : Int)) 2 ++ l)) := by
    unfold placed
    generalize placeX S 14 = X
    generalize placeY S 14 = Y
    rw [← hS, smd_eq, be2 (sl h 0 (20 + (n : Int))).s (Int.le_refl 0) (show (0 : Int) < 65536 by decide)]
    exact two_mid (hdm h) (be (20 + (n : Int)) 2 ++ l) _ _ X Y (hdm_length h)
  have hc : sck h l n = placeX S 14 * 256 + placeY S 14 := by
    unfold sck
    rw [hS, hp, sub_two _ _ _ _ (hdm_length h)]
    simp [num]
  refine ⟨placeX S 14, placeY S 14, hx, hy, hc, ?_⟩
  rw [hS, hp, smd_eq]
  have e : be (sl h (sck h l n) (20 + (n : Int))).s 2 = [placeX S 14, placeY S 14] := by
    show be (sck h l n) 2 = _
    rw [hc, be2 _ (by omega) (by omega)]
    congr 1
    · omega
    · congr 1
      omega
  rw [e]
  rfl
/-- What is sealed is whole. -/
theorem seal_whl {h : Hd} {l : List Int} {n : Nat} (hn : l.length = n) (hm : mayd (sl h 0 (20 + (n : Int))) = true) : whl (sl h (sck h l n) (20 + (n : Int))) l = true := by
  obtain ⟨X, Y, hX, hY, hc, hp⟩ := sck_eq h l n hn
  obtain ⟨h1, h2, h3, h4, h5, h6⟩ := (mayd_iff _).1 hm
  have hf := place_fits (smd (sl h 0 (20 + (n : Int))) l) 14 (by rw [smd_length]; omega)
  rw [hp] at hf
  have hm2 : mayd (sl h (sck h l n) (20 + (n : Int))) = true := (mayd_iff _).2 ⟨h1, h2, h3, h4, by show 0 ≤ sck h l n ∧ sck h l n ≤ 65535; omega, h6⟩
  unfold whl maya fit
  rw [hm2, hf.1, hf.2]
  simp [sl, hn]
theorem whl_iff {h : Hd} {l : List Int} (hw : whl h l = true) : mayd h = true ∧ h.n = 20 + (l.length : Int) ∧ p0 (smd h l) = 0 := by
  unfold whl maya fit at hw
  simp only [Bool.and_eq_true, decide_eq_true_eq, beq_iff_eq] at hw
  exact ⟨hw.1.1, hw.1.2, hw.2.1⟩
end Go.Proofs.Ytadcicmccdphkaa
