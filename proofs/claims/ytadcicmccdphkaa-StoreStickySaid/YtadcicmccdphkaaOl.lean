/-
  The contract of lsa's Older. No statement is proved here; no conditions.
-/
import Derived.Test.YtadcicmccdphkaaEn
namespace Go.Proofs.Ytadcicmccdphkaa
open Go.RowKit Go.Joins

/-- The header when by more seconds have passed. -/
def old (h : Hd) (y : Int) : Hd := if 0 < y then ⟨h.a + min y (3600 - h.a), h.o, h.t, h.i, h.v, h.q, h.s, h.n⟩ else h
theorem old_may {h : Hd} {y : Int} (hm : mayd h = true) : mayd (old h y) = true := by
  obtain ⟨h1, h2, h3, h4, h5, h6⟩ := (mayd_iff h).1 hm
  unfold old
  split
  · refine (mayd_iff _).2 ⟨?_, h2, h3, h4, h5, h6⟩
    show 0 ≤ h.a + min y (3600 - h.a) ∧ h.a + min y (3600 - h.a) ≤ 3600
    omega
  · exact hm
theorem old_n (h : Hd) (y : Int) : (old h y).n = h.n := by
  unfold old
  split <;> rfl
theorem old_ok {h : Hd} {y : Int} (ok : Okd h) : Okd (old h y) := by
  unfold old
  split
  · exact ⟨ok.i, ok.v, ok.q⟩
  · exact ok
theorem old_smd (h : Hd) (y : Int) (l : List Int) : smd (old h y) l = smd h l := by
  have e : ∀ (h : Hd), smd h l = be h.o 1 ++ (be h.t 1 ++ (be h.i 4 ++ (be h.v 4 ++ (be h.q 4 ++ (be h.s 2 ++ be h.n 2))))) ++ l := fun h => by
    unfold smd ehd
    rw [List.append_assoc, List.drop_left' (be_length _ _)]
  rw [e, e]
  unfold old
  split <;> rfl
/-- It is whole still. -/
theorem old_whl {h : Hd} {l : List Int} (y : Int) (hw : whl h l = true) : whl (old h y) l = true := by
  unfold whl maya fit at *
  rw [old_smd, old_n]
  simp only [Bool.and_eq_true] at hw ⊢
  exact ⟨⟨old_may hw.1.1, hw.1.2⟩, hw.2⟩
end Go.Proofs.Ytadcicmccdphkaa
