/-
  Contracts of bytes.Clone and of lsa's fresh. No statement is proved here; no conditions.
-/
import Derived.Test.YtefbpaebimagaaaLs
import Derived.Lib.SliceRun
namespace Go.Proofs.Ytefbpaebimagaaa
open Go.RowKit Go.Joins

theorem cell_st8 {W : World} {b : Nat} {p : Addr} (h : p.block ≠ b) (u0 u1 u2 u3 u4 u5 u6 u7 : Value) : (st8 W b u0 u1 u2 u3 u4 u5 u6 u7).cell? p = W.cell? p := World.cell?_of_block (far_st8 h u0 u1 u2 u3 u4 u5 u6 u7)
theorem cell_st9 {W : World} {b : Nat} {p : Addr} (h : p.block ≠ b) (u0 u1 u2 u3 u4 u5 u6 u7 u8 : Value) : (st9 W b u0 u1 u2 u3 u4 u5 u6 u7 u8).cell? p = W.cell? p := World.cell?_of_block (far_st9 h u0 u1 u2 u3 u4 u5 u6 u7 u8)
set_option maxRecDepth 100000 in
theorem clone_any (A : Option Addr) (n c : Nat) (l : List Int) (w : World) (hn : l.length = n) (hb : Bt w A l) (hl : n ≤ 100000) :
    Calls Try.prog 76 #[.slice A n c] w fun e w' => ∃ A' c', e = .returned (.slice A' n c') ∧ Own .u8 5 w' w.heap.size A' c' l ∧ Below w.heap.size w w' := by
  by_cases hA : A = none
  · have hl0 : l = [] := by
      by_cases h : l = []
      · exact h
      · obtain ⟨b, off, h1, _⟩ := hb h
        rw [hA] at h1
        cases h1
    subst hA hl0
    subst hn
    have hq := Lib.run_eql_slice_nil (P := Try.prog) w 26 5 none 0 c 0 0 Try.underlying26
    go_enter Try.func76, Try.ntmps76
    go_wp2
    go_ret
    exact ⟨none, 0, rfl, Own.nil _ _, Below.refl _ _⟩
  obtain ⟨a, rfl⟩ := Option.ne_none_iff_exists'.1 hA
  clear hA
  obtain ⟨W1, hW1⟩ : ∃ V, w.alloc (.cells #[] 5) = V := ⟨_, rfl⟩
  have b1 : Below w.heap.size w W1 := by rw [← hW1]; exact below_alloc1 _ _
  have o1 : Own .u8 5 W1 w.heap.size (some ⟨w.heap.size, 0, none⟩) 0 [] := by
    rw [← hW1]
    exact Own.empty w _ (Nat.le_refl _) _ _
  obtain ⟨i0, hi0, hz0, hz1, hz2⟩ := info_of info5
  have hq := Lib.run_eql_slice_nil (P := Try.prog) w 26 5 (some a) n c 0 0 Try.underlying26
  obtain ⟨A2, c2, W2, rW2, oW2, tW2⟩ := run_app (P := Try.prog) W1 w.heap.size 26 26 5 .u8 i0 _ 1 Try.underlying26 hi0 hz0 hz1 hz2 rfl _ _ _ o1 _ (some a) c _ (hb.step b1) (by simp only [maxLen, List.length_nil] <;> omega) (by simp only [List.length_nil] <;> omega) b1.size
  rw [List.nil_append] at oW2
  simp only [List.nil_append, List.length_nil, hn] at rW2
  have t2 : Below w.heap.size w W2 := b1.trans tW2
  clear o1 tW2 b1 hn hi0 hz0 hz1 hz2 hb
  go_enter Try.func76, Try.ntmps76
  go_wp2_with (at_builtin; refine wpList_runb _ rfl (.tmp 5) (.tmp 6) 26 rfl rfl rfl rW2 ?_)
  go_ret
  exact ⟨A2, c2, rfl, oW2, t2⟩
end Go.Proofs.Ytefbpaebimagaaa
