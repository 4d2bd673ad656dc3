/-
  The walk of the law SumFits: for every bytes and place it returns true and writes nothing that was there before. No conditions.
-/
import Derived.Test.YtgdjckijbakmaaaAlive
import Derived.Test.YtgdjckijbakmaaaFit
namespace Go.Proofs.Ytgdjckijbakmaaa
open Go.RowKit

theorem two_take (l : List Int) (a : Nat) (x y : Int) : (two l a x y).take a = l.take a := by
  apply List.ext_getElem?
  intro i
  simp only [two, List.getElem?_take, List.getElem?_set, List.length_set]
  by_cases h : i < a
  · rw [if_pos h, if_pos h, if_neg (by omega), if_neg (by omega)]
  · rw [if_neg h, if_neg h]
theorem two_drop (l : List Int) (a : Nat) (x y : Int) : (two l a x y).drop (a + 2) = l.drop (a + 2) := by
  apply List.ext_getElem?
  intro i
  simp only [two, List.getElem?_drop, List.getElem?_set, List.length_set]
  rw [if_neg (by omega), if_neg (by omega)]

set_option maxHeartbeats 2000000 in
theorem fits_walk (A : Option Addr) (c : Nat) (l : List Int) (a : Int) (w : World) (hb : Bs .u8 w w.heap.size A l) (hy : Byt l) (hc : l.length ≤ c) :
    Calls Try.prog 5 #[.slice A l.length c, .int .i64 a] w fun e w' => e = .returned (.bool true) ∧ Below w.heap.size w w' := by
  by_cases hl : 2000 < l.length
  · go_enter Try.func5, Try.ntmps5
    go_wp2_with (go_at_call 8; refine (alive_any _).mono ?_; rintro e w' ⟨rfl, hB⟩)
    go_ret
    exact ⟨rfl, hB⟩
  have hl' : l.length ≤ 2000 := by omega
  by_cases ha : a < 0
  · go_enter Try.func5, Try.ntmps5
    go_wp2_with fail
    refine (place_no A c l a w (by omega) (.inl ha)).mono ?_
    rintro e w2 ⟨rfl, rfl⟩
    go_wp2_with (go_at_call 8; refine (alive_any _).mono ?_; rintro e w' ⟨rfl, hB⟩)
    go_ret
    exact ⟨rfl, hB⟩
  by_cases ha2 : (l.length : Int) - 2 < a
  · go_enter Try.func5, Try.ntmps5
    go_wp2_with fail
    refine (place_no A c l a w (by omega) (.inr ha2)).mono ?_
    rintro e w2 ⟨rfl, rfl⟩
    go_wp2_with (go_at_call 8; refine (alive_any _).mono ?_; rintro e w' ⟨rfl, hB⟩)
    go_ret
    exact ⟨rfl, hB⟩
  obtain ⟨n, rfl⟩ := Int.eq_ofNat_of_zero_le (show 0 ≤ a by omega)
  have hn : n + 2 ≤ l.length := by omega
  go_enter Try.func5, Try.ntmps5
  go_wp2_with fail
  refine (place_ok A c l _ n w hb hy (Nat.le_refl _) (by omega) hn).mono ?_
  rintro e w2 ⟨A2, c2, L, hL, rfl, hO2, hB2⟩
  have hLl : Hid (L.length = l.length) := by show _ = _; rw [hL.out]; exact two_length _ _ _ _
  rw [hLl.out]
  obtain ⟨g, rfl⟩ : ∃ g, A2 = some ⟨g, 0, none⟩ := by
    rcases hO2.form with ⟨_, _, hn'⟩ | ⟨g, _, hA, _⟩
    · have := hLl.out; rw [hn'] at this; simp at this; omega
    · exact ⟨g, hA⟩
  obtain ⟨b, off, rfl, hbl, _⟩ := hb (by rintro rfl; simp at hn)
  have hb2 := hb.below hB2
  have hc2 : l.length ≤ c2 := by rw [← hLl.out]; exact hO2.cap_le
  have hT : Hid (L.take n = l.take n) := by show _ = _; rw [hL.out]; exact two_take _ _ _ _
  have hD : Hid (L.drop (n + 2) = l.drop (n + 2)) := by show _ = _; rw [hL.out]; exact two_drop _ _ _ _
  have hbs := hO2.bs
  have s1 : ∀ k cc, (convert 22 9 (.slice (some ⟨g, 0, none⟩) n cc)).run Try.prog (w2.drewN k) = .ok (.string (strOfNums (l.take n))) (w2.drewN k) := by
    intro k cc
    have := run_str (P := Try.prog) (w2.drewN k) 22 5 9 Try.underlying22 Try.underlying5 Try.underlying9 _ _ cc (L.take n) ((hbs.take n).drewN k)
    rw [hT.out, List.length_take, Nat.min_eq_left (by omega)] at this
    exact this
  have s2 : ∀ k cc, (convert 22 9 (.slice (some ⟨b, off, none⟩) n cc)).run Try.prog (w2.drewN k) = .ok (.string (strOfNums (l.take n))) (w2.drewN k) := by
    intro k cc
    have := run_str (P := Try.prog) (w2.drewN k) 22 5 9 Try.underlying22 Try.underlying5 Try.underlying9 _ _ cc (l.take n) ((hb2.take n).drewN k)
    rw [List.length_take, Nat.min_eq_left (by omega)] at this
    exact this
  have t1 : ¬ (n : Int) < 0 := by omega
  have t2 : ¬ ((l.length : Int) - 2 < (n : Int)) := by omega
  have r1 : n ≤ c2 := by omega
  have r2 : n ≤ c := by omega
  have r3 : (n : Int) + 2 ≤ (l.length : Int) := by omega
  have r4 : n + 2 ≤ l.length := by omega
  have v5 : Bs .u8 w2 w2.heap.size (if c2 = n + 2 then some ⟨g, 0, none⟩ else some ⟨g, n + 2, none⟩) (L.drop (n + 2)) := hbs.drop (n + 2) _ fun hk => by
    rw [hLl.out] at hk
    rw [if_neg (by omega)]; simp [addr_add]
  have v6 : Bs .u8 w2 w.heap.size (if c = n + 2 then some ⟨b, off, none⟩ else some ⟨b, off + (n + 2), none⟩) (l.drop (n + 2)) := hb2.drop (n + 2) _ fun hk => by
    rw [if_neg (by omega)]; simp [addr_add]
  have s5 : ∀ k cc, (convert 22 9 (.slice (if c2 = n + 2 then some ⟨g, 0, none⟩ else some ⟨g, n + 2, none⟩) (l.length - (n + 2)) cc)).run Try.prog (w2.drewN k) = .ok (.string (strOfNums (l.drop (n + 2)))) (w2.drewN k) := by
    intro k cc
    have := run_str (P := Try.prog) (w2.drewN k) 22 5 9 Try.underlying22 Try.underlying5 Try.underlying9 _ _ cc (L.drop (n + 2)) (v5.drewN k)
    rw [hD.out, List.length_drop] at this
    exact this
  have s6 : ∀ k cc, (convert 22 9 (.slice (if c = n + 2 then some ⟨b, off, none⟩ else some ⟨b, off + (n + 2), none⟩) (l.length - (n + 2)) cc)).run Try.prog (w2.drewN k) = .ok (.string (strOfNums (l.drop (n + 2)))) (w2.drewN k) := by
    intro k cc
    have := run_str (P := Try.prog) (w2.drewN k) 22 5 9 Try.underlying22 Try.underlying5 Try.underlying9 _ _ cc (l.drop (n + 2)) (v6.drewN k)
    rw [List.length_drop] at this
    exact this
  clear v5 v6
  have hw : IntKind.i64.wrap ((n : Int) + 2) = (n : Int) + 2 := by simp [IntKind.wrap, IntKind.bits, IntKind.signed]; omega
  go_wp2_with fail
  go_quiet (fail)
  clear s1 s2 s5 s6 hw
  generalize (if c2 = n + 2 then some (⟨g, 0, none⟩ : Addr) else some ⟨g, n + 2, none⟩) = A5
  generalize (if c = n + 2 then some (⟨b, off, none⟩ : Addr) else some ⟨b, off + (n + 2), none⟩) = A6
  have yL : Byt L := by rw [hL.out]; exact two_byt hy _ _ _ (by have := placeX_bd l n; omega) (by have := placeY_bd l n; omega)
  have FL : Hid (p0 L = 0 ∧ p1 L = 0) := by show _ ∧ _; rw [hL.out]; exact place_fits l n hn
  have X1 : L.getD n 0 = placeX l n := by rw [hL.out, List.getD]; unfold placed; rw [two_at _ _ _ _ hn]; rfl
  have X2 : L.getD (n + 1) 0 = placeY l n := by rw [hL.out, List.getD]; unfold placed; rw [two_at1 _ _ _ _ hn]; rfl
  have bX := placeX_bd l n
  have bY := placeY_bd l n
  generalize placeX l n = X at X1 bX
  generalize placeY l n = Y at X2 bY
  have hs2 := hB2.size
  go_wp2_with fail
  refine (alive_any _).mono ?_
  rintro e w4 ⟨rfl, hB4⟩
  have hO4 := (hO2.drewN nq).below hB4 (Nat.le_refl _)
  have hB : Below w.heap.size w w4 := (below_drewN hB2 nq).trans (hB4.mono hs2)
  have hc1 := hO4.cellAt (i := n) (by rw [hLl.out]; omega)
  have hc2' := hO4.cellAt (i := n + 1) (by rw [hLl.out]; omega)
  rw [X1] at hc1
  rw [X2] at hc2'
  have hd1 : (X != 0) = true := by rw [bne_iff_ne]; omega
  have hd2 : (Y != 0) = true := by rw [bne_iff_ne]; omega
  have hF := fits_any (some ⟨g, 0, none⟩) c2 L _ w4 hO4.bs yL (by rw [hLl.out]; omega)
  rw [FL.out.1, FL.out.2, hLl.out] at hF
  clear hB2 hB4 hO2 hO4 X1 X2 hbs hb2
  go_wp2_with fail
  refine hF.mono ?_
  rintro e w5 ⟨rfl, rfl⟩
  clear hF
  go_wp2
  go_ret
  exact ⟨rfl, hB⟩
end Go.Proofs.Ytgdjckijbakmaaa
