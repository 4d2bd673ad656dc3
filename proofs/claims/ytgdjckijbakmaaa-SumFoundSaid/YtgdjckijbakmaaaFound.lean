/-
  The walk of the law SumFound: for every bytes, place and byte it returns true and writes nothing that was there before. No conditions.
-/
import Derived.Test.YtgdjckijbakmaaaAlive
import Derived.Test.YtgdjckijbakmaaaFit
namespace Go.Proofs.Ytgdjckijbakmaaa
open Go.RowKit

theorem spoilt_any (A : Option Addr) (c : Nat) (l : List Int) (B : Nat) (k : Nat) (v : Int) (w : World) (hb : Bs .u8 w B A l) (hB : B ≤ w.heap.size) (hl : l.length ≤ 4000) (hk : k < l.length) :
    Calls Try.prog 18 #[.slice A l.length c, .int .i64 k, .int .u8 v] w fun e w' => ∃ A' c' L, Hid (L = l.set k v) ∧ e = .returned (.slice A' L.length c') ∧ Own .u8 5 w' w.heap.size A' c' L ∧ Below w.heap.size w w' := by
  obtain ⟨i0, hi, hz0, hz1, hz2⟩ := info_parts info5
  go_enter Try.func18, Try.ntmps18
  go_wp2_with (at_builtin; refine wpList_app _ rfl (.tmp 8) (.tmp 9) 22 rfl w.heap.size 5 .u8 i0 _ 1 Try.underlying22 hi hz0 hz1 hz2 rfl _ _ [] rfl (Own.empty w w.heap.size (Nat.le_refl _) .u8 5) _ _ _ l rfl (hb.alloc hB _) ?_ ?_ ?_ ?_; (simp [maxLen] <;> omega); (simp <;> omega); (simp <;> omega); intro l1 A1 c1 w1 hl1 hO1 hb1'; obtain rfl : l = l1 := by {rw [hl1.out, List.nil_append]}; obtain ⟨g, hg0, hA1⟩ : ∃ g, w.heap.size ≤ g ∧ A1 = some ⟨g, 0, none⟩ := by {rcases hO1.form with ⟨_, _, hn⟩ | ⟨g, _, hA, hg, _⟩; {rw [hn] at hk; simp at hk}; {exact ⟨g, hg, hA⟩}}; subst hA1; have hc1 := hO1.cellAt (i := k) hk; have hf1 := hO1.frozen k; have hO3 := hO1.set k v)
  go_ret
  refine ⟨_, _, _, rfl, ?_, hO3, ((((Below.refl _ w).alloc (Nat.le_refl _) _).trans hb1').setCell (p := ⟨g, k, none⟩) hg0 _)⟩
  show _ = Ending.returned (.slice _ (l.set k v).length _)
  rw [List.length_set]
  rfl

theorem found_not (A : Option Addr) (c : Nat) (l : List Int) (a v : Int) (w : World) (hl : l.length ≤ maxLen) (h : 2000 < l.length ∨ l.length < 2 ∨ a < 0 ∨ (l.length : Int) ≤ a) :
    Calls Try.prog 6 #[.slice A l.length c, .int .i64 a, .int .u8 v] w fun e w' => e = .returned (.bool true) ∧ Below w.heap.size w w' := by
  unfold maxLen at hl
  by_cases h1 : 2000 < l.length
  · clear h
    go_enter Try.func6, Try.ntmps6
    go_wp2_with (go_at_call 8; refine (alive_any _).mono ?_; rintro e w' ⟨rfl, hB⟩)
    go_ret
    exact ⟨rfl, hB⟩
  by_cases h2 : l.length < 2
  · clear h
    go_enter Try.func6, Try.ntmps6
    go_wp2_with (go_at_call 8; refine (alive_any _).mono ?_; rintro e w' ⟨rfl, hB⟩)
    go_ret
    exact ⟨rfl, hB⟩
  by_cases h3 : a < 0
  · clear h
    go_enter Try.func6, Try.ntmps6
    go_wp2_with (go_at_call 8; refine (alive_any _).mono ?_; rintro e w' ⟨rfl, hB⟩)
    go_ret
    exact ⟨rfl, hB⟩
  · have h4 : (l.length : Int) ≤ a := by omega
    clear h
    go_enter Try.func6, Try.ntmps6
    go_wp2_with (go_at_call 8; refine (alive_any _).mono ?_; rintro e w' ⟨rfl, hB⟩)
    go_ret
    exact ⟨rfl, hB⟩

set_option maxHeartbeats 2000000 in
theorem found_walk (A : Option Addr) (c : Nat) (l : List Int) (a v : Int) (w : World) (hb : Bs .u8 w w.heap.size A l) (hy : Byt l) (hlm : l.length ≤ maxLen) (hv0 : 0 ≤ v) (hv1 : v < 256) :
    Calls Try.prog 6 #[.slice A l.length c, .int .i64 a, .int .u8 v] w fun e w' => e = .returned (.bool true) ∧ Below w.heap.size w w' := by
  by_cases h : 2000 < l.length ∨ l.length < 2 ∨ a < 0 ∨ (l.length : Int) ≤ a
  · exact found_not A c l a v w hlm h
  obtain ⟨k, rfl⟩ := Int.eq_ofNat_of_zero_le (show 0 ≤ a by omega)
  have h1 : l.length ≤ 2000 := by omega
  have h2 : 2 ≤ l.length := by omega
  have h3 : k < l.length := by omega
  clear h hlm
  obtain ⟨i0, hi, hz0, hz1, hz2⟩ := info_parts info5
  go_enter Try.func6, Try.ntmps6
  go_wp2_with fail
  refine (place_ok A c l _ 0 w hb hy (Nat.le_refl _) (by omega) (by omega)).mono ?_
  rintro e w2 ⟨A2, c2, L, hL, rfl, hO2, hB2⟩
  have hLl : Hid (L.length = l.length) := by show _ = _; rw [hL.out]; exact two_length _ _ _ _
  have yL : Byt L := by rw [hL.out]; exact two_byt hy _ _ _ (by have := placeX_bd l 0; omega) (by have := placeY_bd l 0; omega)
  have FL : Hid (p0 L = 0) := by show _; rw [hL.out]; exact (place_fits l 0 (by omega)).1
  rw [hLl.out]
  have hs2 := hB2.size
  clear hL
  go_wp2_with (at_builtin; refine wpList_app _ rfl (.tmp 46) (.tmp 47) 22 rfl w2.heap.size 5 .u8 i0 _ 1 Try.underlying22 hi hz0 hz1 hz2 rfl _ _ [] rfl (Own.empty w2 w2.heap.size (Nat.le_refl _) .u8 5) _ _ _ l rfl ((hb.below hB2).alloc hs2 _) ?_ ?_ ?_ ?_; (simp [maxLen] <;> omega); (simp <;> omega); (simp <;> omega); intro l1 A3 c3 w3 hl3 hO3 hb3'; obtain rfl : l = l1 := by {rw [hl3.out, List.nil_append]}; obtain ⟨g, hg0, hA3⟩ : ∃ g, w2.heap.size ≤ g ∧ A3 = some ⟨g, 0, none⟩ := by {rcases hO3.form with ⟨_, _, hn⟩ | ⟨g, _, hA, hg, _⟩; {rw [hn] at h3; simp at h3}; {exact ⟨g, hg, hA⟩}}; subst hA3; have hc1 := hO3.cellAt (i := 0) (by omega); have hf1 := hO3.frozen 0; have hO4 := hO3.set 0 0; have hc2 := hO4.cellAt (i := 1) (by rw [List.length_set]; omega); have hf2 := hO4.frozen 1; have hO5 := hO4.set 1 0)
  have hB3 : Below w2.heap.size w2 w3 := ((Below.refl _ w2).alloc (Nat.le_refl _) _).trans hb3'
  have hB5 : Below w2.heap.size w2 _ := (hB3.setCell (p := ⟨g, 0, none⟩) hg0 (.int .u8 0)).setCell (p := ⟨g, 1, none⟩) hg0 (.int .u8 0)
  change Own .u8 5 _ w2.heap.size _ _ (two l 0 0 0) at hO5
  have hP := inet_any (some ⟨g, 0, none⟩) c3 (two l 0 0 0) _ _ hO5.bs (two_byt hy 0 0 0 (by decide) (by decide)) (by rw [two_length]; omega)
  rw [two_length] at hP
  refine hP.mono ?_
  rintro e w' ⟨rfl, rfl⟩
  generalize (w3.setCell ⟨g, 0, none⟩ (.int .u8 0)).setCell ⟨g, 1, none⟩ (.int .u8 0) = w5 at hO5 hB5 ⊢
  clear hP hO4 hc1 hc2 hf1 hf2 hO3 hB3 hb3' hl3 w3
  have hH := Lib.hid (own_holds l hy h2)
  have hN := inet_bd (two l 0 0 0) (two_byt hy 0 0 0 (by decide) (by decide))
  generalize inet (two l 0 0 0) = N at hH hN ⊢
  obtain ⟨hN0, hN1⟩ := hN
  have hc1 := hO5.cellAt (i := 0) (by rw [two_length]; omega)
  have hf1 := hO5.frozen 0
  have hO6 := hO5.set 0 (N / 256)
  have hc2 := hO6.cellAt (i := 1) (by rw [List.length_set, two_length]; omega)
  have hf2 := hO6.frozen 1
  have hO7 := hO6.set 1 (N % 256)
  have hM : Hid (((two l 0 0 0).set 0 (N / 256)).set 1 (N % 256) = two l 0 (N / 256) (N % 256)) := two_two l 0 0 0 _ _
  rw [hM.out] at hO7
  have yM : Byt (two l 0 (N / 256) (N % 256)) := two_byt hy _ _ _ (by omega) (by omega)
  have hMl := Lib.hid (two_length l 0 (N / 256) (N % 256))
  have hB7 : Below w2.heap.size w2 _ := (hB5.setCell (p := ⟨g, 0, none⟩) hg0 (.int .u8 (N / 256))).setCell (p := ⟨g, 1, none⟩) hg0 (.int .u8 (N % 256))
  clear hO5 hO6 hM
  generalize two l 0 (N / 256) (N % 256) = M at hO7 hH yM hMl
  go_wp2_with fail
  generalize (w5.setCell ⟨g, 0, none⟩ (.int .u8 (N / 256))).setCell ⟨g, 1, none⟩ (.int .u8 (N % 256)) = w7 at hO7 hB7 ⊢
  clear hc1 hc2 hf1 hf2 hB5 w5 hi hz0 hz1 hz2
  have hP := holds_any (some ⟨g, 0, none⟩) c3 M _ w7 hO7.bs yM (by rw [hMl.out]; omega)
  rw [hMl.out, hH.out] at hP
  refine hP.mono ?_
  clear hP
  rintro e w' ⟨rfl, rfl⟩
  go_wp2_with fail
  obtain ⟨g2, rfl⟩ : ∃ g2, A2 = some ⟨g2, 0, none⟩ := by
    rcases hO2.form with ⟨_, _, hn⟩ | ⟨g2, _, hA, _⟩
    · have := hLl.out; rw [hn] at this; simp at this; omega
    · exact ⟨g2, hA⟩
  have hO27 := hO2.below hB7 (Nat.le_refl _)
  have hs7 := hB7.size
  have hkL : k < L.length := by rw [hLl.out]; exact h3
  have hkM : k < M.length := by rw [hMl.out]; exact h3
  have hP := spoilt_any (some ⟨g2, 0, none⟩) c2 L _ k v w7 hO27.bs (Nat.le_refl _) (by rw [hLl.out]; omega) hkL
  rw [hLl.out] at hP
  refine hP.mono ?_
  clear hP
  rintro e w8 ⟨A8, c8, S, hS, rfl, hO8, hB8⟩
  have hs8 := hB8.size
  have yS : Byt S := by rw [hS.out]; exact yL.set k v hv0 hv1
  have hSl : S.length ≤ 2000 := by rw [hS.out, List.length_set, hLl.out]; exact h1
  have DF : Hid ((p0 S == 0 && p1 S == 0) = false ∨ ((p0 S == 0 && p1 S == 0) = true ∧ L.getD k 0 = v) ∨ ((p0 S == 0 && p1 S == 0) = true ∧ L.getD k 0 = 0 ∧ v = 255) ∨ ((p0 S == 0 && p1 S == 0) = true ∧ L.getD k 0 = 255 ∧ v = 0)) := by
    show _ ∨ _
    cases hq : (p0 S == 0 && p1 S == 0) with
    | false => exact .inl rfl
    | true =>
      have hq0 : p0 S = 0 := by have := (Bool.and_eq_true_iff.1 hq).1; simpa using this
      rw [hS.out] at hq0
      have hg : L.getD k 0 = L[k] := by simp [List.getD, List.getElem?_eq_getElem hkL]
      rw [hg]
      rcases found_fits L yL k v hkL hv0 hv1 FL.out hq0 with h | h | h
      · exact .inr (.inl ⟨rfl, h⟩)
      · exact .inr (.inr (.inl ⟨rfl, h⟩))
      · exact .inr (.inr (.inr ⟨rfl, h⟩))
  have hO28 := hO27.below hB8 (Nat.le_refl _)
  have hO78 := hO7.below hB8 (Nat.le_refl _)
  have hcL := hO28.cellAt (i := k) hkL
  have hB08 : Below w.heap.size w w8 := (hB2.trans (hB7.mono hs2)).trans (hB8.mono (by omega))
  clear hO2 hO27 hO7 hB2 hB7 hB8 hb hS
  go_wp2_with fail
  refine (fits_any A8 c8 S _ w8 hO8.bs yS (by omega)).mono ?_
  clear hO8 yS hSl
  generalize (p0 S == 0 && p1 S == 0) = bF at DF ⊢
  generalize L.getD k 0 = X at DF hcL
  rintro e w9 ⟨rfl, rfl⟩
  have hx0 : bits .xor .u8 0 255 = 255 := by decide
  have hx1 : bits .xor .u8 255 0 = 255 := by decide
  have DH : Hid ((inet (M.set k v) == 0) = false ∨ ((inet (M.set k v) == 0) = true ∧ M.getD k 0 = v)) := by
    show _ ∨ _
    cases hq : (inet (M.set k v) == 0) with
    | false => exact .inl rfl
    | true =>
      have hg : M.getD k 0 = M[k] := by simp [List.getD, List.getElem?_eq_getElem hkM]
      rw [hg]
      exact .inr ⟨rfl, found_holds M yM k v hkM hv0 hv1 hH.out (by simpa using hq)⟩
  have yT : Byt (M.set k v) := yM.set k v hv0 hv1
  have hP2 := Lib.hid (spoilt_any (some ⟨g, 0, none⟩) c3 M _ k v w8 hO78.bs (Nat.le_refl _) (by rw [hMl.out]; omega) hkM)
  rw [hMl.out] at hP2
  have hMl' : Hid ((M.set k v).length ≤ 2000) := by show _; rw [List.length_set, hMl.out]; exact h1
  generalize M.set k v = T at DH yT hP2 hMl'
  have hgk : (0 : Int) ≤ (k : Int) ∧ (k : Int) < (l.length : Int) := by omega
  rcases DF.out with hf | ⟨hf, hx⟩ | ⟨hf, hx, hv⟩ | ⟨hf, hx, hv⟩
  all_goals
    first | subst hf hx hv | subst hf hx | subst hf
    clear DF
    go_wp2_with fail
    refine hP2.out.mono ?_
    rintro e w10 ⟨A10, c10, T', hT', rfl, hO10, hB10⟩
    obtain rfl := hT'.out
    have hcM := (hO78.below hB10 (Nat.le_refl _)).cellAt (i := k) hkM
    have hB010 : Below w.heap.size w w10 := hB08.trans (hB10.mono (by omega))
    clear hP2 hT' hO78 hB10 hB08 hcL hO28
    go_wp2_with fail
    refine (holds_any A10 c10 T' _ w10 hO10.bs yT (by have := hMl'.out; omega)).mono ?_
    clear hO10
    generalize (inet T' == 0) = bH at DH ⊢
    generalize M.getD k 0 = Z at DH hcM
    rintro e w11 ⟨rfl, rfl⟩
    rcases DH.out with hf | ⟨hf, hx⟩
    · subst hf
      clear DH
      go_wp2_with fail
      refine (alive_any _).mono ?_
      rintro e w12 ⟨rfl, hB12⟩
      go_wp2
      go_ret
      exact ⟨rfl, hB010.trans (hB12.mono hB010.size)⟩
    · subst hf hx
      clear DH
      go_wp2_with fail
      refine (alive_any _).mono ?_
      rintro e w12 ⟨rfl, hB12⟩
      go_wp2
      go_ret
      exact ⟨rfl, hB010.trans (hB12.mono hB010.size)⟩
end Go.Proofs.Ytgdjckijbakmaaa
