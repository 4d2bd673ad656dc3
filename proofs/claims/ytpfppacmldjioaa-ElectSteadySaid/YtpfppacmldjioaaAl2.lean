/-
  The law's same, stand, has. No statement is proved here; no conditions.
-/
import Derived.Test.YtpfppacmldjioaaAl1
namespace Go.Proofs.Ytpfppacmldjioaa
open Go.RowKit Go.Joins

set_option maxRecDepth 100000 in
set_option maxHeartbeats 4000000 in
theorem same_any (A1 A2 : Option Addr) (n c1 c2 : Nat) (L : List Ca) (w : World) (hn : L.length = n) (h1 : Cr w A1 L) (h2 : Cr w A2 L) (hll : n ≤ 1000) :
    Calls Try.prog 16 #[.slice A1 n c1, .slice A2 n c2] w fun e w' => e = .returned (.bool true) ∧ Below w.heap.size w w' := by
  have HN := Lib.hid hn
  have H1 := Lib.hid h1
  have H2 := Lib.hid h2
  have H1K := Lib.hid hll
  clear h1 h2 hn hll
  go_enter Try.func16, Try.ntmps16
  go_wp2_with fail
  go_loopg [5] n (fun gf v5 wx => ∃ (k : Nat), v5 = .int .i64 (k : Int) ∧ Hid (gf + k = n) ∧ Hid (Below w.heap.size w wx))
  case atStart => exact ⟨0, rfl, Lib.hid (by omega), Lib.hid (Below.refl _ _)⟩
  case round =>
    obtain ⟨k, rfl, hk, hb⟩ := hrel
    have hk' := hk.out
    cases gk with
    | zero =>
      have e1 : k = n := by omega
      have lt0 : decide ((k : Int) < (n : Int)) = false := by simp; omega
      have lt1 : decide (k < n) = false := by simp; omega
      subst e1
      go_wp2
      go_ret
      exact ⟨rfl, hb.out⟩
    | succ gf =>
      have hkl : k < L.length := by rw [HN.out]; omega
      have lt0 : (k : Int) < (n : Int) := by omega
      have hw1 : (k : Int) + 1 ≤ 10000 := by have := H1K.out; omega
      obtain ⟨b, off, hA, hbw, d0, d1, d2, d3⟩ := crd_at H1.out hkl
      obtain ⟨b', off', hA', hbw', f0, f1, f2, f3⟩ := crd_at H2.out hkl
      obtain ⟨x, hx⟩ : ∃ x, cg L k = x := ⟨_, rfl⟩
      rw [hx] at d0 d1 d2 d3 f0 f1 f2 f3
      subst hA
      subst hA'
      have KS : Hid (∀ V, Below w.heap.size w V → V.cell? ⟨b, off + k * 4, none⟩ = some (.int .u32 x.i) ∧ V.cell? ⟨b, off + k * 4 + 1, none⟩ = some (.int .i64 x.p) ∧ V.cell? ⟨b, off + k * 4 + 2, none⟩ = some (.int .u32 x.d) ∧ V.cell? ⟨b, off + k * 4 + 3, none⟩ = some (.int .u32 x.b) ∧ V.cell? ⟨b', off' + k * 4, none⟩ = some (.int .u32 x.i) ∧ V.cell? ⟨b', off' + k * 4 + 1, none⟩ = some (.int .i64 x.p) ∧ V.cell? ⟨b', off' + k * 4 + 2, none⟩ = some (.int .u32 x.d) ∧ V.cell? ⟨b', off' + k * 4 + 3, none⟩ = some (.int .u32 x.b)) := Lib.hid (fun V hV => by
        have hc : ∀ i, V.cell? ⟨b, i, none⟩ = w.cell? ⟨b, i, none⟩ := fun i => World.cell?_of_block (hV.block b hbw)
        have hc' : ∀ i, V.cell? ⟨b', i, none⟩ = w.cell? ⟨b', i, none⟩ := fun i => World.cell?_of_block (hV.block b' hbw')
        exact ⟨(hc _).trans d0, (hc _).trans d1, (hc _).trans d2, (hc _).trans d3, (hc' _).trans f0, (hc' _).trans f1, (hc' _).trans f2, (hc' _).trans f3⟩)
      have tt := hb.out
      clear hx d0 d1 d2 d3 f0 f1 f2 f3 hbw hbw' hkl
      go_upto_region 6 with fail
      refine wp_region_held_drew (S := fun V => V.cell? ⟨b, off + k * 4, none⟩ = some (.int .u32 x.i) ∧ V.cell? ⟨b, off + k * 4 + 1, none⟩ = some (.int .i64 x.p) ∧ V.cell? ⟨b, off + k * 4 + 2, none⟩ = some (.int .u32 x.d) ∧ V.cell? ⟨b, off + k * 4 + 3, none⟩ = some (.int .u32 x.b) ∧ V.cell? ⟨b', off' + k * 4, none⟩ = some (.int .u32 x.i) ∧ V.cell? ⟨b', off' + k * 4 + 1, none⟩ = some (.int .i64 x.p) ∧ V.cell? ⟨b', off' + k * 4 + 2, none⟩ = some (.int .u32 x.d) ∧ V.cell? ⟨b', off' + k * 4 + 3, none⟩ = some (.int .u32 x.b)) (by kernel_rfl) (KS.out _ tt.drew) (fun hHeld => ?_)
      replace tt := tt.drew
      generalize hX0 : wr.drew = Y0 at tt hHeld ⊢
      have T9 := Lib.hid tt
      clear hX0
      refine wpAnyH_take (i := 0) (v := ?_) rfl (by kernel_rfl) (by kernel_rfl) (by kernel_rfl) (fun _ _ _ h => h) (Or.inl ⟨by rfl, ?_⟩) (by assumption) ?_
      rotate_left
      · (intro w' hSw; (try dsimp only at hSw); go_simp; try with_reducible rfl)
      simp only [Act.put, List.getElem_toArray, List.getElem_cons_zero, List.setIfInBounds_toArray, List.set_cons_zero, List.set_cons_succ]
      refine wpAnyH_take (i := 1) (v := ?_) rfl (by kernel_rfl) (by kernel_rfl) (by kernel_rfl) (fun _ _ _ h => h) (Or.inl ⟨by rfl, ?_⟩) (by assumption) ?_
      rotate_left
      · (intro w' hSw; (try dsimp only at hSw); go_simp; try with_reducible rfl)
      simp only [Act.put, List.getElem_toArray, List.getElem_cons_zero, List.getElem_cons_succ, List.setIfInBounds_toArray, List.set_cons_zero, List.set_cons_succ]
      refine wpAnyH_take (i := 2) (v := ?_) rfl (by kernel_rfl) (by kernel_rfl) (by kernel_rfl) (fun _ _ _ h => h) (Or.inl ⟨by rfl, ?_⟩) (by assumption) ?_
      rotate_left
      · (intro w' hSw; (try dsimp only at hSw); go_simp; try with_reducible rfl)
      simp only [Act.put, List.getElem_toArray, List.getElem_cons_zero, List.getElem_cons_succ, List.setIfInBounds_toArray, List.set_cons_zero, List.set_cons_succ]
      refine wpAnyH_take (i := 3) (v := ?_) rfl (by kernel_rfl) (by kernel_rfl) (by kernel_rfl) (fun _ _ _ h => h) (Or.inl ⟨by rfl, ?_⟩) (by assumption) ?_
      rotate_left
      · (intro w' hSw; (try dsimp only at hSw); go_simp; try with_reducible rfl)
      simp only [Act.put, List.getElem_toArray, List.getElem_cons_zero, List.getElem_cons_succ, List.setIfInBounds_toArray, List.set_cons_zero, List.set_cons_succ]
      refine wpAnyH_take (i := 4) (v := ?_) rfl (by kernel_rfl) (by kernel_rfl) (by kernel_rfl) (fun _ _ _ h => h) (Or.inl ⟨by rfl, ?_⟩) (by assumption) ?_
      rotate_left
      · (intro w' hSw; (try dsimp only at hSw); go_simp; try with_reducible rfl)
      simp only [Act.put, List.getElem_toArray, List.getElem_cons_zero, List.getElem_cons_succ, List.setIfInBounds_toArray, List.set_cons_zero, List.set_cons_succ]
      refine wpAnyH_take (i := 5) (v := ?_) rfl (by kernel_rfl) (by kernel_rfl) (by kernel_rfl) (fun _ _ _ h => h) (Or.inl ⟨by rfl, ?_⟩) (by assumption) ?_
      rotate_left
      · (intro w' hSw; (try dsimp only at hSw); go_simp; try with_reducible rfl)
      simp only [Act.put, List.getElem_toArray, List.getElem_cons_zero, List.getElem_cons_succ, List.setIfInBounds_toArray, List.set_cons_zero, List.set_cons_succ]
      refine wpAnyH_take (i := 6) (v := ?_) rfl (by kernel_rfl) (by kernel_rfl) (by kernel_rfl) (fun _ _ _ h => h) (Or.inl ⟨by rfl, ?_⟩) (by assumption) ?_
      rotate_left
      · (intro w' hSw; (try dsimp only at hSw); go_simp; try with_reducible rfl)
      simp only [Act.put, List.getElem_toArray, List.getElem_cons_zero, List.getElem_cons_succ, List.setIfInBounds_toArray, List.set_cons_zero, List.set_cons_succ]
      refine wpAnyH_take (i := 7) (v := ?_) rfl (by kernel_rfl) (by kernel_rfl) (by kernel_rfl) (fun _ _ _ h => h) (Or.inl ⟨by rfl, ?_⟩) (by assumption) ?_
      rotate_left
      · (intro w' hSw; (try dsimp only at hSw); go_simp; try with_reducible rfl)
      simp only [Act.put, List.getElem_toArray, List.getElem_cons_zero, List.getElem_cons_succ, List.setIfInBounds_toArray, List.set_cons_zero, List.set_cons_succ]
      refine wpAnyH_take (i := 8) (v := .bool false) rfl (by kernel_rfl) (by kernel_rfl) (by kernel_rfl) (fun _ _ _ h => h) (Or.inl ⟨by rfl, ?_⟩) (by assumption) ?_
      · (intro w' hSw; (try dsimp only at hSw); go_simp; skip)
      simp only [Act.put, List.getElem_toArray, List.getElem_cons_zero, List.getElem_cons_succ, List.setIfInBounds_toArray, List.set_cons_zero, List.set_cons_succ]
      refine wpAnyH_done (by kernel_rfl) ?_ _
      go_wp2
      go_roundg gf
      case measure => omega
      case rel => exact ⟨k + 1, by go_num, Lib.hid (by omega), T9⟩
def stn (d b : Int) (x : Ca) : Ca := ⟨x.i, x.p, d, b⟩
set_option maxRecDepth 100000 in
set_option maxHeartbeats 4000000 in
theorem stand_any (A0 : Option Addr) (n c : Nat) (L : List Ca) (vD vB : Int) (w : World) (hn : L.length = n) (hl : Cr w A0 L) (hll : n ≤ 1000) :
    Calls Try.prog 19 #[.slice A0 n c, .int .u32 vD, .int .u32 vB] w fun e w' => ∃ A' c', e = .returned (.slice A' n c') ∧ Ow4 40 w.heap.size w' A' c' (L.map (stn vD vB)) ∧ Below w.heap.size w w' := by
  obtain ⟨W0, hW0⟩ : ∃ V, w.alloc (.cells #[] 40) = V := ⟨_, rfl⟩
  have bW0 : Below w.heap.size w W0 := by rw [← hW0]; exact below_alloc1 _ _
  have O0 : Hid (Ow4 40 w.heap.size W0 (some ⟨w.heap.size, 0, none⟩) 0 []) := Lib.hid (by rw [← hW0]; exact Ow4.empty _ _)
  have B0 := Lib.hid bW0
  have HN := Lib.hid hn
  have HL := Lib.hid hl
  have H1K := Lib.hid hll
  clear hl hn bW0 hll
  go_enter Try.func19, Try.ntmps19
  go_wp2_with fail
  go_loopg [7, 8] n (fun gf v7 v8 wx => ∃ (k : Nat) (A' : Option Addr) (c' : Nat), v7 = .slice A' k c' ∧ v8 = .int .i64 (k : Int) ∧ Hid (gf + k = n) ∧ Hid (Ow4 40 w.heap.size wx A' c' ((L.take k).map (stn vD vB))) ∧ Hid (Below w.heap.size w wx))
  case atStart => exact ⟨0, _, 0, rfl, rfl, Lib.hid (by omega), O0, B0⟩
  case round =>
    obtain ⟨k, A', c', rfl, rfl, hk, hO, hb⟩ := hrel
    have hk' := hk.out
    clear O0 B0 hW0
    cases gk with
    | zero =>
      have e1 : k = n := by omega
      have lt0 : decide ((k : Int) < (n : Int)) = false := by simp; omega
      have lt1 : decide (k < n) = false := by simp; omega
      have HO : Hid (Ow4 40 w.heap.size wr A' c' (L.map (stn vD vB))) := Lib.hid (by
        have q := hO.out
        rw [List.take_of_length_le (by rw [HN.out]; omega)] at q
        exact q)
      subst e1
      go_wp2
      go_ret
      exact ⟨A', c', rfl, HO.out, hb.out⟩
    | succ gf =>
      have hkl : k < L.length := by rw [HN.out]; omega
      have lt0 : (k : Int) < (n : Int) := by omega
      have hw1 : (k : Int) + 1 ≤ 10000 := by have := H1K.out; omega
      have hk5 : k ≤ 100000 := by have := H1K.out; omega
      obtain ⟨b, off, hA, _, e0, e1, e2, e3⟩ := crd_at (HL.out.step hb.out) hkl
      have HX := Lib.hid (ctake hkl)
      obtain ⟨x, hx⟩ : ∃ x, cg L k = x := ⟨_, rfl⟩
      rw [hx] at e0 e1 e2 e3 HX
      subst hA
      have HLK : Hid (((L.take k).map (stn vD vB)).length = k) := Lib.hid (by simp; omega)
      have HHB : Hid (w.heap.size ≤ wr.heap.size) := Lib.hid hb.out.size
      obtain ⟨W3, hW3⟩ : ∃ V, wr.alloc (.cells #[.int .u32 0, .int .i64 0, .int .u32 0, .int .u32 0] 40) = V := ⟨_, rfl⟩
      have bW3 : Below wr.heap.size wr W3 := by rw [← hW3]; exact below_alloc1 _ _
      have G3 : Bk W3 wr.heap.size (.cells #[.int .u32 0, .int .i64 0, .int .u32 0, .int .u32 0] 40) := Bk.mk hW3
      have G4 := kz4_set G3 (.int .u32 x.i) (.int .i64 x.p) (.int .u32 x.d) (.int .u32 x.b)
      have G5 : Bk (((st4 W3 wr.heap.size (.int .u32 x.i) (.int .i64 x.p) (.int .u32 x.d) (.int .u32 x.b)).setCell ⟨wr.heap.size, 2, none⟩ (.int .u32 vD)).setCell ⟨wr.heap.size, 3, none⟩ (.int .u32 vB)) wr.heap.size (.cells #[.int .u32 x.i, .int .i64 x.p, .int .u32 vD, .int .u32 vB] 40) := block_setCell (i := 3) (block_setCell (i := 2) G4 (.int .u32 vD)) (.int .u32 vB)
      have b4 := below_st4 bW3 (Nat.le_refl _) (.int .u32 x.i) (.int .i64 x.p) (.int .u32 x.d) (.int .u32 x.b)
      obtain ⟨y0, y1, y2, y3, f0, f1, f2_, f3_, hlt⟩ := kz4_at G3
      obtain ⟨y0', y1', y2', y3', f0', f1', f2', f3', hlt'⟩ := kz4_at G4
      obtain ⟨W5, hW5⟩ : ∃ V, ((st4 W3 wr.heap.size (.int .u32 x.i) (.int .i64 x.p) (.int .u32 x.d) (.int .u32 x.b)).setCell ⟨wr.heap.size, 2, none⟩ (.int .u32 vD)).setCell ⟨wr.heap.size, 3, none⟩ (.int .u32 vB) = V := ⟨_, rfl⟩
      have T5 : Hid (Below wr.heap.size wr W5) := Lib.hid (by
        rw [← hW5]
        exact (b4.setCell (p := ⟨wr.heap.size, 2, none⟩) (Nat.le_refl _) _).setCell (p := ⟨wr.heap.size, 3, none⟩) (Nat.le_refl _) _)
      rw [hW5] at G5
      obtain ⟨q0, q1, q2, q3, -, -, -, -, -⟩ := kz4_at G5
      have O5 : Ow4 40 w.heap.size W5 A' c' ((L.take k).map (stn vD vB)) := hO.out.step T5.out
      have T05 : Hid (Below w.heap.size w W5) := Lib.hid (hb.out.trans (T5.out.mono HHB.out))
      obtain ⟨m, hm⟩ : ∃ m, W5.heap.size = m := ⟨_, rfl⟩
      obtain ⟨g9, c9, W9, r9, o9, u9, -, -⟩ := app4 (t := 22) Try.underlying22 infoE rfl O5 HLK.out ⟨x.i, x.p, vD, vB⟩ hk5 m hm T05.out.size
      have O9 : Hid (Ow4 40 w.heap.size W9 (some ⟨g9, 0, none⟩) c9 ((L.take (k + 1)).map (stn vD vB))) := Lib.hid (by
        rw [HX.out, List.map_append]
        exact o9)
      have T9 : Hid (Below w.heap.size w W9) := Lib.hid (T05.out.trans u9)
      clear G3 G4 G5 O5 o9 u9 hO b4 hx hkl bW3
      go_wp2_with (at_builtin; refine wpList_runb _ rfl (.tmp 25) (.tmp 27) 22 rfl rfl rfl r9 ?_)
      go_wp2
      go_roundg gf
      case measure => omega
      case rel => exact ⟨k + 1, _, c9, by go_num, by go_num, Lib.hid (by omega), O9, T9⟩
def hs (L : List Ca) (o : Int) : Bool := L.any fun x => decide (x.i = o) && decide (0 < x.p)
theorem hs_no {L : List Ca} {n : Nat} {o : Int} (hn : L.length = n) (h : ∀ i, i < n → ¬ ((cg L i).i = o ∧ 0 < (cg L i).p)) : hs L o = false := by
  rw [hs, List.any_eq_false]
  intro x hx
  obtain ⟨i, hi, rfl⟩ := List.getElem_of_mem hx
  have := h i (by omega)
  rw [cg_eq hi] at this
  simpa using this
theorem hs_yes {L : List Ca} {k : Nat} {o : Int} (hk : k < L.length) (h1 : (cg L k).i = o) (h2 : 0 < (cg L k).p) : hs L o = true := by
  rw [hs, List.any_eq_true]
  exact ⟨_, cg_mem hk, by simp [h1, h2]⟩
set_option maxRecDepth 100000 in
set_option maxHeartbeats 4000000 in
theorem has_any (A0 : Option Addr) (n c : Nat) (L : List Ca) (o : Int) (w : World) (hn : L.length = n) (hl : Cr w A0 L) (hll : n ≤ 1000) :
    Calls Try.prog 20 #[.slice A0 n c, .int .u32 o] w fun e w' => e = .returned (.bool (hs L o)) ∧ Below w.heap.size w w' := by
  have HN := Lib.hid hn
  have HL := Lib.hid hl
  have H1K := Lib.hid hll
  clear hl hn hll
  go_enter Try.func20, Try.ntmps20
  go_wp2_with fail
  go_loopg [5] n (fun gf v5 wx => ∃ (k : Nat), v5 = .int .i64 (k : Int) ∧ Hid (gf + k = n) ∧ Hid (∀ i, i < k → ¬ ((cg L i).i = o ∧ 0 < (cg L i).p)) ∧ Hid (Below w.heap.size w wx))
  case atStart => exact ⟨0, rfl, Lib.hid (by omega), Lib.hid (fun i hi => by omega), Lib.hid (Below.refl _ _)⟩
  case round =>
    obtain ⟨k, rfl, hk, hNo, hb⟩ := hrel
    have hk' := hk.out
    cases gk with
    | zero =>
      have e1 : k = n := by omega
      have lt0 : decide ((k : Int) < (n : Int)) = false := by simp; omega
      have lt1 : decide (k < n) = false := by simp; omega
      have HR : Hid (hs L o = false) := Lib.hid (hs_no HN.out (by rw [← e1]; exact hNo.out))
      subst e1
      go_wp2
      go_ret
      exact ⟨ret_bool HR.out.symm, hb.out⟩
    | succ gf =>
      have hkl : k < L.length := by rw [HN.out]; omega
      have lt0 : (k : Int) < (n : Int) := by omega
      have hw1 : (k : Int) + 1 ≤ 10000 := by have := H1K.out; omega
      obtain ⟨b, off, hA, _, e0, e1, e2, e3⟩ := crd_at (HL.out.step hb.out) hkl
      have HY := Lib.hid (fun h1 h2 => hs_yes (o := o) hkl h1 h2)
      have HNX : Hid (¬ ((cg L k).i = o ∧ 0 < (cg L k).p) → ∀ i, i < k + 1 → ¬ ((cg L i).i = o ∧ 0 < (cg L i).p)) := Lib.hid (fun hq i hi => by
        rcases Nat.lt_or_ge i k with h | h
        · exact hNo.out i h
        · have : i = k := by omega
          rw [this]; exact hq)
      obtain ⟨x, hx⟩ : ∃ x, cg L k = x := ⟨_, rfl⟩
      rw [hx] at e0 e1 e2 e3 HY HNX
      subst hA
      clear hx hkl hNo
      by_cases h1 : x.i = o
      · have z1 : (x.i == o) = true := by simp [h1]
        by_cases h2 : 0 < x.p
        · have z2 : decide (x.p > 0) = true := by simpa using h2
          have HR : Hid (hs L o = true) := Lib.hid (HY.out h1 h2)
          clear h1 h2
          go_wp2
          go_ret
          exact ⟨ret_bool HR.out.symm, hb.out⟩
        · have z2 : decide (x.p > 0) = false := by simpa using h2
          have HQ : Hid _ := Lib.hid (HNX.out (fun q => h2 q.2))
          clear h1 h2
          have T9 := hb
          go_wp2
          go_roundg gf
          case measure => omega
          case rel => exact ⟨k + 1, by go_num, Lib.hid (by omega), HQ, T9⟩
      · have z1 : (x.i == o) = false := by simpa using h1
        have HQ : Hid _ := Lib.hid (HNX.out (fun q => h1 q.1))
        clear h1
        have T9 := hb
        go_wp2
        go_roundg gf
        case measure => omega
        case rel => exact ⟨k + 1, by go_num, Lib.hid (by omega), HQ, T9⟩
end Go.Proofs.Ytpfppacmldjioaa
