/-
  Contract of addr.Parse. No statement is proved here.
-/
import Derived.Test.YtkofpijhihghpaaDoorCut
namespace Go.Proofs.YtkofpijhihghpaaDoor
open Go.RowKit Go.Joins

/-- A parse's answer as a value. -/
abbrev pr (x : Nat × Nat × Int) : Value := .tuple #[pf x.1 (x.2.1 : Int), .int .i64 x.2.2]
/-- The byte behind the number in place i. -/
def sep (i : Nat) : UInt8 := if i = 3 then 47 else 46
abbrev seps : Array Value := #[.string ⟨#[46]⟩, .string ⟨#[46]⟩, .string ⟨#[46]⟩, .string ⟨#[47]⟩]
theorem seps_at (i : Nat) (h : i < 4) : seps[i]? = some (.string (st [sep i])) := by
  match i, h with
  | 0, _ => rfl
  | 1, _ => rfl
  | 2, _ => rfl
  | 3, _ => rfl
theorem sep_nd (i : Nat) : isD (sep i) = false := by
  unfold sep; split <;> decide
theorem prs_step {i j a : Nat} {l : List UInt8} (h : i + (j + 1) = 4) : prs (j + 1) a l = match step (sep i) l with
    | none => (0, 0, 3)
    | some (n, R) => prs j (a * 256 + n) R := by
  have : (if j = 0 then (47 : UInt8) else 46) = sep i := by
    unfold sep
    by_cases hj : j = 0
    · rw [if_pos hj, if_pos (by omega)]
    · rw [if_neg hj, if_neg (by omega)]
  simp only [prs, this]
  cases step (sep i) l <;> rfl
theorem cutB_len (c : UInt8) (l : List UInt8) : (cutB c l).length ≤ l.length := by
  unfold cutB
  have h1 : (l.dropWhile (· != c)).length ≤ l.length := (List.dropWhile_suffix _).length_le
  rw [List.length_tail]; omega
theorem cutA_len (c : UInt8) (l : List UInt8) : (cutA c l).length ≤ l.length := (List.takeWhile_prefix _).length_le
theorem num255 (l : List UInt8) (w : World) (hl : l.length ≤ 4611686018427387904) : Calls Tryd.prog 56 #[.string (st l), .int .i64 255] w fun e w' => e = .returned (.tuple #[.int .i64 (nv 255 l : Int), .bool (numOk 255 l)]) ∧ Below w.heap.size w w' := number_any l 255 w hl (by omega)
theorem num32 (l : List UInt8) (w : World) (hl : l.length ≤ 4611686018427387904) : Calls Tryd.prog 56 #[.string (st l), .int .i64 32] w fun e w' => e = .returned (.tuple #[.int .i64 (nv 32 l : Int), .bool (numOk 32 l)]) ∧ Below w.heap.size w w' := number_any l 32 w hl (by omega)
theorem step_cut (c : UInt8) (l : List UInt8) (h : (cutF c l && numOk 255 (cutA c l)) = true) : step c l = some (nv 255 (cutA c l), cutB c l) ∧ nv 255 (cutA c l) ≤ 255 := by
  simp only [Bool.and_eq_true] at h
  have h1 : c ∈ l := by simpa [cutF] using h.1
  have h2 : nv 255 (cutA c l) = val (cutA c l) := if_pos h.2
  rw [h2]
  refine ⟨?_, ((numOk_iff _ _).1 h.2).2.2.2⟩
  unfold step
  rw [if_pos ⟨h1, h.2⟩]
  rfl
theorem step_nocut (c : UInt8) (l : List UInt8) (h : (cutF c l && numOk 255 (cutA c l)) = false) : step c l = none := by
  unfold step
  rw [if_neg]
  rintro ⟨h1, h2⟩
  have : (cutF c l && numOk 255 (cutA c l)) = true := by
    simp only [Bool.and_eq_true]; exact ⟨by simpa [cutF] using h1, h2⟩
  rw [h] at this; exact absurd this (by decide)
theorem alloc_lt (w : World) (o : Obj) (n : Nat) (h : n < w.heap.size) : (w.alloc o).heap[n]? = w.heap[n]? := by
  show (w.heap.push o)[n]? = w.heap[n]?
  rw [Array.getElem?_push_lt h, Array.getElem?_eq_getElem h]
theorem pow_le4 {a i : Nat} (h : a < 256 ^ i) (hi : i < 4) : a < 16777216 ∧ i + 1 ≤ 4 := by
  have : 256 ^ i ≤ 256 ^ 3 := Nat.pow_le_pow_right (by omega) (by omega)
  omega
theorem or_byte (a n : Nat) (ha : a < 16777216) (hn : n ≤ 255) : bits .or .u32 ((a : Int) * 256) (n : Int) = ((a * 256 + n : Nat) : Int) := by
  have h1 := u32_or_nat (a * 256) n (by omega) (by omega)
  have h2 := Nat.two_pow_add_eq_or_of_lt (i := 8) (b := n) (by omega) a
  rw [show a * 256 = 2 ^ 8 * a by omega, ← h2] at h1
  rw [show a * 256 + n = 2 ^ 8 * a + n by omega, ← h1]
  congr 1
  show (a : Int) * 256 = ((256 * a : Nat) : Int)
  omega
theorem parse_any (l : List UInt8) (w : World) (hl : l.length ≤ 4611686018427387904) : Calls Tryd.prog 31 #[.string (st l)] w fun e w' => e = .returned (pr (prs 4 0 l)) ∧ Below w.heap.size w w' := by
  generalize HX : prs 4 0 l = X at *
  have HX' := Lib.hid HX
  clear HX
  go_enter Tryd.func31, Tryd.ntmps31
  go_wp2
  go_loopg [5, 18] 4 (fun gf v5 v18 wx => ∃ (i a : Nat) (R : List UInt8), v18 = .int .i64 (i : Int) ∧ v5 = .string (st R) ∧ Hid (i + gf = 4) ∧
    wx.heap[w.heap.size]? = some (.cells #[.int .u32 0, .int .i64 0] 24) ∧ wx.heap[w.heap.size + 1]? = some (.cells #[.int .u32 (a : Int), .int .i64 0] 24) ∧ wx.heap[w.heap.size + 1 + 1]? = some (.cells seps 9) ∧
    Below w.heap.size w wx ∧ Hid (a < 256 ^ i) ∧ R.length ≤ 4611686018427387904 ∧ Hid (prs gf a R = X))
  case atStart =>
    refine ⟨0, 0, l, rfl, rfl, Lib.hid rfl, ?_, ?_, ?_, below_alloc3 _ _ _ _, Lib.hid (by decide), hl, HX'⟩
    · rw [alloc_lt _ _ _ (by simp; omega), alloc_lt _ _ _ (by simp), alloc_at _ _ _ rfl]
    · rw [alloc_lt _ _ _ (by simp), alloc_at _ _ _ (by simp)]; rfl
    · rw [alloc_at _ _ _ (by simp)]
  case round =>
    obtain ⟨i, a, R, rfl, rfl, hi, hk0, hk1, hk2, hbw, ha, hR, hx⟩ := hrel
    by_cases hlt : i < 4
    · obtain ⟨j, rfl⟩ : ∃ j, gk = j + 1 := ⟨gk - 1, by have := hi.out; omega⟩
      have hi4 : (i : Int) < 4 := by omega
      have hc2 := (cell_of_block hk2 i).trans (seps_at i hlt)
      have hcz := cutA_len (sep i) R
      go_wp2_with fail
      refine (cut_any R (sep i) _ hR).mono ?_
      rintro e w1 ⟨rfl, hb1⟩
      have l0 : w.heap.size < wr.heap.size := by
        rcases Nat.lt_or_ge w.heap.size wr.heap.size with h | h
        · exact h
        · rw [Array.getElem?_eq_none h] at hk0; cases hk0
      have l2 : w.heap.size + 1 + 1 < wr.heap.size := by
        rcases Nat.lt_or_ge (w.heap.size + 1 + 1) wr.heap.size with h | h
        · exact h
        · rw [Array.getElem?_eq_none h] at hk2; cases hk2
      go_wp2_with fail
      refine (num255 (cutA (sep i) R) _ (by omega)).mono ?_
      rintro e w2 ⟨rfl, hb2⟩
      have hbr := hb1.trans (hb2.mono hb1.size)
      have hk0' := (hbr.block _ l0).trans hk0
      have hk1' := (hbr.block _ (by omega)).trans hk1
      have hk2' := (hbr.block _ l2).trans hk2
      have hbw' := hbw.trans (hbr.mono (by omega))
      clear hk0 hk1 hk2 hbw hb1 hb2 hbr hc2
      by_cases hok : (cutF (sep i) R && numOk 255 (cutA (sep i) R)) = true
      · obtain ⟨hst, hn⟩ := step_cut _ _ hok
        simp only [Bool.and_eq_true] at hok
        obtain ⟨hF, hN⟩ := hok
        rw [hF, hN]
        have hx2 := hx.out
        rw [prs_step hi.out, hst] at hx2
        have hx3 := Lib.hid hx2
        clear hx2 hst hF hN
        have ha2 := (pow_le4 ha.out hlt).1
        have hRl := cutB_len (sep i) R
        generalize nv 255 (cutA (sep i) R) = n at *
        generalize cutB (sep i) R = R' at *
        have c1 : w2.cell? ⟨w.heap.size + 1, 0, none⟩ = some (.int .u32 (a : Int)) := (cell_of_block hk1' 0).trans rfl
        have f1 := unfrozen_of_block hk1' 0
        have hor := or_byte a n ha2 hn
        generalize hT : a * 256 + n = T at *
        have HT := Lib.hid hT
        clear hT
        have hk1s := block_setCell (i := 0) hk1' (.int .u32 (T : Int))
        have hk0s := (Below.heap_setCell w2 ⟨w.heap.size + 1, 0, none⟩ (.int .u32 (T : Int)) w.heap.size (by simp)).trans hk0'
        have hk2s := (Below.heap_setCell w2 ⟨w.heap.size + 1, 0, none⟩ (.int .u32 (T : Int)) (w.heap.size + 1 + 1) (by simp)).trans hk2'
        have hbs := Below.setCell hbw' (p := ⟨w.heap.size + 1, 0, none⟩) (by simp) (.int .u32 (T : Int))
        clear hk0' hk1' hk2' hbw'
        go_wp2
        go_roundg j
        case measure => omega
        case rel =>
          refine ⟨i + 1, T, R', val_int (by omega), rfl, Lib.hid (by have := hi.out; omega), hk0s, hk1s, hk2s, hbs, Lib.hid ?_, by omega, Lib.hid (by rw [← HT.out]; exact hx3.out)⟩
          have h1 := ha.out
          have h2 := HT.out
          rw [Nat.pow_succ]
          omega
      · rw [Bool.not_eq_true] at hok
        have hx2 := hx.out
        rw [prs_step hi.out, step_nocut _ _ hok] at hx2
        simp only at hx2
        subst hx2
        have o0 : w2.cell? ⟨w.heap.size, 0, none⟩ = some (.int .u32 0) := (cell_of_block hk0' 0).trans rfl
        have o1 : w2.cell? ⟨w.heap.size, 1, none⟩ = some (.int .i64 0) := (cell_of_block hk0' 1).trans rfl
        have f0 := unfrozen_of_block hk0' 0
        have f1 := unfrozen_of_block hk0' 1
        have hk2 := block_setCell (i := 1) (block_setCell (i := 0) hk0' (.int .u32 0)) (.int .i64 0)
        have r0 := (cell_of_block hk2 0).trans (show _ = some (.int .u32 0) by simp)
        have r1 := (cell_of_block hk2 1).trans (show _ = some (.int .i64 0) by simp)
        have hbs := Below.setCell (Below.setCell hbw' (p := ⟨w.heap.size, 0, none⟩) (by simp) (.int .u32 0)) (p := ⟨w.heap.size, 1, none⟩) (by simp) (.int .i64 0)
        clear hk0' hk1' hk2' hk2 hbw' HX' hx
        by_cases hF : cutF (sep i) R = true
        · have hN : numOk 255 (cutA (sep i) R) = false := by simpa [hF] using hok
          rw [hF, hN]
          go_wp2
          refine bodyPost_ret (v := pr (0, 0, 3)) (by simp [results, Tryd.results31, go_sem, r0, r1]) rfl ⟨rfl, ?_⟩
          exact hbs
        · rw [Bool.not_eq_true] at hF
          rw [hF]
          go_wp2
          refine bodyPost_ret (v := pr (0, 0, 3)) (by simp [results, Tryd.results31, go_sem, r0, r1]) rfl ⟨rfl, ?_⟩
          exact hbs
    · obtain rfl : i = 4 := by have := hi.out; omega
      obtain rfl : gk = 0 := by have := hi.out; omega
      have hx2 := hx.out
      rw [prs] at hx2
      have HX2 := Lib.hid hx2
      have ha2 : a < 4294967296 := ha.out
      clear hx2 hx hi ha HX'
      go_wp2_with fail
      refine (num32 R _ hR).mono ?_
      rintro e w2 ⟨rfl, hbr⟩
      have l2 : w.heap.size + 1 + 1 < wr.heap.size := by
        rcases Nat.lt_or_ge (w.heap.size + 1 + 1) wr.heap.size with h | h
        · exact h
        · rw [Array.getElem?_eq_none h] at hk2; cases hk2
      have hk0' := (hbr.block w.heap.size (by omega)).trans hk0
      have hk1' := (hbr.block _ (by omega)).trans hk1
      have hbw' := hbw.trans (hbr.mono (by omega))
      clear hk0 hk1 hk2 hbw hbr
      by_cases hN : numOk 32 R = true
      · have hv : nv 32 R = val R := if_pos hN
        have hv2 : val R ≤ 32 := ((numOk_iff _ _).1 hN).2.2.2
        rw [hN, hv]
        have hX : (if okp a (val R : Int) = true then (a, val R, (0 : Int)) else (0, 0, 1)) = X := by
          have := HX2.out
          unfold fin at this
          rwa [if_pos hN] at this
        clear HX2 hv hN
        generalize val R = n at *
        have c1 : w2.cell? ⟨w.heap.size + 1, 1, none⟩ = some (.int .i64 0) := (cell_of_block hk1' 1).trans rfl
        have f1 := unfrozen_of_block hk1' 1
        have hk1s := block_setCell (i := 1) hk1' (.int .i64 (n : Int))
        have hk0s := (Below.heap_setCell w2 ⟨w.heap.size + 1, 1, none⟩ (.int .i64 (n : Int)) w.heap.size (by simp)).trans hk0'
        have hbs := Below.setCell hbw' (p := ⟨w.heap.size + 1, 1, none⟩) (by simp) (.int .i64 (n : Int))
        have s0 := (cell_of_block hk1s 0).trans (show _ = some (.int .u32 (a : Int)) by simp)
        have s1 := (cell_of_block hk1s 1).trans (show _ = some (.int .i64 (n : Int)) by simp)
        clear hk0' hk1' hbw'
        go_wp2_with fail
        generalize w2.setCell ⟨w.heap.size + 1, 1, none⟩ (.int .i64 (n : Int)) = w3 at *
        refine (may_any a (n : Int) _ ha2).mono ?_
        rintro e w4 ⟨rfl, hb4⟩
        have l3 : w.heap.size + 1 < w3.heap.size := by
          rcases Nat.lt_or_ge (w.heap.size + 1) w3.heap.size with h | h
          · exact h
          · rw [Array.getElem?_eq_none h] at hk1s; cases hk1s
        have hk0 := (hb4.block w.heap.size (by omega)).trans hk0s
        have hk1 := (hb4.block _ l3).trans hk1s
        have hb := hbs.trans (hb4.mono (by omega))
        clear hk0s hk1s hbs hb4 s0 s1
        have o0 : w4.cell? ⟨w.heap.size, 0, none⟩ = some (.int .u32 0) := (cell_of_block hk0 0).trans rfl
        have o1 : w4.cell? ⟨w.heap.size, 1, none⟩ = some (.int .i64 0) := (cell_of_block hk0 1).trans rfl
        have f0 := unfrozen_of_block hk0 0
        have f1 := unfrozen_of_block hk0 1
        have p0 := (cell_of_block hk1 0).trans (show _ = some (.int .u32 (a : Int)) by simp)
        have p1 := (cell_of_block hk1 1).trans (show _ = some (.int .i64 (n : Int)) by simp)
        by_cases hO : okp a (n : Int) = true
        · rw [if_pos hO] at hX
          subst hX
          rw [hO]
          have hk2 := block_setCell (i := 1) (block_setCell (i := 0) hk0 (.int .u32 (a : Int))) (.int .i64 (n : Int))
          have r0 := (cell_of_block hk2 0).trans (show _ = some (.int .u32 (a : Int)) by simp)
          have r1 := (cell_of_block hk2 1).trans (show _ = some (.int .i64 (n : Int)) by simp)
          have hbs := Below.setCell (Below.setCell hb (p := ⟨w.heap.size, 0, none⟩) (by simp) (.int .u32 (a : Int))) (p := ⟨w.heap.size, 1, none⟩) (by simp) (.int .i64 (n : Int))
          clear hk0 hk1 hk2 hb
          go_wp2
          refine bodyPost_ret (v := pr (a, n, 0)) (by simp [results, Tryd.results31, go_sem, r0, r1]) rfl ⟨rfl, ?_⟩
          exact hbs
        · rw [if_neg hO] at hX
          subst hX
          rw [Bool.not_eq_true] at hO
          rw [hO]
          have hk2 := block_setCell (i := 1) (block_setCell (i := 0) hk0 (.int .u32 0)) (.int .i64 0)
          have r0 := (cell_of_block hk2 0).trans (show _ = some (.int .u32 0) by simp)
          have r1 := (cell_of_block hk2 1).trans (show _ = some (.int .i64 0) by simp)
          have hbs := Below.setCell (Below.setCell hb (p := ⟨w.heap.size, 0, none⟩) (by simp) (.int .u32 0)) (p := ⟨w.heap.size, 1, none⟩) (by simp) (.int .i64 0)
          clear hk0 hk1 hk2 hb
          go_wp2
          refine bodyPost_ret (v := pr (0, 0, 1)) (by simp [results, Tryd.results31, go_sem, r0, r1]) rfl ⟨rfl, ?_⟩
          exact hbs
      · rw [Bool.not_eq_true] at hN
        have hX : (0, 0, 3) = X := by
          have := HX2.out
          unfold fin at this
          rwa [if_neg (by simp [hN])] at this
        subst hX
        rw [hN, nv_false hN]
        have o0 : w2.cell? ⟨w.heap.size, 0, none⟩ = some (.int .u32 0) := (cell_of_block hk0' 0).trans rfl
        have o1 : w2.cell? ⟨w.heap.size, 1, none⟩ = some (.int .i64 0) := (cell_of_block hk0' 1).trans rfl
        have f0 := unfrozen_of_block hk0' 0
        have f1 := unfrozen_of_block hk0' 1
        have hk2 := block_setCell (i := 1) (block_setCell (i := 0) hk0' (.int .u32 0)) (.int .i64 0)
        have r0 := (cell_of_block hk2 0).trans (show _ = some (.int .u32 0) by simp)
        have r1 := (cell_of_block hk2 1).trans (show _ = some (.int .i64 0) by simp)
        have hbs := Below.setCell (Below.setCell hbw' (p := ⟨w.heap.size, 0, none⟩) (by simp) (.int .u32 0)) (p := ⟨w.heap.size, 1, none⟩) (by simp) (.int .i64 0)
        clear hk0' hk1' hk2 hbw' HX2
        go_wp2
        refine bodyPost_ret (v := pr (0, 0, 3)) (by simp [results, Tryd.results31, go_sem, r0, r1]) rfl ⟨rfl, ?_⟩
        exact hbs
end Go.Proofs.YtkofpijhihghpaaDoor
