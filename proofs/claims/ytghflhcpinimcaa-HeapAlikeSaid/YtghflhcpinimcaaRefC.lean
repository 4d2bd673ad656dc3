/-
  Contracts of the document's Sorted, and of the laws' same and count. No statement is proved here; no conditions.
-/
import Derived.Test.YtghflhcpinimcaaRefB
import Derived.Laws.StructEq
namespace Go.Proofs.Ytghflhcpinimcaa
open Go.RowKit Go.Joins

set_option maxRecDepth 100000 in
theorem rsorted_any (S : Nat → Prop) (A : Option Addr) (c : Nat) (l : List It) (w : World) (hl : Bs S w A l) (hn : l.length ≤ 100000) : Calls Try.prog 10 #[.slice A l.length c] w fun e w' => Made 37 w (srt l) e w' := by
  have HL := Lib.hid (hl.more (T := (· < w.heap.size)) (fun j _ h => h))
  have R0 := Lib.hid (Rw.lit w 37 [] #[] rfl (by simp))
  clear hl
  go_enter Try.func10, Try.ntmps10
  go_wp2_with fail
  go_loopg [3, 4] l.length (fun gf vo vi wx => ∃ (k g cc : Nat) (o : List It), vi = .int .i64 (k : Int) ∧ vo = .slice (some ⟨g, 0, none⟩) o.length cc ∧ Hid (k + gf = l.length) ∧ Hid (o = srt (l.take k)) ∧ Hid (Rw 37 wx g cc o) ∧ Hid (w.heap.size ≤ g) ∧ Hid (Below w.heap.size w wx))
  case atStart => exact ⟨0, w.heap.size, 0, [], rfl, rfl, Lib.hid (by omega), Lib.hid (by simp [srt]), R0, Lib.hid (Nat.le_refl _), Lib.hid (below_alloc1 _ _)⟩
  case round =>
    obtain ⟨k, g, cc, o, rfl, rfl, hk, ho, hR, hg, hB⟩ := hrel
    clear R0
    by_cases hkl : k < l.length
    · have d1 : (k : Int) < (l.length : Int) := by omega
      have HLx := HL.out.below hB.out (fun j h _ => h)
      obtain ⟨b, off, rfl, hb, hlt, c1, c2⟩ := HLx.at_ hkl
      clear HLx
      have hol : Hid (o.length = k) := Lib.hid (by rw [ho.out, srt_length, List.length_take]; have := hk.out; omega)
      have rp := rpush_any _ (some ⟨g, 0, none⟩) cc o (gt l k) _ hR.out.bs (by have := hol.out; omega)
      go_wp2_with fail
      refine rp.mono ?_
      rintro e W2 ⟨g2, cc2, rfl, hR2, hg2, hb2⟩
      have L3 : Hid (ins (gt l k) o = srt (l.take (k + 1))) := Lib.hid (by rw [gt_snoc l k hkl, srt_snoc, ho.out])
      have R4 := Lib.hid hR2
      have B3 := Lib.hid (hB.out.trans (hb2.mono hB.out.size))
      have G3 : Hid (w.heap.size ≤ g2) := Lib.hid (by have := hB.out.size; omega)
      clear rp hR2 hg2 hb2 hol
      generalize ins (gt l k) o = o2 at *
      go_wp2
      go_roundg (gk - 1)
      case measure => have := hk.out; omega
      case rel => exact ⟨k + 1, g2, cc2, o2, by go_num, rfl, Lib.hid (by have := hk.out; omega), L3, R4, G3, B3⟩
    · have d1 : decide ((k : Int) < (l.length : Int)) = false := decide_eq_false (by omega)
      have d2 : decide (k < l.length) = false := decide_eq_false hkl
      have hol : o = srt l := by rw [ho.out, List.take_of_length_le (by omega)]
      have hR5 := hR.out
      rw [hol] at hR5
      have HO := Lib.hid hol
      clear hol
      go_wp2
      go_ret
      exact ⟨g, cc, by rw [← HO.out]; rfl, hR5, hg.out, hB.out⟩

set_option maxRecDepth 100000 in
theorem same_any (S T : Nat → Prop) (A A2 : Option Addr) (c c2 : Nat) (l : List It) (w : World) (hl : Bs S w A l) (hl2 : Bs T w A2 l) (hn : l.length ≤ 100000) : Calls Try.prog 18 #[.slice A l.length c, .slice A2 l.length c2] w fun e w' => e = .returned (.bool true) ∧ Below w.heap.size w w' := by
  have HL := Lib.hid hl
  have HL2 := Lib.hid hl2
  clear hl hl2
  go_enter Try.func18, Try.ntmps18
  go_wp2_with fail
  go_loopg [5] l.length (fun gf vi wx => ∃ (k : Nat), vi = .int .i64 (k : Int) ∧ Hid (k + gf = l.length) ∧ Hid (Below w.heap.size w wx))
  case atStart => exact ⟨0, rfl, Lib.hid (by omega), Lib.hid (Below.refl _ _)⟩
  case round =>
    obtain ⟨k, rfl, hk, hB⟩ := hrel
    by_cases hkl : k < l.length
    · have d1 : (k : Int) < (l.length : Int) := by omega
      obtain ⟨b, off, rfl, hb, hlt, c1, c2⟩ := (HL.out.below hB.out (fun j _ h => h)).at_ hkl
      obtain ⟨b2, off2, rfl, hb2, hlt2, c3, c4⟩ := (HL2.out.below hB.out (fun j _ h => h)).at_ hkl
      clear hb hb2 hlt hlt2
      generalize gt l k = x at *
      go_wp2_with fail
      go_quiet (fail)
      have w1 : wrap64 ((k : Int) + 1) = (k : Int) + 1 := by unfold wrap64; omega
      go_wp2
      go_roundg (gk - 1)
      case measure => have := hk.out; omega
      case rel => exact ⟨k + 1, by go_num, Lib.hid (by have := hk.out; omega), Lib.hid (hB.out.trans (below_draws _ _ _))⟩
    · have d1 : decide ((k : Int) < (l.length : Int)) = false := decide_eq_false (by omega)
      have d2 : decide (k < l.length) = false := decide_eq_false hkl
      go_wp2
      go_ret
      exact ⟨rfl, hB.out⟩

/-- How often. -/
def cnt (x : It) (l : List It) : Nat := l.countP (fun y => decide (y = x))
theorem cnt_snoc (x y : It) (l : List It) : cnt x (l ++ [y]) = cnt x l + if y = x then 1 else 0 := by
  simp only [cnt, List.countP_append, List.countP_singleton, decide_eq_true_eq]
theorem cnt_perm {l m : List It} (h : l.Perm m) (x : It) : cnt x l = cnt x m := h.countP_eq _
theorem cnt_le (x : It) (l : List It) : cnt x l ≤ l.length := List.countP_le_length

set_option maxRecDepth 100000 in
theorem count_any (S : Nat → Prop) (A : Option Addr) (c : Nat) (l : List It) (x : It) (w : World) (hl : Bs S w A l) (hn : l.length ≤ 100000) : Calls Try.prog 21 #[.slice A l.length c, iv x] w fun e w' => e = .returned (.int .i64 (cnt x l : Int)) ∧ Below w.heap.size w w' := by
  have HL := Lib.hid (hl.more (T := (· < w.heap.size)) (fun j _ h => h))
  have X0 := Lib.hid (Go.heap_alloc_new w (.cells #[.int .u64 x.1, .int .i64 x.2] 32))
  clear hl
  go_enter Try.func21, Try.ntmps21
  go_wp2_with fail
  go_loopg [5, 6] l.length (fun gf vn vi wx => ∃ (k n : Nat), vi = .int .i64 (k : Int) ∧ vn = .int .i64 (n : Int) ∧ Hid (k + gf = l.length) ∧ Hid (n = cnt x (l.take k)) ∧ Hid (wx.heap[w.heap.size]? = some (.cells #[.int .u64 x.1, .int .i64 x.2] 32 (0, 0))) ∧ Hid (Below w.heap.size w wx))
  case atStart => exact ⟨0, 0, rfl, rfl, Lib.hid (by omega), Lib.hid (by simp [cnt]), X0, Lib.hid (below_alloc1 _ _)⟩
  case round =>
    obtain ⟨k, n, rfl, rfl, hk, hN, hX, hB⟩ := hrel
    clear X0
    by_cases hkl : k < l.length
    · have d1 : (k : Int) < (l.length : Int) := by omega
      obtain ⟨b, off, rfl, hb, hlt, c1, c2⟩ := (HL.out.below hB.out (fun j h _ => h)).at_ hkl
      obtain ⟨x1, x2, -, -⟩ := blk2 hX.out
      have hnk : n ≤ k := by rw [hN.out]; exact Nat.le_trans (cnt_le _ _) (by simp; omega)
      have w1 : wrap64 ((k : Int) + 1) = (k : Int) + 1 := by unfold wrap64; omega
      have w2 : wrap64 ((n : Int) + 1) = (n : Int) + 1 := by unfold wrap64; omega
      have hst := cnt_snoc x (gt l k) (l.take k)
      rw [← gt_snoc l k hkl, ← hN.out] at hst
      have HST := Lib.hid hst
      clear hb hlt hst hnk
      generalize hy : gt l k = y at *
      clear hy
      by_cases e1 : y.1 = x.1
      · by_cases e2 : y.2 = x.2
        · have hyx : y = x := Prod.ext e1 e2
          subst hyx
          have HS2 : Hid (n + 1 = cnt y (l.take (k + 1))) := Lib.hid (by have := HST.out; simpa using this.symm)
          clear e1 e2 HST
          go_wp2_with fail
          go_quiet (fail)
          go_wp2
          go_roundg (gk - 1)
          case measure => have := hk.out; omega
          case rel => exact ⟨k + 1, n + 1, by go_num, by go_num, Lib.hid (by have := hk.out; omega), HS2, hX, Lib.hid (hB.out.trans (below_draws _ _ _))⟩
        · have hyx : y ≠ x := fun h => e2 (by rw [h])
          have HS2 : Hid (n = cnt x (l.take (k + 1))) := Lib.hid (by have := HST.out; simpa [hyx] using this.symm)
          have t1 : (y.1 == x.1) = true := by simpa using e1
          have t2 : (y.2 == x.2) = false := by simpa using e2
          clear HST hyx e1 e2
          go_wp2_with fail
          go_quiet (fail)
          go_wp2
          go_roundg (gk - 1)
          case measure => have := hk.out; omega
          case rel => exact ⟨k + 1, n, by go_num, rfl, Lib.hid (by have := hk.out; omega), HS2, hX, Lib.hid (hB.out.trans (below_draws _ _ _))⟩
      · have hyx : y ≠ x := fun h => e1 (by rw [h])
        have HS2 : Hid (n = cnt x (l.take (k + 1))) := Lib.hid (by have := HST.out; simpa [hyx] using this.symm)
        have t1 : (y.1 == x.1) = false := by simpa using e1
        clear HST hyx e1
        go_wp2_with fail
        go_quiet (fail)
        go_wp2
        go_roundg (gk - 1)
        case measure => have := hk.out; omega
        case rel => exact ⟨k + 1, n, by go_num, rfl, Lib.hid (by have := hk.out; omega), HS2, hX, Lib.hid (hB.out.trans (below_draws _ _ _))⟩
    · have d1 : decide ((k : Int) < (l.length : Int)) = false := decide_eq_false (by omega)
      have d2 : decide (k < l.length) = false := decide_eq_false hkl
      have hN2 : n = cnt x l := by rw [hN.out, List.take_of_length_le (by omega)]
      have HN2 := Lib.hid hN2
      clear hN2
      go_wp2
      go_ret
      exact ⟨ret_int (by rw [← HN2.out]), hB.out⟩
end Go.Proofs.Ytghflhcpinimcaa
