/-
  Contracts of the document's answer (Ahead, Push, Sorted) and of what the laws share (plain, rows, same, count). No statement is proved here; no conditions.
-/
import Derived.Test.YtghflhcpinimcaaSorted
namespace Go.Proofs.Ytghflhcpinimcaa
open Go.RowKit Go.Joins

theorem ahead_any (x y : It) (w : World) : Calls Try.prog 20 #[iv x, iv y] w fun e w' => e = .returned (.bool (lt x y)) ∧ Below w.heap.size w w' := by
  by_cases h : x.1 < y.1
  · have h1 : decide (x.1 < y.1) = true := decide_eq_true h
    go_enter Try.func20, Try.ntmps20
    go_wp2
    go_ret
    exact ⟨ret_bool (by unfold lt; rw [eq_comm, decide_eq_true_eq]; exact .inl h), below_alloc2 _ _ _⟩
  · have h1 : decide (x.1 < y.1) = false := decide_eq_false h
    by_cases h2 : x.1 = y.1
    · have h3 : (x.1 == y.1) = true := by simpa using h2
      go_enter Try.func20, Try.ntmps20
      go_wp2
      go_ret
      exact ⟨ret_bool (by unfold lt; exact decide_eq_decide.2 (by omega)), below_alloc2 _ _ _⟩
    · have h3 : (x.1 == y.1) = false := by simpa using h2
      go_enter Try.func20, Try.ntmps20
      go_wp2
      go_ret
      exact ⟨ret_bool (by unfold lt; rw [eq_comm, decide_eq_false_iff_not]; omega), below_alloc2 _ _ _⟩
theorem plain_any (x : It) (w : World) : Calls Try.prog 13 #[iv x] w fun e w' => e = .returned (iv x) ∧ Below w.heap.size w w' := by
  go_enter Try.func13, Try.ntmps13
  go_wp2
  exact bodyPost_ret (v := iv x) (by simp [results, Try.results13, go_sem]) rfl ⟨rfl, below_alloc2 _ _ _⟩
theorem gt_snoc (l : List It) (k : Nat) (h : k < l.length) : l.take (k + 1) = l.take k ++ [gt l k] := by rw [gt_eq h, List.take_succ_eq_append_getElem h]

set_option maxRecDepth 100000 in
theorem rows_any (S : Nat → Prop) (A : Option Addr) (c : Nat) (l : List It) (w : World) (hl : Bs S w A l) (hn : l.length ≤ 100000) : Calls Try.prog 11 #[.slice A l.length c] w fun e w' => Made 37 w l e w' := by
  obtain ⟨i, hi, hz, hsz, hby⟩ := info_two info37
  have HL := Lib.hid (hl.more (T := (· < w.heap.size)) (fun j _ h => h))
  have R0 := Lib.hid (Rw.lit w 37 [] #[] rfl (by simp))
  clear hl
  go_enter Try.func11, Try.ntmps11
  go_wp2_with fail
  go_loopg [3, 4] l.length (fun gf vo vi wx => ∃ (k g cc : Nat) (o : List It), vi = .int .i64 (k : Int) ∧ vo = .slice (some ⟨g, 0, none⟩) o.length cc ∧ Hid (k + gf = l.length) ∧ Hid (o = l.take k) ∧ Hid (Rw 37 wx g cc o) ∧ Hid (w.heap.size ≤ g) ∧ Hid (Below w.heap.size w wx))
  case atStart => exact ⟨0, w.heap.size, 0, [], rfl, rfl, Lib.hid (by omega), Lib.hid (by simp), R0, Lib.hid (Nat.le_refl _), Lib.hid (below_alloc1 _ _)⟩
  case round =>
    obtain ⟨k, g, cc, o, rfl, rfl, hk, ho, hR, hg, hB⟩ := hrel
    clear R0
    by_cases hkl : k < l.length
    · have d1 : (k : Int) < (l.length : Int) := by omega
      have HLx := HL.out.below hB.out (fun j h _ => h)
      obtain ⟨b, off, rfl, hb, hlt, c1, c2⟩ := HLx.at_ hkl
      clear HLx
      go_wp2_with fail
      refine (plain_any (gt l k) _).mono ?_
      rintro e W2 ⟨rfl, hb2⟩
      have hol : Hid (o.length = k) := Lib.hid (by rw [ho.out, List.length_take]; have := hk.out; omega)
      have hR2 := (hR.out.below hb2 hR.out.lt)
      have hR3 := hR2.kp (Kp.refl (fun _ => False) W2 |>.alloc (.cells #[.int .u64 (gt l k).1, .int .i64 (gt l k).2] 37)) (fun h => h)
      have hl1 := Rw.lit W2 37 [gt l k] #[.int .u64 (gt l k).1, .int .i64 (gt l k).2] rfl (by simp [maxLen])
      go_wp2_with (at_builtin; refine wpList_app _ rfl (.tmp 12) (.tmp 18) 27 rfl 37 i _ Try.underlying27 hi hz hsz hby rfl g cc o rfl hR3 _ _ 1 _ [gt l k] rfl rfl hl1.bs (by have := hol.out; simp; omega) ?_; intro l3 g3 c3 w3 hl3 hR4 hK4 hg4)
      have hB3 : Below w.heap.size w w3 := ((hB.out.trans (hb2.mono hB.out.size)).trans ((below_alloc1 W2 _).mono (by have := hB.out.size; have := hb2.size; omega))).trans (hK4.below (fun j hj => by have := hg.out; omega) (by have := hB.out.size; have := hb2.size; simp; omega))
      have hg3 : w.heap.size ≤ g3 := by
        rcases hg4 with e | e
        · have := hg.out; omega
        · have := hB.out.size; have := hb2.size; simp at e; omega
      have L3 : Hid (l3 = l.take (k + 1)) := Lib.hid (by rw [hl3.out, ho.out, gt_snoc l k hkl])
      have R4 := Lib.hid hR4
      have B3 := Lib.hid hB3
      have G3 := Lib.hid hg3
      clear hR2 hR3 hl1 hR4 hK4 hg4 hB3 hg3 hb2 hl3 hol
      go_wp2
      go_roundg (gk - 1)
      case measure => have := hk.out; omega
      case rel => exact ⟨k + 1, g3, c3, l3, by go_num, rfl, Lib.hid (by have := hk.out; omega), L3, R4, G3, B3⟩
    · have d1 : decide ((k : Int) < (l.length : Int)) = false := decide_eq_false (by omega)
      have d2 : decide (k < l.length) = false := decide_eq_false hkl
      have hol : o = l := by rw [ho.out, List.take_of_length_le (by omega)]
      subst hol
      go_wp2
      go_ret
      exact ⟨g, cc, rfl, hR.out, hg.out, hB.out⟩
end Go.Proofs.Ytghflhcpinimcaa
