/-
  The contract of the heap's Sorted. No statement is proved here; no conditions.
-/
import Derived.Test.YtghflhcpinimcaaNew
namespace Go.Proofs.Ytghflhcpinimcaa
open Go.RowKit Go.Joins

theorem flat_zero (n : Nat) : flat (List.replicate n (0, 0)) = (madeCells (Value.agg #[.int .u64 0, .int .i64 0]).cells (n * 2)).toList := by
  have hz : (Value.agg #[.int .u64 0, .int .i64 0]).cells = #[.int .u64 0, .int .i64 0] := rfl
  rw [hz]
  apply List.ext_getElem?
  intro j
  rcases Nat.lt_or_ge j (n * 2) with h | h
  · obtain ⟨f1, f2⟩ := flat_get (l := List.replicate n ((0, 0) : It)) (i := j / 2) (by simp; omega)
    have hg : gt (List.replicate n ((0, 0) : It)) (j / 2) = (0, 0) := by
      unfold gt List.getD
      rw [List.getElem?_replicate]
      split <;> rfl
    rw [hg] at f1 f2
    conv => rhs; rw [Array.getElem?_toList]
    rcases Nat.mod_two_eq_zero_or_one j with e | e
    · rw [show j / 2 * 2 = j by omega] at f1
      rw [f1]
      simp [madeCells, h, e]
    · rw [show j / 2 * 2 + 1 = j by omega] at f2
      rw [f2]
      simp [madeCells, h, e]
  · rw [List.getElem?_eq_none (by rw [flat_length]; simpa using h), List.getElem?_eq_none (by simpa [size_madeCells] using h)]
theorem run_mk (w : World) (n : Nat) (hn : n ≤ 1000000) : ∃ w', (Instr.makeSlice 22 (.int .i64 (n : Int)) (.int .i64 (n : Int))).run Try.prog w = .ok (.slice (some ⟨w.heap.size, 0, none⟩) n n) w' ∧ Rw 32 w' w.heap.size n (List.replicate n (0, 0)) ∧ Below w.heap.size w w' := by
  obtain ⟨i, hi, hz, hsz, hby⟩ := info_two info32
  have hr := run_make (P := Try.prog) w 22 32 i _ Try.underlying22 hi hz .i64 .i64 n n (by omega) (by omega) (by rw [hby]; omega) (by omega)
  refine ⟨_, by simpa using hr, ⟨_, by simpa using Go.heap_alloc_new w _, by simp, by unfold maxLen; omega, by simp [size_madeCells, hsz], ?_⟩, by simpa using below_alloc1 w _⟩
  rw [flat_zero, List.length_replicate, hsz, List.take_of_length_le (by simp [size_madeCells])]

/-- The result is a new row of the items m. -/
def Made (e : TypeId) (w : World) (m : List It) (x : Ending) (w' : World) : Prop := ∃ g c, x = .returned (.slice (some ⟨g, 0, none⟩) m.length c) ∧ Rw e w' g c m ∧ w.heap.size ≤ g ∧ Below w.heap.size w w'
theorem drop_tail (m : List It) (k : Nat) : (m.drop k).tail = m.drop (k + 1) := by rw [List.tail_drop]
theorem drop_hd (m : List It) (k : Nat) : hd (m.drop k) = gt m k := by simp [hd, gt, List.getD, List.headD_eq_head?_getD]
theorem list_gt {a b : List It} (h : a.length = b.length) (hk : ∀ j, j < b.length → gt a j = gt b j) : a = b := by
  refine List.ext_getElem h fun j h1 h2 => ?_
  have := hk j h2
  rwa [gt_eq h1, gt_eq h2] at this

set_option maxRecDepth 100000 in
theorem sorted_any (S : Nat → Prop) (A2 : Option Addr) (c2 : Nat) (l : List It) (w : World) (hl : Bs S w A2 l) (hn : l.length ≤ 1000000) : Calls Try.prog 19 #[.slice A2 l.length c2] w fun e w' => Made 32 w (srt l) e w' := by
  have nw := new_any S A2 c2 l w hl hn
  have hsl := srt_length l
  obtain ⟨m, hm⟩ : ∃ m, srt l = m := ⟨_, rfl⟩
  rw [hm] at nw hsl ⊢
  clear hl hm
  go_enter Try.func19, Try.ntmps19
  go_wp2_with fail
  refine nw.mono ?_
  rintro e W1 ⟨rfl, g, q1, q2, q3⟩
  obtain ⟨W2, hmk, r1, r2⟩ := run_mk W1 l.length hn
  have Q1 := Lib.hid (q1.below r2 (Nat.le_refl _))
  have hs1 := q3.size
  have hlt := q1.lt
  have hglt := q1.glt
  have Q3 := Lib.hid (q3.trans (r2.mono hs1))
  have Q4 : Hid (w.heap.size ≤ g ∧ g < W1.heap.size ∧ w.heap.size < W1.heap.size) := Lib.hid ⟨q2, by omega, by omega⟩
  have R1 := Lib.hid r1
  have HS := Lib.hid hsl
  clear q1 q2 q3 r1 r2 nw hs1 hlt hglt hsl
  go_wp2_with fail
  go_loopg [13] l.length (fun gf vi wx => ∃ (k : Nat) (o : List It), vi = .int .i64 (k : Int) ∧ k + gf = l.length ∧ Hid (o.length = l.length) ∧ Hid (∀ j, j < k → gt o j = gt m j) ∧ Hid (Rw 32 wx W1.heap.size l.length o) ∧ Hid (Hp wx w.heap.size g (m.drop k)) ∧ Hid (Below w.heap.size w wx))
  case atStart => exact ⟨0, _, rfl, by omega, Lib.hid (by simp), Lib.hid (fun j hj => by omega), R1, by simpa using Q1, Q3⟩
  case round =>
    obtain ⟨k, o, rfl, hk, ho, hgt, hR, hH, hB⟩ := hrel
    clear R1 Q1 Q3
    have HK := Lib.hid hk
    clear hk
    by_cases hkl : k < l.length
    · have d1 : (k : Int) < (l.length : Int) := by omega
      have pp := pop_any w.heap.size g (m.drop k) _ hH.out (by have := HS.out; simp; omega)
      rw [drop_tail, drop_hd] at pp
      go_wp2_with fail
      refine pp.mono ?_
      rintro e W3 ⟨rfl, s1, s2⟩
      obtain ⟨l1, l2, l3⟩ := Q4.out
      have hR3 := hR.out.kp s2 (by omega)
      have hko : k < o.length := by rw [ho.out]; exact hkl
      obtain ⟨c1, c2⟩ := hR3.cell hko
      have f1 := hR3.frozen (k * 2)
      have f2 := hR3.frozen (k * 2 + 1)
      have hR4 := Lib.hid (hR3.set hko (gt m k))
      have B4 := Lib.hid (((hB.out.trans (s2.below (B := w.heap.size) (fun j hj => by omega) (by have := hH.out.lt; omega))).setCell (p := ⟨W1.heap.size, k * 2, none⟩) (by show w.heap.size ≤ W1.heap.size; omega) (.int .u64 (gt m k).1)).setCell (p := ⟨W1.heap.size, k * 2 + 1, none⟩) (by show w.heap.size ≤ W1.heap.size; omega) (.int .i64 (gt m k).2))
      have H4 : Hid (Hp ((W3.setCell ⟨W1.heap.size, k * 2, none⟩ (.int .u64 (gt m k).1)).setCell ⟨W1.heap.size, k * 2 + 1, none⟩ (.int .i64 (gt m k).2)) w.heap.size g (m.drop (k + 1))) := Lib.hid ((s1.kp (Kp.setCell (S := (· = W1.heap.size)) _ _ _ rfl) (by omega) (by omega)).kp (Kp.setCell (S := (· = W1.heap.size)) _ _ _ rfl) (by omega) (by omega))
      have G4 : Hid (∀ j, j < k + 1 → gt (o.set k (gt m k)) j = gt m j) := Lib.hid (fun j hj => by
        rw [gt_set _ _ _ _ hko]
        split
        · rename_i e; rw [e]
        · exact hgt.out j (by omega))
      clear pp s1 s2 hR3 hko l1 l2 l3
      generalize hX : gt m k = X at *
      clear hX
      go_wp2
      go_roundg (gk - 1)
      case measure => have := HK.out; omega
      case rel => exact ⟨k + 1, _, by go_num, by have := HK.out; omega, Lib.hid (by rw [List.length_set]; exact ho.out), G4, hR4, H4, B4⟩
    · have d1 : decide ((k : Int) < (l.length : Int)) = false := decide_eq_false (by omega)
      have d2 : decide (k < l.length) = false := decide_eq_false hkl
      have hom : o = m := by
        have h1 := ho.out
        have h2 := HS.out
        have h3 := HK.out
        exact list_gt (by omega) (fun j hj => hgt.out j (by omega))
      have hR5 := hR.out
      rw [hom] at hR5
      have R5 := Lib.hid hR5
      have HM : Hid (m.length = l.length) := HS
      clear hR5 hom HS
      go_wp2
      go_ret
      exact ⟨W1.heap.size, l.length, by rw [HM.out]; rfl, R5.out, by have := Q4.out; omega, hB.out⟩
end Go.Proofs.Ytghflhcpinimcaa
