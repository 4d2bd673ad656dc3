/-
  The contract of the laws' alive; the law HeapNil's walk; the law HeapSorted's walk. No conditions.
-/
import Derived.Test.YtghflhcpinimcaaRefC
namespace Go.Proofs.Ytghflhcpinimcaa
open Go.RowKit Go.Joins

set_option maxRecDepth 100000 in
theorem alive_any (w : World) : Calls Try.prog 8 #[] w fun e w' => e = .returned (.bool true) ∧ Below w.heap.size w w' := by
  have hl := Rw.lit w 32 [(5, 1), (3, 2)] #[.int .u64 5, .int .i64 1, .int .u64 3, .int .i64 2] rfl (by simp [maxLen])
  have nw := new_any _ _ 2 _ _ hl.bs (by simp)
  have B0 := below_alloc1 w (.cells #[.int .u64 5, .int .i64 1, .int .u64 3, .int .i64 2] 32)
  have e0 : srt [(5, 1), (3, 2)] = [(3, 2), (5, 1)] := by decide
  have e1 : (w.alloc (.cells #[.int .u64 5, .int .i64 1, .int .u64 3, .int .i64 2] 32)).heap.size = w.heap.size + 1 := by simp
  rw [show [((5, 1) : It), (3, 2)].length = 2 from rfl, e0, e1] at nw
  have HB := Lib.hid B0
  have E1 := Lib.hid e1
  clear hl e0 e1 B0
  go_enter Try.func8, Try.ntmps8
  go_wp2_with fail
  refine nw.mono ?_
  rintro e W1 ⟨rfl, g, h1, h2, h3⟩
  rw [E1.out] at h1 h2 h3
  have pp := pop_any _ g _ _ h1 (by simp)
  have HB1 := Lib.hid (HB.out.trans (h3.mono (by omega)))
  have HG : Hid (w.heap.size ≤ g) := Lib.hid (by omega)
  have HS := Lib.hid h1.lt
  rw [show hd [(3, 2), (5, 1)] = (3, 2) from rfl, show some_ [(3, 2), (5, 1)] = true from rfl] at pp
  clear nw h1 h2 h3
  go_wp2_with fail
  refine pp.mono ?_
  rintro e W2 ⟨rfl, h4, h5⟩
  have B2 := (HB1.out.trans (h5.below (B := w.heap.size) (fun j hj => by have := HG.out; omega) (by have := HS.out; omega)))
  have HB2 := Lib.hid (B2.alloc B2.size (.cells #[.int .u64 3, .int .i64 2] 32))
  have ln := len_any _ _ _ _ (h4.below (below_alloc1 W2 (.cells #[.int .u64 3, .int .i64 2] 32)) (Nat.le_refl _))
  clear B2 h4 h5 pp
  go_wp2_with fail
  refine ln.mono ?_
  rintro e W3 ⟨rfl, hW3⟩
  subst hW3
  rw [show ([(3, 2), (5, 1)] : List It).tail.length = 1 from rfl]
  clear ln
  go_wp2
  go_ret
  exact ⟨rfl, HB2.out⟩

set_option maxRecDepth 100000 in
theorem nil_walk (x : It) (w : World) : Calls Try.prog 6 #[iv x] w fun e w' => e = .returned (.bool true) ∧ Below w.heap.size w w' := by
  go_enter Try.func6, Try.ntmps6
  go_wp2_with fail
  refine (push_nil x _).mono ?_
  rintro e W1 ⟨rfl, h1⟩
  have b1 := Lib.hid ((below_alloc1 w _).trans (h1.mono (by simp)))
  clear h1
  go_wp2_with fail
  refine (top_nil _).mono ?_
  rintro e W2 ⟨rfl, h2⟩
  have ha := Lib.hid (Go.heap_alloc_new W2 (.cells #[.int .u64 0, .int .i64 0] 32))
  have b2 := Lib.hid ((b1.out.trans (h2.mono b1.out.size)).alloc (by have := h2.size; have := b1.out.size; omega) (.cells #[.int .u64 0, .int .i64 0] 32))
  clear h2
  go_wp2_with fail
  refine (pop_nil _).mono ?_
  rintro e W3 ⟨rfl, h3⟩
  have ha3 := Lib.hid (blk_alloc (o' := .cells #[.int .u64 0, .int .i64 0] 32) ((h3.block W2.heap.size (by simp)).trans ha.out))
  have hb3 := Lib.hid (Go.heap_alloc_new W3 (.cells #[.int .u64 0, .int .i64 0] 32))
  have b3 := Lib.hid ((b2.out.trans (h3.mono b2.out.size)).alloc (by have := h3.size; have := b2.out.size; omega) (.cells #[.int .u64 0, .int .i64 0] 32))
  clear h3 ha
  go_wp2_with fail
  refine (alive_any _).mono ?_
  rintro e W4 ⟨rfl, h4⟩
  have ha4 := (h4.block W2.heap.size (lt_of_block ha3.out)).trans ha3.out
  have hb4 := (h4.block W3.heap.size (by simp)).trans hb3.out
  obtain ⟨c1, c2, -, -⟩ := blk2 ha4
  obtain ⟨c3, c4, -, -⟩ := blk2 hb4
  have b4 := Lib.hid (b3.out.trans (h4.mono b3.out.size))
  clear h4 ha4 hb4
  go_wp2_with fail
  refine (len_nil _).mono ?_
  rintro e W5 ⟨rfl, hW5⟩
  subst hW5
  go_wp2
  go_ret
  exact ⟨rfl, b4.out⟩

set_option maxRecDepth 100000 in
theorem sorted_walk (A : Option Addr) (c : Nat) (l : List It) (w : World) (hl : Bs (· < w.heap.size) w A l) : Calls Try.prog 4 #[.slice A l.length c] w fun e w' => e = .returned (.bool true) ∧ Below w.heap.size w w' := by
  by_cases hlen : l.length > 100
  · have h1 : (100 : Int) < (l.length : Int) := by omega
    go_enter Try.func4, Try.ntmps4
    go_wp2_with fail
    refine (alive_any _).mono ?_
    rintro e W1 ⟨rfl, h1⟩
    go_wp2
    go_ret
    exact ⟨rfl, h1⟩
  · have h1 : decide ((100 : Int) < (l.length : Int)) = false := decide_eq_false (by omega)
    have h1' : decide (100 < l.length) = false := decide_eq_false (by omega)
    have HL := Lib.hid hl
    clear hl
    go_enter Try.func4, Try.ntmps4
    go_wp2_with fail
    refine (alive_any _).mono ?_
    rintro e W1 ⟨rfl, b1⟩
    have B1 := Lib.hid b1
    have so := sorted_any _ A c l _ (HL.out.below b1 (fun _ h _ => h)) (by omega)
    clear b1
    go_wp2_with fail
    refine so.mono ?_
    rintro e W2 ⟨g2, c2, rfl, r2, q2, b2⟩
    have B2 := Lib.hid (B1.out.trans (b2.mono B1.out.size))
    have hsl := Lib.hid (srt_length l)
    have ro := rows_any _ (some ⟨g2, 0, none⟩) c2 (srt l) _ r2.bs (by have := hsl.out; omega)
    clear so b2 q2 r2
    go_wp2_with fail
    refine ro.mono ?_
    rintro e W3 ⟨g3, c3, rfl, r3, q3, b3⟩
    have B3 := Lib.hid (B2.out.trans (b3.mono B2.out.size))
    have R3 := Lib.hid r3
    have ro2 := rows_any _ A c l _ (HL.out.below B3.out (fun _ h _ => h)) (by omega)
    clear ro b3 q3 r3
    go_wp2_with fail
    refine ro2.mono ?_
    rintro e W4 ⟨g4, c4, rfl, r4, q4, b4⟩
    have B4 := Lib.hid (B3.out.trans (b4.mono B3.out.size))
    have R4 := Lib.hid (R3.out.below b4 R3.out.lt)
    have rs := rsorted_any _ (some ⟨g4, 0, none⟩) c4 l _ r4.bs (by omega)
    clear ro2 b4 q4 r4
    go_wp2_with fail
    refine rs.mono ?_
    rintro e W5 ⟨g5, c5, rfl, r5, q5, b5⟩
    have B5 := Lib.hid (B4.out.trans (b5.mono B4.out.size))
    have R5 := R4.out.below b5 R4.out.lt
    have sm := same_any _ _ (some ⟨g3, 0, none⟩) (some ⟨g5, 0, none⟩) c3 c5 (srt l) _ R5.bs r5.bs (by have := hsl.out; omega)
    clear rs b5 q5 r5 R5 hsl
    go_wp2_with fail
    refine sm.mono ?_
    rintro e W6 ⟨rfl, b6⟩
    have B6 := Lib.hid (B5.out.trans (b6.mono B5.out.size))
    clear sm b6
    go_wp2
    go_ret
    exact ⟨rfl, B6.out⟩
end Go.Proofs.Ytghflhcpinimcaa
