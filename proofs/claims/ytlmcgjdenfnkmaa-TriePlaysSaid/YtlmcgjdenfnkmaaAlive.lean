/-
  The contract of the laws' live question. No statement is proved here; no conditions.
-/
import Derived.Test.YtlmcgjdenfnkmaaRef4
namespace Go.Proofs.Ytlmcgjdenfnkmaa
open Go.RowKit Go.Joins

/-- A variable of an entry is made and stored into. -/
theorem stored (a n v : Int) (W : World) : ∃ W1 W2, W.alloc (.cells #[.int .u32 0, .int .i64 0, .int .i64 0] 39) = W1 ∧ (W1.cell? ⟨W.heap.size, 0, none⟩ = some (.int .u32 0) ∧ W1.cell? ⟨W.heap.size, 1, none⟩ = some (.int .i64 0) ∧ W1.cell? ⟨W.heap.size, 2, none⟩ = some (.int .i64 0) ∧ W1.frozen? ⟨W.heap.size, 0, none⟩ = false ∧ W1.frozen? ⟨W.heap.size, 1, none⟩ = false ∧ W1.frozen? ⟨W.heap.size, 2, none⟩ = false) ∧
    ((W1.setCell ⟨W.heap.size, 0, none⟩ (.int .u32 a)).setCell ⟨W.heap.size, 1, none⟩ (.int .i64 n)).setCell ⟨W.heap.size, 2, none⟩ (.int .i64 v) = W2 ∧ W2.heap[W.heap.size]? = some (.cells #[.int .u32 a, .int .i64 n, .int .i64 v] 39 (0, 0)) ∧ Below W.heap.size W W2 := by
  have h : (W.alloc (.cells #[.int .u32 0, .int .i64 0, .int .i64 0] 39)).heap[W.heap.size]? = some (.cells #[.int .u32 0, .int .i64 0, .int .i64 0] 39 (0, 0)) := Go.heap_alloc_new _ _
  refine ⟨_, _, rfl, blk3 h, rfl, blk3_set _ _ _ h, ?_⟩
  exact Below.setCell (Below.setCell (Below.setCell (below_alloc1 _ _) (by simp) _) (by simp) _) (by simp) _
theorem al1 : setm [] ⟨0, 0, 1⟩ = [⟨0, 0, 1⟩] := by decide +kernel
theorem al2 : setm [⟨0, 0, 1⟩] ⟨167772160, 8, 2⟩ = [⟨0, 0, 1⟩, ⟨167772160, 8, 2⟩] := by decide +kernel
theorem al3 : (abv [⟨0, 0, 1⟩, ⟨167772160, 8, 2⟩] 167772165 32).getLast? = some ⟨167772160, 8, 2⟩ := by decide +kernel
theorem al4 : (abv [⟨0, 0, 1⟩, ⟨167772160, 8, 2⟩] 184549376 32).getLast? = some ⟨0, 0, 1⟩ := by decide +kernel
theorem al5 : okp 167772160 8 = true := by decide +kernel
set_option maxRecDepth 100000 in
set_option maxHeartbeats 1000000 in
theorem alive_any (w : World) : Calls Try.prog 17 #[] w fun e w' => e = .returned (.bool true) ∧ Below w.heap.size w w' := by
  go_enter Try.func17, Try.ntmps17
  go_wp2_with fail
  refine (new_any _).mono ?_
  rintro e W1 ⟨rfl, b1, s1, t1⟩
  have B1 := Lib.hid b1
  have cs1 := set_any _ w.heap.size 0 0 1 [] W1 t1 (by omega) (by decide +kernel) (by simp)
  rw [al1] at cs1
  clear b1
  go_wp2_with fail
  refine cs1.mono ?_
  rintro e W2 ⟨rfl, S2, t2, k2, n2⟩
  have b2 : Below w.heap.size w W2 := B1.out.trans (k2.below (fun j hj => by omega) (by omega))
  have cs2 := set_any _ w.heap.size 167772160 8 2 _ W2 t2 (by omega) al5 (by simp)
  rw [al2] at cs2
  have hs2 := b2.size
  clear cs1 t1
  go_wp2_with fail
  refine cs2.mono ?_
  rintro e W3 ⟨rfl, S3, t3, k3, n3⟩
  have b3 : Below w.heap.size w W3 := b2.trans (k3.below (fun j hj => by rcases n2 j hj with q | q <;> omega) (by omega))
  have cf1 := find_any S3 w.heap.size 167772165 _ W3 t3 (by omega)
  rw [al3] at cf1
  simp only [fdv] at cf1
  clear cs2 k2 k3 n2 n3 t2 b2
  go_wp2_with fail
  refine cf1.mono ?_
  rintro e W4 ⟨rfl, hb4⟩
  have b4 : Below w.heap.size w W4 := b3.trans (hb4.mono b3.size)
  have t4 := t3.below hb4
  obtain ⟨W5, W6, hW5, ⟨c0, c1, c2, f0, f1, f2⟩, hW6, hx6, b6⟩ := stored 167772160 8 2 W4
  have cf2 := find_any S3 w.heap.size 184549376 _ W6 (t4.below b6) (by omega)
  rw [al4] at cf2
  simp only [fdv] at cf2
  clear cf1 t3 hb4 b3
  go_wp2_with fail
  refine cf2.mono ?_
  rintro e W7 ⟨rfl, hb7⟩
  have hx7 := (hb7.block _ (lt_of_block hx6)).trans hx6
  have t7 := (t4.below b6).below hb7
  have b7 : Below w.heap.size w W7 := b4.trans ((b6.mono b4.size).trans (hb7.mono (by have := b4.size; have := b6.size; omega)))
  clear cf2 c0 c1 c2 f0 f1 f2
  obtain ⟨W8, W9, hW8, ⟨c0, c1, c2, f0, f1, f2⟩, hW9, hx9, b9⟩ := stored 0 0 1 W7
  have hy9 := (b9.block _ (lt_of_block hx7)).trans hx7
  obtain ⟨_, _, v1, _⟩ := blk3 hy9
  obtain ⟨_, _, v2, _⟩ := blk3 hx9
  obtain ⟨nd, en, t9, _⟩ := t7.below b9
  have cl := len_any w.heap.size nd en _ _ W9 t9
  have bb : Below w.heap.size w W9 := b7.trans (b9.mono b7.size)
  have hl2 : (([⟨0, 0, 1⟩, ⟨167772160, 8, 2⟩] : List En).length : Int) = 2 := rfl
  rw [hl2] at cl
  clear hx6 hx7 hx9 hy9 t4 t7 t9 b4 b6 b7 b9 hb7 hl2
  go_wp2_with fail
  refine cl.mono ?_
  rintro e W ⟨rfl, rfl⟩
  go_wp2
  go_ret
  exact ⟨rfl, bb⟩
end Go.Proofs.Ytlmcgjdenfnkmaa
