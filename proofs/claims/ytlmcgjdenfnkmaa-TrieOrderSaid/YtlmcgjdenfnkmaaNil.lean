/-
  The walk of the law TrieNil. No statement is proved here; no conditions.
-/
import Derived.Test.YtlmcgjdenfnkmaaFrame
namespace Go.Proofs.Ytlmcgjdenfnkmaa
open Go.RowKit Go.Joins

set_option maxRecDepth 100000 in
set_option maxHeartbeats 1000000 in
theorem nil_walk (A : Nat) (N : Int) (a : Nat) (V : Int) (w : World) (hA : A < 4294967296) (_ha : a < 4294967296) :
    Calls Try.prog 7 #[pf A N, .int .u32 (a : Int), .int .i64 V] w fun e w' => e = .returned (.bool true) ∧ Below w.heap.size w w' := by
  have K := box_at (w := w) (u := .int .u32 (A : Int)) (v := .int .i64 N) (t := 25) (B := w.heap.size + 1) (by omega)
  have B0 := below_alloc1 w (.cells #[.int .u32 (A : Int), .int .i64 N] 25)
  obtain ⟨W0, hW0⟩ : ∃ W0, w.alloc (.cells #[.int .u32 (A : Int), .int .i64 N] 25) = W0 := ⟨_, rfl⟩
  have hs0 : W0.heap.size = w.heap.size + 1 := by rw [← hW0]; simp
  rw [hW0] at K B0
  obtain ⟨c0, c1, _, _⟩ := K _ (Below.refl _ _)
  have cg := fun W => get_nil A N W hA
  have cf := fun W => find_nil a W
  simp only [gtv] at cg
  simp only [fdv] at cf
  go_enter Try.func7, Try.ntmps7
  go_wp2_with fail
  refine (cg _).mono ?_
  rintro e W1 ⟨rfl, hb1⟩
  have b1 : Below (w.heap.size + 1) W0 W1 := hb1.mono (by omega)
  clear c0 c1 hb1
  go_wp2_with fail
  refine (cf _).mono ?_
  rintro e W2 ⟨rfl, hb2⟩
  have s1 := b1.size
  have b2 : Below (w.heap.size + 1) W0 W2 := b1.trans (hb2.mono (by omega))
  have s2 := b2.size
  obtain ⟨W3, W4, hW3, ⟨y0, y1, y2, f0, f1, f2⟩, hW4, hx4, hb4⟩ := stored 0 0 0 W2
  have b4 : Below (w.heap.size + 1) W0 W4 := b2.trans (hb4.mono (by omega))
  clear b1 hb2 b2 hb4 hx4
  go_wp2_with fail
  refine (alive_any _).mono ?_
  rintro e W5 ⟨rfl, hb5⟩
  have s4 := b4.size
  have b5 : Below (w.heap.size + 1) W0 W5 := b4.trans (hb5.mono (by omega))
  have s5 := b5.size
  clear b4 hb5 hW3 hW4 y0 y1 y2 f0 f1 f2
  obtain ⟨c0, c1, _, _⟩ := K _ b5
  go_wp2_with fail
  refine (set_nil A N V _).mono ?_
  rintro e W6 ⟨rfl, hb6⟩
  have b6 : Below (w.heap.size + 1) W0 W6 := b5.trans (hb6.mono (by omega))
  have s6 := b6.size
  clear c0 c1 b5 hb6
  obtain ⟨c0, c1, _, _⟩ := K _ b6
  go_wp2_with fail
  refine (drop_nil A N _ hA).mono ?_
  rintro e W7 ⟨rfl, hb7⟩
  have b7 : Below (w.heap.size + 1) W0 W7 := b6.trans (hb7.mono (by omega))
  have s7 := b7.size
  clear c0 c1 b6 hb7
  go_wp2_with fail
  refine (walk_nil _).mono ?_
  rintro e W8 ⟨A8, c8, rfl, _, hb8⟩
  have b8 : Below (w.heap.size + 1) W0 W8 := b7.trans (hb8.mono (by omega))
  have s8 := b8.size
  clear b7 hb8
  obtain ⟨c0, c1, _, _⟩ := K _ b8
  simp only [List.length_nil]
  go_wp2_with fail
  refine (below_nil A N _ hA).mono ?_
  rintro e W9 ⟨A9, c9, rfl, _, hb9⟩
  have b9 : Below (w.heap.size + 1) W0 W9 := b8.trans (hb9.mono (by omega))
  have s9 := b9.size
  clear c0 c1 b8 hb9
  obtain ⟨c0, c1, _, _⟩ := K _ b9
  simp only [List.length_nil]
  go_wp2_with fail
  refine (above_nil A N _).mono ?_
  rintro e W10 ⟨A10, c10, rfl, _, hb10⟩
  have b10 : Below (w.heap.size + 1) W0 W10 := b9.trans (hb10.mono (by omega))
  clear c0 c1 b9 hb10
  simp only [List.length_nil]
  go_wp2_with fail
  refine (len_nil _).mono ?_
  rintro e W ⟨rfl, rfl⟩
  go_wp2
  go_ret
  exact ⟨rfl, B0.trans (b10.mono (by omega))⟩
end Go.Proofs.Ytlmcgjdenfnkmaa
