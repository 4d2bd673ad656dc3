/-
  The law AddrOrder walked: it returns true, for every three prefixes.
-/
import Derived.Test.YtmiaphgjcajbhaaDoorText
namespace Go.Proofs.YtmiaphgjcajbhaaDoor
open Go.RowKit Go.Joins

theorem Tab.grown {w w' : World} (h : Tab w) (hb : Below w.heap.size w w') : Tab w' := h.below hb (Nat.le_refl _)
/-- The world of three boxed prefixes. -/
abbrev box3 (w : World) (A : Nat) (N : Int) (B : Nat) (M : Int) (C : Nat) (L : Int) : World :=
  ((w.alloc (.cells #[.int .u32 (A : Int), .int .i64 N] 24)).alloc (.cells #[.int .u32 (B : Int), .int .i64 M] 24)).alloc (.cells #[.int .u32 (C : Int), .int .i64 L] 24)
theorem box3_at (w : World) (A : Nat) (N : Int) (B : Nat) (M : Int) (C : Nat) (L : Int) (W : World) (h : Below (box3 w A N B M C L).heap.size (box3 w A N B M C L) W) :
    W.cell? ⟨w.heap.size, 0, none⟩ = some (.int .u32 (A : Int)) ∧ W.cell? ⟨w.heap.size, 1, none⟩ = some (.int .i64 N) ∧
    W.cell? ⟨w.heap.size + 1, 0, none⟩ = some (.int .u32 (B : Int)) ∧ W.cell? ⟨w.heap.size + 1, 1, none⟩ = some (.int .i64 M) ∧
    W.cell? ⟨w.heap.size + 1 + 1, 0, none⟩ = some (.int .u32 (C : Int)) ∧ W.cell? ⟨w.heap.size + 1 + 1, 1, none⟩ = some (.int .i64 L) := by
  have k0 := (h.block w.heap.size (by simp; omega)).trans ((alloc_lt _ _ _ (by simp; omega)).trans ((alloc_lt _ _ _ (by simp)).trans (alloc_at _ _ _ rfl)))
  have k1 := (h.block (w.heap.size + 1) (by simp)).trans ((alloc_lt _ _ _ (by simp)).trans (alloc_at _ _ _ (by simp)))
  have k2 := (h.block (w.heap.size + 1 + 1) (by simp)).trans (alloc_at _ _ _ (by simp))
  exact ⟨(cell_of_block k0 0).trans rfl, (cell_of_block k0 1).trans rfl, (cell_of_block k1 0).trans rfl, (cell_of_block k1 1).trans rfl, (cell_of_block k2 0).trans rfl, (cell_of_block k2 1).trans rfl⟩
theorem order_d1a (A : Nat) (N : Int) (B : Nat) (M : Int) (hA : A < 4294967296) (hB : B < 4294967296) (C : Nat) (L : Int) (w : World) (ht : Tab w) (hn : ¬ (A : Int) = (B : Int)) (ha : lessp A N B M = true) (hb : lessp B M A N = false) (hcd : lessp B M C L = true → lessp A N C L = true) :
    Calls Tryd.prog 8 #[pf A N, pf B M, pf C L] w fun e w' => e = .returned (.bool true) ∧ Below w.heap.size w w' := by
  have c1 : ∀ W, _ := fun W => less_any A B N M W
  have c2 : ∀ W, _ := fun W => less_any B A M N W
  have c3 : ∀ W, _ := fun W => less_any B C M L W
  have c4 : ∀ W, _ := fun W => less_any A C N L W
  have c5 : ∀ W, _ := fun W => covers_any A N B M W hA hB
  have K := box3_at w A N B M C L
  obtain ⟨k0, k1, k2, k3, k4, k5⟩ := K _ (Below.refl _ _)
  have g0 := cell_regrown k0
  have g1 := cell_regrown k1
  have g2 := cell_regrown k2
  have g3 := cell_regrown k3
  have g4 := cell_regrown k4
  have g5 := cell_regrown k5
  clear k0 k1 k2 k3 k4 k5
  have hbB : Below w.heap.size w (box3 w A N B M C L) := below_alloc3 _ _ _ _
  rw [ha] at c1
  rw [hb] at c2
  cases hc : lessp B M C L <;> cases hv : covp A N B M
  · rw [hc] at c3
    rw [hv] at c5
    clear hc hv hcd ha hb
    go_enter Tryd.func8, Tryd.ntmps8
    go_wp2_with fail
    change Code.wp _ _ _ _ (box3 w A N B M C L)
    generalize box3 w A N B M C L = W0 at *
    refine wp_region_quiet_below (by kernel_rfl) (by kernel_rfl) ?_
    have x1 : ∀ d os, _ := fun d os => Calls.regrown_of (w := W0) (d := d) (os := os) (c1 _)
    have x2 : ∀ d os, _ := fun d os => Calls.regrown_of (w := W0) (d := d) (os := os) (c2 _)
    iterate 2 (go_big_quiet_step (fail))
    go_big_quiet_step (with_reducible exact x1 _ _)
    iterate 2 (go_big_quiet_step (fail))
    go_big_quiet_step (with_reducible exact x2 _ _)
    iterate 2 (go_big_quiet_step (fail))
    refine wpQuiet_nil ?_
    intro W1 hw'
    obtain ⟨⟨dq, osq⟩, hw''⟩ := hw'
    have hbW := below_regrown W0 dq osq
    rw [← hw''] at hbW
    clear hw'' g0 g1 g2 g3 g4 g5 x1 x2
    obtain ⟨k0, k1, k2, k3, k4, k5⟩ := K _ hbW
    go_wp2_with fail
    refine (c3 _).mono ?_
    rintro e W2 ⟨rfl, hb2⟩
    replace hbW := hbW.trans (hb2.mono hbW.size)
    clear hb2 k0 k1 k2 k3 k4 k5
    obtain ⟨k0, k1, k2, k3, k4, k5⟩ := K _ hbW
    go_wp2_with fail
    refine (alive_any _ (ht.grown (hbB.trans (hbW.mono hbB.size)))).mono ?_
    rintro e W4 ⟨rfl, hb4⟩
    replace hbW := hbW.trans (hb4.mono hbW.size)
    clear hb4 k0 k1 k2 k3 k4 k5
    obtain ⟨k0, k1, k2, k3, k4, k5⟩ := K _ hbW
    go_wp2_with fail
    refine (c5 _).mono ?_
    rintro e W5 ⟨rfl, hb5⟩
    replace hbW := hbW.trans (hb5.mono hbW.size)
    clear hb5 k0 k1 k2 k3 k4 k5
    obtain ⟨k0, k1, k2, k3, k4, k5⟩ := K _ hbW
    go_wp2
    go_ret
    exact ⟨rfl, hbB.trans (hbW.mono hbB.size)⟩
  · rw [hc] at c3
    rw [hv] at c5
    clear hc hv hcd ha hb
    go_enter Tryd.func8, Tryd.ntmps8
    go_wp2_with fail
    change Code.wp _ _ _ _ (box3 w A N B M C L)
    generalize box3 w A N B M C L = W0 at *
    refine wp_region_quiet_below (by kernel_rfl) (by kernel_rfl) ?_
    have x1 : ∀ d os, _ := fun d os => Calls.regrown_of (w := W0) (d := d) (os := os) (c1 _)
    have x2 : ∀ d os, _ := fun d os => Calls.regrown_of (w := W0) (d := d) (os := os) (c2 _)
    iterate 2 (go_big_quiet_step (fail))
    go_big_quiet_step (with_reducible exact x1 _ _)
    iterate 2 (go_big_quiet_step (fail))
    go_big_quiet_step (with_reducible exact x2 _ _)
    iterate 2 (go_big_quiet_step (fail))
    refine wpQuiet_nil ?_
    intro W1 hw'
    obtain ⟨⟨dq, osq⟩, hw''⟩ := hw'
    have hbW := below_regrown W0 dq osq
    rw [← hw''] at hbW
    clear hw'' g0 g1 g2 g3 g4 g5 x1 x2
    obtain ⟨k0, k1, k2, k3, k4, k5⟩ := K _ hbW
    go_wp2_with fail
    refine (c3 _).mono ?_
    rintro e W2 ⟨rfl, hb2⟩
    replace hbW := hbW.trans (hb2.mono hbW.size)
    clear hb2 k0 k1 k2 k3 k4 k5
    obtain ⟨k0, k1, k2, k3, k4, k5⟩ := K _ hbW
    go_wp2_with fail
    refine (alive_any _ (ht.grown (hbB.trans (hbW.mono hbB.size)))).mono ?_
    rintro e W4 ⟨rfl, hb4⟩
    replace hbW := hbW.trans (hb4.mono hbW.size)
    clear hb4 k0 k1 k2 k3 k4 k5
    obtain ⟨k0, k1, k2, k3, k4, k5⟩ := K _ hbW
    go_wp2_with fail
    refine (c5 _).mono ?_
    rintro e W5 ⟨rfl, hb5⟩
    replace hbW := hbW.trans (hb5.mono hbW.size)
    clear hb5 k0 k1 k2 k3 k4 k5
    obtain ⟨k0, k1, k2, k3, k4, k5⟩ := K _ hbW
    go_wp2
    go_ret
    exact ⟨rfl, hbB.trans (hbW.mono hbB.size)⟩
  · rw [hc] at c3
    rw [hv] at c5
    rw [hcd hc] at c4
    clear hc hv hcd ha hb
    go_enter Tryd.func8, Tryd.ntmps8
    go_wp2_with fail
    change Code.wp _ _ _ _ (box3 w A N B M C L)
    generalize box3 w A N B M C L = W0 at *
    refine wp_region_quiet_below (by kernel_rfl) (by kernel_rfl) ?_
    have x1 : ∀ d os, _ := fun d os => Calls.regrown_of (w := W0) (d := d) (os := os) (c1 _)
    have x2 : ∀ d os, _ := fun d os => Calls.regrown_of (w := W0) (d := d) (os := os) (c2 _)
    iterate 2 (go_big_quiet_step (fail))
    go_big_quiet_step (with_reducible exact x1 _ _)
    iterate 2 (go_big_quiet_step (fail))
    go_big_quiet_step (with_reducible exact x2 _ _)
    iterate 2 (go_big_quiet_step (fail))
    refine wpQuiet_nil ?_
    intro W1 hw'
    obtain ⟨⟨dq, osq⟩, hw''⟩ := hw'
    have hbW := below_regrown W0 dq osq
    rw [← hw''] at hbW
    clear hw'' g0 g1 g2 g3 g4 g5 x1 x2
    obtain ⟨k0, k1, k2, k3, k4, k5⟩ := K _ hbW
    go_wp2_with fail
    refine (c3 _).mono ?_
    rintro e W2 ⟨rfl, hb2⟩
    replace hbW := hbW.trans (hb2.mono hbW.size)
    clear hb2 k0 k1 k2 k3 k4 k5
    obtain ⟨k0, k1, k2, k3, k4, k5⟩ := K _ hbW
    go_wp2_with fail
    refine (c4 _).mono ?_
    rintro e W3 ⟨rfl, hb3⟩
    replace hbW := hbW.trans (hb3.mono hbW.size)
    clear hb3 k0 k1 k2 k3 k4 k5
    obtain ⟨k0, k1, k2, k3, k4, k5⟩ := K _ hbW
    go_wp2_with fail
    refine (alive_any _ (ht.grown (hbB.trans (hbW.mono hbB.size)))).mono ?_
    rintro e W4 ⟨rfl, hb4⟩
    replace hbW := hbW.trans (hb4.mono hbW.size)
    clear hb4 k0 k1 k2 k3 k4 k5
    obtain ⟨k0, k1, k2, k3, k4, k5⟩ := K _ hbW
    go_wp2_with fail
    refine (c5 _).mono ?_
    rintro e W5 ⟨rfl, hb5⟩
    replace hbW := hbW.trans (hb5.mono hbW.size)
    clear hb5 k0 k1 k2 k3 k4 k5
    obtain ⟨k0, k1, k2, k3, k4, k5⟩ := K _ hbW
    go_wp2
    go_ret
    exact ⟨rfl, hbB.trans (hbW.mono hbB.size)⟩
  · rw [hc] at c3
    rw [hv] at c5
    rw [hcd hc] at c4
    clear hc hv hcd ha hb
    go_enter Tryd.func8, Tryd.ntmps8
    go_wp2_with fail
    change Code.wp _ _ _ _ (box3 w A N B M C L)
    generalize box3 w A N B M C L = W0 at *
    refine wp_region_quiet_below (by kernel_rfl) (by kernel_rfl) ?_
    have x1 : ∀ d os, _ := fun d os => Calls.regrown_of (w := W0) (d := d) (os := os) (c1 _)
    have x2 : ∀ d os, _ := fun d os => Calls.regrown_of (w := W0) (d := d) (os := os) (c2 _)
    iterate 2 (go_big_quiet_step (fail))
    go_big_quiet_step (with_reducible exact x1 _ _)
    iterate 2 (go_big_quiet_step (fail))
    go_big_quiet_step (with_reducible exact x2 _ _)
    iterate 2 (go_big_quiet_step (fail))
    refine wpQuiet_nil ?_
    intro W1 hw'
    obtain ⟨⟨dq, osq⟩, hw''⟩ := hw'
    have hbW := below_regrown W0 dq osq
    rw [← hw''] at hbW
    clear hw'' g0 g1 g2 g3 g4 g5 x1 x2
    obtain ⟨k0, k1, k2, k3, k4, k5⟩ := K _ hbW
    go_wp2_with fail
    refine (c3 _).mono ?_
    rintro e W2 ⟨rfl, hb2⟩
    replace hbW := hbW.trans (hb2.mono hbW.size)
    clear hb2 k0 k1 k2 k3 k4 k5
    obtain ⟨k0, k1, k2, k3, k4, k5⟩ := K _ hbW
    go_wp2_with fail
    refine (c4 _).mono ?_
    rintro e W3 ⟨rfl, hb3⟩
    replace hbW := hbW.trans (hb3.mono hbW.size)
    clear hb3 k0 k1 k2 k3 k4 k5
    obtain ⟨k0, k1, k2, k3, k4, k5⟩ := K _ hbW
    go_wp2_with fail
    refine (alive_any _ (ht.grown (hbB.trans (hbW.mono hbB.size)))).mono ?_
    rintro e W4 ⟨rfl, hb4⟩
    replace hbW := hbW.trans (hb4.mono hbW.size)
    clear hb4 k0 k1 k2 k3 k4 k5
    obtain ⟨k0, k1, k2, k3, k4, k5⟩ := K _ hbW
    go_wp2_with fail
    refine (c5 _).mono ?_
    rintro e W5 ⟨rfl, hb5⟩
    replace hbW := hbW.trans (hb5.mono hbW.size)
    clear hb5 k0 k1 k2 k3 k4 k5
    obtain ⟨k0, k1, k2, k3, k4, k5⟩ := K _ hbW
    go_wp2
    go_ret
    exact ⟨rfl, hbB.trans (hbW.mono hbB.size)⟩
theorem order_d1b (A : Nat) (N : Int) (B : Nat) (M : Int) (hA : A < 4294967296) (hB : B < 4294967296) (C : Nat) (L : Int) (w : World) (ht : Tab w) (hn : ¬ (A : Int) = (B : Int)) (ha : lessp A N B M = false) (hb : lessp B M A N = true) (hv : covp A N B M = false) :
    Calls Tryd.prog 8 #[pf A N, pf B M, pf C L] w fun e w' => e = .returned (.bool true) ∧ Below w.heap.size w w' := by
  have c1 : ∀ W, _ := fun W => less_any A B N M W
  have c2 : ∀ W, _ := fun W => less_any B A M N W
  have c3 : ∀ W, _ := fun W => less_any B C M L W
  have c4 : ∀ W, _ := fun W => less_any A C N L W
  have c5 : ∀ W, _ := fun W => covers_any A N B M W hA hB
  have K := box3_at w A N B M C L
  obtain ⟨k0, k1, k2, k3, k4, k5⟩ := K _ (Below.refl _ _)
  have g0 := cell_regrown k0
  have g1 := cell_regrown k1
  have g2 := cell_regrown k2
  have g3 := cell_regrown k3
  have g4 := cell_regrown k4
  have g5 := cell_regrown k5
  clear k0 k1 k2 k3 k4 k5
  have hbB : Below w.heap.size w (box3 w A N B M C L) := below_alloc3 _ _ _ _
  rw [ha] at c1
  rw [hb] at c2
  rw [hv] at c5
  clear hv ha hb
  go_enter Tryd.func8, Tryd.ntmps8
  go_wp2_with fail
  change Code.wp _ _ _ _ (box3 w A N B M C L)
  generalize box3 w A N B M C L = W0 at *
  refine wp_region_quiet_below (by kernel_rfl) (by kernel_rfl) ?_
  have x1 : ∀ d os, _ := fun d os => Calls.regrown_of (w := W0) (d := d) (os := os) (c1 _)
  have x2 : ∀ d os, _ := fun d os => Calls.regrown_of (w := W0) (d := d) (os := os) (c2 _)
  iterate 2 (go_big_quiet_step (fail))
  go_big_quiet_step (with_reducible exact x1 _ _)
  iterate 2 (go_big_quiet_step (fail))
  go_big_quiet_step (with_reducible exact x2 _ _)
  iterate 2 (go_big_quiet_step (fail))
  refine wpQuiet_nil ?_
  intro W1 hw'
  obtain ⟨⟨dq, osq⟩, hw''⟩ := hw'
  have hbW := below_regrown W0 dq osq
  rw [← hw''] at hbW
  clear hw'' g0 g1 g2 g3 g4 g5 x1 x2
  obtain ⟨k0, k1, k2, k3, k4, k5⟩ := K _ hbW
  go_wp2_with fail
  refine (alive_any _ (ht.grown (hbB.trans (hbW.mono hbB.size)))).mono ?_
  rintro e W4 ⟨rfl, hb4⟩
  replace hbW := hbW.trans (hb4.mono hbW.size)
  clear hb4 k0 k1 k2 k3 k4 k5
  obtain ⟨k0, k1, k2, k3, k4, k5⟩ := K _ hbW
  go_wp2_with fail
  refine (c5 _).mono ?_
  rintro e W5 ⟨rfl, hb5⟩
  replace hbW := hbW.trans (hb5.mono hbW.size)
  clear hb5 k0 k1 k2 k3 k4 k5
  obtain ⟨k0, k1, k2, k3, k4, k5⟩ := K _ hbW
  go_wp2
  go_ret
  exact ⟨rfl, hbB.trans (hbW.mono hbB.size)⟩
theorem order_d2a (A : Nat) (N M : Int) (hA : A < 4294967296) (C : Nat) (L : Int) (w : World) (ht : Tab w) (hn : ¬ N = M) (ha : lessp A N A M = true) (hb : lessp A M A N = false) (hcd : lessp A M C L = true → lessp A N C L = true) :
    Calls Tryd.prog 8 #[pf A N, pf A M, pf C L] w fun e w' => e = .returned (.bool true) ∧ Below w.heap.size w w' := by
  have c1 : ∀ W, _ := fun W => less_any A A N M W
  have c2 : ∀ W, _ := fun W => less_any A A M N W
  have c3 : ∀ W, _ := fun W => less_any A C M L W
  have c4 : ∀ W, _ := fun W => less_any A C N L W
  have c5 : ∀ W, _ := fun W => covers_any A N A M W hA hA
  have K := box3_at w A N A M C L
  obtain ⟨k0, k1, k2, k3, k4, k5⟩ := K _ (Below.refl _ _)
  have g0 := cell_regrown k0
  have g1 := cell_regrown k1
  have g2 := cell_regrown k2
  have g3 := cell_regrown k3
  have g4 := cell_regrown k4
  have g5 := cell_regrown k5
  clear k0 k1 k2 k3 k4 k5
  have hbB : Below w.heap.size w (box3 w A N A M C L) := below_alloc3 _ _ _ _
  rw [ha] at c1
  rw [hb] at c2
  cases hc : lessp A M C L <;> cases hv : covp A N A M
  · rw [hc] at c3
    rw [hv] at c5
    clear hc hv hcd ha hb
    go_enter Tryd.func8, Tryd.ntmps8
    go_wp2_with fail
    change Code.wp _ _ _ _ (box3 w A N A M C L)
    generalize box3 w A N A M C L = W0 at *
    refine wp_region_quiet_below (by kernel_rfl) (by kernel_rfl) ?_
    have x1 : ∀ d os, _ := fun d os => Calls.regrown_of (w := W0) (d := d) (os := os) (c1 _)
    have x2 : ∀ d os, _ := fun d os => Calls.regrown_of (w := W0) (d := d) (os := os) (c2 _)
    iterate 2 (go_big_quiet_step (fail))
    go_big_quiet_step (with_reducible exact x1 _ _)
    iterate 2 (go_big_quiet_step (fail))
    go_big_quiet_step (with_reducible exact x2 _ _)
    iterate 2 (go_big_quiet_step (fail))
    refine wpQuiet_nil ?_
    intro W1 hw'
    obtain ⟨⟨dq, osq⟩, hw''⟩ := hw'
    have hbW := below_regrown W0 dq osq
    rw [← hw''] at hbW
    clear hw'' g0 g1 g2 g3 g4 g5 x1 x2
    obtain ⟨k0, k1, k2, k3, k4, k5⟩ := K _ hbW
    go_wp2_with fail
    refine (c3 _).mono ?_
    rintro e W2 ⟨rfl, hb2⟩
    replace hbW := hbW.trans (hb2.mono hbW.size)
    clear hb2 k0 k1 k2 k3 k4 k5
    obtain ⟨k0, k1, k2, k3, k4, k5⟩ := K _ hbW
    go_wp2_with fail
    refine (alive_any _ (ht.grown (hbB.trans (hbW.mono hbB.size)))).mono ?_
    rintro e W4 ⟨rfl, hb4⟩
    replace hbW := hbW.trans (hb4.mono hbW.size)
    clear hb4 k0 k1 k2 k3 k4 k5
    obtain ⟨k0, k1, k2, k3, k4, k5⟩ := K _ hbW
    go_wp2_with fail
    refine (c5 _).mono ?_
    rintro e W5 ⟨rfl, hb5⟩
    replace hbW := hbW.trans (hb5.mono hbW.size)
    clear hb5 k0 k1 k2 k3 k4 k5
    obtain ⟨k0, k1, k2, k3, k4, k5⟩ := K _ hbW
    go_wp2
    go_ret
    exact ⟨rfl, hbB.trans (hbW.mono hbB.size)⟩
  · rw [hc] at c3
    rw [hv] at c5
    clear hc hv hcd ha hb
    go_enter Tryd.func8, Tryd.ntmps8
    go_wp2_with fail
    change Code.wp _ _ _ _ (box3 w A N A M C L)
    generalize box3 w A N A M C L = W0 at *
    refine wp_region_quiet_below (by kernel_rfl) (by kernel_rfl) ?_
    have x1 : ∀ d os, _ := fun d os => Calls.regrown_of (w := W0) (d := d) (os := os) (c1 _)
    have x2 : ∀ d os, _ := fun d os => Calls.regrown_of (w := W0) (d := d) (os := os) (c2 _)
    iterate 2 (go_big_quiet_step (fail))
    go_big_quiet_step (with_reducible exact x1 _ _)
    iterate 2 (go_big_quiet_step (fail))
    go_big_quiet_step (with_reducible exact x2 _ _)
    iterate 2 (go_big_quiet_step (fail))
    refine wpQuiet_nil ?_
    intro W1 hw'
    obtain ⟨⟨dq, osq⟩, hw''⟩ := hw'
    have hbW := below_regrown W0 dq osq
    rw [← hw''] at hbW
    clear hw'' g0 g1 g2 g3 g4 g5 x1 x2
    obtain ⟨k0, k1, k2, k3, k4, k5⟩ := K _ hbW
    go_wp2_with fail
    refine (c3 _).mono ?_
    rintro e W2 ⟨rfl, hb2⟩
    replace hbW := hbW.trans (hb2.mono hbW.size)
    clear hb2 k0 k1 k2 k3 k4 k5
    obtain ⟨k0, k1, k2, k3, k4, k5⟩ := K _ hbW
    go_wp2_with fail
    refine (alive_any _ (ht.grown (hbB.trans (hbW.mono hbB.size)))).mono ?_
    rintro e W4 ⟨rfl, hb4⟩
    replace hbW := hbW.trans (hb4.mono hbW.size)
    clear hb4 k0 k1 k2 k3 k4 k5
    obtain ⟨k0, k1, k2, k3, k4, k5⟩ := K _ hbW
    go_wp2_with fail
    refine (c5 _).mono ?_
    rintro e W5 ⟨rfl, hb5⟩
    replace hbW := hbW.trans (hb5.mono hbW.size)
    clear hb5 k0 k1 k2 k3 k4 k5
    obtain ⟨k0, k1, k2, k3, k4, k5⟩ := K _ hbW
    go_wp2
    go_ret
    exact ⟨rfl, hbB.trans (hbW.mono hbB.size)⟩
  · rw [hc] at c3
    rw [hv] at c5
    rw [hcd hc] at c4
    clear hc hv hcd ha hb
    go_enter Tryd.func8, Tryd.ntmps8
    go_wp2_with fail
    change Code.wp _ _ _ _ (box3 w A N A M C L)
    generalize box3 w A N A M C L = W0 at *
    refine wp_region_quiet_below (by kernel_rfl) (by kernel_rfl) ?_
    have x1 : ∀ d os, _ := fun d os => Calls.regrown_of (w := W0) (d := d) (os := os) (c1 _)
    have x2 : ∀ d os, _ := fun d os => Calls.regrown_of (w := W0) (d := d) (os := os) (c2 _)
    iterate 2 (go_big_quiet_step (fail))
    go_big_quiet_step (with_reducible exact x1 _ _)
    iterate 2 (go_big_quiet_step (fail))
    go_big_quiet_step (with_reducible exact x2 _ _)
    iterate 2 (go_big_quiet_step (fail))
    refine wpQuiet_nil ?_
    intro W1 hw'
    obtain ⟨⟨dq, osq⟩, hw''⟩ := hw'
    have hbW := below_regrown W0 dq osq
    rw [← hw''] at hbW
    clear hw'' g0 g1 g2 g3 g4 g5 x1 x2
    obtain ⟨k0, k1, k2, k3, k4, k5⟩ := K _ hbW
    go_wp2_with fail
    refine (c3 _).mono ?_
    rintro e W2 ⟨rfl, hb2⟩
    replace hbW := hbW.trans (hb2.mono hbW.size)
    clear hb2 k0 k1 k2 k3 k4 k5
    obtain ⟨k0, k1, k2, k3, k4, k5⟩ := K _ hbW
    go_wp2_with fail
    refine (c4 _).mono ?_
    rintro e W3 ⟨rfl, hb3⟩
    replace hbW := hbW.trans (hb3.mono hbW.size)
    clear hb3 k0 k1 k2 k3 k4 k5
    obtain ⟨k0, k1, k2, k3, k4, k5⟩ := K _ hbW
    go_wp2_with fail
    refine (alive_any _ (ht.grown (hbB.trans (hbW.mono hbB.size)))).mono ?_
    rintro e W4 ⟨rfl, hb4⟩
    replace hbW := hbW.trans (hb4.mono hbW.size)
    clear hb4 k0 k1 k2 k3 k4 k5
    obtain ⟨k0, k1, k2, k3, k4, k5⟩ := K _ hbW
    go_wp2_with fail
    refine (c5 _).mono ?_
    rintro e W5 ⟨rfl, hb5⟩
    replace hbW := hbW.trans (hb5.mono hbW.size)
    clear hb5 k0 k1 k2 k3 k4 k5
    obtain ⟨k0, k1, k2, k3, k4, k5⟩ := K _ hbW
    go_wp2
    go_ret
    exact ⟨rfl, hbB.trans (hbW.mono hbB.size)⟩
  · rw [hc] at c3
    rw [hv] at c5
    rw [hcd hc] at c4
    clear hc hv hcd ha hb
    go_enter Tryd.func8, Tryd.ntmps8
    go_wp2_with fail
    change Code.wp _ _ _ _ (box3 w A N A M C L)
    generalize box3 w A N A M C L = W0 at *
    refine wp_region_quiet_below (by kernel_rfl) (by kernel_rfl) ?_
    have x1 : ∀ d os, _ := fun d os => Calls.regrown_of (w := W0) (d := d) (os := os) (c1 _)
    have x2 : ∀ d os, _ := fun d os => Calls.regrown_of (w := W0) (d := d) (os := os) (c2 _)
    iterate 2 (go_big_quiet_step (fail))
    go_big_quiet_step (with_reducible exact x1 _ _)
    iterate 2 (go_big_quiet_step (fail))
    go_big_quiet_step (with_reducible exact x2 _ _)
    iterate 2 (go_big_quiet_step (fail))
    refine wpQuiet_nil ?_
    intro W1 hw'
    obtain ⟨⟨dq, osq⟩, hw''⟩ := hw'
    have hbW := below_regrown W0 dq osq
    rw [← hw''] at hbW
    clear hw'' g0 g1 g2 g3 g4 g5 x1 x2
    obtain ⟨k0, k1, k2, k3, k4, k5⟩ := K _ hbW
    go_wp2_with fail
    refine (c3 _).mono ?_
    rintro e W2 ⟨rfl, hb2⟩
    replace hbW := hbW.trans (hb2.mono hbW.size)
    clear hb2 k0 k1 k2 k3 k4 k5
    obtain ⟨k0, k1, k2, k3, k4, k5⟩ := K _ hbW
    go_wp2_with fail
    refine (c4 _).mono ?_
    rintro e W3 ⟨rfl, hb3⟩
    replace hbW := hbW.trans (hb3.mono hbW.size)
    clear hb3 k0 k1 k2 k3 k4 k5
    obtain ⟨k0, k1, k2, k3, k4, k5⟩ := K _ hbW
    go_wp2_with fail
    refine (alive_any _ (ht.grown (hbB.trans (hbW.mono hbB.size)))).mono ?_
    rintro e W4 ⟨rfl, hb4⟩
    replace hbW := hbW.trans (hb4.mono hbW.size)
    clear hb4 k0 k1 k2 k3 k4 k5
    obtain ⟨k0, k1, k2, k3, k4, k5⟩ := K _ hbW
    go_wp2_with fail
    refine (c5 _).mono ?_
    rintro e W5 ⟨rfl, hb5⟩
    replace hbW := hbW.trans (hb5.mono hbW.size)
    clear hb5 k0 k1 k2 k3 k4 k5
    obtain ⟨k0, k1, k2, k3, k4, k5⟩ := K _ hbW
    go_wp2
    go_ret
    exact ⟨rfl, hbB.trans (hbW.mono hbB.size)⟩
theorem order_d2b (A : Nat) (N M : Int) (hA : A < 4294967296) (C : Nat) (L : Int) (w : World) (ht : Tab w) (hn : ¬ N = M) (ha : lessp A N A M = false) (hb : lessp A M A N = true) (hv : covp A N A M = false) :
    Calls Tryd.prog 8 #[pf A N, pf A M, pf C L] w fun e w' => e = .returned (.bool true) ∧ Below w.heap.size w w' := by
  have c1 : ∀ W, _ := fun W => less_any A A N M W
  have c2 : ∀ W, _ := fun W => less_any A A M N W
  have c3 : ∀ W, _ := fun W => less_any A C M L W
  have c4 : ∀ W, _ := fun W => less_any A C N L W
  have c5 : ∀ W, _ := fun W => covers_any A N A M W hA hA
  have K := box3_at w A N A M C L
  obtain ⟨k0, k1, k2, k3, k4, k5⟩ := K _ (Below.refl _ _)
  have g0 := cell_regrown k0
  have g1 := cell_regrown k1
  have g2 := cell_regrown k2
  have g3 := cell_regrown k3
  have g4 := cell_regrown k4
  have g5 := cell_regrown k5
  clear k0 k1 k2 k3 k4 k5
  have hbB : Below w.heap.size w (box3 w A N A M C L) := below_alloc3 _ _ _ _
  rw [ha] at c1
  rw [hb] at c2
  rw [hv] at c5
  clear hv ha hb
  go_enter Tryd.func8, Tryd.ntmps8
  go_wp2_with fail
  change Code.wp _ _ _ _ (box3 w A N A M C L)
  generalize box3 w A N A M C L = W0 at *
  refine wp_region_quiet_below (by kernel_rfl) (by kernel_rfl) ?_
  have x1 : ∀ d os, _ := fun d os => Calls.regrown_of (w := W0) (d := d) (os := os) (c1 _)
  have x2 : ∀ d os, _ := fun d os => Calls.regrown_of (w := W0) (d := d) (os := os) (c2 _)
  iterate 2 (go_big_quiet_step (fail))
  go_big_quiet_step (with_reducible exact x1 _ _)
  iterate 2 (go_big_quiet_step (fail))
  go_big_quiet_step (with_reducible exact x2 _ _)
  iterate 2 (go_big_quiet_step (fail))
  refine wpQuiet_nil ?_
  intro W1 hw'
  obtain ⟨⟨dq, osq⟩, hw''⟩ := hw'
  have hbW := below_regrown W0 dq osq
  rw [← hw''] at hbW
  clear hw'' g0 g1 g2 g3 g4 g5 x1 x2
  obtain ⟨k0, k1, k2, k3, k4, k5⟩ := K _ hbW
  go_wp2_with fail
  refine (alive_any _ (ht.grown (hbB.trans (hbW.mono hbB.size)))).mono ?_
  rintro e W4 ⟨rfl, hb4⟩
  replace hbW := hbW.trans (hb4.mono hbW.size)
  clear hb4 k0 k1 k2 k3 k4 k5
  obtain ⟨k0, k1, k2, k3, k4, k5⟩ := K _ hbW
  go_wp2_with fail
  refine (c5 _).mono ?_
  rintro e W5 ⟨rfl, hb5⟩
  replace hbW := hbW.trans (hb5.mono hbW.size)
  clear hb5 k0 k1 k2 k3 k4 k5
  obtain ⟨k0, k1, k2, k3, k4, k5⟩ := K _ hbW
  go_wp2
  go_ret
  exact ⟨rfl, hbB.trans (hbW.mono hbB.size)⟩
theorem order_e (A : Nat) (N : Int) (hA : A < 4294967296) (C : Nat) (L : Int) (w : World) (ht : Tab w) (ha : lessp A N A N = false) :
    Calls Tryd.prog 8 #[pf A N, pf A N, pf C L] w fun e w' => e = .returned (.bool true) ∧ Below w.heap.size w w' := by
  have hb := ha
  have c1 : ∀ W, _ := fun W => less_any A A N N W
  have c2 : ∀ W, _ := fun W => less_any A A N N W
  have c3 : ∀ W, _ := fun W => less_any A C N L W
  have c4 : ∀ W, _ := fun W => less_any A C N L W
  have c5 : ∀ W, _ := fun W => covers_any A N A N W hA hA
  have K := box3_at w A N A N C L
  obtain ⟨k0, k1, k2, k3, k4, k5⟩ := K _ (Below.refl _ _)
  have g0 := cell_regrown k0
  have g1 := cell_regrown k1
  have g2 := cell_regrown k2
  have g3 := cell_regrown k3
  have g4 := cell_regrown k4
  have g5 := cell_regrown k5
  clear k0 k1 k2 k3 k4 k5
  have hbB : Below w.heap.size w (box3 w A N A N C L) := below_alloc3 _ _ _ _
  rw [ha] at c1
  rw [hb] at c2
  cases hv : covp A N A N
  · rw [hv] at c5
    clear hv ha hb
    go_enter Tryd.func8, Tryd.ntmps8
    go_wp2_with fail
    change Code.wp _ _ _ _ (box3 w A N A N C L)
    generalize box3 w A N A N C L = W0 at *
    refine wp_region_quiet_below (by kernel_rfl) (by kernel_rfl) ?_
    have x1 : ∀ d os, _ := fun d os => Calls.regrown_of (w := W0) (d := d) (os := os) (c1 _)
    have x2 : ∀ d os, _ := fun d os => Calls.regrown_of (w := W0) (d := d) (os := os) (c2 _)
    iterate 2 (go_big_quiet_step (fail))
    go_big_quiet_step (with_reducible exact x1 _ _)
    iterate 2 (go_big_quiet_step (fail))
    go_big_quiet_step (with_reducible exact x2 _ _)
    iterate 2 (go_big_quiet_step (fail))
    refine wpQuiet_nil ?_
    intro W1 hw'
    obtain ⟨⟨dq, osq⟩, hw''⟩ := hw'
    have hbW := below_regrown W0 dq osq
    rw [← hw''] at hbW
    clear hw'' g0 g1 g2 g3 g4 g5 x1 x2
    obtain ⟨k0, k1, k2, k3, k4, k5⟩ := K _ hbW
    go_wp2_with fail
    refine (alive_any _ (ht.grown (hbB.trans (hbW.mono hbB.size)))).mono ?_
    rintro e W4 ⟨rfl, hb4⟩
    replace hbW := hbW.trans (hb4.mono hbW.size)
    clear hb4 k0 k1 k2 k3 k4 k5
    obtain ⟨k0, k1, k2, k3, k4, k5⟩ := K _ hbW
    go_wp2_with fail
    refine (c5 _).mono ?_
    rintro e W5 ⟨rfl, hb5⟩
    replace hbW := hbW.trans (hb5.mono hbW.size)
    clear hb5 k0 k1 k2 k3 k4 k5
    obtain ⟨k0, k1, k2, k3, k4, k5⟩ := K _ hbW
    go_wp2
    go_ret
    exact ⟨rfl, hbB.trans (hbW.mono hbB.size)⟩
  · rw [hv] at c5
    clear hv ha hb
    go_enter Tryd.func8, Tryd.ntmps8
    go_wp2_with fail
    change Code.wp _ _ _ _ (box3 w A N A N C L)
    generalize box3 w A N A N C L = W0 at *
    refine wp_region_quiet_below (by kernel_rfl) (by kernel_rfl) ?_
    have x1 : ∀ d os, _ := fun d os => Calls.regrown_of (w := W0) (d := d) (os := os) (c1 _)
    have x2 : ∀ d os, _ := fun d os => Calls.regrown_of (w := W0) (d := d) (os := os) (c2 _)
    iterate 2 (go_big_quiet_step (fail))
    go_big_quiet_step (with_reducible exact x1 _ _)
    iterate 2 (go_big_quiet_step (fail))
    go_big_quiet_step (with_reducible exact x2 _ _)
    iterate 2 (go_big_quiet_step (fail))
    refine wpQuiet_nil ?_
    intro W1 hw'
    obtain ⟨⟨dq, osq⟩, hw''⟩ := hw'
    have hbW := below_regrown W0 dq osq
    rw [← hw''] at hbW
    clear hw'' g0 g1 g2 g3 g4 g5 x1 x2
    obtain ⟨k0, k1, k2, k3, k4, k5⟩ := K _ hbW
    go_wp2_with fail
    refine (alive_any _ (ht.grown (hbB.trans (hbW.mono hbB.size)))).mono ?_
    rintro e W4 ⟨rfl, hb4⟩
    replace hbW := hbW.trans (hb4.mono hbW.size)
    clear hb4 k0 k1 k2 k3 k4 k5
    obtain ⟨k0, k1, k2, k3, k4, k5⟩ := K _ hbW
    go_wp2_with fail
    refine (c5 _).mono ?_
    rintro e W5 ⟨rfl, hb5⟩
    replace hbW := hbW.trans (hb5.mono hbW.size)
    clear hb5 k0 k1 k2 k3 k4 k5
    obtain ⟨k0, k1, k2, k3, k4, k5⟩ := K _ hbW
    go_wp2
    go_ret
    exact ⟨rfl, hbB.trans (hbW.mono hbB.size)⟩
theorem cov_less {A B : Nat} {N M : Int} (h : covp A N B M = true) : (A = B ∧ N = M) ∨ lessp A N B M = true := by
  simp only [covp, hasp, okp, Bool.and_eq_true, decide_eq_true_eq] at h
  obtain ⟨⟨_, h1⟩, ⟨_, h2⟩, h3⟩ := h
  have h4 := tr_eq h2
  have h5 := Nat.div_mul_le_self B (wd (cl N))
  rw [h3, h4] at h5
  simp only [lessp, decide_eq_true_eq]
  omega
theorem order_walk (A : Nat) (N : Int) (B : Nat) (M : Int) (C : Nat) (L : Int) (w : World) (hA : A < 4294967296) (hB : B < 4294967296) (ht : Tab w) :
    Calls Tryd.prog 8 #[pf A N, pf B M, pf C L] w fun e w' => e = .returned (.bool true) ∧ Below w.heap.size w w' := by
  have hcv := fun h : covp A N B M = true => cov_less h
  by_cases h1 : A = B
  · subst h1
    by_cases h2 : N = M
    · subst h2
      exact order_e A N hA C L w ht (by simp [lessp])
    · by_cases h3 : lessp A N A M = true
      · refine order_d2a A N M hA C L w ht h2 h3 ?_ ?_
        · simp only [lessp, decide_eq_true_eq, decide_eq_false_iff_not] at h3 ⊢; omega
        · intro h; simp only [lessp, decide_eq_true_eq] at h3 h ⊢; omega
      · refine order_d2b A N M hA C L w ht h2 (by simpa using h3) ?_ ?_
        · simp [lessp] at h3 ⊢; omega
        · rw [Bool.eq_false_iff]; intro h; rcases hcv h with h | h
          · exact h2 h.2
          · exact h3 h
  · by_cases h3 : lessp A N B M = true
    · refine order_d1a A N B M hA hB C L w ht (by omega) h3 ?_ ?_
      · simp only [lessp, decide_eq_true_eq, decide_eq_false_iff_not] at h3 ⊢; omega
      · intro h; simp only [lessp, decide_eq_true_eq] at h3 h ⊢; omega
    · refine order_d1b A N B M hA hB C L w ht (by omega) (by simpa using h3) ?_ ?_
      · simp only [lessp, decide_eq_true_eq] at h3 ⊢; omega
      · rw [Bool.eq_false_iff]; intro h; rcases hcv h with h | h
        · exact h1 h.1
        · exact h3 h
end Go.Proofs.YtmiaphgjcajbhaaDoor
