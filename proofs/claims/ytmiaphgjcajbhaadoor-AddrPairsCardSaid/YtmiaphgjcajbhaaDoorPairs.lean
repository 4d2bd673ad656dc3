/-
  The law AddrPairs walked: it returns true, for every two prefixes.
-/
import Derived.Test.YtmiaphgjcajbhaaDoorRefB
namespace Go.Proofs.YtmiaphgjcajbhaaDoor
open Go.RowKit Go.Joins

theorem pairs_walk (A : Nat) (N : Int) (B : Nat) (M : Int) (w : World) (hA : A < 4294967296) (hB : B < 4294967296) (ht : Tab w) :
    Calls Tryd.prog 4 #[pf A N, pf B M] w fun e w' => e = .returned (.bool true) ∧ Below w.heap.size w w' := by
  have c1 := fun W => covers_any A N B M W hA hB
  have c2 := fun W => rcovers_any A N B M W hA hB
  have c3 := fun W => common_all A N B M W hA hB
  have c4 := fun W => rcommon_all A N B M W hA hB
  have c5 := fun W => less_any A B N M W
  have c6 := fun W => rless_any A B N M W
  generalize covp A N B M = u at *
  generalize comA A N B M = T at *
  generalize comN A N B M = Z at *
  generalize lessp A N B M = l at *
  have hu : (u == u) = true := by simp
  have hl : (l == l) = true := by simp
  have K := box2_at w A N B M
  have hbB : Below w.heap.size w (box2 w A N B M) := below_alloc2 _ _ _
  obtain ⟨k0, k1, k2, k3⟩ := K _ (Below.refl _ _)
  have g0 := cell_regrown k0
  have g1 := cell_regrown k1
  have g2 := cell_regrown k2
  have g3 := cell_regrown k3
  clear k0 k1 k2 k3 K
  have tB := ht.grown hbB
  go_enter Tryd.func4, Tryd.ntmps4
  go_wp2_with fail
  change Code.wp _ _ _ _ (box2 w A N B M)
  generalize box2 w A N B M = W0 at *
  refine wp_region_quiet_below (by kernel_rfl) (by kernel_rfl) ?_
  have z0 : ∀ d os, _ := fun d os => Calls.regrown_of (w := W0) (d := d) (os := os) (alive_any _ (tB.grown (below_regrown _ _ _)))
  have z1 : ∀ d os, _ := fun d os => Calls.regrown_of (w := W0) (d := d) (os := os) (c1 _)
  have z2 : ∀ d os, _ := fun d os => Calls.regrown_of (w := W0) (d := d) (os := os) (c2 _)
  have z3 : ∀ d os, _ := fun d os => Calls.regrown_of (w := W0) (d := d) (os := os) (c3 _)
  have z4 : ∀ d os, _ := fun d os => Calls.regrown_of (w := W0) (d := d) (os := os) (c4 _)
  have z5 : ∀ d os, _ := fun d os => Calls.regrown_of (w := W0) (d := d) (os := os) (c5 _)
  have z6 : ∀ d os, _ := fun d os => Calls.regrown_of (w := W0) (d := d) (os := os) (c6 _)
  clear c1 c2 c3 c4 c5 c6
  go_big_quiet_step (with_reducible exact z0 _ _)
  iterate 3 (go_big_quiet_step (fail))
  go_big_quiet_step (with_reducible exact z1 _ _)
  iterate 2 (go_big_quiet_step (fail))
  go_big_quiet_step (with_reducible exact z2 _ _)
  iterate 5 (go_big_quiet_step (fail))
  go_big_quiet_step (with_reducible exact z3 _ _)
  iterate 2 (go_big_quiet_step (fail))
  go_big_quiet_step (with_reducible exact z4 _ _)
  iterate 5 (go_big_quiet_step (fail))
  go_big_quiet_step (with_reducible exact z5 _ _)
  iterate 2 (go_big_quiet_step (fail))
  go_big_quiet_step (with_reducible exact z6 _ _)
  repeat (go_big_quiet_step (fail))
  refine wpQuiet_nil ?_
  intro W1 hw'
  obtain ⟨⟨dq, osq⟩, hw''⟩ := hw'
  have hbz := below_regrown W0 dq osq
  rw [← hw''] at hbz
  clear hw'' g0 g1 g2 g3
  go_wp2
  go_ret
  exact ⟨rfl, hbB.trans (hbz.mono hbB.size)⟩
end Go.Proofs.YtmiaphgjcajbhaaDoor
