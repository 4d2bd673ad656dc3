/-
  The law AddrTold walked: it returns true, for every prefix, every address and every number.
-/
import Derived.Test.YtmiaphgjcajbhaaDoorRefB
import Derived.Test.YtmiaphgjcajbhaaDoorRefC
namespace Go.Proofs.YtmiaphgjcajbhaaDoor
open Go.RowKit Go.Joins

theorem of_val (a : Nat) (n : Int) : ∃ (X : Nat) (Y e : Int), (if lenOk n then Value.tuple #[pf (a / wd (cl n) * wd (cl n)) n, .int .i64 0] else .tuple #[pf 0 0, .int .i64 1]) = .tuple #[pf X Y, .int .i64 e] := by
  split
  · exact ⟨_, _, _, rfl⟩
  · exact ⟨_, _, _, rfl⟩
theorem lg_val (a : Nat) : ∃ X e : Int, lg a = .tuple #[.int .i64 X, .int .i64 e] := by
  unfold lg
  split
  · exact ⟨_, _, rfl⟩
  · exact ⟨_, _, rfl⟩
set_option maxRecDepth 100000 in
set_option maxHeartbeats 1000000 in
theorem told_walk (A : Nat) (N : Int) (a : Nat) (i : Int) (w : World) (hA : A < 4294967296) (h0 : -9223372036854775808 ≤ N) (h1 : N ≤ 9223372036854775807) (ha : a < 4294967296) (ht : Tab w) :
    Calls Tryd.prog 3 #[pf A N, .int .u32 (a : Int), .int .i64 i] w fun e w' => e = .returned (.bool true) ∧ Below w.heap.size w w' := by
  have cO := fun W => of_any a i W ha
  have cR := fun W => rof_any a i W ha
  have cL : ∀ W, Calls Tryd.prog 11 #[.int .u32 (a : Int)] W fun e w' => e = .returned (lg a) ∧ Below W.heap.size W w' := fun W => long_any a W ha
  have cG := fun W => rlong_any a W
  obtain ⟨X, Y, E, hO⟩ := of_val a i
  obtain ⟨P, F, hL⟩ := lg_val a
  rw [hO] at cO cR
  rw [hL] at cL cG
  clear hO hL
  have c1 := fun W => may_any A N W hA
  have c2 := fun W => rmay_any A N W hA
  have c3 := fun W => has_any A N a W hA ha
  have c4 := fun W => rhas_any A N a W hA ha
  have c5 := fun W => bit_any a i W ha
  have c6 := fun W => rbit_any a i W ha
  have c7 := fun W => mask_any i W
  have c8 := fun W => rmask_any i W
  have c9 := fun W hW => text_any A N W hA h0 h1 hW
  have c10 := fun W => rtext_any A N W hA h0 h1
  generalize okp A N = o at *
  generalize hasp A N a = x at *
  generalize bt a i = b at *
  generalize mk (cl i) = m at *
  generalize st (txt A N) = S at *
  have ho : (o == o) = true := by simp
  have hx : (x == x) = true := by simp
  have hS : (S == S) = true := by
    cases S with
    | mk d => show (d == d) = true; simp
  have j0 := alloc_at w (pc A N) _ rfl
  have hbW := below_alloc1 w (pc A N)
  go_enter Tryd.func3, Tryd.ntmps3
  go_wp2_with fail
  change Calls _ _ _ (w.alloc (pc A N)) _
  generalize w.alloc (pc A N) = W0 at *
  have hs0 := (pc_at j0).2.2.2.2
  refine (cO _).mono ?_
  rintro e W1 ⟨rfl, hb1⟩
  have j0 := (hb1.block _ hs0).trans j0
  have hbW := hbW.trans (hb1.mono hbW.size)
  have hs0 := (pc_at j0).2.2.2.2
  clear hb1
  have j0 := (alloc_lt W1 (pc X Y) _ hs0).trans j0
  have j1 := alloc_at W1 (pc X Y) _ rfl
  have hbW := hbW.trans ((below_alloc1 W1 (pc X Y)).mono hbW.size)
  have hs0 := (pc_at j0).2.2.2.2
  have hs1 := (pc_at j1).2.2.2.2
  go_wp2_with fail
  change Calls _ _ _ (W1.alloc (pc X Y)) _
  generalize W1.alloc (pc X Y) = W2 at *
  refine (cR _).mono ?_
  rintro e W3 ⟨rfl, hb3⟩
  have j0 := (hb3.block _ hs0).trans j0
  have j1 := (hb3.block _ hs1).trans j1
  have hbW := hbW.trans (hb3.mono hbW.size)
  have hs0 := (pc_at j0).2.2.2.2
  have hs1 := (pc_at j1).2.2.2.2
  clear hb3
  have j0 := (alloc_lt W3 (pc X Y) _ hs0).trans j0
  have j1 := (alloc_lt W3 (pc X Y) _ hs1).trans j1
  have j2 := alloc_at W3 (pc X Y) _ rfl
  have hbW := hbW.trans ((below_alloc1 W3 (pc X Y)).mono hbW.size)
  have hs0 := (pc_at j0).2.2.2.2
  have hs1 := (pc_at j1).2.2.2.2
  have hs2 := (pc_at j2).2.2.2.2
  go_wp2_with fail
  change Calls _ _ _ (W3.alloc (pc X Y)) _
  generalize W3.alloc (pc X Y) = W4 at *
  refine (cL _).mono ?_
  rintro e W5 ⟨rfl, hb5⟩
  have j0 := (hb5.block _ hs0).trans j0
  have j1 := (hb5.block _ hs1).trans j1
  have j2 := (hb5.block _ hs2).trans j2
  have hbW := hbW.trans (hb5.mono hbW.size)
  clear hb5
  go_wp2_with fail
  refine (cG _).mono ?_
  rintro e W6 ⟨rfl, rfl⟩
  clear cO cR cL cG hs0 hs1 hs2
  go_wp2_with fail
  obtain ⟨k0, k1, _, _, _⟩ := pc_at j0
  obtain ⟨k2, k3, _, _, _⟩ := pc_at j1
  obtain ⟨k4, k5, _, _, _⟩ := pc_at j2
  have g0 := cell_regrown k0
  have g1 := cell_regrown k1
  have g2 := cell_regrown k2
  have g3 := cell_regrown k3
  have g4 := cell_regrown k4
  have g5 := cell_regrown k5
  have tB := ht.grown hbW
  clear k0 k1 k2 k3 k4 k5 j0 j1 j2
  refine wp_region_quiet_below (by kernel_rfl) (by kernel_rfl) ?_
  have z0 : ∀ d os, _ := fun d os => Calls.regrown_of (w := W6) (d := d) (os := os) (alive_any _ (tB.grown (below_regrown _ _ _)))
  have z1 : ∀ d os, _ := fun d os => Calls.regrown_of (w := W6) (d := d) (os := os) (c1 _)
  have z2 : ∀ d os, _ := fun d os => Calls.regrown_of (w := W6) (d := d) (os := os) (c2 _)
  have z3 : ∀ d os, _ := fun d os => Calls.regrown_of (w := W6) (d := d) (os := os) (c3 _)
  have z4 : ∀ d os, _ := fun d os => Calls.regrown_of (w := W6) (d := d) (os := os) (c4 _)
  have z5 : ∀ d os, _ := fun d os => Calls.regrown_of (w := W6) (d := d) (os := os) ((c5 _).mono fun _ _ ⟨e1, e2⟩ => ⟨e1, e2 ▸ Below.refl _ _⟩)
  have z6 : ∀ d os, _ := fun d os => Calls.regrown_of (w := W6) (d := d) (os := os) ((c6 _).mono fun _ _ ⟨e1, e2⟩ => ⟨e1, e2 ▸ Below.refl _ _⟩)
  have z7 : ∀ d os, _ := fun d os => Calls.regrown_of (w := W6) (d := d) (os := os) ((c7 _).mono fun _ _ ⟨e1, e2⟩ => ⟨e1, e2 ▸ Below.refl _ _⟩)
  have z8 : ∀ d os, _ := fun d os => Calls.regrown_of (w := W6) (d := d) (os := os) ((c8 _).mono fun _ _ ⟨e1, e2⟩ => ⟨e1, e2 ▸ Below.refl _ _⟩)
  have z9 : ∀ d os, _ := fun d os => Calls.regrown_of (w := W6) (d := d) (os := os) (c9 _ (tB.grown (below_regrown _ _ _)))
  have z10 : ∀ d os, _ := fun d os => Calls.regrown_of (w := W6) (d := d) (os := os) (c10 _)
  clear c1 c2 c3 c4 c5 c6 c7 c8 c9 c10
  go_big_quiet_step (with_reducible exact z0 _ _)
  repeat (go_big_quiet_step (fail))
  go_big_quiet_step (with_reducible exact z1 _ _)
  repeat (go_big_quiet_step (fail))
  go_big_quiet_step (with_reducible exact z2 _ _)
  repeat (go_big_quiet_step (fail))
  go_big_quiet_step (with_reducible exact z3 _ _)
  repeat (go_big_quiet_step (fail))
  go_big_quiet_step (with_reducible exact z4 _ _)
  repeat (go_big_quiet_step (fail))
  go_big_quiet_step (with_reducible exact z5 _ _)
  repeat (go_big_quiet_step (fail))
  go_big_quiet_step (with_reducible exact z6 _ _)
  repeat (go_big_quiet_step (fail))
  go_big_quiet_step (with_reducible exact z7 _ _)
  repeat (go_big_quiet_step (fail))
  go_big_quiet_step (with_reducible exact z8 _ _)
  repeat (go_big_quiet_step (fail))
  go_big_quiet_step (with_reducible exact z9 _ _)
  repeat (go_big_quiet_step (fail))
  go_big_quiet_step (with_reducible exact z10 _ _)
  repeat (go_big_quiet_step (fail))
  refine wpQuiet_nil ?_
  intro W7 hw'
  obtain ⟨⟨dq, osq⟩, hw''⟩ := hw'
  have hbz := below_regrown W6 dq osq
  rw [← hw''] at hbz
  clear hw'' g0 g1 g2 g3 g4 g5
  go_wp2
  go_ret
  exact ⟨rfl, hbW.trans (hbz.mono hbW.size)⟩
end Go.Proofs.YtmiaphgjcajbhaaDoor
