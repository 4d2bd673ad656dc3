/-
  The contract of the reference's Same at advertisements that are alike. No statement is proved here; no conditions.
-/
import Derived.Test.YtadcicmccdphkaaSe
namespace Go.Proofs.Ytadcicmccdphkaa
open Go.RowKit Go.Joins

set_option maxRecDepth 100000 in
theorem same_any (h : Hd) (A A' : Option Addr) (n c c' : Nat) (l : List Int) (w : World) (hn : l.length = n) (g : Bt w A l) (g' : Bt w A' l) :
    Calls Try.prog 11 #[.agg #[.int .i64 h.a, .int .i64 h.o, .int .i64 h.t, .int .u32 h.i, .int .u32 h.v, .int .u32 h.q, .int .i64 h.s, .int .i64 h.n, .slice A n c], .agg #[.int .i64 h.a, .int .i64 h.o, .int .i64 h.t, .int .u32 h.i, .int .u32 h.v, .int .u32 h.q, .int .i64 h.s, .int .i64 h.n, .slice A' n c']] w fun e w' => e = .returned (.bool true) ∧ Below w.heap.size w w' := by
  subst hn
  obtain ⟨W0, hW0⟩ : ∃ V, w.alloc (.cells #[.int .i64 h.a, .int .i64 h.o, .int .i64 h.t, .int .u32 h.i, .int .u32 h.v, .int .u32 h.q, .int .i64 h.s, .int .i64 h.n, .slice A l.length c] 34) = V := ⟨_, rfl⟩
  have bW0 : Below w.heap.size w W0 := by rw [← hW0]; exact below_alloc1 _ _
  have sW0 : W0.heap.size = w.heap.size + 1 := by rw [← hW0]; simp
  have KX : Hid (∀ V, Below W0.heap.size W0 V → V.cell? ⟨w.heap.size, 0, none⟩ = some (.int .i64 h.a) ∧ V.cell? ⟨w.heap.size, 1, none⟩ = some (.int .i64 h.o) ∧ V.cell? ⟨w.heap.size, 2, none⟩ = some (.int .i64 h.t) ∧ V.cell? ⟨w.heap.size, 3, none⟩ = some (.int .u32 h.i) ∧ V.cell? ⟨w.heap.size, 4, none⟩ = some (.int .u32 h.v) ∧ V.cell? ⟨w.heap.size, 5, none⟩ = some (.int .u32 h.q) ∧ V.cell? ⟨w.heap.size, 6, none⟩ = some (.int .i64 h.s) ∧ V.cell? ⟨w.heap.size, 7, none⟩ = some (.int .i64 h.n) ∧ V.cell? ⟨w.heap.size, 8, none⟩ = some (.slice A l.length c)) := Lib.hid (fun V hV => kb9_new hW0 hV)
  obtain ⟨W1, hW1⟩ : ∃ V, W0.alloc (.cells #[.int .i64 h.a, .int .i64 h.o, .int .i64 h.t, .int .u32 h.i, .int .u32 h.v, .int .u32 h.q, .int .i64 h.s, .int .i64 h.n, .slice A' l.length c'] 34) = V := ⟨_, rfl⟩
  have bW1 : Below W0.heap.size W0 W1 := by rw [← hW1]; exact below_alloc1 _ _
  have sW1 : W1.heap.size = W0.heap.size + 1 := by rw [← hW1]; simp
  have KY : Hid (∀ V, Below W1.heap.size W1 V → V.cell? ⟨W0.heap.size, 0, none⟩ = some (.int .i64 h.a) ∧ V.cell? ⟨W0.heap.size, 1, none⟩ = some (.int .i64 h.o) ∧ V.cell? ⟨W0.heap.size, 2, none⟩ = some (.int .i64 h.t) ∧ V.cell? ⟨W0.heap.size, 3, none⟩ = some (.int .u32 h.i) ∧ V.cell? ⟨W0.heap.size, 4, none⟩ = some (.int .u32 h.v) ∧ V.cell? ⟨W0.heap.size, 5, none⟩ = some (.int .u32 h.q) ∧ V.cell? ⟨W0.heap.size, 6, none⟩ = some (.int .i64 h.s) ∧ V.cell? ⟨W0.heap.size, 7, none⟩ = some (.int .i64 h.n) ∧ V.cell? ⟨W0.heap.size, 8, none⟩ = some (.slice A' l.length c')) := Lib.hid (fun V hV => kb9_new hW1 hV)
  have b2 : Below w.heap.size w W1 := bW0.trans (bW1.mono bW0.size)
  obtain ⟨k0, k1, k2, k3, k4, k5, k6, k7, k8⟩ := KX.out _ bW1
  have kj := KY.out _ (Below.refl _ _)
  rw [sW0] at kj
  obtain ⟨j0, j1, j2, j3, j4, j5, j6, j7, j8⟩ := kj
  have ss1 := run_str (P := Try.prog) (w := W1) 32 5 9 Try.underlying32 Try.underlying5 Try.underlying9 _ A c l (g.step b2)
  have ss2 := run_str (P := Try.prog) (w := W1) 32 5 9 Try.underlying32 Try.underlying5 Try.underlying9 _ A' c' l (g'.step b2)
  have B2 := Lib.hid b2
  clear g g' bW0 bW1 KX KY b2
  go_enter Try.func11, Try.ntmps11
  go_wp2
  go_ret
  exact ⟨rfl, B2.out⟩
end Go.Proofs.Ytadcicmccdphkaa
