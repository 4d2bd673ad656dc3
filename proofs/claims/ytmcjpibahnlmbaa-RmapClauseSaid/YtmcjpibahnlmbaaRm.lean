/-
  Contracts of the program's Means, hides, and of the closures that look for a rule. No statement is proved here; no conditions.
-/
import Derived.Test.YtmcjpibahnlmbaaRb
namespace Go.Proofs.Ytmcjpibahnlmbaa
open Go.RowKit Go.Joins

/-- A prefix in a new block. -/
theorem pb_new {w W0 W : World} {t : TypeId} {v0 v1 : Value} (h0 : w.alloc (.cells #[v0, v1] t) = W0) (h : Below W0.heap.size W0 W) : W.cell? ⟨w.heap.size, 0, none⟩ = some v0 ∧ W.cell? ⟨w.heap.size, 1, none⟩ = some v1 := two_new h0 h
set_option maxRecDepth 100000 in
theorem means_any (x : Ru) (B : Nat) (M : Int) (w : World) (hA : x.A < 4294967296) (hB : B < 4294967296) : Calls Try.prog 56 #[rv x, pf B M] w fun e w' => e = .returned (.bool (mns x B M)) ∧ Below w.heap.size w w' := by
  have cb := fun W => bounds_any x W
  have cm := fun W => pmay_any x W hA
  have cc := fun W => covers_any x.A x.N B M W hA hB
  obtain ⟨LO, hLO⟩ : ∃ v, lo x = v := ⟨_, rfl⟩
  obtain ⟨HI, hHI⟩ : ∃ v, hi x = v := ⟨_, rfl⟩
  have hm : mns x B M = (okr x && covp x.A x.N B M && decide (LO ≤ M) && decide (M ≤ HI)) := by rw [mns, hLO, hHI]
  rw [hLO, hHI] at cb
  rw [hm]
  clear hm hLO hHI
  generalize okr x = OK at *
  obtain ⟨s, p, A, N, g, l⟩ := x
  simp only at cc hA
  generalize covp A N B M = CO at *
  obtain ⟨W0, hW0⟩ : ∃ W0, w.alloc (.cells #[.int .i64 s, .bool p, .int .u32 (A : Int), .int .i64 N, .int .i64 g, .int .i64 l] 75) = W0 := ⟨_, rfl⟩
  have s0 : W0.heap.size = w.heap.size + 1 := by rw [← hW0]; simp
  obtain ⟨W1, hW1⟩ : ∃ W1, W0.alloc (.cells #[.int .u32 (B : Int), .int .i64 M] 25) = W1 := ⟨_, rfl⟩
  have s1 : W1.heap.size = w.heap.size + 2 := by rw [← hW1]; simp [s0]
  have b0 : Below w.heap.size w W0 := by rw [← hW0]; exact below_alloc1 _ _
  have b1 : Below W0.heap.size W0 W1 := by rw [← hW1]; exact below_alloc1 _ _
  have HB : Hid (Below w.heap.size w W1) := Lib.hid (b0.trans (b1.mono (by omega)))
  have KX : Hid (∀ V, Below W1.heap.size W1 V → V.cell? ⟨w.heap.size, 0, none⟩ = some (.int .i64 s) ∧ V.cell? ⟨w.heap.size, 1, none⟩ = some (.bool p) ∧ V.cell? ⟨w.heap.size, 2, none⟩ = some (.int .u32 (A : Int)) ∧ V.cell? ⟨w.heap.size, 3, none⟩ = some (.int .i64 N) ∧ V.cell? ⟨w.heap.size, 4, none⟩ = some (.int .i64 g) ∧ V.cell? ⟨w.heap.size, 5, none⟩ = some (.int .i64 l)) :=
    Lib.hid (fun V hV => rb_new hW0 (b1.trans (hV.mono b1.size)))
  have KQ : Hid (∀ V, Below W1.heap.size W1 V → V.cell? ⟨w.heap.size + 1, 0, none⟩ = some (.int .u32 (B : Int)) ∧ V.cell? ⟨w.heap.size + 1, 1, none⟩ = some (.int .i64 M)) :=
    Lib.hid (fun V hV => by have := pb_new hW1 hV; rwa [s0] at this)
  clear b0 b1
  obtain ⟨k0, k1, k2, k3, k4, k5⟩ := KX.out _ (Below.refl _ _)
  go_enter Try.func56, Try.ntmps56
  go_wp2_with fail
  refine (cb _).mono ?_
  rintro e V1 ⟨rfl, hb1⟩
  clear hW0 hW1 k0 k1 k2 k3 k4 k5
  obtain ⟨k0, k1, k2, k3, k4, k5⟩ := KX.out _ hb1
  cases OK
  · go_wp2_with fail
    refine (cm _).mono ?_
    rintro e V2 ⟨rfl, hb2⟩
    go_wp2
    go_ret
    exact ⟨rfl, HB.out.trans ((hb1.trans (hb2.mono hb1.size)).mono (by omega))⟩
  · go_wp2_with fail
    refine (cm _).mono ?_
    rintro e V2 ⟨rfl, hb2⟩
    replace hb2 := hb1.trans (hb2.mono hb1.size)
    clear hb1 k0 k1 k2 k3 k4 k5
    obtain ⟨k0, k1, k2, k3, k4, k5⟩ := KX.out _ hb2
    obtain ⟨q0, q1⟩ := KQ.out _ hb2
    cases CO
    · go_wp2_with fail
      refine (cc _).mono ?_
      rintro e V3 ⟨rfl, hb3⟩
      go_wp2
      go_ret
      exact ⟨rfl, HB.out.trans ((hb2.trans (hb3.mono hb2.size)).mono (by omega))⟩
    · go_wp2_with fail
      refine (cc _).mono ?_
      rintro e V3 ⟨rfl, hb3⟩
      replace hb3 := hb2.trans (hb3.mono hb2.size)
      clear hb2 k0 k1 k2 k3 k4 k5 q0 q1
      obtain ⟨q0, q1⟩ := KQ.out _ hb3
      by_cases h1 : LO ≤ M
      · go_wp2
        go_ret
        exact ⟨ret_bool (by simp [h1]), HB.out.trans (hb3.mono (by omega))⟩
      · go_wp2
        go_ret
        exact ⟨ret_bool (by simp; omega), HB.out.trans (hb3.mono (by omega))⟩
end Go.Proofs.Ytmcjpibahnlmbaa
