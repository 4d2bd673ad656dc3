/-
  The highest candidate for which a closure returns true; one round. No statement is proved here; no conditions.
-/
import Derived.Test.YtpfppacmldjioaaCd
namespace Go.Proofs.Ytpfppacmldjioaa
open Go.RowKit Go.Joins

theorem saysDR_any (x : Ca) (w : World) : Calls Try.prog 33 #[cv x] w fun e w' => e = .returned (.bool (sDR x)) ∧ Below w.heap.size w w' := by
  obtain ⟨W0, hW0⟩ : ∃ V, w.alloc (.cells #[.int .u32 x.i, .int .i64 x.p, .int .u32 x.d, .int .u32 x.b] 40) = V := ⟨_, rfl⟩
  have bW0 : Below w.heap.size w W0 := by rw [← hW0]; exact below_alloc1 _ _
  have sW0 : W0.heap.size = w.heap.size + 1 := by rw [← hW0]; simp
  have KX : Hid (∀ V, Below W0.heap.size W0 V → V.cell? ⟨w.heap.size, 0, none⟩ = some (.int .u32 x.i) ∧ V.cell? ⟨w.heap.size, 1, none⟩ = some (.int .i64 x.p) ∧ V.cell? ⟨w.heap.size, 2, none⟩ = some (.int .u32 x.d) ∧ V.cell? ⟨w.heap.size, 3, none⟩ = some (.int .u32 x.b)) := Lib.hid (fun V hV => kb4_new hW0 hV)
  obtain ⟨k0, k1, k2, k3⟩ := KX.out _ (Below.refl _ _)
  have HV : Hid ((sDR x) = (sDR x)) := Lib.hid rfl
  clear KX sW0 HV
  go_enter Try.func33, Try.ntmps33
  go_wp2
  go_ret
  exact ⟨rfl, bW0⟩
theorem saysBDR_any (x : Ca) (w : World) : Calls Try.prog 34 #[cv x] w fun e w' => e = .returned (.bool (sBR x)) ∧ Below w.heap.size w w' := by
  obtain ⟨W0, hW0⟩ : ∃ V, w.alloc (.cells #[.int .u32 x.i, .int .i64 x.p, .int .u32 x.d, .int .u32 x.b] 40) = V := ⟨_, rfl⟩
  have bW0 : Below w.heap.size w W0 := by rw [← hW0]; exact below_alloc1 _ _
  have sW0 : W0.heap.size = w.heap.size + 1 := by rw [← hW0]; simp
  have KX : Hid (∀ V, Below W0.heap.size W0 V → V.cell? ⟨w.heap.size, 0, none⟩ = some (.int .u32 x.i) ∧ V.cell? ⟨w.heap.size, 1, none⟩ = some (.int .i64 x.p) ∧ V.cell? ⟨w.heap.size, 2, none⟩ = some (.int .u32 x.d) ∧ V.cell? ⟨w.heap.size, 3, none⟩ = some (.int .u32 x.b)) := Lib.hid (fun V hV => kb4_new hW0 hV)
  obtain ⟨k0, k1, k2, k3⟩ := KX.out _ (Below.refl _ _)
  have HV : Hid ((sBR x) = (sBR x)) := Lib.hid rfl
  clear KX sW0 HV
  go_enter Try.func34, Try.ntmps34
  go_wp2
  go_ret
  exact ⟨rfl, bW0⟩
theorem speak1_any (x : Ca) (w : World) : Calls Try.prog 31 #[cv x] w fun e w' => e = .returned (.bool true) ∧ Below w.heap.size w w' := by
  obtain ⟨W0, hW0⟩ : ∃ V, w.alloc (.cells #[.int .u32 x.i, .int .i64 x.p, .int .u32 x.d, .int .u32 x.b] 40) = V := ⟨_, rfl⟩
  have bW0 : Below w.heap.size w W0 := by rw [← hW0]; exact below_alloc1 _ _
  have sW0 : W0.heap.size = w.heap.size + 1 := by rw [← hW0]; simp
  have KX : Hid (∀ V, Below W0.heap.size W0 V → V.cell? ⟨w.heap.size, 0, none⟩ = some (.int .u32 x.i) ∧ V.cell? ⟨w.heap.size, 1, none⟩ = some (.int .i64 x.p) ∧ V.cell? ⟨w.heap.size, 2, none⟩ = some (.int .u32 x.d) ∧ V.cell? ⟨w.heap.size, 3, none⟩ = some (.int .u32 x.b)) := Lib.hid (fun V hV => kb4_new hW0 hV)
  clear KX sW0
  go_enter Try.func31, Try.ntmps31
  go_wp2
  go_ret
  exact ⟨rfl, bW0⟩
set_option maxRecDepth 100000 in
theorem round2_any (x : Ca) (w : World) : Calls Try.prog 35 #[cv x] w fun e w' => e = .returned (.bool (!sDR x)) ∧ Below w.heap.size w w' := by
  obtain ⟨W0, hW0⟩ : ∃ V, w.alloc (.cells #[.int .u32 x.i, .int .i64 x.p, .int .u32 x.d, .int .u32 x.b] 40) = V := ⟨_, rfl⟩
  have bW0 : Below w.heap.size w W0 := by rw [← hW0]; exact below_alloc1 _ _
  have sW0 : W0.heap.size = w.heap.size + 1 := by rw [← hW0]; simp
  have KX : Hid (∀ V, Below W0.heap.size W0 V → V.cell? ⟨w.heap.size, 0, none⟩ = some (.int .u32 x.i) ∧ V.cell? ⟨w.heap.size, 1, none⟩ = some (.int .i64 x.p) ∧ V.cell? ⟨w.heap.size, 2, none⟩ = some (.int .u32 x.d) ∧ V.cell? ⟨w.heap.size, 3, none⟩ = some (.int .u32 x.b)) := Lib.hid (fun V hV => kb4_new hW0 hV)
  obtain ⟨k0, k1, k2, k3⟩ := KX.out _ (Below.refl _ _)
  have CS := saysDR_any x W0
  have HB := Lib.hid bW0
  clear KX sW0 bW0
  go_enter Try.func35, Try.ntmps35
  go_wp2_with fail
  refine CS.mono ?_
  rintro e W1 ⟨rfl, u1⟩
  go_wp2
  go_ret
  exact ⟨rfl, HB.out.trans (u1.mono HB.out.size)⟩
set_option maxRecDepth 100000 in
theorem round1_any (x : Ca) (w : World) : Calls Try.prog 32 #[cv x] w fun e w' => e = .returned (.bool (!sDR x && sBR x)) ∧ Below w.heap.size w w' := by
  obtain ⟨W0, hW0⟩ : ∃ V, w.alloc (.cells #[.int .u32 x.i, .int .i64 x.p, .int .u32 x.d, .int .u32 x.b] 40) = V := ⟨_, rfl⟩
  have bW0 : Below w.heap.size w W0 := by rw [← hW0]; exact below_alloc1 _ _
  have sW0 : W0.heap.size = w.heap.size + 1 := by rw [← hW0]; simp
  have KX : Hid (∀ V, Below W0.heap.size W0 V → V.cell? ⟨w.heap.size, 0, none⟩ = some (.int .u32 x.i) ∧ V.cell? ⟨w.heap.size, 1, none⟩ = some (.int .i64 x.p) ∧ V.cell? ⟨w.heap.size, 2, none⟩ = some (.int .u32 x.d) ∧ V.cell? ⟨w.heap.size, 3, none⟩ = some (.int .u32 x.b)) := Lib.hid (fun V hV => kb4_new hW0 hV)
  obtain ⟨k0, k1, k2, k3⟩ := KX.out _ (Below.refl _ _)
  have CS := saysDR_any x W0
  have HK := Lib.hid (KX.out)
  have HB := Lib.hid bW0
  have HC := Lib.hid (fun V => saysBDR_any x V)
  clear KX sW0 bW0
  cases h : sDR x
  · rw [h] at CS
    go_enter Try.func32, Try.ntmps32
    go_wp2_with fail
    refine CS.mono ?_
    rintro e W1 ⟨rfl, u1⟩
    obtain ⟨j0, j1, j2, j3⟩ := HK.out _ u1
    have CB := HC.out W1
    go_wp2_with fail
    refine CB.mono ?_
    rintro e W2 ⟨rfl, u2⟩
    go_wp2
    go_ret
    exact ⟨rfl, HB.out.trans ((u1.trans (u2.mono u1.size)).mono HB.out.size)⟩
  · rw [h] at CS
    go_enter Try.func32, Try.ntmps32
    go_wp2_with fail
    refine CS.mono ?_
    rintro e W1 ⟨rfl, u1⟩
    go_wp2
    go_ret
    exact ⟨rfl, HB.out.trans (u1.mono HB.out.size)⟩
set_option maxRecDepth 100000 in
theorem above_any (x y : Ca) (w : World) : Calls Try.prog 36 #[cv x, cv y] w fun e w' => e = .returned (.bool (abv x y)) ∧ Below w.heap.size w w' := by
  obtain ⟨W0, hW0⟩ : ∃ V, w.alloc (.cells #[.int .u32 x.i, .int .i64 x.p, .int .u32 x.d, .int .u32 x.b] 40) = V := ⟨_, rfl⟩
  have bW0 : Below w.heap.size w W0 := by rw [← hW0]; exact below_alloc1 _ _
  have sW0 : W0.heap.size = w.heap.size + 1 := by rw [← hW0]; simp
  have KX : Hid (∀ V, Below W0.heap.size W0 V → V.cell? ⟨w.heap.size, 0, none⟩ = some (.int .u32 x.i) ∧ V.cell? ⟨w.heap.size, 1, none⟩ = some (.int .i64 x.p) ∧ V.cell? ⟨w.heap.size, 2, none⟩ = some (.int .u32 x.d) ∧ V.cell? ⟨w.heap.size, 3, none⟩ = some (.int .u32 x.b)) := Lib.hid (fun V hV => kb4_new hW0 hV)
  obtain ⟨W1, hW1⟩ : ∃ V, W0.alloc (.cells #[.int .u32 y.i, .int .i64 y.p, .int .u32 y.d, .int .u32 y.b] 40) = V := ⟨_, rfl⟩
  have bW1 : Below W0.heap.size W0 W1 := by rw [← hW1]; exact below_alloc1 _ _
  have sW1 : W1.heap.size = W0.heap.size + 1 := by rw [← hW1]; simp
  have KY : Hid (∀ V, Below W1.heap.size W1 V → V.cell? ⟨W0.heap.size, 0, none⟩ = some (.int .u32 y.i) ∧ V.cell? ⟨W0.heap.size, 1, none⟩ = some (.int .i64 y.p) ∧ V.cell? ⟨W0.heap.size, 2, none⟩ = some (.int .u32 y.d) ∧ V.cell? ⟨W0.heap.size, 3, none⟩ = some (.int .u32 y.b)) := Lib.hid (fun V hV => kb4_new hW1 hV)
  obtain ⟨k0, k1, k2, k3⟩ := KX.out _ bW1
  obtain ⟨j0, j1, j2, j3⟩ := KY.out _ (Below.refl _ _)
  rw [sW0] at j0 j1 j2 j3
  have HB := Lib.hid (bW0.trans (bW1.mono bW0.size))
  clear KX KY sW1 bW0 bW1
  rcases Int.lt_trichotomy x.p y.p with h | h | h
  · have e1 : decide (x.p > y.p) = false := by simp; omega
    have e2 : (x.p == y.p) = false := by simp; omega
    have HV : Hid (abv x y = false) := Lib.hid (by simp [abv]; omega)
    clear h
    go_enter Try.func36, Try.ntmps36
    go_wp2
    go_ret
    exact ⟨ret_bool HV.out.symm, HB.out⟩
  · have e1 : decide (x.p > y.p) = false := by simp; omega
    have e2 : (x.p == y.p) = true := by simp; omega
    have HV : Hid (abv x y = decide (x.i > y.i)) := Lib.hid (by simp [abv, h])
    clear h
    go_enter Try.func36, Try.ntmps36
    go_wp2
    go_ret
    exact ⟨ret_bool HV.out.symm, HB.out⟩
  · have e1 : decide (x.p > y.p) = true := by simp; omega
    have HV : Hid (abv x y = true) := Lib.hid (by simp [abv, h])
    clear h
    go_enter Try.func36, Try.ntmps36
    go_wp2
    go_ret
    exact ⟨ret_bool HV.out.symm, HB.out⟩
end Go.Proofs.Ytpfppacmldjioaa
