/-
  The live question of the laws. No statement is proved here; no conditions.
-/
import Derived.Test.YtdjblkmhlghglaaSp
namespace Go.Proofs.Ytdjblkmhlghglaa
open Go.RowKit Go.Joins

def if1 : If := ⟨0, 10, 0, 40, 5, false⟩
def he1 : He := mk if1 1 0 0 [5]
theorem ok1 : Okh he1 := ⟨by decide, by decide, by decide, by decide, fun x hx => by simp [he1, mk] at hx; omega⟩
theorem may1 : mayh he1 = true := by decide
theorem live_make (V : World) (A : Option Addr) (h : Wt V A [5]) : Calls Try.prog 21 #[.agg #[.int .u32 0, .int .i64 10, .int .i64 0, .int .u32 40, .int .u32 5, .bool false], .int .i64 1, .int .u32 0, .int .u32 0, .slice A 1 1] V fun e w' => ∃ A' c', e = .returned (.agg #[.int .u32 0, .int .i64 10, .int .i64 0, .int .i64 1, .int .u32 40, .int .u32 0, .int .u32 0, .slice A' 1 c']) ∧ Own .u32 22 w' V.heap.size A' c' [5] ∧ Below V.heap.size V w' :=
  make_any if1 1 0 0 A 1 1 [5] V rfl h (by omega)
theorem live_enc (V : World) (A : Option Addr) (c : Nat) (h : Wt V A [5]) : Calls Try.prog 8 #[.agg #[.int .u32 0, .int .i64 10, .int .i64 0, .int .i64 1, .int .u32 40, .int .u32 0, .int .u32 0, .slice A 1 c]] V fun e w' => ∃ A' c', e = .returned (.tuple #[.slice A' 24 c', .int .i64 0]) ∧ Below V.heap.size V w' := by
  have q := encode_any he1 A 1 c V rfl ok1 h
  rw [show encE he1 = 0 by simp [encE, may1], show encL he1 = enc he1 by simp [encL, may1], enc_length] at q
  exact q.mono fun e w' ⟨A', c', h1, _, h3⟩ => ⟨A', c', h1, h3⟩
theorem live_nil (V : World) : Calls Try.prog 13 #[.slice none 0 0] V fun e w' => ∃ A' c', e = .returned (.tuple #[.agg #[Value.int .u32 0, .int .i64 0, .int .i64 0, .int .i64 0, .int .u32 0, .int .u32 0, .int .u32 0, .slice A' 0 c'], .int .i64 2]) ∧ Below V.heap.size V w' := by
  have e1 : flt [] = 2 := by decide
  have e2 : decp [] = zhe := by simp [decp, e1]
  have q := decode_any none 0 0 [] V rfl (Bs.nil _) (fun x hx => by cases hx) (by omega) (by omega)
  rw [e1, e2] at q
  exact q.mono fun e w' ⟨A', c', h1, _, h3⟩ => ⟨A', c', h1, h3⟩
theorem live_both (V : World) (A : Option Addr) (c : Nat) (h : Wt V A [5]) : Calls Try.prog 19 #[.agg #[.int .u32 0, .int .i64 10, .int .i64 0, .int .u32 40, .int .u32 5, .bool false], .agg #[.int .u32 0, .int .i64 10, .int .i64 0, .int .i64 1, .int .u32 40, .int .u32 0, .int .u32 0, .slice A 1 c]] V fun e w' => e = .returned (.bool true) ∧ Below V.heap.size V w' := by
  have q := both_any if1 he1 A 1 c V rfl h (by omega)
  rw [show decide (if1.r ∈ he1.s) = true by decide] at q
  exact q
theorem live_check (V : World) (A : Option Addr) (c : Nat) : Calls Try.prog 16 #[.agg #[.int .u32 0, .int .i64 10, .int .i64 0, .int .u32 40, .int .u32 5, .bool false], .agg #[.int .u32 0, .int .i64 10, .int .i64 0, .int .i64 1, .int .u32 40, .int .u32 0, .int .u32 0, .slice A 1 c]] V fun e w' => e = .returned (.int .i64 0) ∧ Below V.heap.size V w' := by
  have q := check_any if1 he1 A 1 c V
  rw [show chk if1 he1 = 0 from chk_mk _ _ _ _ _] at q
  exact q
set_option maxRecDepth 100000 in
theorem alive_any (w : World) : Calls Try.prog 7 #[] w fun e w' => e = .returned (.bool true) ∧ Below w.heap.size w w' := by
  obtain ⟨V0, hV0⟩ : ∃ V, w.alloc (.cells #[.int .u32 0, .int .i64 10, .int .i64 0, .int .u32 40, .int .u32 5, .bool false] 43) = V := ⟨_, rfl⟩
  have b0 : Below w.heap.size w V0 := by rw [← hV0]; exact below_alloc1 _ _
  have s0 : V0.heap.size = w.heap.size + 1 := by rw [← hV0]; simp
  obtain ⟨V1, hV1⟩ : ∃ V, V0.alloc (.cells #[.int .u32 5] 22) = V := ⟨_, rfl⟩
  have b1 : Below V0.heap.size V0 V1 := by rw [← hV1]; exact below_alloc1 _ _
  have w1 : Wt V1 (some ⟨w.heap.size + 1, 0, none⟩) [5] := by
    rw [← hV1]
    exact Bs.mk _ _ _ _ _ _ s0 (by simp [maxLen]) rfl
  have KF : Hid (∀ V, Below V0.heap.size V0 V → V.cell? ⟨w.heap.size, 0, none⟩ = some (.int .u32 if1.m) ∧ V.cell? ⟨w.heap.size, 1, none⟩ = some (.int .i64 if1.i) ∧ V.cell? ⟨w.heap.size, 2, none⟩ = some (.int .i64 if1.o) ∧ V.cell? ⟨w.heap.size, 3, none⟩ = some (.int .u32 if1.d) ∧ V.cell? ⟨w.heap.size, 4, none⟩ = some (.int .u32 if1.r) ∧ V.cell? ⟨w.heap.size, 5, none⟩ = some (.bool if1.pp)) := Lib.hid (fun V hV => kb6_new hV0 hV)
  have C1 := live_make V1 _ w1
  have HV0 := Lib.hid hV0
  have HV1 := Lib.hid hV1
  clear w1 hV0 hV1
  go_enter Try.func7, Try.ntmps7
  go_wp2_with fail
  rw [HV0.out, HV1.out]
  refine C1.mono ?_
  rintro e W1 ⟨A1, c1, rfl, o1, u1⟩
  obtain ⟨X1, hX1⟩ : ∃ V, W1.alloc (.cells #[.int .u32 0, .int .i64 10, .int .i64 0, .int .i64 1, .int .u32 40, .int .u32 0, .int .u32 0, .slice A1 1 c1] 25) = V := ⟨_, rfl⟩
  have x1 : Below W1.heap.size W1 X1 := by rw [← hX1]; exact below_alloc1 _ _
  have t1 : Below V0.heap.size V0 X1 := b1.trans ((u1.trans (x1.mono u1.size)).mono b1.size)
  have q1 : Wt X1 A1 [5] := Bs.step o1.bs x1
  have KH : Hid (∀ V, Below X1.heap.size X1 V → V.cell? ⟨W1.heap.size, 0, none⟩ = some (.int .u32 0) ∧ V.cell? ⟨W1.heap.size, 1, none⟩ = some (.int .i64 10) ∧ V.cell? ⟨W1.heap.size, 2, none⟩ = some (.int .i64 0) ∧ V.cell? ⟨W1.heap.size, 3, none⟩ = some (.int .i64 1) ∧ V.cell? ⟨W1.heap.size, 4, none⟩ = some (.int .u32 40) ∧ V.cell? ⟨W1.heap.size, 5, none⟩ = some (.int .u32 0) ∧ V.cell? ⟨W1.heap.size, 6, none⟩ = some (.int .u32 0) ∧ V.cell? ⟨W1.heap.size, 7, none⟩ = some (.slice A1 1 c1)) := Lib.hid (fun V hV => kb8_new hX1 hV)
  obtain ⟨k0, k1, k2, k3, k4, k5, k6, k7⟩ := KH.out _ (Below.refl _ _)
  clear o1 u1 x1 C1
  go_wp2_with fail
  refine (live_enc _ _ _ q1).mono ?_
  rintro e W2 ⟨A2, c2, rfl, u2⟩
  clear k0 k1 k2 k3 k4 k5 k6 k7 hX1
  go_wp2_with fail
  refine (live_nil _).mono ?_
  rintro e W3 ⟨A3, c3, rfl, u3⟩
  obtain ⟨X3, hX3⟩ : ∃ V, W3.alloc (.cells #[Value.int .u32 0, .int .i64 0, .int .i64 0, .int .i64 0, .int .u32 0, .int .u32 0, .int .u32 0, .slice A3 0 c3] 25) = V := ⟨_, rfl⟩
  have x3 : Below W3.heap.size W3 X3 := by rw [← hX3]; exact below_alloc1 _ _
  have u13 : Below X1.heap.size X1 X3 := u2.trans ((u3.trans (x3.mono u3.size)).mono u2.size)
  obtain ⟨k0, k1, k2, k3, k4, k5, k6, k7⟩ := KH.out _ u13
  have t3 := t1.trans (u13.mono t1.size)
  obtain ⟨j0, j1, j2, j3, j4, j5⟩ := KF.out _ t3
  simp only [if1] at j0 j1 j2 j3 j4 j5
  have q3 := Bs.step q1 u13
  clear u2 u3 x3 q1
  go_wp2_with fail
  refine (live_both _ _ _ q3).mono ?_
  rintro e W4 ⟨rfl, u4⟩
  clear k0 k1 k2 k3 k4 k5 k6 k7 j0 j1 j2 j3 j4 j5 hX3
  obtain ⟨k0, k1, k2, k3, k4, k5, k6, k7⟩ := KH.out _ (u13.trans (u4.mono u13.size))
  have t4 := t3.trans (u4.mono t3.size)
  obtain ⟨j0, j1, j2, j3, j4, j5⟩ := KF.out _ t4
  simp only [if1] at j0 j1 j2 j3 j4 j5
  go_wp2_with fail
  refine (live_check _ _ _).mono ?_
  rintro e W5 ⟨rfl, u5⟩
  go_wp2
  go_ret
  exact ⟨rfl, b0.trans ((t4.trans (u5.mono t4.size)).mono b0.size)⟩
end Go.Proofs.Ytdjblkmhlghglaa
