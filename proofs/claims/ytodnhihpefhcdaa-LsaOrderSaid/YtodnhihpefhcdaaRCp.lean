/-
  Contracts of the reference's Compare and Less. No statement is proved here; no conditions.
-/
import Derived.Test.YtodnhihpefhcdaaOr
namespace Go.Proofs.Ytodnhihpefhcdaa
open Go.RowKit Go.Joins

set_option maxRecDepth 100000 in
set_option maxHeartbeats 4000000 in
theorem rcompare_any (a b : Hd) (w : World) (oa : 0 ≤ a.q ∧ a.q < 4294967296) (ob : 0 ≤ b.q ∧ b.q < 4294967296) (ha : 0 ≤ a.a ∧ a.a ≤ 3600) (hb : 0 ≤ b.a ∧ b.a ≤ 3600) :
    Calls Try.prog 22 #[.agg #[.int .i64 a.a, .int .i64 a.o, .int .i64 a.t, .int .u32 a.i, .int .u32 a.v, .int .u32 a.q, .int .i64 a.s, .int .i64 a.n], .agg #[.int .i64 b.a, .int .i64 b.o, .int .i64 b.t, .int .u32 b.i, .int .u32 b.v, .int .u32 b.q, .int .i64 b.s, .int .i64 b.n]] w fun e w' => e = .returned (.int .i64 (cmpH a b)) ∧ Below w.heap.size w w' := by
  obtain ⟨W0, hW0⟩ : ∃ V, w.alloc (.cells #[.int .i64 a.a, .int .i64 a.o, .int .i64 a.t, .int .u32 a.i, .int .u32 a.v, .int .u32 a.q, .int .i64 a.s, .int .i64 a.n] 24) = V := ⟨_, rfl⟩
  have bW0 : Below w.heap.size w W0 := by rw [← hW0]; exact below_alloc1 _ _
  have sW0 : W0.heap.size = w.heap.size + 1 := by rw [← hW0]; simp
  have KX : Hid (∀ V, Below W0.heap.size W0 V → V.cell? ⟨w.heap.size, 0, none⟩ = some (.int .i64 a.a) ∧ V.cell? ⟨w.heap.size, 1, none⟩ = some (.int .i64 a.o) ∧ V.cell? ⟨w.heap.size, 2, none⟩ = some (.int .i64 a.t) ∧ V.cell? ⟨w.heap.size, 3, none⟩ = some (.int .u32 a.i) ∧ V.cell? ⟨w.heap.size, 4, none⟩ = some (.int .u32 a.v) ∧ V.cell? ⟨w.heap.size, 5, none⟩ = some (.int .u32 a.q) ∧ V.cell? ⟨w.heap.size, 6, none⟩ = some (.int .i64 a.s) ∧ V.cell? ⟨w.heap.size, 7, none⟩ = some (.int .i64 a.n)) := Lib.hid (fun V hV => kb8_new hW0 hV)
  obtain ⟨W1, hW1⟩ : ∃ V, W0.alloc (.cells #[.int .i64 b.a, .int .i64 b.o, .int .i64 b.t, .int .u32 b.i, .int .u32 b.v, .int .u32 b.q, .int .i64 b.s, .int .i64 b.n] 24) = V := ⟨_, rfl⟩
  have bW1 : Below W0.heap.size W0 W1 := by rw [← hW1]; exact below_alloc1 _ _
  have sW1 : W1.heap.size = W0.heap.size + 1 := by rw [← hW1]; simp
  have KY : Hid (∀ V, Below W1.heap.size W1 V → V.cell? ⟨W0.heap.size, 0, none⟩ = some (.int .i64 b.a) ∧ V.cell? ⟨W0.heap.size, 1, none⟩ = some (.int .i64 b.o) ∧ V.cell? ⟨W0.heap.size, 2, none⟩ = some (.int .i64 b.t) ∧ V.cell? ⟨W0.heap.size, 3, none⟩ = some (.int .u32 b.i) ∧ V.cell? ⟨W0.heap.size, 4, none⟩ = some (.int .u32 b.v) ∧ V.cell? ⟨W0.heap.size, 5, none⟩ = some (.int .u32 b.q) ∧ V.cell? ⟨W0.heap.size, 6, none⟩ = some (.int .i64 b.s) ∧ V.cell? ⟨W0.heap.size, 7, none⟩ = some (.int .i64 b.n)) := Lib.hid (fun V hV => kb8_new hW1 hV)
  have b2 : Below w.heap.size w W1 := bW0.trans (bW1.mono bW0.size)
  have B2 := Lib.hid b2
  have KZ : Hid (∀ V, Below W1.heap.size W1 V → (V.cell? ⟨w.heap.size, 0, none⟩ = some (.int .i64 a.a) ∧ V.cell? ⟨w.heap.size, 1, none⟩ = some (.int .i64 a.o) ∧ V.cell? ⟨w.heap.size, 2, none⟩ = some (.int .i64 a.t) ∧ V.cell? ⟨w.heap.size, 3, none⟩ = some (.int .u32 a.i) ∧ V.cell? ⟨w.heap.size, 4, none⟩ = some (.int .u32 a.v) ∧ V.cell? ⟨w.heap.size, 5, none⟩ = some (.int .u32 a.q) ∧ V.cell? ⟨w.heap.size, 6, none⟩ = some (.int .i64 a.s) ∧ V.cell? ⟨w.heap.size, 7, none⟩ = some (.int .i64 a.n)) ∧ (V.cell? ⟨(w.heap.size + 1), 0, none⟩ = some (.int .i64 b.a) ∧ V.cell? ⟨(w.heap.size + 1), 1, none⟩ = some (.int .i64 b.o) ∧ V.cell? ⟨(w.heap.size + 1), 2, none⟩ = some (.int .i64 b.t) ∧ V.cell? ⟨(w.heap.size + 1), 3, none⟩ = some (.int .u32 b.i) ∧ V.cell? ⟨(w.heap.size + 1), 4, none⟩ = some (.int .u32 b.v) ∧ V.cell? ⟨(w.heap.size + 1), 5, none⟩ = some (.int .u32 b.q) ∧ V.cell? ⟨(w.heap.size + 1), 6, none⟩ = some (.int .i64 b.s) ∧ V.cell? ⟨(w.heap.size + 1), 7, none⟩ = some (.int .i64 b.n))) := Lib.hid (fun V hV => by
    have q1 := KX.out V (bW1.trans (hV.mono bW1.size))
    have q2 := KY.out V hV
    rw [sW0] at q2
    exact ⟨q1, q2⟩)
  obtain ⟨oa0, oa1⟩ := oa
  obtain ⟨ob0, ob1⟩ := ob
  obtain ⟨ha0, ha1⟩ := ha
  obtain ⟨hb0, hb1⟩ := hb
  have HC : Hid (cmpH a b = fstn [cmpI (sg a.q) (sg b.q), cmpI a.s b.s, cmpI (endd a.a) (endd b.a), yng a.a b.a]) := Lib.hid rfl
  have ea := wrap_i32 a.q oa0 oa1
  have eb := wrap_i32 b.q ob0 ob1
  obtain ⟨x, hx⟩ : ∃ x, sg a.q = x := ⟨_, rfl⟩
  obtain ⟨y, hy⟩ : ∃ y, sg b.q = y := ⟨_, rfl⟩
  rw [hx, hy] at HC
  rw [hx] at ea
  rw [hy] at eb
  obtain ⟨⟨k0, k1, k2, k3, k4, k5, k6, k7⟩, ⟨j0, j1, j2, j3, j4, j5, j6, j7⟩⟩ := KZ.out _ (Below.refl _ _)
  clear KX KY KZ bW0 bW1 b2 sW1 hx hy
  by_cases c1 : x = y
  case neg =>
    have d1 : (x == y) = false := by simpa using c1
    have n1 : (x != y) = true := by simp [bne, d1]
    by_cases c2 : x > y
    · have HV : Hid (cmpH a b = 1) := Lib.hid (by rw [HC.out]; unfold cmpI; rw [if_neg (by omega : ¬ x < y), if_pos c2]; rfl)
      clear HC c1
      go_enter Try.func22, Try.ntmps22
      go_wp2_with (go_at_call 40; refine (more_any _ _).mono ?_; rintro e w' ⟨rfl, rfl⟩)
      go_ret
      exact ⟨ret_int (by rw [HV.out]), B2.out⟩
    · have HV : Hid (cmpH a b = -1) := Lib.hid (by rw [HC.out]; unfold cmpI; rw [if_pos (by omega : x < y)]; rfl)
      clear HC c1
      go_enter Try.func22, Try.ntmps22
      go_wp2_with (go_at_call 40; refine (more_any _ _).mono ?_; rintro e w' ⟨rfl, rfl⟩)
      go_ret
      exact ⟨ret_int (by rw [HV.out]), B2.out⟩
  have d1 : (x == y) = true := by simpa using c1
  have n1 : (x != y) = false := by simp [bne, d1]
  have HC1 : Hid (cmpH a b = fstn [cmpI a.s b.s, cmpI (endd a.a) (endd b.a), yng a.a b.a]) := Lib.hid (by rw [HC.out, c1, cmpI_self]; rfl)
  clear HC c1
  by_cases c3 : a.s = b.s
  case neg =>
    have d3 : (a.s == b.s) = false := by simpa using c3
    have n3 : (a.s != b.s) = true := by simp [bne, d3]
    by_cases c2 : a.s > b.s
    · have HV : Hid (cmpH a b = 1) := Lib.hid (by rw [HC1.out]; unfold cmpI; rw [if_neg (by omega : ¬ a.s < b.s), if_pos c2]; rfl)
      clear HC1 c3
      go_enter Try.func22, Try.ntmps22
      go_wp2_with (go_at_call 40; refine (more_any _ _).mono ?_; rintro e w' ⟨rfl, rfl⟩)
      go_ret
      exact ⟨ret_int (by rw [HV.out]), B2.out⟩
    · have HV : Hid (cmpH a b = -1) := Lib.hid (by rw [HC1.out]; unfold cmpI; rw [if_pos (by omega : a.s < b.s)]; rfl)
      clear HC1 c3
      go_enter Try.func22, Try.ntmps22
      go_wp2_with (go_at_call 40; refine (more_any _ _).mono ?_; rintro e w' ⟨rfl, rfl⟩)
      go_ret
      exact ⟨ret_int (by rw [HV.out]), B2.out⟩
  have d3 : (a.s == b.s) = true := by simpa using c3
  have n3 : (a.s != b.s) = false := by simp [bne, d3]
  have HC2 : Hid (cmpH a b = fstn [cmpI (endd a.a) (endd b.a), yng a.a b.a]) := Lib.hid (by rw [HC1.out, c3, cmpI_self]; rfl)
  clear HC1 c3
  by_cases c4 : a.a = 3600
  · have d4 : (a.a == 3600) = true := by simpa using c4
    by_cases c5 : b.a = 3600
    · have d5 : (b.a == 3600) = true := by simpa using c5
      have HV : Hid (cmpH a b = 0) := Lib.hid (by rw [HC2.out, c4, c5, cmpI_self]; rfl)
      have f1 : ¬ (a.a > b.a + 900) := by omega
      have f2 : ¬ (b.a > a.a + 900) := by omega
      clear HC2 c4 c5
      go_enter Try.func22, Try.ntmps22
      go_wp2
      go_ret
      exact ⟨ret_int (by rw [HV.out]), B2.out⟩
    · have d5 : (b.a == 3600) = false := by simpa using c5
      have HV : Hid (cmpH a b = 1) := Lib.hid (by rw [HC2.out]; unfold endd cmpI; rw [if_pos c4, if_neg c5]; rfl)
      clear HC2 c4 c5
      go_enter Try.func22, Try.ntmps22
      go_wp2_with (go_at_call 40; refine (more_any _ _).mono ?_; rintro e w' ⟨rfl, rfl⟩)
      go_ret
      exact ⟨ret_int (by rw [HV.out]), B2.out⟩
  have d4 : (a.a == 3600) = false := by simpa using c4
  by_cases c5 : b.a = 3600
  · have d5 : (b.a == 3600) = true := by simpa using c5
    have HV : Hid (cmpH a b = -1) := Lib.hid (by rw [HC2.out]; unfold endd cmpI; rw [if_neg c4, if_pos c5]; rfl)
    clear HC2 c4 c5
    go_enter Try.func22, Try.ntmps22
    go_wp2_with (go_at_call 40; refine (more_any _ _).mono ?_; rintro e w' ⟨rfl, rfl⟩)
    go_ret
    exact ⟨ret_int (by rw [HV.out]), B2.out⟩
  have d5 : (b.a == 3600) = false := by simpa using c5
  have HC3 : Hid (cmpH a b = yng a.a b.a) := Lib.hid (by
    rw [HC2.out]
    unfold endd
    rw [if_neg c4, if_neg c5, cmpI_self]
    simp only [fstn, if_true]
    split
    · rename_i h; exact h.symm
    · rfl)
  clear HC2 c4 c5
  by_cases f1 : a.a > b.a + 900
  · have f3 : ¬ (a.a < b.a) := by omega
    have HV : Hid (cmpH a b = -1) := Lib.hid (by rw [HC3.out]; unfold yng; rw [if_neg (by omega), if_pos (by omega)])
    clear HC3
    go_enter Try.func22, Try.ntmps22
    go_wp2_with (go_at_call 40; refine (more_any _ _).mono ?_; rintro e w' ⟨rfl, rfl⟩)
    go_ret
    exact ⟨ret_int (by rw [HV.out]), B2.out⟩
  by_cases f2 : b.a > a.a + 900
  · have f3 : a.a < b.a := by omega
    have HV : Hid (cmpH a b = 1) := Lib.hid (by rw [HC3.out]; unfold yng; rw [if_pos (by omega)])
    clear HC3
    go_enter Try.func22, Try.ntmps22
    go_wp2_with (go_at_call 40; refine (more_any _ _).mono ?_; rintro e w' ⟨rfl, rfl⟩)
    go_ret
    exact ⟨ret_int (by rw [HV.out]), B2.out⟩
  have HV : Hid (cmpH a b = 0) := Lib.hid (by rw [HC3.out]; unfold yng; rw [if_neg (by omega), if_neg (by omega)])
  clear HC3
  go_enter Try.func22, Try.ntmps22
  go_wp2
  go_ret
  exact ⟨ret_int (by rw [HV.out]), B2.out⟩
set_option maxRecDepth 100000 in
set_option maxHeartbeats 4000000 in
theorem rless_any (a b : Hd) (w : World) :
    Calls Try.prog 24 #[.agg #[.int .i64 a.t, .int .u32 a.i, .int .u32 a.v], .agg #[.int .i64 b.t, .int .u32 b.i, .int .u32 b.v]] w fun e w' => e = .returned (.bool (lessK a b)) ∧ Below w.heap.size w w' := by
  obtain ⟨W0, hW0⟩ : ∃ V, w.alloc (.cells #[.int .i64 a.t, .int .u32 a.i, .int .u32 a.v] 34) = V := ⟨_, rfl⟩
  have bW0 : Below w.heap.size w W0 := by rw [← hW0]; exact below_alloc1 _ _
  have sW0 : W0.heap.size = w.heap.size + 1 := by rw [← hW0]; simp
  have KX : Hid (∀ V, Below W0.heap.size W0 V → V.cell? ⟨w.heap.size, 0, none⟩ = some (.int .i64 a.t) ∧ V.cell? ⟨w.heap.size, 1, none⟩ = some (.int .u32 a.i) ∧ V.cell? ⟨w.heap.size, 2, none⟩ = some (.int .u32 a.v)) := Lib.hid (fun V hV => kb3_new hW0 hV)
  obtain ⟨W1, hW1⟩ : ∃ V, W0.alloc (.cells #[.int .i64 b.t, .int .u32 b.i, .int .u32 b.v] 34) = V := ⟨_, rfl⟩
  have bW1 : Below W0.heap.size W0 W1 := by rw [← hW1]; exact below_alloc1 _ _
  have sW1 : W1.heap.size = W0.heap.size + 1 := by rw [← hW1]; simp
  have KY : Hid (∀ V, Below W1.heap.size W1 V → V.cell? ⟨W0.heap.size, 0, none⟩ = some (.int .i64 b.t) ∧ V.cell? ⟨W0.heap.size, 1, none⟩ = some (.int .u32 b.i) ∧ V.cell? ⟨W0.heap.size, 2, none⟩ = some (.int .u32 b.v)) := Lib.hid (fun V hV => kb3_new hW1 hV)
  have b2 : Below w.heap.size w W1 := bW0.trans (bW1.mono bW0.size)
  have B2 := Lib.hid b2
  have KZ : Hid (∀ V, Below W1.heap.size W1 V → (V.cell? ⟨w.heap.size, 0, none⟩ = some (.int .i64 a.t) ∧ V.cell? ⟨w.heap.size, 1, none⟩ = some (.int .u32 a.i) ∧ V.cell? ⟨w.heap.size, 2, none⟩ = some (.int .u32 a.v)) ∧ (V.cell? ⟨(w.heap.size + 1), 0, none⟩ = some (.int .i64 b.t) ∧ V.cell? ⟨(w.heap.size + 1), 1, none⟩ = some (.int .u32 b.i) ∧ V.cell? ⟨(w.heap.size + 1), 2, none⟩ = some (.int .u32 b.v))) := Lib.hid (fun V hV => by
    have q1 := KX.out V (bW1.trans (hV.mono bW1.size))
    have q2 := KY.out V hV
    rw [sW0] at q2
    exact ⟨q1, q2⟩)
  have HC : Hid (lessK a b = decide (fstn [cmpI a.t b.t, cmpI a.i b.i, cmpI a.v b.v] < 0)) := Lib.hid rfl
  obtain ⟨⟨k0, k1, k2⟩, ⟨j0, j1, j2⟩⟩ := KZ.out _ (Below.refl _ _)
  clear KX KY KZ bW0 bW1 b2 sW1
  by_cases c1 : a.t = b.t
  case neg =>
    have d1 : (a.t == b.t) = false := by simpa using c1
    have n1 : (a.t != b.t) = true := by simp [bne, d1]
    by_cases c2 : a.t < b.t
    · have HV : Hid (lessK a b = true) := Lib.hid (by rw [HC.out]; unfold cmpI; rw [if_pos c2]; rfl)
      clear HC c1
      go_enter Try.func24, Try.ntmps24
      go_wp2
      go_ret
      exact ⟨ret_bool (by rw [HV.out]; try (simp <;> omega)), B2.out⟩
    · have HV : Hid (lessK a b = false) := Lib.hid (by rw [HC.out]; unfold cmpI; rw [if_neg c2, if_pos (by omega : b.t < a.t)]; rfl)
      clear HC c1
      go_enter Try.func24, Try.ntmps24
      go_wp2
      go_ret
      exact ⟨ret_bool (by rw [HV.out]; try (simp <;> omega)), B2.out⟩
  have d1 : (a.t == b.t) = true := by simpa using c1
  have n1 : (a.t != b.t) = false := by simp [bne, d1]
  have HC1 : Hid (lessK a b = decide (fstn [cmpI a.i b.i, cmpI a.v b.v] < 0)) := Lib.hid (by rw [HC.out, c1, cmpI_self]; rfl)
  clear HC c1
  by_cases c2 : a.i < b.i
  · have HV : Hid (lessK a b = true) := Lib.hid (by rw [HC1.out]; unfold cmpI; rw [if_pos c2]; rfl)
    clear HC1
    go_enter Try.func24, Try.ntmps24
    go_wp2
    go_ret
    exact ⟨ret_bool (by rw [HV.out]; try (simp <;> omega)), B2.out⟩
  by_cases c3 : a.i = b.i
  case neg =>
    have d3 : (a.i == b.i) = false := by simpa using c3
    have n3 : (a.i != b.i) = true := by simp [bne, d3]
    have HV : Hid (lessK a b = false) := Lib.hid (by rw [HC1.out]; unfold cmpI; rw [if_neg c2, if_pos (by omega : b.i < a.i)]; rfl)
    clear HC1 c3
    go_enter Try.func24, Try.ntmps24
    go_wp2
    go_ret
    exact ⟨ret_bool (by rw [HV.out]; try (simp <;> omega)), B2.out⟩
  have d3 : (a.i == b.i) = true := by simpa using c3
  have n3 : (a.i != b.i) = false := by simp [bne, d3]
  have HC2 : Hid (lessK a b = decide (fstn [cmpI a.v b.v] < 0)) := Lib.hid (by rw [HC1.out, c3, cmpI_self]; rfl)
  clear HC1 c3
  by_cases c4 : a.v < b.v
  · have HV : Hid (lessK a b = true) := Lib.hid (by rw [HC2.out]; unfold cmpI; rw [if_pos c4]; rfl)
    clear HC2
    go_enter Try.func24, Try.ntmps24
    go_wp2
    go_ret
    exact ⟨ret_bool (by rw [HV.out]; try (simp <;> omega)), B2.out⟩
  have HV : Hid (lessK a b = false) := Lib.hid (by
    rw [HC2.out]
    unfold cmpI
    rw [if_neg c4]
    split <;> rfl)
  clear HC2
  go_enter Try.func24, Try.ntmps24
  go_wp2
  go_ret
  exact ⟨ret_bool (by rw [HV.out]; try (simp <;> omega)), B2.out⟩
end Go.Proofs.Ytodnhihpefhcdaa
