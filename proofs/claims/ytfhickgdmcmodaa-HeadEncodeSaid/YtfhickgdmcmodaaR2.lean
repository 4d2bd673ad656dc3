/-
  Arrays of eight bytes compared; contracts of Accept and of the reference's May, Same and Accept, and of plain. No statement is proved here; no conditions.
-/
import Derived.Test.YtfhickgdmcmodaaR1
import Derived.ChangeKeysEq
namespace Go.Proofs.Ytfhickgdmcmodaa
open Go.RowKit Go.Joins

theorem eq8_int (x y : Int) (w : World) : (Op.equalIn 9999 5 (.int .u8 x) (.int .u8 y)).run Try.prog w = .ok (x == y) w := by
  exact run_equalIn_int (P := Try.prog) w 9998 5 .u8 .u8 x y (by kernel_rfl)
theorem eq8 (a0 a1 a2 a3 a4 a5 a6 a7 y0 y1 y2 y3 y4 y5 y6 y7 : Int) (w : World) : (Op.equalIn 10000 23 (.agg #[.int .u8 a0, .int .u8 a1, .int .u8 a2, .int .u8 a3, .int .u8 a4, .int .u8 a5, .int .u8 a6, .int .u8 a7]) (.agg #[.int .u8 y0, .int .u8 y1, .int .u8 y2, .int .u8 y3, .int .u8 y4, .int .u8 y5, .int .u8 y6, .int .u8 y7])).run Try.prog w = .ok (decide ([a0, a1, a2, a3, a4, a5, a6, a7] = [y0, y1, y2, y3, y4, y5, y6, y7])) w := by
  obtain ⟨i, hi, _, hs, _⟩ := info_of info5
  have hc : Try.prog.cellsOf 5 = 1 := by kernel_rfl
  rw [run_equalIn_array w 9999 (n := 8) (e := 5) _ _ (by kernel_rfl) hi, hc]
  have pk : Try.prog.plainKey 5 = true := by kernel_rfl
  have q : ∀ (l : List Int) (k : Nat) (x : Int), l[k]? = some x → (part 5 (l.map (Value.int .u8)).toArray k).run Try.prog w = .ok (.int .u8 x) w := fun l k x h => run_part_plain (P := Try.prog) w pk (by simp [h])
  have qa := q [a0, a1, a2, a3, a4, a5, a6, a7]
  have qb := q [y0, y1, y2, y3, y4, y5, y6, y7]
  simp only [List.map_cons, List.map_nil] at qa qb
  have qa0 := qa 0 a0 rfl
  have qb0 := qb 0 y0 rfl
  have qa1 := qa 1 a1 rfl
  have qb1 := qb 1 y1 rfl
  have qa2 := qa 2 a2 rfl
  have qb2 := qb 2 y2 rfl
  have qa3 := qa 3 a3 rfl
  have qb3 := qb 3 y3 rfl
  have qa4 := qa 4 a4 rfl
  have qb4 := qb 4 y4 rfl
  have qa5 := qa 5 a5 rfl
  have qb5 := qb 5 y5 rfl
  have qa6 := qa 6 a6 rfl
  have qb6 := qb 6 y6 rfl
  have qa7 := qa 7 a7 rfl
  have qb7 := qb 7 y7 rfl
  clear qa qb q
  simp only [show List.range 8 = [0, 1, 2, 3, 4, 5, 6, 7] from rfl, Op.eqItems, Sem.run_bind, Nat.mul_one, qa0, qb0, Result.andThen_ok, eq8_int]
  by_cases h0 : a0 = y0
  case neg => simp [h0]
  subst h0
  simp only [beq_self_eq_true, Bool.not_true, Bool.false_eq_true, if_false]
  try simp only [Sem.run_bind, qa1, qb1, Result.andThen_ok, eq8_int]
  by_cases h1 : a1 = y1
  case neg => simp [h1]
  subst h1
  simp only [beq_self_eq_true, Bool.not_true, Bool.false_eq_true, if_false]
  try simp only [Sem.run_bind, qa2, qb2, Result.andThen_ok, eq8_int]
  by_cases h2 : a2 = y2
  case neg => simp [h2]
  subst h2
  simp only [beq_self_eq_true, Bool.not_true, Bool.false_eq_true, if_false]
  try simp only [Sem.run_bind, qa3, qb3, Result.andThen_ok, eq8_int]
  by_cases h3 : a3 = y3
  case neg => simp [h3]
  subst h3
  simp only [beq_self_eq_true, Bool.not_true, Bool.false_eq_true, if_false]
  try simp only [Sem.run_bind, qa4, qb4, Result.andThen_ok, eq8_int]
  by_cases h4 : a4 = y4
  case neg => simp [h4]
  subst h4
  simp only [beq_self_eq_true, Bool.not_true, Bool.false_eq_true, if_false]
  try simp only [Sem.run_bind, qa5, qb5, Result.andThen_ok, eq8_int]
  by_cases h5 : a5 = y5
  case neg => simp [h5]
  subst h5
  simp only [beq_self_eq_true, Bool.not_true, Bool.false_eq_true, if_false]
  try simp only [Sem.run_bind, qa6, qb6, Result.andThen_ok, eq8_int]
  by_cases h6 : a6 = y6
  case neg => simp [h6]
  subst h6
  simp only [beq_self_eq_true, Bool.not_true, Bool.false_eq_true, if_false]
  try simp only [Sem.run_bind, qa7, qb7, Result.andThen_ok, eq8_int]
  by_cases h7 : a7 = y7
  case neg => simp [h7]
  subst h7
  simp only [beq_self_eq_true, Bool.not_true, Bool.false_eq_true, if_false]
  try simp only [Sem.run_bind, qa7, qb7, Result.andThen_ok, eq8_int]
  simp
/-! ### May of the reference -/
set_option maxRecDepth 100000 in
theorem rmay_any (p : Pk) (A : Option Addr) (c : Nat) (w : World) :
    Calls Try.prog 12 #[pv' p A c] w fun e w' => e = .returned (.bool (mayp p)) ∧ Below w.heap.size w w' := by
  obtain ⟨n, hn⟩ : ∃ n, p.b.length = n := ⟨_, rfl⟩
  have HM : Hid (mayp p = (mayT p.t && (decide (0 ≤ p.u) && decide (p.u ≤ 1)) && decide (n ≤ 1476))) := Lib.hid (by rw [← hn]; rfl)
  unfold pv'
  rw [hn]
  clear hn
  obtain ⟨W0, hW0⟩ : ∃ W0, w.alloc (.cells #[.int .i64 p.t, .int .u32 p.r, .int .u32 p.a, .int .i64 p.u, .int .u8 p.h0, .int .u8 p.h1, .int .u8 p.h2, .int .u8 p.h3, .int .u8 p.h4, .int .u8 p.h5, .int .u8 p.h6, .int .u8 p.h7, .slice A n c] 32) = W0 := ⟨_, rfl⟩
  have b0 : Below w.heap.size w W0 := by rw [← hW0]; exact below_alloc1 _ _
  have s0 : W0.heap.size = w.heap.size + 1 := by rw [← hW0]; simp
  have KX : Hid (∀ V, Below W0.heap.size W0 V → V.cell? ⟨w.heap.size, 0, none⟩ = some (.int .i64 p.t) ∧ V.cell? ⟨w.heap.size, 1, none⟩ = some (.int .u32 p.r) ∧ V.cell? ⟨w.heap.size, 2, none⟩ = some (.int .u32 p.a) ∧ V.cell? ⟨w.heap.size, 3, none⟩ = some (.int .i64 p.u) ∧ V.cell? ⟨w.heap.size, 4, none⟩ = some (.int .u8 p.h0) ∧ V.cell? ⟨w.heap.size, 5, none⟩ = some (.int .u8 p.h1) ∧ V.cell? ⟨w.heap.size, 6, none⟩ = some (.int .u8 p.h2) ∧ V.cell? ⟨w.heap.size, 7, none⟩ = some (.int .u8 p.h3) ∧ V.cell? ⟨w.heap.size, 8, none⟩ = some (.int .u8 p.h4) ∧ V.cell? ⟨w.heap.size, 9, none⟩ = some (.int .u8 p.h5) ∧ V.cell? ⟨w.heap.size, 10, none⟩ = some (.int .u8 p.h6) ∧ V.cell? ⟨w.heap.size, 11, none⟩ = some (.int .u8 p.h7) ∧ V.cell? ⟨w.heap.size, 12, none⟩ = some (.slice A n c)) := Lib.hid (fun V hV => kb_new hW0 hV)
  obtain ⟨k0, k1, k2, k3, k4, k5, k6, k7, k8, k9, k10, k11, k12⟩ := KX.out _ (Below.refl _ _)
  clear KX
  by_cases h1 : 1 ≤ p.t
  case neg =>
    have g1 : ¬ (p.t ≥ 1) := h1
    go_enter Try.func12, Try.ntmps12
    go_wp2
    go_ret
    exact ⟨ret_bool (by rw [HM.out]; (simp [mayT] <;> omega)), b0⟩
  have g1 : p.t ≥ 1 := h1
  by_cases h2 : p.t ≤ 5
  case neg =>
    go_enter Try.func12, Try.ntmps12
    go_wp2
    go_ret
    exact ⟨ret_bool (by rw [HM.out]; (simp [mayT] <;> omega)), b0⟩
  by_cases h3 : 0 ≤ p.u
  case neg =>
    have g3 : ¬ (p.u ≥ 0) := h3
    go_enter Try.func12, Try.ntmps12
    go_wp2
    go_ret
    exact ⟨ret_bool (by rw [HM.out]; (simp [mayT] <;> omega)), b0⟩
  have g3 : p.u ≥ 0 := h3
  by_cases h4 : p.u ≤ 1
  case neg =>
    go_enter Try.func12, Try.ntmps12
    go_wp2
    go_ret
    exact ⟨ret_bool (by rw [HM.out]; (simp [mayT] <;> omega)), b0⟩
  by_cases h5 : n ≤ 1476
  case neg =>
    have g5 : ¬ ((n : Int) ≤ 1476) := by omega
    go_enter Try.func12, Try.ntmps12
    go_wp2
    go_ret
    exact ⟨ret_bool (by rw [HM.out]; simp [h5]), b0⟩
  have g5 : (n : Int) ≤ 1476 := by omega
  go_enter Try.func12, Try.ntmps12
  go_wp2
  go_ret
  exact ⟨ret_bool (by rw [HM.out]; simp [mayT, h1, h2, h3, h4, h5]), b0⟩
/-! ### Accept -/
def acc (p : Pk) (g v : Int) (h : List Int) : Int := if p.a ≠ g then 9 else if p.u ≠ v ∨ (p.u = 1 ∧ au p ≠ h) then 11 else 0
set_option maxRecDepth 100000 in
theorem accept_any (p : Pk) (A : Option Addr) (c : Nat) (g v y0 y1 y2 y3 y4 y5 y6 y7 : Int) (w : World) :
    Calls Try.prog 16 #[pv' p A c, .int .u32 g, .int .i64 v, .agg #[.int .u8 y0, .int .u8 y1, .int .u8 y2, .int .u8 y3, .int .u8 y4, .int .u8 y5, .int .u8 y6, .int .u8 y7]] w fun e w' => e = .returned (.int .i64 (acc p g v [y0, y1, y2, y3, y4, y5, y6, y7])) ∧ Below w.heap.size w w' := by
  obtain ⟨n, hn⟩ : ∃ n, p.b.length = n := ⟨_, rfl⟩
  unfold pv'
  rw [hn]
  clear hn
  obtain ⟨W0, hW0⟩ : ∃ W0, w.alloc (.cells #[.int .i64 p.t, .int .u32 p.r, .int .u32 p.a, .int .i64 p.u, .int .u8 p.h0, .int .u8 p.h1, .int .u8 p.h2, .int .u8 p.h3, .int .u8 p.h4, .int .u8 p.h5, .int .u8 p.h6, .int .u8 p.h7, .slice A n c] 26) = W0 := ⟨_, rfl⟩
  have b0 : Below w.heap.size w W0 := by rw [← hW0]; exact below_alloc1 _ _
  have s0 : W0.heap.size = w.heap.size + 1 := by rw [← hW0]; simp
  have KX : Hid (∀ V, Below W0.heap.size W0 V → V.cell? ⟨w.heap.size, 0, none⟩ = some (.int .i64 p.t) ∧ V.cell? ⟨w.heap.size, 1, none⟩ = some (.int .u32 p.r) ∧ V.cell? ⟨w.heap.size, 2, none⟩ = some (.int .u32 p.a) ∧ V.cell? ⟨w.heap.size, 3, none⟩ = some (.int .i64 p.u) ∧ V.cell? ⟨w.heap.size, 4, none⟩ = some (.int .u8 p.h0) ∧ V.cell? ⟨w.heap.size, 5, none⟩ = some (.int .u8 p.h1) ∧ V.cell? ⟨w.heap.size, 6, none⟩ = some (.int .u8 p.h2) ∧ V.cell? ⟨w.heap.size, 7, none⟩ = some (.int .u8 p.h3) ∧ V.cell? ⟨w.heap.size, 8, none⟩ = some (.int .u8 p.h4) ∧ V.cell? ⟨w.heap.size, 9, none⟩ = some (.int .u8 p.h5) ∧ V.cell? ⟨w.heap.size, 10, none⟩ = some (.int .u8 p.h6) ∧ V.cell? ⟨w.heap.size, 11, none⟩ = some (.int .u8 p.h7) ∧ V.cell? ⟨w.heap.size, 12, none⟩ = some (.slice A n c)) := Lib.hid (fun V hV => kb_new hW0 hV)
  obtain ⟨W1, hW1⟩ : ∃ V, W0.alloc (.cells #[.int .u8 y0, .int .u8 y1, .int .u8 y2, .int .u8 y3, .int .u8 y4, .int .u8 y5, .int .u8 y6, .int .u8 y7] 23) = V := ⟨_, rfl⟩
  have b1 : Below W0.heap.size W0 W1 := by rw [← hW1]; exact below_alloc1 _ _
  have b2 : Below w.heap.size w W1 := b0.trans (b1.mono b0.size)
  obtain ⟨k0, k1, k2, k3, k4, k5, k6, k7, k8, k9, k10, k11, k12⟩ := KX.out _ b1
  have kb : W1.heap[w.heap.size + 1]? = some (.cells #[.int .u8 y0, .int .u8 y1, .int .u8 y2, .int .u8 y3, .int .u8 y4, .int .u8 y5, .int .u8 y6, .int .u8 y7] 23) := by rw [← hW1]; exact alloc_at _ _ _ s0.symm
  have j0 : W1.cell? ⟨w.heap.size + 1, 0, none⟩ = some (.int .u8 y0) := (cell_of_block kb 0).trans rfl
  have j1 : W1.cell? ⟨w.heap.size + 1, 1, none⟩ = some (.int .u8 y1) := (cell_of_block kb 1).trans rfl
  have j2 : W1.cell? ⟨w.heap.size + 1, 2, none⟩ = some (.int .u8 y2) := (cell_of_block kb 2).trans rfl
  have j3 : W1.cell? ⟨w.heap.size + 1, 3, none⟩ = some (.int .u8 y3) := (cell_of_block kb 3).trans rfl
  have j4 : W1.cell? ⟨w.heap.size + 1, 4, none⟩ = some (.int .u8 y4) := (cell_of_block kb 4).trans rfl
  have j5 : W1.cell? ⟨w.heap.size + 1, 5, none⟩ = some (.int .u8 y5) := (cell_of_block kb 5).trans rfl
  have j6 : W1.cell? ⟨w.heap.size + 1, 6, none⟩ = some (.int .u8 y6) := (cell_of_block kb 6).trans rfl
  have j7 : W1.cell? ⟨w.heap.size + 1, 7, none⟩ = some (.int .u8 y7) := (cell_of_block kb 7).trans rfl
  have e8 := fun V => eq8 p.h0 p.h1 p.h2 p.h3 p.h4 p.h5 p.h6 p.h7 y0 y1 y2 y3 y4 y5 y6 y7 V
  obtain ⟨D, hD⟩ : ∃ D, decide (au p = [y0, y1, y2, y3, y4, y5, y6, y7]) = D := ⟨_, rfl⟩
  have HD : Hid (decide (au p = [y0, y1, y2, y3, y4, y5, y6, y7]) = D) := Lib.hid hD
  rw [hD] at e8
  clear hD kb KX b0 b1
  by_cases c1 : p.a = g
  case neg =>
    have c2 : (p.a == g) = false := by simpa using c1
    have e : acc p g v [y0, y1, y2, y3, y4, y5, y6, y7] = 9 := by simp [acc, c1]
    rw [e]
    clear e e8
    go_enter Try.func16, Try.ntmps16
    go_wp2
    go_ret
    exact ⟨rfl, b2⟩
  by_cases c3 : p.u = v
  case neg =>
    have c4 : (p.u == v) = false := by simpa using c3
    have e : acc p g v [y0, y1, y2, y3, y4, y5, y6, y7] = 11 := by simp [acc, c1, c3]
    rw [e]
    subst c1
    clear e e8
    go_enter Try.func16, Try.ntmps16
    go_wp2
    go_ret
    exact ⟨rfl, b2⟩
  by_cases c5 : p.u = 1
  case neg =>
    have c6 : (p.u == 1) = false := by simpa using c5
    have e : acc p g v [y0, y1, y2, y3, y4, y5, y6, y7] = 0 := by simp [acc, c1, c3, show ¬ v = 1 by omega]
    rw [e]
    subst c1
    subst c3
    clear e e8
    go_enter Try.func16, Try.ntmps16
    go_wp2
    go_ret
    exact ⟨rfl, b2⟩
  have c6 : (p.u == 1) = true := by simpa using c5
  cases D
  · have e : acc p g v [y0, y1, y2, y3, y4, y5, y6, y7] = 11 := by
      have := of_decide_eq_false HD.out
      unfold acc
      rw [if_neg (by simpa using c1), if_pos (.inr ⟨c5, this⟩)]
    rw [e]
    subst c1
    subst c3
    clear e c5
    go_enter Try.func16, Try.ntmps16
    go_wp2
    go_ret
    exact ⟨rfl, b2⟩
  · have e : acc p g v [y0, y1, y2, y3, y4, y5, y6, y7] = 0 := by
      have := of_decide_eq_true HD.out
      unfold acc
      rw [if_neg (by simpa using c1), if_neg (by rintro (h | h); exact h c3; exact h.2 this)]
    rw [e]
    subst c1
    subst c3
    clear e c5
    go_enter Try.func16, Try.ntmps16
    go_wp2
    go_ret
    exact ⟨rfl, b2⟩
set_option maxRecDepth 100000 in
theorem raccept_any (p : Pk) (A : Option Addr) (c : Nat) (g v y0 y1 y2 y3 y4 y5 y6 y7 : Int) (w : World) :
    Calls Try.prog 17 #[pv' p A c, .int .u32 g, .int .i64 v, .agg #[.int .u8 y0, .int .u8 y1, .int .u8 y2, .int .u8 y3, .int .u8 y4, .int .u8 y5, .int .u8 y6, .int .u8 y7]] w fun e w' => e = .returned (.int .i64 (acc p g v [y0, y1, y2, y3, y4, y5, y6, y7])) ∧ Below w.heap.size w w' := by
  obtain ⟨n, hn⟩ : ∃ n, p.b.length = n := ⟨_, rfl⟩
  unfold pv'
  rw [hn]
  clear hn
  obtain ⟨W0, hW0⟩ : ∃ W0, w.alloc (.cells #[.int .i64 p.t, .int .u32 p.r, .int .u32 p.a, .int .i64 p.u, .int .u8 p.h0, .int .u8 p.h1, .int .u8 p.h2, .int .u8 p.h3, .int .u8 p.h4, .int .u8 p.h5, .int .u8 p.h6, .int .u8 p.h7, .slice A n c] 32) = W0 := ⟨_, rfl⟩
  have b0 : Below w.heap.size w W0 := by rw [← hW0]; exact below_alloc1 _ _
  have s0 : W0.heap.size = w.heap.size + 1 := by rw [← hW0]; simp
  have KX : Hid (∀ V, Below W0.heap.size W0 V → V.cell? ⟨w.heap.size, 0, none⟩ = some (.int .i64 p.t) ∧ V.cell? ⟨w.heap.size, 1, none⟩ = some (.int .u32 p.r) ∧ V.cell? ⟨w.heap.size, 2, none⟩ = some (.int .u32 p.a) ∧ V.cell? ⟨w.heap.size, 3, none⟩ = some (.int .i64 p.u) ∧ V.cell? ⟨w.heap.size, 4, none⟩ = some (.int .u8 p.h0) ∧ V.cell? ⟨w.heap.size, 5, none⟩ = some (.int .u8 p.h1) ∧ V.cell? ⟨w.heap.size, 6, none⟩ = some (.int .u8 p.h2) ∧ V.cell? ⟨w.heap.size, 7, none⟩ = some (.int .u8 p.h3) ∧ V.cell? ⟨w.heap.size, 8, none⟩ = some (.int .u8 p.h4) ∧ V.cell? ⟨w.heap.size, 9, none⟩ = some (.int .u8 p.h5) ∧ V.cell? ⟨w.heap.size, 10, none⟩ = some (.int .u8 p.h6) ∧ V.cell? ⟨w.heap.size, 11, none⟩ = some (.int .u8 p.h7) ∧ V.cell? ⟨w.heap.size, 12, none⟩ = some (.slice A n c)) := Lib.hid (fun V hV => kb_new hW0 hV)
  obtain ⟨W1, hW1⟩ : ∃ V, W0.alloc (.cells #[.int .u8 y0, .int .u8 y1, .int .u8 y2, .int .u8 y3, .int .u8 y4, .int .u8 y5, .int .u8 y6, .int .u8 y7] 23) = V := ⟨_, rfl⟩
  have b1 : Below W0.heap.size W0 W1 := by rw [← hW1]; exact below_alloc1 _ _
  have b2 : Below w.heap.size w W1 := b0.trans (b1.mono b0.size)
  obtain ⟨k0, k1, k2, k3, k4, k5, k6, k7, k8, k9, k10, k11, k12⟩ := KX.out _ b1
  have kb : W1.heap[w.heap.size + 1]? = some (.cells #[.int .u8 y0, .int .u8 y1, .int .u8 y2, .int .u8 y3, .int .u8 y4, .int .u8 y5, .int .u8 y6, .int .u8 y7] 23) := by rw [← hW1]; exact alloc_at _ _ _ s0.symm
  have j0 : W1.cell? ⟨w.heap.size + 1, 0, none⟩ = some (.int .u8 y0) := (cell_of_block kb 0).trans rfl
  have j1 : W1.cell? ⟨w.heap.size + 1, 1, none⟩ = some (.int .u8 y1) := (cell_of_block kb 1).trans rfl
  have j2 : W1.cell? ⟨w.heap.size + 1, 2, none⟩ = some (.int .u8 y2) := (cell_of_block kb 2).trans rfl
  have j3 : W1.cell? ⟨w.heap.size + 1, 3, none⟩ = some (.int .u8 y3) := (cell_of_block kb 3).trans rfl
  have j4 : W1.cell? ⟨w.heap.size + 1, 4, none⟩ = some (.int .u8 y4) := (cell_of_block kb 4).trans rfl
  have j5 : W1.cell? ⟨w.heap.size + 1, 5, none⟩ = some (.int .u8 y5) := (cell_of_block kb 5).trans rfl
  have j6 : W1.cell? ⟨w.heap.size + 1, 6, none⟩ = some (.int .u8 y6) := (cell_of_block kb 6).trans rfl
  have j7 : W1.cell? ⟨w.heap.size + 1, 7, none⟩ = some (.int .u8 y7) := (cell_of_block kb 7).trans rfl
  have e8 := fun V => eq8 p.h0 p.h1 p.h2 p.h3 p.h4 p.h5 p.h6 p.h7 y0 y1 y2 y3 y4 y5 y6 y7 V
  obtain ⟨D, hD⟩ : ∃ D, decide (au p = [y0, y1, y2, y3, y4, y5, y6, y7]) = D := ⟨_, rfl⟩
  have HD : Hid (decide (au p = [y0, y1, y2, y3, y4, y5, y6, y7]) = D) := Lib.hid hD
  rw [hD] at e8
  clear hD kb KX b0 b1
  by_cases c1 : p.a = g
  case neg =>
    have c2 : (p.a == g) = false := by simpa using c1
    have e : acc p g v [y0, y1, y2, y3, y4, y5, y6, y7] = 9 := by simp [acc, c1]
    rw [e]
    clear e e8
    go_enter Try.func17, Try.ntmps17
    go_wp2
    go_ret
    exact ⟨rfl, b2⟩
  by_cases c3 : p.u = v
  case neg =>
    have c4 : (p.u == v) = false := by simpa using c3
    have e : acc p g v [y0, y1, y2, y3, y4, y5, y6, y7] = 11 := by simp [acc, c1, c3]
    rw [e]
    subst c1
    clear e e8
    go_enter Try.func17, Try.ntmps17
    go_wp2
    go_ret
    exact ⟨rfl, b2⟩
  by_cases c5 : p.u = 1
  case neg =>
    have c6 : (p.u == 1) = false := by simpa using c5
    have e : acc p g v [y0, y1, y2, y3, y4, y5, y6, y7] = 0 := by simp [acc, c1, c3, show ¬ v = 1 by omega]
    rw [e]
    subst c1
    subst c3
    clear e e8
    go_enter Try.func17, Try.ntmps17
    go_wp2
    go_ret
    exact ⟨rfl, b2⟩
  have c6 : (p.u == 1) = true := by simpa using c5
  cases D
  · have e : acc p g v [y0, y1, y2, y3, y4, y5, y6, y7] = 11 := by
      have := of_decide_eq_false HD.out
      unfold acc
      rw [if_neg (by simpa using c1), if_pos (.inr ⟨c5, this⟩)]
    rw [e]
    subst c1
    subst c3
    clear e c5
    go_enter Try.func17, Try.ntmps17
    go_wp2
    go_ret
    exact ⟨rfl, b2⟩
  · have e : acc p g v [y0, y1, y2, y3, y4, y5, y6, y7] = 0 := by
      have := of_decide_eq_true HD.out
      unfold acc
      rw [if_neg (by simpa using c1), if_neg (by rintro (h | h); exact h c3; exact h.2 this)]
    rw [e]
    subst c1
    subst c3
    clear e c5
    go_enter Try.func17, Try.ntmps17
    go_wp2
    go_ret
    exact ⟨rfl, b2⟩
/-! ### Same, plain -/
set_option maxRecDepth 100000 in
theorem same_any (p : Pk) (A A' : Option Addr) (c c' : Nat) (w : World) (h : Bt w A p.b) (h' : Bt w A' p.b) :
    Calls Try.prog 15 #[pv' p A c, pv' p A' c'] w fun e w' => e = .returned (.bool true) ∧ Below w.heap.size w w' := by
  obtain ⟨n, hn⟩ : ∃ n, p.b.length = n := ⟨_, rfl⟩
  unfold pv'
  rw [hn]
  obtain ⟨W0, hW0⟩ : ∃ V, w.alloc (.cells #[.int .i64 p.t, .int .u32 p.r, .int .u32 p.a, .int .i64 p.u, .int .u8 p.h0, .int .u8 p.h1, .int .u8 p.h2, .int .u8 p.h3, .int .u8 p.h4, .int .u8 p.h5, .int .u8 p.h6, .int .u8 p.h7, .slice A n c] 32) = V := ⟨_, rfl⟩
  have b0 : Below w.heap.size w W0 := by rw [← hW0]; exact below_alloc1 _ _
  have s0 : W0.heap.size = w.heap.size + 1 := by rw [← hW0]; simp
  obtain ⟨W1, hW1⟩ : ∃ V, W0.alloc (.cells #[.int .i64 p.t, .int .u32 p.r, .int .u32 p.a, .int .i64 p.u, .int .u8 p.h0, .int .u8 p.h1, .int .u8 p.h2, .int .u8 p.h3, .int .u8 p.h4, .int .u8 p.h5, .int .u8 p.h6, .int .u8 p.h7, .slice A' n c'] 32) = V := ⟨_, rfl⟩
  have b1 : Below W0.heap.size W0 W1 := by rw [← hW1]; exact below_alloc1 _ _
  have s1 : W1.heap.size = w.heap.size + 2 := by rw [← hW1]; simp [s0]
  have b2 : Below w.heap.size w W1 := b0.trans (b1.mono b0.size)
  obtain ⟨k0, k1, k2, k3, k4, k5, k6, k7, k8, k9, k10, k11, k12⟩ := kb_new hW0 b1
  have kj := kb_new hW1 (Below.refl _ _)
  rw [s0] at kj
  obtain ⟨j0, j1, j2, j3, j4, j5, j6, j7, j8, j9, j10, j11, j12⟩ := kj
  have r1 : (convert 24 9 (.slice A n c)).run Try.prog W1 = .ok (.string (strOfNums p.b)) W1 := by rw [← hn]; exact run_str W1 24 5 9 Try.underlying24 Try.underlying5 Try.underlying9 _ A c p.b (h.step b2)
  have r2 : (convert 24 9 (.slice A' n c')).run Try.prog W1 = .ok (.string (strOfNums p.b)) W1 := by rw [← hn]; exact run_str W1 24 5 9 Try.underlying24 Try.underlying5 Try.underlying9 _ A' c' p.b (h'.step b2)
  have e8 := fun V => eq8 p.h0 p.h1 p.h2 p.h3 p.h4 p.h5 p.h6 p.h7 p.h0 p.h1 p.h2 p.h3 p.h4 p.h5 p.h6 p.h7 V
  rw [decide_eq_true rfl] at e8
  clear hn h h' b0 b1
  go_enter Try.func15, Try.ntmps15
  go_wp2
  go_ret
  exact ⟨rfl, b2⟩
theorem plain_any (p : Pk) (A : Option Addr) (c : Nat) (w : World) : Calls Try.prog 10 #[pv' p A c] w fun e w' => e = .returned (pv' p A c) ∧ Below w.heap.size w w' := by
  have hb := below_alloc2 w (.cells #[.int .i64 p.t, .int .u32 p.r, .int .u32 p.a, .int .i64 p.u, .int .u8 p.h0, .int .u8 p.h1, .int .u8 p.h2, .int .u8 p.h3, .int .u8 p.h4, .int .u8 p.h5, .int .u8 p.h6, .int .u8 p.h7, .slice A p.b.length c] 26) (.cells #[.int .i64 p.t, .int .u32 p.r, .int .u32 p.a, .int .i64 p.u, .int .u8 p.h0, .int .u8 p.h1, .int .u8 p.h2, .int .u8 p.h3, .int .u8 p.h4, .int .u8 p.h5, .int .u8 p.h6, .int .u8 p.h7, .slice A p.b.length c] 32)
  go_enter Try.func10, Try.ntmps10
  go_wp2
  refine bodyPost_ret (v := pv' p A c) (by simp [results, Try.results10, go_sem]) rfl ⟨rfl, ?_⟩
  exact hb
end Go.Proofs.Ytfhickgdmcmodaa
