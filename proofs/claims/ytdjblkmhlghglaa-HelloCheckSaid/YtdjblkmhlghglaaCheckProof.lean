/-
  Proved: for every input the law HelloCheck returns true and leaves its arguments as they were (the given statement HelloCheckSaid). No conditions.
-/
import Derived.Test.YtdjblkmhlghglaaFrame
import Derived.Test.YtdjblkmhlghglaaLwC
namespace Go.Proofs.Ytdjblkmhlghglaa.helloCheck
open Go.ChangeShapes Go.WideShapes Go.ChangeAt Go.RowKit Go.Deep

set_option maxRecDepth 100000 in
theorem lifted (os : Os) (started : os.Started) (H : Type) (enc : TypeId × Value → H) :
    ReturnsInHanded {} Try.checked os 5 .any (Rows.helloCheckSpec.pre6 enc Try.prog Try.f5 Rows.helloCheckRow.domain false) (Rows.helloCheckSpec.post enc Try.prog Try.f5 false true false false) := by
  refine returnsInHanded_of_change (C := Try.checked) own started (by kernel_rfl) Try.func5
    (ChangeSpec.witness6 (enc := enc) (C := Try.checked) false ⟨#[], #[.agg #[.int .u32 0, .int .i64 0, .int .i64 0, .int .u32 0, .int .u32 0, .bool false], .agg #[.int .u32 0, .int .i64 0, .int .i64 0, .int .i64 0, .int .u32 0, .int .u32 0, .int .u32 0, .slice none 0 0]], []⟩ 8 (by kernel_rfl) (by kernel_rfl) (by kernel_rfl) (by kernel_rfl)) ?_
  intro W base args ds gs before hval0 hW hcnd _
  have hval : ∀ (j : Nat) t v, Try.f5.params[j]? = some t → args[j]? = some v → Value.okWide Try.prog W .any base t v := hval0
  have hW' := hW
  obtain ⟨p, q, hA0, hV, rfl, hfz, hnd⟩ := hW
  have hA : DataW.TrodAll enc Try.prog W 0 (fun _ => true) true Try.f5.params.toList args.toList ds p := hA0
  rw [Try.params5] at hA hval
  obtain ⟨v0, vs0, d0, ds0, p0, q0, hargs, rfl, rfl, h0, r0⟩ := trodAll_cons hA
  obtain ⟨v1, vs1, d1, ds1, p1, q1, rfl, rfl, rfl, h1, r1⟩ := trodAll_cons r0
  obtain ⟨rfl, rfl, rfl⟩ := trodAll_nil r1
  obtain rfl : args = #[v0, v1] := by cases args; simp_all
  obtain ⟨rfl, rfl⟩ := trodVars_none hV
  have k0 := h0
  have lt0 : ∀ x ∈ p0, x.block < W.heap.size := by obtain ⟨m, hm⟩ := k0; exact DataW.trod_lt m _ _ _ hm
  obtain ⟨x0, rfl, im0, id0⟩ : ∃ (p : If), v0 = .agg #[.int .u32 p.m, .int .i64 p.i, .int .i64 p.o, .int .u32 p.d, .int .u32 p.r, .bool p.pp] ∧ (0 ≤ p.m ∧ p.m < 4294967296) ∧ (0 ≤ p.d ∧ p.d < 4294967296) := by
    obtain ⟨cs, rfl, -⟩ := okWide_struct Try.underlying43 (hval 0 43 v0 rfl rfl)
    obtain ⟨fuel, hf⟩ := h0
    obtain ⟨y, hy, hm, hd⟩ := if_of hf
    obtain ⟨cl⟩ := cs
    simp [Value.cells] at hy
    exact ⟨y, by rw [hy], hm, hd⟩
  have k1 := h1
  have lt1 : ∀ x ∈ p1, x.block < W.heap.size := by obtain ⟨m, hm⟩ := k1; exact DataW.trod_lt m _ _ _ hm
  obtain ⟨x1, A1, C1, rfl, ok1, w1⟩ : ∃ (p : He) (A : Option Addr) (c : Nat), v1 = .agg #[.int .u32 p.m, .int .i64 p.i, .int .i64 p.o, .int .i64 p.p, .int .u32 p.d, .int .u32 p.r, .int .u32 p.b, .slice A p.s.length c] ∧ Okh p ∧ Wt W A p.s := by
    obtain ⟨cs, rfl, -⟩ := okWide_struct Try.underlying25 (hval 1 25 v1 rfl rfl)
    obtain ⟨fuel, hf⟩ := h1
    obtain ⟨y, A, c, hy, hok, hbt⟩ := he_of hf
    obtain ⟨cl⟩ := cs
    simp [Value.cells] at hy
    exact ⟨y, A, c, by rw [hy], hok, hbt⟩
  clear hA0 hval0
  refine (check_walk x0 x1 A1 _ C1 W rfl w1).mono fun e W' ⟨he, bel⟩ => ?_
  subst he
  exact ⟨_, rfl, _, _, _, [], _, [], hW', trodAll_mk1 (shut_bool Try.underlying4 _), (trodAll_cons_mk (Below.trod laidOut (by kernel_rfl) (of_decide_eq_true (by kernel_rfl)) k0 bel lt0) (trodAll_cons_mk (Below.trod laidOut (by kernel_rfl) (of_decide_eq_true (by kernel_rfl)) k1 bel lt1) trodAll_mk0)), rfl, bel.frame _, fun h => by cases h⟩

theorem over : Rows.helloCheckRow.holds Try.pinned (OpenSpec.ofChange Rows.helloCheckSpec) :=
  OpenClaim.holds_of_wide 5 Try.f5 rfl rfl rfl rfl rfl rfl rfl ⟨rfl, rfl, rfl, rfl, rfl⟩ rfl rfl rfl rfl rfl (by kernel_rfl) Try.func5 (by kernel_rfl)
    (of_decide_eq_true (by kernel_rfl)) (by unfold Func.isWrapper; first | (rw [if_pos (by decide +kernel)]; kernel_rfl) | (rw [if_neg (by decide +kernel)]; exact ⟨rfl, rfl⟩))
    (fun os started H enc _ => lifted os started H enc)

/-- THE STATEMENT. -/
theorem proved : Rows.HelloCheckSaid := over
#print axioms proved
end Go.Proofs.Ytdjblkmhlghglaa.helloCheck
