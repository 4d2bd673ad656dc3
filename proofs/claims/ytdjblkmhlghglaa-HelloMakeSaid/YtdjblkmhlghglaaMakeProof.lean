/-
  Proved: for every input the law HelloMake returns true and leaves its arguments as they were (the given statement HelloMakeSaid). No conditions.
-/
import Derived.Test.YtdjblkmhlghglaaFrame
import Derived.Test.YtdjblkmhlghglaaLwM
namespace Go.Proofs.Ytdjblkmhlghglaa.helloMake
open Go.ChangeShapes Go.WideShapes Go.ChangeAt Go.RowKit Go.Deep

set_option maxRecDepth 100000 in
theorem lifted (os : Os) (started : os.Started) (H : Type) (enc : TypeId × Value → H) :
    ReturnsInHanded {} Try.checked os 6 .any (Rows.helloMakeSpec.pre6 enc Try.prog Try.f6 Rows.helloMakeRow.domain false) (Rows.helloMakeSpec.post enc Try.prog Try.f6 false true false false) := by
  refine returnsInHanded_of_change (C := Try.checked) own started (by kernel_rfl) Try.func6
    (ChangeSpec.witness6 (enc := enc) (C := Try.checked) false ⟨#[], #[.agg #[.int .u32 0, .int .i64 0, .int .i64 0, .int .u32 0, .int .u32 0, .bool false], .agg #[.int .i64 0, .int .u32 0, .int .u32 0, .slice none 0 0]], []⟩ 8 (by kernel_rfl) (by kernel_rfl) (by kernel_rfl) (by kernel_rfl)) ?_
  intro W base args ds gs before hval0 hW hcnd _
  have hval : ∀ (j : Nat) t v, Try.f6.params[j]? = some t → args[j]? = some v → Value.okWide Try.prog W .any base t v := hval0
  have hW' := hW
  obtain ⟨p, q, hA0, hV, rfl, hfz, hnd⟩ := hW
  have hA : DataW.TrodAll enc Try.prog W 0 (fun _ => true) true Try.f6.params.toList args.toList ds p := hA0
  rw [Try.params6] at hA hval
  obtain ⟨v0, vs0, d0, ds0, p0, q0, hargs, rfl, rfl, h0, r0⟩ := trodAll_cons hA
  obtain ⟨v1, vs1, d1, ds1, p1, q1, rfl, rfl, rfl, h1, r1⟩ := trodAll_cons r0
  obtain ⟨rfl, rfl, rfl⟩ := trodAll_nil r1
  obtain rfl : args = #[v0, v1] := by cases args; simp_all
  obtain ⟨rfl, rfl⟩ := trodVars_none hV
  have k0 := h0
  have lt0 : ∀ x ∈ p0, x.block < W.heap.size := by obtain ⟨m, hm⟩ := k0; exact DataW.trod_lt m _ _ _ hm
  obtain ⟨x0, rfl, im0, id0⟩ : ∃ (p : If), v0 = .agg #[.int .u32 p.m, .int .i64 p.i, .int .i64 p.o, .int .u32 p.d, .int .u32 p.r, .bool p.pp] ∧ (0 ≤ p.m ∧ p.m < 4294967296) ∧ (0 ≤ p.d ∧ p.d < 4294967296) := by
    obtain ⟨cs, rfl, -⟩ := okWide_struct Try.underlying43 (hval 0 43 v0 rfl rfl)
    obtain ⟨fuel, hf⟩ := h0
    obtain ⟨y, hy, hm, hd⟩ := if_of hf
    obtain ⟨cl⟩ := cs
    simp [Value.cells] at hy
    exact ⟨y, by rw [hy], hm, hd⟩
  have k1 := h1
  have lt1 : ∀ x ∈ p1, x.block < W.heap.size := by obtain ⟨m, hm⟩ := k1; exact DataW.trod_lt m _ _ _ hm
  obtain ⟨y1, y2, y3, A1, C1, l1, rfl, oy1, oz1, ol1, w1⟩ : ∃ (x1 x2 x3 : Int) (A : Option Addr) (c : Nat) (l : List Int), v1 = .agg #[.int .i64 x1, .int .u32 x2, .int .u32 x3, .slice A l.length c] ∧ (0 ≤ x2 ∧ x2 < 4294967296) ∧ (0 ≤ x3 ∧ x3 < 4294967296) ∧ Wrd l ∧ Wt W A l := by
    obtain ⟨cs, rfl, -⟩ := okWide_struct Try.underlying51 (hval 1 51 v1 rfl rfl)
    obtain ⟨fuel, hf⟩ := h1
    obtain ⟨x1, x2, x3, A, c, l, hy, h2, h3, h4, h5⟩ := ot_of hf
    obtain ⟨cl⟩ := cs
    simp [Value.cells] at hy
    exact ⟨x1, x2, x3, A, c, l, by rw [hy], h2, h3, h4, h5⟩
  clear hA0 hval0
  refine (make_walk x0 y1 y2 y3 A1 _ C1 l1 W rfl w1 ⟨im0, id0, oy1, oz1, ol1⟩).mono fun e W' ⟨he, bel⟩ => ?_
  subst he
  exact ⟨_, rfl, _, _, _, [], _, [], hW', trodAll_mk1 (shut_bool Try.underlying4 _), (trodAll_cons_mk (Below.trod laidOut (by kernel_rfl) (of_decide_eq_true (by kernel_rfl)) k0 bel lt0) (trodAll_cons_mk (Below.trod laidOut (by kernel_rfl) (of_decide_eq_true (by kernel_rfl)) k1 bel lt1) trodAll_mk0)), rfl, bel.frame _, fun h => by cases h⟩

theorem over : Rows.helloMakeRow.holds Try.pinned (OpenSpec.ofChange Rows.helloMakeSpec) :=
  OpenClaim.holds_of_wide 6 Try.f6 rfl rfl rfl rfl rfl rfl rfl ⟨rfl, rfl, rfl, rfl, rfl⟩ rfl rfl rfl rfl rfl (by kernel_rfl) Try.func6 (by kernel_rfl)
    (of_decide_eq_true (by kernel_rfl)) (by unfold Func.isWrapper; first | (rw [if_pos (by decide +kernel)]; kernel_rfl) | (rw [if_neg (by decide +kernel)]; exact ⟨rfl, rfl⟩))
    (fun os started H enc _ => lifted os started H enc)

/-- THE STATEMENT. -/
theorem proved : Rows.HelloMakeSaid := over
#print axioms proved
end Go.Proofs.Ytdjblkmhlghglaa.helloMake
