/-
  Proved: for every input the law BodyRight returns true and leaves its arguments as they were (the given statement BodyRightSaid). No conditions.
-/
import Derived.Test.YtmgfcpbeammopaaFrame
import Derived.Test.YtmgfcpbeammopaaLwG
namespace Go.Proofs.Ytmgfcpbeammopaa.bodyRight
open Go.ChangeShapes Go.WideShapes Go.ChangeAt Go.RowKit Go.Deep

set_option maxRecDepth 100000 in
theorem lifted (os : Os) (started : os.Started) (H : Type) (enc : TypeId × Value → H) :
    ReturnsInHanded {} Try.checked os 6 .any (Rows.bodyRightSpec.pre6 enc Try.prog Try.f6 Rows.bodyRightRow.domain false) (Rows.bodyRightSpec.post enc Try.prog Try.f6 false true false false) := by
  refine returnsInHanded_of_change (C := Try.checked) own started (by kernel_rfl) Try.func6
    (ChangeSpec.witness6 (enc := enc) (C := Try.checked) false ⟨#[], #[.agg #[.int .i64 0, .int .i64 0, .int .i64 0, .int .u32 0, .int .u32 0, .int .u32 0, .int .i64 0, .int .i64 0, .slice none 0 0]], []⟩ 8 (by kernel_rfl) (by kernel_rfl) (by kernel_rfl) (by kernel_rfl)) ?_
  intro W base args ds gs before hval0 hW hcnd _
  have hval : ∀ (j : Nat) t v, Try.f6.params[j]? = some t → args[j]? = some v → Value.okWide Try.prog W .any base t v := hval0
  have hW' := hW
  obtain ⟨p, q, hA0, hV, rfl, hfz, hnd⟩ := hW
  have hA : DataW.TrodAll enc Try.prog W 0 (fun _ => true) true Try.f6.params.toList args.toList ds p := hA0
  rw [Try.params6] at hA hval
  obtain ⟨v0, vs0, d0, ds0, p0, q0, hargs, rfl, rfl, h0, r0⟩ := trodAll_cons hA
  obtain ⟨rfl, rfl, rfl⟩ := trodAll_nil r0
  obtain rfl : args = #[v0] := by cases args; simp_all
  obtain ⟨rfl, rfl⟩ := trodVars_none hV
  have k0 := h0
  have lt0 : ∀ x ∈ p0, x.block < W.heap.size := by obtain ⟨m, hm⟩ := k0; exact DataW.trod_lt m _ _ _ hm
  obtain ⟨a, o, t, i, v, q, s, z, A0, c0, l0, rfl, hc0, y0, w0⟩ : ∃ (a o t i v q s z : Int) (A : Option Addr) (c : Nat) (l : List Int), v0 = .agg #[.int .i64 a, .int .i64 o, .int .i64 t, .int .u32 i, .int .u32 v, .int .u32 q, .int .i64 s, .int .i64 z, .slice A l.length c] ∧ l.length ≤ c ∧ Byt l ∧ Bt W A l := by
    obtain ⟨cs, rfl, -⟩ := okWide_struct Try.underlying63 (hval 0 63 v0 rfl rfl)
    obtain ⟨fuel, hf⟩ := h0
    obtain ⟨a, o, t, i, v, q, s, z, A, c, l, hy, h1, h2, h3⟩ := ad_of hf
    obtain ⟨cl⟩ := cs
    simp [Value.cells] at hy
    exact ⟨a, o, t, i, v, q, s, z, A, c, l, by rw [hy], h1, h2, h3⟩
  clear hA0 hval0
  refine (right_walk a o t i v q s z A0 _ c0 l0 W rfl w0 y0 hc0).mono fun e W' ⟨he, bel⟩ => ?_
  subst he
  exact ⟨_, rfl, _, _, _, [], _, [], hW', trodAll_mk1 (shut_bool Try.underlying4 _), (trodAll_cons_mk (Below.trod laidOut (by kernel_rfl) (of_decide_eq_true (by kernel_rfl)) k0 bel lt0) trodAll_mk0), rfl, bel.frame _, fun h => by cases h⟩

theorem over : Rows.bodyRightRow.holds Try.pinned (OpenSpec.ofChange Rows.bodyRightSpec) :=
  OpenClaim.holds_of_wide 6 Try.f6 rfl rfl rfl rfl rfl rfl rfl ⟨rfl, rfl, rfl, rfl, rfl⟩ rfl rfl rfl rfl rfl (by kernel_rfl) Try.func6 (by kernel_rfl)
    (of_decide_eq_true (by kernel_rfl)) (by unfold Func.isWrapper; first | (rw [if_pos (by decide +kernel)]; kernel_rfl) | (rw [if_neg (by decide +kernel)]; exact ⟨rfl, rfl⟩))
    (fun os started H enc _ => lifted os started H enc)

/-- THE STATEMENT. -/
theorem proved : Rows.BodyRightSaid := over
#print axioms proved
end Go.Proofs.Ytmgfcpbeammopaa.bodyRight
