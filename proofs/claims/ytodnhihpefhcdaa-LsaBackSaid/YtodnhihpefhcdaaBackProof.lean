/-
  Proved: for every input the law LsaBack returns true and leaves its arguments as they were (the given statement LsaBackSaid). No conditions.
-/
import Derived.Test.YtodnhihpefhcdaaFrame
import Derived.Test.YtodnhihpefhcdaaLwB
namespace Go.Proofs.Ytodnhihpefhcdaa.lsaBack
open Go.ChangeShapes Go.WideShapes Go.ChangeAt Go.RowKit Go.Deep

set_option maxRecDepth 100000 in
theorem lifted (os : Os) (started : os.Started) (H : Type) (enc : TypeId × Value → H) :
    ReturnsInHanded {} Try.checked os 4 .any (Rows.lsaBackSpec.pre6 enc Try.prog Try.f4 Rows.lsaBackRow.domain false) (Rows.lsaBackSpec.post enc Try.prog Try.f4 false true false false) := by
  refine returnsInHanded_of_change (C := Try.checked) own started (by kernel_rfl) Try.func4
    (ChangeSpec.witness6 (enc := enc) (C := Try.checked) false ⟨#[], #[.agg #[.int .i64 0, .int .i64 0, .int .i64 0, .int .u32 0, .int .u32 0, .int .u32 0, .int .i64 0, .int .i64 0, .slice none 0 0], .int .i64 0, .int .u8 0], []⟩ 8 (by kernel_rfl) (by kernel_rfl) (by kernel_rfl) (by kernel_rfl)) ?_
  intro W base args ds gs before hval0 hW hcnd _
  have hval : ∀ (j : Nat) t v, Try.f4.params[j]? = some t → args[j]? = some v → Value.okWide Try.prog W .any base t v := hval0
  have hW' := hW
  obtain ⟨p, q, hA0, hV, rfl, hfz, hnd⟩ := hW
  have hA : DataW.TrodAll enc Try.prog W 0 (fun _ => true) true Try.f4.params.toList args.toList ds p := hA0
  rw [Try.params4] at hA hval
  obtain ⟨v0, vs0, d0, ds0, p0, q0, hargs, rfl, rfl, h0, r0⟩ := trodAll_cons hA
  obtain ⟨v1, vs1, d1, ds1, p1, q1, rfl, rfl, rfl, h1, r1⟩ := trodAll_cons r0
  obtain ⟨v2, vs2, d2, ds2, p2, q2, rfl, rfl, rfl, h2, r2⟩ := trodAll_cons r1
  obtain ⟨rfl, rfl, rfl⟩ := trodAll_nil r2
  obtain rfl : args = #[v0, v1, v2] := by cases args; simp_all
  obtain ⟨rfl, rfl⟩ := trodVars_none hV
  have k0 := h0
  have lt0 : ∀ x ∈ p0, x.block < W.heap.size := by obtain ⟨m, hm⟩ := k0; exact DataW.trod_lt m _ _ _ hm
  obtain ⟨x0, A0, C0, l0, rfl, ok0, y0, w0⟩ : ∃ (p : Hd) (A : Option Addr) (c : Nat) (l : List Int), v0 = .agg #[.int .i64 p.a, .int .i64 p.o, .int .i64 p.t, .int .u32 p.i, .int .u32 p.v, .int .u32 p.q, .int .i64 p.s, .int .i64 p.n, .slice A l.length c] ∧ Okd p ∧ Byt l ∧ Bt W A l := by
    obtain ⟨cs, rfl, -⟩ := okWide_struct Try.underlying37 (hval 0 37 v0 rfl rfl)
    obtain ⟨fuel, hf⟩ := h0
    obtain ⟨y, A, c, l, hy, hok, hyl, hbt⟩ := ad_of hf
    obtain ⟨cl⟩ := cs
    simp [Value.cells] at hy
    exact ⟨y, A, c, l, by rw [hy], hok, hyl, hbt⟩
  have k1 := h1
  have lt1 : ∀ x ∈ p1, x.block < W.heap.size := by obtain ⟨m, hm⟩ := k1; exact DataW.trod_lt m _ _ _ hm
  obtain ⟨x1, rfl⟩ : ∃ x : Int, v1 = .int .i64 x := by
    obtain ⟨b, rfl, -⟩ := okWide_int Try.underlying3 (hval 1 3 v1 rfl rfl)
    exact ⟨b, rfl⟩
  have k2 := h2
  have lt2 : ∀ x ∈ p2, x.block < W.heap.size := by obtain ⟨m, hm⟩ := k2; exact DataW.trod_lt m _ _ _ hm
  obtain ⟨x2, hx2, rfl⟩ : ∃ x : Int, (0 ≤ x ∧ x < 256) ∧ v2 = .int .u8 x := by
    obtain ⟨fuel, hf⟩ := h2
    obtain ⟨a, e0, _, wa⟩ := DataW.trod_int Try.underlying5 hf
    obtain ⟨b, rfl, -⟩ := okWide_int Try.underlying5 (hval 2 5 v2 rfl rfl)
    simp [Value.cells] at e0
    subst e0
    exact ⟨b, wf_u8 wa, rfl⟩
  clear hA0 hval0
  refine (back_walk x0 A0 _ C0 l0 x1 x2 W rfl ok0 w0 y0 hx2.1 hx2.2).mono fun e W' ⟨he, bel⟩ => ?_
  subst he
  exact ⟨_, rfl, _, _, _, [], _, [], hW', trodAll_mk1 (shut_bool Try.underlying4 _), (trodAll_cons_mk (Below.trod laidOut (by kernel_rfl) (of_decide_eq_true (by kernel_rfl)) k0 bel lt0) (trodAll_cons_mk (Below.trod laidOut (by kernel_rfl) (of_decide_eq_true (by kernel_rfl)) k1 bel lt1) (trodAll_cons_mk (Below.trod laidOut (by kernel_rfl) (of_decide_eq_true (by kernel_rfl)) k2 bel lt2) trodAll_mk0))), rfl, bel.frame _, fun h => by cases h⟩

theorem over : Rows.lsaBackRow.holds Try.pinned (OpenSpec.ofChange Rows.lsaBackSpec) :=
  OpenClaim.holds_of_wide 4 Try.f4 rfl rfl rfl rfl rfl rfl rfl ⟨rfl, rfl, rfl, rfl, rfl⟩ rfl rfl rfl rfl rfl (by kernel_rfl) Try.func4 (by kernel_rfl)
    (of_decide_eq_true (by kernel_rfl)) (by unfold Func.isWrapper; first | (rw [if_pos (by decide +kernel)]; kernel_rfl) | (rw [if_neg (by decide +kernel)]; exact ⟨rfl, rfl⟩))
    (fun os started H enc _ => lifted os started H enc)

/-- THE STATEMENT. -/
theorem proved : Rows.LsaBackSaid := over
#print axioms proved
end Go.Proofs.Ytodnhihpefhcdaa.lsaBack
