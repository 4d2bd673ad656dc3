/-
  The live question of the laws. No statement is proved here; no conditions.
-/
import Derived.Test.YtfhickgdmcmodaaSp
import Derived.Test.YtfhickgdmcmodaaRDe
namespace Go.Proofs.Ytfhickgdmcmodaa
open Go.RowKit Go.Joins

def pk1 : Pk := ⟨1, 7, 0, 0, 0, 0, 0, 0, 0, 0, 0, 0, []⟩
theorem ok1 : Okp pk1 := ⟨by decide, by decide, byt_lit _ (by decide), fun x hx => by cases hx⟩
theorem may1 : mayp pk1 = true := by decide
theorem enc1 : (enc pk1).length = 24 := by rw [enc_length]; rfl
theorem live_enc (V : World) : Calls Try.prog 8 #[.agg #[.int .i64 1, .int .u32 7, .int .u32 0, .int .i64 0, .int .u8 0, .int .u8 0, .int .u8 0, .int .u8 0, .int .u8 0, .int .u8 0, .int .u8 0, .int .u8 0, .slice none 0 0]] V fun e w' => ∃ A' c', e = .returned (.tuple #[.slice A' 24 c', .int .i64 0]) ∧ Own .u8 5 w' V.heap.size A' c' (enc pk1) ∧ Below V.heap.size V w' := by
  have h := encode_any pk1 none 0 V ok1 (Bs.nil _)
  rw [show encL pk1 = enc pk1 by simp [encL, may1], show encE pk1 = 0 by simp [encE, may1], enc1] at h
  exact h
theorem live_dec (V : World) (A : Option Addr) (c : Nat) (h : Bt V A (enc pk1)) (hc : 24 ≤ c) : Calls Try.prog 13 #[.slice A 24 c] V fun e w' => ∃ A' c', e = .returned (.tuple #[.agg #[.int .i64 1, .int .u32 7, .int .u32 0, .int .i64 0, .int .u8 0, .int .u8 0, .int .u8 0, .int .u8 0, .int .u8 0, .int .u8 0, .int .u8 0, .int .u8 0, .slice A' 0 c'], .int .i64 0]) ∧ Below V.heap.size V w' := by
  have h := decode_any A c (enc pk1) V h (enc_byt pk1 ok1) (by rw [enc1]; exact hc) (by rw [enc1]; omega)
  rw [decp_enc pk1 ok1 may1, flt_enc pk1 ok1 may1, enc1] at h
  exact h.mono fun e w' ⟨A', c', h1, _, h3⟩ => ⟨A', c', h1, h3⟩
theorem live_nil (V : World) : Calls Try.prog 13 #[.slice none 0 0] V fun e w' => ∃ A' c', e = .returned (.tuple #[.agg #[Value.int .i64 0, .int .u32 0, .int .u32 0, .int .i64 0, .int .u8 0, .int .u8 0, .int .u8 0, .int .u8 0, .int .u8 0, .int .u8 0, .int .u8 0, .int .u8 0, .slice A' 0 c'], .int .i64 2]) ∧ Below V.heap.size V w' := by
  have e1 : flt [] = 2 := by decide
  have e2 : decp [] = zpk := by simp [decp, e1]
  have h := decode_any none 0 [] V (Bs.nil _) (fun x hx => by cases hx) (by simp) (by simp)
  rw [e1, e2] at h
  exact h.mono fun e w' ⟨A', c', h1, _, h3⟩ => ⟨A', c', h1, h3⟩
set_option maxRecDepth 100000 in
theorem alive_any (w : World) : Calls Try.prog 7 #[] w fun e w' => e = .returned (.bool true) ∧ Below w.heap.size w w' := by
  go_enter Try.func7, Try.ntmps7
  go_wp2_with fail
  refine (live_enc _).mono ?_
  rintro e W1 ⟨A1, c1, rfl, o1, u1⟩
  have hc1 := o1.cap_le
  rw [enc1] at hc1
  have hb1 := o1.bs
  go_wp2_with fail
  refine (live_dec _ _ _ hb1 hc1).mono ?_
  rintro e W2 ⟨A2, c2, rfl, u2⟩
  obtain ⟨V2, hV2⟩ : ∃ V, W2.alloc (.cells #[.int .i64 1, .int .u32 7, .int .u32 0, .int .i64 0, .int .u8 0, .int .u8 0, .int .u8 0, .int .u8 0, .int .u8 0, .int .u8 0, .int .u8 0, .int .u8 0, .slice A2 0 c2] 26) = V := ⟨_, rfl⟩
  have v2 : Below W2.heap.size W2 V2 := by rw [← hV2]; exact below_alloc1 _ _
  clear hc1 hb1 o1
  go_wp2_with fail
  refine (live_nil _).mono ?_
  rintro e W3 ⟨A3, c3, rfl, u3⟩
  obtain ⟨V3, hV3⟩ : ∃ V, W3.alloc (.cells #[Value.int .i64 0, .int .u32 0, .int .u32 0, .int .i64 0, .int .u8 0, .int .u8 0, .int .u8 0, .int .u8 0, .int .u8 0, .int .u8 0, .int .u8 0, .int .u8 0, .slice A3 0 c3] 26) = V := ⟨_, rfl⟩
  have v3 : Below W3.heap.size W3 V3 := by rw [← hV3]; exact below_alloc1 _ _
  have hb := kb_new hV2 (u3.trans (v3.mono u3.size))
  obtain ⟨k0, k1, k2, k3, k4, k5, k6, k7, k8, k9, k10, k11, k12⟩ := hb
  have t1 : Below w.heap.size w V3 := u1.trans ((u2.trans ((v2.trans ((u3.trans (v3.mono u3.size)).mono v2.size)).mono u2.size)).mono u1.size)
  go_wp2
  go_ret
  exact ⟨rfl, t1⟩
end Go.Proofs.Ytfhickgdmcmodaa
