/-
  The live question of the laws. No statement is proved here; no conditions.
-/
import Derived.Test.YtmgfcpbeammopaaRg
namespace Go.Proofs.Ytmgfcpbeammopaa
open Go.RowKit Go.Joins

def b8 : List Int := [255, 0, 0, 0, 0, 0, 1, 2]
theorem may_live : mayc 4278190080 258 = true := by decide +kernel
theorem en_live : enS 4278190080 258 = b8 := by decide
theorem bad_live : mayc 1 0 = false := by decide +kernel
theorem rd_live : rdSE b8 = 0 := by
  have := (dec_enS (m := 4278190080) (x := 258) (by decide) (by decide) may_live).1
  rwa [en_live] at this
theorem b8_byt : Byt b8 := byt_lit _ (by decide)
theorem live1 (V : World) : Calls Try.prog 14 #[.agg #[.int .u32 4278190080, .int .i64 258]] V fun e w' => ∃ A' c', e = .returned (.tuple #[.slice A' 8 c', .int .i64 0]) ∧ Own .u8 5 w' V.heap.size A' c' b8 ∧ Below V.heap.size V w' := by
  have q := summary_any 4278190080 258 V (by decide) (by decide)
  have e1 : encSE 4278190080 258 = 0 := by simp [encSE, may_live]
  have e2 : encSL 4278190080 258 = b8 := by simp [encSL, may_live, en_live]
  rw [e1, e2] at q
  exact q
theorem live2 (V : World) : Calls Try.prog 14 #[.agg #[.int .u32 1, .int .i64 0]] V fun e w' => ∃ A' c', e = .returned (.tuple #[.slice A' 0 c', .int .i64 1]) ∧ Below V.heap.size V w' := by
  have q := summary_any 1 0 V (by decide) (by decide)
  have e1 : encSE 1 0 = 1 := by simp [encSE, bad_live]
  have e2 : encSL 1 0 = [] := by simp [encSL, bad_live]
  rw [e1, e2] at q
  exact q.mono fun e w' ⟨A', c', h1, _, h3⟩ => ⟨A', c', h1, h3⟩
theorem live3 (V : World) (A : Option Addr) (c : Nat) (hb : Bt V A b8) (hc : 8 ≤ c) : Calls Try.prog 22 #[.agg #[.int .i64 0, .int .i64 0, .int .i64 3, .int .u32 0, .int .u32 0, .int .u32 0, .int .i64 0, .int .i64 0, .slice A 8 c]] V fun e w' => e = .returned (.bool true) ∧ Below V.heap.size V w' := by
  have q := right_any 0 0 3 0 0 0 0 0 A 8 c b8 V rfl hb b8_byt hc (by decide)
  have e : rgt 3 b8 = true := by
    unfold rgt rE
    rw [if_neg (by decide), if_neg (by decide), if_pos (by decide), rd_live]
    rfl
  rw [e] at q
  exact q
set_option maxRecDepth 100000 in
theorem alive_any (w : World) : Calls Try.prog 7 #[] w fun e w' => e = .returned (.bool true) ∧ Below w.heap.size w w' := by
  go_enter Try.func7, Try.ntmps7
  go_wp2_with fail
  refine (live1 _).mono ?_
  rintro e W1 ⟨A1, c1, rfl, o1, u1⟩
  go_wp2_with fail
  refine (live2 _).mono ?_
  rintro e W2 ⟨A2, c2, rfl, u2⟩
  have t2 : Below w.heap.size w W2 := u1.trans (u2.mono u1.size)
  have q2 := Bs.step o1.bs u2
  have hc1 := o1.cap_le
  have r1 := run_str (P := Try.prog) (w := W2) 25 5 9 Try.underlying25 Try.underlying5 Try.underlying9 _ A1 c1 b8 q2
  have es : strOfNums b8 = ⟨#[255, 0, 0, 0, 0, 0, 1, 2]⟩ := by rfl
  have el : b8.length = 8 := rfl
  rw [es, el] at r1
  have C3 := live3 W2 A1 c1 q2 hc1
  clear o1 u1 u2 es el q2 hc1
  go_wp2_with fail
  refine C3.mono ?_
  rintro e W3 ⟨rfl, u3⟩
  go_wp2
  go_ret
  exact ⟨rfl, t2.trans (u3.mono t2.size)⟩
end Go.Proofs.Ytmgfcpbeammopaa
