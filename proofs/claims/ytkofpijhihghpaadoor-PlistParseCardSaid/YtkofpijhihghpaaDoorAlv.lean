/-
  The contract of alive. No statement is proved here; no conditions.
-/
import Derived.Test.YtkofpijhihghpaaDoorPp
namespace Go.Proofs.YtkofpijhihghpaaDoor
open Go.RowKit Go.Joins

abbrev tx0 : List UInt8 := [53, 32, 112, 101, 114, 109, 105, 116, 32, 49, 48, 46, 48, 46, 48, 46, 48, 47, 56, 32, 108, 101, 32, 50, 52]
theorem lv1 : pw (wds tx0) = (⟨5, true, 167772160, 8, 0, 24⟩, 0) := by decide +kernel
theorem lv2 : mns ⟨5, true, 167772160, 8, 0, 24⟩ 167837696 16 = true := by decide +kernel
theorem lv3 : mns ⟨5, true, 167772160, 8, 0, 24⟩ 167837952 25 = false := by decide +kernel
theorem lv4 : rtx ⟨5, true, 167772160, 8, 0, 24⟩ = tx0 := by decide +kernel
theorem lv5 : Wf ⟨5, true, 167772160, 8, 0, 24⟩ := ⟨by decide, by decide, by decide, by decide, by decide, by decide, by decide, by decide, by decide⟩
set_option maxRecDepth 100000 in
theorem alive_any (w : World) (ht : Tab w) : Calls Tryd.prog 11 #[] w fun e w' => e = .returned (.bool true) ∧ Below w.heap.size w w' := by
  have cP := pparse_any tx0 w (by decide)
  rw [lv1] at cP
  have c2 : ∀ W, Calls Tryd.prog 14 #[.agg #[.int .i64 5, .bool true, .int .u32 167772160, .int .i64 8, .int .i64 0, .int .i64 24], .agg #[.int .u32 167837696, .int .i64 16]] W fun e w' => e = .returned (.bool true) ∧ Below W.heap.size W w' := fun W => by
    have := means_any ⟨5, true, 167772160, 8, 0, 24⟩ 167837696 16 W (by decide) (by decide)
    rw [lv2] at this
    exact this
  have c3 : ∀ W, Calls Tryd.prog 14 #[.agg #[.int .i64 5, .bool true, .int .u32 167772160, .int .i64 8, .int .i64 0, .int .i64 24], .agg #[.int .u32 167837952, .int .i64 25]] W fun e w' => e = .returned (.bool false) ∧ Below W.heap.size W w' := fun W => by
    have := means_any ⟨5, true, 167772160, 8, 0, 24⟩ 167837952 25 W (by decide) (by decide)
    rw [lv3] at this
    exact this
  have c4 : ∀ W, Tab W → Calls Tryd.prog 9 #[.agg #[.int .i64 5, .bool true, .int .u32 167772160, .int .i64 8, .int .i64 0, .int .i64 24]] W fun e w' => e = .returned (.string (st tx0)) ∧ Below W.heap.size W w' := fun W hT => by
    have := ptext_any ⟨5, true, 167772160, 8, 0, 24⟩ W lv5 hT
    rw [lv4] at this
    exact this
  go_enter Tryd.func11, Tryd.ntmps11
  go_wp2_with fail
  refine cP.mono ?_
  rintro e W1 ⟨rfl, hb1⟩
  obtain ⟨W2, hW2⟩ : ∃ W, W1.alloc (.cells #[.int .i64 5, .bool true, .int .u32 167772160, .int .i64 8, .int .i64 0, .int .i64 24] 26) = W := ⟨_, rfl⟩
  have b2 : Below W1.heap.size W1 W2 := by rw [← hW2]; exact below_alloc1 _ _
  have hb : Below w.heap.size w W2 := hb1.trans (b2.mono hb1.size)
  have KK : Hid (∀ V, Below W2.heap.size W2 V → _) := Lib.hid (fun V hV => rb_new hW2 hV)
  obtain ⟨k0, k1, k2, k3, k4, k5⟩ := KK.out _ (Below.refl _ _)
  have HT := Lib.hid (ht.step hb)
  clear cP
  go_wp2_with fail
  refine (c2 _).mono ?_
  rintro e W3 ⟨rfl, hb3⟩
  clear hW2 k0 k1 k2 k3 k4 k5
  obtain ⟨k0, k1, k2, k3, k4, k5⟩ := KK.out _ hb3
  go_wp2_with fail
  refine (c3 _).mono ?_
  rintro e W4 ⟨rfl, hb4⟩
  replace hb4 := hb3.trans (hb4.mono hb3.size)
  clear k0 k1 k2 k3 k4 k5 hb3
  obtain ⟨k0, k1, k2, k3, k4, k5⟩ := KK.out _ hb4
  go_wp2_with fail
  refine (c4 _ (HT.out.step hb4)).mono ?_
  rintro e W5 ⟨rfl, hb5⟩
  replace hb5 := hb4.trans (hb5.mono hb4.size)
  go_wp2
  go_ret
  exact ⟨rfl, hb.trans (hb5.mono hb.size)⟩
end Go.Proofs.YtkofpijhihghpaaDoor
