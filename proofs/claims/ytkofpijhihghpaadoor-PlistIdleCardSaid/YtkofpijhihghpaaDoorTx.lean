/-
  The contract of the program's Text. No statement is proved here; no conditions.
-/
import Derived.Test.YtkofpijhihghpaaDoorPn
import Derived.Test.YtkofpijhihghpaaDoorRefB
namespace Go.Proofs.YtkofpijhihghpaaDoor
open Go.RowKit Go.Joins

/-- A rule whose numbers are in their bounds. -/
structure Wf (x : Ru) : Prop where
  A : x.A < 4294967296
  s0 : -9223372036854775808 ≤ x.s
  s1 : x.s ≤ 9223372036854775807
  N0 : -9223372036854775808 ≤ x.N
  N1 : x.N ≤ 9223372036854775807
  g0 : -9223372036854775808 ≤ x.g
  g1 : x.g ≤ 9223372036854775807
  l0 : -9223372036854775808 ≤ x.l
  l1 : x.l ≤ 9223372036854775807
theorem dec_len (u : Nat) (h : u < 256) : (Lib.decDigits u).length ≤ 3 := by
  rw [Lib.decDigits_length, Lib.nDigits]
  split
  · omega
  · rw [Lib.nDigits]
    split
    · omega
    · rw [Lib.nDigits_small (by omega)]; omega
theorem txt_len (A : Nat) (N : Int) (hA : A < 4294967296) (h0 : -9223372036854775808 ≤ N) (h1 : N ≤ 9223372036854775807) : (txt A N).length ≤ 37 := by
  have := Lib.itoa_length_le N h0 h1
  have := dec_len (A / 16777216) (by omega)
  have := dec_len (A / 65536 % 256) (by omega)
  have := dec_len (A / 256 % 256) (by omega)
  have := dec_len (A % 256) (by omega)
  simp only [txt, List.length_append, List.length_cons]
  omega
theorem Tab.step {w w' : World} (h : Tab w) (hb : Below w.heap.size w w') : Tab w' := h.below hb (Nat.le_refl _)
theorem rtx_len {x : Ru} (h : Wf x) : (rtx x).length ≤ 200 := by
  have h1 := Lib.itoa_length_le x.s h.s0 h.s1
  have h2 := Lib.itoa_length_le x.g h.g0 h.g1
  have h3 := Lib.itoa_length_le x.l h.l0 h.l1
  have h4 := txt_len x.A x.N h.A h.N0 h.N1
  unfold rtx
  cases x.p <;> by_cases q1 : x.g = 0 <;> by_cases q2 : x.l = 0 <;> simp [q1, q2] <;> omega
set_option maxRecDepth 100000 in
set_option maxHeartbeats 2000000 in
theorem ptext_any (x : Ru) (w : World) (hx : Wf x) (ht : Tab w) : Calls Tryd.prog 9 #[rv x] w fun e w' => e = .returned (.string (st (rtx x))) ∧ Below w.heap.size w w' := by
  have cs : ∀ W, Tab W → _ := fun W hT => itoa_any x.s W hx.s0 hx.s1 hT
  have cg : ∀ W, Tab W → _ := fun W hT => itoa_any x.g W hx.g0 hx.g1 hT
  have cl : ∀ W, Tab W → _ := fun W hT => itoa_any x.l W hx.l0 hx.l1 hT
  have ct : ∀ W, Tab W → _ := fun W hT => text_any x.A x.N W hx.A hx.N0 hx.N1 hT
  have zs := Lib.itoa_length_le x.s hx.s0 hx.s1
  have zg := Lib.itoa_length_le x.g hx.g0 hx.g1
  have zl := Lib.itoa_length_le x.l hx.l0 hx.l1
  have zt := txt_len x.A x.N hx.A hx.N0 hx.N1
  have hR : rtx x = Lib.itoa x.s ++ 32 :: ((if x.p then tPermit else tDeny) ++ 32 :: (txt x.A x.N ++ ((if x.g = 0 then [] else 32 :: (tGe ++ 32 :: Lib.itoa x.g)) ++ (if x.l = 0 then [] else 32 :: (tLe ++ 32 :: Lib.itoa x.l))))) := rfl
  obtain ⟨s, p, A, N, g, l⟩ := x
  simp only at cs cg cl ct zs zg zl zt hR
  obtain ⟨RT, hRT⟩ : ∃ RT, rtx ⟨s, p, A, N, g, l⟩ = RT := ⟨_, rfl⟩
  rw [hRT] at hR ⊢
  generalize Lib.itoa s = aS at *
  generalize Lib.itoa g = aG at *
  generalize Lib.itoa l = aL at *
  generalize txt A N = aT at *
  have HR := Lib.hid hR
  clear hR hRT hx
  obtain ⟨W0, hW0⟩ : ∃ W0, w.alloc (.cells #[.int .i64 s, .bool p, .int .u32 (A : Int), .int .i64 N, .int .i64 g, .int .i64 l] 26) = W0 := ⟨_, rfl⟩
  have b0 : Below w.heap.size w W0 := by rw [← hW0]; exact below_alloc1 _ _
  have HB0 := Lib.hid b0
  have HT := Lib.hid (ht.step b0)
  have KK : Hid (∀ V, Below W0.heap.size W0 V → V.cell? ⟨w.heap.size, 0, none⟩ = some (.int .i64 s) ∧ V.cell? ⟨w.heap.size, 1, none⟩ = some (.bool p) ∧ V.cell? ⟨w.heap.size, 2, none⟩ = some (.int .u32 (A : Int)) ∧ V.cell? ⟨w.heap.size, 3, none⟩ = some (.int .i64 N) ∧ V.cell? ⟨w.heap.size, 4, none⟩ = some (.int .i64 g) ∧ V.cell? ⟨w.heap.size, 5, none⟩ = some (.int .i64 l)) := Lib.hid (fun V hV => rb_new hW0 hV)
  obtain ⟨k0, k1, k2, k3, k4, k5⟩ := KK.out _ (Below.refl _ _)
  clear b0 ht
  go_enter Tryd.func9, Tryd.ntmps9
  cases p with
  | false =>
    go_wp2_with fail
    clear hW0
    refine wp_region_quiet_below (by kernel_rfl) (by kernel_rfl) ?_
    have gg0 := cell_regrown k0
    have gg1 := cell_regrown k1
    have gg2 := cell_regrown k2
    have gg3 := cell_regrown k3
    have gg4 := cell_regrown k4
    have gg5 := cell_regrown k5
    have zz0 : ∀ d os, _ := fun d os => Calls.regrown_of (w := W0) (d := d) (os := os) (cs _ (HT.out.step (below_regrown _ _ _)))
    have zz1 : ∀ d os, _ := fun d os => Calls.regrown_of (w := W0) (d := d) (os := os) (ct _ (HT.out.step (below_regrown _ _ _)))
    repeat (first | go_big_quiet_step (with_reducible exact zz0 _ _) | go_big_quiet_step (with_reducible exact zz1 _ _) | go_big_quiet_step (fail) | go_big_quiet_skip)
    refine wpQuiet_nil ?_
    intro W9 hw'
    obtain ⟨⟨dq, osq⟩, hw''⟩ := hw'
    have hbz := below_regrown W0 dq osq
    rw [← hw''] at hbz
    clear hw'' gg0 gg1 gg2 gg3 gg4 gg5 zz0 zz1
    have hb9 : Below W0.heap.size W0 W9 := hbz
    clear hbz cs ct k0 k1 k2 k3 k4 k5
    obtain ⟨k0, k1, k2, k3, k4, k5⟩ := KK.out _ hb9
    by_cases hg : g = 0
    · have ng : (g != 0) = false := by simpa using hg
      by_cases hl : l = 0
      · have nl : (l != 0) = false := by simpa using hl
        have E : Hid (RT = _) := Lib.hid (HR.out.trans (by rw [if_pos hg, if_pos hl]))
        clear HR hg hl
        go_wp2
        go_ret
        rw [E.out]
        exact ⟨congrArg (fun s => Ending.returned (.string s)) (ByteArray.ext (by simp)), HB0.out.trans (hb9.mono HB0.out.size)⟩
      · have nl : (l != 0) = true := by simpa using hl
        go_wp2_with fail
        refine (cl _ (HT.out.step hb9)).mono ?_
        rintro e W5 ⟨rfl, hb5⟩
        replace hb5 := hb9.trans (hb5.mono hb9.size)
        have E : Hid (RT = _) := Lib.hid (HR.out.trans (by rw [if_pos hg, if_neg hl]))
        clear HR hg hl
        go_wp2
        go_ret
        rw [E.out]
        exact ⟨congrArg (fun s => Ending.returned (.string s)) (ByteArray.ext (by simp)), HB0.out.trans (hb5.mono HB0.out.size)⟩
    · have ng : (g != 0) = true := by simpa using hg
      by_cases hl : l = 0
      · have nl : (l != 0) = false := by simpa using hl
        go_wp2_with fail
        refine (cg _ (HT.out.step hb9)).mono ?_
        rintro e W4 ⟨rfl, hb4⟩
        replace hb4 := hb9.trans (hb4.mono hb9.size)
        clear k0 k1 k2 k3 k4 k5 hb9
        obtain ⟨k0, k1, k2, k3, k4, k5⟩ := KK.out _ hb4
        have E : Hid (RT = _) := Lib.hid (HR.out.trans (by rw [if_neg hg, if_pos hl]))
        clear HR hg hl
        go_wp2
        go_ret
        rw [E.out]
        exact ⟨congrArg (fun s => Ending.returned (.string s)) (ByteArray.ext (by simp)), HB0.out.trans (hb4.mono HB0.out.size)⟩
      · have nl : (l != 0) = true := by simpa using hl
        go_wp2_with fail
        refine (cg _ (HT.out.step hb9)).mono ?_
        rintro e W4 ⟨rfl, hb4⟩
        replace hb4 := hb9.trans (hb4.mono hb9.size)
        clear k0 k1 k2 k3 k4 k5 hb9
        obtain ⟨k0, k1, k2, k3, k4, k5⟩ := KK.out _ hb4
        go_wp2_with fail
        refine (cl _ (HT.out.step hb4)).mono ?_
        rintro e W5 ⟨rfl, hb5⟩
        replace hb5 := hb4.trans (hb5.mono hb4.size)
        have E : Hid (RT = _) := Lib.hid (HR.out.trans (by rw [if_neg hg, if_neg hl]))
        clear HR hg hl
        go_wp2
        go_ret
        rw [E.out]
        exact ⟨congrArg (fun s => Ending.returned (.string s)) (ByteArray.ext (by simp)), HB0.out.trans (hb5.mono HB0.out.size)⟩
  | true =>
    go_wp2_with fail
    clear hW0
    refine wp_region_quiet_below (by kernel_rfl) (by kernel_rfl) ?_
    have gg0 := cell_regrown k0
    have gg1 := cell_regrown k1
    have gg2 := cell_regrown k2
    have gg3 := cell_regrown k3
    have gg4 := cell_regrown k4
    have gg5 := cell_regrown k5
    have zz0 : ∀ d os, _ := fun d os => Calls.regrown_of (w := W0) (d := d) (os := os) (cs _ (HT.out.step (below_regrown _ _ _)))
    have zz1 : ∀ d os, _ := fun d os => Calls.regrown_of (w := W0) (d := d) (os := os) (ct _ (HT.out.step (below_regrown _ _ _)))
    repeat (first | go_big_quiet_step (with_reducible exact zz0 _ _) | go_big_quiet_step (with_reducible exact zz1 _ _) | go_big_quiet_step (fail) | go_big_quiet_skip)
    refine wpQuiet_nil ?_
    intro W9 hw'
    obtain ⟨⟨dq, osq⟩, hw''⟩ := hw'
    have hbz := below_regrown W0 dq osq
    rw [← hw''] at hbz
    clear hw'' gg0 gg1 gg2 gg3 gg4 gg5 zz0 zz1
    have hb9 : Below W0.heap.size W0 W9 := hbz
    clear hbz cs ct k0 k1 k2 k3 k4 k5
    obtain ⟨k0, k1, k2, k3, k4, k5⟩ := KK.out _ hb9
    by_cases hg : g = 0
    · have ng : (g != 0) = false := by simpa using hg
      by_cases hl : l = 0
      · have nl : (l != 0) = false := by simpa using hl
        have E : Hid (RT = _) := Lib.hid (HR.out.trans (by rw [if_pos hg, if_pos hl]))
        clear HR hg hl
        go_wp2
        go_ret
        rw [E.out]
        exact ⟨congrArg (fun s => Ending.returned (.string s)) (ByteArray.ext (by simp)), HB0.out.trans (hb9.mono HB0.out.size)⟩
      · have nl : (l != 0) = true := by simpa using hl
        go_wp2_with fail
        refine (cl _ (HT.out.step hb9)).mono ?_
        rintro e W5 ⟨rfl, hb5⟩
        replace hb5 := hb9.trans (hb5.mono hb9.size)
        have E : Hid (RT = _) := Lib.hid (HR.out.trans (by rw [if_pos hg, if_neg hl]))
        clear HR hg hl
        go_wp2
        go_ret
        rw [E.out]
        exact ⟨congrArg (fun s => Ending.returned (.string s)) (ByteArray.ext (by simp)), HB0.out.trans (hb5.mono HB0.out.size)⟩
    · have ng : (g != 0) = true := by simpa using hg
      by_cases hl : l = 0
      · have nl : (l != 0) = false := by simpa using hl
        go_wp2_with fail
        refine (cg _ (HT.out.step hb9)).mono ?_
        rintro e W4 ⟨rfl, hb4⟩
        replace hb4 := hb9.trans (hb4.mono hb9.size)
        clear k0 k1 k2 k3 k4 k5 hb9
        obtain ⟨k0, k1, k2, k3, k4, k5⟩ := KK.out _ hb4
        have E : Hid (RT = _) := Lib.hid (HR.out.trans (by rw [if_neg hg, if_pos hl]))
        clear HR hg hl
        go_wp2
        go_ret
        rw [E.out]
        exact ⟨congrArg (fun s => Ending.returned (.string s)) (ByteArray.ext (by simp)), HB0.out.trans (hb4.mono HB0.out.size)⟩
      · have nl : (l != 0) = true := by simpa using hl
        go_wp2_with fail
        refine (cg _ (HT.out.step hb9)).mono ?_
        rintro e W4 ⟨rfl, hb4⟩
        replace hb4 := hb9.trans (hb4.mono hb9.size)
        clear k0 k1 k2 k3 k4 k5 hb9
        obtain ⟨k0, k1, k2, k3, k4, k5⟩ := KK.out _ hb4
        go_wp2_with fail
        refine (cl _ (HT.out.step hb4)).mono ?_
        rintro e W5 ⟨rfl, hb5⟩
        replace hb5 := hb4.trans (hb5.mono hb4.size)
        have E : Hid (RT = _) := Lib.hid (HR.out.trans (by rw [if_neg hg, if_neg hl]))
        clear HR hg hl
        go_wp2
        go_ret
        rw [E.out]
        exact ⟨congrArg (fun s => Ending.returned (.string s)) (ByteArray.ext (by simp)), HB0.out.trans (hb5.mono HB0.out.size)⟩
end Go.Proofs.YtkofpijhihghpaaDoor
