/-
  The walk of the law PlistParse. No statement is proved here; no conditions.
-/
import Derived.Test.YtkofpijhihghpaaDoorAlv
import Derived.Test.YtkofpijhihghpaaDoorQp
namespace Go.Proofs.YtkofpijhihghpaaDoor
open Go.RowKit Go.Joins

theorem okr_wf {x : Ru} (h : okr x = true) (hA : x.A < 4294967296) : Wf x := by
  obtain ⟨⟨s1, s2⟩, hp, hg, hl⟩ := (okr_iff x).1 h
  obtain ⟨n0, n1, _⟩ := (okp_iff _ _).1 hp
  exact ⟨hA, by omega, by omega, by omega, by omega, by omega, by omega, by omega, by omega⟩
set_option maxRecDepth 100000 in
set_option maxHeartbeats 2000000 in
theorem parse_walk (l : List UInt8) (w : World) (ht : Tab w) : Calls Tryd.prog 4 #[.string (st l)] w fun e w' => e = .returned (.bool true) ∧ Below w.heap.size w w' := by
  by_cases h1 : 100 < l.length
  · have h2 : (l.length : Int) > 100 := by omega
    go_enter Tryd.func4, Tryd.ntmps4
    go_wp2_with fail
    refine (alive_any _ ht).mono ?_
    rintro e W1 ⟨rfl, hb1⟩
    go_wp2
    go_ret
    exact ⟨rfl, hb1⟩
  · have h2 : ¬ ((l.length : Int) > 100) := by omega
    have cP := fun W => pparse_any l W (by omega)
    have cQ := fun W => qparse_any l W (by omega)
    have hbk : (pw (wds l)).2 = 0 → rtx (pw (wds l)).1 = l ∧ Wf (pw (wds l)).1 := fun h => by
      obtain ⟨b1, b2, b3⟩ := pw_back h
      exact ⟨by rw [b1, jn_wds], okr_wf b2 b3⟩
    obtain ⟨R, hR⟩ : ∃ R, pw (wds l) = R := ⟨_, rfl⟩
    rw [hR] at hbk
    rw [hR] at cP cQ
    clear hR
    obtain ⟨⟨s, p, A, N, g, h⟩, E⟩ := R
    simp only at cP cQ hbk
    have HBK := Lib.hid hbk
    clear hbk
    go_enter Tryd.func4, Tryd.ntmps4
    go_wp2_with fail
    refine (cP _).mono ?_
    rintro e W1 ⟨rfl, hb1⟩
    obtain ⟨W2, hW2⟩ : ∃ W, W1.alloc (.cells #[.int .i64 s, .bool p, .int .u32 (A : Int), .int .i64 N, .int .i64 g, .int .i64 h] 26) = W := ⟨_, rfl⟩
    have b2 : Below W1.heap.size W1 W2 := by rw [← hW2]; exact below_alloc1 _ _
    have K1 : Hid (∀ V, Below W2.heap.size W2 V → _) := Lib.hid (fun V hV => rb_new hW2 hV)
    have hb2 : Below w.heap.size w W2 := hb1.trans (b2.mono hb1.size)
    clear b2 hb1
    go_wp2_with fail
    refine (cQ _).mono ?_
    rintro e W3 ⟨rfl, hb3⟩
    clear hW2
    obtain ⟨W4, hW4⟩ : ∃ W, W3.alloc (.cells #[.int .i64 s, .bool p, .int .u32 (A : Int), .int .i64 N, .int .i64 g, .int .i64 h] 34) = W := ⟨_, rfl⟩
    have b4 : Below W3.heap.size W3 W4 := by rw [← hW4]; exact below_alloc1 _ _
    have t4 : Below W2.heap.size W2 W4 := hb3.trans (b4.mono hb3.size)
    have hb4 : Below w.heap.size w W4 := hb2.trans (t4.mono hb2.size)
    have HT := Lib.hid (ht.step hb4)
    have HB4 := Lib.hid hb4
    obtain ⟨k0, k1, k2, k3, k4, k5⟩ := K1.out _ t4
    obtain ⟨j0, j1, j2, j3, j4, j5⟩ := rb_new hW4 (Below.refl _ _)
    have cp := fun W => plain_any ⟨s, p, A, N, g, h⟩ W
    clear hb2 hb3 b4 t4 hb4 K1 cP cQ
    by_cases q : E = 0
    · have n1 : (E != 0) = false := by simpa using q
      obtain ⟨e1, e2⟩ := HBK.out q
      have ct : ∀ W, Tab W → _ := fun W hT => ptext_any ⟨s, p, A, N, g, h⟩ W e2 hT
      rw [e1] at ct
      clear HBK e1 e2
      go_wp2_with fail
      clear hW4
      refine wp_region_quiet_below (by kernel_rfl) (by kernel_rfl) ?_
      have gg0 := cell_regrown k0
      have gg1 := cell_regrown k1
      have gg2 := cell_regrown k2
      have gg3 := cell_regrown k3
      have gg4 := cell_regrown k4
      have gg5 := cell_regrown k5
      have gg6 := cell_regrown j0
      have gg7 := cell_regrown j1
      have gg8 := cell_regrown j2
      have gg9 := cell_regrown j3
      have gg10 := cell_regrown j4
      have gg11 := cell_regrown j5
      have zz0 : ∀ d os, _ := fun d os => Calls.regrown_of (w := W4) (d := d) (os := os) (alive_any _ (HT.out.step (below_regrown _ _ _)))
      have zz1 : ∀ d os, _ := fun d os => Calls.regrown_of (w := W4) (d := d) (os := os) (cp _)
      have zz2 : ∀ d os, _ := fun d os => Calls.regrown_of (w := W4) (d := d) (os := os) (ct _ (HT.out.step (below_regrown _ _ _)))
      repeat (first | go_big_quiet_step (with_reducible exact zz0 _ _) | go_big_quiet_step (with_reducible exact zz1 _ _) | go_big_quiet_step (with_reducible exact zz2 _ _) | go_big_quiet_step (fail) | go_big_quiet_skip)
      refine wpQuiet_nil ?_
      intro W9 hw'
      obtain ⟨⟨dq, osq⟩, hw''⟩ := hw'
      have hbz := below_regrown W4 dq osq
      rw [← hw''] at hbz
      clear hw'' gg0 gg1 gg2 gg3 gg4 gg5 gg6 gg7 gg8 gg9 gg10 gg11 zz0 zz1 zz2
      clear k0 k1 k2 k3 k4 k5 j0 j1 j2 j3 j4 j5
      go_wp2
      go_ret
      exact ⟨rfl, HB4.out.trans (hbz.mono HB4.out.size)⟩
    · have n1 : (E != 0) = true := by simpa using q
      clear HBK
      go_wp2_with fail
      clear hW4
      refine wp_region_quiet_below (by kernel_rfl) (by kernel_rfl) ?_
      have gg0 := cell_regrown k0
      have gg1 := cell_regrown k1
      have gg2 := cell_regrown k2
      have gg3 := cell_regrown k3
      have gg4 := cell_regrown k4
      have gg5 := cell_regrown k5
      have gg6 := cell_regrown j0
      have gg7 := cell_regrown j1
      have gg8 := cell_regrown j2
      have gg9 := cell_regrown j3
      have gg10 := cell_regrown j4
      have gg11 := cell_regrown j5
      have zz0 : ∀ d os, _ := fun d os => Calls.regrown_of (w := W4) (d := d) (os := os) (alive_any _ (HT.out.step (below_regrown _ _ _)))
      have zz1 : ∀ d os, _ := fun d os => Calls.regrown_of (w := W4) (d := d) (os := os) (cp _)
      repeat (first | go_big_quiet_step (with_reducible exact zz0 _ _) | go_big_quiet_step (with_reducible exact zz1 _ _) | go_big_quiet_step (fail) | go_big_quiet_skip)
      refine wpQuiet_nil ?_
      intro W9 hw'
      obtain ⟨⟨dq, osq⟩, hw''⟩ := hw'
      have hbz := below_regrown W4 dq osq
      rw [← hw''] at hbz
      clear hw'' gg0 gg1 gg2 gg3 gg4 gg5 gg6 gg7 gg8 gg9 gg10 gg11 zz0 zz1
      clear k0 k1 k2 k3 k4 k5 j0 j1 j2 j3 j4 j5
      go_wp2
      go_ret
      exact ⟨rfl, HB4.out.trans (hbz.mono HB4.out.size)⟩
theorem parse_walk2 (s : ByteArray) (w : World) (ht : Tab w) : Calls Tryd.prog 4 #[.string s] w fun e w' => e = .returned (.bool true) ∧ Below w.heap.size w w' := by
  rw [st_of s]
  exact parse_walk _ w ht
end Go.Proofs.YtkofpijhihghpaaDoor
