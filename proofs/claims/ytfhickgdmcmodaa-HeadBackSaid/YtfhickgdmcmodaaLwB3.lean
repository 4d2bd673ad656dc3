/-
  The walk of the law HeadBack, the last two arms. No statement is proved here; no conditions.
-/
import Derived.Test.YtfhickgdmcmodaaLwB1
namespace Go.Proofs.Ytfhickgdmcmodaa
open Go.RowKit Go.Joins

set_option maxRecDepth 100000 in
set_option maxHeartbeats 4000000 in
theorem back_a9 (p : Pk) (A : Option Addr) (c : Nat) (at_ by_ : Int) (w : World) (ok : Okp p) (hb : Bt w A p.b) (hy0 : 0 ≤ by_) (hy1 : by_ < 256) (h1 : ¬ 1600 < p.b.length) (hm : mayp p = true) (a1 : ¬ at_ < 0) (a2 : ¬ at_ ≥ 24 + (p.b.length : Int)) (a3 : ¬ (16 ≤ at_ ∧ at_ < 24)) (a7 : ¬ by_ = 0) (a9 : at_ ≥ 16) :
    Calls Try.prog 6 #[pv' p A c, .int .i64 at_, .int .u8 by_] w fun e w' => e = .returned (.bool true) ∧ Below w.heap.size w w' := by
  obtain ⟨n, hn⟩ : ∃ n, p.b.length = n := ⟨_, rfl⟩
  have cM : ∀ V, Calls Try.prog 11 #[.agg #[.int .i64 p.t, .int .u32 p.r, .int .u32 p.a, .int .i64 p.u, .int .u8 p.h0, .int .u8 p.h1, .int .u8 p.h2, .int .u8 p.h3, .int .u8 p.h4, .int .u8 p.h5, .int .u8 p.h6, .int .u8 p.h7, .slice A n c]] V fun e w' => e = .returned (.bool (mayp p)) ∧ Below V.heap.size V w' := fun V => by
    have := may_any p A c V
    unfold pv' at this
    rwa [hn] at this
  have cP : ∀ V A' c', Calls Try.prog 10 #[.agg #[.int .i64 p.t, .int .u32 p.r, .int .u32 p.a, .int .i64 p.u, .int .u8 p.h0, .int .u8 p.h1, .int .u8 p.h2, .int .u8 p.h3, .int .u8 p.h4, .int .u8 p.h5, .int .u8 p.h6, .int .u8 p.h7, .slice A' n c']] V fun e w' => e = .returned (.agg #[.int .i64 p.t, .int .u32 p.r, .int .u32 p.a, .int .i64 p.u, .int .u8 p.h0, .int .u8 p.h1, .int .u8 p.h2, .int .u8 p.h3, .int .u8 p.h4, .int .u8 p.h5, .int .u8 p.h6, .int .u8 p.h7, .slice A' n c']) ∧ Below V.heap.size V w' := fun V A' c' => by
    have := plain_any p A' c' V
    unfold pv' at this
    rwa [hn] at this
  have cS : ∀ V A1 c1 A2 c2, Bt V A1 p.b → Bt V A2 p.b → Calls Try.prog 15 #[.agg #[.int .i64 p.t, .int .u32 p.r, .int .u32 p.a, .int .i64 p.u, .int .u8 p.h0, .int .u8 p.h1, .int .u8 p.h2, .int .u8 p.h3, .int .u8 p.h4, .int .u8 p.h5, .int .u8 p.h6, .int .u8 p.h7, .slice A1 n c1], .agg #[.int .i64 p.t, .int .u32 p.r, .int .u32 p.a, .int .i64 p.u, .int .u8 p.h0, .int .u8 p.h1, .int .u8 p.h2, .int .u8 p.h3, .int .u8 p.h4, .int .u8 p.h5, .int .u8 p.h6, .int .u8 p.h7, .slice A2 n c2]] V fun e w' => e = .returned (.bool true) ∧ Below V.heap.size V w' := fun V A1 c1 A2 c2 g1 g2 => by
    have := same_any p A1 A2 c1 c2 V g1 g2
    unfold pv' at this
    rwa [hn] at this
  have cE0 : ∀ V A' c', Bt V A' p.b → Calls Try.prog 8 #[.agg #[.int .i64 p.t, .int .u32 p.r, .int .u32 p.a, .int .i64 p.u, .int .u8 p.h0, .int .u8 p.h1, .int .u8 p.h2, .int .u8 p.h3, .int .u8 p.h4, .int .u8 p.h5, .int .u8 p.h6, .int .u8 p.h7, .slice A' n c']] V fun e w' => ∃ A'' c'', e = .returned (.tuple #[.slice A'' (encL p).length c'', .int .i64 (encE p)]) ∧ Own .u8 5 w' V.heap.size A'' c'' (encL p) ∧ Below V.heap.size V w' := fun V A' c' hV => by
    have := encode_any p A' c' V ok hV
    unfold pv' at this
    rwa [hn] at this
  unfold pv'
  rw [hn]
  obtain ⟨W0, hW0⟩ : ∃ W0, w.alloc (.cells #[.int .i64 p.t, .int .u32 p.r, .int .u32 p.a, .int .i64 p.u, .int .u8 p.h0, .int .u8 p.h1, .int .u8 p.h2, .int .u8 p.h3, .int .u8 p.h4, .int .u8 p.h5, .int .u8 p.h6, .int .u8 p.h7, .slice A n c] 26) = W0 := ⟨_, rfl⟩
  have b0 : Below w.heap.size w W0 := by rw [← hW0]; exact below_alloc1 _ _
  have s0 : W0.heap.size = w.heap.size + 1 := by rw [← hW0]; simp
  have KX : Hid (∀ V, Below W0.heap.size W0 V → V.cell? ⟨w.heap.size, 0, none⟩ = some (.int .i64 p.t) ∧ V.cell? ⟨w.heap.size, 1, none⟩ = some (.int .u32 p.r) ∧ V.cell? ⟨w.heap.size, 2, none⟩ = some (.int .u32 p.a) ∧ V.cell? ⟨w.heap.size, 3, none⟩ = some (.int .i64 p.u) ∧ V.cell? ⟨w.heap.size, 4, none⟩ = some (.int .u8 p.h0) ∧ V.cell? ⟨w.heap.size, 5, none⟩ = some (.int .u8 p.h1) ∧ V.cell? ⟨w.heap.size, 6, none⟩ = some (.int .u8 p.h2) ∧ V.cell? ⟨w.heap.size, 7, none⟩ = some (.int .u8 p.h3) ∧ V.cell? ⟨w.heap.size, 8, none⟩ = some (.int .u8 p.h4) ∧ V.cell? ⟨w.heap.size, 9, none⟩ = some (.int .u8 p.h5) ∧ V.cell? ⟨w.heap.size, 10, none⟩ = some (.int .u8 p.h6) ∧ V.cell? ⟨w.heap.size, 11, none⟩ = some (.int .u8 p.h7) ∧ V.cell? ⟨w.heap.size, 12, none⟩ = some (.slice A n c)) := Lib.hid (fun V hV => kb_new hW0 hV)
  have hb0 := hb.step b0
  have HB : Hid (Below w.heap.size w W0) := Lib.hid b0
  have T0 : Below W0.heap.size W0 W0 := Below.refl _ _
  clear b0
  obtain ⟨k0, k1, k2, k3, k4, k5, k6, k7, k8, k9, k10, k11, k12⟩ := KX.out _ T0
  rw [hn] at h1
  have h2 : ¬ ((n : Int) > 1600) := by omega
  have e1 : encE p = 0 := by simp [encE, hm]
  have e2 : encL p = enc p := by simp [encL, hm]
  have hX : (enc p).length = 24 + n := by rw [enc_length, hn]
  have fX := flt_enc p ok hm
  have dX := decp_enc p ok hm
  have yX := enc_byt p ok
  rw [e1, e2, hX] at cE0
  rw [hm] at cM
  obtain ⟨X, hXX⟩ : ∃ X, enc p = X := ⟨_, rfl⟩
  rw [hXX] at cE0 hX fX dX yX
  have cD : ∀ V A' c', Bt V A' X → 24 + n ≤ c' → Calls Try.prog 13 #[.slice A' (24 + n) c'] V fun e w' => ∃ A'' c'', e = .returned (.tuple #[.agg #[.int .i64 p.t, .int .u32 p.r, .int .u32 p.a, .int .i64 p.u, .int .u8 p.h0, .int .u8 p.h1, .int .u8 p.h2, .int .u8 p.h3, .int .u8 p.h4, .int .u8 p.h5, .int .u8 p.h6, .int .u8 p.h7, .slice A'' n c''], .int .i64 0]) ∧ Own .u8 5 w' V.heap.size A'' c'' p.b ∧ Below V.heap.size V w' := fun V A' c' hV hc' => by
    have := decode_any A' c' X V hV yX (by omega) (by omega)
    unfold pv' at this
    rwa [dX, fX, hn, hX] at this
  have FX := Lib.hid fX
  clear e1 e2 hXX dX fX hm
  rw [hn] at a2
  obtain ⟨N, hN⟩ : ∃ N, 24 + n = N := ⟨_, rfl⟩
  rw [hN] at cE0 cD hX
  have HXN := Lib.hid hX
  rw [show (24 + (n : Int)) = (N : Int) by omega] at a2
  have a8 : (by_ == 0) = false := by simpa using a7
  obtain ⟨k, rfl⟩ := Int.eq_ofNat_of_zero_le (show 0 ≤ at_ by omega)
  have hk : k < X.length := by omega
  have ho : k < 16 ∨ 24 ≤ k := by omega
  have hx := byt_getD yX k
  have hxl : X.getD k 0 = X[k] := by simp [List.getD, hk]
  have hv := xor_byte (X.getD k 0) by_ hx.1 hx.2 hy0 hy1 a7
  obtain ⟨v, hvv⟩ : ∃ v, bits .xor .u8 (X.getD k 0) by_ = v := ⟨_, rfl⟩
  rw [hvv] at hv
  have hspoil := flt_set X yX FX.out k v hk ho hv.1 hv.2.1 (by rw [← hxl]; exact hv.2.2)
  have yS : Byt (X.set k v) := fun x hx => by
    rcases List.mem_or_eq_of_mem_set hx with h | rfl
    · exact yX x h
    · exact ⟨hv.1, hv.2.1⟩
  obtain ⟨E, hE⟩ : ∃ E, flt (X.set k v) = E := ⟨_, rfl⟩
  rw [hE] at hspoil
  have hE1 : (E == 0) = false := by simpa using hspoil
  have hE2 : (E != 0) = true := by simpa using hspoil
  have cD2 : ∀ V A' c', Bt V A' (X.set k v) → N ≤ c' → Calls Try.prog 13 #[.slice A' N c'] V fun e w' => ∃ d A'' c'', e = .returned (.tuple #[pv' d A'' c'', .int .i64 E]) ∧ Below V.heap.size V w' := fun V A' c' hV hc' => by
    have := decode_any A' c' (X.set k v) V hV yS (by rw [List.length_set]; omega) (by rw [List.length_set]; omega)
    rw [hE, List.length_set, HXN.out] at this
    exact this.mono fun e w' ⟨A'', c'', q1, _, q3⟩ => ⟨_, A'', c'', q1, q3⟩
  have HV := Lib.hid hvv
  have a13 : ((k : Nat) : Int) < (N : Int) := by omega
  have a14 : k < N := by omega
  obtain ⟨xk, hxk⟩ : ∃ xk, X.getD k 0 = xk := ⟨_, rfl⟩
  have HXK := Lib.hid hxk
  rw [hxk] at hvv
  clear hspoil yS hE yX hv hx hxl hxk a7 hX hk
  have a10 : ¬ ((k : Nat) : Int) < 24 := fun h => a3 ⟨a9, h⟩
  clear a3
  go_enter Try.func6, Try.ntmps6
  go_wp2_with fail
  refine (cE0 _ _ _ hb0).mono ?_
  rintro e W1 ⟨A1, c1, rfl, o1, u1⟩
  have O1 := Lib.hid o1
  have hc1 := o1.cap_le
  rw [HXN.out] at hc1
  clear k0 k1 k2 k3 k4 k5 k6 k7 k8 k9 k10 k11 k12 o1
  obtain ⟨k0, k1, k2, k3, k4, k5, k6, k7, k8, k9, k10, k11, k12⟩ := KX.out _ u1
  go_wp2_with fail
  refine (cM _).mono ?_
  rintro e W2 ⟨rfl, u2⟩
  have t2 := u1.trans (u2.mono u1.size)
  have O2 := Lib.hid (O1.out.below u2 (Nat.le_refl _))
  clear k0 k1 k2 k3 k4 k5 k6 k7 k8 k9 k10 k11 k12
  obtain ⟨k0, k1, k2, k3, k4, k5, k6, k7, k8, k9, k10, k11, k12⟩ := KX.out _ t2
  go_wp2_with fail
  refine (cD _ _ _ O2.out.bs hc1).mono ?_
  rintro e W3 ⟨A3, c3, rfl, o3, u3⟩
  have t3 := t2.trans (u3.mono t2.size)
  have O3 := Lib.hid (O2.out.below u3 (Nat.le_refl _))
  have B3 := o3.bs
  obtain ⟨W4, hW4⟩ : ∃ V, W3.alloc (.cells #[.int .i64 p.t, .int .u32 p.r, .int .u32 p.a, .int .i64 p.u, .int .u8 p.h0, .int .u8 p.h1, .int .u8 p.h2, .int .u8 p.h3, .int .u8 p.h4, .int .u8 p.h5, .int .u8 p.h6, .int .u8 p.h7, .slice A3 n c3] 26) = V := ⟨_, rfl⟩
  have u4 : Below W3.heap.size W3 W4 := by rw [← hW4]; exact below_alloc1 _ _
  have t4 := t3.trans (u4.mono t3.size)
  have O4 := Lib.hid (O3.out.below u4 (Nat.le_refl _))
  have B4 := Bs.step B3 u4
  have K4 : Hid (∀ V, Below W4.heap.size W4 V → V.cell? ⟨W3.heap.size, 0, none⟩ = some (.int .i64 p.t) ∧ V.cell? ⟨W3.heap.size, 1, none⟩ = some (.int .u32 p.r) ∧ V.cell? ⟨W3.heap.size, 2, none⟩ = some (.int .u32 p.a) ∧ V.cell? ⟨W3.heap.size, 3, none⟩ = some (.int .i64 p.u) ∧ V.cell? ⟨W3.heap.size, 4, none⟩ = some (.int .u8 p.h0) ∧ V.cell? ⟨W3.heap.size, 5, none⟩ = some (.int .u8 p.h1) ∧ V.cell? ⟨W3.heap.size, 6, none⟩ = some (.int .u8 p.h2) ∧ V.cell? ⟨W3.heap.size, 7, none⟩ = some (.int .u8 p.h3) ∧ V.cell? ⟨W3.heap.size, 8, none⟩ = some (.int .u8 p.h4) ∧ V.cell? ⟨W3.heap.size, 9, none⟩ = some (.int .u8 p.h5) ∧ V.cell? ⟨W3.heap.size, 10, none⟩ = some (.int .u8 p.h6) ∧ V.cell? ⟨W3.heap.size, 11, none⟩ = some (.int .u8 p.h7) ∧ V.cell? ⟨W3.heap.size, 12, none⟩ = some (.slice A3 n c3)) := Lib.hid (fun V hV => kb_new hW4 hV)
  obtain ⟨j0, j1, j2, j3, j4, j5, j6, j7, j8, j9, j10, j11, j12⟩ := K4.out _ (Below.refl _ _)
  clear o3 O1 O2 O3 B3 k0 k1 k2 k3 k4 k5 k6 k7 k8 k9 k10 k11 k12
  go_wp2_with fail
  clear hW4
  refine (cE0 _ _ _ B4).mono ?_
  rintro e W5 ⟨A5, c5, rfl, o5, u5⟩
  have t5 := t4.trans (u5.mono t4.size)
  have O5 := Lib.hid (O4.out.below u5 (Nat.le_refl _))
  have B5 := Bs.step B4 u5
  have q1 := O5.out.bs
  have q5 := o5.bs
  have qb := hb0.step t5
  clear j0 j1 j2 j3 j4 j5 j6 j7 j8 j9 j10 j11 j12 o5 O4 B4
  obtain ⟨j0, j1, j2, j3, j4, j5, j6, j7, j8, j9, j10, j11, j12⟩ := K4.out _ u5
  obtain ⟨k0, k1, k2, k3, k4, k5, k6, k7, k8, k9, k10, k11, k12⟩ := KX.out _ t5
  go_wp2_with fail
  refine wp_region_quiet_below (by kernel_rfl) (by kernel_rfl) ?_
  have gg0 := cell_regrown k0
  have gg1 := cell_regrown k1
  have gg2 := cell_regrown k2
  have gg3 := cell_regrown k3
  have gg4 := cell_regrown k4
  have gg5 := cell_regrown k5
  have gg6 := cell_regrown k6
  have gg7 := cell_regrown k7
  have gg8 := cell_regrown k8
  have gg9 := cell_regrown k9
  have gg10 := cell_regrown k10
  have gg11 := cell_regrown k11
  have gg12 := cell_regrown k12
  have gg13 := cell_regrown j0
  have gg14 := cell_regrown j1
  have gg15 := cell_regrown j2
  have gg16 := cell_regrown j3
  have gg17 := cell_regrown j4
  have gg18 := cell_regrown j5
  have gg19 := cell_regrown j6
  have gg20 := cell_regrown j7
  have gg21 := cell_regrown j8
  have gg22 := cell_regrown j9
  have gg23 := cell_regrown j10
  have gg24 := cell_regrown j11
  have gg25 := cell_regrown j12
  have ss0 := str_regrown (c := c5) q5 HXN.out.symm
  have ss1 := str_regrown (c := c1) q1 HXN.out.symm
  have zz0 : ∀ d os, _ := fun d os => Calls.regrown_of (w := W5) (d := d) (os := os) (cP _ A3 c3)
  have zz1 : ∀ d os, _ := fun d os => Calls.regrown_of (w := W5) (d := d) (os := os) (cP _ A c)
  have zz2 : ∀ d os, _ := fun d os => Calls.regrown_of (w := W5) (d := d) (os := os) (cS _ A3 c3 A c (Bs.step B5 (below_regrown W5 d os)) (Bs.step qb (below_regrown W5 d os)))
  repeat (first | go_big_quiet_step (with_reducible exact zz0 _ _) | go_big_quiet_step (with_reducible exact zz1 _ _) | go_big_quiet_step (with_reducible exact zz2 _ _) | go_big_quiet_step (fail) | go_big_quiet_skip)
  refine wpQuiet_nil ?_
  intro W9 hw'
  obtain ⟨⟨dq, osq⟩, hw''⟩ := hw'
  have hbz := below_regrown W5 dq osq
  rw [← hw''] at hbz
  clear hw'' gg0 gg1 gg2 gg3 gg4 gg5 gg6 gg7 gg8 gg9 gg10 gg11 gg12 gg13 gg14 gg15 gg16 gg17 gg18 gg19 gg20 gg21 gg22 gg23 gg24 gg25 zz0 zz1 zz2 ss0 ss1
  have T9 := Lib.hid (t5.trans (hbz.mono t5.size))
  have O9 := Lib.hid (O5.out.below hbz (Nat.le_refl _))
  clear hbz q1 q5 qb B5 O5 t2 t3 t4 t5 u1 u2 u3 u4 u5 K4 k0 k1 k2 k3 k4 k5 k6 k7 k8 k9 k10 k11 k12 j0 j1 j2 j3 j4 j5 j6 j7 j8 j9 j10 j11 j12
  obtain ⟨g, rfl⟩ : ∃ g, A1 = some ⟨g, 0, none⟩ := by
    rcases O9.out.form with ⟨_, _, h⟩ | ⟨g, _, h, _⟩
    · have := HXN.out
      rw [h] at this
      simp at this
      omega
    · exact ⟨g, h⟩
  have hcx := O9.out.cellAt (i := k) (by rw [HXN.out]; exact a14)
  rw [HXK.out] at hcx
  have hfr := O9.out.frozen k
  have hg0 := (O9.out.blk_lt g rfl).1
  have OS := Lib.hid (O9.out.set k v)
  have TS := Lib.hid (T9.out.setCell (p := ⟨g, k, none⟩) hg0 (.int .u8 v))
  go_wp2_with fail
  generalize hWS : W9.setCell ⟨g, k, none⟩ (.int .u8 v) = WS at OS TS ⊢
  clear hWS hcx hfr O9 T9
  refine (cD2 _ _ _ OS.out.bs hc1).mono ?_
  rintro e WB ⟨d, AB, cB, rfl, ub⟩
  have tb := TS.out.trans (ub.mono TS.out.size)
  obtain ⟨WC, hWC⟩ : ∃ V, WB.alloc (.cells #[.int .i64 d.t, .int .u32 d.r, .int .u32 d.a, .int .i64 d.u, .int .u8 d.h0, .int .u8 d.h1, .int .u8 d.h2, .int .u8 d.h3, .int .u8 d.h4, .int .u8 d.h5, .int .u8 d.h6, .int .u8 d.h7, .slice AB d.b.length cB] 26) = V := ⟨_, rfl⟩
  have uc : Below WB.heap.size WB WC := by rw [← hWC]; exact below_alloc1 _ _
  have tc_ := Lib.hid (tb.trans (uc.mono tb.size))
  clear ub tb uc
  go_wp2_with fail
  refine (alive_any _).mono ?_
  rintro e WA ⟨rfl, ua⟩
  go_wp2
  go_ret
  have TA := tc_.out.trans (ua.mono tc_.out.size)
  exact ⟨rfl, HB.out.trans (TA.mono HB.out.size)⟩
set_option maxRecDepth 100000 in
set_option maxHeartbeats 4000000 in
theorem back_a10 (p : Pk) (A : Option Addr) (c : Nat) (at_ by_ : Int) (w : World) (ok : Okp p) (hb : Bt w A p.b) (hy0 : 0 ≤ by_) (hy1 : by_ < 256) (h1 : ¬ 1600 < p.b.length) (hm : mayp p = true) (a1 : ¬ at_ < 0) (a2 : ¬ at_ ≥ 24 + (p.b.length : Int)) (a3 : ¬ (16 ≤ at_ ∧ at_ < 24)) (a7 : ¬ by_ = 0) (a9 : ¬ at_ ≥ 16) :
    Calls Try.prog 6 #[pv' p A c, .int .i64 at_, .int .u8 by_] w fun e w' => e = .returned (.bool true) ∧ Below w.heap.size w w' := by
  obtain ⟨n, hn⟩ : ∃ n, p.b.length = n := ⟨_, rfl⟩
  have cM : ∀ V, Calls Try.prog 11 #[.agg #[.int .i64 p.t, .int .u32 p.r, .int .u32 p.a, .int .i64 p.u, .int .u8 p.h0, .int .u8 p.h1, .int .u8 p.h2, .int .u8 p.h3, .int .u8 p.h4, .int .u8 p.h5, .int .u8 p.h6, .int .u8 p.h7, .slice A n c]] V fun e w' => e = .returned (.bool (mayp p)) ∧ Below V.heap.size V w' := fun V => by
    have := may_any p A c V
    unfold pv' at this
    rwa [hn] at this
  have cP : ∀ V A' c', Calls Try.prog 10 #[.agg #[.int .i64 p.t, .int .u32 p.r, .int .u32 p.a, .int .i64 p.u, .int .u8 p.h0, .int .u8 p.h1, .int .u8 p.h2, .int .u8 p.h3, .int .u8 p.h4, .int .u8 p.h5, .int .u8 p.h6, .int .u8 p.h7, .slice A' n c']] V fun e w' => e = .returned (.agg #[.int .i64 p.t, .int .u32 p.r, .int .u32 p.a, .int .i64 p.u, .int .u8 p.h0, .int .u8 p.h1, .int .u8 p.h2, .int .u8 p.h3, .int .u8 p.h4, .int .u8 p.h5, .int .u8 p.h6, .int .u8 p.h7, .slice A' n c']) ∧ Below V.heap.size V w' := fun V A' c' => by
    have := plain_any p A' c' V
    unfold pv' at this
    rwa [hn] at this
  have cS : ∀ V A1 c1 A2 c2, Bt V A1 p.b → Bt V A2 p.b → Calls Try.prog 15 #[.agg #[.int .i64 p.t, .int .u32 p.r, .int .u32 p.a, .int .i64 p.u, .int .u8 p.h0, .int .u8 p.h1, .int .u8 p.h2, .int .u8 p.h3, .int .u8 p.h4, .int .u8 p.h5, .int .u8 p.h6, .int .u8 p.h7, .slice A1 n c1], .agg #[.int .i64 p.t, .int .u32 p.r, .int .u32 p.a, .int .i64 p.u, .int .u8 p.h0, .int .u8 p.h1, .int .u8 p.h2, .int .u8 p.h3, .int .u8 p.h4, .int .u8 p.h5, .int .u8 p.h6, .int .u8 p.h7, .slice A2 n c2]] V fun e w' => e = .returned (.bool true) ∧ Below V.heap.size V w' := fun V A1 c1 A2 c2 g1 g2 => by
    have := same_any p A1 A2 c1 c2 V g1 g2
    unfold pv' at this
    rwa [hn] at this
  have cE0 : ∀ V A' c', Bt V A' p.b → Calls Try.prog 8 #[.agg #[.int .i64 p.t, .int .u32 p.r, .int .u32 p.a, .int .i64 p.u, .int .u8 p.h0, .int .u8 p.h1, .int .u8 p.h2, .int .u8 p.h3, .int .u8 p.h4, .int .u8 p.h5, .int .u8 p.h6, .int .u8 p.h7, .slice A' n c']] V fun e w' => ∃ A'' c'', e = .returned (.tuple #[.slice A'' (encL p).length c'', .int .i64 (encE p)]) ∧ Own .u8 5 w' V.heap.size A'' c'' (encL p) ∧ Below V.heap.size V w' := fun V A' c' hV => by
    have := encode_any p A' c' V ok hV
    unfold pv' at this
    rwa [hn] at this
  unfold pv'
  rw [hn]
  obtain ⟨W0, hW0⟩ : ∃ W0, w.alloc (.cells #[.int .i64 p.t, .int .u32 p.r, .int .u32 p.a, .int .i64 p.u, .int .u8 p.h0, .int .u8 p.h1, .int .u8 p.h2, .int .u8 p.h3, .int .u8 p.h4, .int .u8 p.h5, .int .u8 p.h6, .int .u8 p.h7, .slice A n c] 26) = W0 := ⟨_, rfl⟩
  have b0 : Below w.heap.size w W0 := by rw [← hW0]; exact below_alloc1 _ _
  have s0 : W0.heap.size = w.heap.size + 1 := by rw [← hW0]; simp
  have KX : Hid (∀ V, Below W0.heap.size W0 V → V.cell? ⟨w.heap.size, 0, none⟩ = some (.int .i64 p.t) ∧ V.cell? ⟨w.heap.size, 1, none⟩ = some (.int .u32 p.r) ∧ V.cell? ⟨w.heap.size, 2, none⟩ = some (.int .u32 p.a) ∧ V.cell? ⟨w.heap.size, 3, none⟩ = some (.int .i64 p.u) ∧ V.cell? ⟨w.heap.size, 4, none⟩ = some (.int .u8 p.h0) ∧ V.cell? ⟨w.heap.size, 5, none⟩ = some (.int .u8 p.h1) ∧ V.cell? ⟨w.heap.size, 6, none⟩ = some (.int .u8 p.h2) ∧ V.cell? ⟨w.heap.size, 7, none⟩ = some (.int .u8 p.h3) ∧ V.cell? ⟨w.heap.size, 8, none⟩ = some (.int .u8 p.h4) ∧ V.cell? ⟨w.heap.size, 9, none⟩ = some (.int .u8 p.h5) ∧ V.cell? ⟨w.heap.size, 10, none⟩ = some (.int .u8 p.h6) ∧ V.cell? ⟨w.heap.size, 11, none⟩ = some (.int .u8 p.h7) ∧ V.cell? ⟨w.heap.size, 12, none⟩ = some (.slice A n c)) := Lib.hid (fun V hV => kb_new hW0 hV)
  have hb0 := hb.step b0
  have HB : Hid (Below w.heap.size w W0) := Lib.hid b0
  have T0 : Below W0.heap.size W0 W0 := Below.refl _ _
  clear b0
  obtain ⟨k0, k1, k2, k3, k4, k5, k6, k7, k8, k9, k10, k11, k12⟩ := KX.out _ T0
  rw [hn] at h1
  have h2 : ¬ ((n : Int) > 1600) := by omega
  have e1 : encE p = 0 := by simp [encE, hm]
  have e2 : encL p = enc p := by simp [encL, hm]
  have hX : (enc p).length = 24 + n := by rw [enc_length, hn]
  have fX := flt_enc p ok hm
  have dX := decp_enc p ok hm
  have yX := enc_byt p ok
  rw [e1, e2, hX] at cE0
  rw [hm] at cM
  obtain ⟨X, hXX⟩ : ∃ X, enc p = X := ⟨_, rfl⟩
  rw [hXX] at cE0 hX fX dX yX
  have cD : ∀ V A' c', Bt V A' X → 24 + n ≤ c' → Calls Try.prog 13 #[.slice A' (24 + n) c'] V fun e w' => ∃ A'' c'', e = .returned (.tuple #[.agg #[.int .i64 p.t, .int .u32 p.r, .int .u32 p.a, .int .i64 p.u, .int .u8 p.h0, .int .u8 p.h1, .int .u8 p.h2, .int .u8 p.h3, .int .u8 p.h4, .int .u8 p.h5, .int .u8 p.h6, .int .u8 p.h7, .slice A'' n c''], .int .i64 0]) ∧ Own .u8 5 w' V.heap.size A'' c'' p.b ∧ Below V.heap.size V w' := fun V A' c' hV hc' => by
    have := decode_any A' c' X V hV yX (by omega) (by omega)
    unfold pv' at this
    rwa [dX, fX, hn, hX] at this
  have FX := Lib.hid fX
  clear e1 e2 hXX dX fX hm
  rw [hn] at a2
  obtain ⟨N, hN⟩ : ∃ N, 24 + n = N := ⟨_, rfl⟩
  rw [hN] at cE0 cD hX
  have HXN := Lib.hid hX
  rw [show (24 + (n : Int)) = (N : Int) by omega] at a2
  have a8 : (by_ == 0) = false := by simpa using a7
  obtain ⟨k, rfl⟩ := Int.eq_ofNat_of_zero_le (show 0 ≤ at_ by omega)
  have hk : k < X.length := by omega
  have ho : k < 16 ∨ 24 ≤ k := by omega
  have hx := byt_getD yX k
  have hxl : X.getD k 0 = X[k] := by simp [List.getD, hk]
  have hv := xor_byte (X.getD k 0) by_ hx.1 hx.2 hy0 hy1 a7
  obtain ⟨v, hvv⟩ : ∃ v, bits .xor .u8 (X.getD k 0) by_ = v := ⟨_, rfl⟩
  rw [hvv] at hv
  have hspoil := flt_set X yX FX.out k v hk ho hv.1 hv.2.1 (by rw [← hxl]; exact hv.2.2)
  have yS : Byt (X.set k v) := fun x hx => by
    rcases List.mem_or_eq_of_mem_set hx with h | rfl
    · exact yX x h
    · exact ⟨hv.1, hv.2.1⟩
  obtain ⟨E, hE⟩ : ∃ E, flt (X.set k v) = E := ⟨_, rfl⟩
  rw [hE] at hspoil
  have hE1 : (E == 0) = false := by simpa using hspoil
  have hE2 : (E != 0) = true := by simpa using hspoil
  have cD2 : ∀ V A' c', Bt V A' (X.set k v) → N ≤ c' → Calls Try.prog 13 #[.slice A' N c'] V fun e w' => ∃ d A'' c'', e = .returned (.tuple #[pv' d A'' c'', .int .i64 E]) ∧ Below V.heap.size V w' := fun V A' c' hV hc' => by
    have := decode_any A' c' (X.set k v) V hV yS (by rw [List.length_set]; omega) (by rw [List.length_set]; omega)
    rw [hE, List.length_set, HXN.out] at this
    exact this.mono fun e w' ⟨A'', c'', q1, _, q3⟩ => ⟨_, A'', c'', q1, q3⟩
  have HV := Lib.hid hvv
  have a13 : ((k : Nat) : Int) < (N : Int) := by omega
  have a14 : k < N := by omega
  obtain ⟨xk, hxk⟩ : ∃ xk, X.getD k 0 = xk := ⟨_, rfl⟩
  have HXK := Lib.hid hxk
  rw [hxk] at hvv
  clear hspoil yS hE yX hv hx hxl hxk a7 hX hk
  clear a3
  go_enter Try.func6, Try.ntmps6
  go_wp2_with fail
  refine (cE0 _ _ _ hb0).mono ?_
  rintro e W1 ⟨A1, c1, rfl, o1, u1⟩
  have O1 := Lib.hid o1
  have hc1 := o1.cap_le
  rw [HXN.out] at hc1
  clear k0 k1 k2 k3 k4 k5 k6 k7 k8 k9 k10 k11 k12 o1
  obtain ⟨k0, k1, k2, k3, k4, k5, k6, k7, k8, k9, k10, k11, k12⟩ := KX.out _ u1
  go_wp2_with fail
  refine (cM _).mono ?_
  rintro e W2 ⟨rfl, u2⟩
  have t2 := u1.trans (u2.mono u1.size)
  have O2 := Lib.hid (O1.out.below u2 (Nat.le_refl _))
  clear k0 k1 k2 k3 k4 k5 k6 k7 k8 k9 k10 k11 k12
  obtain ⟨k0, k1, k2, k3, k4, k5, k6, k7, k8, k9, k10, k11, k12⟩ := KX.out _ t2
  go_wp2_with fail
  refine (cD _ _ _ O2.out.bs hc1).mono ?_
  rintro e W3 ⟨A3, c3, rfl, o3, u3⟩
  have t3 := t2.trans (u3.mono t2.size)
  have O3 := Lib.hid (O2.out.below u3 (Nat.le_refl _))
  have B3 := o3.bs
  obtain ⟨W4, hW4⟩ : ∃ V, W3.alloc (.cells #[.int .i64 p.t, .int .u32 p.r, .int .u32 p.a, .int .i64 p.u, .int .u8 p.h0, .int .u8 p.h1, .int .u8 p.h2, .int .u8 p.h3, .int .u8 p.h4, .int .u8 p.h5, .int .u8 p.h6, .int .u8 p.h7, .slice A3 n c3] 26) = V := ⟨_, rfl⟩
  have u4 : Below W3.heap.size W3 W4 := by rw [← hW4]; exact below_alloc1 _ _
  have t4 := t3.trans (u4.mono t3.size)
  have O4 := Lib.hid (O3.out.below u4 (Nat.le_refl _))
  have B4 := Bs.step B3 u4
  have K4 : Hid (∀ V, Below W4.heap.size W4 V → V.cell? ⟨W3.heap.size, 0, none⟩ = some (.int .i64 p.t) ∧ V.cell? ⟨W3.heap.size, 1, none⟩ = some (.int .u32 p.r) ∧ V.cell? ⟨W3.heap.size, 2, none⟩ = some (.int .u32 p.a) ∧ V.cell? ⟨W3.heap.size, 3, none⟩ = some (.int .i64 p.u) ∧ V.cell? ⟨W3.heap.size, 4, none⟩ = some (.int .u8 p.h0) ∧ V.cell? ⟨W3.heap.size, 5, none⟩ = some (.int .u8 p.h1) ∧ V.cell? ⟨W3.heap.size, 6, none⟩ = some (.int .u8 p.h2) ∧ V.cell? ⟨W3.heap.size, 7, none⟩ = some (.int .u8 p.h3) ∧ V.cell? ⟨W3.heap.size, 8, none⟩ = some (.int .u8 p.h4) ∧ V.cell? ⟨W3.heap.size, 9, none⟩ = some (.int .u8 p.h5) ∧ V.cell? ⟨W3.heap.size, 10, none⟩ = some (.int .u8 p.h6) ∧ V.cell? ⟨W3.heap.size, 11, none⟩ = some (.int .u8 p.h7) ∧ V.cell? ⟨W3.heap.size, 12, none⟩ = some (.slice A3 n c3)) := Lib.hid (fun V hV => kb_new hW4 hV)
  obtain ⟨j0, j1, j2, j3, j4, j5, j6, j7, j8, j9, j10, j11, j12⟩ := K4.out _ (Below.refl _ _)
  clear o3 O1 O2 O3 B3 k0 k1 k2 k3 k4 k5 k6 k7 k8 k9 k10 k11 k12
  go_wp2_with fail
  clear hW4
  refine (cE0 _ _ _ B4).mono ?_
  rintro e W5 ⟨A5, c5, rfl, o5, u5⟩
  have t5 := t4.trans (u5.mono t4.size)
  have O5 := Lib.hid (O4.out.below u5 (Nat.le_refl _))
  have B5 := Bs.step B4 u5
  have q1 := O5.out.bs
  have q5 := o5.bs
  have qb := hb0.step t5
  clear j0 j1 j2 j3 j4 j5 j6 j7 j8 j9 j10 j11 j12 o5 O4 B4
  obtain ⟨j0, j1, j2, j3, j4, j5, j6, j7, j8, j9, j10, j11, j12⟩ := K4.out _ u5
  obtain ⟨k0, k1, k2, k3, k4, k5, k6, k7, k8, k9, k10, k11, k12⟩ := KX.out _ t5
  go_wp2_with fail
  refine wp_region_quiet_below (by kernel_rfl) (by kernel_rfl) ?_
  have gg0 := cell_regrown k0
  have gg1 := cell_regrown k1
  have gg2 := cell_regrown k2
  have gg3 := cell_regrown k3
  have gg4 := cell_regrown k4
  have gg5 := cell_regrown k5
  have gg6 := cell_regrown k6
  have gg7 := cell_regrown k7
  have gg8 := cell_regrown k8
  have gg9 := cell_regrown k9
  have gg10 := cell_regrown k10
  have gg11 := cell_regrown k11
  have gg12 := cell_regrown k12
  have gg13 := cell_regrown j0
  have gg14 := cell_regrown j1
  have gg15 := cell_regrown j2
  have gg16 := cell_regrown j3
  have gg17 := cell_regrown j4
  have gg18 := cell_regrown j5
  have gg19 := cell_regrown j6
  have gg20 := cell_regrown j7
  have gg21 := cell_regrown j8
  have gg22 := cell_regrown j9
  have gg23 := cell_regrown j10
  have gg24 := cell_regrown j11
  have gg25 := cell_regrown j12
  have ss0 := str_regrown (c := c5) q5 HXN.out.symm
  have ss1 := str_regrown (c := c1) q1 HXN.out.symm
  have zz0 : ∀ d os, _ := fun d os => Calls.regrown_of (w := W5) (d := d) (os := os) (cP _ A3 c3)
  have zz1 : ∀ d os, _ := fun d os => Calls.regrown_of (w := W5) (d := d) (os := os) (cP _ A c)
  have zz2 : ∀ d os, _ := fun d os => Calls.regrown_of (w := W5) (d := d) (os := os) (cS _ A3 c3 A c (Bs.step B5 (below_regrown W5 d os)) (Bs.step qb (below_regrown W5 d os)))
  repeat (first | go_big_quiet_step (with_reducible exact zz0 _ _) | go_big_quiet_step (with_reducible exact zz1 _ _) | go_big_quiet_step (with_reducible exact zz2 _ _) | go_big_quiet_step (fail) | go_big_quiet_skip)
  refine wpQuiet_nil ?_
  intro W9 hw'
  obtain ⟨⟨dq, osq⟩, hw''⟩ := hw'
  have hbz := below_regrown W5 dq osq
  rw [← hw''] at hbz
  clear hw'' gg0 gg1 gg2 gg3 gg4 gg5 gg6 gg7 gg8 gg9 gg10 gg11 gg12 gg13 gg14 gg15 gg16 gg17 gg18 gg19 gg20 gg21 gg22 gg23 gg24 gg25 zz0 zz1 zz2 ss0 ss1
  have T9 := Lib.hid (t5.trans (hbz.mono t5.size))
  have O9 := Lib.hid (O5.out.below hbz (Nat.le_refl _))
  clear hbz q1 q5 qb B5 O5 t2 t3 t4 t5 u1 u2 u3 u4 u5 K4 k0 k1 k2 k3 k4 k5 k6 k7 k8 k9 k10 k11 k12 j0 j1 j2 j3 j4 j5 j6 j7 j8 j9 j10 j11 j12
  obtain ⟨g, rfl⟩ : ∃ g, A1 = some ⟨g, 0, none⟩ := by
    rcases O9.out.form with ⟨_, _, h⟩ | ⟨g, _, h, _⟩
    · have := HXN.out
      rw [h] at this
      simp at this
      omega
    · exact ⟨g, h⟩
  have hcx := O9.out.cellAt (i := k) (by rw [HXN.out]; exact a14)
  rw [HXK.out] at hcx
  have hfr := O9.out.frozen k
  have hg0 := (O9.out.blk_lt g rfl).1
  have OS := Lib.hid (O9.out.set k v)
  have TS := Lib.hid (T9.out.setCell (p := ⟨g, k, none⟩) hg0 (.int .u8 v))
  go_wp2_with fail
  generalize hWS : W9.setCell ⟨g, k, none⟩ (.int .u8 v) = WS at OS TS ⊢
  clear hWS hcx hfr O9 T9
  refine (cD2 _ _ _ OS.out.bs hc1).mono ?_
  rintro e WB ⟨d, AB, cB, rfl, ub⟩
  have tb := TS.out.trans (ub.mono TS.out.size)
  obtain ⟨WC, hWC⟩ : ∃ V, WB.alloc (.cells #[.int .i64 d.t, .int .u32 d.r, .int .u32 d.a, .int .i64 d.u, .int .u8 d.h0, .int .u8 d.h1, .int .u8 d.h2, .int .u8 d.h3, .int .u8 d.h4, .int .u8 d.h5, .int .u8 d.h6, .int .u8 d.h7, .slice AB d.b.length cB] 26) = V := ⟨_, rfl⟩
  have uc : Below WB.heap.size WB WC := by rw [← hWC]; exact below_alloc1 _ _
  have tc_ := Lib.hid (tb.trans (uc.mono tb.size))
  clear ub tb uc
  go_wp2_with fail
  refine (alive_any _).mono ?_
  rintro e WA ⟨rfl, ua⟩
  go_wp2
  go_ret
  have TA := tc_.out.trans (ua.mono tc_.out.size)
  exact ⟨rfl, HB.out.trans (TA.mono HB.out.size)⟩
end Go.Proofs.Ytfhickgdmcmodaa
