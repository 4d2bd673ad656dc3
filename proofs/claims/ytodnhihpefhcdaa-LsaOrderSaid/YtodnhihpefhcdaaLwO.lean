/-
  The walk of the law LsaOrder. No statement is proved here; no conditions.
-/
import Derived.Test.YtodnhihpefhcdaaAl
import Derived.Test.YtodnhihpefhcdaaCp
import Derived.Test.YtodnhihpefhcdaaLe
import Derived.Test.YtodnhihpefhcdaaRCp
namespace Go.Proofs.Ytodnhihpefhcdaa
open Go.RowKit Go.Joins

def At (w : World) (b : Nat) (o : Obj) : Prop := w.heap[b]? = some o
theorem At.step {w w' : World} {b : Nat} {o : Obj} (h : At w b o) (hb : Below w.heap.size w w') : At w' b o := (hb.block b (lt_of_block h)).trans h
theorem At.lt {w : World} {b : Nat} {o : Obj} (h : At w b o) : b < w.heap.size := lt_of_block h
theorem At.mk {w w' : World} {o : Obj} (h : w.alloc o = w') : At w' w.heap.size o := by subst h; exact alloc_at _ _ _ rfl
set_option maxRecDepth 100000 in
set_option maxHeartbeats 10000000 in
theorem order_walk (a b : Hd) (w : World) (oa : 0 ≤ a.q ∧ a.q < 4294967296) (ob : 0 ≤ b.q ∧ b.q < 4294967296) :
    Calls Try.prog 5 #[.agg #[.int .i64 a.a, .int .i64 a.o, .int .i64 a.t, .int .u32 a.i, .int .u32 a.v, .int .u32 a.q, .int .i64 a.s, .int .i64 a.n], .agg #[.int .i64 b.a, .int .i64 b.o, .int .i64 b.t, .int .u32 b.i, .int .u32 b.v, .int .u32 b.q, .int .i64 b.s, .int .i64 b.n]] w fun e w' => e = .returned (.bool true) ∧ Below w.heap.size w w' := by
  obtain ⟨W0, hW0⟩ : ∃ V, w.alloc (.cells #[.int .i64 a.a, .int .i64 a.o, .int .i64 a.t, .int .u32 a.i, .int .u32 a.v, .int .u32 a.q, .int .i64 a.s, .int .i64 a.n] 24) = V := ⟨_, rfl⟩
  have bW0 : Below w.heap.size w W0 := by rw [← hW0]; exact below_alloc1 _ _
  have sW0 : W0.heap.size = w.heap.size + 1 := by rw [← hW0]; simp
  have KX : Hid (∀ V, Below W0.heap.size W0 V → V.cell? ⟨w.heap.size, 0, none⟩ = some (.int .i64 a.a) ∧ V.cell? ⟨w.heap.size, 1, none⟩ = some (.int .i64 a.o) ∧ V.cell? ⟨w.heap.size, 2, none⟩ = some (.int .i64 a.t) ∧ V.cell? ⟨w.heap.size, 3, none⟩ = some (.int .u32 a.i) ∧ V.cell? ⟨w.heap.size, 4, none⟩ = some (.int .u32 a.v) ∧ V.cell? ⟨w.heap.size, 5, none⟩ = some (.int .u32 a.q) ∧ V.cell? ⟨w.heap.size, 6, none⟩ = some (.int .i64 a.s) ∧ V.cell? ⟨w.heap.size, 7, none⟩ = some (.int .i64 a.n)) := Lib.hid (fun V hV => kb8_new hW0 hV)
  obtain ⟨W1, hW1⟩ : ∃ V, W0.alloc (.cells #[.int .i64 b.a, .int .i64 b.o, .int .i64 b.t, .int .u32 b.i, .int .u32 b.v, .int .u32 b.q, .int .i64 b.s, .int .i64 b.n] 24) = V := ⟨_, rfl⟩
  have bW1 : Below W0.heap.size W0 W1 := by rw [← hW1]; exact below_alloc1 _ _
  have sW1 : W1.heap.size = W0.heap.size + 1 := by rw [← hW1]; simp
  have KY : Hid (∀ V, Below W1.heap.size W1 V → V.cell? ⟨W0.heap.size, 0, none⟩ = some (.int .i64 b.a) ∧ V.cell? ⟨W0.heap.size, 1, none⟩ = some (.int .i64 b.o) ∧ V.cell? ⟨W0.heap.size, 2, none⟩ = some (.int .i64 b.t) ∧ V.cell? ⟨W0.heap.size, 3, none⟩ = some (.int .u32 b.i) ∧ V.cell? ⟨W0.heap.size, 4, none⟩ = some (.int .u32 b.v) ∧ V.cell? ⟨W0.heap.size, 5, none⟩ = some (.int .u32 b.q) ∧ V.cell? ⟨W0.heap.size, 6, none⟩ = some (.int .i64 b.s) ∧ V.cell? ⟨W0.heap.size, 7, none⟩ = some (.int .i64 b.n)) := Lib.hid (fun V hV => kb8_new hW1 hV)
  have b2 : Below w.heap.size w W1 := bW0.trans (bW1.mono bW0.size)
  have B2 := Lib.hid b2
  have KZ : Hid (∀ V, Below W1.heap.size W1 V → (V.cell? ⟨w.heap.size, 0, none⟩ = some (.int .i64 a.a) ∧ V.cell? ⟨w.heap.size, 1, none⟩ = some (.int .i64 a.o) ∧ V.cell? ⟨w.heap.size, 2, none⟩ = some (.int .i64 a.t) ∧ V.cell? ⟨w.heap.size, 3, none⟩ = some (.int .u32 a.i) ∧ V.cell? ⟨w.heap.size, 4, none⟩ = some (.int .u32 a.v) ∧ V.cell? ⟨w.heap.size, 5, none⟩ = some (.int .u32 a.q) ∧ V.cell? ⟨w.heap.size, 6, none⟩ = some (.int .i64 a.s) ∧ V.cell? ⟨w.heap.size, 7, none⟩ = some (.int .i64 a.n)) ∧ (V.cell? ⟨(w.heap.size + 1), 0, none⟩ = some (.int .i64 b.a) ∧ V.cell? ⟨(w.heap.size + 1), 1, none⟩ = some (.int .i64 b.o) ∧ V.cell? ⟨(w.heap.size + 1), 2, none⟩ = some (.int .i64 b.t) ∧ V.cell? ⟨(w.heap.size + 1), 3, none⟩ = some (.int .u32 b.i) ∧ V.cell? ⟨(w.heap.size + 1), 4, none⟩ = some (.int .u32 b.v) ∧ V.cell? ⟨(w.heap.size + 1), 5, none⟩ = some (.int .u32 b.q) ∧ V.cell? ⟨(w.heap.size + 1), 6, none⟩ = some (.int .i64 b.s) ∧ V.cell? ⟨(w.heap.size + 1), 7, none⟩ = some (.int .i64 b.n))) := Lib.hid (fun V hV => by
    have q1 := KX.out V (bW1.trans (hV.mono bW1.size))
    have q2 := KY.out V hV
    rw [sW0] at q2
    exact ⟨q1, q2⟩)
  have S2 : Hid (W1.heap.size = w.heap.size + 2) := Lib.hid (by omega)
  clear KX KY bW0 bW1 b2 sW1
  obtain ⟨⟨k0, k1, k2, k3, k4, k5, k6, k7⟩, ⟨j0, j1, j2, j3, j4, j5, j6, j7⟩⟩ := KZ.out _ (Below.refl _ _)
  by_cases c1 : a.a < 0
  case pos =>
    go_enter Try.func5, Try.ntmps5
    go_wp2_with fail
    refine (alive_any _).mono ?_
    rintro e V1 ⟨rfl, hv1⟩
    go_wp2
    go_ret
    exact ⟨rfl, B2.out.trans (hv1.mono B2.out.size)⟩
  by_cases c2 : a.a > 3600
  case pos =>
    go_enter Try.func5, Try.ntmps5
    go_wp2_with fail
    refine (alive_any _).mono ?_
    rintro e V1 ⟨rfl, hv1⟩
    go_wp2
    go_ret
    exact ⟨rfl, B2.out.trans (hv1.mono B2.out.size)⟩
  by_cases c3 : b.a < 0
  case pos =>
    go_enter Try.func5, Try.ntmps5
    go_wp2_with fail
    refine (alive_any _).mono ?_
    rintro e V1 ⟨rfl, hv1⟩
    go_wp2
    go_ret
    exact ⟨rfl, B2.out.trans (hv1.mono B2.out.size)⟩
  by_cases c4 : b.a > 3600
  case pos =>
    go_enter Try.func5, Try.ntmps5
    go_wp2_with fail
    refine (alive_any _).mono ?_
    rintro e V1 ⟨rfl, hv1⟩
    go_wp2
    go_ret
    exact ⟨rfl, B2.out.trans (hv1.mono B2.out.size)⟩
  obtain ⟨N, hN⟩ : ∃ N, cmpH a b = N := ⟨_, rfl⟩
  have hNb := cmpH_bd a b
  have hNa := cmpH_anti a b
  rw [hN] at hNb hNa
  have ha : 0 ≤ a.a ∧ a.a ≤ 3600 := by omega
  have hb : 0 ≤ b.a ∧ b.a ≤ 3600 := by omega
  have cC := fun V => compare_any a b V oa ob ha hb
  have cB := fun V => compare_any b a V ob oa hb ha
  have cS := fun V => compare_any a a V oa oa ha ha
  have cR := fun V => rcompare_any a b V oa ob ha hb
  rw [hN] at cC cR
  rw [hNa] at cB
  rw [cmpH_self] at cS
  have cK := fun V => key_any a V
  have cL := fun V => key_any b V
  have cP := fun V => less_any a b V
  have cQ := fun V => less_any b a V
  have cT := fun V => rless_any a b V
  have hPQ := lessK_any a b
  generalize lessK a b = P at *
  generalize lessK b a = Q at *
  have HPQ := Lib.hid hPQ
  have HNB := Lib.hid hNb
  clear hN hNb hNa ha hb hPQ oa ob
  go_enter Try.func5, Try.ntmps5
  go_wp2_with fail
  refine (cC _).mono ?_
  rintro e Y1 ⟨rfl, u1⟩
  have U1 := Lib.hid u1
  have KS : Hid (∀ V, Below Y1.heap.size Y1 V → (V.cell? ⟨w.heap.size, 0, none⟩ = some (.int .i64 a.a) ∧ V.cell? ⟨w.heap.size, 1, none⟩ = some (.int .i64 a.o) ∧ V.cell? ⟨w.heap.size, 2, none⟩ = some (.int .i64 a.t) ∧ V.cell? ⟨w.heap.size, 3, none⟩ = some (.int .u32 a.i) ∧ V.cell? ⟨w.heap.size, 4, none⟩ = some (.int .u32 a.v) ∧ V.cell? ⟨w.heap.size, 5, none⟩ = some (.int .u32 a.q) ∧ V.cell? ⟨w.heap.size, 6, none⟩ = some (.int .i64 a.s) ∧ V.cell? ⟨w.heap.size, 7, none⟩ = some (.int .i64 a.n)) ∧ (V.cell? ⟨(w.heap.size + 1), 0, none⟩ = some (.int .i64 b.a) ∧ V.cell? ⟨(w.heap.size + 1), 1, none⟩ = some (.int .i64 b.o) ∧ V.cell? ⟨(w.heap.size + 1), 2, none⟩ = some (.int .i64 b.t) ∧ V.cell? ⟨(w.heap.size + 1), 3, none⟩ = some (.int .u32 b.i) ∧ V.cell? ⟨(w.heap.size + 1), 4, none⟩ = some (.int .u32 b.v) ∧ V.cell? ⟨(w.heap.size + 1), 5, none⟩ = some (.int .u32 b.q) ∧ V.cell? ⟨(w.heap.size + 1), 6, none⟩ = some (.int .i64 b.s) ∧ V.cell? ⟨(w.heap.size + 1), 7, none⟩ = some (.int .i64 b.n))) := Lib.hid (fun V hV => KZ.out V (U1.out.trans (hV.mono U1.out.size)))
  have tt : Below Y1.heap.size Y1 Y1 := Below.refl _ _
  clear k0 k1 k2 k3 k4 k5 k6 k7 j0 j1 j2 j3 j4 j5 j6 j7 u1 hW0 hW1 sW0 c1 c2 c3 c4
  go_upto_region 4 with fail
  go_cut [6, 7] (fun v6 v7 wx => ∃ k6 k7 : Nat, v6 = .pointer (some ⟨k6, 0, none⟩) ∧ v7 = .pointer (some ⟨k7, 0, none⟩) ∧ Hid (Below Y1.heap.size Y1 wx) ∧ Hid (At wx k6 (.cells #[.int .i64 a.t, .int .u32 a.i, .int .u32 a.v] 34)) ∧ Hid (At wx k7 (.cells #[.int .i64 b.t, .int .u32 b.i, .int .u32 b.v] 34)))
  case first =>
    refine wp_region_held_drew (S := fun V => (V.cell? ⟨w.heap.size, 0, none⟩ = some (.int .i64 a.a) ∧ V.cell? ⟨w.heap.size, 1, none⟩ = some (.int .i64 a.o) ∧ V.cell? ⟨w.heap.size, 2, none⟩ = some (.int .i64 a.t) ∧ V.cell? ⟨w.heap.size, 3, none⟩ = some (.int .u32 a.i) ∧ V.cell? ⟨w.heap.size, 4, none⟩ = some (.int .u32 a.v) ∧ V.cell? ⟨w.heap.size, 5, none⟩ = some (.int .u32 a.q) ∧ V.cell? ⟨w.heap.size, 6, none⟩ = some (.int .i64 a.s) ∧ V.cell? ⟨w.heap.size, 7, none⟩ = some (.int .i64 a.n)) ∧ (V.cell? ⟨(w.heap.size + 1), 0, none⟩ = some (.int .i64 b.a) ∧ V.cell? ⟨(w.heap.size + 1), 1, none⟩ = some (.int .i64 b.o) ∧ V.cell? ⟨(w.heap.size + 1), 2, none⟩ = some (.int .i64 b.t) ∧ V.cell? ⟨(w.heap.size + 1), 3, none⟩ = some (.int .u32 b.i) ∧ V.cell? ⟨(w.heap.size + 1), 4, none⟩ = some (.int .u32 b.v) ∧ V.cell? ⟨(w.heap.size + 1), 5, none⟩ = some (.int .u32 b.q) ∧ V.cell? ⟨(w.heap.size + 1), 6, none⟩ = some (.int .i64 b.s) ∧ V.cell? ⟨(w.heap.size + 1), 7, none⟩ = some (.int .i64 b.n))) (by kernel_rfl) (KS.out _ tt.drew) (fun hHeld => ?_)
    replace tt : Below Y1.heap.size Y1 Y1.drew := tt.drew
    generalize hX0 : Y1.drew = X0 at tt hHeld ⊢
    clear hX0
    refine wpAnyH_take (i := 0) (v := ?_) rfl (by kernel_rfl) (by kernel_rfl) (by kernel_rfl) (fun _ _ _ h => h) (Or.inl ⟨by rfl, ?_⟩) (by assumption) ?_
    rotate_left
    · (intro w' hSw; (try dsimp only at hSw); go_simp; try with_reducible rfl)
    simp only [Act.put, List.getElem_toArray, List.getElem_cons_zero, List.setIfInBounds_toArray, List.set_cons_zero, List.set_cons_succ]
    refine wpAnyH_take (i := 2) (v := ?_) rfl (by kernel_rfl) (by kernel_rfl) (by kernel_rfl) (fun _ _ _ h => h) (Or.inl ⟨by rfl, ?_⟩) (by assumption) ?_
    rotate_left
    · (intro w' hSw; (try dsimp only at hSw); go_simp; try with_reducible rfl)
    simp only [Act.put, List.getElem_toArray, List.getElem_cons_zero, List.getElem_cons_succ, List.setIfInBounds_toArray, List.set_cons_zero, List.set_cons_succ]
    refine wpAnyH_ready (rs := [1, 4, 5]) (by kernel_rfl) (by simp) ?_
    refine AllReadyH.cons rfl (fun K hK => ?_) ?_
    · go_simp
      go_at_call 13
      refine (key_any a X0).mono ?_
      rintro e Y11 ⟨rfl, u11⟩
      have t_Y11 : Below Y1.heap.size Y1 Y11 := tt.trans (u11.mono tt.size)
      refine hK.out _ _ (KS.out _ t_Y11) (fun _ => ?_)
      clear hK K
      refine wpAnyH_ready (rs := [3, 4, 5]) (by kernel_rfl) (by simp) ?_
      refine AllReadyH.cons rfl (fun K hK => ?_) ?_
      · go_simp
        go_at_call 13
        refine (key_any b Y11).mono ?_
        rintro e Y12 ⟨rfl, u12⟩
        have t_Y12 : Below Y1.heap.size Y1 Y12 := t_Y11.trans (u12.mono t_Y11.size)
        refine hK.out _ _ (KS.out _ t_Y12) (fun _ => ?_)
        clear hK K
        refine wpAnyH_ready (rs := [4, 5]) (by kernel_rfl) (by simp) ?_
        refine AllReadyH.cons rfl (fun K hK => ?_) ?_
        · go_simp
          obtain ⟨Y13, hY13⟩ : ∃ V, Y12.alloc (.cells #[Value.int .i64 0, .int .u32 0, .int .u32 0] 34) = V := ⟨_, rfl⟩
          have u13 : Below Y12.heap.size Y12 Y13 := by rw [← hY13]; exact below_alloc1 _ _
          have kz6 := At.mk hY13
          have t_Y13 : Below Y1.heap.size Y1 Y13 := t_Y12.trans (u13.mono t_Y12.size)
          obtain ⟨k13, hk13⟩ : ∃ k, Y12.heap.size = k := ⟨_, rfl⟩
          rw [hk13] at kz6
          have ga6 : Hid (Y1.heap.size ≤ k13) := Lib.hid (by rw [← hk13]; exact t_Y12.size)
          try rw [hY13]
          try rw [hk13]
          clear hY13 hk13
          refine hK.out _ _ (KS.out _ t_Y13) (fun _ => ?_)
          clear hK K
          refine wpAnyH_ready (rs := [5]) (by kernel_rfl) (by simp) ?_
          refine AllReadyH.cons rfl (fun K hK => ?_) AllReadyH.nil
          go_simp
          obtain ⟨Y14, hY14⟩ : ∃ V, Y13.alloc (.cells #[Value.int .i64 0, .int .u32 0, .int .u32 0] 34) = V := ⟨_, rfl⟩
          have u14 : Below Y13.heap.size Y13 Y14 := by rw [← hY14]; exact below_alloc1 _ _
          have kz7 := At.mk hY14
          have hlt := kz6.lt
          have t_Y14 : Below Y1.heap.size Y1 Y14 := t_Y13.trans (u14.mono t_Y13.size)
          replace kz6 := kz6.step u14
          obtain ⟨k14, hk14⟩ : ∃ k, Y13.heap.size = k := ⟨_, rfl⟩
          rw [hk14] at kz7
          rw [hk14] at hlt
          have hne : Hid (k13 < k14) := Lib.hid hlt
          clear hlt
          have ga7 : Hid (Y1.heap.size ≤ k14) := Lib.hid (by rw [← hk14]; exact t_Y13.size)
          try rw [hY14]
          try rw [hk14]
          clear hY14 hk14
          refine hK.out _ _ (KS.out _ t_Y14) (fun _ => ?_)
          clear hK K
          refine wpAnyH_ready (rs := [6]) (by kernel_rfl) (by simp) ?_
          refine AllReadyH.cons rfl (fun K hK => ?_) AllReadyH.nil
          obtain ⟨a0, a1, a2, f0, f1, f2, hzl⟩ := kz3_at kz6
          obtain ⟨Z15, hZ15⟩ : ∃ V, st3 Y14 k13 (Value.int .i64 a.t) (.int .u32 a.i) (.int .u32 a.v) = V := ⟨_, rfl⟩
          have kr6 : At Z15 k13 (.cells #[.int .i64 a.t, .int .u32 a.i, .int .u32 a.v] 34) := by rw [← hZ15]; exact kz3_set kz6 (Value.int .i64 a.t) (.int .u32 a.i) (.int .u32 a.v)
          have kv7 : Z15.heap[k14]? = Y14.heap[k14]? := by rw [← hZ15]; exact far_st3 (by have := hne.out; omega) _ _ _
          have t_Z15 : Below Y1.heap.size Y1 Z15 := by rw [← hZ15]; exact below_st3 t_Y14 ga6.out _ _ _
          replace kz7 : At _ _ _ := kv7.trans kz7
          go_simp
          simp only [st3] at hZ15
          try rw [hZ15]
          clear kv7 a0 f0 a1 f1 a2 f2 hzl
          refine hK.out _ _ (KS.out _ t_Z15) (fun _ => ?_)
          clear hK K
          refine wpAnyH_ready (rs := [7]) (by kernel_rfl) (by simp) ?_
          refine AllReadyH.cons rfl (fun K hK => ?_) AllReadyH.nil
          obtain ⟨a0, a1, a2, f0, f1, f2, hzl⟩ := kz3_at kz7
          obtain ⟨Z16, hZ16⟩ : ∃ V, st3 Z15 k14 (Value.int .i64 b.t) (.int .u32 b.i) (.int .u32 b.v) = V := ⟨_, rfl⟩
          have kr7 : At Z16 k14 (.cells #[.int .i64 b.t, .int .u32 b.i, .int .u32 b.v] 34) := by rw [← hZ16]; exact kz3_set kz7 (Value.int .i64 b.t) (.int .u32 b.i) (.int .u32 b.v)
          have kv6 : Z16.heap[k13]? = Z15.heap[k13]? := by rw [← hZ16]; exact far_st3 (by have := hne.out; omega) _ _ _
          have t_Z16 : Below Y1.heap.size Y1 Z16 := by rw [← hZ16]; exact below_st3 t_Z15 ga7.out _ _ _
          replace kr6 : At _ _ _ := kv6.trans kr6
          go_simp
          simp only [st3] at hZ16
          try rw [hZ16]
          clear kv6 a0 f0 a1 f1 a2 f2 hzl
          refine hK.out _ _ (KS.out _ t_Z16) (fun _ => ?_)
          clear hK K
          refine wpAnyH_done (by kernel_rfl) ?_ _
          go_wp2_with fail
          go_meet
          case rel => exact ⟨_, _, rfl, rfl, Lib.hid t_Z16, Lib.hid kr6, Lib.hid kr7⟩
        refine AllReadyH.cons rfl (fun K hK => ?_) AllReadyH.nil
        go_simp
        obtain ⟨Y13, hY13⟩ : ∃ V, Y12.alloc (.cells #[Value.int .i64 0, .int .u32 0, .int .u32 0] 34) = V := ⟨_, rfl⟩
        have u13 : Below Y12.heap.size Y12 Y13 := by rw [← hY13]; exact below_alloc1 _ _
        have kz7 := At.mk hY13
        have t_Y13 : Below Y1.heap.size Y1 Y13 := t_Y12.trans (u13.mono t_Y12.size)
        obtain ⟨k13, hk13⟩ : ∃ k, Y12.heap.size = k := ⟨_, rfl⟩
        rw [hk13] at kz7
        have ga7 : Hid (Y1.heap.size ≤ k13) := Lib.hid (by rw [← hk13]; exact t_Y12.size)
        try rw [hY13]
        try rw [hk13]
        clear hY13 hk13
        refine hK.out _ _ (KS.out _ t_Y13) (fun _ => ?_)
        clear hK K
        refine wpAnyH_ready (rs := [4]) (by kernel_rfl) (by simp) ?_
        refine AllReadyH.cons rfl (fun K hK => ?_) AllReadyH.nil
        go_simp
        obtain ⟨Y14, hY14⟩ : ∃ V, Y13.alloc (.cells #[Value.int .i64 0, .int .u32 0, .int .u32 0] 34) = V := ⟨_, rfl⟩
        have u14 : Below Y13.heap.size Y13 Y14 := by rw [← hY14]; exact below_alloc1 _ _
        have kz6 := At.mk hY14
        have hlt := kz7.lt
        have t_Y14 : Below Y1.heap.size Y1 Y14 := t_Y13.trans (u14.mono t_Y13.size)
        replace kz7 := kz7.step u14
        obtain ⟨k14, hk14⟩ : ∃ k, Y13.heap.size = k := ⟨_, rfl⟩
        rw [hk14] at kz6
        rw [hk14] at hlt
        have hne : Hid (k13 < k14) := Lib.hid hlt
        clear hlt
        have ga6 : Hid (Y1.heap.size ≤ k14) := Lib.hid (by rw [← hk14]; exact t_Y13.size)
        try rw [hY14]
        try rw [hk14]
        clear hY14 hk14
        refine hK.out _ _ (KS.out _ t_Y14) (fun _ => ?_)
        clear hK K
        refine wpAnyH_ready (rs := [6]) (by kernel_rfl) (by simp) ?_
        refine AllReadyH.cons rfl (fun K hK => ?_) AllReadyH.nil
        obtain ⟨a0, a1, a2, f0, f1, f2, hzl⟩ := kz3_at kz6
        obtain ⟨Z15, hZ15⟩ : ∃ V, st3 Y14 k14 (Value.int .i64 a.t) (.int .u32 a.i) (.int .u32 a.v) = V := ⟨_, rfl⟩
        have kr6 : At Z15 k14 (.cells #[.int .i64 a.t, .int .u32 a.i, .int .u32 a.v] 34) := by rw [← hZ15]; exact kz3_set kz6 (Value.int .i64 a.t) (.int .u32 a.i) (.int .u32 a.v)
        have kv7 : Z15.heap[k13]? = Y14.heap[k13]? := by rw [← hZ15]; exact far_st3 (by have := hne.out; omega) _ _ _
        have t_Z15 : Below Y1.heap.size Y1 Z15 := by rw [← hZ15]; exact below_st3 t_Y14 ga6.out _ _ _
        replace kz7 : At _ _ _ := kv7.trans kz7
        go_simp
        simp only [st3] at hZ15
        try rw [hZ15]
        clear kv7 a0 f0 a1 f1 a2 f2 hzl
        refine hK.out _ _ (KS.out _ t_Z15) (fun _ => ?_)
        clear hK K
        refine wpAnyH_ready (rs := [7]) (by kernel_rfl) (by simp) ?_
        refine AllReadyH.cons rfl (fun K hK => ?_) AllReadyH.nil
        obtain ⟨a0, a1, a2, f0, f1, f2, hzl⟩ := kz3_at kz7
        obtain ⟨Z16, hZ16⟩ : ∃ V, st3 Z15 k13 (Value.int .i64 b.t) (.int .u32 b.i) (.int .u32 b.v) = V := ⟨_, rfl⟩
        have kr7 : At Z16 k13 (.cells #[.int .i64 b.t, .int .u32 b.i, .int .u32 b.v] 34) := by rw [← hZ16]; exact kz3_set kz7 (Value.int .i64 b.t) (.int .u32 b.i) (.int .u32 b.v)
        have kv6 : Z16.heap[k14]? = Z15.heap[k14]? := by rw [← hZ16]; exact far_st3 (by have := hne.out; omega) _ _ _
        have t_Z16 : Below Y1.heap.size Y1 Z16 := by rw [← hZ16]; exact below_st3 t_Z15 ga7.out _ _ _
        replace kr6 : At _ _ _ := kv6.trans kr6
        go_simp
        simp only [st3] at hZ16
        try rw [hZ16]
        clear kv6 a0 f0 a1 f1 a2 f2 hzl
        refine hK.out _ _ (KS.out _ t_Z16) (fun _ => ?_)
        clear hK K
        refine wpAnyH_done (by kernel_rfl) ?_ _
        go_wp2_with fail
        go_meet
        case rel => exact ⟨_, _, rfl, rfl, Lib.hid t_Z16, Lib.hid kr6, Lib.hid kr7⟩
      refine AllReadyH.cons rfl (fun K hK => ?_) ?_
      · go_simp
        obtain ⟨Y12, hY12⟩ : ∃ V, Y11.alloc (.cells #[Value.int .i64 0, .int .u32 0, .int .u32 0] 34) = V := ⟨_, rfl⟩
        have u12 : Below Y11.heap.size Y11 Y12 := by rw [← hY12]; exact below_alloc1 _ _
        have kz6 := At.mk hY12
        have t_Y12 : Below Y1.heap.size Y1 Y12 := t_Y11.trans (u12.mono t_Y11.size)
        obtain ⟨k12, hk12⟩ : ∃ k, Y11.heap.size = k := ⟨_, rfl⟩
        rw [hk12] at kz6
        have ga6 : Hid (Y1.heap.size ≤ k12) := Lib.hid (by rw [← hk12]; exact t_Y11.size)
        try rw [hY12]
        try rw [hk12]
        clear hY12 hk12
        refine hK.out _ _ (KS.out _ t_Y12) (fun _ => ?_)
        clear hK K
        refine wpAnyH_ready (rs := [3, 5]) (by kernel_rfl) (by simp) ?_
        refine AllReadyH.cons rfl (fun K hK => ?_) ?_
        · go_simp
          go_at_call 13
          refine (key_any b Y12).mono ?_
          rintro e Y13 ⟨rfl, u13⟩
          have t_Y13 : Below Y1.heap.size Y1 Y13 := t_Y12.trans (u13.mono t_Y12.size)
          replace kz6 := kz6.step u13
          refine hK.out _ _ (KS.out _ t_Y13) (fun _ => ?_)
          clear hK K
          refine wpAnyH_ready (rs := [5]) (by kernel_rfl) (by simp) ?_
          refine AllReadyH.cons rfl (fun K hK => ?_) AllReadyH.nil
          go_simp
          obtain ⟨Y14, hY14⟩ : ∃ V, Y13.alloc (.cells #[Value.int .i64 0, .int .u32 0, .int .u32 0] 34) = V := ⟨_, rfl⟩
          have u14 : Below Y13.heap.size Y13 Y14 := by rw [← hY14]; exact below_alloc1 _ _
          have kz7 := At.mk hY14
          have hlt := kz6.lt
          have t_Y14 : Below Y1.heap.size Y1 Y14 := t_Y13.trans (u14.mono t_Y13.size)
          replace kz6 := kz6.step u14
          obtain ⟨k14, hk14⟩ : ∃ k, Y13.heap.size = k := ⟨_, rfl⟩
          rw [hk14] at kz7
          rw [hk14] at hlt
          have hne : Hid (k12 < k14) := Lib.hid hlt
          clear hlt
          have ga7 : Hid (Y1.heap.size ≤ k14) := Lib.hid (by rw [← hk14]; exact t_Y13.size)
          try rw [hY14]
          try rw [hk14]
          clear hY14 hk14
          refine hK.out _ _ (KS.out _ t_Y14) (fun _ => ?_)
          clear hK K
          refine wpAnyH_ready (rs := [6]) (by kernel_rfl) (by simp) ?_
          refine AllReadyH.cons rfl (fun K hK => ?_) AllReadyH.nil
          obtain ⟨a0, a1, a2, f0, f1, f2, hzl⟩ := kz3_at kz6
          obtain ⟨Z15, hZ15⟩ : ∃ V, st3 Y14 k12 (Value.int .i64 a.t) (.int .u32 a.i) (.int .u32 a.v) = V := ⟨_, rfl⟩
          have kr6 : At Z15 k12 (.cells #[.int .i64 a.t, .int .u32 a.i, .int .u32 a.v] 34) := by rw [← hZ15]; exact kz3_set kz6 (Value.int .i64 a.t) (.int .u32 a.i) (.int .u32 a.v)
          have kv7 : Z15.heap[k14]? = Y14.heap[k14]? := by rw [← hZ15]; exact far_st3 (by have := hne.out; omega) _ _ _
          have t_Z15 : Below Y1.heap.size Y1 Z15 := by rw [← hZ15]; exact below_st3 t_Y14 ga6.out _ _ _
          replace kz7 : At _ _ _ := kv7.trans kz7
          go_simp
          simp only [st3] at hZ15
          try rw [hZ15]
          clear kv7 a0 f0 a1 f1 a2 f2 hzl
          refine hK.out _ _ (KS.out _ t_Z15) (fun _ => ?_)
          clear hK K
          refine wpAnyH_ready (rs := [7]) (by kernel_rfl) (by simp) ?_
          refine AllReadyH.cons rfl (fun K hK => ?_) AllReadyH.nil
          obtain ⟨a0, a1, a2, f0, f1, f2, hzl⟩ := kz3_at kz7
          obtain ⟨Z16, hZ16⟩ : ∃ V, st3 Z15 k14 (Value.int .i64 b.t) (.int .u32 b.i) (.int .u32 b.v) = V := ⟨_, rfl⟩
          have kr7 : At Z16 k14 (.cells #[.int .i64 b.t, .int .u32 b.i, .int .u32 b.v] 34) := by rw [← hZ16]; exact kz3_set kz7 (Value.int .i64 b.t) (.int .u32 b.i) (.int .u32 b.v)
          have kv6 : Z16.heap[k12]? = Z15.heap[k12]? := by rw [← hZ16]; exact far_st3 (by have := hne.out; omega) _ _ _
          have t_Z16 : Below Y1.heap.size Y1 Z16 := by rw [← hZ16]; exact below_st3 t_Z15 ga7.out _ _ _
          replace kr6 : At _ _ _ := kv6.trans kr6
          go_simp
          simp only [st3] at hZ16
          try rw [hZ16]
          clear kv6 a0 f0 a1 f1 a2 f2 hzl
          refine hK.out _ _ (KS.out _ t_Z16) (fun _ => ?_)
          clear hK K
          refine wpAnyH_done (by kernel_rfl) ?_ _
          go_wp2_with fail
          go_meet
          case rel => exact ⟨_, _, rfl, rfl, Lib.hid t_Z16, Lib.hid kr6, Lib.hid kr7⟩
        refine AllReadyH.cons rfl (fun K hK => ?_) AllReadyH.nil
        go_simp
        obtain ⟨Y13, hY13⟩ : ∃ V, Y12.alloc (.cells #[Value.int .i64 0, .int .u32 0, .int .u32 0] 34) = V := ⟨_, rfl⟩
        have u13 : Below Y12.heap.size Y12 Y13 := by rw [← hY13]; exact below_alloc1 _ _
        have kz7 := At.mk hY13
        have hlt := kz6.lt
        have t_Y13 : Below Y1.heap.size Y1 Y13 := t_Y12.trans (u13.mono t_Y12.size)
        replace kz6 := kz6.step u13
        obtain ⟨k13, hk13⟩ : ∃ k, Y12.heap.size = k := ⟨_, rfl⟩
        rw [hk13] at kz7
        rw [hk13] at hlt
        have hne : Hid (k12 < k13) := Lib.hid hlt
        clear hlt
        have ga7 : Hid (Y1.heap.size ≤ k13) := Lib.hid (by rw [← hk13]; exact t_Y12.size)
        try rw [hY13]
        try rw [hk13]
        clear hY13 hk13
        refine hK.out _ _ (KS.out _ t_Y13) (fun _ => ?_)
        clear hK K
        refine wpAnyH_ready (rs := [3]) (by kernel_rfl) (by simp) ?_
        refine AllReadyH.cons rfl (fun K hK => ?_) AllReadyH.nil
        go_simp
        go_at_call 13
        refine (key_any b Y13).mono ?_
        rintro e Y14 ⟨rfl, u14⟩
        have t_Y14 : Below Y1.heap.size Y1 Y14 := t_Y13.trans (u14.mono t_Y13.size)
        replace kz6 := kz6.step u14
        replace kz7 := kz7.step u14
        refine hK.out _ _ (KS.out _ t_Y14) (fun _ => ?_)
        clear hK K
        refine wpAnyH_ready (rs := [6]) (by kernel_rfl) (by simp) ?_
        refine AllReadyH.cons rfl (fun K hK => ?_) AllReadyH.nil
        obtain ⟨a0, a1, a2, f0, f1, f2, hzl⟩ := kz3_at kz6
        obtain ⟨Z15, hZ15⟩ : ∃ V, st3 Y14 k12 (Value.int .i64 a.t) (.int .u32 a.i) (.int .u32 a.v) = V := ⟨_, rfl⟩
        have kr6 : At Z15 k12 (.cells #[.int .i64 a.t, .int .u32 a.i, .int .u32 a.v] 34) := by rw [← hZ15]; exact kz3_set kz6 (Value.int .i64 a.t) (.int .u32 a.i) (.int .u32 a.v)
        have kv7 : Z15.heap[k13]? = Y14.heap[k13]? := by rw [← hZ15]; exact far_st3 (by have := hne.out; omega) _ _ _
        have t_Z15 : Below Y1.heap.size Y1 Z15 := by rw [← hZ15]; exact below_st3 t_Y14 ga6.out _ _ _
        replace kz7 : At _ _ _ := kv7.trans kz7
        go_simp
        simp only [st3] at hZ15
        try rw [hZ15]
        clear kv7 a0 f0 a1 f1 a2 f2 hzl
        refine hK.out _ _ (KS.out _ t_Z15) (fun _ => ?_)
        clear hK K
        refine wpAnyH_ready (rs := [7]) (by kernel_rfl) (by simp) ?_
        refine AllReadyH.cons rfl (fun K hK => ?_) AllReadyH.nil
        obtain ⟨a0, a1, a2, f0, f1, f2, hzl⟩ := kz3_at kz7
        obtain ⟨Z16, hZ16⟩ : ∃ V, st3 Z15 k13 (Value.int .i64 b.t) (.int .u32 b.i) (.int .u32 b.v) = V := ⟨_, rfl⟩
        have kr7 : At Z16 k13 (.cells #[.int .i64 b.t, .int .u32 b.i, .int .u32 b.v] 34) := by rw [← hZ16]; exact kz3_set kz7 (Value.int .i64 b.t) (.int .u32 b.i) (.int .u32 b.v)
        have kv6 : Z16.heap[k12]? = Z15.heap[k12]? := by rw [← hZ16]; exact far_st3 (by have := hne.out; omega) _ _ _
        have t_Z16 : Below Y1.heap.size Y1 Z16 := by rw [← hZ16]; exact below_st3 t_Z15 ga7.out _ _ _
        replace kr6 : At _ _ _ := kv6.trans kr6
        go_simp
        simp only [st3] at hZ16
        try rw [hZ16]
        clear kv6 a0 f0 a1 f1 a2 f2 hzl
        refine hK.out _ _ (KS.out _ t_Z16) (fun _ => ?_)
        clear hK K
        refine wpAnyH_done (by kernel_rfl) ?_ _
        go_wp2_with fail
        go_meet
        case rel => exact ⟨_, _, rfl, rfl, Lib.hid t_Z16, Lib.hid kr6, Lib.hid kr7⟩
      refine AllReadyH.cons rfl (fun K hK => ?_) AllReadyH.nil
      go_simp
      obtain ⟨Y12, hY12⟩ : ∃ V, Y11.alloc (.cells #[Value.int .i64 0, .int .u32 0, .int .u32 0] 34) = V := ⟨_, rfl⟩
      have u12 : Below Y11.heap.size Y11 Y12 := by rw [← hY12]; exact below_alloc1 _ _
      have kz7 := At.mk hY12
      have t_Y12 : Below Y1.heap.size Y1 Y12 := t_Y11.trans (u12.mono t_Y11.size)
      obtain ⟨k12, hk12⟩ : ∃ k, Y11.heap.size = k := ⟨_, rfl⟩
      rw [hk12] at kz7
      have ga7 : Hid (Y1.heap.size ≤ k12) := Lib.hid (by rw [← hk12]; exact t_Y11.size)
      try rw [hY12]
      try rw [hk12]
      clear hY12 hk12
      refine hK.out _ _ (KS.out _ t_Y12) (fun _ => ?_)
      clear hK K
      refine wpAnyH_ready (rs := [3, 4]) (by kernel_rfl) (by simp) ?_
      refine AllReadyH.cons rfl (fun K hK => ?_) ?_
      · go_simp
        go_at_call 13
        refine (key_any b Y12).mono ?_
        rintro e Y13 ⟨rfl, u13⟩
        have t_Y13 : Below Y1.heap.size Y1 Y13 := t_Y12.trans (u13.mono t_Y12.size)
        replace kz7 := kz7.step u13
        refine hK.out _ _ (KS.out _ t_Y13) (fun _ => ?_)
        clear hK K
        refine wpAnyH_ready (rs := [4]) (by kernel_rfl) (by simp) ?_
        refine AllReadyH.cons rfl (fun K hK => ?_) AllReadyH.nil
        go_simp
        obtain ⟨Y14, hY14⟩ : ∃ V, Y13.alloc (.cells #[Value.int .i64 0, .int .u32 0, .int .u32 0] 34) = V := ⟨_, rfl⟩
        have u14 : Below Y13.heap.size Y13 Y14 := by rw [← hY14]; exact below_alloc1 _ _
        have kz6 := At.mk hY14
        have hlt := kz7.lt
        have t_Y14 : Below Y1.heap.size Y1 Y14 := t_Y13.trans (u14.mono t_Y13.size)
        replace kz7 := kz7.step u14
        obtain ⟨k14, hk14⟩ : ∃ k, Y13.heap.size = k := ⟨_, rfl⟩
        rw [hk14] at kz6
        rw [hk14] at hlt
        have hne : Hid (k12 < k14) := Lib.hid hlt
        clear hlt
        have ga6 : Hid (Y1.heap.size ≤ k14) := Lib.hid (by rw [← hk14]; exact t_Y13.size)
        try rw [hY14]
        try rw [hk14]
        clear hY14 hk14
        refine hK.out _ _ (KS.out _ t_Y14) (fun _ => ?_)
        clear hK K
        refine wpAnyH_ready (rs := [6]) (by kernel_rfl) (by simp) ?_
        refine AllReadyH.cons rfl (fun K hK => ?_) AllReadyH.nil
        obtain ⟨a0, a1, a2, f0, f1, f2, hzl⟩ := kz3_at kz6
        obtain ⟨Z15, hZ15⟩ : ∃ V, st3 Y14 k14 (Value.int .i64 a.t) (.int .u32 a.i) (.int .u32 a.v) = V := ⟨_, rfl⟩
        have kr6 : At Z15 k14 (.cells #[.int .i64 a.t, .int .u32 a.i, .int .u32 a.v] 34) := by rw [← hZ15]; exact kz3_set kz6 (Value.int .i64 a.t) (.int .u32 a.i) (.int .u32 a.v)
        have kv7 : Z15.heap[k12]? = Y14.heap[k12]? := by rw [← hZ15]; exact far_st3 (by have := hne.out; omega) _ _ _
        have t_Z15 : Below Y1.heap.size Y1 Z15 := by rw [← hZ15]; exact below_st3 t_Y14 ga6.out _ _ _
        replace kz7 : At _ _ _ := kv7.trans kz7
        go_simp
        simp only [st3] at hZ15
        try rw [hZ15]
        clear kv7 a0 f0 a1 f1 a2 f2 hzl
        refine hK.out _ _ (KS.out _ t_Z15) (fun _ => ?_)
        clear hK K
        refine wpAnyH_ready (rs := [7]) (by kernel_rfl) (by simp) ?_
        refine AllReadyH.cons rfl (fun K hK => ?_) AllReadyH.nil
        obtain ⟨a0, a1, a2, f0, f1, f2, hzl⟩ := kz3_at kz7
        obtain ⟨Z16, hZ16⟩ : ∃ V, st3 Z15 k12 (Value.int .i64 b.t) (.int .u32 b.i) (.int .u32 b.v) = V := ⟨_, rfl⟩
        have kr7 : At Z16 k12 (.cells #[.int .i64 b.t, .int .u32 b.i, .int .u32 b.v] 34) := by rw [← hZ16]; exact kz3_set kz7 (Value.int .i64 b.t) (.int .u32 b.i) (.int .u32 b.v)
        have kv6 : Z16.heap[k14]? = Z15.heap[k14]? := by rw [← hZ16]; exact far_st3 (by have := hne.out; omega) _ _ _
        have t_Z16 : Below Y1.heap.size Y1 Z16 := by rw [← hZ16]; exact below_st3 t_Z15 ga7.out _ _ _
        replace kr6 : At _ _ _ := kv6.trans kr6
        go_simp
        simp only [st3] at hZ16
        try rw [hZ16]
        clear kv6 a0 f0 a1 f1 a2 f2 hzl
        refine hK.out _ _ (KS.out _ t_Z16) (fun _ => ?_)
        clear hK K
        refine wpAnyH_done (by kernel_rfl) ?_ _
        go_wp2_with fail
        go_meet
        case rel => exact ⟨_, _, rfl, rfl, Lib.hid t_Z16, Lib.hid kr6, Lib.hid kr7⟩
      refine AllReadyH.cons rfl (fun K hK => ?_) AllReadyH.nil
      go_simp
      obtain ⟨Y13, hY13⟩ : ∃ V, Y12.alloc (.cells #[Value.int .i64 0, .int .u32 0, .int .u32 0] 34) = V := ⟨_, rfl⟩
      have u13 : Below Y12.heap.size Y12 Y13 := by rw [← hY13]; exact below_alloc1 _ _
      have kz6 := At.mk hY13
      have hlt := kz7.lt
      have t_Y13 : Below Y1.heap.size Y1 Y13 := t_Y12.trans (u13.mono t_Y12.size)
      replace kz7 := kz7.step u13
      obtain ⟨k13, hk13⟩ : ∃ k, Y12.heap.size = k := ⟨_, rfl⟩
      rw [hk13] at kz6
      rw [hk13] at hlt
      have hne : Hid (k12 < k13) := Lib.hid hlt
      clear hlt
      have ga6 : Hid (Y1.heap.size ≤ k13) := Lib.hid (by rw [← hk13]; exact t_Y12.size)
      try rw [hY13]
      try rw [hk13]
      clear hY13 hk13
      refine hK.out _ _ (KS.out _ t_Y13) (fun _ => ?_)
      clear hK K
      refine wpAnyH_ready (rs := [3]) (by kernel_rfl) (by simp) ?_
      refine AllReadyH.cons rfl (fun K hK => ?_) AllReadyH.nil
      go_simp
      go_at_call 13
      refine (key_any b Y13).mono ?_
      rintro e Y14 ⟨rfl, u14⟩
      have t_Y14 : Below Y1.heap.size Y1 Y14 := t_Y13.trans (u14.mono t_Y13.size)
      replace kz7 := kz7.step u14
      replace kz6 := kz6.step u14
      refine hK.out _ _ (KS.out _ t_Y14) (fun _ => ?_)
      clear hK K
      refine wpAnyH_ready (rs := [6]) (by kernel_rfl) (by simp) ?_
      refine AllReadyH.cons rfl (fun K hK => ?_) AllReadyH.nil
      obtain ⟨a0, a1, a2, f0, f1, f2, hzl⟩ := kz3_at kz6
      obtain ⟨Z15, hZ15⟩ : ∃ V, st3 Y14 k13 (Value.int .i64 a.t) (.int .u32 a.i) (.int .u32 a.v) = V := ⟨_, rfl⟩
      have kr6 : At Z15 k13 (.cells #[.int .i64 a.t, .int .u32 a.i, .int .u32 a.v] 34) := by rw [← hZ15]; exact kz3_set kz6 (Value.int .i64 a.t) (.int .u32 a.i) (.int .u32 a.v)
      have kv7 : Z15.heap[k12]? = Y14.heap[k12]? := by rw [← hZ15]; exact far_st3 (by have := hne.out; omega) _ _ _
      have t_Z15 : Below Y1.heap.size Y1 Z15 := by rw [← hZ15]; exact below_st3 t_Y14 ga6.out _ _ _
      replace kz7 : At _ _ _ := kv7.trans kz7
      go_simp
      simp only [st3] at hZ15
      try rw [hZ15]
      clear kv7 a0 f0 a1 f1 a2 f2 hzl
      refine hK.out _ _ (KS.out _ t_Z15) (fun _ => ?_)
      clear hK K
      refine wpAnyH_ready (rs := [7]) (by kernel_rfl) (by simp) ?_
      refine AllReadyH.cons rfl (fun K hK => ?_) AllReadyH.nil
      obtain ⟨a0, a1, a2, f0, f1, f2, hzl⟩ := kz3_at kz7
      obtain ⟨Z16, hZ16⟩ : ∃ V, st3 Z15 k12 (Value.int .i64 b.t) (.int .u32 b.i) (.int .u32 b.v) = V := ⟨_, rfl⟩
      have kr7 : At Z16 k12 (.cells #[.int .i64 b.t, .int .u32 b.i, .int .u32 b.v] 34) := by rw [← hZ16]; exact kz3_set kz7 (Value.int .i64 b.t) (.int .u32 b.i) (.int .u32 b.v)
      have kv6 : Z16.heap[k13]? = Z15.heap[k13]? := by rw [← hZ16]; exact far_st3 (by have := hne.out; omega) _ _ _
      have t_Z16 : Below Y1.heap.size Y1 Z16 := by rw [← hZ16]; exact below_st3 t_Z15 ga7.out _ _ _
      replace kr6 : At _ _ _ := kv6.trans kr6
      go_simp
      simp only [st3] at hZ16
      try rw [hZ16]
      clear kv6 a0 f0 a1 f1 a2 f2 hzl
      refine hK.out _ _ (KS.out _ t_Z16) (fun _ => ?_)
      clear hK K
      refine wpAnyH_done (by kernel_rfl) ?_ _
      go_wp2_with fail
      go_meet
      case rel => exact ⟨_, _, rfl, rfl, Lib.hid t_Z16, Lib.hid kr6, Lib.hid kr7⟩
    refine AllReadyH.cons rfl (fun K hK => ?_) ?_
    · go_simp
      obtain ⟨Y11, hY11⟩ : ∃ V, X0.alloc (.cells #[Value.int .i64 0, .int .u32 0, .int .u32 0] 34) = V := ⟨_, rfl⟩
      have u11 : Below X0.heap.size X0 Y11 := by rw [← hY11]; exact below_alloc1 _ _
      have kz6 := At.mk hY11
      have t_Y11 : Below Y1.heap.size Y1 Y11 := tt.trans (u11.mono tt.size)
      obtain ⟨k11, hk11⟩ : ∃ k, X0.heap.size = k := ⟨_, rfl⟩
      rw [hk11] at kz6
      have ga6 : Hid (Y1.heap.size ≤ k11) := Lib.hid (by rw [← hk11]; exact tt.size)
      try rw [hY11]
      try rw [hk11]
      clear hY11 hk11
      refine hK.out _ _ (KS.out _ t_Y11) (fun _ => ?_)
      clear hK K
      refine wpAnyH_ready (rs := [1, 5]) (by kernel_rfl) (by simp) ?_
      refine AllReadyH.cons rfl (fun K hK => ?_) ?_
      · go_simp
        go_at_call 13
        refine (key_any a Y11).mono ?_
        rintro e Y12 ⟨rfl, u12⟩
        have t_Y12 : Below Y1.heap.size Y1 Y12 := t_Y11.trans (u12.mono t_Y11.size)
        replace kz6 := kz6.step u12
        refine hK.out _ _ (KS.out _ t_Y12) (fun _ => ?_)
        clear hK K
        refine wpAnyH_ready (rs := [3, 5]) (by kernel_rfl) (by simp) ?_
        refine AllReadyH.cons rfl (fun K hK => ?_) ?_
        · go_simp
          go_at_call 13
          refine (key_any b Y12).mono ?_
          rintro e Y13 ⟨rfl, u13⟩
          have t_Y13 : Below Y1.heap.size Y1 Y13 := t_Y12.trans (u13.mono t_Y12.size)
          replace kz6 := kz6.step u13
          refine hK.out _ _ (KS.out _ t_Y13) (fun _ => ?_)
          clear hK K
          refine wpAnyH_ready (rs := [5]) (by kernel_rfl) (by simp) ?_
          refine AllReadyH.cons rfl (fun K hK => ?_) AllReadyH.nil
          go_simp
          obtain ⟨Y14, hY14⟩ : ∃ V, Y13.alloc (.cells #[Value.int .i64 0, .int .u32 0, .int .u32 0] 34) = V := ⟨_, rfl⟩
          have u14 : Below Y13.heap.size Y13 Y14 := by rw [← hY14]; exact below_alloc1 _ _
          have kz7 := At.mk hY14
          have hlt := kz6.lt
          have t_Y14 : Below Y1.heap.size Y1 Y14 := t_Y13.trans (u14.mono t_Y13.size)
          replace kz6 := kz6.step u14
          obtain ⟨k14, hk14⟩ : ∃ k, Y13.heap.size = k := ⟨_, rfl⟩
          rw [hk14] at kz7
          rw [hk14] at hlt
          have hne : Hid (k11 < k14) := Lib.hid hlt
          clear hlt
          have ga7 : Hid (Y1.heap.size ≤ k14) := Lib.hid (by rw [← hk14]; exact t_Y13.size)
          try rw [hY14]
          try rw [hk14]
          clear hY14 hk14
          refine hK.out _ _ (KS.out _ t_Y14) (fun _ => ?_)
          clear hK K
          refine wpAnyH_ready (rs := [6]) (by kernel_rfl) (by simp) ?_
          refine AllReadyH.cons rfl (fun K hK => ?_) AllReadyH.nil
          obtain ⟨a0, a1, a2, f0, f1, f2, hzl⟩ := kz3_at kz6
          obtain ⟨Z15, hZ15⟩ : ∃ V, st3 Y14 k11 (Value.int .i64 a.t) (.int .u32 a.i) (.int .u32 a.v) = V := ⟨_, rfl⟩
          have kr6 : At Z15 k11 (.cells #[.int .i64 a.t, .int .u32 a.i, .int .u32 a.v] 34) := by rw [← hZ15]; exact kz3_set kz6 (Value.int .i64 a.t) (.int .u32 a.i) (.int .u32 a.v)
          have kv7 : Z15.heap[k14]? = Y14.heap[k14]? := by rw [← hZ15]; exact far_st3 (by have := hne.out; omega) _ _ _
          have t_Z15 : Below Y1.heap.size Y1 Z15 := by rw [← hZ15]; exact below_st3 t_Y14 ga6.out _ _ _
          replace kz7 : At _ _ _ := kv7.trans kz7
          go_simp
          simp only [st3] at hZ15
          try rw [hZ15]
          clear kv7 a0 f0 a1 f1 a2 f2 hzl
          refine hK.out _ _ (KS.out _ t_Z15) (fun _ => ?_)
          clear hK K
          refine wpAnyH_ready (rs := [7]) (by kernel_rfl) (by simp) ?_
          refine AllReadyH.cons rfl (fun K hK => ?_) AllReadyH.nil
          obtain ⟨a0, a1, a2, f0, f1, f2, hzl⟩ := kz3_at kz7
          obtain ⟨Z16, hZ16⟩ : ∃ V, st3 Z15 k14 (Value.int .i64 b.t) (.int .u32 b.i) (.int .u32 b.v) = V := ⟨_, rfl⟩
          have kr7 : At Z16 k14 (.cells #[.int .i64 b.t, .int .u32 b.i, .int .u32 b.v] 34) := by rw [← hZ16]; exact kz3_set kz7 (Value.int .i64 b.t) (.int .u32 b.i) (.int .u32 b.v)
          have kv6 : Z16.heap[k11]? = Z15.heap[k11]? := by rw [← hZ16]; exact far_st3 (by have := hne.out; omega) _ _ _
          have t_Z16 : Below Y1.heap.size Y1 Z16 := by rw [← hZ16]; exact below_st3 t_Z15 ga7.out _ _ _
          replace kr6 : At _ _ _ := kv6.trans kr6
          go_simp
          simp only [st3] at hZ16
          try rw [hZ16]
          clear kv6 a0 f0 a1 f1 a2 f2 hzl
          refine hK.out _ _ (KS.out _ t_Z16) (fun _ => ?_)
          clear hK K
          refine wpAnyH_done (by kernel_rfl) ?_ _
          go_wp2_with fail
          go_meet
          case rel => exact ⟨_, _, rfl, rfl, Lib.hid t_Z16, Lib.hid kr6, Lib.hid kr7⟩
        refine AllReadyH.cons rfl (fun K hK => ?_) AllReadyH.nil
        go_simp
        obtain ⟨Y13, hY13⟩ : ∃ V, Y12.alloc (.cells #[Value.int .i64 0, .int .u32 0, .int .u32 0] 34) = V := ⟨_, rfl⟩
        have u13 : Below Y12.heap.size Y12 Y13 := by rw [← hY13]; exact below_alloc1 _ _
        have kz7 := At.mk hY13
        have hlt := kz6.lt
        have t_Y13 : Below Y1.heap.size Y1 Y13 := t_Y12.trans (u13.mono t_Y12.size)
        replace kz6 := kz6.step u13
        obtain ⟨k13, hk13⟩ : ∃ k, Y12.heap.size = k := ⟨_, rfl⟩
        rw [hk13] at kz7
        rw [hk13] at hlt
        have hne : Hid (k11 < k13) := Lib.hid hlt
        clear hlt
        have ga7 : Hid (Y1.heap.size ≤ k13) := Lib.hid (by rw [← hk13]; exact t_Y12.size)
        try rw [hY13]
        try rw [hk13]
        clear hY13 hk13
        refine hK.out _ _ (KS.out _ t_Y13) (fun _ => ?_)
        clear hK K
        refine wpAnyH_ready (rs := [3]) (by kernel_rfl) (by simp) ?_
        refine AllReadyH.cons rfl (fun K hK => ?_) AllReadyH.nil
        go_simp
        go_at_call 13
        refine (key_any b Y13).mono ?_
        rintro e Y14 ⟨rfl, u14⟩
        have t_Y14 : Below Y1.heap.size Y1 Y14 := t_Y13.trans (u14.mono t_Y13.size)
        replace kz6 := kz6.step u14
        replace kz7 := kz7.step u14
        refine hK.out _ _ (KS.out _ t_Y14) (fun _ => ?_)
        clear hK K
        refine wpAnyH_ready (rs := [6]) (by kernel_rfl) (by simp) ?_
        refine AllReadyH.cons rfl (fun K hK => ?_) AllReadyH.nil
        obtain ⟨a0, a1, a2, f0, f1, f2, hzl⟩ := kz3_at kz6
        obtain ⟨Z15, hZ15⟩ : ∃ V, st3 Y14 k11 (Value.int .i64 a.t) (.int .u32 a.i) (.int .u32 a.v) = V := ⟨_, rfl⟩
        have kr6 : At Z15 k11 (.cells #[.int .i64 a.t, .int .u32 a.i, .int .u32 a.v] 34) := by rw [← hZ15]; exact kz3_set kz6 (Value.int .i64 a.t) (.int .u32 a.i) (.int .u32 a.v)
        have kv7 : Z15.heap[k13]? = Y14.heap[k13]? := by rw [← hZ15]; exact far_st3 (by have := hne.out; omega) _ _ _
        have t_Z15 : Below Y1.heap.size Y1 Z15 := by rw [← hZ15]; exact below_st3 t_Y14 ga6.out _ _ _
        replace kz7 : At _ _ _ := kv7.trans kz7
        go_simp
        simp only [st3] at hZ15
        try rw [hZ15]
        clear kv7 a0 f0 a1 f1 a2 f2 hzl
        refine hK.out _ _ (KS.out _ t_Z15) (fun _ => ?_)
        clear hK K
        refine wpAnyH_ready (rs := [7]) (by kernel_rfl) (by simp) ?_
        refine AllReadyH.cons rfl (fun K hK => ?_) AllReadyH.nil
        obtain ⟨a0, a1, a2, f0, f1, f2, hzl⟩ := kz3_at kz7
        obtain ⟨Z16, hZ16⟩ : ∃ V, st3 Z15 k13 (Value.int .i64 b.t) (.int .u32 b.i) (.int .u32 b.v) = V := ⟨_, rfl⟩
        have kr7 : At Z16 k13 (.cells #[.int .i64 b.t, .int .u32 b.i, .int .u32 b.v] 34) := by rw [← hZ16]; exact kz3_set kz7 (Value.int .i64 b.t) (.int .u32 b.i) (.int .u32 b.v)
        have kv6 : Z16.heap[k11]? = Z15.heap[k11]? := by rw [← hZ16]; exact far_st3 (by have := hne.out; omega) _ _ _
        have t_Z16 : Below Y1.heap.size Y1 Z16 := by rw [← hZ16]; exact below_st3 t_Z15 ga7.out _ _ _
        replace kr6 : At _ _ _ := kv6.trans kr6
        go_simp
        simp only [st3] at hZ16
        try rw [hZ16]
        clear kv6 a0 f0 a1 f1 a2 f2 hzl
        refine hK.out _ _ (KS.out _ t_Z16) (fun _ => ?_)
        clear hK K
        refine wpAnyH_done (by kernel_rfl) ?_ _
        go_wp2_with fail
        go_meet
        case rel => exact ⟨_, _, rfl, rfl, Lib.hid t_Z16, Lib.hid kr6, Lib.hid kr7⟩
      refine AllReadyH.cons rfl (fun K hK => ?_) AllReadyH.nil
      go_simp
      obtain ⟨Y12, hY12⟩ : ∃ V, Y11.alloc (.cells #[Value.int .i64 0, .int .u32 0, .int .u32 0] 34) = V := ⟨_, rfl⟩
      have u12 : Below Y11.heap.size Y11 Y12 := by rw [← hY12]; exact below_alloc1 _ _
      have kz7 := At.mk hY12
      have hlt := kz6.lt
      have t_Y12 : Below Y1.heap.size Y1 Y12 := t_Y11.trans (u12.mono t_Y11.size)
      replace kz6 := kz6.step u12
      obtain ⟨k12, hk12⟩ : ∃ k, Y11.heap.size = k := ⟨_, rfl⟩
      rw [hk12] at kz7
      rw [hk12] at hlt
      have hne : Hid (k11 < k12) := Lib.hid hlt
      clear hlt
      have ga7 : Hid (Y1.heap.size ≤ k12) := Lib.hid (by rw [← hk12]; exact t_Y11.size)
      try rw [hY12]
      try rw [hk12]
      clear hY12 hk12
      refine hK.out _ _ (KS.out _ t_Y12) (fun _ => ?_)
      clear hK K
      refine wpAnyH_ready (rs := [1]) (by kernel_rfl) (by simp) ?_
      refine AllReadyH.cons rfl (fun K hK => ?_) AllReadyH.nil
      go_simp
      go_at_call 13
      refine (key_any a Y12).mono ?_
      rintro e Y13 ⟨rfl, u13⟩
      have t_Y13 : Below Y1.heap.size Y1 Y13 := t_Y12.trans (u13.mono t_Y12.size)
      replace kz6 := kz6.step u13
      replace kz7 := kz7.step u13
      refine hK.out _ _ (KS.out _ t_Y13) (fun _ => ?_)
      clear hK K
      refine wpAnyH_ready (rs := [3]) (by kernel_rfl) (by simp) ?_
      refine AllReadyH.cons rfl (fun K hK => ?_) AllReadyH.nil
      go_simp
      go_at_call 13
      refine (key_any b Y13).mono ?_
      rintro e Y14 ⟨rfl, u14⟩
      have t_Y14 : Below Y1.heap.size Y1 Y14 := t_Y13.trans (u14.mono t_Y13.size)
      replace kz6 := kz6.step u14
      replace kz7 := kz7.step u14
      refine hK.out _ _ (KS.out _ t_Y14) (fun _ => ?_)
      clear hK K
      refine wpAnyH_ready (rs := [6]) (by kernel_rfl) (by simp) ?_
      refine AllReadyH.cons rfl (fun K hK => ?_) AllReadyH.nil
      obtain ⟨a0, a1, a2, f0, f1, f2, hzl⟩ := kz3_at kz6
      obtain ⟨Z15, hZ15⟩ : ∃ V, st3 Y14 k11 (Value.int .i64 a.t) (.int .u32 a.i) (.int .u32 a.v) = V := ⟨_, rfl⟩
      have kr6 : At Z15 k11 (.cells #[.int .i64 a.t, .int .u32 a.i, .int .u32 a.v] 34) := by rw [← hZ15]; exact kz3_set kz6 (Value.int .i64 a.t) (.int .u32 a.i) (.int .u32 a.v)
      have kv7 : Z15.heap[k12]? = Y14.heap[k12]? := by rw [← hZ15]; exact far_st3 (by have := hne.out; omega) _ _ _
      have t_Z15 : Below Y1.heap.size Y1 Z15 := by rw [← hZ15]; exact below_st3 t_Y14 ga6.out _ _ _
      replace kz7 : At _ _ _ := kv7.trans kz7
      go_simp
      simp only [st3] at hZ15
      try rw [hZ15]
      clear kv7 a0 f0 a1 f1 a2 f2 hzl
      refine hK.out _ _ (KS.out _ t_Z15) (fun _ => ?_)
      clear hK K
      refine wpAnyH_ready (rs := [7]) (by kernel_rfl) (by simp) ?_
      refine AllReadyH.cons rfl (fun K hK => ?_) AllReadyH.nil
      obtain ⟨a0, a1, a2, f0, f1, f2, hzl⟩ := kz3_at kz7
      obtain ⟨Z16, hZ16⟩ : ∃ V, st3 Z15 k12 (Value.int .i64 b.t) (.int .u32 b.i) (.int .u32 b.v) = V := ⟨_, rfl⟩
      have kr7 : At Z16 k12 (.cells #[.int .i64 b.t, .int .u32 b.i, .int .u32 b.v] 34) := by rw [← hZ16]; exact kz3_set kz7 (Value.int .i64 b.t) (.int .u32 b.i) (.int .u32 b.v)
      have kv6 : Z16.heap[k11]? = Z15.heap[k11]? := by rw [← hZ16]; exact far_st3 (by have := hne.out; omega) _ _ _
      have t_Z16 : Below Y1.heap.size Y1 Z16 := by rw [← hZ16]; exact below_st3 t_Z15 ga7.out _ _ _
      replace kr6 : At _ _ _ := kv6.trans kr6
      go_simp
      simp only [st3] at hZ16
      try rw [hZ16]
      clear kv6 a0 f0 a1 f1 a2 f2 hzl
      refine hK.out _ _ (KS.out _ t_Z16) (fun _ => ?_)
      clear hK K
      refine wpAnyH_done (by kernel_rfl) ?_ _
      go_wp2_with fail
      go_meet
      case rel => exact ⟨_, _, rfl, rfl, Lib.hid t_Z16, Lib.hid kr6, Lib.hid kr7⟩
    refine AllReadyH.cons rfl (fun K hK => ?_) AllReadyH.nil
    go_simp
    obtain ⟨Y11, hY11⟩ : ∃ V, X0.alloc (.cells #[Value.int .i64 0, .int .u32 0, .int .u32 0] 34) = V := ⟨_, rfl⟩
    have u11 : Below X0.heap.size X0 Y11 := by rw [← hY11]; exact below_alloc1 _ _
    have kz7 := At.mk hY11
    have t_Y11 : Below Y1.heap.size Y1 Y11 := tt.trans (u11.mono tt.size)
    obtain ⟨k11, hk11⟩ : ∃ k, X0.heap.size = k := ⟨_, rfl⟩
    rw [hk11] at kz7
    have ga7 : Hid (Y1.heap.size ≤ k11) := Lib.hid (by rw [← hk11]; exact tt.size)
    try rw [hY11]
    try rw [hk11]
    clear hY11 hk11
    refine hK.out _ _ (KS.out _ t_Y11) (fun _ => ?_)
    clear hK K
    refine wpAnyH_ready (rs := [1, 4]) (by kernel_rfl) (by simp) ?_
    refine AllReadyH.cons rfl (fun K hK => ?_) ?_
    · go_simp
      go_at_call 13
      refine (key_any a Y11).mono ?_
      rintro e Y12 ⟨rfl, u12⟩
      have t_Y12 : Below Y1.heap.size Y1 Y12 := t_Y11.trans (u12.mono t_Y11.size)
      replace kz7 := kz7.step u12
      refine hK.out _ _ (KS.out _ t_Y12) (fun _ => ?_)
      clear hK K
      refine wpAnyH_ready (rs := [3, 4]) (by kernel_rfl) (by simp) ?_
      refine AllReadyH.cons rfl (fun K hK => ?_) ?_
      · go_simp
        go_at_call 13
        refine (key_any b Y12).mono ?_
        rintro e Y13 ⟨rfl, u13⟩
        have t_Y13 : Below Y1.heap.size Y1 Y13 := t_Y12.trans (u13.mono t_Y12.size)
        replace kz7 := kz7.step u13
        refine hK.out _ _ (KS.out _ t_Y13) (fun _ => ?_)
        clear hK K
        refine wpAnyH_ready (rs := [4]) (by kernel_rfl) (by simp) ?_
        refine AllReadyH.cons rfl (fun K hK => ?_) AllReadyH.nil
        go_simp
        obtain ⟨Y14, hY14⟩ : ∃ V, Y13.alloc (.cells #[Value.int .i64 0, .int .u32 0, .int .u32 0] 34) = V := ⟨_, rfl⟩
        have u14 : Below Y13.heap.size Y13 Y14 := by rw [← hY14]; exact below_alloc1 _ _
        have kz6 := At.mk hY14
        have hlt := kz7.lt
        have t_Y14 : Below Y1.heap.size Y1 Y14 := t_Y13.trans (u14.mono t_Y13.size)
        replace kz7 := kz7.step u14
        obtain ⟨k14, hk14⟩ : ∃ k, Y13.heap.size = k := ⟨_, rfl⟩
        rw [hk14] at kz6
        rw [hk14] at hlt
        have hne : Hid (k11 < k14) := Lib.hid hlt
        clear hlt
        have ga6 : Hid (Y1.heap.size ≤ k14) := Lib.hid (by rw [← hk14]; exact t_Y13.size)
        try rw [hY14]
        try rw [hk14]
        clear hY14 hk14
        refine hK.out _ _ (KS.out _ t_Y14) (fun _ => ?_)
        clear hK K
        refine wpAnyH_ready (rs := [6]) (by kernel_rfl) (by simp) ?_
        refine AllReadyH.cons rfl (fun K hK => ?_) AllReadyH.nil
        obtain ⟨a0, a1, a2, f0, f1, f2, hzl⟩ := kz3_at kz6
        obtain ⟨Z15, hZ15⟩ : ∃ V, st3 Y14 k14 (Value.int .i64 a.t) (.int .u32 a.i) (.int .u32 a.v) = V := ⟨_, rfl⟩
        have kr6 : At Z15 k14 (.cells #[.int .i64 a.t, .int .u32 a.i, .int .u32 a.v] 34) := by rw [← hZ15]; exact kz3_set kz6 (Value.int .i64 a.t) (.int .u32 a.i) (.int .u32 a.v)
        have kv7 : Z15.heap[k11]? = Y14.heap[k11]? := by rw [← hZ15]; exact far_st3 (by have := hne.out; omega) _ _ _
        have t_Z15 : Below Y1.heap.size Y1 Z15 := by rw [← hZ15]; exact below_st3 t_Y14 ga6.out _ _ _
        replace kz7 : At _ _ _ := kv7.trans kz7
        go_simp
        simp only [st3] at hZ15
        try rw [hZ15]
        clear kv7 a0 f0 a1 f1 a2 f2 hzl
        refine hK.out _ _ (KS.out _ t_Z15) (fun _ => ?_)
        clear hK K
        refine wpAnyH_ready (rs := [7]) (by kernel_rfl) (by simp) ?_
        refine AllReadyH.cons rfl (fun K hK => ?_) AllReadyH.nil
        obtain ⟨a0, a1, a2, f0, f1, f2, hzl⟩ := kz3_at kz7
        obtain ⟨Z16, hZ16⟩ : ∃ V, st3 Z15 k11 (Value.int .i64 b.t) (.int .u32 b.i) (.int .u32 b.v) = V := ⟨_, rfl⟩
        have kr7 : At Z16 k11 (.cells #[.int .i64 b.t, .int .u32 b.i, .int .u32 b.v] 34) := by rw [← hZ16]; exact kz3_set kz7 (Value.int .i64 b.t) (.int .u32 b.i) (.int .u32 b.v)
        have kv6 : Z16.heap[k14]? = Z15.heap[k14]? := by rw [← hZ16]; exact far_st3 (by have := hne.out; omega) _ _ _
        have t_Z16 : Below Y1.heap.size Y1 Z16 := by rw [← hZ16]; exact below_st3 t_Z15 ga7.out _ _ _
        replace kr6 : At _ _ _ := kv6.trans kr6
        go_simp
        simp only [st3] at hZ16
        try rw [hZ16]
        clear kv6 a0 f0 a1 f1 a2 f2 hzl
        refine hK.out _ _ (KS.out _ t_Z16) (fun _ => ?_)
        clear hK K
        refine wpAnyH_done (by kernel_rfl) ?_ _
        go_wp2_with fail
        go_meet
        case rel => exact ⟨_, _, rfl, rfl, Lib.hid t_Z16, Lib.hid kr6, Lib.hid kr7⟩
      refine AllReadyH.cons rfl (fun K hK => ?_) AllReadyH.nil
      go_simp
      obtain ⟨Y13, hY13⟩ : ∃ V, Y12.alloc (.cells #[Value.int .i64 0, .int .u32 0, .int .u32 0] 34) = V := ⟨_, rfl⟩
      have u13 : Below Y12.heap.size Y12 Y13 := by rw [← hY13]; exact below_alloc1 _ _
      have kz6 := At.mk hY13
      have hlt := kz7.lt
      have t_Y13 : Below Y1.heap.size Y1 Y13 := t_Y12.trans (u13.mono t_Y12.size)
      replace kz7 := kz7.step u13
      obtain ⟨k13, hk13⟩ : ∃ k, Y12.heap.size = k := ⟨_, rfl⟩
      rw [hk13] at kz6
      rw [hk13] at hlt
      have hne : Hid (k11 < k13) := Lib.hid hlt
      clear hlt
      have ga6 : Hid (Y1.heap.size ≤ k13) := Lib.hid (by rw [← hk13]; exact t_Y12.size)
      try rw [hY13]
      try rw [hk13]
      clear hY13 hk13
      refine hK.out _ _ (KS.out _ t_Y13) (fun _ => ?_)
      clear hK K
      refine wpAnyH_ready (rs := [3]) (by kernel_rfl) (by simp) ?_
      refine AllReadyH.cons rfl (fun K hK => ?_) AllReadyH.nil
      go_simp
      go_at_call 13
      refine (key_any b Y13).mono ?_
      rintro e Y14 ⟨rfl, u14⟩
      have t_Y14 : Below Y1.heap.size Y1 Y14 := t_Y13.trans (u14.mono t_Y13.size)
      replace kz7 := kz7.step u14
      replace kz6 := kz6.step u14
      refine hK.out _ _ (KS.out _ t_Y14) (fun _ => ?_)
      clear hK K
      refine wpAnyH_ready (rs := [6]) (by kernel_rfl) (by simp) ?_
      refine AllReadyH.cons rfl (fun K hK => ?_) AllReadyH.nil
      obtain ⟨a0, a1, a2, f0, f1, f2, hzl⟩ := kz3_at kz6
      obtain ⟨Z15, hZ15⟩ : ∃ V, st3 Y14 k13 (Value.int .i64 a.t) (.int .u32 a.i) (.int .u32 a.v) = V := ⟨_, rfl⟩
      have kr6 : At Z15 k13 (.cells #[.int .i64 a.t, .int .u32 a.i, .int .u32 a.v] 34) := by rw [← hZ15]; exact kz3_set kz6 (Value.int .i64 a.t) (.int .u32 a.i) (.int .u32 a.v)
      have kv7 : Z15.heap[k11]? = Y14.heap[k11]? := by rw [← hZ15]; exact far_st3 (by have := hne.out; omega) _ _ _
      have t_Z15 : Below Y1.heap.size Y1 Z15 := by rw [← hZ15]; exact below_st3 t_Y14 ga6.out _ _ _
      replace kz7 : At _ _ _ := kv7.trans kz7
      go_simp
      simp only [st3] at hZ15
      try rw [hZ15]
      clear kv7 a0 f0 a1 f1 a2 f2 hzl
      refine hK.out _ _ (KS.out _ t_Z15) (fun _ => ?_)
      clear hK K
      refine wpAnyH_ready (rs := [7]) (by kernel_rfl) (by simp) ?_
      refine AllReadyH.cons rfl (fun K hK => ?_) AllReadyH.nil
      obtain ⟨a0, a1, a2, f0, f1, f2, hzl⟩ := kz3_at kz7
      obtain ⟨Z16, hZ16⟩ : ∃ V, st3 Z15 k11 (Value.int .i64 b.t) (.int .u32 b.i) (.int .u32 b.v) = V := ⟨_, rfl⟩
      have kr7 : At Z16 k11 (.cells #[.int .i64 b.t, .int .u32 b.i, .int .u32 b.v] 34) := by rw [← hZ16]; exact kz3_set kz7 (Value.int .i64 b.t) (.int .u32 b.i) (.int .u32 b.v)
      have kv6 : Z16.heap[k13]? = Z15.heap[k13]? := by rw [← hZ16]; exact far_st3 (by have := hne.out; omega) _ _ _
      have t_Z16 : Below Y1.heap.size Y1 Z16 := by rw [← hZ16]; exact below_st3 t_Z15 ga7.out _ _ _
      replace kr6 : At _ _ _ := kv6.trans kr6
      go_simp
      simp only [st3] at hZ16
      try rw [hZ16]
      clear kv6 a0 f0 a1 f1 a2 f2 hzl
      refine hK.out _ _ (KS.out _ t_Z16) (fun _ => ?_)
      clear hK K
      refine wpAnyH_done (by kernel_rfl) ?_ _
      go_wp2_with fail
      go_meet
      case rel => exact ⟨_, _, rfl, rfl, Lib.hid t_Z16, Lib.hid kr6, Lib.hid kr7⟩
    refine AllReadyH.cons rfl (fun K hK => ?_) AllReadyH.nil
    go_simp
    obtain ⟨Y12, hY12⟩ : ∃ V, Y11.alloc (.cells #[Value.int .i64 0, .int .u32 0, .int .u32 0] 34) = V := ⟨_, rfl⟩
    have u12 : Below Y11.heap.size Y11 Y12 := by rw [← hY12]; exact below_alloc1 _ _
    have kz6 := At.mk hY12
    have hlt := kz7.lt
    have t_Y12 : Below Y1.heap.size Y1 Y12 := t_Y11.trans (u12.mono t_Y11.size)
    replace kz7 := kz7.step u12
    obtain ⟨k12, hk12⟩ : ∃ k, Y11.heap.size = k := ⟨_, rfl⟩
    rw [hk12] at kz6
    rw [hk12] at hlt
    have hne : Hid (k11 < k12) := Lib.hid hlt
    clear hlt
    have ga6 : Hid (Y1.heap.size ≤ k12) := Lib.hid (by rw [← hk12]; exact t_Y11.size)
    try rw [hY12]
    try rw [hk12]
    clear hY12 hk12
    refine hK.out _ _ (KS.out _ t_Y12) (fun _ => ?_)
    clear hK K
    refine wpAnyH_ready (rs := [1]) (by kernel_rfl) (by simp) ?_
    refine AllReadyH.cons rfl (fun K hK => ?_) AllReadyH.nil
    go_simp
    go_at_call 13
    refine (key_any a Y12).mono ?_
    rintro e Y13 ⟨rfl, u13⟩
    have t_Y13 : Below Y1.heap.size Y1 Y13 := t_Y12.trans (u13.mono t_Y12.size)
    replace kz7 := kz7.step u13
    replace kz6 := kz6.step u13
    refine hK.out _ _ (KS.out _ t_Y13) (fun _ => ?_)
    clear hK K
    refine wpAnyH_ready (rs := [3]) (by kernel_rfl) (by simp) ?_
    refine AllReadyH.cons rfl (fun K hK => ?_) AllReadyH.nil
    go_simp
    go_at_call 13
    refine (key_any b Y13).mono ?_
    rintro e Y14 ⟨rfl, u14⟩
    have t_Y14 : Below Y1.heap.size Y1 Y14 := t_Y13.trans (u14.mono t_Y13.size)
    replace kz7 := kz7.step u14
    replace kz6 := kz6.step u14
    refine hK.out _ _ (KS.out _ t_Y14) (fun _ => ?_)
    clear hK K
    refine wpAnyH_ready (rs := [6]) (by kernel_rfl) (by simp) ?_
    refine AllReadyH.cons rfl (fun K hK => ?_) AllReadyH.nil
    obtain ⟨a0, a1, a2, f0, f1, f2, hzl⟩ := kz3_at kz6
    obtain ⟨Z15, hZ15⟩ : ∃ V, st3 Y14 k12 (Value.int .i64 a.t) (.int .u32 a.i) (.int .u32 a.v) = V := ⟨_, rfl⟩
    have kr6 : At Z15 k12 (.cells #[.int .i64 a.t, .int .u32 a.i, .int .u32 a.v] 34) := by rw [← hZ15]; exact kz3_set kz6 (Value.int .i64 a.t) (.int .u32 a.i) (.int .u32 a.v)
    have kv7 : Z15.heap[k11]? = Y14.heap[k11]? := by rw [← hZ15]; exact far_st3 (by have := hne.out; omega) _ _ _
    have t_Z15 : Below Y1.heap.size Y1 Z15 := by rw [← hZ15]; exact below_st3 t_Y14 ga6.out _ _ _
    replace kz7 : At _ _ _ := kv7.trans kz7
    go_simp
    simp only [st3] at hZ15
    try rw [hZ15]
    clear kv7 a0 f0 a1 f1 a2 f2 hzl
    refine hK.out _ _ (KS.out _ t_Z15) (fun _ => ?_)
    clear hK K
    refine wpAnyH_ready (rs := [7]) (by kernel_rfl) (by simp) ?_
    refine AllReadyH.cons rfl (fun K hK => ?_) AllReadyH.nil
    obtain ⟨a0, a1, a2, f0, f1, f2, hzl⟩ := kz3_at kz7
    obtain ⟨Z16, hZ16⟩ : ∃ V, st3 Z15 k11 (Value.int .i64 b.t) (.int .u32 b.i) (.int .u32 b.v) = V := ⟨_, rfl⟩
    have kr7 : At Z16 k11 (.cells #[.int .i64 b.t, .int .u32 b.i, .int .u32 b.v] 34) := by rw [← hZ16]; exact kz3_set kz7 (Value.int .i64 b.t) (.int .u32 b.i) (.int .u32 b.v)
    have kv6 : Z16.heap[k12]? = Z15.heap[k12]? := by rw [← hZ16]; exact far_st3 (by have := hne.out; omega) _ _ _
    have t_Z16 : Below Y1.heap.size Y1 Z16 := by rw [← hZ16]; exact below_st3 t_Z15 ga7.out _ _ _
    replace kr6 : At _ _ _ := kv6.trans kr6
    go_simp
    simp only [st3] at hZ16
    try rw [hZ16]
    clear kv6 a0 f0 a1 f1 a2 f2 hzl
    refine hK.out _ _ (KS.out _ t_Z16) (fun _ => ?_)
    clear hK K
    refine wpAnyH_done (by kernel_rfl) ?_ _
    go_wp2_with fail
    go_meet
    case rel => exact ⟨_, _, rfl, rfl, Lib.hid t_Z16, Lib.hid kr6, Lib.hid kr7⟩
  case rest =>
    obtain ⟨k6, k7, rfl, rfl, T6, K6, K7⟩ := hcut
    obtain ⟨⟨k0, k1, k2, k3, k4, k5, k6, k7⟩, ⟨j0, j1, j2, j3, j4, j5, j6, j7⟩⟩ := KS.out _ T6.out
    obtain ⟨y0, y1, y2, -, -, -, -⟩ := kz3_at K6.out
    obtain ⟨z0, z1, z2, -, -, -, -⟩ := kz3_at K7.out
    have T7 : Hid (Below w.heap.size w wc) := Lib.hid (B2.out.trans ((U1.out.trans (T6.out.mono U1.out.size)).mono B2.out.size))
    have hN0 : -1 ≤ N := by rcases HNB.out with q | q | q <;> omega
    have hN1 : N ≤ 1 := by rcases HNB.out with q | q | q <;> omega
    have hw : wrap64 (-N) = -N := by unfold wrap64; omega
    clear cC cK cL tt KS KZ
    cases P
    case true =>
      clear HPQ
      go_wp2_with fail
      refine wp_region_quiet_below (by kernel_rfl) (by kernel_rfl) ?_
      have gg0 := cell_regrown k0
      have gg1 := cell_regrown k1
      have gg2 := cell_regrown k2
      have gg3 := cell_regrown k3
      have gg4 := cell_regrown k4
      have gg5 := cell_regrown k5
      have gg6 := cell_regrown k6
      have gg7 := cell_regrown k7
      have gg8 := cell_regrown j0
      have gg9 := cell_regrown j1
      have gg10 := cell_regrown j2
      have gg11 := cell_regrown j3
      have gg12 := cell_regrown j4
      have gg13 := cell_regrown j5
      have gg14 := cell_regrown j6
      have gg15 := cell_regrown j7
      have gg16 := cell_regrown y0
      have gg17 := cell_regrown y1
      have gg18 := cell_regrown y2
      have gg19 := cell_regrown z0
      have gg20 := cell_regrown z1
      have gg21 := cell_regrown z2
      have zz0 : ∀ d os, _ := fun d os => Calls.regrown_of (w := wc) (d := d) (os := os) (alive_any _)
      have zz1 : ∀ d os, _ := fun d os => Calls.regrown_of (w := wc) (d := d) (os := os) (cR _)
      have zz2 : ∀ d os, _ := fun d os => Calls.regrown_of (w := wc) (d := d) (os := os) (cB _)
      have zz3 : ∀ d os, _ := fun d os => Calls.regrown_of (w := wc) (d := d) (os := os) (cS _)
      have zz4 : ∀ d os, _ := fun d os => Calls.regrown_of (w := wc) (d := d) (os := os) (cP _)
      have zz5 : ∀ d os, _ := fun d os => Calls.regrown_of (w := wc) (d := d) (os := os) (cQ _)
      have zz6 : ∀ d os, _ := fun d os => Calls.regrown_of (w := wc) (d := d) (os := os) (cT _)
      repeat (first | go_big_quiet_step (with_reducible exact zz0 _ _) | go_big_quiet_step (with_reducible exact zz1 _ _) | go_big_quiet_step (with_reducible exact zz2 _ _) | go_big_quiet_step (with_reducible exact zz3 _ _) | go_big_quiet_step (with_reducible exact zz4 _ _) | go_big_quiet_step (with_reducible exact zz5 _ _) | go_big_quiet_step (with_reducible exact zz6 _ _) | go_big_quiet_step (fail) | go_big_quiet_skip)
      refine wpQuiet_nil ?_
      intro W9 hw'
      obtain ⟨⟨dq, osq⟩, hw''⟩ := hw'
      have hbz := below_regrown wc dq osq
      rw [← hw''] at hbz
      clear hw'' gg0 gg1 gg2 gg3 gg4 gg5 gg6 gg7 gg8 gg9 gg10 gg11 gg12 gg13 gg14 gg15 gg16 gg17 gg18 gg19 gg20 gg21 zz0 zz1 zz2 zz3 zz4 zz5 zz6 
      go_wp2
      go_ret
      exact ⟨rfl, T7.out.trans (hbz.mono T7.out.size)⟩
    case false =>
      cases Q
      case true =>
        clear HPQ
        go_wp2_with fail
        refine wp_region_quiet_below (by kernel_rfl) (by kernel_rfl) ?_
        have gg0 := cell_regrown k0
        have gg1 := cell_regrown k1
        have gg2 := cell_regrown k2
        have gg3 := cell_regrown k3
        have gg4 := cell_regrown k4
        have gg5 := cell_regrown k5
        have gg6 := cell_regrown k6
        have gg7 := cell_regrown k7
        have gg8 := cell_regrown j0
        have gg9 := cell_regrown j1
        have gg10 := cell_regrown j2
        have gg11 := cell_regrown j3
        have gg12 := cell_regrown j4
        have gg13 := cell_regrown j5
        have gg14 := cell_regrown j6
        have gg15 := cell_regrown j7
        have gg16 := cell_regrown y0
        have gg17 := cell_regrown y1
        have gg18 := cell_regrown y2
        have gg19 := cell_regrown z0
        have gg20 := cell_regrown z1
        have gg21 := cell_regrown z2
        have zz0 : ∀ d os, _ := fun d os => Calls.regrown_of (w := wc) (d := d) (os := os) (alive_any _)
        have zz1 : ∀ d os, _ := fun d os => Calls.regrown_of (w := wc) (d := d) (os := os) (cR _)
        have zz2 : ∀ d os, _ := fun d os => Calls.regrown_of (w := wc) (d := d) (os := os) (cB _)
        have zz3 : ∀ d os, _ := fun d os => Calls.regrown_of (w := wc) (d := d) (os := os) (cS _)
        have zz4 : ∀ d os, _ := fun d os => Calls.regrown_of (w := wc) (d := d) (os := os) (cP _)
        have zz5 : ∀ d os, _ := fun d os => Calls.regrown_of (w := wc) (d := d) (os := os) (cQ _)
        have zz6 : ∀ d os, _ := fun d os => Calls.regrown_of (w := wc) (d := d) (os := os) (cT _)
        repeat (first | go_big_quiet_step (with_reducible exact zz0 _ _) | go_big_quiet_step (with_reducible exact zz1 _ _) | go_big_quiet_step (with_reducible exact zz2 _ _) | go_big_quiet_step (with_reducible exact zz3 _ _) | go_big_quiet_step (with_reducible exact zz4 _ _) | go_big_quiet_step (with_reducible exact zz5 _ _) | go_big_quiet_step (with_reducible exact zz6 _ _) | go_big_quiet_step (fail) | go_big_quiet_skip)
        refine wpQuiet_nil ?_
        intro W9 hw'
        obtain ⟨⟨dq, osq⟩, hw''⟩ := hw'
        have hbz := below_regrown wc dq osq
        rw [← hw''] at hbz
        clear hw'' gg0 gg1 gg2 gg3 gg4 gg5 gg6 gg7 gg8 gg9 gg10 gg11 gg12 gg13 gg14 gg15 gg16 gg17 gg18 gg19 gg20 gg21 zz0 zz1 zz2 zz3 zz4 zz5 zz6 
        go_wp2
        go_ret
        exact ⟨rfl, T7.out.trans (hbz.mono T7.out.size)⟩
      case false =>
        obtain ⟨e1, e2, e3⟩ : a.t = b.t ∧ a.i = b.i ∧ a.v = b.v := by
          rcases HPQ.out with q | q | q
          · cases q
          · cases q
          · exact q
        have d1 : (a.t == b.t) = true := by simpa using e1
        have d2 : (a.i == b.i) = true := by simpa using e2
        have d3 : (a.v == b.v) = true := by simpa using e3
        clear e1 e2 e3 HPQ
        go_wp2_with fail
        refine wp_region_quiet_below (by kernel_rfl) (by kernel_rfl) ?_
        have gg0 := cell_regrown k0
        have gg1 := cell_regrown k1
        have gg2 := cell_regrown k2
        have gg3 := cell_regrown k3
        have gg4 := cell_regrown k4
        have gg5 := cell_regrown k5
        have gg6 := cell_regrown k6
        have gg7 := cell_regrown k7
        have gg8 := cell_regrown j0
        have gg9 := cell_regrown j1
        have gg10 := cell_regrown j2
        have gg11 := cell_regrown j3
        have gg12 := cell_regrown j4
        have gg13 := cell_regrown j5
        have gg14 := cell_regrown j6
        have gg15 := cell_regrown j7
        have gg16 := cell_regrown y0
        have gg17 := cell_regrown y1
        have gg18 := cell_regrown y2
        have gg19 := cell_regrown z0
        have gg20 := cell_regrown z1
        have gg21 := cell_regrown z2
        have zz0 : ∀ d os, _ := fun d os => Calls.regrown_of (w := wc) (d := d) (os := os) (alive_any _)
        have zz1 : ∀ d os, _ := fun d os => Calls.regrown_of (w := wc) (d := d) (os := os) (cR _)
        have zz2 : ∀ d os, _ := fun d os => Calls.regrown_of (w := wc) (d := d) (os := os) (cB _)
        have zz3 : ∀ d os, _ := fun d os => Calls.regrown_of (w := wc) (d := d) (os := os) (cS _)
        have zz4 : ∀ d os, _ := fun d os => Calls.regrown_of (w := wc) (d := d) (os := os) (cP _)
        have zz5 : ∀ d os, _ := fun d os => Calls.regrown_of (w := wc) (d := d) (os := os) (cQ _)
        have zz6 : ∀ d os, _ := fun d os => Calls.regrown_of (w := wc) (d := d) (os := os) (cT _)
        repeat (first | go_big_quiet_step (with_reducible exact zz0 _ _) | go_big_quiet_step (with_reducible exact zz1 _ _) | go_big_quiet_step (with_reducible exact zz2 _ _) | go_big_quiet_step (with_reducible exact zz3 _ _) | go_big_quiet_step (with_reducible exact zz4 _ _) | go_big_quiet_step (with_reducible exact zz5 _ _) | go_big_quiet_step (with_reducible exact zz6 _ _) | go_big_quiet_step (fail) | go_big_quiet_skip)
        refine wpQuiet_nil ?_
        intro W9 hw'
        obtain ⟨⟨dq, osq⟩, hw''⟩ := hw'
        have hbz := below_regrown wc dq osq
        rw [← hw''] at hbz
        clear hw'' gg0 gg1 gg2 gg3 gg4 gg5 gg6 gg7 gg8 gg9 gg10 gg11 gg12 gg13 gg14 gg15 gg16 gg17 gg18 gg19 gg20 gg21 zz0 zz1 zz2 zz3 zz4 zz5 zz6 
        go_wp2
        go_ret
        exact ⟨rfl, T7.out.trans (hbz.mono T7.out.size)⟩
end Go.Proofs.Ytodnhihpefhcdaa
