/-
  The contract of the reference's Eval. No statement is proved here; no conditions.
-/
import Derived.Test.YtmcjpibahnlmbaaEv
import Derived.Test.YtmcjpibahnlmbaaRn
namespace Go.Proofs.Ytmcjpibahnlmbaa
open Go.RowKit Go.Joins

set_option maxRecDepth 100000 in
set_option maxHeartbeats 2000000 in
theorem reval8_any (A0 : Option Addr) (c : Nat) (l : List Cl) (t : Rt) (w : World) (hl : Cr w A0 l) (hll : l.length ≤ 10000) (hok : Oks (cps l)) (ht : okt t = true) (hB : t.A < 4294967296) :
    Calls Try.prog 22 #[.slice A0 l.length c, tv t] w fun e w' => e = .returned (.tuple #[tv (evm (cps l) t).1, .bool (evm (cps l) t).2.1, .int .i64 (evm (cps l) t).2.2]) ∧ Below w.heap.size w w' := by
  obtain ⟨W0, hW0⟩ : ∃ W0, w.alloc (.cells #[Value.int .u32 (t.A : Int), Value.int .i64 t.N, Value.int .i64 t.k, Value.int .i64 t.c, Value.int .u32 (t.t : Int)] 44) = W0 := ⟨_, rfl⟩
  have s0 : W0.heap.size = w.heap.size + 1 := by rw [← hW0]; simp
  obtain ⟨W1, hW1⟩ : ∃ W1, W0.alloc (.cells #[Value.int .u32 0, Value.int .i64 0, Value.int .i64 0, Value.int .i64 0, Value.int .u32 0] 44) = W1 := ⟨_, rfl⟩
  have s1 : W1.heap.size = w.heap.size + 2 := by rw [← hW1]; simp [s0]
  have b0 : Below w.heap.size w W0 := by rw [← hW0]; exact below_alloc1 _ _
  have b1 : Below W0.heap.size W0 W1 := by rw [← hW1]; exact below_alloc1 _ _
  have HB : Hid (Below w.heap.size w W1) := Lib.hid (b0.trans (b1.mono (by omega)))
  have KX : Hid (∀ V, Below W1.heap.size W1 V → V.cell? ⟨w.heap.size, 0, none⟩ = some (Value.int .u32 (t.A : Int)) ∧ V.cell? ⟨w.heap.size, 1, none⟩ = some (Value.int .i64 t.N) ∧ V.cell? ⟨w.heap.size, 2, none⟩ = some (Value.int .i64 t.k) ∧ V.cell? ⟨w.heap.size, 3, none⟩ = some (Value.int .i64 t.c) ∧ V.cell? ⟨w.heap.size, 4, none⟩ = some (Value.int .u32 (t.t : Int))) :=
    Lib.hid (fun V hV => tb_new hW0 (b1.trans (hV.mono b1.size)))
  have KZ : Hid (∀ V, Below W1.heap.size W1 V → V.heap[w.heap.size + 1]? = some (.cells #[Value.int .u32 0, Value.int .i64 0, Value.int .i64 0, Value.int .i64 0, Value.int .u32 0] 44)) :=
    Lib.hid (fun V hV => by rw [hV.block _ (by omega), ← hW1]; exact alloc_at _ _ _ (by omega))
  clear b0 b1
  obtain ⟨E, hE⟩ : ∃ E, evm (cps l) t = E := ⟨_, rfl⟩
  obtain ⟨ln, hln⟩ : ∃ ln, l.length = ln := ⟨_, rfl⟩
  rw [hE]
  rw [hln] at hll ⊢
  have HE := Lib.hid hE
  have HL0 := Lib.hid hl
  have HL := Lib.hid (hl.step HB.out)
  have HLN := Lib.hid hln
  have HOK : Hid (∀ k, k < ln → okc (gc l k).c = true) := Lib.hid (fun k hk => by
    rw [← hln] at hk
    rw [gc_eq hk]
    exact hok _ (by rw [cps]; exact List.mem_map_of_mem (List.getElem_mem _)))
  clear hE hl hln hok
  go_enter Try.func22, Try.ntmps22
  go_wp2_with fail
  clear hW0 hW1
  go_loopg [7] ln (fun gf v wx => ∃ (k : Nat), v = .int .i64 (k : Int) ∧ Hid (gf + k = ln) ∧ Hid (∀ i, i < k → mtc (gp (cps l) i) t = false) ∧ Hid (Below W1.heap.size W1 wx))
  case atStart => exact ⟨0, rfl, Lib.hid (by omega), Lib.hid (fun i hi => by omega), Lib.hid (Below.refl _ _)⟩
  case round =>
    obtain ⟨k, rfl, hk, hn, HB1⟩ := hrel
    have hk' := hk.out
    cases gk with
    | zero =>
      have e1 : k = ln := by omega
      have lt0 : decide ((k : Int) < (ln : Int)) = false := by simp; omega
      have lt1 : decide (k < ln) = false := by simp; omega
      have E2 : Hid (E = (zr, false, 0)) := Lib.hid (by rw [← HE.out]; exact evm_none fun i hi => hn.out i (by rw [cps_len, HLN.out] at hi; omega))
      have kz := KZ.out _ HB1.out
      obtain ⟨z0, z1, z2, z3, z4, f0, f1, f2, f3, f4, hzl⟩ := tz_at kz
      obtain ⟨r0, r1, r2, r3, r4⟩ := tz_get kz (.int .u32 0) (.int .i64 0) (.int .i64 0) (.int .i64 0) (.int .u32 0)
      clear e1
      go_wp2
      refine bodyPost_ret (v := .tuple #[tv zr, .bool false, .int .i64 0]) (by simp [results, Try.results22, go_sem, r0, r1, r2, r3, r4, zr]) rfl ⟨by rw [E2.out], ?_⟩
      exact below_st5 (HB.out.trans (HB1.out.mono (by omega))) (by omega) _ _ _ _ _
    | succ gf =>
      have hkl : k < l.length := by rw [HLN.out]; omega
      have hkn : k < ln := by omega
      have lt0 : (k : Int) < (ln : Int) := by omega
      have hw1 : (k : Int) + 1 ≤ 10000 := by omega
      have hok := HOK.out k hkn
      obtain ⟨b, off, hA, hbl, hcx, e0, e1, e2, e3, e4, e5, e6, e7, e8, e9, e10, e11⟩ := (HL.out.step HB1.out).at (i := k) hkl
      obtain ⟨b', off', hA', hbl', _, d0, d1, d2, d3, d4, d5, d6, d7, d8, d9, d10, d11⟩ := HL.out.at (i := k) hkl
      obtain ⟨bb, oo, hA'', hbw, _⟩ := HL0.out.at (i := k) hkl
      have hgp := gp_cps hkl
      obtain ⟨x, hx⟩ : ∃ x, gc l k = x := ⟨_, rfl⟩
      rw [hx] at hok hcx hgp e0 d0 e1 d1 e2 d2 e3 d3 e4 d4 e5 d5 e6 d6 e7 d7 e8 d8 e9 d9 e10 d10 e11 d11
      subst hA
      simp only [Option.some.injEq, Addr.mk.injEq] at hA' hA''
      obtain ⟨rfl, rfl, _⟩ := hA'
      obtain ⟨rfl, rfl, _⟩ := hA''
      have HGP := Lib.hid hgp
      have KS : Hid (∀ V : World, (∀ j, j < w.heap.size + 1 → V.heap[j]? = W1.heap[j]?) → (V.cell? ⟨b, off + k * 12, none⟩ = some (.int .i64 x.c.s) ∧ V.cell? ⟨b, off + k * 12 + 1, none⟩ = some (.bool x.c.p) ∧ V.cell? ⟨b, off + k * 12 + 2, none⟩ = some (.slice x.LA x.c.L.length x.Lc) ∧ V.cell? ⟨b, off + k * 12 + 3, none⟩ = some (.int .i64 x.c.k) ∧ V.cell? ⟨b, off + k * 12 + 4, none⟩ = some (.int .i64 x.c.lo) ∧ V.cell? ⟨b, off + k * 12 + 5, none⟩ = some (.int .i64 x.c.hi) ∧ V.cell? ⟨b, off + k * 12 + 6, none⟩ = some (.slice x.TA x.c.T.length x.Tc) ∧ V.cell? ⟨b, off + k * 12 + 7, none⟩ = some (.int .i64 x.c.sc) ∧ V.cell? ⟨b, off + k * 12 + 8, none⟩ = some (.int .i64 x.c.sp) ∧ V.cell? ⟨b, off + k * 12 + 9, none⟩ = some (.int .i64 x.c.sk) ∧ V.cell? ⟨b, off + k * 12 + 10, none⟩ = some (.bool x.c.st) ∧ V.cell? ⟨b, off + k * 12 + 11, none⟩ = some (.int .u32 (x.c.tg : Int)) ∧ V.cell? ⟨w.heap.size, 0, none⟩ = some (Value.int .u32 (t.A : Int)) ∧ V.cell? ⟨w.heap.size, 1, none⟩ = some (Value.int .i64 t.N) ∧ V.cell? ⟨w.heap.size, 2, none⟩ = some (Value.int .i64 t.k) ∧ V.cell? ⟨w.heap.size, 3, none⟩ = some (Value.int .i64 t.c) ∧ V.cell? ⟨w.heap.size, 4, none⟩ = some (Value.int .u32 (t.t : Int)))) := Lib.hid (fun V hV => by
        have hv : ∀ o, V.cell? ⟨b, o, none⟩ = W1.cell? ⟨b, o, none⟩ := fun o => World.cell?_of_block (hV b (by omega))
        have ht : ∀ o, V.cell? ⟨w.heap.size, o, none⟩ = W1.cell? ⟨w.heap.size, o, none⟩ := fun o => World.cell?_of_block (hV w.heap.size (by omega))
        obtain ⟨q0, q1, q2, q3, q4⟩ := KX.out _ (Below.refl _ _)
        exact ⟨(hv _).trans d0, (hv _).trans d1, (hv _).trans d2, (hv _).trans d3, (hv _).trans d4, (hv _).trans d5, (hv _).trans d6, (hv _).trans d7, (hv _).trans d8, (hv _).trans d9, (hv _).trans d10, (hv _).trans d11, (ht _).trans q0, (ht _).trans q1, (ht _).trans q2, (ht _).trans q3, (ht _).trans q4⟩)
      obtain ⟨q0, q1, q2, q3, q4⟩ := KX.out _ HB1.out
      have cm := fun W (hW : Below wr.heap.size wr W) => rmatches_any x t W (hcx.step hW) hB
      clear hx hbl hbl' hcx hgp d0 d1 d2 d3 d4 d5 d6 d7 d8 d9 d10 d11
      cases hpr : mtc x.c t with
      | true =>
        rw [hpr] at cm
        have HEV : Hid (E = ans x.c t) := Lib.hid (by rw [← HE.out, evm_at (by rw [cps_len]; exact hkl) hn.out (by rw [HGP.out]; exact hpr), HGP.out])
        clear hpr hkl
        go_wp2_with fail
        refine wp_region_quiet_below (by kernel_rfl) (by kernel_rfl) ?_
        have gg0 := cell_regrown e0
        have gg1 := cell_regrown e1
        have gg2 := cell_regrown e2
        have gg3 := cell_regrown e3
        have gg4 := cell_regrown e4
        have gg5 := cell_regrown e5
        have gg6 := cell_regrown e6
        have gg7 := cell_regrown e7
        have gg8 := cell_regrown e8
        have gg9 := cell_regrown e9
        have gg10 := cell_regrown e10
        have gg11 := cell_regrown e11
        have gg12 := cell_regrown q0
        have gg13 := cell_regrown q1
        have gg14 := cell_regrown q2
        have gg15 := cell_regrown q3
        have gg16 := cell_regrown q4
        have zz0 : ∀ d os, _ := fun d os => Calls.regrown_of (w := wr) (d := d) (os := os) (cm _ (below_regrown wr d os))
        repeat (first | go_big_quiet_step (with_reducible exact zz0 _ _) | go_big_quiet_step (fail) | go_big_quiet_skip)
        refine wpQuiet_nil ?_
        intro W9 hw'
        obtain ⟨⟨dq, osq⟩, hw''⟩ := hw'
        have hbz := below_regrown wr dq osq
        rw [← hw''] at hbz
        clear hw'' gg0 gg1 gg2 gg3 gg4 gg5 gg6 gg7 gg8 gg9 gg10 gg11 gg12 gg13 gg14 gg15 gg16 zz0
        have HB2 := Lib.hid (HB1.out.trans (hbz.mono HB1.out.size))
        clear hbz cm e0 e1 e2 e3 e4 e5 e6 e7 e8 e9 e10 e11 q0 q1 q2 q3 q4
        obtain ⟨e0, e1, e2, e3, e4, e5, e6, e7, e8, e9, e10, e11, q0, q1, q2, q3, q4⟩ := KS.out _ (fun j hj => HB2.out.block j (by omega))
        cases hp : x.c.p with
        | false =>
          rw [hp] at e1
          have HEV2 : Hid (E = (zr, false, x.c.s)) := Lib.hid (by rw [HEV.out, ans, hp]; rfl)
          clear hp
          go_wp2_with fail
          clear e0 e1 e2 e3 e4 e5 e6 e7 e8 e9 e10 e11 q0 q1 q2 q3 q4
          refine wp_region_held_drew (S := fun V => V.cell? ⟨b, off + k * 12, none⟩ = some (.int .i64 x.c.s) ∧ V.cell? ⟨b, off + k * 12 + 1, none⟩ = some (.bool x.c.p) ∧ V.cell? ⟨b, off + k * 12 + 2, none⟩ = some (.slice x.LA x.c.L.length x.Lc) ∧ V.cell? ⟨b, off + k * 12 + 3, none⟩ = some (.int .i64 x.c.k) ∧ V.cell? ⟨b, off + k * 12 + 4, none⟩ = some (.int .i64 x.c.lo) ∧ V.cell? ⟨b, off + k * 12 + 5, none⟩ = some (.int .i64 x.c.hi) ∧ V.cell? ⟨b, off + k * 12 + 6, none⟩ = some (.slice x.TA x.c.T.length x.Tc) ∧ V.cell? ⟨b, off + k * 12 + 7, none⟩ = some (.int .i64 x.c.sc) ∧ V.cell? ⟨b, off + k * 12 + 8, none⟩ = some (.int .i64 x.c.sp) ∧ V.cell? ⟨b, off + k * 12 + 9, none⟩ = some (.int .i64 x.c.sk) ∧ V.cell? ⟨b, off + k * 12 + 10, none⟩ = some (.bool x.c.st) ∧ V.cell? ⟨b, off + k * 12 + 11, none⟩ = some (.int .u32 (x.c.tg : Int)) ∧ V.cell? ⟨w.heap.size, 0, none⟩ = some (Value.int .u32 (t.A : Int)) ∧ V.cell? ⟨w.heap.size, 1, none⟩ = some (Value.int .i64 t.N) ∧ V.cell? ⟨w.heap.size, 2, none⟩ = some (Value.int .i64 t.k) ∧ V.cell? ⟨w.heap.size, 3, none⟩ = some (Value.int .i64 t.c) ∧ V.cell? ⟨w.heap.size, 4, none⟩ = some (Value.int .u32 (t.t : Int))) (by kernel_rfl) (KS.out _ (fun j hj => HB2.out.block j (by omega))) (fun hHeld => ?_)
          refine wpAnyH_take (i := 0) (v := ?_) rfl (by kernel_rfl) (by kernel_rfl) (by kernel_rfl) (fun _ _ _ h => h) (Or.inl ⟨by rfl, ?_⟩) (by assumption) ?_
          rotate_left
          · (intro w' hSw; (try dsimp only at hSw); go_simp; try with_reducible rfl)
          simp only [Act.put, List.getElem_toArray, List.getElem_cons_zero, List.setIfInBounds_toArray, List.set_cons_zero, List.set_cons_succ]
          refine wpAnyH_take (i := 1) (v := ?_) rfl (by kernel_rfl) (by kernel_rfl) (by kernel_rfl) (fun _ _ _ h => h) (Or.inl ⟨by rfl, ?_⟩) (by assumption) ?_
          rotate_left
          · (intro w' hSw; (try dsimp only at hSw); go_simp; try with_reducible rfl)
          simp only [Act.put, List.getElem_toArray, List.getElem_cons_zero, List.getElem_cons_succ, List.setIfInBounds_toArray, List.set_cons_zero, List.set_cons_succ]
          refine wpAnyH_take (i := 2) (v := ?_) rfl (by kernel_rfl) (by kernel_rfl) (by kernel_rfl) (fun _ _ _ h => h) (Or.inl ⟨by rfl, ?_⟩) (by assumption) ?_
          rotate_left
          · (intro w' hSw; (try dsimp only at hSw); go_simp; try with_reducible rfl)
          simp only [Act.put, List.getElem_toArray, List.getElem_cons_zero, List.getElem_cons_succ, List.setIfInBounds_toArray, List.set_cons_zero, List.set_cons_succ]
          refine wpAnyH_take (i := 3) (v := ?_) rfl (by kernel_rfl) (by kernel_rfl) (by kernel_rfl) (fun _ _ _ h => h) (Or.inl ⟨by rfl, ?_⟩) (by assumption) ?_
          rotate_left
          · (intro w' hSw; (try dsimp only at hSw); go_simp; try with_reducible rfl)
          simp only [Act.put, List.getElem_toArray, List.getElem_cons_zero, List.getElem_cons_succ, List.setIfInBounds_toArray, List.set_cons_zero, List.set_cons_succ]
          refine wpAnyH_take (i := 4) (v := ?_) rfl (by kernel_rfl) (by kernel_rfl) (by kernel_rfl) (fun _ _ _ h => h) (Or.inl ⟨by rfl, ?_⟩) (by assumption) ?_
          rotate_left
          · (intro w' hSw; (try dsimp only at hSw); go_simp; try with_reducible rfl)
          simp only [Act.put, List.getElem_toArray, List.getElem_cons_zero, List.getElem_cons_succ, List.setIfInBounds_toArray, List.set_cons_zero, List.set_cons_succ]
          refine wpAnyH_take (i := 5) (v := ?_) rfl (by kernel_rfl) (by kernel_rfl) (by kernel_rfl) (fun _ _ _ h => h) (Or.inl ⟨by rfl, ?_⟩) (by assumption) ?_
          rotate_left
          · (intro w' hSw; (try dsimp only at hSw); go_simp; try with_reducible rfl)
          simp only [Act.put, List.getElem_toArray, List.getElem_cons_zero, List.getElem_cons_succ, List.setIfInBounds_toArray, List.set_cons_zero, List.set_cons_succ]
          have tX : Hid (Below W1.heap.size W1 W9.drew) := Lib.hid (HB2.out.trans (below_draws _ _ 1))
          generalize hX : W9.drew = X at tX ⊢
          clear hX hHeld
          have kx := KZ.out _ tX.out
          obtain ⟨z0, z1, z2, z3, z4, f0, f1, f2, f3, f4, hzl⟩ := tz_at kx
          obtain ⟨r0, r1, r2, r3, r4⟩ := tz_get kx (.int .u32 0) (.int .i64 0) (.int .i64 0) (.int .i64 0) (.int .u32 0)
          have tY : Hid (∀ j, j < w.heap.size + 1 → (st5 X (w.heap.size + 1) (.int .u32 0) (.int .i64 0) (.int .i64 0) (.int .i64 0) (.int .u32 0)).heap[j]? = W1.heap[j]?) := Lib.hid (fun j hj => (far_st5 (by omega) _ _ _ _ _).trans (tX.out.block j (by omega)))
          refine wpAnyH_ready (rs := [6]) (by kernel_rfl) (by simp) ?_
          refine AllReadyH.cons rfl (fun K hK => ?_) AllReadyH.nil
          go_simp
          refine hK.out _ _ (KS.out _ tY.out) (fun _ => ?_)
          clear hK K
          clear z0 z1 z2 z3 z4 f0 f1 f2 f3 f4 hzl
          refine wpAnyH_ready (rs := [7]) (by kernel_rfl) (by simp) ?_
          refine AllReadyH.cons rfl (fun K hK => ?_) AllReadyH.nil
          go_simp
          refine hK.out _ _ (KS.out _ tY.out) (fun _ => ?_)
          clear hK K
          refine wpAnyH_ready (rs := [8]) (by kernel_rfl) (by simp) ?_
          refine AllReadyH.cons rfl (fun K hK => ?_) AllReadyH.nil
          go_simp
          refine hK.out _ _ (KS.out _ tY.out) (fun _ => ?_)
          clear hK K
          refine wpAnyH_done (by kernel_rfl) ?_ _
          go_wp2
          refine bodyPost_ret (v := .tuple #[tv zr, .bool false, .int .i64 x.c.s]) (by simp [results, Try.results22, go_sem, r0, r1, r2, r3, r4, zr]) rfl ⟨by rw [HEV2.out], ?_⟩
          exact below_st5 (HB.out.trans (tX.out.mono (by omega))) (by omega) _ _ _ _ _
        | true =>
          rw [hp] at e1
          have HEV2 : Hid (E = (chg x.c t, true, x.c.s)) := Lib.hid (by rw [HEV.out, ans, hp]; rfl)
          clear hp
          go_wp2_with fail
          clear e0 e1 e2 e3 e4 e5 e6 e7 e8 e9 e10 e11 q0 q1 q2 q3 q4
          refine wp_region_held_drew (S := fun V => V.cell? ⟨b, off + k * 12, none⟩ = some (.int .i64 x.c.s) ∧ V.cell? ⟨b, off + k * 12 + 1, none⟩ = some (.bool x.c.p) ∧ V.cell? ⟨b, off + k * 12 + 2, none⟩ = some (.slice x.LA x.c.L.length x.Lc) ∧ V.cell? ⟨b, off + k * 12 + 3, none⟩ = some (.int .i64 x.c.k) ∧ V.cell? ⟨b, off + k * 12 + 4, none⟩ = some (.int .i64 x.c.lo) ∧ V.cell? ⟨b, off + k * 12 + 5, none⟩ = some (.int .i64 x.c.hi) ∧ V.cell? ⟨b, off + k * 12 + 6, none⟩ = some (.slice x.TA x.c.T.length x.Tc) ∧ V.cell? ⟨b, off + k * 12 + 7, none⟩ = some (.int .i64 x.c.sc) ∧ V.cell? ⟨b, off + k * 12 + 8, none⟩ = some (.int .i64 x.c.sp) ∧ V.cell? ⟨b, off + k * 12 + 9, none⟩ = some (.int .i64 x.c.sk) ∧ V.cell? ⟨b, off + k * 12 + 10, none⟩ = some (.bool x.c.st) ∧ V.cell? ⟨b, off + k * 12 + 11, none⟩ = some (.int .u32 (x.c.tg : Int)) ∧ V.cell? ⟨w.heap.size, 0, none⟩ = some (Value.int .u32 (t.A : Int)) ∧ V.cell? ⟨w.heap.size, 1, none⟩ = some (Value.int .i64 t.N) ∧ V.cell? ⟨w.heap.size, 2, none⟩ = some (Value.int .i64 t.k) ∧ V.cell? ⟨w.heap.size, 3, none⟩ = some (Value.int .i64 t.c) ∧ V.cell? ⟨w.heap.size, 4, none⟩ = some (Value.int .u32 (t.t : Int))) (by kernel_rfl) (KS.out _ (fun j hj => HB2.out.block j (by omega))) (fun hHeld => ?_)
          refine wpAnyH_take (i := 0) (v := ?_) rfl (by kernel_rfl) (by kernel_rfl) (by kernel_rfl) (fun _ _ _ h => h) (Or.inl ⟨by rfl, ?_⟩) (by assumption) ?_
          rotate_left
          · (intro w' hSw; (try dsimp only at hSw); go_simp; try with_reducible rfl)
          simp only [Act.put, List.getElem_toArray, List.getElem_cons_zero, List.setIfInBounds_toArray, List.set_cons_zero, List.set_cons_succ]
          refine wpAnyH_take (i := 1) (v := ?_) rfl (by kernel_rfl) (by kernel_rfl) (by kernel_rfl) (fun _ _ _ h => h) (Or.inl ⟨by rfl, ?_⟩) (by assumption) ?_
          rotate_left
          · (intro w' hSw; (try dsimp only at hSw); go_simp; try with_reducible rfl)
          simp only [Act.put, List.getElem_toArray, List.getElem_cons_zero, List.getElem_cons_succ, List.setIfInBounds_toArray, List.set_cons_zero, List.set_cons_succ]
          refine wpAnyH_take (i := 2) (v := ?_) rfl (by kernel_rfl) (by kernel_rfl) (by kernel_rfl) (fun _ _ _ h => h) (Or.inl ⟨by rfl, ?_⟩) (by assumption) ?_
          rotate_left
          · (intro w' hSw; (try dsimp only at hSw); go_simp; try with_reducible rfl)
          simp only [Act.put, List.getElem_toArray, List.getElem_cons_zero, List.getElem_cons_succ, List.setIfInBounds_toArray, List.set_cons_zero, List.set_cons_succ]
          refine wpAnyH_take (i := 3) (v := ?_) rfl (by kernel_rfl) (by kernel_rfl) (by kernel_rfl) (fun _ _ _ h => h) (Or.inl ⟨by rfl, ?_⟩) (by assumption) ?_
          rotate_left
          · (intro w' hSw; (try dsimp only at hSw); go_simp; try with_reducible rfl)
          simp only [Act.put, List.getElem_toArray, List.getElem_cons_zero, List.getElem_cons_succ, List.setIfInBounds_toArray, List.set_cons_zero, List.set_cons_succ]
          refine wpAnyH_take (i := 4) (v := ?_) rfl (by kernel_rfl) (by kernel_rfl) (by kernel_rfl) (fun _ _ _ h => h) (Or.inl ⟨by rfl, ?_⟩) (by assumption) ?_
          rotate_left
          · (intro w' hSw; (try dsimp only at hSw); go_simp; try with_reducible rfl)
          simp only [Act.put, List.getElem_toArray, List.getElem_cons_zero, List.getElem_cons_succ, List.setIfInBounds_toArray, List.set_cons_zero, List.set_cons_succ]
          refine wpAnyH_take (i := 6) (v := ?_) rfl (by kernel_rfl) (by kernel_rfl) (by kernel_rfl) (fun _ _ _ h => h) (Or.inl ⟨by rfl, ?_⟩) (by assumption) ?_
          rotate_left
          · (intro w' hSw; (try dsimp only at hSw); go_simp; try with_reducible rfl)
          simp only [Act.put, List.getElem_toArray, List.getElem_cons_zero, List.getElem_cons_succ, List.setIfInBounds_toArray, List.set_cons_zero, List.set_cons_succ]
          refine wpAnyH_take (i := 7) (v := ?_) rfl (by kernel_rfl) (by kernel_rfl) (by kernel_rfl) (fun _ _ _ h => h) (Or.inl ⟨by rfl, ?_⟩) (by assumption) ?_
          rotate_left
          · (intro w' hSw; (try dsimp only at hSw); go_simp; try with_reducible rfl)
          simp only [Act.put, List.getElem_toArray, List.getElem_cons_zero, List.getElem_cons_succ, List.setIfInBounds_toArray, List.set_cons_zero, List.set_cons_succ]
          refine wpAnyH_take (i := 8) (v := ?_) rfl (by kernel_rfl) (by kernel_rfl) (by kernel_rfl) (fun _ _ _ h => h) (Or.inl ⟨by rfl, ?_⟩) (by assumption) ?_
          rotate_left
          · (intro w' hSw; (try dsimp only at hSw); go_simp; try with_reducible rfl)
          simp only [Act.put, List.getElem_toArray, List.getElem_cons_zero, List.getElem_cons_succ, List.setIfInBounds_toArray, List.set_cons_zero, List.set_cons_succ]
          refine wpAnyH_take (i := 9) (v := ?_) rfl (by kernel_rfl) (by kernel_rfl) (by kernel_rfl) (fun _ _ _ h => h) (Or.inl ⟨by rfl, ?_⟩) (by assumption) ?_
          rotate_left
          · (intro w' hSw; (try dsimp only at hSw); go_simp; try with_reducible rfl)
          simp only [Act.put, List.getElem_toArray, List.getElem_cons_zero, List.getElem_cons_succ, List.setIfInBounds_toArray, List.set_cons_zero, List.set_cons_succ]
          refine wpAnyH_take (i := 10) (v := ?_) rfl (by kernel_rfl) (by kernel_rfl) (by kernel_rfl) (fun _ _ _ h => h) (Or.inl ⟨by rfl, ?_⟩) (by assumption) ?_
          rotate_left
          · (intro w' hSw; (try dsimp only at hSw); go_simp; try with_reducible rfl)
          simp only [Act.put, List.getElem_toArray, List.getElem_cons_zero, List.getElem_cons_succ, List.setIfInBounds_toArray, List.set_cons_zero, List.set_cons_succ]
          have tX : Hid (Below W1.heap.size W1 W9.drew) := Lib.hid (HB2.out.trans (below_draws _ _ 1))
          generalize hX : W9.drew = X at tX ⊢
          clear hX hHeld
          refine wpAnyH_ready (rs := [5]) (by kernel_rfl) (by simp) ?_
          refine AllReadyH.cons rfl (fun K hK => ?_) AllReadyH.nil
          go_simp
          go_at_call 20
          refine (rchange_any x t X hok ht).mono ?_
          rintro e Y ⟨rfl, hbY⟩
          replace tX : Hid (Below W1.heap.size W1 Y) := Lib.hid (tX.out.trans (hbY.mono tX.out.size))
          refine hK.out _ _ (KS.out _ (fun j hj => tX.out.block j (by omega))) (fun _ => ?_)
          clear hK K hbY
          obtain ⟨r, hr⟩ : ∃ r, chg x.c t = r := ⟨_, rfl⟩
          have HR := Lib.hid hr
          rw [hr]
          clear hr
          have kx := KZ.out _ tX.out
          obtain ⟨z0, z1, z2, z3, z4, f0, f1, f2, f3, f4, hzl⟩ := tz_at kx
          obtain ⟨r0, r1, r2, r3, r4⟩ := tz_get kx (Value.int .u32 (r.A : Int)) (Value.int .i64 r.N) (Value.int .i64 r.k) (Value.int .i64 r.c) (Value.int .u32 (r.t : Int))
          have tY : Hid (∀ j, j < w.heap.size + 1 → (st5 Y (w.heap.size + 1) (Value.int .u32 (r.A : Int)) (Value.int .i64 r.N) (Value.int .i64 r.k) (Value.int .i64 r.c) (Value.int .u32 (r.t : Int))).heap[j]? = W1.heap[j]?) := Lib.hid (fun j hj => (far_st5 (by omega) _ _ _ _ _).trans (tX.out.block j (by omega)))
          refine wpAnyH_ready (rs := [11]) (by kernel_rfl) (by simp) ?_
          refine AllReadyH.cons rfl (fun K hK => ?_) AllReadyH.nil
          go_simp
          refine hK.out _ _ (KS.out _ tY.out) (fun _ => ?_)
          clear hK K
          clear z0 z1 z2 z3 z4 f0 f1 f2 f3 f4 hzl
          refine wpAnyH_ready (rs := [12]) (by kernel_rfl) (by simp) ?_
          refine AllReadyH.cons rfl (fun K hK => ?_) AllReadyH.nil
          go_simp
          refine hK.out _ _ (KS.out _ tY.out) (fun _ => ?_)
          clear hK K
          refine wpAnyH_ready (rs := [13]) (by kernel_rfl) (by simp) ?_
          refine AllReadyH.cons rfl (fun K hK => ?_) AllReadyH.nil
          go_simp
          refine hK.out _ _ (KS.out _ tY.out) (fun _ => ?_)
          clear hK K
          refine wpAnyH_done (by kernel_rfl) ?_ _
          go_wp2
          refine bodyPost_ret (v := .tuple #[tv r, .bool true, .int .i64 x.c.s]) (by simp [results, Try.results22, go_sem, r0, r1, r2, r3, r4]) rfl ⟨by rw [HEV2.out, HR.out], ?_⟩
          exact below_st5 (HB.out.trans (tX.out.mono (by omega))) (by omega) _ _ _ _ _
      | false =>
        rw [hpr] at cm
        have HN : Hid (∀ i, i < k + 1 → mtc (gp (cps l) i) t = false) := Lib.hid (fun i hi => by
          rcases Nat.lt_or_ge i k with q | q
          · exact hn.out i q
          · obtain rfl : i = k := by omega
            rw [HGP.out]; exact hpr)
        clear hpr hkl
        go_wp2_with fail
        refine wp_region_quiet_below (by kernel_rfl) (by kernel_rfl) ?_
        have gg0 := cell_regrown e0
        have gg1 := cell_regrown e1
        have gg2 := cell_regrown e2
        have gg3 := cell_regrown e3
        have gg4 := cell_regrown e4
        have gg5 := cell_regrown e5
        have gg6 := cell_regrown e6
        have gg7 := cell_regrown e7
        have gg8 := cell_regrown e8
        have gg9 := cell_regrown e9
        have gg10 := cell_regrown e10
        have gg11 := cell_regrown e11
        have gg12 := cell_regrown q0
        have gg13 := cell_regrown q1
        have gg14 := cell_regrown q2
        have gg15 := cell_regrown q3
        have gg16 := cell_regrown q4
        have zz0 : ∀ d os, _ := fun d os => Calls.regrown_of (w := wr) (d := d) (os := os) (cm _ (below_regrown wr d os))
        repeat (first | go_big_quiet_step (with_reducible exact zz0 _ _) | go_big_quiet_step (fail) | go_big_quiet_skip)
        refine wpQuiet_nil ?_
        intro W9 hw'
        obtain ⟨⟨dq, osq⟩, hw''⟩ := hw'
        have hbz := below_regrown wr dq osq
        rw [← hw''] at hbz
        clear hw'' gg0 gg1 gg2 gg3 gg4 gg5 gg6 gg7 gg8 gg9 gg10 gg11 gg12 gg13 gg14 gg15 gg16 zz0
        have HB2 := Lib.hid (HB1.out.trans (hbz.mono HB1.out.size))
        clear hbz cm e0 e1 e2 e3 e4 e5 e6 e7 e8 e9 e10 e11 q0 q1 q2 q3 q4
        go_wp2
        go_roundg gf
        case measure => omega
        case rel => exact ⟨k + 1, by go_num, Lib.hid (by omega), HN, HB2⟩
end Go.Proofs.Ytmcjpibahnlmbaa
