/-
  The walk of the law RmapClause. No statement is proved here; no conditions.
-/
import Derived.Test.YtmcjpibahnlmbaaLw0
namespace Go.Proofs.Ytmcjpibahnlmbaa
open Go.RowKit Go.Joins

/-- A clause that says the same. -/
def Cz (w : World) (x y : Cl) : Prop := y.c = x.c ∧ Cx w y
theorem Cz.step {w w' : World} {x y : Cl} (h : Cz w x y) (k : Below w.heap.size w w') : Cz w' x y := ⟨h.1, h.2.step k⟩
theorem plain_cs (x : Cl) (w : World) (hx : Cx w x) : Calls Try.prog 14 #[cv x] w fun e w' => ∃ y, e = .returned (cv y) ∧ Cz w' x y ∧ Below w.heap.size w w' := by
  refine (plain_any x w hx).mono ?_
  rintro e w' ⟨y, rfl, h1, h2, h3, h4⟩
  refine ⟨y, rfl, ⟨h1, ?_⟩, h4⟩
  have hs := hx.step h4
  refine ⟨h3.more fun _ _ _ => trivial, ?_, ?_, ?_, ?_⟩
  · rw [h2, h1]; exact hs.T
  · rw [h1]; exact hs.wf
  · rw [h1]; exact hs.nL
  · rw [h1]; exact hs.nT
theorem Cz.may {w : World} {x y : Cl} (h : Cz w x y) : Calls Try.prog 13 #[cv y] w fun e w' => e = .returned (.bool (okc x.c)) ∧ Below w.heap.size w w' := by
  have := rmay8_any y w h.2
  rw [h.1] at this
  exact this
theorem Cz.mtc {w : World} {x y : Cl} (h : Cz w x y) (t : Rt) (hB : t.A < 4294967296) : Calls Try.prog 18 #[cv y, tv t] w fun e w' => e = .returned (.bool (mtc x.c t)) ∧ Below w.heap.size w w' := by
  have := rmatches_any y t w h.2 hB
  rw [h.1] at this
  exact this
theorem Cz.chg {w : World} {x y : Cl} (h : Cz w x y) (t : Rt) (hk : okc x.c = true) (ht : okt t = true) : Calls Try.prog 20 #[cv y, tv t] w fun e w' => e = .returned (tv (chg x.c t)) ∧ Below w.heap.size w w' := by
  have := rchange_any y t w (by rw [h.1]; exact hk) ht
  rw [h.1] at this
  exact this
set_option maxRecDepth 100000 in
set_option maxHeartbeats 8000000 in
theorem clause_walk (A0 : Option Addr) (c : Nat) (m : List Cl) (t : Rt) (w : World) (hm : Cq w A0 m) (hB : t.A < 4294967296) :
    Calls Try.prog 3 #[.slice A0 m.length c, tv t] w fun e w' => e = .returned (.bool true) ∧ Below w.heap.size w w' := by
  obtain ⟨W0, hW0⟩ : ∃ W0, w.alloc (.cells #[Value.int .u32 (t.A : Int), Value.int .i64 t.N, Value.int .i64 t.k, Value.int .i64 t.c, Value.int .u32 (t.t : Int)] 27) = W0 := ⟨_, rfl⟩
  have b0 : Below w.heap.size w W0 := by rw [← hW0]; exact below_alloc1 _ _
  have HB0 := Lib.hid b0
  have KT : Hid (∀ V, Below W0.heap.size W0 V → V.cell? ⟨w.heap.size, 0, none⟩ = some (Value.int .u32 (t.A : Int)) ∧ V.cell? ⟨w.heap.size, 1, none⟩ = some (Value.int .i64 t.N) ∧ V.cell? ⟨w.heap.size, 2, none⟩ = some (Value.int .i64 t.k) ∧ V.cell? ⟨w.heap.size, 3, none⟩ = some (Value.int .i64 t.c) ∧ V.cell? ⟨w.heap.size, 4, none⟩ = some (Value.int .u32 (t.t : Int))) := Lib.hid (fun V hV => tb_new hW0 hV)
  have TB : Hid (Below W0.heap.size W0 W0) := Lib.hid (Below.refl _ _)
  have cs1 := small_any A0 c m W0 (Rd.keep hm.rd b0.size fun j _ hj => b0.block j hj)
  obtain ⟨q0, q1, q2, q3, q4⟩ := KT.out _ TB.out
  obtain ⟨S1, hS1⟩ : ∃ S, sml m = S := ⟨_, rfl⟩
  rw [hS1] at cs1
  clear b0
  go_enter Try.func3, Try.ntmps3
  cases S1
  · go_wp2_with fail
    refine (cs1).mono ?_
    rintro e Wz ⟨rfl, hWz⟩
    rw [hWz]
    clear hWz Wz
    go_wp2_with fail
    refine (alive_any _).mono ?_
    rintro e Va ⟨rfl, hva⟩
    go_wp2
    go_ret
    exact ⟨rfl, HB0.out.trans ((TB.out.trans (hva.mono TB.out.size)).mono HB0.out.size)⟩
  go_wp2_with fail
  refine (cs1).mono ?_
  rintro e Wz ⟨rfl, hWz⟩
  rw [hWz]
  clear hWz Wz
  have hcrm := hm.cr hS1
  have HMm : Hid (∀ V, Below W0.heap.size W0 V → Cr V A0 m) := Lib.hid (fun V hV => hcrm.1.step (HB0.out.trans (hV.mono HB0.out.size)))
  have hlm := hcrm.2
  have cRm := fun V (hV : Below W0.heap.size W0 V) => rows_cs A0 c m V (HMm.out V hV) hlm
  have cMm := fun V A' c' (h : Cs V A' m) => h.may c' hlm
  clear hcrm
  clear hS1 hm hW0 cs1
  have cP := fun V (hV : Below W0.heap.size W0 V) => mayAll8_any A0 c m V (HMm.out V hV) (by omega)
  obtain ⟨MA, hMA⟩ : ∃ v, mayc none (cps m) = v := ⟨_, rfl⟩
  rw [hMA] at cMm cP
  clear hMA
  obtain ⟨lm, hlm'⟩ : ∃ v, m.length = v := ⟨_, rfl⟩
  have hlm2 : lm ≤ 20 := by omega
  rw [hlm'] at cRm cMm cP ⊢
  have HLN := Lib.hid hlm'
  clear hlm hlm'
  go_wp2_with fail
  refine (cP _ TB.out).mono ?_
  rintro e V1 ⟨rfl, hv⟩
  replace TB := Lib.hid (TB.out.trans (hv.mono TB.out.size))
  clear hv
  go_wp2_with fail
  refine (cRm _ TB.out).mono ?_
  rintro e V2 ⟨A2, c2, rfl, s2, hv⟩
  replace TB := Lib.hid (TB.out.trans (hv.mono TB.out.size))
  clear hv
  go_wp2_with fail
  refine (cMm _ _ _ s2).mono ?_
  rintro e V3 ⟨rfl, hv⟩
  replace TB := Lib.hid (TB.out.trans (hv.mono TB.out.size))
  clear hv
  clear s2 cP cRm cMm q0 q1 q2 q3 q4
  have N0 : (MA != MA) = false := by cases MA <;> rfl
  go_wp2_with fail
  clear N0
  go_loopg [5] lm (fun gf v wx => ∃ (k : Nat), v = .int .i64 (k : Int) ∧ Hid (gf + k = lm) ∧ Hid (Below V3.heap.size V3 wx))
  case atStart => exact ⟨0, rfl, Lib.hid (by omega), Lib.hid (Below.refl _ _)⟩
  case round =>
    obtain ⟨k, rfl, hk, hb⟩ := hrel
    have hk' := hk.out
    replace TB := Lib.hid (TB.out.trans (hb.out.mono TB.out.size))
    cases gk with
    | zero =>
      have lt0 : decide ((k : Int) < (lm : Int)) = false := by simp; omega
      have lt1 : decide (k < lm) = false := by simp; omega
      go_wp2_with fail
      refine (alive_any _).mono ?_
      rintro e Va ⟨rfl, hva⟩
      go_wp2
      go_ret
      exact ⟨rfl, HB0.out.trans ((TB.out.trans (hva.mono TB.out.size)).mono HB0.out.size)⟩
    | succ gf =>
      have hkl : k < m.length := by rw [HLN.out]; omega
      have lt0 : (k : Int) < (lm : Int) := by omega
      have hw1 : (k : Int) + 1 ≤ 10000 := by omega
      have HC : Hid (∀ V, Below W0.heap.size W0 V → Cx V (gc m k)) := Lib.hid (fun V hV => (HMm.out V hV).cx _ (by rw [gc_eq hkl]; exact List.getElem_mem _))
      obtain ⟨b, off, hA, _, _, e0, e1, e2, e3, e4, e5, e6, e7, e8, e9, e10, e11⟩ := (HMm.out _ TB.out).at hkl
      have HA2 : Hid (∀ V, Below W0.heap.size W0 V → ∃ b' off', A0 = some ⟨b', off', none⟩ ∧ b' < V.heap.size ∧ Cx V (gc m k) ∧ V.cell? ⟨b', off' + k * 12, none⟩ = some (.int .i64 (gc m k).c.s) ∧ V.cell? ⟨b', off' + k * 12 + 1, none⟩ = some (.bool (gc m k).c.p) ∧ V.cell? ⟨b', off' + k * 12 + 2, none⟩ = some (.slice (gc m k).LA (gc m k).c.L.length (gc m k).Lc) ∧ V.cell? ⟨b', off' + k * 12 + 3, none⟩ = some (.int .i64 (gc m k).c.k) ∧ V.cell? ⟨b', off' + k * 12 + 4, none⟩ = some (.int .i64 (gc m k).c.lo) ∧ V.cell? ⟨b', off' + k * 12 + 5, none⟩ = some (.int .i64 (gc m k).c.hi) ∧ V.cell? ⟨b', off' + k * 12 + 6, none⟩ = some (.slice (gc m k).TA (gc m k).c.T.length (gc m k).Tc) ∧ V.cell? ⟨b', off' + k * 12 + 7, none⟩ = some (.int .i64 (gc m k).c.sc) ∧ V.cell? ⟨b', off' + k * 12 + 8, none⟩ = some (.int .i64 (gc m k).c.sp) ∧ V.cell? ⟨b', off' + k * 12 + 9, none⟩ = some (.int .i64 (gc m k).c.sk) ∧ V.cell? ⟨b', off' + k * 12 + 10, none⟩ = some (.bool (gc m k).c.st) ∧ V.cell? ⟨b', off' + k * 12 + 11, none⟩ = some (.int .u32 ((gc m k).c.tg : Int))) := Lib.hid (fun V hV => (HMm.out V hV).at hkl)
      obtain ⟨x, hx⟩ : ∃ x, gc m k = x := ⟨_, rfl⟩
      rw [hx] at HC e0 e1 e2 e3 e4 e5 e6 e7 e8 e9 e10 e11 HA2
      subst hA
      have KS : Hid (∀ V, Below W0.heap.size W0 V → V.cell? ⟨b, off + k * 12, none⟩ = some (.int .i64 x.c.s) ∧ V.cell? ⟨b, off + k * 12 + 1, none⟩ = some (.bool x.c.p) ∧ V.cell? ⟨b, off + k * 12 + 2, none⟩ = some (.slice x.LA x.c.L.length x.Lc) ∧ V.cell? ⟨b, off + k * 12 + 3, none⟩ = some (.int .i64 x.c.k) ∧ V.cell? ⟨b, off + k * 12 + 4, none⟩ = some (.int .i64 x.c.lo) ∧ V.cell? ⟨b, off + k * 12 + 5, none⟩ = some (.int .i64 x.c.hi) ∧ V.cell? ⟨b, off + k * 12 + 6, none⟩ = some (.slice x.TA x.c.T.length x.Tc) ∧ V.cell? ⟨b, off + k * 12 + 7, none⟩ = some (.int .i64 x.c.sc) ∧ V.cell? ⟨b, off + k * 12 + 8, none⟩ = some (.int .i64 x.c.sp) ∧ V.cell? ⟨b, off + k * 12 + 9, none⟩ = some (.int .i64 x.c.sk) ∧ V.cell? ⟨b, off + k * 12 + 10, none⟩ = some (.bool x.c.st) ∧ V.cell? ⟨b, off + k * 12 + 11, none⟩ = some (.int .u32 (x.c.tg : Int))) := Lib.hid (fun V hV => by
        obtain ⟨b', off', h1, _, _, h2⟩ := HA2.out V hV
        simp only [Option.some.injEq, Addr.mk.injEq] at h1
        obtain ⟨rfl, rfl, _⟩ := h1
        exact h2)
      have cMay := fun V (hV : Below W0.heap.size W0 V) => may8_any x V (HC.out V hV)
      have cPl := fun V (hV : Below W0.heap.size W0 V) => plain_cs x V (HC.out V hV)
      have cQ := fun V y (h : Cz V x y) => h.may
      obtain ⟨OK, hOK⟩ : ∃ v, okc x.c = v := ⟨_, rfl⟩
      rw [hOK] at cMay cQ
      have HOK := Lib.hid hOK
      clear hx hkl HA2 hOK
      have N0 : (OK != OK) = false := by cases OK <;> rfl
      go_wp2_with fail
      have TR : Hid (Below V3.heap.size V3 wr) := hb
      clear hb e0 e1 e2 e3 e4 e5 e6 e7 e8 e9 e10 e11
      refine wp_region_held_drew (S := fun V => V.cell? ⟨b, off + k * 12, none⟩ = some (.int .i64 x.c.s) ∧ V.cell? ⟨b, off + k * 12 + 1, none⟩ = some (.bool x.c.p) ∧ V.cell? ⟨b, off + k * 12 + 2, none⟩ = some (.slice x.LA x.c.L.length x.Lc) ∧ V.cell? ⟨b, off + k * 12 + 3, none⟩ = some (.int .i64 x.c.k) ∧ V.cell? ⟨b, off + k * 12 + 4, none⟩ = some (.int .i64 x.c.lo) ∧ V.cell? ⟨b, off + k * 12 + 5, none⟩ = some (.int .i64 x.c.hi) ∧ V.cell? ⟨b, off + k * 12 + 6, none⟩ = some (.slice x.TA x.c.T.length x.Tc) ∧ V.cell? ⟨b, off + k * 12 + 7, none⟩ = some (.int .i64 x.c.sc) ∧ V.cell? ⟨b, off + k * 12 + 8, none⟩ = some (.int .i64 x.c.sp) ∧ V.cell? ⟨b, off + k * 12 + 9, none⟩ = some (.int .i64 x.c.sk) ∧ V.cell? ⟨b, off + k * 12 + 10, none⟩ = some (.bool x.c.st) ∧ V.cell? ⟨b, off + k * 12 + 11, none⟩ = some (.int .u32 (x.c.tg : Int))) (by kernel_rfl) (KS.out _ (TB.out.trans (below_draws _ _ 1))) (fun hHeld => ?_)
      refine wpAnyH_take (i := 0) (v := ?_) rfl (by kernel_rfl) (by kernel_rfl) (by kernel_rfl) (fun _ _ _ h => h) (Or.inl ⟨by rfl, ?_⟩) (by assumption) ?_
      rotate_left
      · (intro w' hSw; (try dsimp only at hSw); go_simp; try with_reducible rfl)
      simp only [Act.put, List.getElem_toArray, List.getElem_cons_zero, List.setIfInBounds_toArray, List.set_cons_zero, List.set_cons_succ]
      refine wpAnyH_take (i := 1) (v := ?_) rfl (by kernel_rfl) (by kernel_rfl) (by kernel_rfl) (fun _ _ _ h => h) (Or.inl ⟨by rfl, ?_⟩) (by assumption) ?_
      rotate_left
      · (intro w' hSw; (try dsimp only at hSw); go_simp; try with_reducible rfl)
      simp only [Act.put, List.getElem_toArray, List.getElem_cons_zero, List.getElem_cons_succ, List.setIfInBounds_toArray, List.set_cons_zero, List.set_cons_succ]
      refine wpAnyH_take (i := 2) (v := ?_) rfl (by kernel_rfl) (by kernel_rfl) (by kernel_rfl) (fun _ _ _ h => h) (Or.inl ⟨by rfl, ?_⟩) (by assumption) ?_
      rotate_left
      · (intro w' hSw; (try dsimp only at hSw); go_simp; try with_reducible rfl)
      simp only [Act.put, List.getElem_toArray, List.getElem_cons_zero, List.getElem_cons_succ, List.setIfInBounds_toArray, List.set_cons_zero, List.set_cons_succ]
      refine wpAnyH_take (i := 3) (v := ?_) rfl (by kernel_rfl) (by kernel_rfl) (by kernel_rfl) (fun _ _ _ h => h) (Or.inl ⟨by rfl, ?_⟩) (by assumption) ?_
      rotate_left
      · (intro w' hSw; (try dsimp only at hSw); go_simp; try with_reducible rfl)
      simp only [Act.put, List.getElem_toArray, List.getElem_cons_zero, List.getElem_cons_succ, List.setIfInBounds_toArray, List.set_cons_zero, List.set_cons_succ]
      refine wpAnyH_take (i := 5) (v := ?_) rfl (by kernel_rfl) (by kernel_rfl) (by kernel_rfl) (fun _ _ _ h => h) (Or.inl ⟨by rfl, ?_⟩) (by assumption) ?_
      rotate_left
      · (intro w' hSw; (try dsimp only at hSw); go_simp; try with_reducible rfl)
      simp only [Act.put, List.getElem_toArray, List.getElem_cons_zero, List.getElem_cons_succ, List.setIfInBounds_toArray, List.set_cons_zero, List.set_cons_succ]
      refine wpAnyH_take (i := 6) (v := ?_) rfl (by kernel_rfl) (by kernel_rfl) (by kernel_rfl) (fun _ _ _ h => h) (Or.inl ⟨by rfl, ?_⟩) (by assumption) ?_
      rotate_left
      · (intro w' hSw; (try dsimp only at hSw); go_simp; try with_reducible rfl)
      simp only [Act.put, List.getElem_toArray, List.getElem_cons_zero, List.getElem_cons_succ, List.setIfInBounds_toArray, List.set_cons_zero, List.set_cons_succ]
      refine wpAnyH_take (i := 7) (v := ?_) rfl (by kernel_rfl) (by kernel_rfl) (by kernel_rfl) (fun _ _ _ h => h) (Or.inl ⟨by rfl, ?_⟩) (by assumption) ?_
      rotate_left
      · (intro w' hSw; (try dsimp only at hSw); go_simp; try with_reducible rfl)
      simp only [Act.put, List.getElem_toArray, List.getElem_cons_zero, List.getElem_cons_succ, List.setIfInBounds_toArray, List.set_cons_zero, List.set_cons_succ]
      refine wpAnyH_take (i := 8) (v := ?_) rfl (by kernel_rfl) (by kernel_rfl) (by kernel_rfl) (fun _ _ _ h => h) (Or.inl ⟨by rfl, ?_⟩) (by assumption) ?_
      rotate_left
      · (intro w' hSw; (try dsimp only at hSw); go_simp; try with_reducible rfl)
      simp only [Act.put, List.getElem_toArray, List.getElem_cons_zero, List.getElem_cons_succ, List.setIfInBounds_toArray, List.set_cons_zero, List.set_cons_succ]
      have t0 : Below wr.heap.size wr wr.drew := below_draws _ wr 1
      replace TB := Lib.hid (TB.out.trans (t0.mono TB.out.size))
      replace TR := Lib.hid (TR.out.trans (t0.mono TR.out.size))
      generalize hX0 : wr.drew = X at TB TR ⊢
      clear hX0 hHeld t0
      refine wpAnyH_ready (rs := [4]) (by kernel_rfl) (by simp) ?_
      refine AllReadyH.cons rfl (fun K hK => ?_) AllReadyH.nil
      go_simp
      go_at_call 12
      refine (cMay _ TB.out).mono ?_
      rintro e X1 ⟨rfl, hv⟩
      replace TB := Lib.hid (TB.out.trans (hv.mono TB.out.size))
      replace TR := Lib.hid (TR.out.trans (hv.mono TR.out.size))
      refine hK.out _ _ (KS.out _ TB.out) (fun _ => ?_)
      clear hK K hv
      refine wpAnyH_ready (rs := [9]) (by kernel_rfl) (by simp) ?_
      refine AllReadyH.cons rfl (fun K hK => ?_) AllReadyH.nil
      go_simp
      go_at_call 14
      refine (cPl _ TB.out).mono ?_
      rintro e X2 ⟨y, rfl, s2, hv⟩
      replace TB := Lib.hid (TB.out.trans (hv.mono TB.out.size))
      replace TR := Lib.hid (TR.out.trans (hv.mono TR.out.size))
      refine hK.out _ _ (KS.out _ TB.out) (fun _ => ?_)
      clear hK K hv
      refine wpAnyH_ready (rs := [10]) (by kernel_rfl) (by simp) ?_
      refine AllReadyH.cons rfl (fun K hK => ?_) AllReadyH.nil
      go_simp
      go_at_call 13
      refine (cQ _ _ s2).mono ?_
      rintro e X3 ⟨rfl, hv⟩
      replace TB := Lib.hid (TB.out.trans (hv.mono TB.out.size))
      replace TR := Lib.hid (TR.out.trans (hv.mono TR.out.size))
      refine hK.out _ _ (KS.out _ TB.out) (fun _ => ?_)
      clear hK K hv
      refine wpAnyH_take (i := 11) (v := ?_) rfl (by kernel_rfl) (by kernel_rfl) (by kernel_rfl) (fun _ _ _ h => h) (Or.inl ⟨by rfl, ?_⟩) (by assumption) ?_
      rotate_left
      · (intro w' hSw; (try dsimp only at hSw); go_simp; try with_reducible rfl)
      simp only [Act.put, List.getElem_toArray, List.getElem_cons_zero, List.getElem_cons_succ, List.setIfInBounds_toArray, List.set_cons_zero, List.set_cons_succ]
      refine wpAnyH_done (by kernel_rfl) ?_ _
      clear s2 cMay
      obtain ⟨e0, e1, e2, e3, e4, e5, e6, e7, e8, e9, e10, e11⟩ := KS.out _ TB.out
      go_wp2_with fail
      refine (cPl _ TB.out).mono ?_
      rintro e X4 ⟨y, rfl, s2, hv⟩
      replace TB := Lib.hid (TB.out.trans (hv.mono TB.out.size))
      replace TR := Lib.hid (TR.out.trans (hv.mono TR.out.size))
      clear hv
      go_wp2_with fail
      refine (cQ _ _ s2).mono ?_
      rintro e X5 ⟨rfl, hv⟩
      replace TB := Lib.hid (TB.out.trans (hv.mono TB.out.size))
      replace TR := Lib.hid (TR.out.trans (hv.mono TR.out.size))
      clear hv
      clear s2 N0 e0 e1 e2 e3 e4 e5 e6 e7 e8 e9 e10 e11 cQ
      obtain ⟨q0, q1, q2, q3, q4⟩ := KT.out _ TB.out
      cases OK
      · go_wp2
        go_roundg gf
        case measure => omega
        case rel => exact ⟨k + 1, by go_num, Lib.hid (by omega), TR⟩
      have cT := fun V => mayRoute_any t V
      obtain ⟨TA, hTA⟩ : ∃ v, okt t = v := ⟨_, rfl⟩
      rw [hTA] at cT
      have HTA := Lib.hid hTA
      clear hTA
      go_wp2_with fail
      refine (route_any t _).mono ?_
      rintro e X6 ⟨rfl, hv⟩
      replace TB := Lib.hid (TB.out.trans (hv.mono TB.out.size))
      replace TR := Lib.hid (TR.out.trans (hv.mono TR.out.size))
      clear hv
      go_wp2_with fail
      refine (cT _).mono ?_
      rintro e X7 ⟨rfl, hv⟩
      replace TB := Lib.hid (TB.out.trans (hv.mono TB.out.size))
      replace TR := Lib.hid (TR.out.trans (hv.mono TR.out.size))
      clear hv
      clear q0 q1 q2 q3 q4 cT
      cases TA
      · go_wp2
        go_roundg gf
        case measure => omega
        case rel => exact ⟨k + 1, by go_num, Lib.hid (by omega), TR⟩
      have KS2 : Hid (∀ V, Below W0.heap.size W0 V → V.cell? ⟨b, off + k * 12, none⟩ = some (.int .i64 x.c.s) ∧ V.cell? ⟨b, off + k * 12 + 1, none⟩ = some (.bool x.c.p) ∧ V.cell? ⟨b, off + k * 12 + 2, none⟩ = some (.slice x.LA x.c.L.length x.Lc) ∧ V.cell? ⟨b, off + k * 12 + 3, none⟩ = some (.int .i64 x.c.k) ∧ V.cell? ⟨b, off + k * 12 + 4, none⟩ = some (.int .i64 x.c.lo) ∧ V.cell? ⟨b, off + k * 12 + 5, none⟩ = some (.int .i64 x.c.hi) ∧ V.cell? ⟨b, off + k * 12 + 6, none⟩ = some (.slice x.TA x.c.T.length x.Tc) ∧ V.cell? ⟨b, off + k * 12 + 7, none⟩ = some (.int .i64 x.c.sc) ∧ V.cell? ⟨b, off + k * 12 + 8, none⟩ = some (.int .i64 x.c.sp) ∧ V.cell? ⟨b, off + k * 12 + 9, none⟩ = some (.int .i64 x.c.sk) ∧ V.cell? ⟨b, off + k * 12 + 10, none⟩ = some (.bool x.c.st) ∧ V.cell? ⟨b, off + k * 12 + 11, none⟩ = some (.int .u32 (x.c.tg : Int)) ∧ V.cell? ⟨w.heap.size, 0, none⟩ = some (Value.int .u32 (t.A : Int)) ∧ V.cell? ⟨w.heap.size, 1, none⟩ = some (Value.int .i64 t.N) ∧ V.cell? ⟨w.heap.size, 2, none⟩ = some (Value.int .i64 t.k) ∧ V.cell? ⟨w.heap.size, 3, none⟩ = some (Value.int .i64 t.c) ∧ V.cell? ⟨w.heap.size, 4, none⟩ = some (Value.int .u32 (t.t : Int))) := Lib.hid (fun V hV => by
        obtain ⟨u0, u1, u2, u3, u4, u5, u6, u7, u8, u9, u10, u11⟩ := KS.out V hV
        obtain ⟨v0, v1, v2, v3, v4⟩ := KT.out V hV
        exact ⟨u0, u1, u2, u3, u4, u5, u6, u7, u8, u9, u10, u11, v0, v1, v2, v3, v4⟩)
      have cMt := fun V (hV : Below W0.heap.size W0 V) => matches_any x t V (HC.out V hV) hB
      have cCh := fun V => change_any x t V HOK.out HTA.out
      have rMt := fun V y (h : Cz V x y) => h.mtc t hB
      have rCh := fun V y (h : Cz V x y) => h.chg t HOK.out HTA.out
      obtain ⟨MT, hMT⟩ : ∃ v, mtc x.c t = v := ⟨_, rfl⟩
      obtain ⟨r, hr⟩ : ∃ v, chg x.c t = v := ⟨_, rfl⟩
      rw [hMT] at cMt rMt
      rw [hr] at cCh rCh
      clear hMT hr HOK HTA KS KT
      have N0 : (MT != MT) = false := by cases MT <;> rfl
      go_wp2_with fail
      refine wp_region_held_drew (S := fun V => V.cell? ⟨b, off + k * 12, none⟩ = some (.int .i64 x.c.s) ∧ V.cell? ⟨b, off + k * 12 + 1, none⟩ = some (.bool x.c.p) ∧ V.cell? ⟨b, off + k * 12 + 2, none⟩ = some (.slice x.LA x.c.L.length x.Lc) ∧ V.cell? ⟨b, off + k * 12 + 3, none⟩ = some (.int .i64 x.c.k) ∧ V.cell? ⟨b, off + k * 12 + 4, none⟩ = some (.int .i64 x.c.lo) ∧ V.cell? ⟨b, off + k * 12 + 5, none⟩ = some (.int .i64 x.c.hi) ∧ V.cell? ⟨b, off + k * 12 + 6, none⟩ = some (.slice x.TA x.c.T.length x.Tc) ∧ V.cell? ⟨b, off + k * 12 + 7, none⟩ = some (.int .i64 x.c.sc) ∧ V.cell? ⟨b, off + k * 12 + 8, none⟩ = some (.int .i64 x.c.sp) ∧ V.cell? ⟨b, off + k * 12 + 9, none⟩ = some (.int .i64 x.c.sk) ∧ V.cell? ⟨b, off + k * 12 + 10, none⟩ = some (.bool x.c.st) ∧ V.cell? ⟨b, off + k * 12 + 11, none⟩ = some (.int .u32 (x.c.tg : Int)) ∧ V.cell? ⟨w.heap.size, 0, none⟩ = some (Value.int .u32 (t.A : Int)) ∧ V.cell? ⟨w.heap.size, 1, none⟩ = some (Value.int .i64 t.N) ∧ V.cell? ⟨w.heap.size, 2, none⟩ = some (Value.int .i64 t.k) ∧ V.cell? ⟨w.heap.size, 3, none⟩ = some (Value.int .i64 t.c) ∧ V.cell? ⟨w.heap.size, 4, none⟩ = some (Value.int .u32 (t.t : Int))) (by kernel_rfl) (KS2.out _ (TB.out.trans (below_draws _ _ 1))) (fun hHeld => ?_)
      refine wpAnyH_take (i := 0) (v := ?_) rfl (by kernel_rfl) (by kernel_rfl) (by kernel_rfl) (fun _ _ _ h => h) (Or.inl ⟨by rfl, ?_⟩) (by assumption) ?_
      rotate_left
      · (intro w' hSw; (try dsimp only at hSw); go_simp; try with_reducible rfl)
      simp only [Act.put, List.getElem_toArray, List.getElem_cons_zero, List.setIfInBounds_toArray, List.set_cons_zero, List.set_cons_succ]
      refine wpAnyH_take (i := 1) (v := ?_) rfl (by kernel_rfl) (by kernel_rfl) (by kernel_rfl) (fun _ _ _ h => h) (Or.inl ⟨by rfl, ?_⟩) (by assumption) ?_
      rotate_left
      · (intro w' hSw; (try dsimp only at hSw); go_simp; try with_reducible rfl)
      simp only [Act.put, List.getElem_toArray, List.getElem_cons_zero, List.getElem_cons_succ, List.setIfInBounds_toArray, List.set_cons_zero, List.set_cons_succ]
      refine wpAnyH_take (i := 2) (v := ?_) rfl (by kernel_rfl) (by kernel_rfl) (by kernel_rfl) (fun _ _ _ h => h) (Or.inl ⟨by rfl, ?_⟩) (by assumption) ?_
      rotate_left
      · (intro w' hSw; (try dsimp only at hSw); go_simp; try with_reducible rfl)
      simp only [Act.put, List.getElem_toArray, List.getElem_cons_zero, List.getElem_cons_succ, List.setIfInBounds_toArray, List.set_cons_zero, List.set_cons_succ]
      refine wpAnyH_take (i := 3) (v := ?_) rfl (by kernel_rfl) (by kernel_rfl) (by kernel_rfl) (fun _ _ _ h => h) (Or.inl ⟨by rfl, ?_⟩) (by assumption) ?_
      rotate_left
      · (intro w' hSw; (try dsimp only at hSw); go_simp; try with_reducible rfl)
      simp only [Act.put, List.getElem_toArray, List.getElem_cons_zero, List.getElem_cons_succ, List.setIfInBounds_toArray, List.set_cons_zero, List.set_cons_succ]
      refine wpAnyH_take (i := 4) (v := ?_) rfl (by kernel_rfl) (by kernel_rfl) (by kernel_rfl) (fun _ _ _ h => h) (Or.inl ⟨by rfl, ?_⟩) (by assumption) ?_
      rotate_left
      · (intro w' hSw; (try dsimp only at hSw); go_simp; try with_reducible rfl)
      simp only [Act.put, List.getElem_toArray, List.getElem_cons_zero, List.getElem_cons_succ, List.setIfInBounds_toArray, List.set_cons_zero, List.set_cons_succ]
      refine wpAnyH_take (i := 6) (v := ?_) rfl (by kernel_rfl) (by kernel_rfl) (by kernel_rfl) (fun _ _ _ h => h) (Or.inl ⟨by rfl, ?_⟩) (by assumption) ?_
      rotate_left
      · (intro w' hSw; (try dsimp only at hSw); go_simp; try with_reducible rfl)
      simp only [Act.put, List.getElem_toArray, List.getElem_cons_zero, List.getElem_cons_succ, List.setIfInBounds_toArray, List.set_cons_zero, List.set_cons_succ]
      refine wpAnyH_take (i := 7) (v := ?_) rfl (by kernel_rfl) (by kernel_rfl) (by kernel_rfl) (fun _ _ _ h => h) (Or.inl ⟨by rfl, ?_⟩) (by assumption) ?_
      rotate_left
      · (intro w' hSw; (try dsimp only at hSw); go_simp; try with_reducible rfl)
      simp only [Act.put, List.getElem_toArray, List.getElem_cons_zero, List.getElem_cons_succ, List.setIfInBounds_toArray, List.set_cons_zero, List.set_cons_succ]
      refine wpAnyH_take (i := 8) (v := ?_) rfl (by kernel_rfl) (by kernel_rfl) (by kernel_rfl) (fun _ _ _ h => h) (Or.inl ⟨by rfl, ?_⟩) (by assumption) ?_
      rotate_left
      · (intro w' hSw; (try dsimp only at hSw); go_simp; try with_reducible rfl)
      simp only [Act.put, List.getElem_toArray, List.getElem_cons_zero, List.getElem_cons_succ, List.setIfInBounds_toArray, List.set_cons_zero, List.set_cons_succ]
      refine wpAnyH_take (i := 9) (v := ?_) rfl (by kernel_rfl) (by kernel_rfl) (by kernel_rfl) (fun _ _ _ h => h) (Or.inl ⟨by rfl, ?_⟩) (by assumption) ?_
      rotate_left
      · (intro w' hSw; (try dsimp only at hSw); go_simp; try with_reducible rfl)
      simp only [Act.put, List.getElem_toArray, List.getElem_cons_zero, List.getElem_cons_succ, List.setIfInBounds_toArray, List.set_cons_zero, List.set_cons_succ]
      refine wpAnyH_take (i := 11) (v := ?_) rfl (by kernel_rfl) (by kernel_rfl) (by kernel_rfl) (fun _ _ _ h => h) (Or.inl ⟨by rfl, ?_⟩) (by assumption) ?_
      rotate_left
      · (intro w' hSw; (try dsimp only at hSw); go_simp; try with_reducible rfl)
      simp only [Act.put, List.getElem_toArray, List.getElem_cons_zero, List.getElem_cons_succ, List.setIfInBounds_toArray, List.set_cons_zero, List.set_cons_succ]
      have t0 : Below X7.heap.size X7 X7.drew := below_draws _ X7 1
      replace TB := Lib.hid (TB.out.trans (t0.mono TB.out.size))
      replace TR := Lib.hid (TR.out.trans (t0.mono TR.out.size))
      generalize hX0 : X7.drew = X at TB TR ⊢
      clear hX0 hHeld t0
      refine wpAnyH_ready (rs := [5]) (by kernel_rfl) (by simp) ?_
      refine AllReadyH.cons rfl (fun K hK => ?_) AllReadyH.nil
      go_simp
      go_at_call 17
      refine (cMt _ TB.out).mono ?_
      rintro e Z1 ⟨rfl, hv⟩
      replace TB := Lib.hid (TB.out.trans (hv.mono TB.out.size))
      replace TR := Lib.hid (TR.out.trans (hv.mono TR.out.size))
      refine hK.out _ _ (KS2.out _ TB.out) (fun _ => ?_)
      clear hK K hv
      refine wpAnyH_ready (rs := [10]) (by kernel_rfl) (by simp) ?_
      refine AllReadyH.cons rfl (fun K hK => ?_) AllReadyH.nil
      go_simp
      go_at_call 14
      refine (cPl _ TB.out).mono ?_
      rintro e Z2 ⟨y, rfl, s2, hv⟩
      replace TB := Lib.hid (TB.out.trans (hv.mono TB.out.size))
      replace TR := Lib.hid (TR.out.trans (hv.mono TR.out.size))
      refine hK.out _ _ (KS2.out _ TB.out) (fun _ => ?_)
      clear hK K hv
      refine wpAnyH_ready (rs := [12]) (by kernel_rfl) (by simp) ?_
      refine AllReadyH.cons rfl (fun K hK => ?_) AllReadyH.nil
      go_simp
      go_at_call 16
      refine (route_any t _).mono ?_
      rintro e Z3 ⟨rfl, hv⟩
      replace TB := Lib.hid (TB.out.trans (hv.mono TB.out.size))
      replace TR := Lib.hid (TR.out.trans (hv.mono TR.out.size))
      replace s2 := s2.step hv
      refine hK.out _ _ (KS2.out _ TB.out) (fun _ => ?_)
      clear hK K hv
      refine wpAnyH_ready (rs := [13]) (by kernel_rfl) (by simp) ?_
      refine AllReadyH.cons rfl (fun K hK => ?_) AllReadyH.nil
      go_simp
      go_at_call 18
      refine (rMt _ _ s2).mono ?_
      rintro e Z4 ⟨rfl, hv⟩
      replace TB := Lib.hid (TB.out.trans (hv.mono TB.out.size))
      replace TR := Lib.hid (TR.out.trans (hv.mono TR.out.size))
      refine hK.out _ _ (KS2.out _ TB.out) (fun _ => ?_)
      clear hK K hv
      clear s2
      refine wpAnyH_take (i := 14) (v := ?_) rfl (by kernel_rfl) (by kernel_rfl) (by kernel_rfl) (fun _ _ _ h => h) (Or.inl ⟨by rfl, ?_⟩) (by assumption) ?_
      rotate_left
      · (intro w' hSw; (try dsimp only at hSw); go_simp; try with_reducible rfl)
      simp only [Act.put, List.getElem_toArray, List.getElem_cons_zero, List.getElem_cons_succ, List.setIfInBounds_toArray, List.set_cons_zero, List.set_cons_succ]
      refine wpAnyH_take (i := 15) (v := ?_) rfl (by kernel_rfl) (by kernel_rfl) (by kernel_rfl) (fun _ _ _ h => h) (Or.inl ⟨by rfl, ?_⟩) (by assumption) ?_
      rotate_left
      · (intro w' hSw; (try dsimp only at hSw); go_simp; try with_reducible rfl)
      simp only [Act.put, List.getElem_toArray, List.getElem_cons_zero, List.getElem_cons_succ, List.setIfInBounds_toArray, List.set_cons_zero, List.set_cons_succ]
      refine wpAnyH_take (i := 16) (v := ?_) rfl (by kernel_rfl) (by kernel_rfl) (by kernel_rfl) (fun _ _ _ h => h) (Or.inl ⟨by rfl, ?_⟩) (by assumption) ?_
      rotate_left
      · (intro w' hSw; (try dsimp only at hSw); go_simp; try with_reducible rfl)
      simp only [Act.put, List.getElem_toArray, List.getElem_cons_zero, List.getElem_cons_succ, List.setIfInBounds_toArray, List.set_cons_zero, List.set_cons_succ]
      refine wpAnyH_take (i := 17) (v := ?_) rfl (by kernel_rfl) (by kernel_rfl) (by kernel_rfl) (fun _ _ _ h => h) (Or.inl ⟨by rfl, ?_⟩) (by assumption) ?_
      rotate_left
      · (intro w' hSw; (try dsimp only at hSw); go_simp; try with_reducible rfl)
      simp only [Act.put, List.getElem_toArray, List.getElem_cons_zero, List.getElem_cons_succ, List.setIfInBounds_toArray, List.set_cons_zero, List.set_cons_succ]
      refine wpAnyH_take (i := 18) (v := ?_) rfl (by kernel_rfl) (by kernel_rfl) (by kernel_rfl) (fun _ _ _ h => h) (Or.inl ⟨by rfl, ?_⟩) (by assumption) ?_
      rotate_left
      · (intro w' hSw; (try dsimp only at hSw); go_simp; try with_reducible rfl)
      simp only [Act.put, List.getElem_toArray, List.getElem_cons_zero, List.getElem_cons_succ, List.setIfInBounds_toArray, List.set_cons_zero, List.set_cons_succ]
      refine wpAnyH_take (i := 19) (v := ?_) rfl (by kernel_rfl) (by kernel_rfl) (by kernel_rfl) (fun _ _ _ h => h) (Or.inl ⟨by rfl, ?_⟩) (by assumption) ?_
      rotate_left
      · (intro w' hSw; (try dsimp only at hSw); go_simp; try with_reducible rfl)
      simp only [Act.put, List.getElem_toArray, List.getElem_cons_zero, List.getElem_cons_succ, List.setIfInBounds_toArray, List.set_cons_zero, List.set_cons_succ]
      refine wpAnyH_take (i := 20) (v := ?_) rfl (by kernel_rfl) (by kernel_rfl) (by kernel_rfl) (fun _ _ _ h => h) (Or.inl ⟨by rfl, ?_⟩) (by assumption) ?_
      rotate_left
      · (intro w' hSw; (try dsimp only at hSw); go_simp; try with_reducible rfl)
      simp only [Act.put, List.getElem_toArray, List.getElem_cons_zero, List.getElem_cons_succ, List.setIfInBounds_toArray, List.set_cons_zero, List.set_cons_succ]
      refine wpAnyH_take (i := 23) (v := ?_) rfl (by kernel_rfl) (by kernel_rfl) (by kernel_rfl) (fun _ _ _ h => h) (Or.inl ⟨by rfl, ?_⟩) (by assumption) ?_
      rotate_left
      · (intro w' hSw; (try dsimp only at hSw); go_simp; try with_reducible rfl)
      simp only [Act.put, List.getElem_toArray, List.getElem_cons_zero, List.getElem_cons_succ, List.setIfInBounds_toArray, List.set_cons_zero, List.set_cons_succ]
      refine wpAnyH_take (i := 24) (v := ?_) rfl (by kernel_rfl) (by kernel_rfl) (by kernel_rfl) (fun _ _ _ h => h) (Or.inl ⟨by rfl, ?_⟩) (by assumption) ?_
      rotate_left
      · (intro w' hSw; (try dsimp only at hSw); go_simp; try with_reducible rfl)
      simp only [Act.put, List.getElem_toArray, List.getElem_cons_zero, List.getElem_cons_succ, List.setIfInBounds_toArray, List.set_cons_zero, List.set_cons_succ]
      refine wpAnyH_take (i := 25) (v := ?_) rfl (by kernel_rfl) (by kernel_rfl) (by kernel_rfl) (fun _ _ _ h => h) (Or.inl ⟨by rfl, ?_⟩) (by assumption) ?_
      rotate_left
      · (intro w' hSw; (try dsimp only at hSw); go_simp; try with_reducible rfl)
      simp only [Act.put, List.getElem_toArray, List.getElem_cons_zero, List.getElem_cons_succ, List.setIfInBounds_toArray, List.set_cons_zero, List.set_cons_succ]
      refine wpAnyH_take (i := 26) (v := ?_) rfl (by kernel_rfl) (by kernel_rfl) (by kernel_rfl) (fun _ _ _ h => h) (Or.inl ⟨by rfl, ?_⟩) (by assumption) ?_
      rotate_left
      · (intro w' hSw; (try dsimp only at hSw); go_simp; try with_reducible rfl)
      simp only [Act.put, List.getElem_toArray, List.getElem_cons_zero, List.getElem_cons_succ, List.setIfInBounds_toArray, List.set_cons_zero, List.set_cons_succ]
      refine wpAnyH_take (i := 28) (v := ?_) rfl (by kernel_rfl) (by kernel_rfl) (by kernel_rfl) (fun _ _ _ h => h) (Or.inl ⟨by rfl, ?_⟩) (by assumption) ?_
      rotate_left
      · (intro w' hSw; (try dsimp only at hSw); go_simp; try with_reducible rfl)
      simp only [Act.put, List.getElem_toArray, List.getElem_cons_zero, List.getElem_cons_succ, List.setIfInBounds_toArray, List.set_cons_zero, List.set_cons_succ]
      refine wpAnyH_ready (rs := [21]) (by kernel_rfl) (by simp) ?_
      refine AllReadyH.cons rfl (fun K hK => ?_) AllReadyH.nil
      go_simp
      go_at_call 19
      refine (cCh _).mono ?_
      rintro e Z5 ⟨rfl, hv⟩
      replace TB := Lib.hid (TB.out.trans (hv.mono TB.out.size))
      replace TR := Lib.hid (TR.out.trans (hv.mono TR.out.size))
      refine hK.out _ _ (KS2.out _ TB.out) (fun _ => ?_)
      clear hK K hv
      refine wpAnyH_ready (rs := [22]) (by kernel_rfl) (by simp) ?_
      refine AllReadyH.cons rfl (fun K hK => ?_) AllReadyH.nil
      go_simp
      go_at_call 16
      refine (route_any r _).mono ?_
      rintro e Z6 ⟨rfl, hv⟩
      replace TB := Lib.hid (TB.out.trans (hv.mono TB.out.size))
      replace TR := Lib.hid (TR.out.trans (hv.mono TR.out.size))
      refine hK.out _ _ (KS2.out _ TB.out) (fun _ => ?_)
      clear hK K hv
      refine wpAnyH_ready (rs := [27]) (by kernel_rfl) (by simp) ?_
      refine AllReadyH.cons rfl (fun K hK => ?_) AllReadyH.nil
      go_simp
      go_at_call 14
      refine (cPl _ TB.out).mono ?_
      rintro e Z7 ⟨y2, rfl, s3, hv⟩
      replace TB := Lib.hid (TB.out.trans (hv.mono TB.out.size))
      replace TR := Lib.hid (TR.out.trans (hv.mono TR.out.size))
      refine hK.out _ _ (KS2.out _ TB.out) (fun _ => ?_)
      clear hK K hv
      refine wpAnyH_ready (rs := [29]) (by kernel_rfl) (by simp) ?_
      refine AllReadyH.cons rfl (fun K hK => ?_) AllReadyH.nil
      go_simp
      go_at_call 16
      refine (route_any t _).mono ?_
      rintro e Z8 ⟨rfl, hv⟩
      replace TB := Lib.hid (TB.out.trans (hv.mono TB.out.size))
      replace TR := Lib.hid (TR.out.trans (hv.mono TR.out.size))
      replace s3 := s3.step hv
      refine hK.out _ _ (KS2.out _ TB.out) (fun _ => ?_)
      clear hK K hv
      refine wpAnyH_ready (rs := [30]) (by kernel_rfl) (by simp) ?_
      refine AllReadyH.cons rfl (fun K hK => ?_) AllReadyH.nil
      go_simp
      go_at_call 20
      refine (rCh _ _ s3).mono ?_
      rintro e Z9 ⟨rfl, hv⟩
      replace TB := Lib.hid (TB.out.trans (hv.mono TB.out.size))
      replace TR := Lib.hid (TR.out.trans (hv.mono TR.out.size))
      refine hK.out _ _ (KS2.out _ TB.out) (fun _ => ?_)
      clear hK K hv
      clear s3 cMt cCh rMt rCh cPl KS2
      obtain ⟨rA, rN, rk, rc', rt⟩ := r
      refine wpAnyH_take (i := 31) (v := ?_) rfl (by kernel_rfl) (by kernel_rfl) (by kernel_rfl) (fun _ _ _ h => h) (Or.inl ⟨by rfl, ?_⟩) (by assumption) ?_
      rotate_left
      · (intro w' hSw; (try dsimp only at hSw); go_simp; try with_reducible rfl)
      simp only [Act.put, List.getElem_toArray, List.getElem_cons_zero, List.getElem_cons_succ, List.setIfInBounds_toArray, List.set_cons_zero, List.set_cons_succ]
      refine wpAnyH_take (i := 32) (v := ?_) rfl (by kernel_rfl) (by kernel_rfl) (by kernel_rfl) (fun _ _ _ h => h) (Or.inl ⟨by rfl, ?_⟩) (by assumption) ?_
      rotate_left
      · (intro w' hSw; (try dsimp only at hSw); go_simp; try with_reducible rfl)
      simp only [Act.put, List.getElem_toArray, List.getElem_cons_zero, List.getElem_cons_succ, List.setIfInBounds_toArray, List.set_cons_zero, List.set_cons_succ]
      refine wpAnyH_done (by kernel_rfl) ?_ _
      go_wp2
      go_roundg gf
      case measure => omega
      case rel => exact ⟨k + 1, by go_num, Lib.hid (by omega), TR⟩
end Go.Proofs.Ytmcjpibahnlmbaa
