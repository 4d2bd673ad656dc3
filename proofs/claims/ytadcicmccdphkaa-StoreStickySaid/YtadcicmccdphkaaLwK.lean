/-
  The walk of StoreSticky. No statement is proved here; no conditions.
-/
import Derived.Test.YtadcicmccdphkaaAl
import Derived.Test.YtadcicmccdphkaaFd
import Derived.Test.YtadcicmccdphkaaFrame
namespace Go.Proofs.Ytadcicmccdphkaa
open Go.RowKit Go.Joins

theorem kp_stB (W : World) (g : Nat) (u0 u1 u2 u3 u4 u5 u6 u7 u8 : Value) : Kp (· = g) W ((((((((((W).setCell ⟨g, 0, none⟩ (u0)).setCell ⟨g, 1, none⟩ (u1)).setCell ⟨g, 2, none⟩ (u2)).setCell ⟨g, 3, none⟩ (u3)).setCell ⟨g, 4, none⟩ (u4)).setCell ⟨g, 5, none⟩ (u5)).setCell ⟨g, 6, none⟩ (u6)).setCell ⟨g, 7, none⟩ (u7)).setCell ⟨g, 8, none⟩ (u8)) :=
  ((((((((Kp.setCell (S := (· = g)) W ⟨g, 0, none⟩ u0 rfl).then_set ⟨g, 1, none⟩ u1 rfl).then_set ⟨g, 2, none⟩ u2 rfl).then_set ⟨g, 3, none⟩ u3 rfl).then_set ⟨g, 4, none⟩ u4 rfl).then_set ⟨g, 5, none⟩ u5 rfl).then_set ⟨g, 6, none⟩ u6 rfl).then_set ⟨g, 7, none⟩ u7 rfl).then_set ⟨g, 8, none⟩ u8 rfl
theorem and15 (x : Int) : 0 ≤ bits .and .i64 x 15 ∧ bits .and .i64 x 15 ≤ 15 := by
  have h : (BitVec.ofInt 64 x &&& BitVec.ofInt 64 15).toNat ≤ 15 := by
    rw [BitVec.toNat_and]
    exact Nat.le_trans Nat.and_le_right (by decide)
  have e : bits .and .i64 x 15 = IntKind.i64.wrap ((BitVec.ofInt 64 x &&& BitVec.ofInt 64 15).toNat : Int) := rfl
  rw [e, wrap_i64 (by omega) (by omega)]
  omega
/-- What holds between two rounds: the store is one that may be, of at most m. -/
structure SJ (w : World) (m : Int) (kS k : Nat) (wx : World) : Prop where
  ex : ∃ As ns cs os Ls, Bk wx kS (.cells #[.int .i64 m, .slice As ns cs, .bool os] 24) ∧ Ls.length = ns ∧ Aro w.heap.size wx As cs Ls ∧ Vs (cons Ls) ∧ (ns : Int) ≤ m
  bel : Below w.heap.size w wx
  ks : w.heap.size ≤ kS
set_option maxRecDepth 100000 in
set_option maxHeartbeats 8000000 in
theorem sticky_walk (x : Int) (A0 : Option Addr) (n c0 : Nat) (LL : List Ae) (w : World) (hn : LL.length = n) (okx : ∀ x ∈ LL, Okd x.h ∧ Byt x.l ∧ x.l.length ≤ x.c) (hr : Arr w A0 LL) (_hc : n ≤ c0) :
    Calls Try.prog 3 #[.int .i64 x, .slice A0 n c0] w fun e w' => e = .returned (.bool true) ∧ Below w.heap.size w w' := by
  have HN := Lib.hid hn
  have HO := Lib.hid okx
  have HR := Lib.hid hr
  clear hn okx hr
  obtain ⟨m, hm⟩ : ∃ m, bits .and .i64 x 15 = m := ⟨_, rfl⟩
  have hmb : 0 ≤ m ∧ m ≤ 15 := by rw [← hm]; exact and15 x
  have CNw := snew_any m w
  have HM : Hid (nwE m = if m = 0 then 1 else 0) := Lib.hid (by
    unfold nwE win
    by_cases h : m = 0
    · subst h; rfl
    · rw [if_pos (by simp; omega), if_neg h])
  have HM2 : Hid (nwM m = m) := Lib.hid (by
    unfold nwM win
    by_cases h : m = 0
    · subst h; rfl
    · rw [if_pos (by simp; omega)])
  rw [HM.out, HM2.out] at CNw
  go_enter Try.func3, Try.ntmps3
  go_wp2_with (simp only [hm])
  refine CNw.mono ?_
  rintro e W1 ⟨rfl, u1⟩
  obtain ⟨ka, hka⟩ : ∃ q, W1.heap.size = q := ⟨_, rfl⟩
  obtain ⟨Va, hVa⟩ : ∃ V, W1.alloc (.cells #[Value.int .i64 0, .slice none 0 0, .bool false] 24) = V := ⟨_, rfl⟩
  have uVa : Below W1.heap.size W1 Va := by rw [← hVa]; exact below_alloc1 _ _
  have GVa : Bk Va ka (.cells #[Value.int .i64 0, .slice none 0 0, .bool false] 24) := by rw [← hka]; exact Bk.mk hVa
  obtain ⟨Xa, hXa⟩ : ∃ V, ((Va.setCell ⟨ka, 0, none⟩ (.int .i64 m)).setCell ⟨ka, 1, none⟩ (.slice none 0 0)).setCell ⟨ka, 2, none⟩ (.bool false) = V := ⟨_, rfl⟩
  have Ga : Bk Xa ka (.cells #[.int .i64 m, .slice none 0 0, .bool false] 24) := by rw [← hXa]; exact kz3_set GVa _ _ _
  have ua : Below W1.heap.size W1 Xa := by rw [← hXa]; exact below_st3 uVa (by rw [← hka]; exact Nat.le_refl _) _ _ _
  obtain ⟨ya0, ya1, ya2, fa0, fa1, fa2, hza⟩ := kz3_at GVa
  have HKS : Hid (w.heap.size ≤ ka) := Lib.hid (by rw [← hka]; exact u1.size)
  have J0 : Hid (SJ w m ka 0 Xa) := Lib.hid ⟨⟨none, 0, 0, false, [], Ga, rfl, Aro.nil _ _, Vs.nil, by omega⟩, u1.trans (ua.mono u1.size), HKS.out⟩
  have T0 := Lib.hid (u1.trans (ua.mono u1.size))
  have CAl := fun V => alive_any V
  by_cases h0 : m = 0
  · subst h0
    rw [if_pos rfl]
    clear HM HM2 J0 Ga ua CNw u1
    go_wp2_with (simp only [])
    refine (CAl _).mono ?_
    rintro e W2 ⟨rfl, u2⟩
    go_wp2_with (simp only [])
    go_ret
    exact ⟨rfl, T0.out.trans (u2.mono T0.out.size)⟩
  rw [if_neg h0]
  clear HM HM2 CNw u1 ua Ga
  go_wp2_with fail
  go_loopg [7] n (fun gf v7 wx => ∃ (k : Nat), v7 = .int .i64 (k : Int) ∧ Hid (gf + k = n) ∧ Hid (SJ w m ka k wx))
  case atStart => exact ⟨0, rfl, Lib.hid (by omega), J0⟩
  case round =>
    obtain ⟨k, rfl, hk, hJ⟩ := hrel
    have hk' := hk.out
    clear J0 T0 ya0 ya1 ya2 fa0 fa1 fa2 hza hXa hVa hka GVa uVa
    by_cases hend : gk = 0 ∨ 80 ≤ k
    · have HB := Lib.hid hJ.out.bel
      rcases Nat.eq_zero_or_pos gk with rfl | hpos
      · have lt0 : decide ((k : Int) < (n : Int)) = false := by simp; omega
        have lt1 : decide (k < n) = false := by simp; omega
        go_wp2_with fail
        refine (CAl _).mono ?_
        rintro e W2 ⟨rfl, u2⟩
        go_wp2
        go_ret
        exact ⟨rfl, HB.out.trans (u2.mono HB.out.size)⟩
      · have h80 : 80 ≤ k := by omega
        have lt0 : (k : Int) < (n : Int) := by omega
        have lt1 : decide ((k : Int) < 80) = false := by simp; omega
        have lt2 : decide (k < 80) = false := by simp; omega
        go_wp2_with fail
        refine (CAl _).mono ?_
        rintro e W2 ⟨rfl, u2⟩
        go_wp2
        go_ret
        exact ⟨rfl, HB.out.trans (u2.mono HB.out.size)⟩
    cases gk with
    | zero => exact absurd (.inl rfl) hend
    | succ gf =>
      have hk80 : k < 80 := by omega
      have hkl : k < LL.length := by rw [HN.out]; omega
      have lt0 : (k : Int) < (n : Int) := by omega
      have lt80 : (k : Int) < 80 := by omega
      have hw1 : (k : Int) + 1 ≤ 10000 := by omega
      obtain ⟨⟨As, ns, cs, os, Ls, GS, hls, has, hvs, hnm⟩, hb, hks⟩ := hJ.out
      have HB := Lib.hid hb
      have HLS := Lib.hid hls
      have HAS := Lib.hid has
      have HVS := Lib.hid hvs
      have HNM := Lib.hid hnm
      have HGS := Lib.hid GS
      have hns : ns ≤ 15 := by omega
      have har := Arr.step HR.out hb
      obtain ⟨b, off, hA, _, e0, e1, e2, e3, e4, e5, e6, e7, e8⟩ := ard_at har.1 hkl
      have HOX := Lib.hid (HO.out _ (ag_mem hkl))
      have HBX := Lib.hid (har.2 _ (ag_mem hkl))
      obtain ⟨x, hx⟩ : ∃ x, ag LL k = x := ⟨_, rfl⟩
      rw [hx] at HOX HBX e0 e1 e2 e3 e4 e5 e6 e7 e8
      have HAR : Hid (∀ V, Below wr.heap.size wr V → V.cell? ⟨b, off + k * 9, none⟩ = some (.int .i64 x.h.a) ∧ V.cell? ⟨b, off + k * 9 + 1, none⟩ = some (.int .i64 x.h.o) ∧ V.cell? ⟨b, off + k * 9 + 2, none⟩ = some (.int .i64 x.h.t) ∧ V.cell? ⟨b, off + k * 9 + 3, none⟩ = some (.int .u32 x.h.i) ∧ V.cell? ⟨b, off + k * 9 + 4, none⟩ = some (.int .u32 x.h.v) ∧ V.cell? ⟨b, off + k * 9 + 5, none⟩ = some (.int .u32 x.h.q) ∧ V.cell? ⟨b, off + k * 9 + 6, none⟩ = some (.int .i64 x.h.s) ∧ V.cell? ⟨b, off + k * 9 + 7, none⟩ = some (.int .i64 x.h.n) ∧ V.cell? ⟨b, off + k * 9 + 8, none⟩ = some (.slice x.A x.l.length x.c)) := Lib.hid (fun V hV => by
        obtain ⟨b2, off2, hA2, _, q0, q1, q2, q3, q4, q5, q6, q7, q8⟩ := ard_at (har.step hV).1 hkl
        rw [hx] at q0 q1 q2 q3 q4 q5 q6 q7 q8
        rw [hA] at hA2
        injection hA2 with hA2
        injection hA2 with h1 h2
        subst h1 h2
        exact ⟨q0, q1, q2, q3, q4, q5, q6, q7, q8⟩)
      subst hA
      clear hls has hvs hnm hb hx har hkl
      by_cases hlen : 300 < x.l.length
      · have hg : ((x.l.length : Nat) : Int) > 300 := by omega
        clear GS
        go_wp2
        go_roundg gf
        case measure => omega
        case rel => exact ⟨k + 1, by go_num, Lib.hid (by omega), Lib.hid ⟨⟨As, ns, cs, os, Ls, HGS.out, HLS.out, HAS.out, HVS.out, HNM.out⟩, HB.out, hks⟩⟩
      have hg : ¬ ((x.l.length : Nat) : Int) > 300 := by omega
      obtain ⟨RC, Ro, Rk, Re, hR⟩ : ∃ a b c d, putR m (cons Ls) os (x.h, x.l) = ⟨a, b, c, d⟩ := ⟨_, _, _, _, rfl⟩
      have hlp := put_len (m := m) (o := os) (x := (x.h, x.l)) HVS.out
      have hov := put_over (m := m) (o := os) (x := (x.h, x.l)) HVS.out
      have hvp := put_vs (m := m) (o := os) (x := (x.h, x.l)) HVS.out HOX.out.1 HOX.out.2.1
      have hke := fun z (hz : z ∈ cons Ls) => put_keeps (m := m) (o := os) (x := (x.h, x.l)) HVS.out HOX.out.1 HOX.out.2.1 hz
      have hth := put_there (m := m) (o := os) (x := (x.h, x.l)) HVS.out HOX.out.1 HOX.out.2.1
      rw [hR] at hlp hov hvp hth
      simp only [hR] at hke
      simp only [cons_length, HLS.out] at hlp hov hvp hth
      have HKE := Lib.hid hke
      have HTH := Lib.hid hth
      have HVP := Lib.hid hvp
      have HOV := Lib.hid hov
      have CP := fun V (hV : Below wr.heap.size wr V) => sput_any x.h x.A x.l.length x.c x.l m As ns cs os Ls V HLS.out (HAS.out.arr.step hV) (by omega) (fun z hz => (HVS.out.e z hz).sok) HOX.out.1 HOX.out.2.1 rfl (by omega) HOX.out.2.2 (HBX.out.step hV)
      simp only [hR, PP] at CP
      have KS : Hid (∀ V, Below wr.heap.size wr V → (V.cell? ⟨ka, 0, none⟩ = some (.int .i64 m) ∧ V.cell? ⟨ka, 1, none⟩ = some (.slice As ns cs) ∧ V.cell? ⟨ka, 2, none⟩ = some (.bool os)) ∧ (V.cell? ⟨b, off + k * 9, none⟩ = some (.int .i64 x.h.a) ∧ V.cell? ⟨b, off + k * 9 + 1, none⟩ = some (.int .i64 x.h.o) ∧ V.cell? ⟨b, off + k * 9 + 2, none⟩ = some (.int .i64 x.h.t) ∧ V.cell? ⟨b, off + k * 9 + 3, none⟩ = some (.int .u32 x.h.i) ∧ V.cell? ⟨b, off + k * 9 + 4, none⟩ = some (.int .u32 x.h.v) ∧ V.cell? ⟨b, off + k * 9 + 5, none⟩ = some (.int .u32 x.h.q) ∧ V.cell? ⟨b, off + k * 9 + 6, none⟩ = some (.int .i64 x.h.s) ∧ V.cell? ⟨b, off + k * 9 + 7, none⟩ = some (.int .i64 x.h.n) ∧ V.cell? ⟨b, off + k * 9 + 8, none⟩ = some (.slice x.A x.l.length x.c))) := Lib.hid (fun V hV => by
        obtain ⟨s0, s1, s2, -⟩ := kz3_at (HGS.out.step hV)
        exact ⟨⟨s0, s1, s2⟩, HAR.out V hV⟩)
      clear hR hke hth hvp hov
      go_upto_region 8 with fail
      clear e0 e1 e2 e3 e4 e5 e6 e7 e8 GS
      go_cut [8, 9, 10] (fun v8 v9 v10 wx => ∃ kt : Nat, v8 = .pointer (some ⟨kt, 0, none⟩) ∧ v9 = .int .i64 Rk ∧ v10 = .int .i64 Re ∧ Hid (Below wr.heap.size wr wx) ∧ Hid (wr.heap.size ≤ kt) ∧ Hid (∃ Ap np cp Lp, Bk wx kt (.cells #[.int .i64 m, .slice Ap np cp, .bool Ro] 24) ∧ Lp.length = np ∧ cons Lp = RC ∧ Aro w.heap.size wx Ap cp Lp))
      case first =>
        have tt : Below wr.heap.size wr wr := Below.refl _ _
        refine wp_region_held_drew (S := fun V => (V.cell? ⟨ka, 0, none⟩ = some (.int .i64 m) ∧ V.cell? ⟨ka, 1, none⟩ = some (.slice As ns cs) ∧ V.cell? ⟨ka, 2, none⟩ = some (.bool os)) ∧ (V.cell? ⟨b, off + k * 9, none⟩ = some (.int .i64 x.h.a) ∧ V.cell? ⟨b, off + k * 9 + 1, none⟩ = some (.int .i64 x.h.o) ∧ V.cell? ⟨b, off + k * 9 + 2, none⟩ = some (.int .i64 x.h.t) ∧ V.cell? ⟨b, off + k * 9 + 3, none⟩ = some (.int .u32 x.h.i) ∧ V.cell? ⟨b, off + k * 9 + 4, none⟩ = some (.int .u32 x.h.v) ∧ V.cell? ⟨b, off + k * 9 + 5, none⟩ = some (.int .u32 x.h.q) ∧ V.cell? ⟨b, off + k * 9 + 6, none⟩ = some (.int .i64 x.h.s) ∧ V.cell? ⟨b, off + k * 9 + 7, none⟩ = some (.int .i64 x.h.n) ∧ V.cell? ⟨b, off + k * 9 + 8, none⟩ = some (.slice x.A x.l.length x.c))) (by kernel_rfl) (KS.out _ tt.drew) (fun hHeld => ?_)
        replace tt : Below wr.heap.size wr wr.drew := tt.drew
        generalize hX0 : wr.drew = X0 at tt  hHeld ⊢
        clear hX0
        refine wpAnyH_take (i := 0) (v := ?_) rfl (by kernel_rfl) (by kernel_rfl) (by kernel_rfl) (fun _ _ _ h => h) (Or.inl ⟨by rfl, ?_⟩) (by assumption) ?_
        rotate_left
        · (intro w' hSw; (try dsimp only at hSw); go_simp; try with_reducible rfl)
        simp only [Act.put, List.getElem_toArray, List.getElem_cons_zero, List.setIfInBounds_toArray, List.set_cons_zero, List.set_cons_succ]
        refine wpAnyH_take (i := 1) (v := ?_) rfl (by kernel_rfl) (by kernel_rfl) (by kernel_rfl) (fun _ _ _ h => h) (Or.inl ⟨by rfl, ?_⟩) (by assumption) ?_
        rotate_left
        · (intro w' hSw; (try dsimp only at hSw); go_simp; try with_reducible rfl)
        simp only [Act.put, List.getElem_toArray, List.getElem_cons_zero, List.getElem_cons_succ, List.setIfInBounds_toArray, List.set_cons_zero, List.set_cons_succ]
        refine wpAnyH_take (i := 2) (v := ?_) rfl (by kernel_rfl) (by kernel_rfl) (by kernel_rfl) (fun _ _ _ h => h) (Or.inl ⟨by rfl, ?_⟩) (by assumption) ?_
        rotate_left
        · (intro w' hSw; (try dsimp only at hSw); go_simp; try with_reducible rfl)
        simp only [Act.put, List.getElem_toArray, List.getElem_cons_zero, List.getElem_cons_succ, List.setIfInBounds_toArray, List.set_cons_zero, List.set_cons_succ]
        refine wpAnyH_take (i := 3) (v := ?_) rfl (by kernel_rfl) (by kernel_rfl) (by kernel_rfl) (fun _ _ _ h => h) (Or.inl ⟨by rfl, ?_⟩) (by assumption) ?_
        rotate_left
        · (intro w' hSw; (try dsimp only at hSw); go_simp; try with_reducible rfl)
        simp only [Act.put, List.getElem_toArray, List.getElem_cons_zero, List.getElem_cons_succ, List.setIfInBounds_toArray, List.set_cons_zero, List.set_cons_succ]
        refine wpAnyH_take (i := 4) (v := ?_) rfl (by kernel_rfl) (by kernel_rfl) (by kernel_rfl) (fun _ _ _ h => h) (Or.inl ⟨by rfl, ?_⟩) (by assumption) ?_
        rotate_left
        · (intro w' hSw; (try dsimp only at hSw); go_simp; try with_reducible rfl)
        simp only [Act.put, List.getElem_toArray, List.getElem_cons_zero, List.getElem_cons_succ, List.setIfInBounds_toArray, List.set_cons_zero, List.set_cons_succ]
        refine wpAnyH_ready (rs := [5, 10]) (by kernel_rfl) (by simp) ?_
        refine AllReadyH.cons rfl (fun K hK => ?_) ?_
        · go_simp
          go_at_call 7
          refine (CP X0 tt).mono ?_
          rintro e Y1 ⟨Ap, cp, np, Lp, rfl, hnp, hcp, hap, u1⟩
          have t_Y1 : Below wr.heap.size wr Y1 := tt.trans (u1.mono tt.size)
          replace hap := hap.lower (Nat.le_trans HB.out.size tt.size)
          refine hK.out _ _ (KS.out _ t_Y1) (fun _ => ?_)
          clear hK K
          refine wpAnyH_take (i := 6) (v := ?_) rfl (by kernel_rfl) (by kernel_rfl) (by kernel_rfl) (fun _ _ _ h => h) (Or.inl ⟨by rfl, ?_⟩) (by assumption) ?_
          rotate_left
          · (intro w' hSw; (try dsimp only at hSw); go_simp; try with_reducible rfl)
          simp only [Act.put, List.getElem_toArray, List.getElem_cons_zero, List.getElem_cons_succ, List.setIfInBounds_toArray, List.set_cons_zero, List.set_cons_succ]
          refine wpAnyH_take (i := 7) (v := ?_) rfl (by kernel_rfl) (by kernel_rfl) (by kernel_rfl) (fun _ _ _ h => h) (Or.inl ⟨by rfl, ?_⟩) (by assumption) ?_
          rotate_left
          · (intro w' hSw; (try dsimp only at hSw); go_simp; try with_reducible rfl)
          simp only [Act.put, List.getElem_toArray, List.getElem_cons_zero, List.getElem_cons_succ, List.setIfInBounds_toArray, List.set_cons_zero, List.set_cons_succ]
          refine wpAnyH_take (i := 8) (v := ?_) rfl (by kernel_rfl) (by kernel_rfl) (by kernel_rfl) (fun _ _ _ h => h) (Or.inl ⟨by rfl, ?_⟩) (by assumption) ?_
          rotate_left
          · (intro w' hSw; (try dsimp only at hSw); go_simp; try with_reducible rfl)
          simp only [Act.put, List.getElem_toArray, List.getElem_cons_zero, List.getElem_cons_succ, List.setIfInBounds_toArray, List.set_cons_zero, List.set_cons_succ]
          refine wpAnyH_take (i := 9) (v := ?_) rfl (by kernel_rfl) (by kernel_rfl) (by kernel_rfl) (fun _ _ _ h => h) (Or.inl ⟨by rfl, ?_⟩) (by assumption) ?_
          rotate_left
          · (intro w' hSw; (try dsimp only at hSw); go_simp; try with_reducible rfl)
          simp only [Act.put, List.getElem_toArray, List.getElem_cons_zero, List.getElem_cons_succ, List.setIfInBounds_toArray, List.set_cons_zero, List.set_cons_succ]
          refine wpAnyH_ready (rs := [10]) (by kernel_rfl) (by simp) ?_
          refine AllReadyH.cons rfl (fun K hK => ?_) AllReadyH.nil
          go_simp
          obtain ⟨Y2, hY2⟩ : ∃ V, Y1.alloc (.cells #[Value.int .i64 0, .slice none 0 0, .bool false] 24) = V := ⟨_, rfl⟩
          have u2 : Below Y1.heap.size Y1 Y2 := by rw [← hY2]; exact below_alloc1 _ _
          have kz := Bk.mk hY2
          have t_Y2 : Below wr.heap.size wr Y2 := t_Y1.trans (u2.mono t_Y1.size)
          replace hap := hap.step u2
          obtain ⟨kt, hkt⟩ : ∃ q, Y1.heap.size = q := ⟨_, rfl⟩
          rw [hkt] at kz
          have ga : Hid (wr.heap.size ≤ kt) := Lib.hid (by rw [← hkt]; exact t_Y1.size)
          try rw [hY2]
          try rw [hkt]
          clear hY2 hkt
          refine hK.out _ _ (KS.out _ t_Y2) (fun _ => ?_)
          clear hK K
          refine wpAnyH_ready (rs := [11]) (by kernel_rfl) (by simp) ?_
          refine AllReadyH.cons rfl (fun K hK => ?_) AllReadyH.nil
          have TW : Hid (Below wr.heap.size wr ((((Y2).setCell ⟨kt, 0, none⟩ (.int .i64 m)).setCell ⟨kt, 1, none⟩ (.slice Ap np cp)).setCell ⟨kt, 2, none⟩ (.bool Ro))) := Lib.hid (below_st3 t_Y2 ga.out (.int .i64 m) (.slice Ap np cp) (.bool Ro))
          have GW : Hid (Bk ((((Y2).setCell ⟨kt, 0, none⟩ (.int .i64 m)).setCell ⟨kt, 1, none⟩ (.slice Ap np cp)).setCell ⟨kt, 2, none⟩ (.bool Ro)) kt (.cells #[.int .i64 m, .slice Ap np cp, .bool Ro] 24)) := Lib.hid (kz3_set kz (.int .i64 m) (.slice Ap np cp) (.bool Ro))
          have HAP : Hid (Aro w.heap.size ((((Y2).setCell ⟨kt, 0, none⟩ (.int .i64 m)).setCell ⟨kt, 1, none⟩ (.slice Ap np cp)).setCell ⟨kt, 2, none⟩ (.bool Ro)) Ap cp Lp) := Lib.hid (((hap.set kz (by decide) (by decide) (.int .i64 m)).set (i := 1) (Bk.set3 (i := 0) kz) (by decide) (by decide) (.slice Ap np cp)).set (i := 2) (Bk.set3 (i := 1) (Bk.set3 (i := 0) kz)) (by decide) (by decide) (.bool Ro))
          clear hap
          obtain ⟨z0, z1, z2, g0, g1, g2, hzl⟩ := kz3_at kz
          clear kz
          go_simp
          obtain ⟨ZX, hZX⟩ : ∃ V, ((((Y2).setCell ⟨kt, 0, none⟩ (.int .i64 m)).setCell ⟨kt, 1, none⟩ (.slice Ap np cp)).setCell ⟨kt, 2, none⟩ (.bool Ro)) = V := ⟨_, rfl⟩
          rw [hZX] at TW GW HAP ⊢
          clear z0 z1 z2 g0 g1 g2 hzl hZX
          refine hK.out _ _ (KS.out _ TW.out) (fun _ => ?_)
          clear hK K
          refine wpAnyH_ready (rs := [12]) (by kernel_rfl) (by simp) ?_
          refine AllReadyH.cons rfl (fun K hK => ?_) AllReadyH.nil
          go_simp
          refine hK.out _ _ (KS.out _ TW.out) (fun _ => ?_)
          clear hK K
          refine wpAnyH_ready (rs := [13]) (by kernel_rfl) (by simp) ?_
          refine AllReadyH.cons rfl (fun K hK => ?_) AllReadyH.nil
          go_simp
          refine hK.out _ _ (KS.out _ TW.out) (fun _ => ?_)
          clear hK K
          refine wpAnyH_done (by kernel_rfl) ?_ _
          go_wp2
          go_meet
          case rel => exact ⟨kt, rfl, rfl, rfl, TW, ga, Lib.hid ⟨Ap, np, cp, Lp, GW.out, hnp, hcp, HAP.out⟩⟩
        refine AllReadyH.cons rfl (fun K hK => ?_) AllReadyH.nil
        go_simp
        obtain ⟨Y1, hY1⟩ : ∃ V, X0.alloc (.cells #[Value.int .i64 0, .slice none 0 0, .bool false] 24) = V := ⟨_, rfl⟩
        have u1 : Below X0.heap.size X0 Y1 := by rw [← hY1]; exact below_alloc1 _ _
        have kz := Bk.mk hY1
        have t_Y1 : Below wr.heap.size wr Y1 := tt.trans (u1.mono tt.size)
        obtain ⟨kt, hkt⟩ : ∃ q, X0.heap.size = q := ⟨_, rfl⟩
        rw [hkt] at kz
        have ga : Hid (wr.heap.size ≤ kt) := Lib.hid (by rw [← hkt]; exact tt.size)
        try rw [hY1]
        try rw [hkt]
        clear hY1 hkt
        refine hK.out _ _ (KS.out _ t_Y1) (fun _ => ?_)
        clear hK K
        refine wpAnyH_ready (rs := [5]) (by kernel_rfl) (by simp) ?_
        refine AllReadyH.cons rfl (fun K hK => ?_) AllReadyH.nil
        go_simp
        go_at_call 7
        refine (CP Y1 t_Y1).mono ?_
        rintro e Y2 ⟨Ap, cp, np, Lp, rfl, hnp, hcp, hap, u2⟩
        have t_Y2 : Below wr.heap.size wr Y2 := t_Y1.trans (u2.mono t_Y1.size)
        replace kz := kz.step u2
        replace hap := hap.lower (Nat.le_trans HB.out.size t_Y1.size)
        refine hK.out _ _ (KS.out _ t_Y2) (fun _ => ?_)
        clear hK K
        refine wpAnyH_take (i := 6) (v := ?_) rfl (by kernel_rfl) (by kernel_rfl) (by kernel_rfl) (fun _ _ _ h => h) (Or.inl ⟨by rfl, ?_⟩) (by assumption) ?_
        rotate_left
        · (intro w' hSw; (try dsimp only at hSw); go_simp; try with_reducible rfl)
        simp only [Act.put, List.getElem_toArray, List.getElem_cons_zero, List.getElem_cons_succ, List.setIfInBounds_toArray, List.set_cons_zero, List.set_cons_succ]
        refine wpAnyH_take (i := 7) (v := ?_) rfl (by kernel_rfl) (by kernel_rfl) (by kernel_rfl) (fun _ _ _ h => h) (Or.inl ⟨by rfl, ?_⟩) (by assumption) ?_
        rotate_left
        · (intro w' hSw; (try dsimp only at hSw); go_simp; try with_reducible rfl)
        simp only [Act.put, List.getElem_toArray, List.getElem_cons_zero, List.getElem_cons_succ, List.setIfInBounds_toArray, List.set_cons_zero, List.set_cons_succ]
        refine wpAnyH_take (i := 8) (v := ?_) rfl (by kernel_rfl) (by kernel_rfl) (by kernel_rfl) (fun _ _ _ h => h) (Or.inl ⟨by rfl, ?_⟩) (by assumption) ?_
        rotate_left
        · (intro w' hSw; (try dsimp only at hSw); go_simp; try with_reducible rfl)
        simp only [Act.put, List.getElem_toArray, List.getElem_cons_zero, List.getElem_cons_succ, List.setIfInBounds_toArray, List.set_cons_zero, List.set_cons_succ]
        refine wpAnyH_take (i := 9) (v := ?_) rfl (by kernel_rfl) (by kernel_rfl) (by kernel_rfl) (fun _ _ _ h => h) (Or.inl ⟨by rfl, ?_⟩) (by assumption) ?_
        rotate_left
        · (intro w' hSw; (try dsimp only at hSw); go_simp; try with_reducible rfl)
        simp only [Act.put, List.getElem_toArray, List.getElem_cons_zero, List.getElem_cons_succ, List.setIfInBounds_toArray, List.set_cons_zero, List.set_cons_succ]
        refine wpAnyH_ready (rs := [11]) (by kernel_rfl) (by simp) ?_
        refine AllReadyH.cons rfl (fun K hK => ?_) AllReadyH.nil
        have TW : Hid (Below wr.heap.size wr ((((Y2).setCell ⟨kt, 0, none⟩ (.int .i64 m)).setCell ⟨kt, 1, none⟩ (.slice Ap np cp)).setCell ⟨kt, 2, none⟩ (.bool Ro))) := Lib.hid (below_st3 t_Y2 ga.out (.int .i64 m) (.slice Ap np cp) (.bool Ro))
        have GW : Hid (Bk ((((Y2).setCell ⟨kt, 0, none⟩ (.int .i64 m)).setCell ⟨kt, 1, none⟩ (.slice Ap np cp)).setCell ⟨kt, 2, none⟩ (.bool Ro)) kt (.cells #[.int .i64 m, .slice Ap np cp, .bool Ro] 24)) := Lib.hid (kz3_set kz (.int .i64 m) (.slice Ap np cp) (.bool Ro))
        have HAP : Hid (Aro w.heap.size ((((Y2).setCell ⟨kt, 0, none⟩ (.int .i64 m)).setCell ⟨kt, 1, none⟩ (.slice Ap np cp)).setCell ⟨kt, 2, none⟩ (.bool Ro)) Ap cp Lp) := Lib.hid (((hap.set kz (by decide) (by decide) (.int .i64 m)).set (i := 1) (Bk.set3 (i := 0) kz) (by decide) (by decide) (.slice Ap np cp)).set (i := 2) (Bk.set3 (i := 1) (Bk.set3 (i := 0) kz)) (by decide) (by decide) (.bool Ro))
        clear hap
        obtain ⟨z0, z1, z2, g0, g1, g2, hzl⟩ := kz3_at kz
        clear kz
        go_simp
        obtain ⟨ZX, hZX⟩ : ∃ V, ((((Y2).setCell ⟨kt, 0, none⟩ (.int .i64 m)).setCell ⟨kt, 1, none⟩ (.slice Ap np cp)).setCell ⟨kt, 2, none⟩ (.bool Ro)) = V := ⟨_, rfl⟩
        rw [hZX] at TW GW HAP ⊢
        clear z0 z1 z2 g0 g1 g2 hzl hZX
        refine hK.out _ _ (KS.out _ TW.out) (fun _ => ?_)
        clear hK K
        refine wpAnyH_ready (rs := [12]) (by kernel_rfl) (by simp) ?_
        refine AllReadyH.cons rfl (fun K hK => ?_) AllReadyH.nil
        go_simp
        refine hK.out _ _ (KS.out _ TW.out) (fun _ => ?_)
        clear hK K
        refine wpAnyH_ready (rs := [13]) (by kernel_rfl) (by simp) ?_
        refine AllReadyH.cons rfl (fun K hK => ?_) AllReadyH.nil
        go_simp
        refine hK.out _ _ (KS.out _ TW.out) (fun _ => ?_)
        clear hK K
        refine wpAnyH_done (by kernel_rfl) ?_ _
        go_wp2
        go_meet
        case rel => exact ⟨kt, rfl, rfl, rfl, TW, ga, Lib.hid ⟨Ap, np, cp, Lp, GW.out, hnp, hcp, HAP.out⟩⟩
      case rest =>
        obtain ⟨kt, rfl, rfl, rfl, T1, HKT, HT⟩ := hcut
        clear KS CP
        obtain ⟨Ap, np, cp, Lp, gt, hnp, hcp, hap⟩ := HT.out
        have hnp2 : np = RC.length := by rw [← hnp, ← cons_length, hcp]
        have HGT := Lib.hid gt
        have HNP := Lib.hid hnp
        have HCP := Lib.hid hcp
        have HAP := Lib.hid hap
        have GS1 := Lib.hid (HGS.out.step T1.out)
        have HB1 := Lib.hid (HB.out.trans (T1.out.mono HB.out.size))
        have hpm : (np : Int) ≤ m := by rw [hnp2]; exact hlp.2.2 HNM.out
        have hps : ns ≤ np := by rw [hnp2]; exact hlp.1
        have q1 : ¬ ((np : Int) > m) := by omega
        have q2 : ¬ ((np : Int) < (ns : Int)) := by omega
        obtain ⟨t0, t1, t2, -⟩ := kz3_at gt
        obtain ⟨s0, s1, s2, -⟩ := kz3_at GS1.out
        have hnp80 : np ≤ 15 := by omega
        clear gt hnp hcp hap hlp HT hnp2 HGS
        have hR9 : Hid (∀ e9 : Bool, e9 = decide (Re = 8) → Ro = (os || e9)) := Lib.hid (fun e9 h => by rw [h]; exact HOV.out)
        obtain ⟨e9, he9⟩ : ∃ e9, (Re == 8) = e9 := ⟨_, rfl⟩
        have hoe : Ro = (os || e9) := hR9.out e9 (by rw [← he9, Bool.eq_iff_iff]; simp)
        clear hR9
        have hd9 : decide (Re = 8) = e9 := by rw [← he9, Bool.eq_iff_iff]; simp
        have hw9 : (Re != 8) = !e9 := by rw [← he9]; rfl
        go_upto_region 9 with fail
        go_cut [91] (fun v wx => v = .bool false ∧ wx = wc)
        case first =>
          subst hoe
          cases os <;> cases e9 <;>
          · go_wp2_with (simp only [hm])
            go_meet
            case rel => exact ⟨rfl, rfl⟩
        case rest =>
          obtain ⟨rfl, hwc⟩ := hcut
          replace hwc := hwc.symm
          subst hwc
          clear q1 q2 hw9 hd9 he9 hoe
          have HST := GS1
          go_wp2_with fail
          go_loopg [11] ns (fun gf v11 wx => ∃ (j : Nat), v11 = .int .i64 (j : Int) ∧ Hid (gf + j = ns) ∧ Hid (Below wc.heap.size wc wx))
          case atStart => exact ⟨0, rfl, Lib.hid (by omega), Lib.hid (Below.refl _ _)⟩
          case round =>
            obtain ⟨j, rfl, hj, hbj⟩ := hrel
            have hj' := hj.out
            have GSj := HST.out.step hbj.out
            obtain ⟨s0, s1, s2, -⟩ := kz3_at GSj
            cases gk with
            | zero =>
              obtain rfl : j = ns := by omega
              have lj0 : decide ((j : Int) < (j : Int)) = false := by simp
              have lj1 : decide (j < j) = false := by simp
              by_cases h17 : Re = 0 ∧ 2 ≤ Rk
              · obtain ⟨h0e, h2k⟩ := h17
                obtain ⟨-, hf1, hf2⟩ := HTH.out h0e h2k
                have hge : Rk ≥ 2 := h2k
                subst h0e
                have CFd := fun V (hV : Below wr.heap.size wr V) => sfind_any x.h m Ap np cp Ro Lp V HNP.out ((HAP.out.step hbj.out).step hV).arr (by omega) (fun y hy => by
                  have h2 := (HVP.out.e (con y) (by rw [← HCP.out]; exact List.mem_map.2 ⟨_, hy, rfl⟩)).sok.n
                  simp only [con] at h2
                  omega)
                simp only [FP, HCP.out] at CFd
                simp only [hf1, hf2] at CFd
                have KS2 : Hid (∀ V, Below wr.heap.size wr V → (V.cell? ⟨kt, 0, none⟩ = some (.int .i64 m) ∧ V.cell? ⟨kt, 1, none⟩ = some (.slice Ap np cp) ∧ V.cell? ⟨kt, 2, none⟩ = some (.bool Ro)) ∧ (V.cell? ⟨b, off + k * 9, none⟩ = some (.int .i64 x.h.a) ∧ V.cell? ⟨b, off + k * 9 + 1, none⟩ = some (.int .i64 x.h.o) ∧ V.cell? ⟨b, off + k * 9 + 2, none⟩ = some (.int .i64 x.h.t) ∧ V.cell? ⟨b, off + k * 9 + 3, none⟩ = some (.int .u32 x.h.i) ∧ V.cell? ⟨b, off + k * 9 + 4, none⟩ = some (.int .u32 x.h.v) ∧ V.cell? ⟨b, off + k * 9 + 5, none⟩ = some (.int .u32 x.h.q) ∧ V.cell? ⟨b, off + k * 9 + 6, none⟩ = some (.int .i64 x.h.s) ∧ V.cell? ⟨b, off + k * 9 + 7, none⟩ = some (.int .i64 x.h.n) ∧ V.cell? ⟨b, off + k * 9 + 8, none⟩ = some (.slice x.A x.l.length x.c))) := Lib.hid (fun V hV => by
                  obtain ⟨q0, q1, q2, -⟩ := kz3_at ((HGT.out.step hbj.out).step hV)
                  exact ⟨⟨q0, q1, q2⟩, HAR.out V (T1.out.trans ((hbj.out.trans (hV.mono hbj.out.size)).mono T1.out.size))⟩)
                clear hf1 hf2
                go_upto_region 18 with fail
                clear s0 s1 s2 GSj
                go_cut [14, 15] (fun v14 v15 wx => ∃ kf : Nat, v14 = .pointer (some ⟨kf, 0, none⟩) ∧ v15 = .bool true ∧ Hid (Below wr.heap.size wr wx) ∧ Hid (∃ A8 c8, Bk wx kf (.cells #[.int .i64 x.h.a, .int .i64 x.h.o, .int .i64 x.h.t, .int .u32 x.h.i, .int .u32 x.h.v, .int .u32 x.h.q, .int .i64 x.h.s, .int .i64 x.h.n, .slice A8 x.l.length c8] 34) ∧ Bt wx A8 x.l))
                case first =>
                  have tt : Below wr.heap.size wr wr := Below.refl _ _
                  refine wp_region_held_drew (S := fun V => (V.cell? ⟨kt, 0, none⟩ = some (.int .i64 m) ∧ V.cell? ⟨kt, 1, none⟩ = some (.slice Ap np cp) ∧ V.cell? ⟨kt, 2, none⟩ = some (.bool Ro)) ∧ (V.cell? ⟨b, off + k * 9, none⟩ = some (.int .i64 x.h.a) ∧ V.cell? ⟨b, off + k * 9 + 1, none⟩ = some (.int .i64 x.h.o) ∧ V.cell? ⟨b, off + k * 9 + 2, none⟩ = some (.int .i64 x.h.t) ∧ V.cell? ⟨b, off + k * 9 + 3, none⟩ = some (.int .u32 x.h.i) ∧ V.cell? ⟨b, off + k * 9 + 4, none⟩ = some (.int .u32 x.h.v) ∧ V.cell? ⟨b, off + k * 9 + 5, none⟩ = some (.int .u32 x.h.q) ∧ V.cell? ⟨b, off + k * 9 + 6, none⟩ = some (.int .i64 x.h.s) ∧ V.cell? ⟨b, off + k * 9 + 7, none⟩ = some (.int .i64 x.h.n) ∧ V.cell? ⟨b, off + k * 9 + 8, none⟩ = some (.slice x.A x.l.length x.c))) (by kernel_rfl) (KS2.out _ tt.drew) (fun hHeld => ?_)
                  replace tt : Below wr.heap.size wr wr.drew := tt.drew
                  generalize hX0 : wr.drew = X0 at tt  hHeld ⊢
                  clear hX0
                  refine wpAnyH_take (i := 0) (v := ?_) rfl (by kernel_rfl) (by kernel_rfl) (by kernel_rfl) (fun _ _ _ h => h) (Or.inl ⟨by rfl, ?_⟩) (by assumption) ?_
                  rotate_left
                  · (intro w' hSw; (try dsimp only at hSw); go_simp; try with_reducible rfl)
                  simp only [Act.put, List.getElem_toArray, List.getElem_cons_zero, List.setIfInBounds_toArray, List.set_cons_zero, List.set_cons_succ]
                  refine wpAnyH_take (i := 1) (v := ?_) rfl (by kernel_rfl) (by kernel_rfl) (by kernel_rfl) (fun _ _ _ h => h) (Or.inl ⟨by rfl, ?_⟩) (by assumption) ?_
                  rotate_left
                  · (intro w' hSw; (try dsimp only at hSw); go_simp; try with_reducible rfl)
                  simp only [Act.put, List.getElem_toArray, List.getElem_cons_zero, List.getElem_cons_succ, List.setIfInBounds_toArray, List.set_cons_zero, List.set_cons_succ]
                  refine wpAnyH_take (i := 2) (v := ?_) rfl (by kernel_rfl) (by kernel_rfl) (by kernel_rfl) (fun _ _ _ h => h) (Or.inl ⟨by rfl, ?_⟩) (by assumption) ?_
                  rotate_left
                  · (intro w' hSw; (try dsimp only at hSw); go_simp; try with_reducible rfl)
                  simp only [Act.put, List.getElem_toArray, List.getElem_cons_zero, List.getElem_cons_succ, List.setIfInBounds_toArray, List.set_cons_zero, List.set_cons_succ]
                  refine wpAnyH_take (i := 3) (v := ?_) rfl (by kernel_rfl) (by kernel_rfl) (by kernel_rfl) (fun _ _ _ h => h) (Or.inl ⟨by rfl, ?_⟩) (by assumption) ?_
                  rotate_left
                  · (intro w' hSw; (try dsimp only at hSw); go_simp; try with_reducible rfl)
                  simp only [Act.put, List.getElem_toArray, List.getElem_cons_zero, List.getElem_cons_succ, List.setIfInBounds_toArray, List.set_cons_zero, List.set_cons_succ]
                  refine wpAnyH_take (i := 4) (v := ?_) rfl (by kernel_rfl) (by kernel_rfl) (by kernel_rfl) (fun _ _ _ h => h) (Or.inl ⟨by rfl, ?_⟩) (by assumption) ?_
                  rotate_left
                  · (intro w' hSw; (try dsimp only at hSw); go_simp; try with_reducible rfl)
                  simp only [Act.put, List.getElem_toArray, List.getElem_cons_zero, List.getElem_cons_succ, List.setIfInBounds_toArray, List.set_cons_zero, List.set_cons_succ]
                  refine wpAnyH_take (i := 5) (v := ?_) rfl (by kernel_rfl) (by kernel_rfl) (by kernel_rfl) (fun _ _ _ h => h) (Or.inl ⟨by rfl, ?_⟩) (by assumption) ?_
                  rotate_left
                  · (intro w' hSw; (try dsimp only at hSw); go_simp; try with_reducible rfl)
                  simp only [Act.put, List.getElem_toArray, List.getElem_cons_zero, List.getElem_cons_succ, List.setIfInBounds_toArray, List.set_cons_zero, List.set_cons_succ]
                  refine wpAnyH_ready (rs := [6, 11]) (by kernel_rfl) (by simp) ?_
                  refine AllReadyH.cons rfl (fun K hK => ?_) ?_
                  · go_simp
                    go_at_call 9
                    refine (key_any x.h X0).mono ?_
                    rintro e Y1 ⟨rfl, u1⟩
                    have t_Y1 : Below wr.heap.size wr Y1 := tt.trans (u1.mono tt.size)
                    refine hK.out _ _ (KS2.out _ t_Y1) (fun _ => ?_)
                    clear hK K
                    refine wpAnyH_ready (rs := [7, 11]) (by kernel_rfl) (by simp) ?_
                    refine AllReadyH.cons rfl (fun K hK => ?_) ?_
                    · go_simp
                      go_at_call 8
                      refine (CFd Y1 t_Y1).mono ?_
                      rintro e Y2 ⟨A8, c8, rfl, o8, u2⟩
                      have t_Y2 : Below wr.heap.size wr Y2 := t_Y1.trans (u2.mono t_Y1.size)
                      refine hK.out _ _ (KS2.out _ t_Y2) (fun _ => ?_)
                      clear hK K
                      refine wpAnyH_take (i := 8) (v := ?_) rfl (by kernel_rfl) (by kernel_rfl) (by kernel_rfl) (fun _ _ _ h => h) (Or.inl ⟨by rfl, ?_⟩) (by assumption) ?_
                      rotate_left
                      · (intro w' hSw; (try dsimp only at hSw); go_simp; try with_reducible rfl)
                      simp only [Act.put, List.getElem_toArray, List.getElem_cons_zero, List.getElem_cons_succ, List.setIfInBounds_toArray, List.set_cons_zero, List.set_cons_succ]
                      refine wpAnyH_take (i := 9) (v := ?_) rfl (by kernel_rfl) (by kernel_rfl) (by kernel_rfl) (fun _ _ _ h => h) (Or.inl ⟨by rfl, ?_⟩) (by assumption) ?_
                      rotate_left
                      · (intro w' hSw; (try dsimp only at hSw); go_simp; try with_reducible rfl)
                      simp only [Act.put, List.getElem_toArray, List.getElem_cons_zero, List.getElem_cons_succ, List.setIfInBounds_toArray, List.set_cons_zero, List.set_cons_succ]
                      refine wpAnyH_take (i := 10) (v := ?_) rfl (by kernel_rfl) (by kernel_rfl) (by kernel_rfl) (fun _ _ _ h => h) (Or.inl ⟨by rfl, ?_⟩) (by assumption) ?_
                      rotate_left
                      · (intro w' hSw; (try dsimp only at hSw); go_simp; try with_reducible rfl)
                      simp only [Act.put, List.getElem_toArray, List.getElem_cons_zero, List.getElem_cons_succ, List.setIfInBounds_toArray, List.set_cons_zero, List.set_cons_succ]
                      refine wpAnyH_ready (rs := [11]) (by kernel_rfl) (by simp) ?_
                      refine AllReadyH.cons rfl (fun K hK => ?_) AllReadyH.nil
                      go_simp
                      obtain ⟨Y3, hY3⟩ : ∃ V, Y2.alloc (.cells #[Value.int .i64 0, .int .i64 0, .int .i64 0, .int .u32 0, .int .u32 0, .int .u32 0, .int .i64 0, .int .i64 0, .slice none 0 0] 34) = V := ⟨_, rfl⟩
                      have u3 : Below Y2.heap.size Y2 Y3 := by rw [← hY3]; exact below_alloc1 _ _
                      have kz := Bk.mk hY3
                      have t_Y3 : Below wr.heap.size wr Y3 := t_Y2.trans (u3.mono t_Y2.size)
                      replace o8 := o8.step u3
                      obtain ⟨kf, hkt⟩ : ∃ q, Y2.heap.size = q := ⟨_, rfl⟩
                      rw [hkt] at kz
                      have ga : Hid (wr.heap.size ≤ kf) := Lib.hid (by rw [← hkt]; exact t_Y2.size)
                      try rw [hY3]
                      try rw [hkt]
                      clear hY3 hkt
                      refine hK.out _ _ (KS2.out _ t_Y3) (fun _ => ?_)
                      clear hK K
                      refine wpAnyH_ready (rs := [12]) (by kernel_rfl) (by simp) ?_
                      refine AllReadyH.cons rfl (fun K hK => ?_) AllReadyH.nil
                      have TW : Hid (Below wr.heap.size wr ((((((((((Y3).setCell ⟨kf, 0, none⟩ (.int .i64 x.h.a)).setCell ⟨kf, 1, none⟩ (.int .i64 x.h.o)).setCell ⟨kf, 2, none⟩ (.int .i64 x.h.t)).setCell ⟨kf, 3, none⟩ (.int .u32 x.h.i)).setCell ⟨kf, 4, none⟩ (.int .u32 x.h.v)).setCell ⟨kf, 5, none⟩ (.int .u32 x.h.q)).setCell ⟨kf, 6, none⟩ (.int .i64 x.h.s)).setCell ⟨kf, 7, none⟩ (.int .i64 x.h.n)).setCell ⟨kf, 8, none⟩ (.slice A8 x.l.length c8))) := Lib.hid (below_st9 t_Y3 ga.out (.int .i64 x.h.a) (.int .i64 x.h.o) (.int .i64 x.h.t) (.int .u32 x.h.i) (.int .u32 x.h.v) (.int .u32 x.h.q) (.int .i64 x.h.s) (.int .i64 x.h.n) (.slice A8 x.l.length c8))
                      have GW : Hid (Bk ((((((((((Y3).setCell ⟨kf, 0, none⟩ (.int .i64 x.h.a)).setCell ⟨kf, 1, none⟩ (.int .i64 x.h.o)).setCell ⟨kf, 2, none⟩ (.int .i64 x.h.t)).setCell ⟨kf, 3, none⟩ (.int .u32 x.h.i)).setCell ⟨kf, 4, none⟩ (.int .u32 x.h.v)).setCell ⟨kf, 5, none⟩ (.int .u32 x.h.q)).setCell ⟨kf, 6, none⟩ (.int .i64 x.h.s)).setCell ⟨kf, 7, none⟩ (.int .i64 x.h.n)).setCell ⟨kf, 8, none⟩ (.slice A8 x.l.length c8)) kf (.cells #[.int .i64 x.h.a, .int .i64 x.h.o, .int .i64 x.h.t, .int .u32 x.h.i, .int .u32 x.h.v, .int .u32 x.h.q, .int .i64 x.h.s, .int .i64 x.h.n, .slice A8 x.l.length c8] 34)) := Lib.hid (kz9_set kz (.int .i64 x.h.a) (.int .i64 x.h.o) (.int .i64 x.h.t) (.int .u32 x.h.i) (.int .u32 x.h.v) (.int .u32 x.h.q) (.int .i64 x.h.s) (.int .i64 x.h.n) (.slice A8 x.l.length c8))
                      have HQ8 : Hid (Bt ((((((((((Y3).setCell ⟨kf, 0, none⟩ (.int .i64 x.h.a)).setCell ⟨kf, 1, none⟩ (.int .i64 x.h.o)).setCell ⟨kf, 2, none⟩ (.int .i64 x.h.t)).setCell ⟨kf, 3, none⟩ (.int .u32 x.h.i)).setCell ⟨kf, 4, none⟩ (.int .u32 x.h.v)).setCell ⟨kf, 5, none⟩ (.int .u32 x.h.q)).setCell ⟨kf, 6, none⟩ (.int .i64 x.h.s)).setCell ⟨kf, 7, none⟩ (.int .i64 x.h.n)).setCell ⟨kf, 8, none⟩ (.slice A8 x.l.length c8)) A8 x.l) := Lib.hid (by
                        have bu : Bu Y3 ⟨x.h, A8, c8, x.l⟩ := Bu.of_own (x := ⟨x.h, A8, c8, x.l⟩) o8
                        have k9 := kp_stB Y3 kf (.int .i64 x.h.a) (.int .i64 x.h.o) (.int .i64 x.h.t) (.int .u32 x.h.i) (.int .u32 x.h.v) (.int .u32 x.h.q) (.int .i64 x.h.s) (.int .i64 x.h.n) (.slice A8 x.l.length c8)
                        exact (bu.keep k9.size fun b2 off2 e2 hl2 => k9.block b2 (bu.2 b2 off2 e2 hl2).1 (fun hb2 => by
                          obtain ⟨_, cur, mm, h2⟩ := bu.2 b2 off2 e2 hl2
                          rw [hb2, show Y3.heap[kf]? = _ from kz] at h2
                          injection h2 with h2
                          injection h2 with _ h3 _
                          exact absurd h3 (by decide))).1)
                      clear o8
                      obtain ⟨z0, z1, z2, z3, z4, z5, z6, z7, z8, g0, g1, g2, g3, g4, g5, g6, g7, g8, hzl⟩ := kz9_at kz
                      clear kz
                      go_simp
                      obtain ⟨ZX, hZX⟩ : ∃ V, ((((((((((Y3).setCell ⟨kf, 0, none⟩ (.int .i64 x.h.a)).setCell ⟨kf, 1, none⟩ (.int .i64 x.h.o)).setCell ⟨kf, 2, none⟩ (.int .i64 x.h.t)).setCell ⟨kf, 3, none⟩ (.int .u32 x.h.i)).setCell ⟨kf, 4, none⟩ (.int .u32 x.h.v)).setCell ⟨kf, 5, none⟩ (.int .u32 x.h.q)).setCell ⟨kf, 6, none⟩ (.int .i64 x.h.s)).setCell ⟨kf, 7, none⟩ (.int .i64 x.h.n)).setCell ⟨kf, 8, none⟩ (.slice A8 x.l.length c8)) = V := ⟨_, rfl⟩
                      rw [hZX] at TW GW HQ8 ⊢
                      clear z0 z1 z2 z3 z4 z5 z6 z7 z8 g0 g1 g2 g3 g4 g5 g6 g7 g8 hzl hZX
                      refine hK.out _ _ (KS2.out _ TW.out) (fun _ => ?_)
                      clear hK K
                      refine wpAnyH_ready (rs := [13]) (by kernel_rfl) (by simp) ?_
                      refine AllReadyH.cons rfl (fun K hK => ?_) AllReadyH.nil
                      go_simp
                      refine hK.out _ _ (KS2.out _ TW.out) (fun _ => ?_)
                      clear hK K
                      refine wpAnyH_done (by kernel_rfl) ?_ _
                      go_wp2
                      go_meet
                      case rel => exact ⟨kf, rfl, rfl, TW, Lib.hid ⟨A8, c8, GW.out, HQ8.out⟩⟩
                    refine AllReadyH.cons rfl (fun K hK => ?_) AllReadyH.nil
                    go_simp
                    obtain ⟨Y2, hY2⟩ : ∃ V, Y1.alloc (.cells #[Value.int .i64 0, .int .i64 0, .int .i64 0, .int .u32 0, .int .u32 0, .int .u32 0, .int .i64 0, .int .i64 0, .slice none 0 0] 34) = V := ⟨_, rfl⟩
                    have u2 : Below Y1.heap.size Y1 Y2 := by rw [← hY2]; exact below_alloc1 _ _
                    have kz := Bk.mk hY2
                    have t_Y2 : Below wr.heap.size wr Y2 := t_Y1.trans (u2.mono t_Y1.size)
                    obtain ⟨kf, hkt⟩ : ∃ q, Y1.heap.size = q := ⟨_, rfl⟩
                    rw [hkt] at kz
                    have ga : Hid (wr.heap.size ≤ kf) := Lib.hid (by rw [← hkt]; exact t_Y1.size)
                    try rw [hY2]
                    try rw [hkt]
                    clear hY2 hkt
                    refine hK.out _ _ (KS2.out _ t_Y2) (fun _ => ?_)
                    clear hK K
                    refine wpAnyH_ready (rs := [7]) (by kernel_rfl) (by simp) ?_
                    refine AllReadyH.cons rfl (fun K hK => ?_) AllReadyH.nil
                    go_simp
                    go_at_call 8
                    refine (CFd Y2 t_Y2).mono ?_
                    rintro e Y3 ⟨A8, c8, rfl, o8, u3⟩
                    have t_Y3 : Below wr.heap.size wr Y3 := t_Y2.trans (u3.mono t_Y2.size)
                    replace kz := kz.step u3
                    refine hK.out _ _ (KS2.out _ t_Y3) (fun _ => ?_)
                    clear hK K
                    refine wpAnyH_take (i := 8) (v := ?_) rfl (by kernel_rfl) (by kernel_rfl) (by kernel_rfl) (fun _ _ _ h => h) (Or.inl ⟨by rfl, ?_⟩) (by assumption) ?_
                    rotate_left
                    · (intro w' hSw; (try dsimp only at hSw); go_simp; try with_reducible rfl)
                    simp only [Act.put, List.getElem_toArray, List.getElem_cons_zero, List.getElem_cons_succ, List.setIfInBounds_toArray, List.set_cons_zero, List.set_cons_succ]
                    refine wpAnyH_take (i := 9) (v := ?_) rfl (by kernel_rfl) (by kernel_rfl) (by kernel_rfl) (fun _ _ _ h => h) (Or.inl ⟨by rfl, ?_⟩) (by assumption) ?_
                    rotate_left
                    · (intro w' hSw; (try dsimp only at hSw); go_simp; try with_reducible rfl)
                    simp only [Act.put, List.getElem_toArray, List.getElem_cons_zero, List.getElem_cons_succ, List.setIfInBounds_toArray, List.set_cons_zero, List.set_cons_succ]
                    refine wpAnyH_take (i := 10) (v := ?_) rfl (by kernel_rfl) (by kernel_rfl) (by kernel_rfl) (fun _ _ _ h => h) (Or.inl ⟨by rfl, ?_⟩) (by assumption) ?_
                    rotate_left
                    · (intro w' hSw; (try dsimp only at hSw); go_simp; try with_reducible rfl)
                    simp only [Act.put, List.getElem_toArray, List.getElem_cons_zero, List.getElem_cons_succ, List.setIfInBounds_toArray, List.set_cons_zero, List.set_cons_succ]
                    refine wpAnyH_ready (rs := [12]) (by kernel_rfl) (by simp) ?_
                    refine AllReadyH.cons rfl (fun K hK => ?_) AllReadyH.nil
                    have TW : Hid (Below wr.heap.size wr ((((((((((Y3).setCell ⟨kf, 0, none⟩ (.int .i64 x.h.a)).setCell ⟨kf, 1, none⟩ (.int .i64 x.h.o)).setCell ⟨kf, 2, none⟩ (.int .i64 x.h.t)).setCell ⟨kf, 3, none⟩ (.int .u32 x.h.i)).setCell ⟨kf, 4, none⟩ (.int .u32 x.h.v)).setCell ⟨kf, 5, none⟩ (.int .u32 x.h.q)).setCell ⟨kf, 6, none⟩ (.int .i64 x.h.s)).setCell ⟨kf, 7, none⟩ (.int .i64 x.h.n)).setCell ⟨kf, 8, none⟩ (.slice A8 x.l.length c8))) := Lib.hid (below_st9 t_Y3 ga.out (.int .i64 x.h.a) (.int .i64 x.h.o) (.int .i64 x.h.t) (.int .u32 x.h.i) (.int .u32 x.h.v) (.int .u32 x.h.q) (.int .i64 x.h.s) (.int .i64 x.h.n) (.slice A8 x.l.length c8))
                    have GW : Hid (Bk ((((((((((Y3).setCell ⟨kf, 0, none⟩ (.int .i64 x.h.a)).setCell ⟨kf, 1, none⟩ (.int .i64 x.h.o)).setCell ⟨kf, 2, none⟩ (.int .i64 x.h.t)).setCell ⟨kf, 3, none⟩ (.int .u32 x.h.i)).setCell ⟨kf, 4, none⟩ (.int .u32 x.h.v)).setCell ⟨kf, 5, none⟩ (.int .u32 x.h.q)).setCell ⟨kf, 6, none⟩ (.int .i64 x.h.s)).setCell ⟨kf, 7, none⟩ (.int .i64 x.h.n)).setCell ⟨kf, 8, none⟩ (.slice A8 x.l.length c8)) kf (.cells #[.int .i64 x.h.a, .int .i64 x.h.o, .int .i64 x.h.t, .int .u32 x.h.i, .int .u32 x.h.v, .int .u32 x.h.q, .int .i64 x.h.s, .int .i64 x.h.n, .slice A8 x.l.length c8] 34)) := Lib.hid (kz9_set kz (.int .i64 x.h.a) (.int .i64 x.h.o) (.int .i64 x.h.t) (.int .u32 x.h.i) (.int .u32 x.h.v) (.int .u32 x.h.q) (.int .i64 x.h.s) (.int .i64 x.h.n) (.slice A8 x.l.length c8))
                    have HQ8 : Hid (Bt ((((((((((Y3).setCell ⟨kf, 0, none⟩ (.int .i64 x.h.a)).setCell ⟨kf, 1, none⟩ (.int .i64 x.h.o)).setCell ⟨kf, 2, none⟩ (.int .i64 x.h.t)).setCell ⟨kf, 3, none⟩ (.int .u32 x.h.i)).setCell ⟨kf, 4, none⟩ (.int .u32 x.h.v)).setCell ⟨kf, 5, none⟩ (.int .u32 x.h.q)).setCell ⟨kf, 6, none⟩ (.int .i64 x.h.s)).setCell ⟨kf, 7, none⟩ (.int .i64 x.h.n)).setCell ⟨kf, 8, none⟩ (.slice A8 x.l.length c8)) A8 x.l) := Lib.hid (by
                      have bu : Bu Y3 ⟨x.h, A8, c8, x.l⟩ := Bu.of_own (x := ⟨x.h, A8, c8, x.l⟩) o8
                      have k9 := kp_stB Y3 kf (.int .i64 x.h.a) (.int .i64 x.h.o) (.int .i64 x.h.t) (.int .u32 x.h.i) (.int .u32 x.h.v) (.int .u32 x.h.q) (.int .i64 x.h.s) (.int .i64 x.h.n) (.slice A8 x.l.length c8)
                      exact (bu.keep k9.size fun b2 off2 e2 hl2 => k9.block b2 (bu.2 b2 off2 e2 hl2).1 (fun hb2 => by
                        obtain ⟨_, cur, mm, h2⟩ := bu.2 b2 off2 e2 hl2
                        rw [hb2, show Y3.heap[kf]? = _ from kz] at h2
                        injection h2 with h2
                        injection h2 with _ h3 _
                        exact absurd h3 (by decide))).1)
                    clear o8
                    obtain ⟨z0, z1, z2, z3, z4, z5, z6, z7, z8, g0, g1, g2, g3, g4, g5, g6, g7, g8, hzl⟩ := kz9_at kz
                    clear kz
                    go_simp
                    obtain ⟨ZX, hZX⟩ : ∃ V, ((((((((((Y3).setCell ⟨kf, 0, none⟩ (.int .i64 x.h.a)).setCell ⟨kf, 1, none⟩ (.int .i64 x.h.o)).setCell ⟨kf, 2, none⟩ (.int .i64 x.h.t)).setCell ⟨kf, 3, none⟩ (.int .u32 x.h.i)).setCell ⟨kf, 4, none⟩ (.int .u32 x.h.v)).setCell ⟨kf, 5, none⟩ (.int .u32 x.h.q)).setCell ⟨kf, 6, none⟩ (.int .i64 x.h.s)).setCell ⟨kf, 7, none⟩ (.int .i64 x.h.n)).setCell ⟨kf, 8, none⟩ (.slice A8 x.l.length c8)) = V := ⟨_, rfl⟩
                    rw [hZX] at TW GW HQ8 ⊢
                    clear z0 z1 z2 z3 z4 z5 z6 z7 z8 g0 g1 g2 g3 g4 g5 g6 g7 g8 hzl hZX
                    refine hK.out _ _ (KS2.out _ TW.out) (fun _ => ?_)
                    clear hK K
                    refine wpAnyH_ready (rs := [13]) (by kernel_rfl) (by simp) ?_
                    refine AllReadyH.cons rfl (fun K hK => ?_) AllReadyH.nil
                    go_simp
                    refine hK.out _ _ (KS2.out _ TW.out) (fun _ => ?_)
                    clear hK K
                    refine wpAnyH_done (by kernel_rfl) ?_ _
                    go_wp2
                    go_meet
                    case rel => exact ⟨kf, rfl, rfl, TW, Lib.hid ⟨A8, c8, GW.out, HQ8.out⟩⟩
                  refine AllReadyH.cons rfl (fun K hK => ?_) AllReadyH.nil
                  go_simp
                  obtain ⟨Y1, hY1⟩ : ∃ V, X0.alloc (.cells #[Value.int .i64 0, .int .i64 0, .int .i64 0, .int .u32 0, .int .u32 0, .int .u32 0, .int .i64 0, .int .i64 0, .slice none 0 0] 34) = V := ⟨_, rfl⟩
                  have u1 : Below X0.heap.size X0 Y1 := by rw [← hY1]; exact below_alloc1 _ _
                  have kz := Bk.mk hY1
                  have t_Y1 : Below wr.heap.size wr Y1 := tt.trans (u1.mono tt.size)
                  obtain ⟨kf, hkt⟩ : ∃ q, X0.heap.size = q := ⟨_, rfl⟩
                  rw [hkt] at kz
                  have ga : Hid (wr.heap.size ≤ kf) := Lib.hid (by rw [← hkt]; exact tt.size)
                  try rw [hY1]
                  try rw [hkt]
                  clear hY1 hkt
                  refine hK.out _ _ (KS2.out _ t_Y1) (fun _ => ?_)
                  clear hK K
                  refine wpAnyH_ready (rs := [6]) (by kernel_rfl) (by simp) ?_
                  refine AllReadyH.cons rfl (fun K hK => ?_) AllReadyH.nil
                  go_simp
                  go_at_call 9
                  refine (key_any x.h Y1).mono ?_
                  rintro e Y2 ⟨rfl, u2⟩
                  have t_Y2 : Below wr.heap.size wr Y2 := t_Y1.trans (u2.mono t_Y1.size)
                  replace kz := kz.step u2
                  refine hK.out _ _ (KS2.out _ t_Y2) (fun _ => ?_)
                  clear hK K
                  refine wpAnyH_ready (rs := [7]) (by kernel_rfl) (by simp) ?_
                  refine AllReadyH.cons rfl (fun K hK => ?_) AllReadyH.nil
                  go_simp
                  go_at_call 8
                  refine (CFd Y2 t_Y2).mono ?_
                  rintro e Y3 ⟨A8, c8, rfl, o8, u3⟩
                  have t_Y3 : Below wr.heap.size wr Y3 := t_Y2.trans (u3.mono t_Y2.size)
                  replace kz := kz.step u3
                  refine hK.out _ _ (KS2.out _ t_Y3) (fun _ => ?_)
                  clear hK K
                  refine wpAnyH_take (i := 8) (v := ?_) rfl (by kernel_rfl) (by kernel_rfl) (by kernel_rfl) (fun _ _ _ h => h) (Or.inl ⟨by rfl, ?_⟩) (by assumption) ?_
                  rotate_left
                  · (intro w' hSw; (try dsimp only at hSw); go_simp; try with_reducible rfl)
                  simp only [Act.put, List.getElem_toArray, List.getElem_cons_zero, List.getElem_cons_succ, List.setIfInBounds_toArray, List.set_cons_zero, List.set_cons_succ]
                  refine wpAnyH_take (i := 9) (v := ?_) rfl (by kernel_rfl) (by kernel_rfl) (by kernel_rfl) (fun _ _ _ h => h) (Or.inl ⟨by rfl, ?_⟩) (by assumption) ?_
                  rotate_left
                  · (intro w' hSw; (try dsimp only at hSw); go_simp; try with_reducible rfl)
                  simp only [Act.put, List.getElem_toArray, List.getElem_cons_zero, List.getElem_cons_succ, List.setIfInBounds_toArray, List.set_cons_zero, List.set_cons_succ]
                  refine wpAnyH_take (i := 10) (v := ?_) rfl (by kernel_rfl) (by kernel_rfl) (by kernel_rfl) (fun _ _ _ h => h) (Or.inl ⟨by rfl, ?_⟩) (by assumption) ?_
                  rotate_left
                  · (intro w' hSw; (try dsimp only at hSw); go_simp; try with_reducible rfl)
                  simp only [Act.put, List.getElem_toArray, List.getElem_cons_zero, List.getElem_cons_succ, List.setIfInBounds_toArray, List.set_cons_zero, List.set_cons_succ]
                  refine wpAnyH_ready (rs := [12]) (by kernel_rfl) (by simp) ?_
                  refine AllReadyH.cons rfl (fun K hK => ?_) AllReadyH.nil
                  have TW : Hid (Below wr.heap.size wr ((((((((((Y3).setCell ⟨kf, 0, none⟩ (.int .i64 x.h.a)).setCell ⟨kf, 1, none⟩ (.int .i64 x.h.o)).setCell ⟨kf, 2, none⟩ (.int .i64 x.h.t)).setCell ⟨kf, 3, none⟩ (.int .u32 x.h.i)).setCell ⟨kf, 4, none⟩ (.int .u32 x.h.v)).setCell ⟨kf, 5, none⟩ (.int .u32 x.h.q)).setCell ⟨kf, 6, none⟩ (.int .i64 x.h.s)).setCell ⟨kf, 7, none⟩ (.int .i64 x.h.n)).setCell ⟨kf, 8, none⟩ (.slice A8 x.l.length c8))) := Lib.hid (below_st9 t_Y3 ga.out (.int .i64 x.h.a) (.int .i64 x.h.o) (.int .i64 x.h.t) (.int .u32 x.h.i) (.int .u32 x.h.v) (.int .u32 x.h.q) (.int .i64 x.h.s) (.int .i64 x.h.n) (.slice A8 x.l.length c8))
                  have GW : Hid (Bk ((((((((((Y3).setCell ⟨kf, 0, none⟩ (.int .i64 x.h.a)).setCell ⟨kf, 1, none⟩ (.int .i64 x.h.o)).setCell ⟨kf, 2, none⟩ (.int .i64 x.h.t)).setCell ⟨kf, 3, none⟩ (.int .u32 x.h.i)).setCell ⟨kf, 4, none⟩ (.int .u32 x.h.v)).setCell ⟨kf, 5, none⟩ (.int .u32 x.h.q)).setCell ⟨kf, 6, none⟩ (.int .i64 x.h.s)).setCell ⟨kf, 7, none⟩ (.int .i64 x.h.n)).setCell ⟨kf, 8, none⟩ (.slice A8 x.l.length c8)) kf (.cells #[.int .i64 x.h.a, .int .i64 x.h.o, .int .i64 x.h.t, .int .u32 x.h.i, .int .u32 x.h.v, .int .u32 x.h.q, .int .i64 x.h.s, .int .i64 x.h.n, .slice A8 x.l.length c8] 34)) := Lib.hid (kz9_set kz (.int .i64 x.h.a) (.int .i64 x.h.o) (.int .i64 x.h.t) (.int .u32 x.h.i) (.int .u32 x.h.v) (.int .u32 x.h.q) (.int .i64 x.h.s) (.int .i64 x.h.n) (.slice A8 x.l.length c8))
                  have HQ8 : Hid (Bt ((((((((((Y3).setCell ⟨kf, 0, none⟩ (.int .i64 x.h.a)).setCell ⟨kf, 1, none⟩ (.int .i64 x.h.o)).setCell ⟨kf, 2, none⟩ (.int .i64 x.h.t)).setCell ⟨kf, 3, none⟩ (.int .u32 x.h.i)).setCell ⟨kf, 4, none⟩ (.int .u32 x.h.v)).setCell ⟨kf, 5, none⟩ (.int .u32 x.h.q)).setCell ⟨kf, 6, none⟩ (.int .i64 x.h.s)).setCell ⟨kf, 7, none⟩ (.int .i64 x.h.n)).setCell ⟨kf, 8, none⟩ (.slice A8 x.l.length c8)) A8 x.l) := Lib.hid (by
                    have bu : Bu Y3 ⟨x.h, A8, c8, x.l⟩ := Bu.of_own (x := ⟨x.h, A8, c8, x.l⟩) o8
                    have k9 := kp_stB Y3 kf (.int .i64 x.h.a) (.int .i64 x.h.o) (.int .i64 x.h.t) (.int .u32 x.h.i) (.int .u32 x.h.v) (.int .u32 x.h.q) (.int .i64 x.h.s) (.int .i64 x.h.n) (.slice A8 x.l.length c8)
                    exact (bu.keep k9.size fun b2 off2 e2 hl2 => k9.block b2 (bu.2 b2 off2 e2 hl2).1 (fun hb2 => by
                      obtain ⟨_, cur, mm, h2⟩ := bu.2 b2 off2 e2 hl2
                      rw [hb2, show Y3.heap[kf]? = _ from kz] at h2
                      injection h2 with h2
                      injection h2 with _ h3 _
                      exact absurd h3 (by decide))).1)
                  clear o8
                  obtain ⟨z0, z1, z2, z3, z4, z5, z6, z7, z8, g0, g1, g2, g3, g4, g5, g6, g7, g8, hzl⟩ := kz9_at kz
                  clear kz
                  go_simp
                  obtain ⟨ZX, hZX⟩ : ∃ V, ((((((((((Y3).setCell ⟨kf, 0, none⟩ (.int .i64 x.h.a)).setCell ⟨kf, 1, none⟩ (.int .i64 x.h.o)).setCell ⟨kf, 2, none⟩ (.int .i64 x.h.t)).setCell ⟨kf, 3, none⟩ (.int .u32 x.h.i)).setCell ⟨kf, 4, none⟩ (.int .u32 x.h.v)).setCell ⟨kf, 5, none⟩ (.int .u32 x.h.q)).setCell ⟨kf, 6, none⟩ (.int .i64 x.h.s)).setCell ⟨kf, 7, none⟩ (.int .i64 x.h.n)).setCell ⟨kf, 8, none⟩ (.slice A8 x.l.length c8)) = V := ⟨_, rfl⟩
                  rw [hZX] at TW GW HQ8 ⊢
                  clear z0 z1 z2 z3 z4 z5 z6 z7 z8 g0 g1 g2 g3 g4 g5 g6 g7 g8 hzl hZX
                  refine hK.out _ _ (KS2.out _ TW.out) (fun _ => ?_)
                  clear hK K
                  refine wpAnyH_ready (rs := [13]) (by kernel_rfl) (by simp) ?_
                  refine AllReadyH.cons rfl (fun K hK => ?_) AllReadyH.nil
                  go_simp
                  refine hK.out _ _ (KS2.out _ TW.out) (fun _ => ?_)
                  clear hK K
                  refine wpAnyH_done (by kernel_rfl) ?_ _
                  go_wp2
                  go_meet
                  case rel => exact ⟨kf, rfl, rfl, TW, Lib.hid ⟨A8, c8, GW.out, HQ8.out⟩⟩
                case rest =>
                  obtain ⟨kf, rfl, rfl, T2, HF2⟩ := hcut
                  obtain ⟨A8, c8, gf8, q8⟩ := HF2.out
                  obtain ⟨-, e0, e1, e2, e3, e4, e5, e6, e7, e8⟩ := KS2.out _ T2.out
                  obtain ⟨a0, a1, a2, a3, a4, a5, a6, a7, a8, -⟩ := kz9_at gf8
                  have qx := HBX.out.step (T1.out.trans ((hbj.out.trans (T2.out.mono hbj.out.size)).mono T1.out.size))
                  clear CFd KS2 HF2 gf8
                  go_upto_region 19 with fail
                  refine wp_region_quiet_below (by kernel_rfl) (by kernel_rfl) ?_
                  have gg0 := cell_regrown e0
                  have gg1 := cell_regrown e1
                  have gg2 := cell_regrown e2
                  have gg3 := cell_regrown e3
                  have gg4 := cell_regrown e4
                  have gg5 := cell_regrown e5
                  have gg6 := cell_regrown e6
                  have gg7 := cell_regrown e7
                  have gg8 := cell_regrown e8
                  have gg9 := cell_regrown a0
                  have gg10 := cell_regrown a1
                  have gg11 := cell_regrown a2
                  have gg12 := cell_regrown a3
                  have gg13 := cell_regrown a4
                  have gg14 := cell_regrown a5
                  have gg15 := cell_regrown a6
                  have gg16 := cell_regrown a7
                  have gg17 := cell_regrown a8
                  have zz0 : ∀ d os, _ := fun d os => Calls.regrown_of (w := wc) (d := d) (os := os) (same_any x.h A8 x.A x.l.length c8 x.c x.l _ rfl (q8.step (below_regrown wc d os)) (qx.step (below_regrown wc d os)))
                  repeat (first | go_big_quiet_step (with_reducible exact zz0 _ _) | go_big_quiet_step (fail) | go_big_quiet_skip)
                  refine wpQuiet_nil ?_
                  intro W9 hw'
                  obtain ⟨⟨dq, osq⟩, hw''⟩ := hw'
                  have hbz := below_regrown wc dq osq
                  rw [← hw''] at hbz
                  clear hw'' gg0 gg1 gg2 gg3 gg4 gg5 gg6 gg7 gg8 gg9 gg10 gg11 gg12 gg13 gg14 gg15 gg16 gg17 zz0 
                  have T3 := Lib.hid (T2.out.trans (hbz.mono T2.out.size))
                  clear e0 e1 e2 e3 e4 e5 e6 e7 e8 a0 a1 a2 a3 a4 a5 a6 a7 a8 hbz q8 qx
                  have GTw := Lib.hid ((HGT.out.step hbj.out).step T3.out)
                  have GSw := Lib.hid ((HST.out.step hbj.out).step T3.out)
                  have HAw := Lib.hid ((HAP.out.step hbj.out).step T3.out)
                  have HBw := Lib.hid ((HB1.out.trans (hbj.out.mono HB1.out.size)).trans (T3.out.mono (HB1.out.trans (hbj.out.mono HB1.out.size)).size))
                  have HJ : Hid (SJ w m ka (k + 1) ((((W9).setCell ⟨ka, 0, none⟩ (.int .i64 m)).setCell ⟨ka, 1, none⟩ (.slice Ap np cp)).setCell ⟨ka, 2, none⟩ (.bool Ro))) := Lib.hid ⟨⟨Ap, np, cp, Ro, Lp, kz3_set GSw.out _ _ _, HNP.out, ((HAw.out.set GSw.out (by decide) (by decide) (.int .i64 m)).set (i := 1) (Bk.set3 (i := 0) GSw.out) (by decide) (by decide) (.slice Ap np cp)).set (i := 2) (Bk.set3 (i := 1) (Bk.set3 (i := 0) GSw.out)) (by decide) (by decide) (.bool Ro), by rw [HCP.out]; exact HVP.out, hpm⟩, below_st3 HBw.out hks _ _ _, hks⟩
                  obtain ⟨t0, t1, t2, -⟩ := kz3_at GTw.out
                  obtain ⟨s0, s1, s2, f0, f1, f2, hsl⟩ := kz3_at GSw.out
                  go_wp2
                  go_roundg gf
                  case measure => omega
                  case rel => exact ⟨k + 1, by go_num, Lib.hid (by omega), HJ⟩
              · have hcase : Re = 0 → ¬ 2 ≤ Rk := fun h1 h2 => h17 ⟨h1, h2⟩
                clear s0 s1 s2 GSj
                have GTw := Lib.hid (HGT.out.step hbj.out)
                have GSw := Lib.hid (HST.out.step hbj.out)
                have HAw := Lib.hid (HAP.out.step hbj.out)
                have HBw := Lib.hid (HB1.out.trans (hbj.out.mono HB1.out.size))
                by_cases h0e : Re = 0
                · have h2k := hcase h0e
                  have hge : ¬ Rk ≥ 2 := h2k
                  have hs1 : Bk wr ka _ := GSw.out
                  obtain ⟨s0, s1, s2, -⟩ := kz3_at hs1
                  subst h0e
                  clear hcase h17
                  have HJ : Hid (SJ w m ka (k + 1) ((((wr).setCell ⟨ka, 0, none⟩ (.int .i64 m)).setCell ⟨ka, 1, none⟩ (.slice Ap np cp)).setCell ⟨ka, 2, none⟩ (.bool Ro))) := Lib.hid ⟨⟨Ap, np, cp, Ro, Lp, kz3_set GSw.out _ _ _, HNP.out, ((HAw.out.set GSw.out (by decide) (by decide) (.int .i64 m)).set (i := 1) (Bk.set3 (i := 0) GSw.out) (by decide) (by decide) (.slice Ap np cp)).set (i := 2) (Bk.set3 (i := 1) (Bk.set3 (i := 0) GSw.out)) (by decide) (by decide) (.bool Ro), by rw [HCP.out]; exact HVP.out, hpm⟩, below_st3 HBw.out hks _ _ _, hks⟩
                  obtain ⟨t0, t1, t2, -⟩ := kz3_at GTw.out
                  obtain ⟨s0, s1, s2, f0, f1, f2, hsl⟩ := kz3_at GSw.out
                  go_wp2
                  go_roundg gf
                  case measure => omega
                  case rel => exact ⟨k + 1, by go_num, Lib.hid (by omega), HJ⟩
                · have hne : (Re == 0) = false := by simpa using h0e
                  obtain ⟨s0, s1, s2, -⟩ := kz3_at GSw.out
                  clear hcase h17
                  have HJ : Hid (SJ w m ka (k + 1) ((((wr).setCell ⟨ka, 0, none⟩ (.int .i64 m)).setCell ⟨ka, 1, none⟩ (.slice Ap np cp)).setCell ⟨ka, 2, none⟩ (.bool Ro))) := Lib.hid ⟨⟨Ap, np, cp, Ro, Lp, kz3_set GSw.out _ _ _, HNP.out, ((HAw.out.set GSw.out (by decide) (by decide) (.int .i64 m)).set (i := 1) (Bk.set3 (i := 0) GSw.out) (by decide) (by decide) (.slice Ap np cp)).set (i := 2) (Bk.set3 (i := 1) (Bk.set3 (i := 0) GSw.out)) (by decide) (by decide) (.bool Ro), by rw [HCP.out]; exact HVP.out, hpm⟩, below_st3 HBw.out hks _ _ _, hks⟩
                  obtain ⟨t0, t1, t2, -⟩ := kz3_at GTw.out
                  obtain ⟨s0, s1, s2, f0, f1, f2, hsl⟩ := kz3_at GSw.out
                  go_wp2
                  go_roundg gf
                  case measure => omega
                  case rel => exact ⟨k + 1, by go_num, Lib.hid (by omega), HJ⟩
            | succ gf2 =>
              have hjl : j < Ls.length := by rw [HLS.out]; omega
              have ltj : (j : Int) < (ns : Int) := by omega
              have hwj : (j : Int) + 1 ≤ 10000 := by omega
              have hz := HKE.out _ (List.mem_map.2 ⟨_, ag_mem hjl, rfl⟩)
              have HSZ := Lib.hid (HVS.out.e _ (List.mem_map.2 ⟨_, ag_mem hjl, rfl⟩))
              obtain ⟨gS, hgS⟩ := HAS.out.some_of (by omega)
              have hasj := (HAS.out.step T1.out).step hbj.out
              rw [hgS] at hasj GSj s1
              have HHZ : Hid (∀ V, Below wr.heap.size wr V → V.cell? ⟨gS, j * 9, none⟩ = some (.int .i64 (ag Ls j).h.a) ∧ V.cell? ⟨gS, j * 9 + 1, none⟩ = some (.int .i64 (ag Ls j).h.o) ∧ V.cell? ⟨gS, j * 9 + 2, none⟩ = some (.int .i64 (ag Ls j).h.t) ∧ V.cell? ⟨gS, j * 9 + 3, none⟩ = some (.int .u32 (ag Ls j).h.i) ∧ V.cell? ⟨gS, j * 9 + 4, none⟩ = some (.int .u32 (ag Ls j).h.v) ∧ V.cell? ⟨gS, j * 9 + 5, none⟩ = some (.int .u32 (ag Ls j).h.q) ∧ V.cell? ⟨gS, j * 9 + 6, none⟩ = some (.int .i64 (ag Ls j).h.s) ∧ V.cell? ⟨gS, j * 9 + 7, none⟩ = some (.int .i64 (ag Ls j).h.n)) := Lib.hid (fun V hV => by
                have h1 := hasj.step hV
                obtain ⟨q0, q1, q2, q3, q4, q5, q6, q7, q8, -⟩ := rg_at h1.row_of.2 hjl
                exact ⟨q0, q1, q2, q3, q4, q5, q6, q7⟩)
              obtain ⟨z, hzz⟩ : ∃ z, (ag Ls j).h = z := ⟨_, rfl⟩
              have hcz : (con (ag Ls j)).1 = z := hzz
              rw [hcz] at hz
              obtain ⟨zh, zl, hfz⟩ : ∃ p q, fnd RC z = (p, q) := ⟨_, _, rfl⟩
              obtain ⟨zn, hzn⟩ : ∃ zn, zl.length = zn := ⟨_, rfl⟩
              rw [hfz] at hz
              have HZ := Lib.hid hz
              have HZQ : Hid ((0 ≤ z.q ∧ z.q < 4294967296) ∧ (0 ≤ z.a ∧ z.a ≤ 3600)) := Lib.hid (by
                have h1 := HSZ.out.sok
                exact ⟨by rw [← hcz]; exact h1.q, by rw [← hcz]; exact h1.a⟩)
              rw [hzz] at HHZ
              have hfk : isin RC z = true := hz.1
              have CFd := fun V (hV : Below wr.heap.size wr V) => sfind_any z m Ap np cp Ro Lp V HNP.out ((HAP.out.step hbj.out).step hV).arr (by omega) (fun y hy => by
                have h2 := (HVP.out.e (con y) (by rw [← HCP.out]; exact List.mem_map.2 ⟨_, hy, rfl⟩)).sok.n
                simp only [con] at h2
                omega)
              simp only [FP, HCP.out, hfk, hfz, hzn] at CFd
              have GTj := Lib.hid (HGT.out.step hbj.out)
              have KS2 : Hid (∀ V, Below wr.heap.size wr V → (V.cell? ⟨kt, 0, none⟩ = some (.int .i64 m) ∧ V.cell? ⟨kt, 1, none⟩ = some (.slice Ap np cp) ∧ V.cell? ⟨kt, 2, none⟩ = some (.bool Ro)) ∧ (V.cell? ⟨ka, 0, none⟩ = some (.int .i64 m) ∧ V.cell? ⟨ka, 1, none⟩ = some (.slice (some ⟨gS, 0, none⟩) ns cs) ∧ V.cell? ⟨ka, 2, none⟩ = some (.bool os)) ∧ (V.cell? ⟨gS, j * 9, none⟩ = some (.int .i64 z.a) ∧ V.cell? ⟨gS, j * 9 + 1, none⟩ = some (.int .i64 z.o) ∧ V.cell? ⟨gS, j * 9 + 2, none⟩ = some (.int .i64 z.t) ∧ V.cell? ⟨gS, j * 9 + 3, none⟩ = some (.int .u32 z.i) ∧ V.cell? ⟨gS, j * 9 + 4, none⟩ = some (.int .u32 z.v) ∧ V.cell? ⟨gS, j * 9 + 5, none⟩ = some (.int .u32 z.q) ∧ V.cell? ⟨gS, j * 9 + 6, none⟩ = some (.int .i64 z.s) ∧ V.cell? ⟨gS, j * 9 + 7, none⟩ = some (.int .i64 z.n))) := Lib.hid (fun V hV => by
                obtain ⟨q0, q1, q2, -⟩ := kz3_at (GTj.out.step hV)
                obtain ⟨p0, p1, p2, -⟩ := kz3_at (GSj.step hV)
                exact ⟨⟨q0, q1, q2⟩, ⟨p0, p1, p2⟩, HHZ.out V hV⟩)
              clear hz hzz hcz hasj HSZ hfk hfz hzn
              go_upto_region 14 with fail
              go_cut [12, 13] (fun v12 v13 wx => ∃ kf : Nat, v12 = .pointer (some ⟨kf, 0, none⟩) ∧ v13 = .bool true ∧ Hid (Below wr.heap.size wr wx) ∧ Hid (∃ A8 c8, Bk wx kf (.cells #[.int .i64 zh.a, .int .i64 zh.o, .int .i64 zh.t, .int .u32 zh.i, .int .u32 zh.v, .int .u32 zh.q, .int .i64 zh.s, .int .i64 zh.n, .slice A8 zn c8] 34)))
              case first =>
                have tt : Below wr.heap.size wr wr := Below.refl _ _
                refine wp_region_held_drew (S := fun V => (V.cell? ⟨kt, 0, none⟩ = some (.int .i64 m) ∧ V.cell? ⟨kt, 1, none⟩ = some (.slice Ap np cp) ∧ V.cell? ⟨kt, 2, none⟩ = some (.bool Ro)) ∧ (V.cell? ⟨ka, 0, none⟩ = some (.int .i64 m) ∧ V.cell? ⟨ka, 1, none⟩ = some (.slice (some ⟨gS, 0, none⟩) ns cs) ∧ V.cell? ⟨ka, 2, none⟩ = some (.bool os)) ∧ (V.cell? ⟨gS, j * 9, none⟩ = some (.int .i64 z.a) ∧ V.cell? ⟨gS, j * 9 + 1, none⟩ = some (.int .i64 z.o) ∧ V.cell? ⟨gS, j * 9 + 2, none⟩ = some (.int .i64 z.t) ∧ V.cell? ⟨gS, j * 9 + 3, none⟩ = some (.int .u32 z.i) ∧ V.cell? ⟨gS, j * 9 + 4, none⟩ = some (.int .u32 z.v) ∧ V.cell? ⟨gS, j * 9 + 5, none⟩ = some (.int .u32 z.q) ∧ V.cell? ⟨gS, j * 9 + 6, none⟩ = some (.int .i64 z.s) ∧ V.cell? ⟨gS, j * 9 + 7, none⟩ = some (.int .i64 z.n))) (by kernel_rfl) (KS2.out _ tt.drew) (fun hHeld => ?_)
                replace tt : Below wr.heap.size wr wr.drew := tt.drew
                generalize hX0 : wr.drew = X0 at tt  hHeld ⊢
                clear hX0
                refine wpAnyH_take (i := 0) (v := ?_) rfl (by kernel_rfl) (by kernel_rfl) (by kernel_rfl) (fun _ _ _ h => h) (Or.inl ⟨by rfl, ?_⟩) (by assumption) ?_
                rotate_left
                · (intro w' hSw; (try dsimp only at hSw); go_simp; try with_reducible rfl)
                simp only [Act.put, List.getElem_toArray, List.getElem_cons_zero, List.setIfInBounds_toArray, List.set_cons_zero, List.set_cons_succ]
                refine wpAnyH_take (i := 1) (v := ?_) rfl (by kernel_rfl) (by kernel_rfl) (by kernel_rfl) (fun _ _ _ h => h) (Or.inl ⟨by rfl, ?_⟩) (by assumption) ?_
                rotate_left
                · (intro w' hSw; (try dsimp only at hSw); go_simp; try with_reducible rfl)
                simp only [Act.put, List.getElem_toArray, List.getElem_cons_zero, List.getElem_cons_succ, List.setIfInBounds_toArray, List.set_cons_zero, List.set_cons_succ]
                refine wpAnyH_take (i := 2) (v := ?_) rfl (by kernel_rfl) (by kernel_rfl) (by kernel_rfl) (fun _ _ _ h => h) (Or.inl ⟨by rfl, ?_⟩) (by assumption) ?_
                rotate_left
                · (intro w' hSw; (try dsimp only at hSw); go_simp; try with_reducible rfl)
                simp only [Act.put, List.getElem_toArray, List.getElem_cons_zero, List.getElem_cons_succ, List.setIfInBounds_toArray, List.set_cons_zero, List.set_cons_succ]
                refine wpAnyH_take (i := 3) (v := ?_) rfl (by kernel_rfl) (by kernel_rfl) (by kernel_rfl) (fun _ _ _ h => h) (Or.inl ⟨by rfl, ?_⟩) (by assumption) ?_
                rotate_left
                · (intro w' hSw; (try dsimp only at hSw); go_simp; try with_reducible rfl)
                simp only [Act.put, List.getElem_toArray, List.getElem_cons_zero, List.getElem_cons_succ, List.setIfInBounds_toArray, List.set_cons_zero, List.set_cons_succ]
                refine wpAnyH_take (i := 4) (v := ?_) rfl (by kernel_rfl) (by kernel_rfl) (by kernel_rfl) (fun _ _ _ h => h) (Or.inl ⟨by rfl, ?_⟩) (by assumption) ?_
                rotate_left
                · (intro w' hSw; (try dsimp only at hSw); go_simp; try with_reducible rfl)
                simp only [Act.put, List.getElem_toArray, List.getElem_cons_zero, List.getElem_cons_succ, List.setIfInBounds_toArray, List.set_cons_zero, List.set_cons_succ]
                refine wpAnyH_take (i := 5) (v := ?_) rfl (by kernel_rfl) (by kernel_rfl) (by kernel_rfl) (fun _ _ _ h => h) (Or.inl ⟨by rfl, ?_⟩) (by assumption) ?_
                rotate_left
                · (intro w' hSw; (try dsimp only at hSw); go_simp; try with_reducible rfl)
                simp only [Act.put, List.getElem_toArray, List.getElem_cons_zero, List.getElem_cons_succ, List.setIfInBounds_toArray, List.set_cons_zero, List.set_cons_succ]
                refine wpAnyH_take (i := 6) (v := ?_) rfl (by kernel_rfl) (by kernel_rfl) (by kernel_rfl) (fun _ _ _ h => h) (Or.inl ⟨by rfl, ?_⟩) (by assumption) ?_
                rotate_left
                · (intro w' hSw; (try dsimp only at hSw); go_simp; try with_reducible rfl)
                simp only [Act.put, List.getElem_toArray, List.getElem_cons_zero, List.getElem_cons_succ, List.setIfInBounds_toArray, List.set_cons_zero, List.set_cons_succ]
                refine wpAnyH_ready (rs := [7, 12]) (by kernel_rfl) (by simp) ?_
                refine AllReadyH.cons rfl (fun K hK => ?_) ?_
                · go_simp
                  go_at_call 9
                  refine (key_any z X0).mono ?_
                  rintro e Y1 ⟨rfl, u1⟩
                  have t_Y1 : Below wr.heap.size wr Y1 := tt.trans (u1.mono tt.size)
                  refine hK.out _ _ (KS2.out _ t_Y1) (fun _ => ?_)
                  clear hK K
                  refine wpAnyH_ready (rs := [8, 12]) (by kernel_rfl) (by simp) ?_
                  refine AllReadyH.cons rfl (fun K hK => ?_) ?_
                  · go_simp
                    go_at_call 8
                    refine (CFd Y1 t_Y1).mono ?_
                    rintro e Y2 ⟨A8, c8, rfl, o8, u2⟩
                    have t_Y2 : Below wr.heap.size wr Y2 := t_Y1.trans (u2.mono t_Y1.size)
                    refine hK.out _ _ (KS2.out _ t_Y2) (fun _ => ?_)
                    clear hK K
                    refine wpAnyH_take (i := 9) (v := ?_) rfl (by kernel_rfl) (by kernel_rfl) (by kernel_rfl) (fun _ _ _ h => h) (Or.inl ⟨by rfl, ?_⟩) (by assumption) ?_
                    rotate_left
                    · (intro w' hSw; (try dsimp only at hSw); go_simp; try with_reducible rfl)
                    simp only [Act.put, List.getElem_toArray, List.getElem_cons_zero, List.getElem_cons_succ, List.setIfInBounds_toArray, List.set_cons_zero, List.set_cons_succ]
                    refine wpAnyH_take (i := 10) (v := ?_) rfl (by kernel_rfl) (by kernel_rfl) (by kernel_rfl) (fun _ _ _ h => h) (Or.inl ⟨by rfl, ?_⟩) (by assumption) ?_
                    rotate_left
                    · (intro w' hSw; (try dsimp only at hSw); go_simp; try with_reducible rfl)
                    simp only [Act.put, List.getElem_toArray, List.getElem_cons_zero, List.getElem_cons_succ, List.setIfInBounds_toArray, List.set_cons_zero, List.set_cons_succ]
                    refine wpAnyH_take (i := 11) (v := ?_) rfl (by kernel_rfl) (by kernel_rfl) (by kernel_rfl) (fun _ _ _ h => h) (Or.inl ⟨by rfl, ?_⟩) (by assumption) ?_
                    rotate_left
                    · (intro w' hSw; (try dsimp only at hSw); go_simp; try with_reducible rfl)
                    simp only [Act.put, List.getElem_toArray, List.getElem_cons_zero, List.getElem_cons_succ, List.setIfInBounds_toArray, List.set_cons_zero, List.set_cons_succ]
                    refine wpAnyH_ready (rs := [12]) (by kernel_rfl) (by simp) ?_
                    refine AllReadyH.cons rfl (fun K hK => ?_) AllReadyH.nil
                    go_simp
                    obtain ⟨Y3, hY3⟩ : ∃ V, Y2.alloc (.cells #[Value.int .i64 0, .int .i64 0, .int .i64 0, .int .u32 0, .int .u32 0, .int .u32 0, .int .i64 0, .int .i64 0, .slice none 0 0] 34) = V := ⟨_, rfl⟩
                    have u3 : Below Y2.heap.size Y2 Y3 := by rw [← hY3]; exact below_alloc1 _ _
                    have kz := Bk.mk hY3
                    have t_Y3 : Below wr.heap.size wr Y3 := t_Y2.trans (u3.mono t_Y2.size)
                    replace o8 := o8.step u3
                    obtain ⟨kf, hkt⟩ : ∃ q, Y2.heap.size = q := ⟨_, rfl⟩
                    rw [hkt] at kz
                    have ga : Hid (wr.heap.size ≤ kf) := Lib.hid (by rw [← hkt]; exact t_Y2.size)
                    try rw [hY3]
                    try rw [hkt]
                    clear hY3 hkt
                    refine hK.out _ _ (KS2.out _ t_Y3) (fun _ => ?_)
                    clear hK K
                    refine wpAnyH_ready (rs := [13]) (by kernel_rfl) (by simp) ?_
                    refine AllReadyH.cons rfl (fun K hK => ?_) AllReadyH.nil
                    have TW : Hid (Below wr.heap.size wr ((((((((((Y3).setCell ⟨kf, 0, none⟩ (.int .i64 zh.a)).setCell ⟨kf, 1, none⟩ (.int .i64 zh.o)).setCell ⟨kf, 2, none⟩ (.int .i64 zh.t)).setCell ⟨kf, 3, none⟩ (.int .u32 zh.i)).setCell ⟨kf, 4, none⟩ (.int .u32 zh.v)).setCell ⟨kf, 5, none⟩ (.int .u32 zh.q)).setCell ⟨kf, 6, none⟩ (.int .i64 zh.s)).setCell ⟨kf, 7, none⟩ (.int .i64 zh.n)).setCell ⟨kf, 8, none⟩ (.slice A8 zn c8))) := Lib.hid (below_st9 t_Y3 ga.out (.int .i64 zh.a) (.int .i64 zh.o) (.int .i64 zh.t) (.int .u32 zh.i) (.int .u32 zh.v) (.int .u32 zh.q) (.int .i64 zh.s) (.int .i64 zh.n) (.slice A8 zn c8))
                    have GW : Hid (Bk ((((((((((Y3).setCell ⟨kf, 0, none⟩ (.int .i64 zh.a)).setCell ⟨kf, 1, none⟩ (.int .i64 zh.o)).setCell ⟨kf, 2, none⟩ (.int .i64 zh.t)).setCell ⟨kf, 3, none⟩ (.int .u32 zh.i)).setCell ⟨kf, 4, none⟩ (.int .u32 zh.v)).setCell ⟨kf, 5, none⟩ (.int .u32 zh.q)).setCell ⟨kf, 6, none⟩ (.int .i64 zh.s)).setCell ⟨kf, 7, none⟩ (.int .i64 zh.n)).setCell ⟨kf, 8, none⟩ (.slice A8 zn c8)) kf (.cells #[.int .i64 zh.a, .int .i64 zh.o, .int .i64 zh.t, .int .u32 zh.i, .int .u32 zh.v, .int .u32 zh.q, .int .i64 zh.s, .int .i64 zh.n, .slice A8 zn c8] 34)) := Lib.hid (kz9_set kz (.int .i64 zh.a) (.int .i64 zh.o) (.int .i64 zh.t) (.int .u32 zh.i) (.int .u32 zh.v) (.int .u32 zh.q) (.int .i64 zh.s) (.int .i64 zh.n) (.slice A8 zn c8))
                    clear o8
                    obtain ⟨z0, z1, z2, z3, z4, z5, z6, z7, z8, g0, g1, g2, g3, g4, g5, g6, g7, g8, hzl⟩ := kz9_at kz
                    clear kz
                    go_simp
                    obtain ⟨ZX, hZX⟩ : ∃ V, ((((((((((Y3).setCell ⟨kf, 0, none⟩ (.int .i64 zh.a)).setCell ⟨kf, 1, none⟩ (.int .i64 zh.o)).setCell ⟨kf, 2, none⟩ (.int .i64 zh.t)).setCell ⟨kf, 3, none⟩ (.int .u32 zh.i)).setCell ⟨kf, 4, none⟩ (.int .u32 zh.v)).setCell ⟨kf, 5, none⟩ (.int .u32 zh.q)).setCell ⟨kf, 6, none⟩ (.int .i64 zh.s)).setCell ⟨kf, 7, none⟩ (.int .i64 zh.n)).setCell ⟨kf, 8, none⟩ (.slice A8 zn c8)) = V := ⟨_, rfl⟩
                    rw [hZX] at TW GW  ⊢
                    clear z0 z1 z2 z3 z4 z5 z6 z7 z8 g0 g1 g2 g3 g4 g5 g6 g7 g8 hzl hZX
                    refine hK.out _ _ (KS2.out _ TW.out) (fun _ => ?_)
                    clear hK K
                    refine wpAnyH_ready (rs := [14]) (by kernel_rfl) (by simp) ?_
                    refine AllReadyH.cons rfl (fun K hK => ?_) AllReadyH.nil
                    go_simp
                    refine hK.out _ _ (KS2.out _ TW.out) (fun _ => ?_)
                    clear hK K
                    refine wpAnyH_done (by kernel_rfl) ?_ _
                    go_wp2
                    go_meet
                    case rel => exact ⟨kf, rfl, rfl, TW, Lib.hid ⟨A8, c8, GW.out⟩⟩
                  refine AllReadyH.cons rfl (fun K hK => ?_) AllReadyH.nil
                  go_simp
                  obtain ⟨Y2, hY2⟩ : ∃ V, Y1.alloc (.cells #[Value.int .i64 0, .int .i64 0, .int .i64 0, .int .u32 0, .int .u32 0, .int .u32 0, .int .i64 0, .int .i64 0, .slice none 0 0] 34) = V := ⟨_, rfl⟩
                  have u2 : Below Y1.heap.size Y1 Y2 := by rw [← hY2]; exact below_alloc1 _ _
                  have kz := Bk.mk hY2
                  have t_Y2 : Below wr.heap.size wr Y2 := t_Y1.trans (u2.mono t_Y1.size)
                  obtain ⟨kf, hkt⟩ : ∃ q, Y1.heap.size = q := ⟨_, rfl⟩
                  rw [hkt] at kz
                  have ga : Hid (wr.heap.size ≤ kf) := Lib.hid (by rw [← hkt]; exact t_Y1.size)
                  try rw [hY2]
                  try rw [hkt]
                  clear hY2 hkt
                  refine hK.out _ _ (KS2.out _ t_Y2) (fun _ => ?_)
                  clear hK K
                  refine wpAnyH_ready (rs := [8]) (by kernel_rfl) (by simp) ?_
                  refine AllReadyH.cons rfl (fun K hK => ?_) AllReadyH.nil
                  go_simp
                  go_at_call 8
                  refine (CFd Y2 t_Y2).mono ?_
                  rintro e Y3 ⟨A8, c8, rfl, o8, u3⟩
                  have t_Y3 : Below wr.heap.size wr Y3 := t_Y2.trans (u3.mono t_Y2.size)
                  replace kz := kz.step u3
                  refine hK.out _ _ (KS2.out _ t_Y3) (fun _ => ?_)
                  clear hK K
                  refine wpAnyH_take (i := 9) (v := ?_) rfl (by kernel_rfl) (by kernel_rfl) (by kernel_rfl) (fun _ _ _ h => h) (Or.inl ⟨by rfl, ?_⟩) (by assumption) ?_
                  rotate_left
                  · (intro w' hSw; (try dsimp only at hSw); go_simp; try with_reducible rfl)
                  simp only [Act.put, List.getElem_toArray, List.getElem_cons_zero, List.getElem_cons_succ, List.setIfInBounds_toArray, List.set_cons_zero, List.set_cons_succ]
                  refine wpAnyH_take (i := 10) (v := ?_) rfl (by kernel_rfl) (by kernel_rfl) (by kernel_rfl) (fun _ _ _ h => h) (Or.inl ⟨by rfl, ?_⟩) (by assumption) ?_
                  rotate_left
                  · (intro w' hSw; (try dsimp only at hSw); go_simp; try with_reducible rfl)
                  simp only [Act.put, List.getElem_toArray, List.getElem_cons_zero, List.getElem_cons_succ, List.setIfInBounds_toArray, List.set_cons_zero, List.set_cons_succ]
                  refine wpAnyH_take (i := 11) (v := ?_) rfl (by kernel_rfl) (by kernel_rfl) (by kernel_rfl) (fun _ _ _ h => h) (Or.inl ⟨by rfl, ?_⟩) (by assumption) ?_
                  rotate_left
                  · (intro w' hSw; (try dsimp only at hSw); go_simp; try with_reducible rfl)
                  simp only [Act.put, List.getElem_toArray, List.getElem_cons_zero, List.getElem_cons_succ, List.setIfInBounds_toArray, List.set_cons_zero, List.set_cons_succ]
                  refine wpAnyH_ready (rs := [13]) (by kernel_rfl) (by simp) ?_
                  refine AllReadyH.cons rfl (fun K hK => ?_) AllReadyH.nil
                  have TW : Hid (Below wr.heap.size wr ((((((((((Y3).setCell ⟨kf, 0, none⟩ (.int .i64 zh.a)).setCell ⟨kf, 1, none⟩ (.int .i64 zh.o)).setCell ⟨kf, 2, none⟩ (.int .i64 zh.t)).setCell ⟨kf, 3, none⟩ (.int .u32 zh.i)).setCell ⟨kf, 4, none⟩ (.int .u32 zh.v)).setCell ⟨kf, 5, none⟩ (.int .u32 zh.q)).setCell ⟨kf, 6, none⟩ (.int .i64 zh.s)).setCell ⟨kf, 7, none⟩ (.int .i64 zh.n)).setCell ⟨kf, 8, none⟩ (.slice A8 zn c8))) := Lib.hid (below_st9 t_Y3 ga.out (.int .i64 zh.a) (.int .i64 zh.o) (.int .i64 zh.t) (.int .u32 zh.i) (.int .u32 zh.v) (.int .u32 zh.q) (.int .i64 zh.s) (.int .i64 zh.n) (.slice A8 zn c8))
                  have GW : Hid (Bk ((((((((((Y3).setCell ⟨kf, 0, none⟩ (.int .i64 zh.a)).setCell ⟨kf, 1, none⟩ (.int .i64 zh.o)).setCell ⟨kf, 2, none⟩ (.int .i64 zh.t)).setCell ⟨kf, 3, none⟩ (.int .u32 zh.i)).setCell ⟨kf, 4, none⟩ (.int .u32 zh.v)).setCell ⟨kf, 5, none⟩ (.int .u32 zh.q)).setCell ⟨kf, 6, none⟩ (.int .i64 zh.s)).setCell ⟨kf, 7, none⟩ (.int .i64 zh.n)).setCell ⟨kf, 8, none⟩ (.slice A8 zn c8)) kf (.cells #[.int .i64 zh.a, .int .i64 zh.o, .int .i64 zh.t, .int .u32 zh.i, .int .u32 zh.v, .int .u32 zh.q, .int .i64 zh.s, .int .i64 zh.n, .slice A8 zn c8] 34)) := Lib.hid (kz9_set kz (.int .i64 zh.a) (.int .i64 zh.o) (.int .i64 zh.t) (.int .u32 zh.i) (.int .u32 zh.v) (.int .u32 zh.q) (.int .i64 zh.s) (.int .i64 zh.n) (.slice A8 zn c8))
                  clear o8
                  obtain ⟨z0, z1, z2, z3, z4, z5, z6, z7, z8, g0, g1, g2, g3, g4, g5, g6, g7, g8, hzl⟩ := kz9_at kz
                  clear kz
                  go_simp
                  obtain ⟨ZX, hZX⟩ : ∃ V, ((((((((((Y3).setCell ⟨kf, 0, none⟩ (.int .i64 zh.a)).setCell ⟨kf, 1, none⟩ (.int .i64 zh.o)).setCell ⟨kf, 2, none⟩ (.int .i64 zh.t)).setCell ⟨kf, 3, none⟩ (.int .u32 zh.i)).setCell ⟨kf, 4, none⟩ (.int .u32 zh.v)).setCell ⟨kf, 5, none⟩ (.int .u32 zh.q)).setCell ⟨kf, 6, none⟩ (.int .i64 zh.s)).setCell ⟨kf, 7, none⟩ (.int .i64 zh.n)).setCell ⟨kf, 8, none⟩ (.slice A8 zn c8)) = V := ⟨_, rfl⟩
                  rw [hZX] at TW GW  ⊢
                  clear z0 z1 z2 z3 z4 z5 z6 z7 z8 g0 g1 g2 g3 g4 g5 g6 g7 g8 hzl hZX
                  refine hK.out _ _ (KS2.out _ TW.out) (fun _ => ?_)
                  clear hK K
                  refine wpAnyH_ready (rs := [14]) (by kernel_rfl) (by simp) ?_
                  refine AllReadyH.cons rfl (fun K hK => ?_) AllReadyH.nil
                  go_simp
                  refine hK.out _ _ (KS2.out _ TW.out) (fun _ => ?_)
                  clear hK K
                  refine wpAnyH_done (by kernel_rfl) ?_ _
                  go_wp2
                  go_meet
                  case rel => exact ⟨kf, rfl, rfl, TW, Lib.hid ⟨A8, c8, GW.out⟩⟩
                refine AllReadyH.cons rfl (fun K hK => ?_) AllReadyH.nil
                go_simp
                obtain ⟨Y1, hY1⟩ : ∃ V, X0.alloc (.cells #[Value.int .i64 0, .int .i64 0, .int .i64 0, .int .u32 0, .int .u32 0, .int .u32 0, .int .i64 0, .int .i64 0, .slice none 0 0] 34) = V := ⟨_, rfl⟩
                have u1 : Below X0.heap.size X0 Y1 := by rw [← hY1]; exact below_alloc1 _ _
                have kz := Bk.mk hY1
                have t_Y1 : Below wr.heap.size wr Y1 := tt.trans (u1.mono tt.size)
                obtain ⟨kf, hkt⟩ : ∃ q, X0.heap.size = q := ⟨_, rfl⟩
                rw [hkt] at kz
                have ga : Hid (wr.heap.size ≤ kf) := Lib.hid (by rw [← hkt]; exact tt.size)
                try rw [hY1]
                try rw [hkt]
                clear hY1 hkt
                refine hK.out _ _ (KS2.out _ t_Y1) (fun _ => ?_)
                clear hK K
                refine wpAnyH_ready (rs := [7]) (by kernel_rfl) (by simp) ?_
                refine AllReadyH.cons rfl (fun K hK => ?_) AllReadyH.nil
                go_simp
                go_at_call 9
                refine (key_any z Y1).mono ?_
                rintro e Y2 ⟨rfl, u2⟩
                have t_Y2 : Below wr.heap.size wr Y2 := t_Y1.trans (u2.mono t_Y1.size)
                replace kz := kz.step u2
                refine hK.out _ _ (KS2.out _ t_Y2) (fun _ => ?_)
                clear hK K
                refine wpAnyH_ready (rs := [8]) (by kernel_rfl) (by simp) ?_
                refine AllReadyH.cons rfl (fun K hK => ?_) AllReadyH.nil
                go_simp
                go_at_call 8
                refine (CFd Y2 t_Y2).mono ?_
                rintro e Y3 ⟨A8, c8, rfl, o8, u3⟩
                have t_Y3 : Below wr.heap.size wr Y3 := t_Y2.trans (u3.mono t_Y2.size)
                replace kz := kz.step u3
                refine hK.out _ _ (KS2.out _ t_Y3) (fun _ => ?_)
                clear hK K
                refine wpAnyH_take (i := 9) (v := ?_) rfl (by kernel_rfl) (by kernel_rfl) (by kernel_rfl) (fun _ _ _ h => h) (Or.inl ⟨by rfl, ?_⟩) (by assumption) ?_
                rotate_left
                · (intro w' hSw; (try dsimp only at hSw); go_simp; try with_reducible rfl)
                simp only [Act.put, List.getElem_toArray, List.getElem_cons_zero, List.getElem_cons_succ, List.setIfInBounds_toArray, List.set_cons_zero, List.set_cons_succ]
                refine wpAnyH_take (i := 10) (v := ?_) rfl (by kernel_rfl) (by kernel_rfl) (by kernel_rfl) (fun _ _ _ h => h) (Or.inl ⟨by rfl, ?_⟩) (by assumption) ?_
                rotate_left
                · (intro w' hSw; (try dsimp only at hSw); go_simp; try with_reducible rfl)
                simp only [Act.put, List.getElem_toArray, List.getElem_cons_zero, List.getElem_cons_succ, List.setIfInBounds_toArray, List.set_cons_zero, List.set_cons_succ]
                refine wpAnyH_take (i := 11) (v := ?_) rfl (by kernel_rfl) (by kernel_rfl) (by kernel_rfl) (fun _ _ _ h => h) (Or.inl ⟨by rfl, ?_⟩) (by assumption) ?_
                rotate_left
                · (intro w' hSw; (try dsimp only at hSw); go_simp; try with_reducible rfl)
                simp only [Act.put, List.getElem_toArray, List.getElem_cons_zero, List.getElem_cons_succ, List.setIfInBounds_toArray, List.set_cons_zero, List.set_cons_succ]
                refine wpAnyH_ready (rs := [13]) (by kernel_rfl) (by simp) ?_
                refine AllReadyH.cons rfl (fun K hK => ?_) AllReadyH.nil
                have TW : Hid (Below wr.heap.size wr ((((((((((Y3).setCell ⟨kf, 0, none⟩ (.int .i64 zh.a)).setCell ⟨kf, 1, none⟩ (.int .i64 zh.o)).setCell ⟨kf, 2, none⟩ (.int .i64 zh.t)).setCell ⟨kf, 3, none⟩ (.int .u32 zh.i)).setCell ⟨kf, 4, none⟩ (.int .u32 zh.v)).setCell ⟨kf, 5, none⟩ (.int .u32 zh.q)).setCell ⟨kf, 6, none⟩ (.int .i64 zh.s)).setCell ⟨kf, 7, none⟩ (.int .i64 zh.n)).setCell ⟨kf, 8, none⟩ (.slice A8 zn c8))) := Lib.hid (below_st9 t_Y3 ga.out (.int .i64 zh.a) (.int .i64 zh.o) (.int .i64 zh.t) (.int .u32 zh.i) (.int .u32 zh.v) (.int .u32 zh.q) (.int .i64 zh.s) (.int .i64 zh.n) (.slice A8 zn c8))
                have GW : Hid (Bk ((((((((((Y3).setCell ⟨kf, 0, none⟩ (.int .i64 zh.a)).setCell ⟨kf, 1, none⟩ (.int .i64 zh.o)).setCell ⟨kf, 2, none⟩ (.int .i64 zh.t)).setCell ⟨kf, 3, none⟩ (.int .u32 zh.i)).setCell ⟨kf, 4, none⟩ (.int .u32 zh.v)).setCell ⟨kf, 5, none⟩ (.int .u32 zh.q)).setCell ⟨kf, 6, none⟩ (.int .i64 zh.s)).setCell ⟨kf, 7, none⟩ (.int .i64 zh.n)).setCell ⟨kf, 8, none⟩ (.slice A8 zn c8)) kf (.cells #[.int .i64 zh.a, .int .i64 zh.o, .int .i64 zh.t, .int .u32 zh.i, .int .u32 zh.v, .int .u32 zh.q, .int .i64 zh.s, .int .i64 zh.n, .slice A8 zn c8] 34)) := Lib.hid (kz9_set kz (.int .i64 zh.a) (.int .i64 zh.o) (.int .i64 zh.t) (.int .u32 zh.i) (.int .u32 zh.v) (.int .u32 zh.q) (.int .i64 zh.s) (.int .i64 zh.n) (.slice A8 zn c8))
                clear o8
                obtain ⟨z0, z1, z2, z3, z4, z5, z6, z7, z8, g0, g1, g2, g3, g4, g5, g6, g7, g8, hzl⟩ := kz9_at kz
                clear kz
                go_simp
                obtain ⟨ZX, hZX⟩ : ∃ V, ((((((((((Y3).setCell ⟨kf, 0, none⟩ (.int .i64 zh.a)).setCell ⟨kf, 1, none⟩ (.int .i64 zh.o)).setCell ⟨kf, 2, none⟩ (.int .i64 zh.t)).setCell ⟨kf, 3, none⟩ (.int .u32 zh.i)).setCell ⟨kf, 4, none⟩ (.int .u32 zh.v)).setCell ⟨kf, 5, none⟩ (.int .u32 zh.q)).setCell ⟨kf, 6, none⟩ (.int .i64 zh.s)).setCell ⟨kf, 7, none⟩ (.int .i64 zh.n)).setCell ⟨kf, 8, none⟩ (.slice A8 zn c8)) = V := ⟨_, rfl⟩
                rw [hZX] at TW GW  ⊢
                clear z0 z1 z2 z3 z4 z5 z6 z7 z8 g0 g1 g2 g3 g4 g5 g6 g7 g8 hzl hZX
                refine hK.out _ _ (KS2.out _ TW.out) (fun _ => ?_)
                clear hK K
                refine wpAnyH_ready (rs := [14]) (by kernel_rfl) (by simp) ?_
                refine AllReadyH.cons rfl (fun K hK => ?_) AllReadyH.nil
                go_simp
                refine hK.out _ _ (KS2.out _ TW.out) (fun _ => ?_)
                clear hK K
                refine wpAnyH_done (by kernel_rfl) ?_ _
                go_wp2
                go_meet
                case rel => exact ⟨kf, rfl, rfl, TW, Lib.hid ⟨A8, c8, GW.out⟩⟩
              case rest =>
                obtain ⟨kf, rfl, rfl, T2, HF2⟩ := hcut
                obtain ⟨A8, c8, gf8⟩ := HF2.out
                obtain ⟨-, ⟨p0, p1, p2⟩, q0, q1, q2, q3, q4, q5, q6, q7⟩ := KS2.out _ T2.out
                obtain ⟨a0, a1, a2, a3, a4, a5, a6, a7, a8, -⟩ := kz9_at gf8
                have hfs := HZ.out.2.2.sok
                have hle : cmpH z zh ≤ 0 := HZ.out.2.1
                have hfq := hfs.q
                have hfa := hfs.a
                have CC := fun V => compare_any z zh V HZQ.out.1 hfq HZQ.out.2 hfa
                have hng : ¬ (cmpH z zh > 0) := by omega
                generalize cmpH z zh = rr at *
                clear CFd KS2 hfs HF2 gf8 HHZ HZ
                go_upto_region 15 with fail
                refine wp_region_quiet_below (by kernel_rfl) (by kernel_rfl) ?_
                have gg0 := cell_regrown p0
                have gg1 := cell_regrown p1
                have gg2 := cell_regrown p2
                have gg3 := cell_regrown q0
                have gg4 := cell_regrown q1
                have gg5 := cell_regrown q2
                have gg6 := cell_regrown q3
                have gg7 := cell_regrown q4
                have gg8 := cell_regrown q5
                have gg9 := cell_regrown q6
                have gg10 := cell_regrown q7
                have gg11 := cell_regrown a0
                have gg12 := cell_regrown a1
                have gg13 := cell_regrown a2
                have gg14 := cell_regrown a3
                have gg15 := cell_regrown a4
                have gg16 := cell_regrown a5
                have gg17 := cell_regrown a6
                have gg18 := cell_regrown a7
                have gg19 := cell_regrown a8
                have zz0 : ∀ d os, _ := fun d os => Calls.regrown_of (w := wc) (d := d) (os := os) (CC _)
                repeat (first | go_big_quiet_step (with_reducible exact zz0 _ _) | go_big_quiet_step (fail) | go_big_quiet_skip)
                refine wpQuiet_nil ?_
                intro W9 hw'
                obtain ⟨⟨dq, osq⟩, hw''⟩ := hw'
                have hbz := below_regrown wc dq osq
                rw [← hw''] at hbz
                clear hw'' gg0 gg1 gg2 gg3 gg4 gg5 gg6 gg7 gg8 gg9 gg10 gg11 gg12 gg13 gg14 gg15 gg16 gg17 gg18 gg19 zz0 
                have T3 := Lib.hid (hbj.out.trans ((T2.out.trans (hbz.mono T2.out.size)).mono hbj.out.size))
                clear p0 p1 p2 q0 q1 q2 q3 q4 q5 q6 q7 a0 a1 a2 a3 a4 a5 a6 a7 a8 CC hbz
                go_wp2
                go_roundg gf2
                case measure => omega
                case rel => exact ⟨j + 1, by go_num, Lib.hid (by omega), T3⟩
end Go.Proofs.Ytadcicmccdphkaa
