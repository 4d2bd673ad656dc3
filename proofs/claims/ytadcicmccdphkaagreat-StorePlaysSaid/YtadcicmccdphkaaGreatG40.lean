/-
  The walk of StorePlays. No statement is proved here; no conditions.
-/
import Derived.Test.YtadcicmccdphkaaGreatG37
import Derived.Test.YtadcicmccdphkaaGreatG07
import Derived.Test.YtadcicmccdphkaaGreatG38
import Derived.Test.YtadcicmccdphkaaGreatG39
import Derived.Test.YtadcicmccdphkaaGreatG27
import Derived.Test.YtadcicmccdphkaaGreatG30
import Derived.Test.YtadcicmccdphkaaGreatG13
namespace Go.Proofs.YtadcicmccdphkaaGreat
open Go.RowKit Go.Joins
open List (getElem_toArray getElem_cons_zero getElem_cons_succ setIfInBounds_toArray set_cons_zero set_cons_succ)

theorem Bk.ne {V : World} {b d : Nat} {ob pb : Obj} (h : Bk V b ob) (h2 : Bk V d pb) (hne : ob ≠ pb) : b ≠ d := by
 rintro rfl
 have h1 : V.heap[b]? = some ob := h
 have h3 : V.heap[b]? = some pb := h2
 rw [h1] at h3
 exact hne (Option.some.inj h3)
structure PJ (W0 : World) (m : Int) (ks km : Nat) (wx : World) : Prop where
 ex : ∃ n o A c A' c' L L', Bk wx ks (.cells #[.int .i64 m, .slice A n c, .bool o] 28) ∧ Bk wx km (.cells #[.int .i64 m, .slice A' n c', .bool o] 32) ∧ Two wx m n A A' L L'
 bel : Below W0.heap.size W0 wx
 hs : W0.heap.size ≤ ks
 hm : ks < km
set_option maxRecDepth 100000 in
set_option maxHeartbeats 16000000 in
theorem plays_walk (sz : Int) (A0 : Option Addr) (n0 c0 : Nat) (LL : List Ac) (y : Hd) (w : World) (hn : LL.length = n0) (okx : ∀ a ∈ LL, Oko a) (hr : Arc w A0 LL) :
  Calls Tryz.prog 3 #[.int .i64 sz, .slice A0 n0 c0, .agg #[.int .i64 y.t, .int .u32 y.i, .int .u32 y.v]] w fun e w' => e = .returned (.bool true) ∧ Below w.heap.size w w' := by
 have HN := Lib.hid hn
 have HO := Lib.hid okx
 obtain ⟨W0, hW0⟩ : ∃ V, w.alloc (.cells #[Value.int .i64 y.t, .int .u32 y.i, .int .u32 y.v] 25) = V := ⟨_, rfl⟩
 have bW0 : Below w.heap.size w W0 := by rw [← hW0]; exact below_alloc1 _ _
 have HR : Hid (∀ V, Below W0.heap.size W0 V → Arc V A0 LL) := Lib.hid (fun V hV => hr.step (bW0.trans (hV.mono bW0.size)))
 have KK : Hid (∀ V, Below W0.heap.size W0 V → V.cell? ⟨w.heap.size, 0, none⟩ = some (.int .i64 y.t) ∧ V.cell? ⟨w.heap.size, 1, none⟩ = some (.int .u32 y.i) ∧ V.cell? ⟨w.heap.size, 2, none⟩ = some (.int .u32 y.v)) := Lib.hid (fun V hV => kb3_new hW0 hV)
 have HW := Lib.hid bW0
 obtain ⟨m, hm⟩ : ∃ q, nwM sz = q := ⟨_, rfl⟩
 obtain ⟨er, her⟩ : ∃ q, nwE sz = q := ⟨_, rfl⟩
 have C1 := snew_any sz W0
 have C2 := fun V => rnew_any sz V
 rw [hm, her] at C1
 simp only [hm, her] at C2
 have HE : Hid (0 ≤ m ∧ (er = 0 → 1 ≤ m ∧ m ≤ 2000)) := Lib.hid (by
  rw [← hm, ← her]
  unfold nwM nwE
  by_cases h : win sz 1 2000 = true
  ·rw [if_pos h, if_pos h]
   have := (win_iff _ _ _).1 h
   omega
  ·rw [if_neg h, if_neg h]
   omega)
 have q1 : (er != er) = false := by simp
 have q2 : decide (er = er) = true := by simp
 have q3 : decide (er ≠ er) = false := by simp
 clear hn okx hr bW0 hm her
 go_enter Tryz.func3, Tryz.ntmps3
 go_wp2_with fail
 refine C1.mono ?_
 rintro e Y1 ⟨rfl, u1⟩
 have T1 := Lib.hid u1
 clear C1 u1
 obtain ⟨ka, hka⟩ : ∃ q, Y1.heap.size = q := ⟨_, rfl⟩
 obtain ⟨Va, hVa⟩ : ∃ V, Y1.alloc (.cells #[Value.int .i64 0, .slice none 0 0, .bool false] 28) = V := ⟨_, rfl⟩
 have uVa : Below Y1.heap.size Y1 Va := by rw [← hVa]; exact below_alloc1 _ _
 have GVa : Bk Va ka (.cells #[Value.int .i64 0, .slice none 0 0, .bool false] 28) := by rw [← hka]; exact Bk.mk hVa
 obtain ⟨Xa, hXa⟩ : ∃ V, (((Va).setCell ⟨ka, 0, none⟩ (.int .i64 m)).setCell ⟨ka, 1, none⟩ (.slice none 0 0)).setCell ⟨ka, 2, none⟩ (.bool false) = V := ⟨_, rfl⟩
 have Ga : Bk Xa ka (.cells #[.int .i64 m, .slice none 0 0, .bool false] 28) := by rw [← hXa]; exact kz3_set GVa (.int .i64 m) (.slice none 0 0) (.bool false)
 have ua : Below Y1.heap.size Y1 Xa := by rw [← hXa]; exact below_st3 uVa (by rw [← hka]; exact Nat.le_refl _) (.int .i64 m) (.slice none 0 0) (.bool false)
 obtain ⟨ya0, ya1, ya2, fa0, fa1, fa2, hza⟩ := kz3_at GVa
 have TA := Lib.hid (T1.out.trans (ua.mono T1.out.size))
 have HA : Hid (W0.heap.size ≤ ka) := Lib.hid (by rw [← hka]; exact T1.out.size)
 clear hW0
 go_wp2_with fail
 refine (C2 _).mono ?_
 rintro e Y2 ⟨rfl, u2⟩
 have T2 := Lib.hid (TA.out.trans (u2.mono TA.out.size))
 have Ga2 := Ga.step u2
 have HAB : Hid (ka < Y2.heap.size) := Lib.hid Ga2.lt
 clear C2 u2 ya0 ya1 ya2 fa0 fa1 fa2 hza hXa hVa hka GVa uVa Ga ua
 obtain ⟨kb, hkb⟩ : ∃ q, Y2.heap.size = q := ⟨_, rfl⟩
 obtain ⟨Vb, hVb⟩ : ∃ V, Y2.alloc (.cells #[Value.int .i64 0, .slice none 0 0, .bool false] 32) = V := ⟨_, rfl⟩
 have uVb : Below Y2.heap.size Y2 Vb := by rw [← hVb]; exact below_alloc1 _ _
 have GVb : Bk Vb kb (.cells #[Value.int .i64 0, .slice none 0 0, .bool false] 32) := by rw [← hkb]; exact Bk.mk hVb
 obtain ⟨Xb, hXb⟩ : ∃ V, (((Vb).setCell ⟨kb, 0, none⟩ (.int .i64 m)).setCell ⟨kb, 1, none⟩ (.slice none 0 0)).setCell ⟨kb, 2, none⟩ (.bool false) = V := ⟨_, rfl⟩
 have Gb : Bk Xb kb (.cells #[.int .i64 m, .slice none 0 0, .bool false] 32) := by rw [← hXb]; exact kz3_set GVb (.int .i64 m) (.slice none 0 0) (.bool false)
 have ub : Below Y2.heap.size Y2 Xb := by rw [← hXb]; exact below_st3 uVb (by rw [← hkb]; exact Nat.le_refl _) (.int .i64 m) (.slice none 0 0) (.bool false)
 obtain ⟨yb0, yb1, yb2, fb0, fb1, fb2, hzb⟩ := kz3_at GVb
 have TB := Lib.hid (T2.out.trans (ub.mono T2.out.size))
 have HAB2 : Hid (ka < kb) := Lib.hid (by rw [← hkb]; exact HAB.out)
 have Ga3 := Ga2.step ub
 obtain ⟨p0, p1, p2, -⟩ := kz3_at Ga3
 obtain ⟨r0, r1, r2, -⟩ := kz3_at Gb
 have C3 := lsame_any m none none 0 0 0 0 false [] [] Xb rfl rfl rfl (Arr.nil _ _) (Arr.nil _ _) (by omega)
 clear Ga2 HAB
 go_wp2_with fail
 refine C3.mono ?_
 rintro e Y3 ⟨rfl, u3⟩
 have J0 : Hid (PJ W0 m ka kb Y3) := Lib.hid ⟨⟨0, false, none, 0, none, 0, [], [], Ga3.step u3, Gb.step u3, ⟨rfl, rfl, Vs.nil, by have := HE.out; omega, by simp, by simp, Arr.nil _ _, Arr.nil _ _⟩⟩, TB.out.trans (u3.mono TB.out.size), HA.out, HAB2.out⟩
 have CAl := fun V => alive_any V
 clear C3 u3 ub Ga3 Gb p0 p1 p2 r0 r1 r2 yb0 yb1 yb2 fb0 fb1 fb2 hzb hXb hVb hkb GVb uVb
 go_wp2_with fail
 go_loopg [11] n0 (fun gf v11 wx => ∃ (k : Nat), v11 = .int .i64 (k : Int) ∧ Hid (gf + k = n0) ∧ Hid (PJ W0 m ka kb wx))
 case atStart => exact ⟨0, rfl, Lib.hid (by omega), J0⟩
 case round =>
  obtain ⟨k, rfl, hk, hJ⟩ := hrel
  have hk' := hk.out
  clear J0 q1 q2 q3
  have HB := Lib.hid hJ.out.bel
  by_cases he : ¬ er = 0
  ·have q1 : (er == 0) = false := by simpa using he
   have q2 : decide (er = 0) = false := by simpa using he
   go_wp2_with fail
   refine (CAl _).mono ?_
   rintro e Y4 ⟨rfl, u4⟩
   go_wp2
   go_ret
   have h4 := HB.out.trans (u4.mono HB.out.size)
   exact ⟨rfl, HW.out.trans (h4.mono HW.out.size)⟩
  replace he : er = 0 := Classical.not_not.1 he
  subst he
  by_cases hend : gk = 0 ∨ 80 ≤ k
  ·rcases Nat.eq_zero_or_pos gk with rfl | hpos
   ·have lt0 : decide ((k : Int) < (n0 : Int)) = false := by simp; omega
    have lt1 : decide (k < n0) = false := by simp; omega
    go_wp2_with fail
    refine (CAl _).mono ?_
    rintro e Y4 ⟨rfl, u4⟩
    go_wp2
    go_ret
    have h4 := HB.out.trans (u4.mono HB.out.size)
    exact ⟨rfl, HW.out.trans (h4.mono HW.out.size)⟩
   ·have h80 : 80 ≤ k := by omega
    have lt0 : (k : Int) < (n0 : Int) := by omega
    have lt1 : decide ((k : Int) < 80) = false := by simp; omega
    have lt2 : decide (k < 80) = false := by simp; omega
    go_wp2_with fail
    refine (CAl _).mono ?_
    rintro e Y4 ⟨rfl, u4⟩
    go_wp2
    go_ret
    have h4 := HB.out.trans (u4.mono HB.out.size)
    exact ⟨rfl, HW.out.trans (h4.mono HW.out.size)⟩
  cases gk with
  | zero => exact absurd (.inl rfl) hend
  | succ gf =>
   have hk80 : k < 80 := by omega
   have hkl : k < LL.length := by rw [HN.out]; omega
   have lt0 : (k : Int) < (n0 : Int) := by omega
   have lt80 : (k : Int) < 80 := by omega
   have hw1 : (k : Int) + 1 ≤ 10000 := by omega
   have HMM := Lib.hid (HE.out.2 rfl)
   have har := HR.out _ HB.out
   obtain ⟨b, off, hA, _, e0, e1, e2, e3, e4, e5, e6, e7, e8, e9, e10, e11, e12, e13⟩ := crd_at har.1 hkl
   have HOX := Lib.hid (HO.out _ (cg_mem hkl))
   have HBX : Hid (∀ V, Below W0.heap.size W0 V → Bt V (cg LL k).x.A (cg LL k).x.l) := Lib.hid (fun V hV => (HR.out V hV).2 _ (cg_mem hkl))
   obtain ⟨a, ha⟩ : ∃ a, cg LL k = a := ⟨_, rfl⟩
   rw [ha] at HOX HBX e0 e1 e2 e3 e4 e5 e6 e7 e8 e9 e10 e11 e12 e13
   have HAR : Hid (∀ V, Below W0.heap.size W0 V → V.cell? ⟨b, off + k * 14, none⟩ = some (.int .i64 a.kd) ∧ V.cell? ⟨b, off + k * 14 + 1, none⟩ = some (.int .i64 a.yb) ∧ V.cell? ⟨b, off + k * 14 + 2, none⟩ = some (.int .i64 a.x.h.a) ∧ V.cell? ⟨b, off + k * 14 + 3, none⟩ = some (.int .i64 a.x.h.o) ∧ V.cell? ⟨b, off + k * 14 + 4, none⟩ = some (.int .i64 a.x.h.t) ∧ V.cell? ⟨b, off + k * 14 + 5, none⟩ = some (.int .u32 a.x.h.i) ∧ V.cell? ⟨b, off + k * 14 + 6, none⟩ = some (.int .u32 a.x.h.v) ∧ V.cell? ⟨b, off + k * 14 + 7, none⟩ = some (.int .u32 a.x.h.q) ∧ V.cell? ⟨b, off + k * 14 + 8, none⟩ = some (.int .i64 a.x.h.s) ∧ V.cell? ⟨b, off + k * 14 + 9, none⟩ = some (.int .i64 a.x.h.n) ∧ V.cell? ⟨b, off + k * 14 + 10, none⟩ = some (.slice a.x.A a.x.l.length a.x.c) ∧ V.cell? ⟨b, off + k * 14 + 11, none⟩ = some (.int .i64 a.k.t) ∧ V.cell? ⟨b, off + k * 14 + 12, none⟩ = some (.int .u32 a.k.i) ∧ V.cell? ⟨b, off + k * 14 + 13, none⟩ = some (.int .u32 a.k.v)) := Lib.hid (fun V hV => by
    obtain ⟨b2, off2, hA2, _, p0, p1, p2, p3, p4, p5, p6, p7, p8, p9, p10, p11, p12, p13⟩ := crd_at (HR.out V hV).1 hkl
    rw [ha] at p0 p1 p2 p3 p4 p5 p6 p7 p8 p9 p10 p11 p12 p13
    rw [hA] at hA2
    injection hA2 with hA2
    injection hA2 with h1 h2
    subst h1 h2
    exact ⟨p0, p1, p2, p3, p4, p5, p6, p7, p8, p9, p10, p11, p12, p13⟩)
   subst hA
   clear ha har hkl
   by_cases hlen : 300 < a.x.l.length
   ·have hg : ((a.x.l.length : Nat) : Int) > 300 := by omega
    go_wp2
    go_roundg gf
    case measure => omega
    case rel => exact ⟨k + 1, by go_num, Lib.hid (by omega), hJ⟩
   have hg : ¬ ((a.x.l.length : Nat) : Int) > 300 := by omega
   obtain ⟨⟨n, o, A, c, A', c', L, L', GS, GM, two⟩, -, hks, hkm⟩ := hJ.out
   have HGS := Lib.hid GS
   have HGM := Lib.hid GM
   have HTW := Lib.hid two
   have KS : Hid (∀ V, Below wr.heap.size wr V → (V.cell? ⟨ka, 0, none⟩ = some (.int .i64 m) ∧ V.cell? ⟨ka, 1, none⟩ = some (.slice A n c) ∧ V.cell? ⟨ka, 2, none⟩ = some (.bool o)) ∧ (V.cell? ⟨kb, 0, none⟩ = some (.int .i64 m) ∧ V.cell? ⟨kb, 1, none⟩ = some (.slice A' n c') ∧ V.cell? ⟨kb, 2, none⟩ = some (.bool o))) := Lib.hid (fun V hV => by
    obtain ⟨s0, s1, s2, -⟩ := kz3_at (HGS.out.step hV)
    obtain ⟨t0, t1, t2, -⟩ := kz3_at (HGM.out.step hV)
    exact ⟨⟨s0, s1, s2⟩, t0, t1, t2⟩)
   clear GS GM two
   go_upto_region 9 with fail
   clear e0 e1 e2 e3 e4 e5 e6 e7 e8 e9 e10 e11 e12 e13 hg
   go_cut [12, 13] (fun v12 v13 wx => ∃ k12 k13 : Nat, v12 = .pointer (some ⟨k12, 0, none⟩) ∧ v13 = .pointer (some ⟨k13, 0, none⟩) ∧ Hid (Below wr.heap.size wr wx) ∧ Hid (Bk wx k12 (.cells #[.int .i64 m, .slice A n c, .bool o] 28)) ∧ Hid (Bk wx k13 (.cells #[.int .i64 m, .slice A' n c', .bool o] 32)))
   case first =>
    have tt : Below wr.heap.size wr wr := Below.refl _ _
    refine wp_region_held_drew (S := fun V => (V.cell? ⟨ka, 0, none⟩ = some (.int .i64 m) ∧ V.cell? ⟨ka, 1, none⟩ = some (.slice A n c) ∧ V.cell? ⟨ka, 2, none⟩ = some (.bool o)) ∧ (V.cell? ⟨kb, 0, none⟩ = some (.int .i64 m) ∧ V.cell? ⟨kb, 1, none⟩ = some (.slice A' n c') ∧ V.cell? ⟨kb, 2, none⟩ = some (.bool o))) (by kernel_rfl) (KS.out _ tt.drew) (fun hHeld => ?_)
    replace tt : Below wr.heap.size wr wr.drew := tt.drew
    generalize hX0 : wr.drew = X0 at tt hHeld ⊢
    clear hX0
    refine wpAnyH_take (i := 0) (v := ?_) rfl (by kernel_rfl) (by kernel_rfl) (by kernel_rfl) (fun _ _ _ h => h) (Or.inl ⟨by rfl, ?_⟩) (by assumption) ?_
    rotate_left
    ·(intro w' hSw; (try dsimp only at hSw); go_simp; try with_reducible rfl)
    simp only [Act.put, getElem_toArray, getElem_cons_zero, setIfInBounds_toArray, set_cons_zero, set_cons_succ]
    refine wpAnyH_take (i := 1) (v := ?_) rfl (by kernel_rfl) (by kernel_rfl) (by kernel_rfl) (fun _ _ _ h => h) (Or.inl ⟨by rfl, ?_⟩) (by assumption) ?_
    rotate_left
    ·(intro w' hSw; (try dsimp only at hSw); go_simp; try with_reducible rfl)
    simp only [Act.put, getElem_toArray, getElem_cons_zero, getElem_cons_succ, setIfInBounds_toArray, set_cons_zero, set_cons_succ]
    refine wpAnyH_ready (rs := [2, 3]) (by kernel_rfl) (by simp) ?_
    refine AllReadyH.cons rfl (fun K hK => ?_) ?_
    ·go_simp
     obtain ⟨Y1, hY1⟩ : ∃ V, X0.alloc (.cells #[Value.int .i64 0, .slice none 0 0, .bool false] 28) = V := ⟨_, rfl⟩
     have u1 : Below X0.heap.size X0 Y1 := by rw [← hY1]; exact below_alloc1 _ _
     have z12 := Bk.mk hY1
     have t_Y1 : Below wr.heap.size wr Y1 := tt.trans (u1.mono tt.size)
     obtain ⟨k12, hk12⟩ : ∃ q, X0.heap.size = q := ⟨_, rfl⟩
     rw [hk12] at z12
     have h12 : Hid (wr.heap.size ≤ k12) := Lib.hid (by rw [← hk12]; exact tt.size)
     try rw [hY1]
     try rw [hk12]
     clear hY1 hk12
     refine hK.out _ _ (KS.out _ t_Y1) (fun _ => ?_)
     clear hK K
     refine wpAnyH_ready (rs := [3]) (by kernel_rfl) (by simp) ?_
     refine AllReadyH.cons rfl (fun K hK => ?_) AllReadyH.nil
     go_simp
     have apart0 := z12.lt
     obtain ⟨Y2, hY2⟩ : ∃ V, Y1.alloc (.cells #[Value.int .i64 0, .slice none 0 0, .bool false] 32) = V := ⟨_, rfl⟩
     have u2 : Below Y1.heap.size Y1 Y2 := by rw [← hY2]; exact below_alloc1 _ _
     have z13 := Bk.mk hY2
     have t_Y2 : Below wr.heap.size wr Y2 := t_Y1.trans (u2.mono t_Y1.size)
     replace z12 := z12.step u2
     obtain ⟨k13, hk13⟩ : ∃ q, Y1.heap.size = q := ⟨_, rfl⟩
     rw [hk13] at z13
     have h13 : Hid (wr.heap.size ≤ k13) := Lib.hid (by rw [← hk13]; exact t_Y1.size)
     have apart : k12 < k13 := by rw [← hk13]; exact apart0
     try rw [hY2]
     try rw [hk13]
     clear hY2 apart0 hk13
     refine hK.out _ _ (KS.out _ t_Y2) (fun _ => ?_)
     clear hK K
     refine wpAnyH_ready (rs := [4]) (by kernel_rfl) (by simp) ?_
     refine AllReadyH.cons rfl (fun K hK => ?_) AllReadyH.nil
     obtain ⟨ZX, hZX⟩ : ∃ V, ((((Y2).setCell ⟨k12, 0, none⟩ (.int .i64 m)).setCell ⟨k12, 1, none⟩ (.slice A n c)).setCell ⟨k12, 2, none⟩ (.bool o)) = V := ⟨_, rfl⟩
     have tZX : Below wr.heap.size wr ZX := by rw [← hZX]; exact below_st3 t_Y2 h12.out (.int .i64 m) (.slice A n c) (.bool o)
     have G12 : Bk ZX k12 (.cells #[.int .i64 m, .slice A n c, .bool o] 28) := by rw [← hZX]; exact kz3_set z12 (.int .i64 m) (.slice A n c) (.bool o)
     have z13b : Bk ZX k13 (.cells #[Value.int .i64 0, .slice none 0 0, .bool false] 32) := by rw [← hZX]; exact z13.far3 (Nat.ne_of_gt apart) _ _ _
     replace z13 := z13b
     obtain ⟨z0, z1, z2, g0, g1, g2, hzl⟩ := kz3_at z12
     go_simp
     try rw [hZX]
     clear z0 z1 z2 g0 g1 g2 hzl hZX
     refine hK.out _ _ (KS.out _ tZX) (fun _ => ?_)
     clear hK K
     refine wpAnyH_ready (rs := [5]) (by kernel_rfl) (by simp) ?_
     refine AllReadyH.cons rfl (fun K hK => ?_) AllReadyH.nil
     obtain ⟨ZY, hZY⟩ : ∃ V, ((((ZX).setCell ⟨k13, 0, none⟩ (.int .i64 m)).setCell ⟨k13, 1, none⟩ (.slice A' n c')).setCell ⟨k13, 2, none⟩ (.bool o)) = V := ⟨_, rfl⟩
     have tZY : Below wr.heap.size wr ZY := by rw [← hZY]; exact below_st3 tZX h13.out (.int .i64 m) (.slice A' n c') (.bool o)
     have G13 : Bk ZY k13 (.cells #[.int .i64 m, .slice A' n c', .bool o] 32) := by rw [← hZY]; exact kz3_set z13 (.int .i64 m) (.slice A' n c') (.bool o)
     have G12b : Bk ZY k12 (.cells #[.int .i64 m, .slice A n c, .bool o] 28) := by rw [← hZY]; exact G12.far3 (Nat.ne_of_lt apart) _ _ _
     obtain ⟨z0, z1, z2, g0, g1, g2, hzl⟩ := kz3_at z13
     go_simp
     try rw [hZY]
     clear z0 z1 z2 g0 g1 g2 hzl hZY
     refine hK.out _ _ (KS.out _ tZY) (fun _ => ?_)
     clear hK K
     refine wpAnyH_done (by kernel_rfl) ?_ _
     go_wp2
     go_meet
     case rel => exact ⟨k12, k13, rfl, rfl, Lib.hid tZY, Lib.hid G12b, Lib.hid G13⟩
    refine AllReadyH.cons rfl (fun K hK => ?_) AllReadyH.nil
    go_simp
    obtain ⟨Y1, hY1⟩ : ∃ V, X0.alloc (.cells #[Value.int .i64 0, .slice none 0 0, .bool false] 32) = V := ⟨_, rfl⟩
    have u1 : Below X0.heap.size X0 Y1 := by rw [← hY1]; exact below_alloc1 _ _
    have z13 := Bk.mk hY1
    have t_Y1 : Below wr.heap.size wr Y1 := tt.trans (u1.mono tt.size)
    obtain ⟨k13, hk13⟩ : ∃ q, X0.heap.size = q := ⟨_, rfl⟩
    rw [hk13] at z13
    have h13 : Hid (wr.heap.size ≤ k13) := Lib.hid (by rw [← hk13]; exact tt.size)
    try rw [hY1]
    try rw [hk13]
    clear hY1 hk13
    refine hK.out _ _ (KS.out _ t_Y1) (fun _ => ?_)
    clear hK K
    refine wpAnyH_ready (rs := [2]) (by kernel_rfl) (by simp) ?_
    refine AllReadyH.cons rfl (fun K hK => ?_) AllReadyH.nil
    go_simp
    have apart0 := z13.lt
    obtain ⟨Y2, hY2⟩ : ∃ V, Y1.alloc (.cells #[Value.int .i64 0, .slice none 0 0, .bool false] 28) = V := ⟨_, rfl⟩
    have u2 : Below Y1.heap.size Y1 Y2 := by rw [← hY2]; exact below_alloc1 _ _
    have z12 := Bk.mk hY2
    have t_Y2 : Below wr.heap.size wr Y2 := t_Y1.trans (u2.mono t_Y1.size)
    replace z13 := z13.step u2
    obtain ⟨k12, hk12⟩ : ∃ q, Y1.heap.size = q := ⟨_, rfl⟩
    rw [hk12] at z12
    have h12 : Hid (wr.heap.size ≤ k12) := Lib.hid (by rw [← hk12]; exact t_Y1.size)
    have apart : k13 < k12 := by rw [← hk12]; exact apart0
    try rw [hY2]
    try rw [hk12]
    clear hY2 apart0 hk12
    refine hK.out _ _ (KS.out _ t_Y2) (fun _ => ?_)
    clear hK K
    refine wpAnyH_ready (rs := [4]) (by kernel_rfl) (by simp) ?_
    refine AllReadyH.cons rfl (fun K hK => ?_) AllReadyH.nil
    obtain ⟨ZX, hZX⟩ : ∃ V, ((((Y2).setCell ⟨k12, 0, none⟩ (.int .i64 m)).setCell ⟨k12, 1, none⟩ (.slice A n c)).setCell ⟨k12, 2, none⟩ (.bool o)) = V := ⟨_, rfl⟩
    have tZX : Below wr.heap.size wr ZX := by rw [← hZX]; exact below_st3 t_Y2 h12.out (.int .i64 m) (.slice A n c) (.bool o)
    have G12 : Bk ZX k12 (.cells #[.int .i64 m, .slice A n c, .bool o] 28) := by rw [← hZX]; exact kz3_set z12 (.int .i64 m) (.slice A n c) (.bool o)
    have z13b : Bk ZX k13 (.cells #[Value.int .i64 0, .slice none 0 0, .bool false] 32) := by rw [← hZX]; exact z13.far3 (Nat.ne_of_lt apart) _ _ _
    replace z13 := z13b
    obtain ⟨z0, z1, z2, g0, g1, g2, hzl⟩ := kz3_at z12
    go_simp
    try rw [hZX]
    clear z0 z1 z2 g0 g1 g2 hzl hZX
    refine hK.out _ _ (KS.out _ tZX) (fun _ => ?_)
    clear hK K
    refine wpAnyH_ready (rs := [5]) (by kernel_rfl) (by simp) ?_
    refine AllReadyH.cons rfl (fun K hK => ?_) AllReadyH.nil
    obtain ⟨ZY, hZY⟩ : ∃ V, ((((ZX).setCell ⟨k13, 0, none⟩ (.int .i64 m)).setCell ⟨k13, 1, none⟩ (.slice A' n c')).setCell ⟨k13, 2, none⟩ (.bool o)) = V := ⟨_, rfl⟩
    have tZY : Below wr.heap.size wr ZY := by rw [← hZY]; exact below_st3 tZX h13.out (.int .i64 m) (.slice A' n c') (.bool o)
    have G13 : Bk ZY k13 (.cells #[.int .i64 m, .slice A' n c', .bool o] 32) := by rw [← hZY]; exact kz3_set z13 (.int .i64 m) (.slice A' n c') (.bool o)
    have G12b : Bk ZY k12 (.cells #[.int .i64 m, .slice A n c, .bool o] 28) := by rw [← hZY]; exact G12.far3 (Nat.ne_of_gt apart) _ _ _
    obtain ⟨z0, z1, z2, g0, g1, g2, hzl⟩ := kz3_at z13
    go_simp
    try rw [hZY]
    clear z0 z1 z2 g0 g1 g2 hzl hZY
    refine hK.out _ _ (KS.out _ tZY) (fun _ => ?_)
    clear hK K
    refine wpAnyH_done (by kernel_rfl) ?_ _
    go_wp2
    go_meet
    case rel => exact ⟨k12, k13, rfl, rfl, Lib.hid tZY, Lib.hid G12b, Lib.hid G13⟩
   case rest =>
    obtain ⟨k12, k13, rfl, rfl, T9, G12, G13⟩ := hcut
    rename World => W9
    have HB9 := Lib.hid (HB.out.trans (T9.out.mono HB.out.size))
    have HGS9 := Lib.hid (HGS.out.step T9.out)
    have HGM9 := Lib.hid (HGM.out.step T9.out)
    have HTW9 := Lib.hid (HTW.out.step T9.out)
    clear KS HGS HGM HTW T9
    have KS : Hid (∀ V, Below W9.heap.size W9 V → ((V.cell? ⟨ka, 0, none⟩ = some (.int .i64 m) ∧ V.cell? ⟨ka, 1, none⟩ = some (.slice A n c) ∧ V.cell? ⟨ka, 2, none⟩ = some (.bool o)) ∧ (V.cell? ⟨kb, 0, none⟩ = some (.int .i64 m) ∧ V.cell? ⟨kb, 1, none⟩ = some (.slice A' n c') ∧ V.cell? ⟨kb, 2, none⟩ = some (.bool o))) ∧ V.cell? ⟨b, off + k * 14, none⟩ = some (.int .i64 a.kd) ∧ V.cell? ⟨b, off + k * 14 + 1, none⟩ = some (.int .i64 a.yb) ∧ V.cell? ⟨b, off + k * 14 + 2, none⟩ = some (.int .i64 a.x.h.a) ∧ V.cell? ⟨b, off + k * 14 + 3, none⟩ = some (.int .i64 a.x.h.o) ∧ V.cell? ⟨b, off + k * 14 + 4, none⟩ = some (.int .i64 a.x.h.t) ∧ V.cell? ⟨b, off + k * 14 + 5, none⟩ = some (.int .u32 a.x.h.i) ∧ V.cell? ⟨b, off + k * 14 + 6, none⟩ = some (.int .u32 a.x.h.v) ∧ V.cell? ⟨b, off + k * 14 + 7, none⟩ = some (.int .u32 a.x.h.q) ∧ V.cell? ⟨b, off + k * 14 + 8, none⟩ = some (.int .i64 a.x.h.s) ∧ V.cell? ⟨b, off + k * 14 + 9, none⟩ = some (.int .i64 a.x.h.n) ∧ V.cell? ⟨b, off + k * 14 + 10, none⟩ = some (.slice a.x.A a.x.l.length a.x.c) ∧ V.cell? ⟨b, off + k * 14 + 11, none⟩ = some (.int .i64 a.k.t) ∧ V.cell? ⟨b, off + k * 14 + 12, none⟩ = some (.int .u32 a.k.i) ∧ V.cell? ⟨b, off + k * 14 + 13, none⟩ = some (.int .u32 a.k.v)) := Lib.hid (fun V hV => by
     obtain ⟨s0, s1, s2, -⟩ := kz3_at (HGS9.out.step hV)
     obtain ⟨t0, t1, t2, -⟩ := kz3_at (HGM9.out.step hV)
     exact ⟨⟨⟨s0, s1, s2⟩, t0, t1, t2⟩, HAR.out V (HB9.out.trans (hV.mono HB9.out.size))⟩)
    have CA := fun V (hV : Below W9.heap.size W9 V) => act_any a.kd a.yb a.x ⟨0, 0, a.k.t, a.k.i, a.k.v, 0, 0, 0⟩ m A A' n c c' o L L' V HOX.out.ok HOX.out.y (by omega) HOX.out.cp (HBX.out V (HB9.out.trans (hV.mono HB9.out.size))) (HTW9.out.step hV) HMM.out.2
    simp only [ActP] at CA
    go_upto_region 10 with fail
    go_cut [14, 15, 16] (fun v14 v15 v16 wx => ∃ k14 k15 : Nat, v14 = .pointer (some ⟨k14, 0, none⟩) ∧ v15 = .pointer (some ⟨k15, 0, none⟩) ∧ v16 = .bool true ∧ Hid (Below W9.heap.size W9 wx) ∧ Hid (∃ n1 o1 A1 c1 A2 c2 L1 L2, Bk wx k14 (.cells #[.int .i64 m, .slice A1 n1 c1, .bool o1] 28) ∧ Bk wx k15 (.cells #[.int .i64 m, .slice A2 n1 c2, .bool o1] 32) ∧ Two wx m n1 A1 A2 L1 L2))
    case first =>
     have tt : Below W9.heap.size W9 W9 := Below.refl _ _
     refine wp_region_held_drew (S := fun V => ((V.cell? ⟨ka, 0, none⟩ = some (.int .i64 m) ∧ V.cell? ⟨ka, 1, none⟩ = some (.slice A n c) ∧ V.cell? ⟨ka, 2, none⟩ = some (.bool o)) ∧ (V.cell? ⟨kb, 0, none⟩ = some (.int .i64 m) ∧ V.cell? ⟨kb, 1, none⟩ = some (.slice A' n c') ∧ V.cell? ⟨kb, 2, none⟩ = some (.bool o))) ∧ V.cell? ⟨b, off + k * 14, none⟩ = some (.int .i64 a.kd) ∧ V.cell? ⟨b, off + k * 14 + 1, none⟩ = some (.int .i64 a.yb) ∧ V.cell? ⟨b, off + k * 14 + 2, none⟩ = some (.int .i64 a.x.h.a) ∧ V.cell? ⟨b, off + k * 14 + 3, none⟩ = some (.int .i64 a.x.h.o) ∧ V.cell? ⟨b, off + k * 14 + 4, none⟩ = some (.int .i64 a.x.h.t) ∧ V.cell? ⟨b, off + k * 14 + 5, none⟩ = some (.int .u32 a.x.h.i) ∧ V.cell? ⟨b, off + k * 14 + 6, none⟩ = some (.int .u32 a.x.h.v) ∧ V.cell? ⟨b, off + k * 14 + 7, none⟩ = some (.int .u32 a.x.h.q) ∧ V.cell? ⟨b, off + k * 14 + 8, none⟩ = some (.int .i64 a.x.h.s) ∧ V.cell? ⟨b, off + k * 14 + 9, none⟩ = some (.int .i64 a.x.h.n) ∧ V.cell? ⟨b, off + k * 14 + 10, none⟩ = some (.slice a.x.A a.x.l.length a.x.c) ∧ V.cell? ⟨b, off + k * 14 + 11, none⟩ = some (.int .i64 a.k.t) ∧ V.cell? ⟨b, off + k * 14 + 12, none⟩ = some (.int .u32 a.k.i) ∧ V.cell? ⟨b, off + k * 14 + 13, none⟩ = some (.int .u32 a.k.v)) (by kernel_rfl) (KS.out _ tt.drew) (fun hHeld => ?_)
     replace tt : Below W9.heap.size W9 W9.drew := tt.drew
     generalize hX0 : W9.drew = X0 at tt hHeld ⊢
     clear hX0
     refine wpAnyH_take (i := 0) (v := ?_) rfl (by kernel_rfl) (by kernel_rfl) (by kernel_rfl) (fun _ _ _ h => h) (Or.inl ⟨by rfl, ?_⟩) (by assumption) ?_
     rotate_left
     ·(intro w' hSw; (try dsimp only at hSw); go_simp; try with_reducible rfl)
     simp only [Act.put, getElem_toArray, getElem_cons_zero, setIfInBounds_toArray, set_cons_zero, set_cons_succ]
     refine wpAnyH_take (i := 1) (v := ?_) rfl (by kernel_rfl) (by kernel_rfl) (by kernel_rfl) (fun _ _ _ h => h) (Or.inl ⟨by rfl, ?_⟩) (by assumption) ?_
     rotate_left
     ·(intro w' hSw; (try dsimp only at hSw); go_simp; try with_reducible rfl)
     simp only [Act.put, getElem_toArray, getElem_cons_zero, getElem_cons_succ, setIfInBounds_toArray, set_cons_zero, set_cons_succ]
     refine wpAnyH_take (i := 2) (v := ?_) rfl (by kernel_rfl) (by kernel_rfl) (by kernel_rfl) (fun _ _ _ h => h) (Or.inl ⟨by rfl, ?_⟩) (by assumption) ?_
     rotate_left
     ·(intro w' hSw; (try dsimp only at hSw); go_simp; try with_reducible rfl)
     simp only [Act.put, getElem_toArray, getElem_cons_zero, getElem_cons_succ, setIfInBounds_toArray, set_cons_zero, set_cons_succ]
     refine wpAnyH_take (i := 3) (v := ?_) rfl (by kernel_rfl) (by kernel_rfl) (by kernel_rfl) (fun _ _ _ h => h) (Or.inl ⟨by rfl, ?_⟩) (by assumption) ?_
     rotate_left
     ·(intro w' hSw; (try dsimp only at hSw); go_simp; try with_reducible rfl)
     simp only [Act.put, getElem_toArray, getElem_cons_zero, getElem_cons_succ, setIfInBounds_toArray, set_cons_zero, set_cons_succ]
     refine wpAnyH_take (i := 4) (v := ?_) rfl (by kernel_rfl) (by kernel_rfl) (by kernel_rfl) (fun _ _ _ h => h) (Or.inl ⟨by rfl, ?_⟩) (by assumption) ?_
     rotate_left
     ·(intro w' hSw; (try dsimp only at hSw); go_simp; try with_reducible rfl)
     simp only [Act.put, getElem_toArray, getElem_cons_zero, getElem_cons_succ, setIfInBounds_toArray, set_cons_zero, set_cons_succ]
     refine wpAnyH_take (i := 5) (v := ?_) rfl (by kernel_rfl) (by kernel_rfl) (by kernel_rfl) (fun _ _ _ h => h) (Or.inl ⟨by rfl, ?_⟩) (by assumption) ?_
     rotate_left
     ·(intro w' hSw; (try dsimp only at hSw); go_simp; try with_reducible rfl)
     simp only [Act.put, getElem_toArray, getElem_cons_zero, getElem_cons_succ, setIfInBounds_toArray, set_cons_zero, set_cons_succ]
     refine wpAnyH_ready (rs := [6, 11, 12]) (by kernel_rfl) (by simp) ?_
     refine AllReadyH.cons rfl (fun K hK => ?_) ?_
     ·go_simp
      go_at_call 7
      refine (CA X0 tt).mono ?_
      rintro e Y1 ⟨n1, o1, A1, c1, A2, c2, L1, L2, rfl, tw, u1⟩
      have t_Y1 : Below W9.heap.size W9 Y1 := tt.trans (u1.mono tt.size)
      refine hK.out _ _ (KS.out _ t_Y1) (fun _ => ?_)
      clear hK K
      refine wpAnyH_take (i := 7) (v := ?_) rfl (by kernel_rfl) (by kernel_rfl) (by kernel_rfl) (fun _ _ _ h => h) (Or.inl ⟨by rfl, ?_⟩) (by assumption) ?_
      rotate_left
      ·(intro w' hSw; (try dsimp only at hSw); go_simp; try with_reducible rfl)
      simp only [Act.put, getElem_toArray, getElem_cons_zero, getElem_cons_succ, setIfInBounds_toArray, set_cons_zero, set_cons_succ]
      refine wpAnyH_take (i := 8) (v := ?_) rfl (by kernel_rfl) (by kernel_rfl) (by kernel_rfl) (fun _ _ _ h => h) (Or.inl ⟨by rfl, ?_⟩) (by assumption) ?_
      rotate_left
      ·(intro w' hSw; (try dsimp only at hSw); go_simp; try with_reducible rfl)
      simp only [Act.put, getElem_toArray, getElem_cons_zero, getElem_cons_succ, setIfInBounds_toArray, set_cons_zero, set_cons_succ]
      refine wpAnyH_take (i := 9) (v := ?_) rfl (by kernel_rfl) (by kernel_rfl) (by kernel_rfl) (fun _ _ _ h => h) (Or.inl ⟨by rfl, ?_⟩) (by assumption) ?_
      rotate_left
      ·(intro w' hSw; (try dsimp only at hSw); go_simp; try with_reducible rfl)
      simp only [Act.put, getElem_toArray, getElem_cons_zero, getElem_cons_succ, setIfInBounds_toArray, set_cons_zero, set_cons_succ]
      refine wpAnyH_take (i := 10) (v := ?_) rfl (by kernel_rfl) (by kernel_rfl) (by kernel_rfl) (fun _ _ _ h => h) (Or.inl ⟨by rfl, ?_⟩) (by assumption) ?_
      rotate_left
      ·(intro w' hSw; (try dsimp only at hSw); go_simp; try with_reducible rfl)
      simp only [Act.put, getElem_toArray, getElem_cons_zero, getElem_cons_succ, setIfInBounds_toArray, set_cons_zero, set_cons_succ]
      refine wpAnyH_ready (rs := [11, 12]) (by kernel_rfl) (by simp) ?_
      refine AllReadyH.cons rfl (fun K hK => ?_) ?_
      ·go_simp
       obtain ⟨Y2, hY2⟩ : ∃ V, Y1.alloc (.cells #[Value.int .i64 0, .slice none 0 0, .bool false] 28) = V := ⟨_, rfl⟩
       have u2 : Below Y1.heap.size Y1 Y2 := by rw [← hY2]; exact below_alloc1 _ _
       have z14 := Bk.mk hY2
       have t_Y2 : Below W9.heap.size W9 Y2 := t_Y1.trans (u2.mono t_Y1.size)
       replace tw := tw.step u2
       obtain ⟨k14, hk14⟩ : ∃ q, Y1.heap.size = q := ⟨_, rfl⟩
       rw [hk14] at z14
       have h14 : Hid (W9.heap.size ≤ k14) := Lib.hid (by rw [← hk14]; exact t_Y1.size)
       try rw [hY2]
       try rw [hk14]
       clear hY2 hk14
       refine hK.out _ _ (KS.out _ t_Y2) (fun _ => ?_)
       clear hK K
       refine wpAnyH_ready (rs := [12]) (by kernel_rfl) (by simp) ?_
       refine AllReadyH.cons rfl (fun K hK => ?_) AllReadyH.nil
       go_simp
       have apart0 := z14.lt
       obtain ⟨Y3, hY3⟩ : ∃ V, Y2.alloc (.cells #[Value.int .i64 0, .slice none 0 0, .bool false] 32) = V := ⟨_, rfl⟩
       have u3 : Below Y2.heap.size Y2 Y3 := by rw [← hY3]; exact below_alloc1 _ _
       have z15 := Bk.mk hY3
       have t_Y3 : Below W9.heap.size W9 Y3 := t_Y2.trans (u3.mono t_Y2.size)
       replace tw := tw.step u3
       replace z14 := z14.step u3
       obtain ⟨k15, hk15⟩ : ∃ q, Y2.heap.size = q := ⟨_, rfl⟩
       rw [hk15] at z15
       have h15 : Hid (W9.heap.size ≤ k15) := Lib.hid (by rw [← hk15]; exact t_Y2.size)
       have apart : k14 < k15 := by rw [← hk15]; exact apart0
       try rw [hY3]
       try rw [hk15]
       clear hY3 apart0 hk15
       refine hK.out _ _ (KS.out _ t_Y3) (fun _ => ?_)
       clear hK K
       refine wpAnyH_ready (rs := [13]) (by kernel_rfl) (by simp) ?_
       refine AllReadyH.cons rfl (fun K hK => ?_) AllReadyH.nil
       obtain ⟨ZX, hZX⟩ : ∃ V, ((((Y3).setCell ⟨k14, 0, none⟩ (.int .i64 m)).setCell ⟨k14, 1, none⟩ (.slice A1 n1 c1)).setCell ⟨k14, 2, none⟩ (.bool o1)) = V := ⟨_, rfl⟩
       have tZX : Below W9.heap.size W9 ZX := by rw [← hZX]; exact below_st3 t_Y3 h14.out (.int .i64 m) (.slice A1 n1 c1) (.bool o1)
       have G14 : Bk ZX k14 (.cells #[.int .i64 m, .slice A1 n1 c1, .bool o1] 28) := by rw [← hZX]; exact kz3_set z14 (.int .i64 m) (.slice A1 n1 c1) (.bool o1)
       have z15b : Bk ZX k15 (.cells #[Value.int .i64 0, .slice none 0 0, .bool false] 32) := by rw [← hZX]; exact z15.far3 (Nat.ne_of_gt apart) _ _ _
       replace z15 := z15b
       have twb : Two ZX m n1 A1 A2 L1 L2 := by rw [← hZX]; exact tw.kps z14 _ _ _
       obtain ⟨z0, z1, z2, g0, g1, g2, hzl⟩ := kz3_at z14
       go_simp
       try rw [hZX]
       clear z0 z1 z2 g0 g1 g2 hzl hZX
       refine hK.out _ _ (KS.out _ tZX) (fun _ => ?_)
       clear hK K
       refine wpAnyH_ready (rs := [14]) (by kernel_rfl) (by simp) ?_
       refine AllReadyH.cons rfl (fun K hK => ?_) AllReadyH.nil
       obtain ⟨ZY, hZY⟩ : ∃ V, ((((ZX).setCell ⟨k15, 0, none⟩ (.int .i64 m)).setCell ⟨k15, 1, none⟩ (.slice A2 n1 c2)).setCell ⟨k15, 2, none⟩ (.bool o1)) = V := ⟨_, rfl⟩
       have tZY : Below W9.heap.size W9 ZY := by rw [← hZY]; exact below_st3 tZX h15.out (.int .i64 m) (.slice A2 n1 c2) (.bool o1)
       have G15 : Bk ZY k15 (.cells #[.int .i64 m, .slice A2 n1 c2, .bool o1] 32) := by rw [← hZY]; exact kz3_set z15 (.int .i64 m) (.slice A2 n1 c2) (.bool o1)
       have G14b : Bk ZY k14 (.cells #[.int .i64 m, .slice A1 n1 c1, .bool o1] 28) := by rw [← hZY]; exact G14.far3 (Nat.ne_of_lt apart) _ _ _
       have twc : Two ZY m n1 A1 A2 L1 L2 := by rw [← hZY]; exact twb.kps z15 _ _ _
       obtain ⟨z0, z1, z2, g0, g1, g2, hzl⟩ := kz3_at z15
       go_simp
       try rw [hZY]
       clear z0 z1 z2 g0 g1 g2 hzl hZY
       refine hK.out _ _ (KS.out _ tZY) (fun _ => ?_)
       clear hK K
       refine wpAnyH_ready (rs := [15]) (by kernel_rfl) (by simp) ?_
       refine AllReadyH.cons rfl (fun K hK => ?_) AllReadyH.nil
       go_simp
       refine hK.out _ _ (KS.out _ tZY) (fun _ => ?_)
       clear hK K
       refine wpAnyH_done (by kernel_rfl) ?_ _
       go_wp2
       go_meet
       case rel => exact ⟨k14, k15, rfl, rfl, rfl, Lib.hid tZY, Lib.hid ⟨n1, o1, A1, c1, A2, c2, L1, L2, G14b, G15, twc⟩⟩
      refine AllReadyH.cons rfl (fun K hK => ?_) AllReadyH.nil
      go_simp
      obtain ⟨Y2, hY2⟩ : ∃ V, Y1.alloc (.cells #[Value.int .i64 0, .slice none 0 0, .bool false] 32) = V := ⟨_, rfl⟩
      have u2 : Below Y1.heap.size Y1 Y2 := by rw [← hY2]; exact below_alloc1 _ _
      have z15 := Bk.mk hY2
      have t_Y2 : Below W9.heap.size W9 Y2 := t_Y1.trans (u2.mono t_Y1.size)
      replace tw := tw.step u2
      obtain ⟨k15, hk15⟩ : ∃ q, Y1.heap.size = q := ⟨_, rfl⟩
      rw [hk15] at z15
      have h15 : Hid (W9.heap.size ≤ k15) := Lib.hid (by rw [← hk15]; exact t_Y1.size)
      try rw [hY2]
      try rw [hk15]
      clear hY2 hk15
      refine hK.out _ _ (KS.out _ t_Y2) (fun _ => ?_)
      clear hK K
      refine wpAnyH_ready (rs := [11]) (by kernel_rfl) (by simp) ?_
      refine AllReadyH.cons rfl (fun K hK => ?_) AllReadyH.nil
      go_simp
      have apart0 := z15.lt
      obtain ⟨Y3, hY3⟩ : ∃ V, Y2.alloc (.cells #[Value.int .i64 0, .slice none 0 0, .bool false] 28) = V := ⟨_, rfl⟩
      have u3 : Below Y2.heap.size Y2 Y3 := by rw [← hY3]; exact below_alloc1 _ _
      have z14 := Bk.mk hY3
      have t_Y3 : Below W9.heap.size W9 Y3 := t_Y2.trans (u3.mono t_Y2.size)
      replace tw := tw.step u3
      replace z15 := z15.step u3
      obtain ⟨k14, hk14⟩ : ∃ q, Y2.heap.size = q := ⟨_, rfl⟩
      rw [hk14] at z14
      have h14 : Hid (W9.heap.size ≤ k14) := Lib.hid (by rw [← hk14]; exact t_Y2.size)
      have apart : k15 < k14 := by rw [← hk14]; exact apart0
      try rw [hY3]
      try rw [hk14]
      clear hY3 apart0 hk14
      refine hK.out _ _ (KS.out _ t_Y3) (fun _ => ?_)
      clear hK K
      refine wpAnyH_ready (rs := [13]) (by kernel_rfl) (by simp) ?_
      refine AllReadyH.cons rfl (fun K hK => ?_) AllReadyH.nil
      obtain ⟨ZX, hZX⟩ : ∃ V, ((((Y3).setCell ⟨k14, 0, none⟩ (.int .i64 m)).setCell ⟨k14, 1, none⟩ (.slice A1 n1 c1)).setCell ⟨k14, 2, none⟩ (.bool o1)) = V := ⟨_, rfl⟩
      have tZX : Below W9.heap.size W9 ZX := by rw [← hZX]; exact below_st3 t_Y3 h14.out (.int .i64 m) (.slice A1 n1 c1) (.bool o1)
      have G14 : Bk ZX k14 (.cells #[.int .i64 m, .slice A1 n1 c1, .bool o1] 28) := by rw [← hZX]; exact kz3_set z14 (.int .i64 m) (.slice A1 n1 c1) (.bool o1)
      have z15b : Bk ZX k15 (.cells #[Value.int .i64 0, .slice none 0 0, .bool false] 32) := by rw [← hZX]; exact z15.far3 (Nat.ne_of_lt apart) _ _ _
      replace z15 := z15b
      have twb : Two ZX m n1 A1 A2 L1 L2 := by rw [← hZX]; exact tw.kps z14 _ _ _
      obtain ⟨z0, z1, z2, g0, g1, g2, hzl⟩ := kz3_at z14
      go_simp
      try rw [hZX]
      clear z0 z1 z2 g0 g1 g2 hzl hZX
      refine hK.out _ _ (KS.out _ tZX) (fun _ => ?_)
      clear hK K
      refine wpAnyH_ready (rs := [14]) (by kernel_rfl) (by simp) ?_
      refine AllReadyH.cons rfl (fun K hK => ?_) AllReadyH.nil
      obtain ⟨ZY, hZY⟩ : ∃ V, ((((ZX).setCell ⟨k15, 0, none⟩ (.int .i64 m)).setCell ⟨k15, 1, none⟩ (.slice A2 n1 c2)).setCell ⟨k15, 2, none⟩ (.bool o1)) = V := ⟨_, rfl⟩
      have tZY : Below W9.heap.size W9 ZY := by rw [← hZY]; exact below_st3 tZX h15.out (.int .i64 m) (.slice A2 n1 c2) (.bool o1)
      have G15 : Bk ZY k15 (.cells #[.int .i64 m, .slice A2 n1 c2, .bool o1] 32) := by rw [← hZY]; exact kz3_set z15 (.int .i64 m) (.slice A2 n1 c2) (.bool o1)
      have G14b : Bk ZY k14 (.cells #[.int .i64 m, .slice A1 n1 c1, .bool o1] 28) := by rw [← hZY]; exact G14.far3 (Nat.ne_of_gt apart) _ _ _
      have twc : Two ZY m n1 A1 A2 L1 L2 := by rw [← hZY]; exact twb.kps z15 _ _ _
      obtain ⟨z0, z1, z2, g0, g1, g2, hzl⟩ := kz3_at z15
      go_simp
      try rw [hZY]
      clear z0 z1 z2 g0 g1 g2 hzl hZY
      refine hK.out _ _ (KS.out _ tZY) (fun _ => ?_)
      clear hK K
      refine wpAnyH_ready (rs := [15]) (by kernel_rfl) (by simp) ?_
      refine AllReadyH.cons rfl (fun K hK => ?_) AllReadyH.nil
      go_simp
      refine hK.out _ _ (KS.out _ tZY) (fun _ => ?_)
      clear hK K
      refine wpAnyH_done (by kernel_rfl) ?_ _
      go_wp2
      go_meet
      case rel => exact ⟨k14, k15, rfl, rfl, rfl, Lib.hid tZY, Lib.hid ⟨n1, o1, A1, c1, A2, c2, L1, L2, G14b, G15, twc⟩⟩
     refine AllReadyH.cons rfl (fun K hK => ?_) ?_
     ·go_simp
      obtain ⟨Y1, hY1⟩ : ∃ V, X0.alloc (.cells #[Value.int .i64 0, .slice none 0 0, .bool false] 28) = V := ⟨_, rfl⟩
      have u1 : Below X0.heap.size X0 Y1 := by rw [← hY1]; exact below_alloc1 _ _
      have z14 := Bk.mk hY1
      have t_Y1 : Below W9.heap.size W9 Y1 := tt.trans (u1.mono tt.size)
      obtain ⟨k14, hk14⟩ : ∃ q, X0.heap.size = q := ⟨_, rfl⟩
      rw [hk14] at z14
      have h14 : Hid (W9.heap.size ≤ k14) := Lib.hid (by rw [← hk14]; exact tt.size)
      try rw [hY1]
      try rw [hk14]
      clear hY1 hk14
      refine hK.out _ _ (KS.out _ t_Y1) (fun _ => ?_)
      clear hK K
      refine wpAnyH_ready (rs := [6, 12]) (by kernel_rfl) (by simp) ?_
      refine AllReadyH.cons rfl (fun K hK => ?_) ?_
      ·go_simp
       go_at_call 7
       refine (CA Y1 t_Y1).mono ?_
       rintro e Y2 ⟨n1, o1, A1, c1, A2, c2, L1, L2, rfl, tw, u2⟩
       have t_Y2 : Below W9.heap.size W9 Y2 := t_Y1.trans (u2.mono t_Y1.size)
       replace z14 := z14.step u2
       refine hK.out _ _ (KS.out _ t_Y2) (fun _ => ?_)
       clear hK K
       refine wpAnyH_take (i := 7) (v := ?_) rfl (by kernel_rfl) (by kernel_rfl) (by kernel_rfl) (fun _ _ _ h => h) (Or.inl ⟨by rfl, ?_⟩) (by assumption) ?_
       rotate_left
       ·(intro w' hSw; (try dsimp only at hSw); go_simp; try with_reducible rfl)
       simp only [Act.put, getElem_toArray, getElem_cons_zero, getElem_cons_succ, setIfInBounds_toArray, set_cons_zero, set_cons_succ]
       refine wpAnyH_take (i := 8) (v := ?_) rfl (by kernel_rfl) (by kernel_rfl) (by kernel_rfl) (fun _ _ _ h => h) (Or.inl ⟨by rfl, ?_⟩) (by assumption) ?_
       rotate_left
       ·(intro w' hSw; (try dsimp only at hSw); go_simp; try with_reducible rfl)
       simp only [Act.put, getElem_toArray, getElem_cons_zero, getElem_cons_succ, setIfInBounds_toArray, set_cons_zero, set_cons_succ]
       refine wpAnyH_take (i := 9) (v := ?_) rfl (by kernel_rfl) (by kernel_rfl) (by kernel_rfl) (fun _ _ _ h => h) (Or.inl ⟨by rfl, ?_⟩) (by assumption) ?_
       rotate_left
       ·(intro w' hSw; (try dsimp only at hSw); go_simp; try with_reducible rfl)
       simp only [Act.put, getElem_toArray, getElem_cons_zero, getElem_cons_succ, setIfInBounds_toArray, set_cons_zero, set_cons_succ]
       refine wpAnyH_take (i := 10) (v := ?_) rfl (by kernel_rfl) (by kernel_rfl) (by kernel_rfl) (fun _ _ _ h => h) (Or.inl ⟨by rfl, ?_⟩) (by assumption) ?_
       rotate_left
       ·(intro w' hSw; (try dsimp only at hSw); go_simp; try with_reducible rfl)
       simp only [Act.put, getElem_toArray, getElem_cons_zero, getElem_cons_succ, setIfInBounds_toArray, set_cons_zero, set_cons_succ]
       refine wpAnyH_ready (rs := [12]) (by kernel_rfl) (by simp) ?_
       refine AllReadyH.cons rfl (fun K hK => ?_) AllReadyH.nil
       go_simp
       have apart0 := z14.lt
       obtain ⟨Y3, hY3⟩ : ∃ V, Y2.alloc (.cells #[Value.int .i64 0, .slice none 0 0, .bool false] 32) = V := ⟨_, rfl⟩
       have u3 : Below Y2.heap.size Y2 Y3 := by rw [← hY3]; exact below_alloc1 _ _
       have z15 := Bk.mk hY3
       have t_Y3 : Below W9.heap.size W9 Y3 := t_Y2.trans (u3.mono t_Y2.size)
       replace z14 := z14.step u3
       replace tw := tw.step u3
       obtain ⟨k15, hk15⟩ : ∃ q, Y2.heap.size = q := ⟨_, rfl⟩
       rw [hk15] at z15
       have h15 : Hid (W9.heap.size ≤ k15) := Lib.hid (by rw [← hk15]; exact t_Y2.size)
       have apart : k14 < k15 := by rw [← hk15]; exact apart0
       try rw [hY3]
       try rw [hk15]
       clear hY3 apart0 hk15
       refine hK.out _ _ (KS.out _ t_Y3) (fun _ => ?_)
       clear hK K
       refine wpAnyH_ready (rs := [13]) (by kernel_rfl) (by simp) ?_
       refine AllReadyH.cons rfl (fun K hK => ?_) AllReadyH.nil
       obtain ⟨ZX, hZX⟩ : ∃ V, ((((Y3).setCell ⟨k14, 0, none⟩ (.int .i64 m)).setCell ⟨k14, 1, none⟩ (.slice A1 n1 c1)).setCell ⟨k14, 2, none⟩ (.bool o1)) = V := ⟨_, rfl⟩
       have tZX : Below W9.heap.size W9 ZX := by rw [← hZX]; exact below_st3 t_Y3 h14.out (.int .i64 m) (.slice A1 n1 c1) (.bool o1)
       have G14 : Bk ZX k14 (.cells #[.int .i64 m, .slice A1 n1 c1, .bool o1] 28) := by rw [← hZX]; exact kz3_set z14 (.int .i64 m) (.slice A1 n1 c1) (.bool o1)
       have z15b : Bk ZX k15 (.cells #[Value.int .i64 0, .slice none 0 0, .bool false] 32) := by rw [← hZX]; exact z15.far3 (Nat.ne_of_gt apart) _ _ _
       replace z15 := z15b
       have twb : Two ZX m n1 A1 A2 L1 L2 := by rw [← hZX]; exact tw.kps z14 _ _ _
       obtain ⟨z0, z1, z2, g0, g1, g2, hzl⟩ := kz3_at z14
       go_simp
       try rw [hZX]
       clear z0 z1 z2 g0 g1 g2 hzl hZX
       refine hK.out _ _ (KS.out _ tZX) (fun _ => ?_)
       clear hK K
       refine wpAnyH_ready (rs := [14]) (by kernel_rfl) (by simp) ?_
       refine AllReadyH.cons rfl (fun K hK => ?_) AllReadyH.nil
       obtain ⟨ZY, hZY⟩ : ∃ V, ((((ZX).setCell ⟨k15, 0, none⟩ (.int .i64 m)).setCell ⟨k15, 1, none⟩ (.slice A2 n1 c2)).setCell ⟨k15, 2, none⟩ (.bool o1)) = V := ⟨_, rfl⟩
       have tZY : Below W9.heap.size W9 ZY := by rw [← hZY]; exact below_st3 tZX h15.out (.int .i64 m) (.slice A2 n1 c2) (.bool o1)
       have G15 : Bk ZY k15 (.cells #[.int .i64 m, .slice A2 n1 c2, .bool o1] 32) := by rw [← hZY]; exact kz3_set z15 (.int .i64 m) (.slice A2 n1 c2) (.bool o1)
       have G14b : Bk ZY k14 (.cells #[.int .i64 m, .slice A1 n1 c1, .bool o1] 28) := by rw [← hZY]; exact G14.far3 (Nat.ne_of_lt apart) _ _ _
       have twc : Two ZY m n1 A1 A2 L1 L2 := by rw [← hZY]; exact twb.kps z15 _ _ _
       obtain ⟨z0, z1, z2, g0, g1, g2, hzl⟩ := kz3_at z15
       go_simp
       try rw [hZY]
       clear z0 z1 z2 g0 g1 g2 hzl hZY
       refine hK.out _ _ (KS.out _ tZY) (fun _ => ?_)
       clear hK K
       refine wpAnyH_ready (rs := [15]) (by kernel_rfl) (by simp) ?_
       refine AllReadyH.cons rfl (fun K hK => ?_) AllReadyH.nil
       go_simp
       refine hK.out _ _ (KS.out _ tZY) (fun _ => ?_)
       clear hK K
       refine wpAnyH_done (by kernel_rfl) ?_ _
       go_wp2
       go_meet
       case rel => exact ⟨k14, k15, rfl, rfl, rfl, Lib.hid tZY, Lib.hid ⟨n1, o1, A1, c1, A2, c2, L1, L2, G14b, G15, twc⟩⟩
      refine AllReadyH.cons rfl (fun K hK => ?_) AllReadyH.nil
      go_simp
      have apart0 := z14.lt
      obtain ⟨Y2, hY2⟩ : ∃ V, Y1.alloc (.cells #[Value.int .i64 0, .slice none 0 0, .bool false] 32) = V := ⟨_, rfl⟩
      have u2 : Below Y1.heap.size Y1 Y2 := by rw [← hY2]; exact below_alloc1 _ _
      have z15 := Bk.mk hY2
      have t_Y2 : Below W9.heap.size W9 Y2 := t_Y1.trans (u2.mono t_Y1.size)
      replace z14 := z14.step u2
      obtain ⟨k15, hk15⟩ : ∃ q, Y1.heap.size = q := ⟨_, rfl⟩
      rw [hk15] at z15
      have h15 : Hid (W9.heap.size ≤ k15) := Lib.hid (by rw [← hk15]; exact t_Y1.size)
      have apart : k14 < k15 := by rw [← hk15]; exact apart0
      try rw [hY2]
      try rw [hk15]
      clear hY2 apart0 hk15
      refine hK.out _ _ (KS.out _ t_Y2) (fun _ => ?_)
      clear hK K
      refine wpAnyH_ready (rs := [6]) (by kernel_rfl) (by simp) ?_
      refine AllReadyH.cons rfl (fun K hK => ?_) AllReadyH.nil
      go_simp
      go_at_call 7
      refine (CA Y2 t_Y2).mono ?_
      rintro e Y3 ⟨n1, o1, A1, c1, A2, c2, L1, L2, rfl, tw, u3⟩
      have t_Y3 : Below W9.heap.size W9 Y3 := t_Y2.trans (u3.mono t_Y2.size)
      replace z14 := z14.step u3
      replace z15 := z15.step u3
      refine hK.out _ _ (KS.out _ t_Y3) (fun _ => ?_)
      clear hK K
      refine wpAnyH_take (i := 7) (v := ?_) rfl (by kernel_rfl) (by kernel_rfl) (by kernel_rfl) (fun _ _ _ h => h) (Or.inl ⟨by rfl, ?_⟩) (by assumption) ?_
      rotate_left
      ·(intro w' hSw; (try dsimp only at hSw); go_simp; try with_reducible rfl)
      simp only [Act.put, getElem_toArray, getElem_cons_zero, getElem_cons_succ, setIfInBounds_toArray, set_cons_zero, set_cons_succ]
      refine wpAnyH_take (i := 8) (v := ?_) rfl (by kernel_rfl) (by kernel_rfl) (by kernel_rfl) (fun _ _ _ h => h) (Or.inl ⟨by rfl, ?_⟩) (by assumption) ?_
      rotate_left
      ·(intro w' hSw; (try dsimp only at hSw); go_simp; try with_reducible rfl)
      simp only [Act.put, getElem_toArray, getElem_cons_zero, getElem_cons_succ, setIfInBounds_toArray, set_cons_zero, set_cons_succ]
      refine wpAnyH_take (i := 9) (v := ?_) rfl (by kernel_rfl) (by kernel_rfl) (by kernel_rfl) (fun _ _ _ h => h) (Or.inl ⟨by rfl, ?_⟩) (by assumption) ?_
      rotate_left
      ·(intro w' hSw; (try dsimp only at hSw); go_simp; try with_reducible rfl)
      simp only [Act.put, getElem_toArray, getElem_cons_zero, getElem_cons_succ, setIfInBounds_toArray, set_cons_zero, set_cons_succ]
      refine wpAnyH_take (i := 10) (v := ?_) rfl (by kernel_rfl) (by kernel_rfl) (by kernel_rfl) (fun _ _ _ h => h) (Or.inl ⟨by rfl, ?_⟩) (by assumption) ?_
      rotate_left
      ·(intro w' hSw; (try dsimp only at hSw); go_simp; try with_reducible rfl)
      simp only [Act.put, getElem_toArray, getElem_cons_zero, getElem_cons_succ, setIfInBounds_toArray, set_cons_zero, set_cons_succ]
      refine wpAnyH_ready (rs := [13]) (by kernel_rfl) (by simp) ?_
      refine AllReadyH.cons rfl (fun K hK => ?_) AllReadyH.nil
      obtain ⟨ZX, hZX⟩ : ∃ V, ((((Y3).setCell ⟨k14, 0, none⟩ (.int .i64 m)).setCell ⟨k14, 1, none⟩ (.slice A1 n1 c1)).setCell ⟨k14, 2, none⟩ (.bool o1)) = V := ⟨_, rfl⟩
      have tZX : Below W9.heap.size W9 ZX := by rw [← hZX]; exact below_st3 t_Y3 h14.out (.int .i64 m) (.slice A1 n1 c1) (.bool o1)
      have G14 : Bk ZX k14 (.cells #[.int .i64 m, .slice A1 n1 c1, .bool o1] 28) := by rw [← hZX]; exact kz3_set z14 (.int .i64 m) (.slice A1 n1 c1) (.bool o1)
      have z15b : Bk ZX k15 (.cells #[Value.int .i64 0, .slice none 0 0, .bool false] 32) := by rw [← hZX]; exact z15.far3 (Nat.ne_of_gt apart) _ _ _
      replace z15 := z15b
      have twb : Two ZX m n1 A1 A2 L1 L2 := by rw [← hZX]; exact tw.kps z14 _ _ _
      obtain ⟨z0, z1, z2, g0, g1, g2, hzl⟩ := kz3_at z14
      go_simp
      try rw [hZX]
      clear z0 z1 z2 g0 g1 g2 hzl hZX
      refine hK.out _ _ (KS.out _ tZX) (fun _ => ?_)
      clear hK K
      refine wpAnyH_ready (rs := [14]) (by kernel_rfl) (by simp) ?_
      refine AllReadyH.cons rfl (fun K hK => ?_) AllReadyH.nil
      obtain ⟨ZY, hZY⟩ : ∃ V, ((((ZX).setCell ⟨k15, 0, none⟩ (.int .i64 m)).setCell ⟨k15, 1, none⟩ (.slice A2 n1 c2)).setCell ⟨k15, 2, none⟩ (.bool o1)) = V := ⟨_, rfl⟩
      have tZY : Below W9.heap.size W9 ZY := by rw [← hZY]; exact below_st3 tZX h15.out (.int .i64 m) (.slice A2 n1 c2) (.bool o1)
      have G15 : Bk ZY k15 (.cells #[.int .i64 m, .slice A2 n1 c2, .bool o1] 32) := by rw [← hZY]; exact kz3_set z15 (.int .i64 m) (.slice A2 n1 c2) (.bool o1)
      have G14b : Bk ZY k14 (.cells #[.int .i64 m, .slice A1 n1 c1, .bool o1] 28) := by rw [← hZY]; exact G14.far3 (Nat.ne_of_lt apart) _ _ _
      have twc : Two ZY m n1 A1 A2 L1 L2 := by rw [← hZY]; exact twb.kps z15 _ _ _
      obtain ⟨z0, z1, z2, g0, g1, g2, hzl⟩ := kz3_at z15
      go_simp
      try rw [hZY]
      clear z0 z1 z2 g0 g1 g2 hzl hZY
      refine hK.out _ _ (KS.out _ tZY) (fun _ => ?_)
      clear hK K
      refine wpAnyH_ready (rs := [15]) (by kernel_rfl) (by simp) ?_
      refine AllReadyH.cons rfl (fun K hK => ?_) AllReadyH.nil
      go_simp
      refine hK.out _ _ (KS.out _ tZY) (fun _ => ?_)
      clear hK K
      refine wpAnyH_done (by kernel_rfl) ?_ _
      go_wp2
      go_meet
      case rel => exact ⟨k14, k15, rfl, rfl, rfl, Lib.hid tZY, Lib.hid ⟨n1, o1, A1, c1, A2, c2, L1, L2, G14b, G15, twc⟩⟩
     refine AllReadyH.cons rfl (fun K hK => ?_) AllReadyH.nil
     go_simp
     obtain ⟨Y1, hY1⟩ : ∃ V, X0.alloc (.cells #[Value.int .i64 0, .slice none 0 0, .bool false] 32) = V := ⟨_, rfl⟩
     have u1 : Below X0.heap.size X0 Y1 := by rw [← hY1]; exact below_alloc1 _ _
     have z15 := Bk.mk hY1
     have t_Y1 : Below W9.heap.size W9 Y1 := tt.trans (u1.mono tt.size)
     obtain ⟨k15, hk15⟩ : ∃ q, X0.heap.size = q := ⟨_, rfl⟩
     rw [hk15] at z15
     have h15 : Hid (W9.heap.size ≤ k15) := Lib.hid (by rw [← hk15]; exact tt.size)
     try rw [hY1]
     try rw [hk15]
     clear hY1 hk15
     refine hK.out _ _ (KS.out _ t_Y1) (fun _ => ?_)
     clear hK K
     refine wpAnyH_ready (rs := [6, 11]) (by kernel_rfl) (by simp) ?_
     refine AllReadyH.cons rfl (fun K hK => ?_) ?_
     ·go_simp
      go_at_call 7
      refine (CA Y1 t_Y1).mono ?_
      rintro e Y2 ⟨n1, o1, A1, c1, A2, c2, L1, L2, rfl, tw, u2⟩
      have t_Y2 : Below W9.heap.size W9 Y2 := t_Y1.trans (u2.mono t_Y1.size)
      replace z15 := z15.step u2
      refine hK.out _ _ (KS.out _ t_Y2) (fun _ => ?_)
      clear hK K
      refine wpAnyH_take (i := 7) (v := ?_) rfl (by kernel_rfl) (by kernel_rfl) (by kernel_rfl) (fun _ _ _ h => h) (Or.inl ⟨by rfl, ?_⟩) (by assumption) ?_
      rotate_left
      ·(intro w' hSw; (try dsimp only at hSw); go_simp; try with_reducible rfl)
      simp only [Act.put, getElem_toArray, getElem_cons_zero, getElem_cons_succ, setIfInBounds_toArray, set_cons_zero, set_cons_succ]
      refine wpAnyH_take (i := 8) (v := ?_) rfl (by kernel_rfl) (by kernel_rfl) (by kernel_rfl) (fun _ _ _ h => h) (Or.inl ⟨by rfl, ?_⟩) (by assumption) ?_
      rotate_left
      ·(intro w' hSw; (try dsimp only at hSw); go_simp; try with_reducible rfl)
      simp only [Act.put, getElem_toArray, getElem_cons_zero, getElem_cons_succ, setIfInBounds_toArray, set_cons_zero, set_cons_succ]
      refine wpAnyH_take (i := 9) (v := ?_) rfl (by kernel_rfl) (by kernel_rfl) (by kernel_rfl) (fun _ _ _ h => h) (Or.inl ⟨by rfl, ?_⟩) (by assumption) ?_
      rotate_left
      ·(intro w' hSw; (try dsimp only at hSw); go_simp; try with_reducible rfl)
      simp only [Act.put, getElem_toArray, getElem_cons_zero, getElem_cons_succ, setIfInBounds_toArray, set_cons_zero, set_cons_succ]
      refine wpAnyH_take (i := 10) (v := ?_) rfl (by kernel_rfl) (by kernel_rfl) (by kernel_rfl) (fun _ _ _ h => h) (Or.inl ⟨by rfl, ?_⟩) (by assumption) ?_
      rotate_left
      ·(intro w' hSw; (try dsimp only at hSw); go_simp; try with_reducible rfl)
      simp only [Act.put, getElem_toArray, getElem_cons_zero, getElem_cons_succ, setIfInBounds_toArray, set_cons_zero, set_cons_succ]
      refine wpAnyH_ready (rs := [11]) (by kernel_rfl) (by simp) ?_
      refine AllReadyH.cons rfl (fun K hK => ?_) AllReadyH.nil
      go_simp
      have apart0 := z15.lt
      obtain ⟨Y3, hY3⟩ : ∃ V, Y2.alloc (.cells #[Value.int .i64 0, .slice none 0 0, .bool false] 28) = V := ⟨_, rfl⟩
      have u3 : Below Y2.heap.size Y2 Y3 := by rw [← hY3]; exact below_alloc1 _ _
      have z14 := Bk.mk hY3
      have t_Y3 : Below W9.heap.size W9 Y3 := t_Y2.trans (u3.mono t_Y2.size)
      replace z15 := z15.step u3
      replace tw := tw.step u3
      obtain ⟨k14, hk14⟩ : ∃ q, Y2.heap.size = q := ⟨_, rfl⟩
      rw [hk14] at z14
      have h14 : Hid (W9.heap.size ≤ k14) := Lib.hid (by rw [← hk14]; exact t_Y2.size)
      have apart : k15 < k14 := by rw [← hk14]; exact apart0
      try rw [hY3]
      try rw [hk14]
      clear hY3 apart0 hk14
      refine hK.out _ _ (KS.out _ t_Y3) (fun _ => ?_)
      clear hK K
      refine wpAnyH_ready (rs := [13]) (by kernel_rfl) (by simp) ?_
      refine AllReadyH.cons rfl (fun K hK => ?_) AllReadyH.nil
      obtain ⟨ZX, hZX⟩ : ∃ V, ((((Y3).setCell ⟨k14, 0, none⟩ (.int .i64 m)).setCell ⟨k14, 1, none⟩ (.slice A1 n1 c1)).setCell ⟨k14, 2, none⟩ (.bool o1)) = V := ⟨_, rfl⟩
      have tZX : Below W9.heap.size W9 ZX := by rw [← hZX]; exact below_st3 t_Y3 h14.out (.int .i64 m) (.slice A1 n1 c1) (.bool o1)
      have G14 : Bk ZX k14 (.cells #[.int .i64 m, .slice A1 n1 c1, .bool o1] 28) := by rw [← hZX]; exact kz3_set z14 (.int .i64 m) (.slice A1 n1 c1) (.bool o1)
      have z15b : Bk ZX k15 (.cells #[Value.int .i64 0, .slice none 0 0, .bool false] 32) := by rw [← hZX]; exact z15.far3 (Nat.ne_of_lt apart) _ _ _
      replace z15 := z15b
      have twb : Two ZX m n1 A1 A2 L1 L2 := by rw [← hZX]; exact tw.kps z14 _ _ _
      obtain ⟨z0, z1, z2, g0, g1, g2, hzl⟩ := kz3_at z14
      go_simp
      try rw [hZX]
      clear z0 z1 z2 g0 g1 g2 hzl hZX
      refine hK.out _ _ (KS.out _ tZX) (fun _ => ?_)
      clear hK K
      refine wpAnyH_ready (rs := [14]) (by kernel_rfl) (by simp) ?_
      refine AllReadyH.cons rfl (fun K hK => ?_) AllReadyH.nil
      obtain ⟨ZY, hZY⟩ : ∃ V, ((((ZX).setCell ⟨k15, 0, none⟩ (.int .i64 m)).setCell ⟨k15, 1, none⟩ (.slice A2 n1 c2)).setCell ⟨k15, 2, none⟩ (.bool o1)) = V := ⟨_, rfl⟩
      have tZY : Below W9.heap.size W9 ZY := by rw [← hZY]; exact below_st3 tZX h15.out (.int .i64 m) (.slice A2 n1 c2) (.bool o1)
      have G15 : Bk ZY k15 (.cells #[.int .i64 m, .slice A2 n1 c2, .bool o1] 32) := by rw [← hZY]; exact kz3_set z15 (.int .i64 m) (.slice A2 n1 c2) (.bool o1)
      have G14b : Bk ZY k14 (.cells #[.int .i64 m, .slice A1 n1 c1, .bool o1] 28) := by rw [← hZY]; exact G14.far3 (Nat.ne_of_gt apart) _ _ _
      have twc : Two ZY m n1 A1 A2 L1 L2 := by rw [← hZY]; exact twb.kps z15 _ _ _
      obtain ⟨z0, z1, z2, g0, g1, g2, hzl⟩ := kz3_at z15
      go_simp
      try rw [hZY]
      clear z0 z1 z2 g0 g1 g2 hzl hZY
      refine hK.out _ _ (KS.out _ tZY) (fun _ => ?_)
      clear hK K
      refine wpAnyH_ready (rs := [15]) (by kernel_rfl) (by simp) ?_
      refine AllReadyH.cons rfl (fun K hK => ?_) AllReadyH.nil
      go_simp
      refine hK.out _ _ (KS.out _ tZY) (fun _ => ?_)
      clear hK K
      refine wpAnyH_done (by kernel_rfl) ?_ _
      go_wp2
      go_meet
      case rel => exact ⟨k14, k15, rfl, rfl, rfl, Lib.hid tZY, Lib.hid ⟨n1, o1, A1, c1, A2, c2, L1, L2, G14b, G15, twc⟩⟩
     refine AllReadyH.cons rfl (fun K hK => ?_) AllReadyH.nil
     go_simp
     have apart0 := z15.lt
     obtain ⟨Y2, hY2⟩ : ∃ V, Y1.alloc (.cells #[Value.int .i64 0, .slice none 0 0, .bool false] 28) = V := ⟨_, rfl⟩
     have u2 : Below Y1.heap.size Y1 Y2 := by rw [← hY2]; exact below_alloc1 _ _
     have z14 := Bk.mk hY2
     have t_Y2 : Below W9.heap.size W9 Y2 := t_Y1.trans (u2.mono t_Y1.size)
     replace z15 := z15.step u2
     obtain ⟨k14, hk14⟩ : ∃ q, Y1.heap.size = q := ⟨_, rfl⟩
     rw [hk14] at z14
     have h14 : Hid (W9.heap.size ≤ k14) := Lib.hid (by rw [← hk14]; exact t_Y1.size)
     have apart : k15 < k14 := by rw [← hk14]; exact apart0
     try rw [hY2]
     try rw [hk14]
     clear hY2 apart0 hk14
     refine hK.out _ _ (KS.out _ t_Y2) (fun _ => ?_)
     clear hK K
     refine wpAnyH_ready (rs := [6]) (by kernel_rfl) (by simp) ?_
     refine AllReadyH.cons rfl (fun K hK => ?_) AllReadyH.nil
     go_simp
     go_at_call 7
     refine (CA Y2 t_Y2).mono ?_
     rintro e Y3 ⟨n1, o1, A1, c1, A2, c2, L1, L2, rfl, tw, u3⟩
     have t_Y3 : Below W9.heap.size W9 Y3 := t_Y2.trans (u3.mono t_Y2.size)
     replace z15 := z15.step u3
     replace z14 := z14.step u3
     refine hK.out _ _ (KS.out _ t_Y3) (fun _ => ?_)
     clear hK K
     refine wpAnyH_take (i := 7) (v := ?_) rfl (by kernel_rfl) (by kernel_rfl) (by kernel_rfl) (fun _ _ _ h => h) (Or.inl ⟨by rfl, ?_⟩) (by assumption) ?_
     rotate_left
     ·(intro w' hSw; (try dsimp only at hSw); go_simp; try with_reducible rfl)
     simp only [Act.put, getElem_toArray, getElem_cons_zero, getElem_cons_succ, setIfInBounds_toArray, set_cons_zero, set_cons_succ]
     refine wpAnyH_take (i := 8) (v := ?_) rfl (by kernel_rfl) (by kernel_rfl) (by kernel_rfl) (fun _ _ _ h => h) (Or.inl ⟨by rfl, ?_⟩) (by assumption) ?_
     rotate_left
     ·(intro w' hSw; (try dsimp only at hSw); go_simp; try with_reducible rfl)
     simp only [Act.put, getElem_toArray, getElem_cons_zero, getElem_cons_succ, setIfInBounds_toArray, set_cons_zero, set_cons_succ]
     refine wpAnyH_take (i := 9) (v := ?_) rfl (by kernel_rfl) (by kernel_rfl) (by kernel_rfl) (fun _ _ _ h => h) (Or.inl ⟨by rfl, ?_⟩) (by assumption) ?_
     rotate_left
     ·(intro w' hSw; (try dsimp only at hSw); go_simp; try with_reducible rfl)
     simp only [Act.put, getElem_toArray, getElem_cons_zero, getElem_cons_succ, setIfInBounds_toArray, set_cons_zero, set_cons_succ]
     refine wpAnyH_take (i := 10) (v := ?_) rfl (by kernel_rfl) (by kernel_rfl) (by kernel_rfl) (fun _ _ _ h => h) (Or.inl ⟨by rfl, ?_⟩) (by assumption) ?_
     rotate_left
     ·(intro w' hSw; (try dsimp only at hSw); go_simp; try with_reducible rfl)
     simp only [Act.put, getElem_toArray, getElem_cons_zero, getElem_cons_succ, setIfInBounds_toArray, set_cons_zero, set_cons_succ]
     refine wpAnyH_ready (rs := [13]) (by kernel_rfl) (by simp) ?_
     refine AllReadyH.cons rfl (fun K hK => ?_) AllReadyH.nil
     obtain ⟨ZX, hZX⟩ : ∃ V, ((((Y3).setCell ⟨k14, 0, none⟩ (.int .i64 m)).setCell ⟨k14, 1, none⟩ (.slice A1 n1 c1)).setCell ⟨k14, 2, none⟩ (.bool o1)) = V := ⟨_, rfl⟩
     have tZX : Below W9.heap.size W9 ZX := by rw [← hZX]; exact below_st3 t_Y3 h14.out (.int .i64 m) (.slice A1 n1 c1) (.bool o1)
     have G14 : Bk ZX k14 (.cells #[.int .i64 m, .slice A1 n1 c1, .bool o1] 28) := by rw [← hZX]; exact kz3_set z14 (.int .i64 m) (.slice A1 n1 c1) (.bool o1)
     have z15b : Bk ZX k15 (.cells #[Value.int .i64 0, .slice none 0 0, .bool false] 32) := by rw [← hZX]; exact z15.far3 (Nat.ne_of_lt apart) _ _ _
     replace z15 := z15b
     have twb : Two ZX m n1 A1 A2 L1 L2 := by rw [← hZX]; exact tw.kps z14 _ _ _
     obtain ⟨z0, z1, z2, g0, g1, g2, hzl⟩ := kz3_at z14
     go_simp
     try rw [hZX]
     clear z0 z1 z2 g0 g1 g2 hzl hZX
     refine hK.out _ _ (KS.out _ tZX) (fun _ => ?_)
     clear hK K
     refine wpAnyH_ready (rs := [14]) (by kernel_rfl) (by simp) ?_
     refine AllReadyH.cons rfl (fun K hK => ?_) AllReadyH.nil
     obtain ⟨ZY, hZY⟩ : ∃ V, ((((ZX).setCell ⟨k15, 0, none⟩ (.int .i64 m)).setCell ⟨k15, 1, none⟩ (.slice A2 n1 c2)).setCell ⟨k15, 2, none⟩ (.bool o1)) = V := ⟨_, rfl⟩
     have tZY : Below W9.heap.size W9 ZY := by rw [← hZY]; exact below_st3 tZX h15.out (.int .i64 m) (.slice A2 n1 c2) (.bool o1)
     have G15 : Bk ZY k15 (.cells #[.int .i64 m, .slice A2 n1 c2, .bool o1] 32) := by rw [← hZY]; exact kz3_set z15 (.int .i64 m) (.slice A2 n1 c2) (.bool o1)
     have G14b : Bk ZY k14 (.cells #[.int .i64 m, .slice A1 n1 c1, .bool o1] 28) := by rw [← hZY]; exact G14.far3 (Nat.ne_of_gt apart) _ _ _
     have twc : Two ZY m n1 A1 A2 L1 L2 := by rw [← hZY]; exact twb.kps z15 _ _ _
     obtain ⟨z0, z1, z2, g0, g1, g2, hzl⟩ := kz3_at z15
     go_simp
     try rw [hZY]
     clear z0 z1 z2 g0 g1 g2 hzl hZY
     refine hK.out _ _ (KS.out _ tZY) (fun _ => ?_)
     clear hK K
     refine wpAnyH_ready (rs := [15]) (by kernel_rfl) (by simp) ?_
     refine AllReadyH.cons rfl (fun K hK => ?_) AllReadyH.nil
     go_simp
     refine hK.out _ _ (KS.out _ tZY) (fun _ => ?_)
     clear hK K
     refine wpAnyH_done (by kernel_rfl) ?_ _
     go_wp2
     go_meet
     case rel => exact ⟨k14, k15, rfl, rfl, rfl, Lib.hid tZY, Lib.hid ⟨n1, o1, A1, c1, A2, c2, L1, L2, G14b, G15, twc⟩⟩
    case rest =>
     obtain ⟨k14, k15, rfl, rfl, rfl, T10, HX⟩ := hcut
     rename World => W10
     obtain ⟨n1, o1, A1, c1, A2, c2, L1, L2, g14, g15, tw1⟩ := HX.out
     have HB10 := Lib.hid (HB9.out.trans (T10.out.mono HB9.out.size))
     have HGS10 := Lib.hid (HGS9.out.step T10.out)
     have HGM10 := Lib.hid (HGM9.out.step T10.out)
     have two := HTW9.out.step T10.out
     have G12b := G12.out.step T10.out
     have G13b := G13.out.step T10.out
     have HT1 := Lib.hid tw1
     have H14 := Lib.hid g14
     have H15 := Lib.hid g15
     have CS := lsame_any m A A' n n c c' o L L' W10 two.ln rfl two.eq.symm two.a two.b (by have := two.le; have := HMM.out; omega)
     obtain ⟨p0, p1, p2, -⟩ := kz3_at G12b
     obtain ⟨r0, r1, r2, -⟩ := kz3_at G13b
     clear HX CA KS HGS9 HGM9 HTW9 G12 G13 G12b G13b g14 g15 tw1 two
     go_upto_region 11 with fail
     go_wp2_with fail
     refine CS.mono ?_
     rintro e Y4 ⟨rfl, u4⟩
     obtain ⟨i0, i1, i2, -⟩ := kz3_at (H14.out.step u4)
     have t4 := HT1.out.step u4
     have CM := smay_any m A1 n1 c1 o1 L1 Y4 t4.ln t4.a t4.vs t4.cp HMM.out t4.le
     have U4 := Lib.hid u4
     clear CS p0 p1 p2 r0 r1 r2 t4 u4
     go_wp2_with fail
     refine CM.mono ?_
     rintro e Y5 ⟨rfl, u5⟩
     have u45 := U4.out.trans (u5.mono U4.out.size)
     obtain ⟨j0, j1, j2, -⟩ := kz3_at (H15.out.step u45)
     have t5 := HT1.out.step u45
     have CR := rmay14_any m A2 n1 c2 o1 L2 Y5 t5.n' t5.b (by rw [t5.eq]; exact t5.vs) t5.cq HMM.out t5.le
     have U5 := Lib.hid u45
     clear CM i0 i1 i2 t5 u5 u45 U4
     go_wp2_with fail
     refine CR.mono ?_
     rintro e Y6 ⟨rfl, u6⟩
     have u46 := U5.out.trans (u6.mono U5.out.size)
     have g14 := H14.out.step u46
     have g15 := H15.out.step u46
     have gs := HGS10.out.step u46
     have gm := HGM10.out.step u46
     have tw := HT1.out.step u46
     have HB6 := Lib.hid (HB10.out.trans (u46.mono HB10.out.size))
     clear CR j0 j1 j2 u6 u46 U5 HGS10 HGM10 HT1 H14 H15
     obtain ⟨V4, hV4⟩ : ∃ V, (((Y6).setCell ⟨ka, 0, none⟩ (.int .i64 m)).setCell ⟨ka, 1, none⟩ (.slice A1 n1 c1)).setCell ⟨ka, 2, none⟩ (.bool o1) = V := ⟨_, rfl⟩
     obtain ⟨V5, hV5⟩ : ∃ V, (((V4).setCell ⟨kb, 0, none⟩ (.int .i64 m)).setCell ⟨kb, 1, none⟩ (.slice A2 n1 c2)).setCell ⟨kb, 2, none⟩ (.bool o1) = V := ⟨_, rfl⟩
     have h15a : k15 ≠ ka := Bk.ne g15 gs (by intro h; injection h with _ h _; exact absurd h (by decide))
     have g15' : Bk V4 k15 (.cells #[.int .i64 m, .slice A2 n1 c2, .bool o1] 32) := by rw [← hV4]; exact g15.far3 h15a _ _ _
     have gm' : Bk V4 kb (.cells #[.int .i64 m, .slice A' n c', .bool o] 32) := by rw [← hV4]; exact gm.far3 (by omega) _ _ _
     have ks5 : Bk V5 ka (.cells #[.int .i64 m, .slice A1 n1 c1, .bool o1] 28) := by rw [← hV5, ← hV4]; exact Bk.far3 (kz3_set gs _ _ _) (by omega) _ _ _
     have km5 : Bk V5 kb (.cells #[.int .i64 m, .slice A2 n1 c2, .bool o1] 32) := by rw [← hV5]; exact kz3_set gm' _ _ _
     have tw4 : Two V4 m n1 A1 A2 L1 L2 := by rw [← hV4]; exact tw.kps gs _ _ _
     have tw5 : Two V5 m n1 A1 A2 L1 L2 := by rw [← hV5]; exact tw4.kps gm' _ _ _
     have b5 : Below W0.heap.size W0 V5 := by rw [← hV5, ← hV4]; exact below_st3 (below_st3 HB6.out hks _ _ _) (by omega) _ _ _
     have HK5 := Lib.hid ks5
     have HM5 := Lib.hid km5
     have HT5 := Lib.hid tw5
     have HB5 := Lib.hid b5
     obtain ⟨p0, p1, p2, -⟩ := kz3_at g14
     obtain ⟨r0, r1, r2, -⟩ := kz3_at g15'
     obtain ⟨i0, i1, i2, f0, f1, f2, -⟩ := kz3_at gs
     obtain ⟨j0, j1, j2, g0, g1, g2, -⟩ := kz3_at gm'
     obtain ⟨s0, s1, s2, -⟩ := kz3_at ks5
     obtain ⟨y0, y1, y2⟩ := KK.out _ b5
     obtain ⟨fh, fl, hfz⟩ : ∃ p q, fnd (cons L1) y = (p, q) := ⟨_, _, rfl⟩
     obtain ⟨is, his⟩ : ∃ q, isin (cons L1) y = q := ⟨_, rfl⟩
     have CF := sfind_any y m A1 n1 c1 o1 L1 V5 tw5.ln tw5.a (by have := tw5.le; have := HMM.out; omega) (fun z hz => by have := (tw5.vs.e _ (List.mem_map.2 ⟨z, hz, rfl⟩)).sok.n; simp only [con] at this; omega)
     have CG := fun V (hV : Below V5.heap.size V5 V) => rfind_any y m A2 n1 c2 o1 L2 V (HT5.out.step hV).n' (HT5.out.step hV).b (by have := HT5.out.le; have := HMM.out; omega)
     simp only [FP, hfz, his] at CF
     simp only [RFP, HT5.out.eq, hfz, his] at CG
     obtain ⟨fn, hfn⟩ : ∃ q, fl.length = q := ⟨_, rfl⟩
     simp only [hfn] at CF CG
     have HFN := Lib.hid hfn
     clear g14 g15 gs gm tw tw4 tw5 g15' gm' ks5 km5 b5 h15a hfz his hfn
     go_wp2_with fail
     refine CF.mono ?_
     rintro e Y7 ⟨A7, c7, rfl, o7, u7⟩
     clear hV4 hV5 CF p0 p1 p2 r0 r1 r2 i0 i1 i2 f0 f1 f2 j0 j1 j2 g0 g1 g2 s0 s1 s2 y0 y1 y2
     obtain ⟨kf, hkf⟩ : ∃ q, Y7.heap.size = q := ⟨_, rfl⟩
     obtain ⟨Vf, hVf⟩ : ∃ V, Y7.alloc (.cells #[Value.int .i64 0, .int .i64 0, .int .i64 0, .int .u32 0, .int .u32 0, .int .u32 0, .int .i64 0, .int .i64 0, .slice none 0 0] 40) = V := ⟨_, rfl⟩
     have uVf : Below Y7.heap.size Y7 Vf := by rw [← hVf]; exact below_alloc1 _ _
     have GVf : Bk Vf kf (.cells #[Value.int .i64 0, .int .i64 0, .int .i64 0, .int .u32 0, .int .u32 0, .int .u32 0, .int .i64 0, .int .i64 0, .slice none 0 0] 40) := by rw [← hkf]; exact Bk.mk hVf
     obtain ⟨Xf, hXf⟩ : ∃ V, (((((((((Vf).setCell ⟨kf, 0, none⟩ (.int .i64 fh.a)).setCell ⟨kf, 1, none⟩ (.int .i64 fh.o)).setCell ⟨kf, 2, none⟩ (.int .i64 fh.t)).setCell ⟨kf, 3, none⟩ (.int .u32 fh.i)).setCell ⟨kf, 4, none⟩ (.int .u32 fh.v)).setCell ⟨kf, 5, none⟩ (.int .u32 fh.q)).setCell ⟨kf, 6, none⟩ (.int .i64 fh.s)).setCell ⟨kf, 7, none⟩ (.int .i64 fh.n)).setCell ⟨kf, 8, none⟩ (.slice A7 fn c7) = V := ⟨_, rfl⟩
     have Gf : Bk Xf kf (.cells #[.int .i64 fh.a, .int .i64 fh.o, .int .i64 fh.t, .int .u32 fh.i, .int .u32 fh.v, .int .u32 fh.q, .int .i64 fh.s, .int .i64 fh.n, .slice A7 fn c7] 40) := by rw [← hXf]; exact kz9_set GVf (.int .i64 fh.a) (.int .i64 fh.o) (.int .i64 fh.t) (.int .u32 fh.i) (.int .u32 fh.v) (.int .u32 fh.q) (.int .i64 fh.s) (.int .i64 fh.n) (.slice A7 fn c7)
     have uf : Below Y7.heap.size Y7 Xf := by rw [← hXf]; exact below_st9 uVf (by rw [← hkf]; exact Nat.le_refl _) (.int .i64 fh.a) (.int .i64 fh.o) (.int .i64 fh.t) (.int .u32 fh.i) (.int .u32 fh.v) (.int .u32 fh.q) (.int .i64 fh.s) (.int .i64 fh.n) (.slice A7 fn c7)
     obtain ⟨yf0, yf1, yf2, yf3, yf4, yf5, yf6, yf7, yf8, ff0, ff1, ff2, ff3, ff4, ff5, ff6, ff7, ff8, hzf⟩ := kz9_at GVf
     have T7 := Lib.hid (u7.trans (uf.mono u7.size))
     have B7 := Lib.hid (o7.bs.step uf)
     have CG7 := CG _ T7.out
     have b7 := HB5.out.trans (T7.out.mono HB5.out.size)
     obtain ⟨s0, s1, s2, -⟩ := kz3_at (HM5.out.step T7.out)
     obtain ⟨y0, y1, y2⟩ := KK.out _ b7
     clear CG b7 u7 o7
     go_wp2_with fail
     refine CG7.mono ?_
     rintro e Y8 ⟨A8, c8, rfl, ⟨o8, -⟩, u8⟩
     clear yf0 yf1 yf2 yf3 yf4 yf5 yf6 yf7 yf8 ff0 ff1 ff2 ff3 ff4 ff5 ff6 ff7 ff8 hzf hXf hVf hkf GVf uVf CG7 s0 s1 s2 y0 y1 y2
     have Gf8 := Gf.step u8
     obtain ⟨kh, hkh⟩ : ∃ q, Y8.heap.size = q := ⟨_, rfl⟩
     obtain ⟨Vh, hVh⟩ : ∃ V, Y8.alloc (.cells #[Value.int .i64 0, .int .i64 0, .int .i64 0, .int .u32 0, .int .u32 0, .int .u32 0, .int .i64 0, .int .i64 0, .slice none 0 0] 40) = V := ⟨_, rfl⟩
     have uVh : Below Y8.heap.size Y8 Vh := by rw [← hVh]; exact below_alloc1 _ _
     have GVh : Bk Vh kh (.cells #[Value.int .i64 0, .int .i64 0, .int .i64 0, .int .u32 0, .int .u32 0, .int .u32 0, .int .i64 0, .int .i64 0, .slice none 0 0] 40) := by rw [← hkh]; exact Bk.mk hVh
     obtain ⟨Xh, hXh⟩ : ∃ V, (((((((((Vh).setCell ⟨kh, 0, none⟩ (.int .i64 fh.a)).setCell ⟨kh, 1, none⟩ (.int .i64 fh.o)).setCell ⟨kh, 2, none⟩ (.int .i64 fh.t)).setCell ⟨kh, 3, none⟩ (.int .u32 fh.i)).setCell ⟨kh, 4, none⟩ (.int .u32 fh.v)).setCell ⟨kh, 5, none⟩ (.int .u32 fh.q)).setCell ⟨kh, 6, none⟩ (.int .i64 fh.s)).setCell ⟨kh, 7, none⟩ (.int .i64 fh.n)).setCell ⟨kh, 8, none⟩ (.slice A8 fn c8) = V := ⟨_, rfl⟩
     have Gh : Bk Xh kh (.cells #[.int .i64 fh.a, .int .i64 fh.o, .int .i64 fh.t, .int .u32 fh.i, .int .u32 fh.v, .int .u32 fh.q, .int .i64 fh.s, .int .i64 fh.n, .slice A8 fn c8] 40) := by rw [← hXh]; exact kz9_set GVh (.int .i64 fh.a) (.int .i64 fh.o) (.int .i64 fh.t) (.int .u32 fh.i) (.int .u32 fh.v) (.int .u32 fh.q) (.int .i64 fh.s) (.int .i64 fh.n) (.slice A8 fn c8)
     have uh : Below Y8.heap.size Y8 Xh := by rw [← hXh]; exact below_st9 uVh (by rw [← hkh]; exact Nat.le_refl _) (.int .i64 fh.a) (.int .i64 fh.o) (.int .i64 fh.t) (.int .u32 fh.i) (.int .u32 fh.v) (.int .u32 fh.q) (.int .i64 fh.s) (.int .i64 fh.n) (.slice A8 fn c8)
     obtain ⟨yh0, yh1, yh2, yh3, yh4, yh5, yh6, yh7, yh8, fh0, fh1, fh2, fh3, fh4, fh5, fh6, fh7, fh8, hzh⟩ := kz9_at GVh
     have T8 := Lib.hid (T7.out.trans ((u8.trans (uh.mono u8.size)).mono T7.out.size))
     have B8 := Lib.hid (Bs.step o8 uh)
     have B7b := Lib.hid (Bs.step (Bs.step B7.out u8) uh)
     have Gf9 := Lib.hid (Gf8.step uh)
     have Gh9 := Lib.hid Gh
     clear Gf Gf8 Gh u8 o8 B7 T7 uf uh
     go_upto_region 17 with fail
     clear yh0 yh1 yh2 yh3 yh4 yh5 yh6 yh7 yh8 fh0 fh1 fh2 fh3 fh4 fh5 fh6 fh7 fh8 hzh hXh hVh hkh GVh uVh
     have KS : Hid (∀ V, Below Xh.heap.size Xh V → ((V.cell? ⟨kf, 0, none⟩ = some (.int .i64 fh.a) ∧ V.cell? ⟨kf, 1, none⟩ = some (.int .i64 fh.o) ∧ V.cell? ⟨kf, 2, none⟩ = some (.int .i64 fh.t) ∧ V.cell? ⟨kf, 3, none⟩ = some (.int .u32 fh.i) ∧ V.cell? ⟨kf, 4, none⟩ = some (.int .u32 fh.v) ∧ V.cell? ⟨kf, 5, none⟩ = some (.int .u32 fh.q) ∧ V.cell? ⟨kf, 6, none⟩ = some (.int .i64 fh.s) ∧ V.cell? ⟨kf, 7, none⟩ = some (.int .i64 fh.n) ∧ V.cell? ⟨kf, 8, none⟩ = some (.slice A7 fn c7)) ∧ (V.cell? ⟨kh, 0, none⟩ = some (.int .i64 fh.a) ∧ V.cell? ⟨kh, 1, none⟩ = some (.int .i64 fh.o) ∧ V.cell? ⟨kh, 2, none⟩ = some (.int .i64 fh.t) ∧ V.cell? ⟨kh, 3, none⟩ = some (.int .u32 fh.i) ∧ V.cell? ⟨kh, 4, none⟩ = some (.int .u32 fh.v) ∧ V.cell? ⟨kh, 5, none⟩ = some (.int .u32 fh.q) ∧ V.cell? ⟨kh, 6, none⟩ = some (.int .i64 fh.s) ∧ V.cell? ⟨kh, 7, none⟩ = some (.int .i64 fh.n) ∧ V.cell? ⟨kh, 8, none⟩ = some (.slice A8 fn c8))) ∧ ((V.cell? ⟨ka, 0, none⟩ = some (.int .i64 m) ∧ V.cell? ⟨ka, 1, none⟩ = some (.slice A1 n1 c1) ∧ V.cell? ⟨ka, 2, none⟩ = some (.bool o1)) ∧ (V.cell? ⟨kb, 0, none⟩ = some (.int .i64 m) ∧ V.cell? ⟨kb, 1, none⟩ = some (.slice A2 n1 c2) ∧ V.cell? ⟨kb, 2, none⟩ = some (.bool o1))) ∧ V.cell? ⟨w.heap.size, 0, none⟩ = some (.int .i64 y.t) ∧ V.cell? ⟨w.heap.size, 1, none⟩ = some (.int .u32 y.i) ∧ V.cell? ⟨w.heap.size, 2, none⟩ = some (.int .u32 y.v)) := Lib.hid (fun V hV => by
      have h5 := T8.out.trans (hV.mono T8.out.size)
      obtain ⟨p0, p1, p2, p3, p4, p5, p6, p7, p8, -⟩ := kz9_at (Gf9.out.step hV)
      obtain ⟨r0, r1, r2, r3, r4, r5, r6, r7, r8, -⟩ := kz9_at (Gh9.out.step hV)
      obtain ⟨s0, s1, s2, -⟩ := kz3_at (HK5.out.step h5)
      obtain ⟨t0, t1, t2, -⟩ := kz3_at (HM5.out.step h5)
      exact ⟨⟨⟨p0, p1, p2, p3, p4, p5, p6, p7, p8⟩, r0, r1, r2, r3, r4, r5, r6, r7, r8⟩, ⟨⟨s0, s1, s2⟩, t0, t1, t2⟩, KK.out V (HB5.out.trans (h5.mono HB5.out.size))⟩)
     have TX : Hid (∀ V, Below Xh.heap.size Xh V → Two V m n1 A1 A2 L1 L2) := Lib.hid (fun V hV => HT5.out.step (T8.out.trans (hV.mono T8.out.size)))
     have hnn : n1 ≤ 2000 := by have := HT5.out.le; have := HMM.out; omega
     have hdl : (dues (cons L1) y.v).length ≤ 2000 := by
      have h1 : (dues (cons L1) y.v).length ≤ (cons L1).length := by rw [dues, List.length_map]; exact List.length_filter_le _ _
      rw [cons_length, HT5.out.ln] at h1
      omega
     have hhl : (heads (cons L1)).length = n1 := by rw [heads, List.length_map, cons_length, HT5.out.ln]
     have C11 := fun V (hV : Below Xh.heap.size Xh V) => digest_any m A1 n1 c1 o1 L1 V (TX.out V hV).ln (TX.out V hV).a (by omega)
     have C13 := fun V (hV : Below Xh.heap.size Xh V) => rdigest_any m A2 n1 c2 o1 L2 V (TX.out V hV).n' (TX.out V hV).b (by omega)
     have C18 := fun V (hV : Below Xh.heap.size Xh V) => heads_any m A1 n1 c1 o1 L1 V (TX.out V hV).ln (TX.out V hV).a (by omega)
     have C20 := fun V (hV : Below Xh.heap.size Xh V) => rheads_any m A2 n1 c2 o1 L2 V (TX.out V hV).n' (TX.out V hV).b (by omega)
     have C28 := fun V (hV : Below Xh.heap.size Xh V) => due_any m A1 n1 c1 o1 y.v L1 V (TX.out V hV).ln (TX.out V hV).a (by omega)
     have C32 := fun V (hV : Below Xh.heap.size Xh V) => rdue_any m A2 n1 c2 o1 y.v L2 V (TX.out V hV).n' (TX.out V hV).b (by omega)
     simp only [HT5.out.eq] at C13 C20 C32
     generalize dgs (cons L1) = D at C11 C13
     generalize heads (cons L1) = HH at C18 C20 hhl
     generalize dues (cons L1) y.v = DU at C28 C32 hdl
     have tt : Below Xh.heap.size Xh Xh := Below.refl _ _
     refine wp_region_held_drew (S := fun V => ((V.cell? ⟨kf, 0, none⟩ = some (.int .i64 fh.a) ∧ V.cell? ⟨kf, 1, none⟩ = some (.int .i64 fh.o) ∧ V.cell? ⟨kf, 2, none⟩ = some (.int .i64 fh.t) ∧ V.cell? ⟨kf, 3, none⟩ = some (.int .u32 fh.i) ∧ V.cell? ⟨kf, 4, none⟩ = some (.int .u32 fh.v) ∧ V.cell? ⟨kf, 5, none⟩ = some (.int .u32 fh.q) ∧ V.cell? ⟨kf, 6, none⟩ = some (.int .i64 fh.s) ∧ V.cell? ⟨kf, 7, none⟩ = some (.int .i64 fh.n) ∧ V.cell? ⟨kf, 8, none⟩ = some (.slice A7 fn c7)) ∧ (V.cell? ⟨kh, 0, none⟩ = some (.int .i64 fh.a) ∧ V.cell? ⟨kh, 1, none⟩ = some (.int .i64 fh.o) ∧ V.cell? ⟨kh, 2, none⟩ = some (.int .i64 fh.t) ∧ V.cell? ⟨kh, 3, none⟩ = some (.int .u32 fh.i) ∧ V.cell? ⟨kh, 4, none⟩ = some (.int .u32 fh.v) ∧ V.cell? ⟨kh, 5, none⟩ = some (.int .u32 fh.q) ∧ V.cell? ⟨kh, 6, none⟩ = some (.int .i64 fh.s) ∧ V.cell? ⟨kh, 7, none⟩ = some (.int .i64 fh.n) ∧ V.cell? ⟨kh, 8, none⟩ = some (.slice A8 fn c8))) ∧ ((V.cell? ⟨ka, 0, none⟩ = some (.int .i64 m) ∧ V.cell? ⟨ka, 1, none⟩ = some (.slice A1 n1 c1) ∧ V.cell? ⟨ka, 2, none⟩ = some (.bool o1)) ∧ (V.cell? ⟨kb, 0, none⟩ = some (.int .i64 m) ∧ V.cell? ⟨kb, 1, none⟩ = some (.slice A2 n1 c2) ∧ V.cell? ⟨kb, 2, none⟩ = some (.bool o1))) ∧ V.cell? ⟨w.heap.size, 0, none⟩ = some (.int .i64 y.t) ∧ V.cell? ⟨w.heap.size, 1, none⟩ = some (.int .u32 y.i) ∧ V.cell? ⟨w.heap.size, 2, none⟩ = some (.int .u32 y.v)) (by kernel_rfl) (KS.out _ tt.drew) (fun hHeld => ?_)
     replace tt : Below Xh.heap.size Xh Xh.drew := tt.drew
     generalize hX0 : Xh.drew = X0 at tt hHeld ⊢
     clear hX0
     refine wpAnyH_take (i := 0) (v := ?_) rfl (by kernel_rfl) (by kernel_rfl) (by kernel_rfl) (fun _ _ _ h => h) (Or.inl ⟨by rfl, ?_⟩) (by assumption) ?_
     rotate_left
     ·(intro w' hSw; (try dsimp only at hSw); go_simp; try with_reducible rfl)
     simp only [Act.put, getElem_toArray, getElem_cons_zero, setIfInBounds_toArray, set_cons_zero, set_cons_succ]
     refine wpAnyH_take (i := 1) (v := ?_) rfl (by kernel_rfl) (by kernel_rfl) (by kernel_rfl) (fun _ _ _ h => h) (Or.inl ⟨by rfl, ?_⟩) (by assumption) ?_
     rotate_left
     ·(intro w' hSw; (try dsimp only at hSw); go_simp; try with_reducible rfl)
     simp only [Act.put, getElem_toArray, getElem_cons_zero, getElem_cons_succ, setIfInBounds_toArray, set_cons_zero, set_cons_succ]
     refine wpAnyH_ready (rs := [2]) (by kernel_rfl) (by simp) ?_
     refine AllReadyH.cons rfl (fun K hK => ?_) AllReadyH.nil
     go_simp
     go_at_call 12
     refine (same_any fh A7 A8 fn c7 c8 fl X0 HFN.out (Bs.step B7b.out tt) (Bs.step B8.out tt)).mono ?_
     rintro e Y1 ⟨rfl, u1⟩
     have t_Y1 : Below Xh.heap.size Xh Y1 := tt.trans (u1.mono tt.size)
     refine hK.out _ _ (KS.out _ t_Y1) (fun _ => ?_)
     clear hK K
     refine wpAnyH_take (i := 3) (v := ?_) rfl (by kernel_rfl) (by kernel_rfl) (by kernel_rfl) (fun _ _ _ h => h) (Or.inl ⟨by rfl, ?_⟩) (by assumption) ?_
     rotate_left
     ·(intro w' hSw; (try dsimp only at hSw); go_simp; try with_reducible rfl)
     simp only [Act.put, getElem_toArray, getElem_cons_zero, getElem_cons_succ, setIfInBounds_toArray, set_cons_zero, set_cons_succ]
     refine wpAnyH_take (i := 4) (v := ?_) rfl (by kernel_rfl) (by kernel_rfl) (by kernel_rfl) (fun _ _ _ h => h) (Or.inl ⟨by rfl, ?_⟩) (by assumption) ?_
     rotate_left
     ·(intro w' hSw; (try dsimp only at hSw); go_simp; try with_reducible rfl)
     simp only [Act.put, getElem_toArray, getElem_cons_zero, getElem_cons_succ, setIfInBounds_toArray, set_cons_zero, set_cons_succ]
     refine wpAnyH_take (i := 5) (v := ?_) rfl (by kernel_rfl) (by kernel_rfl) (by kernel_rfl) (fun _ _ _ h => h) (Or.inl ⟨by rfl, ?_⟩) (by assumption) ?_
     rotate_left
     ·(intro w' hSw; (try dsimp only at hSw); go_simp; try with_reducible rfl)
     simp only [Act.put, getElem_toArray, getElem_cons_zero, getElem_cons_succ, setIfInBounds_toArray, set_cons_zero, set_cons_succ]
     refine wpAnyH_take (i := 6) (v := ?_) rfl (by kernel_rfl) (by kernel_rfl) (by kernel_rfl) (fun _ _ _ h => h) (Or.inl ⟨by rfl, ?_⟩) (by assumption) ?_
     rotate_left
     ·(intro w' hSw; (try dsimp only at hSw); go_simp; try with_reducible rfl)
     simp only [Act.put, getElem_toArray, getElem_cons_zero, getElem_cons_succ, setIfInBounds_toArray, set_cons_zero, set_cons_succ]
     refine wpAnyH_take (i := 7) (v := .bool false) rfl (by kernel_rfl) (by kernel_rfl) (by kernel_rfl) (fun _ _ _ h => h) (Or.inl ⟨by rfl, ?_⟩) (by assumption) ?_
     ·(intro w' hSw; (try dsimp only at hSw); go_simp; try simp)
     simp only [Act.put, getElem_toArray, getElem_cons_zero, getElem_cons_succ, setIfInBounds_toArray, set_cons_zero, set_cons_succ]
     refine wpAnyH_take (i := 8) (v := ?_) rfl (by kernel_rfl) (by kernel_rfl) (by kernel_rfl) (fun _ _ _ h => h) (Or.inl ⟨by rfl, ?_⟩) (by assumption) ?_
     rotate_left
     ·(intro w' hSw; (try dsimp only at hSw); go_simp; try with_reducible rfl)
     simp only [Act.put, getElem_toArray, getElem_cons_zero, getElem_cons_succ, setIfInBounds_toArray, set_cons_zero, set_cons_succ]
     refine wpAnyH_take (i := 9) (v := ?_) rfl (by kernel_rfl) (by kernel_rfl) (by kernel_rfl) (fun _ _ _ h => h) (Or.inl ⟨by rfl, ?_⟩) (by assumption) ?_
     rotate_left
     ·(intro w' hSw; (try dsimp only at hSw); go_simp; try with_reducible rfl)
     simp only [Act.put, getElem_toArray, getElem_cons_zero, getElem_cons_succ, setIfInBounds_toArray, set_cons_zero, set_cons_succ]
     refine wpAnyH_take (i := 10) (v := ?_) rfl (by kernel_rfl) (by kernel_rfl) (by kernel_rfl) (fun _ _ _ h => h) (Or.inl ⟨by rfl, ?_⟩) (by assumption) ?_
     rotate_left
     ·(intro w' hSw; (try dsimp only at hSw); go_simp; try with_reducible rfl)
     simp only [Act.put, getElem_toArray, getElem_cons_zero, getElem_cons_succ, setIfInBounds_toArray, set_cons_zero, set_cons_succ]
     refine wpAnyH_take (i := 12) (v := ?_) rfl (by kernel_rfl) (by kernel_rfl) (by kernel_rfl) (fun _ _ _ h => h) (Or.inl ⟨by rfl, ?_⟩) (by assumption) ?_
     rotate_left
     ·(intro w' hSw; (try dsimp only at hSw); go_simp; try with_reducible rfl)
     simp only [Act.put, getElem_toArray, getElem_cons_zero, getElem_cons_succ, setIfInBounds_toArray, set_cons_zero, set_cons_succ]
     refine wpAnyH_ready (rs := [11]) (by kernel_rfl) (by simp) ?_
     refine AllReadyH.cons rfl (fun K hK => ?_) AllReadyH.nil
     go_simp
     go_at_call 13
     refine (C11 Y1 t_Y1).mono ?_
     rintro e Y2 ⟨rfl, u2⟩
     have t_Y2 : Below Xh.heap.size Xh Y2 := t_Y1.trans (u2.mono t_Y1.size)
     refine hK.out _ _ (KS.out _ t_Y2) (fun _ => ?_)
     clear hK K
     refine wpAnyH_ready (rs := [13]) (by kernel_rfl) (by simp) ?_
     refine AllReadyH.cons rfl (fun K hK => ?_) AllReadyH.nil
     go_simp
     go_at_call 14
     refine (C13 Y2 t_Y2).mono ?_
     rintro e Y3 ⟨rfl, u3⟩
     have t_Y3 : Below Xh.heap.size Xh Y3 := t_Y2.trans (u3.mono t_Y2.size)
     refine hK.out _ _ (KS.out _ t_Y3) (fun _ => ?_)
     clear hK K
     refine wpAnyH_take (i := 14) (v := .bool false) rfl (by kernel_rfl) (by kernel_rfl) (by kernel_rfl) (fun _ _ _ h => h) (Or.inl ⟨by rfl, ?_⟩) (by assumption) ?_
     ·(intro w' hSw; (try dsimp only at hSw); go_simp; try simp)
     simp only [Act.put, getElem_toArray, getElem_cons_zero, getElem_cons_succ, setIfInBounds_toArray, set_cons_zero, set_cons_succ]
     refine wpAnyH_take (i := 15) (v := ?_) rfl (by kernel_rfl) (by kernel_rfl) (by kernel_rfl) (fun _ _ _ h => h) (Or.inl ⟨by rfl, ?_⟩) (by assumption) ?_
     rotate_left
     ·(intro w' hSw; (try dsimp only at hSw); go_simp; try with_reducible rfl)
     simp only [Act.put, getElem_toArray, getElem_cons_zero, getElem_cons_succ, setIfInBounds_toArray, set_cons_zero, set_cons_succ]
     refine wpAnyH_take (i := 16) (v := ?_) rfl (by kernel_rfl) (by kernel_rfl) (by kernel_rfl) (fun _ _ _ h => h) (Or.inl ⟨by rfl, ?_⟩) (by assumption) ?_
     rotate_left
     ·(intro w' hSw; (try dsimp only at hSw); go_simp; try with_reducible rfl)
     simp only [Act.put, getElem_toArray, getElem_cons_zero, getElem_cons_succ, setIfInBounds_toArray, set_cons_zero, set_cons_succ]
     refine wpAnyH_take (i := 17) (v := ?_) rfl (by kernel_rfl) (by kernel_rfl) (by kernel_rfl) (fun _ _ _ h => h) (Or.inl ⟨by rfl, ?_⟩) (by assumption) ?_
     rotate_left
     ·(intro w' hSw; (try dsimp only at hSw); go_simp; try with_reducible rfl)
     simp only [Act.put, getElem_toArray, getElem_cons_zero, getElem_cons_succ, setIfInBounds_toArray, set_cons_zero, set_cons_succ]
     refine wpAnyH_take (i := 19) (v := ?_) rfl (by kernel_rfl) (by kernel_rfl) (by kernel_rfl) (fun _ _ _ h => h) (Or.inl ⟨by rfl, ?_⟩) (by assumption) ?_
     rotate_left
     ·(intro w' hSw; (try dsimp only at hSw); go_simp; try with_reducible rfl)
     simp only [Act.put, getElem_toArray, getElem_cons_zero, getElem_cons_succ, setIfInBounds_toArray, set_cons_zero, set_cons_succ]
     refine wpAnyH_ready (rs := [18]) (by kernel_rfl) (by simp) ?_
     refine AllReadyH.cons rfl (fun K hK => ?_) AllReadyH.nil
     go_simp
     go_at_call 16
     refine (C18 Y3 t_Y3).mono ?_
     rintro e Y4 ⟨Ah, ch, rfl, hh, u4⟩
     have t_Y4 : Below Xh.heap.size Xh Y4 := t_Y3.trans (u4.mono t_Y3.size)
     refine hK.out _ _ (KS.out _ t_Y4) (fun _ => ?_)
     clear hK K
     refine wpAnyH_ready (rs := [20]) (by kernel_rfl) (by simp) ?_
     refine AllReadyH.cons rfl (fun K hK => ?_) AllReadyH.nil
     go_simp
     go_at_call 17
     refine (C20 Y4 t_Y4).mono ?_
     rintro e Y5 ⟨Ag, cg, rfl, hg, u5⟩
     have t_Y5 : Below Xh.heap.size Xh Y5 := t_Y4.trans (u5.mono t_Y4.size)
     replace hh := hh.step u5
     refine hK.out _ _ (KS.out _ t_Y5) (fun _ => ?_)
     clear hK K
     refine wpAnyH_ready (rs := [21]) (by kernel_rfl) (by simp) ?_
     refine AllReadyH.cons rfl (fun K hK => ?_) AllReadyH.nil
     go_simp
     go_at_call 15
     refine (hds_any Ah Ag n1 ch cg HH Y5 hhl hh hg (by omega)).mono ?_
     rintro e Y6 ⟨rfl, u6⟩
     have t_Y6 : Below Xh.heap.size Xh Y6 := t_Y5.trans (u6.mono t_Y5.size)
     replace hh := hh.step u6
     replace hg := hg.step u6
     refine hK.out _ _ (KS.out _ t_Y6) (fun _ => ?_)
     clear hK K
     refine wpAnyH_take (i := 22) (v := ?_) rfl (by kernel_rfl) (by kernel_rfl) (by kernel_rfl) (fun _ _ _ h => h) (Or.inl ⟨by rfl, ?_⟩) (by assumption) ?_
     rotate_left
     ·(intro w' hSw; (try dsimp only at hSw); go_simp; try with_reducible rfl)
     simp only [Act.put, getElem_toArray, getElem_cons_zero, getElem_cons_succ, setIfInBounds_toArray, set_cons_zero, set_cons_succ]
     refine wpAnyH_take (i := 23) (v := ?_) rfl (by kernel_rfl) (by kernel_rfl) (by kernel_rfl) (fun _ _ _ h => h) (Or.inl ⟨by rfl, ?_⟩) (by assumption) ?_
     rotate_left
     ·(intro w' hSw; (try dsimp only at hSw); go_simp; try with_reducible rfl)
     simp only [Act.put, getElem_toArray, getElem_cons_zero, getElem_cons_succ, setIfInBounds_toArray, set_cons_zero, set_cons_succ]
     refine wpAnyH_take (i := 24) (v := ?_) rfl (by kernel_rfl) (by kernel_rfl) (by kernel_rfl) (fun _ _ _ h => h) (Or.inl ⟨by rfl, ?_⟩) (by assumption) ?_
     rotate_left
     ·(intro w' hSw; (try dsimp only at hSw); go_simp; try with_reducible rfl)
     simp only [Act.put, getElem_toArray, getElem_cons_zero, getElem_cons_succ, setIfInBounds_toArray, set_cons_zero, set_cons_succ]
     refine wpAnyH_take (i := 25) (v := ?_) rfl (by kernel_rfl) (by kernel_rfl) (by kernel_rfl) (fun _ _ _ h => h) (Or.inl ⟨by rfl, ?_⟩) (by assumption) ?_
     rotate_left
     ·(intro w' hSw; (try dsimp only at hSw); go_simp; try with_reducible rfl)
     simp only [Act.put, getElem_toArray, getElem_cons_zero, getElem_cons_succ, setIfInBounds_toArray, set_cons_zero, set_cons_succ]
     refine wpAnyH_take (i := 26) (v := ?_) rfl (by kernel_rfl) (by kernel_rfl) (by kernel_rfl) (fun _ _ _ h => h) (Or.inl ⟨by rfl, ?_⟩) (by assumption) ?_
     rotate_left
     ·(intro w' hSw; (try dsimp only at hSw); go_simp; try with_reducible rfl)
     simp only [Act.put, getElem_toArray, getElem_cons_zero, getElem_cons_succ, setIfInBounds_toArray, set_cons_zero, set_cons_succ]
     refine wpAnyH_take (i := 27) (v := ?_) rfl (by kernel_rfl) (by kernel_rfl) (by kernel_rfl) (fun _ _ _ h => h) (Or.inl ⟨by rfl, ?_⟩) (by assumption) ?_
     rotate_left
     ·(intro w' hSw; (try dsimp only at hSw); go_simp; try with_reducible rfl)
     simp only [Act.put, getElem_toArray, getElem_cons_zero, getElem_cons_succ, setIfInBounds_toArray, set_cons_zero, set_cons_succ]
     refine wpAnyH_take (i := 29) (v := ?_) rfl (by kernel_rfl) (by kernel_rfl) (by kernel_rfl) (fun _ _ _ h => h) (Or.inl ⟨by rfl, ?_⟩) (by assumption) ?_
     rotate_left
     ·(intro w' hSw; (try dsimp only at hSw); go_simp; try with_reducible rfl)
     simp only [Act.put, getElem_toArray, getElem_cons_zero, getElem_cons_succ, setIfInBounds_toArray, set_cons_zero, set_cons_succ]
     refine wpAnyH_take (i := 30) (v := ?_) rfl (by kernel_rfl) (by kernel_rfl) (by kernel_rfl) (fun _ _ _ h => h) (Or.inl ⟨by rfl, ?_⟩) (by assumption) ?_
     rotate_left
     ·(intro w' hSw; (try dsimp only at hSw); go_simp; try with_reducible rfl)
     simp only [Act.put, getElem_toArray, getElem_cons_zero, getElem_cons_succ, setIfInBounds_toArray, set_cons_zero, set_cons_succ]
     refine wpAnyH_take (i := 31) (v := ?_) rfl (by kernel_rfl) (by kernel_rfl) (by kernel_rfl) (fun _ _ _ h => h) (Or.inl ⟨by rfl, ?_⟩) (by assumption) ?_
     rotate_left
     ·(intro w' hSw; (try dsimp only at hSw); go_simp; try with_reducible rfl)
     simp only [Act.put, getElem_toArray, getElem_cons_zero, getElem_cons_succ, setIfInBounds_toArray, set_cons_zero, set_cons_succ]
     refine wpAnyH_ready (rs := [28]) (by kernel_rfl) (by simp) ?_
     refine AllReadyH.cons rfl (fun K hK => ?_) AllReadyH.nil
     go_simp
     go_at_call 19
     refine (C28 Y6 t_Y6).mono ?_
     rintro e Y7 ⟨Ad, cd, nd, rfl, hnd, hd, u7⟩
     have t_Y7 : Below Xh.heap.size Xh Y7 := t_Y6.trans (u7.mono t_Y6.size)
     replace hh := hh.step u7
     replace hg := hg.step u7
     refine hK.out _ _ (KS.out _ t_Y7) (fun _ => ?_)
     clear hK K
     refine wpAnyH_ready (rs := [32]) (by kernel_rfl) (by simp) ?_
     refine AllReadyH.cons rfl (fun K hK => ?_) AllReadyH.nil
     go_simp
     go_at_call 20
     refine (C32 Y7 t_Y7).mono ?_
     rintro e Y8 ⟨Ab, cb, nb, rfl, hnb, hb, u8⟩
     have t_Y8 : Below Xh.heap.size Xh Y8 := t_Y7.trans (u8.mono t_Y7.size)
     replace hh := hh.step u8
     replace hg := hg.step u8
     replace hd := hd.step u8
     obtain rfl : nd = nb := hnd.symm.trans hnb
     refine hK.out _ _ (KS.out _ t_Y8) (fun _ => ?_)
     clear hK K
     refine wpAnyH_ready (rs := [33]) (by kernel_rfl) (by simp) ?_
     refine AllReadyH.cons rfl (fun K hK => ?_) AllReadyH.nil
     go_simp
     go_at_call 18
     refine (keys_any Ad Ab nd cd cb DU Y8 hnd hd hb (by omega)).mono ?_
     rintro e Y9 ⟨rfl, u9⟩
     have t_Y9 : Below Xh.heap.size Xh Y9 := t_Y8.trans (u9.mono t_Y8.size)
     replace hh := hh.step u9
     replace hg := hg.step u9
     replace hd := hd.step u9
     replace hb := hb.step u9
     refine hK.out _ _ (KS.out _ t_Y9) (fun _ => ?_)
     clear hK K
     refine wpAnyH_take (i := 34) (v := ?_) rfl (by kernel_rfl) (by kernel_rfl) (by kernel_rfl) (fun _ _ _ h => h) (Or.inl ⟨by rfl, ?_⟩) (by assumption) ?_
     rotate_left
     ·(intro w' hSw; (try dsimp only at hSw); go_simp; try with_reducible rfl)
     simp only [Act.put, getElem_toArray, getElem_cons_zero, getElem_cons_succ, setIfInBounds_toArray, set_cons_zero, set_cons_succ]
     refine wpAnyH_take (i := 35) (v := ?_) rfl (by kernel_rfl) (by kernel_rfl) (by kernel_rfl) (fun _ _ _ h => h) (Or.inl ⟨by rfl, ?_⟩) (by assumption) ?_
     rotate_left
     ·(intro w' hSw; (try dsimp only at hSw); go_simp; try with_reducible rfl)
     simp only [Act.put, getElem_toArray, getElem_cons_zero, getElem_cons_succ, setIfInBounds_toArray, set_cons_zero, set_cons_succ]
     refine wpAnyH_done (by kernel_rfl) ?_ _
     have T17 := Lib.hid t_Y9
     go_wp2
     go_roundg gf
     case measure => omega
     case rel =>
      have h5 := T8.out.trans (T17.out.mono T8.out.size)
      exact ⟨k + 1, by go_num, Lib.hid (by omega), Lib.hid ⟨⟨n1, o1, A1, c1, A2, c2, L1, L2, HK5.out.step h5, HM5.out.step h5, HT5.out.step h5⟩, HB5.out.trans (h5.mono HB5.out.size), hks, hkm⟩⟩
end Go.Proofs.YtadcicmccdphkaaGreat
