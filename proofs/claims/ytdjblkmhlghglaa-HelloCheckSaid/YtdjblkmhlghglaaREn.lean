/-
  The contract of the reference's Encode. No statement is proved here; no conditions.
-/
import Derived.Test.YtdjblkmhlghglaaEn
namespace Go.Proofs.Ytdjblkmhlghglaa
open Go.RowKit Go.Joins

theorem getD_mem {l : List Int} {i : Nat} (h : i < l.length) : l.getD i 0 ∈ l := by
  simp only [List.getD, List.getElem?_eq_getElem h, Option.getD_some]
  exact List.getElem_mem h
theorem take_getD {l : List Int} {i : Nat} (h : i < l.length) : l.take (i + 1) = l.take i ++ [l.getD i 0] := by
  rw [List.take_succ_eq_append_getElem h]
  simp [List.getD, h]
set_option maxRecDepth 100000 in
set_option maxHeartbeats 2000000 in
theorem rencode_any (h : He) (A : Option Addr) (n c : Nat) (w : World) (hn : h.s.length = n) (ok : Okh h) (hb : Wt w A h.s) :
    Calls Try.prog 9 #[.agg #[.int .u32 h.m, .int .i64 h.i, .int .i64 h.o, .int .i64 h.p, .int .u32 h.d, .int .u32 h.r, .int .u32 h.b, .slice A n c]] w fun e w' => ∃ A' c', e = .returned (.tuple #[.slice A' (encL h).length c', .int .i64 (encE h)]) ∧ Own .u8 5 w' w.heap.size A' c' (encL h) ∧ Below w.heap.size w w' := by
  obtain ⟨W0, hW0⟩ : ∃ V, w.alloc (.cells #[.int .u32 h.m, .int .i64 h.i, .int .i64 h.o, .int .i64 h.p, .int .u32 h.d, .int .u32 h.r, .int .u32 h.b, .slice A n c] 32) = V := ⟨_, rfl⟩
  have bW0 : Below w.heap.size w W0 := by rw [← hW0]; exact below_alloc1 _ _
  have sW0 : W0.heap.size = w.heap.size + 1 := by rw [← hW0]; simp
  have KX : Hid (∀ V, Below W0.heap.size W0 V → V.cell? ⟨w.heap.size, 0, none⟩ = some (.int .u32 h.m) ∧ V.cell? ⟨w.heap.size, 1, none⟩ = some (.int .i64 h.i) ∧ V.cell? ⟨w.heap.size, 2, none⟩ = some (.int .i64 h.o) ∧ V.cell? ⟨w.heap.size, 3, none⟩ = some (.int .i64 h.p) ∧ V.cell? ⟨w.heap.size, 4, none⟩ = some (.int .u32 h.d) ∧ V.cell? ⟨w.heap.size, 5, none⟩ = some (.int .u32 h.r) ∧ V.cell? ⟨w.heap.size, 6, none⟩ = some (.int .u32 h.b) ∧ V.cell? ⟨w.heap.size, 7, none⟩ = some (.slice A n c)) := Lib.hid (fun V hV => kb8_new hW0 hV)
  have q0 := hb.step bW0
  have HB : Hid (Below w.heap.size w W0) := Lib.hid bW0
  have CM := fun V => rmay_any h A n c V hn
  clear bW0 hb
  obtain ⟨k0, k1, k2, k3, k4, k5, k6, k7⟩ := KX.out _ (Below.refl _ _)
  by_cases hm : mayh h = true
  case neg =>
    have e1 : encE h = 1 := by simp [encE, hm]
    have e2 : encL h = [] := by simp [encL, hm]
    rw [e1, e2]
    have hm2 : mayh h = false := by simpa using hm
    clear e1 e2 hm
    go_enter Try.func9, Try.ntmps9
    go_wp2_with fail
    refine (CM _).mono ?_
    rintro e X0 ⟨rfl, t0⟩
    rw [hm2]
    go_wp2
    go_ret2
    exact ⟨none, 0, rfl, Own.nil _ _, HB.out.trans (t0.mono HB.out.size)⟩
  have e1 : encE h = 0 := by simp [encE, hm]
  have e2 : encL h = enc h := by simp [encL, hm]
  rw [e1, e2]
  obtain ⟨⟨hi0, hi1⟩, ⟨ho0, ho1⟩, ⟨hp0, hp1⟩, hl⟩ := (mayh_iff h).1 hm
  obtain ⟨hm0, hm1⟩ := ok.m
  have HM := Lib.hid hm
  have HN := Lib.hid hn
  have w3 := wrd_three ok
  have ws := ok.s
  have HW : Hid (Wrd ([h.d, h.r, h.b] ++ h.s)) := Lib.hid (fun x hx => by
    rcases List.mem_append.1 hx with q | q
    · exact w3 x q
    · exact ws x q)
  obtain ⟨L, hL⟩ : ∃ L, [h.d, h.r, h.b] ++ h.s = L := ⟨_, rfl⟩
  have HL : Hid (enc h = (be h.m 4 ++ [h.i / 256, h.i % 256, h.o, h.p]) ++ flat 4 L) := Lib.hid (by
    unfold enc
    rw [← hL, be2 h.i hi0 (by omega), be1 h.o ho0 (by omega), be1 h.p hp0 (by omega), flat_append]
    simp)
  have hLn : L.length = 3 + n := by rw [← hL, List.length_append, hn]; rfl
  rw [hL] at HW
  rw [hn] at hl
  have HLN := Lib.hid hLn
  have hw0 : IntKind.u8.wrap h.o = h.o := wrap_u8 (by omega) (by omega)
  have hw1 : IntKind.u8.wrap h.p = h.p := wrap_u8 (by omega) (by omega)
  obtain ⟨i0, hi0', hz0, hz1, hz2⟩ := info_of info5
  obtain ⟨i1, gi0, gz0, gz1, gz2⟩ := info_of info23
  clear e1 e2 hm hn ok w3 ws
  go_enter Try.func9, Try.ntmps9
  go_wp2_with fail
  refine (CM _).mono ?_
  rintro e X0 ⟨rfl, t0⟩
  rw [HM.out]
  clear k0 k1 k2 k3 k4 k5 k6 k7 CM
  obtain ⟨k0, k1, k2, k3, k4, k5, k6, k7⟩ := KX.out _ t0
  go_wp2_with fail
  refine (four_any h.m _ hm0 hm1).mono ?_
  rintro e X1 ⟨A1, c1, rfl, o1, u1⟩
  have t1 : Below W0.heap.size W0 X1 := t0.trans (u1.mono t0.size)
  have sX0 := t0.size
  have sX1 := u1.size
  obtain ⟨X2, hX2⟩ : ∃ V, X1.alloc (.cells #[.int .u8 (h.i / 256), .int .u8 (h.i % 256), .int .u8 h.o, .int .u8 h.p] 5) = V := ⟨_, rfl⟩
  have u2 : Below X1.heap.size X1 X2 := by rw [← hX2]; exact below_alloc1 _ _
  have o2 : Own .u8 5 X2 X1.heap.size (some ⟨X1.heap.size, 0, none⟩) 4 [h.i / 256, h.i % 256, h.o, h.p] := by
    rw [← hX2]
    exact Own.lit X1 X1.heap.size (Nat.le_refl _) [h.i / 256, h.i % 256, h.o, h.p] (by simp [maxLen])
  have t2 : Below W0.heap.size W0 X2 := t1.trans (u2.mono t1.size)
  have sX2 := u2.size
  obtain ⟨A3, c3, X3, rX3, oX3, tX3⟩ := run_app (P := Try.prog) X2 X0.heap.size 27 27 5 .u8 i0 _ 1 Try.underlying27 hi0' hz0 hz1 hz2 rfl _ _ _ (o1.below u2 (Nat.le_refl _)) _ (some ⟨X1.heap.size, 0, none⟩) 4 _ o2.bs (by simp only [maxLen, be_length, List.length_cons, List.length_nil] <;> omega) (by simp only [be_length, List.length_cons, List.length_nil] <;> omega) (by omega)
  have t3 : Below W0.heap.size W0 X3 := t2.trans (tX3.mono sX0)
  have sX3 := tX3.size
  obtain ⟨X4, hX4⟩ : ∃ V, X3.alloc (.cells #[.int .u32 h.d, .int .u32 h.r, .int .u32 h.b] 22) = V := ⟨_, rfl⟩
  have u4 : Below X3.heap.size X3 X4 := by rw [← hX4]; exact below_alloc1 _ _
  have o4 : Own .u32 22 X4 X3.heap.size (some ⟨X3.heap.size, 0, none⟩) 3 [h.d, h.r, h.b] := by
    rw [← hX4]
    exact Own.lit X3 X3.heap.size (Nat.le_refl _) [h.d, h.r, h.b] (by simp [maxLen])
  have t4 : Below W0.heap.size W0 X4 := t3.trans (u4.mono t3.size)
  have sX4 := u4.size
  obtain ⟨A5, c5, X5, rX5, oX5, tX5⟩ := run_app (P := Try.prog) X4 X3.heap.size 23 23 22 .u32 i1 _ 4 Try.underlying23 gi0 gz0 gz1 gz2 rfl _ _ _ o4 _ A c _ (q0.step t4) (by simp only [maxLen, HN.out, List.length_cons, List.length_nil] <;> omega) (by simp only [HN.out, List.length_cons, List.length_nil] <;> omega) sX4
  have t5 : Below W0.heap.size W0 X5 := t4.trans (tX5.mono (by omega))
  have u5 : Below X3.heap.size X3 X5 := u4.trans tX5
  have O3 : Hid (Own .u8 5 X5 X0.heap.size A3 c3 (be h.m 4 ++ [h.i / 256, h.i % 256, h.o, h.p])) := Lib.hid (oX3.below u5 (Nat.le_refl _))
  rw [hL] at oX5
  simp only [List.length_append, be_length, List.length_cons, List.length_nil] at rX3
  simp only [List.length_append, List.length_cons, List.length_nil, HN.out] at rX5
  obtain ⟨a0, a1, a2, a3, a4, a5, a6, a7⟩ := KX.out _ t1
  obtain ⟨b0, b1, b2, b3, b4, b5, b6, b7⟩ := KX.out _ t2
  obtain ⟨d0, d1, d2, d3, d4, d5, d6, d7⟩ := KX.out _ t3
  obtain ⟨y0, y1, y2, y3, y4, y5, y6, y7⟩ := KX.out _ t4
  obtain ⟨j0, j1, j2, j3, j4, j5, j6, j7⟩ := KX.out _ t5
  have hln : (3 : Nat) + n = 3 + n := rfl
  obtain ⟨m, hmm⟩ : ∃ m, 0 + 1 + 1 + 1 + n = m := ⟨_, rfl⟩
  have hm3 : m = 3 + n := by omega
  rw [hmm] at rX5
  have HMM : Hid (L.length = m) := Lib.hid (by rw [HLN.out, hm3])
  have hm4 : m ≤ 303 := by omega
  have S5x := t5.size
  obtain ⟨g5, hA5, hg5, hg5s, hc5⟩ : ∃ g5, A5 = some ⟨g5, 0, none⟩ ∧ X3.heap.size ≤ g5 ∧ g5 < X5.heap.size ∧ ∀ i, i < m → X5.cell? ⟨g5, i, none⟩ = some (.int .u32 (L.getD i 0)) := by
    rcases oX5.form with ⟨_, _, q⟩ | ⟨g, _, q, q1, q2, _⟩
    · rw [q] at hLn; simp at hLn; omega
    · refine ⟨g, q, q1, q2, fun i hi => ?_⟩
      have o := oX5
      rw [q] at o
      exact o.cellAt (by rw [hLn]; omega)
  subst hA5
  have C5 := Lib.hid hc5
  have D3 : Hid (∀ g, blk A3 = some g → g ≠ g5) := Lib.hid (fun g hg => by
    have := (oX3.blk_lt g hg).2
    omega)
  have HS : Hid (W0.heap.size ≤ X0.heap.size) := Lib.hid sX0
  have HT : Hid (Below W0.heap.size W0 X0) := Lib.hid t0
  have B5 : Hid (Below X0.heap.size X0 X5) := Lib.hid (u1.trans ((u2.mono sX1).trans (tX3.trans (u5.mono (by omega)))))
  have S5 := Lib.hid hg5s
  clear hc5 hg5 hg5s S5x
  clear oX5 o4 oX3 o2 o1 u1 u2 u4 u5 tX3 tX5 t0 t1 t2 t3 t4 t5 hL hLn hln hmm hm3
  clear sX1 sX2 sX3 sX4
  go_wp2_with (first | (at_builtin; refine wpList_runb _ rfl (.tmp 13) (.tmp 28) 27 rfl rfl rfl rX3 ?_) | (at_builtin; refine wpList_runb _ rfl (.tmp 36) (.tmp 38) 23 rfl rfl rfl rX5 ?_))
  clear k0 k1 k2 k3 k4 k5 k6 k7 a0 a1 a2 a3 a4 a5 a6 a7 b0 b1 b2 b3 b4 b5 b6 b7 d0 d1 d2 d3 d4 d5 d6 d7 y0 y1 y2 y3 y4 y5 y6 y7 j0 j1 j2 j3 j4 j5 j6 j7 rX3 rX5 hX2 hX4
  go_loopg [4, 6] m (fun gf v4 v6 wx => ∃ (j x : Nat) (A' : Option Addr) (c' : Nat), v4 = .slice A' x c' ∧ v6 = .int .i64 (j : Int) ∧ Hid (gf + j = m) ∧ Hid (x = 8 + j * 4) ∧ Hid (Own .u8 5 wx X0.heap.size A' c' ((be h.m 4 ++ [h.i / 256, h.i % 256, h.o, h.p]) ++ flat 4 (L.take j))) ∧ Hid (∀ g, blk A' = some g → g ≠ g5) ∧ Hid (wx.heap[g5]? = X5.heap[g5]?) ∧ Hid (Below X0.heap.size X0 wx) ∧ Hid (g5 < wx.heap.size))
  case atStart => exact ⟨0, 8, A3, c3, rfl, rfl, Lib.hid (by omega), Lib.hid (by omega), Lib.hid (by simpa [flat_nil] using O3.out), D3, Lib.hid rfl, B5, S5⟩
  case round =>
    obtain ⟨j, x, A', c', rfl, rfl, hj, hx, ho, hd, hk, hb, hs⟩ := hrel
    have hj' := hj.out
    clear O3 D3 B5 S5
    cases gk with
    | zero =>
      have lt0 : decide ((j : Int) < (m : Int)) = false := by simp; omega
      have lt1 : decide (j < m) = false := by simp; omega
      have HF : Hid (Own .u8 5 wr X0.heap.size A' c' (enc h)) := Lib.hid (by
        rw [HL.out]
        have := ho.out
        rwa [List.take_of_length_le (by rw [HMM.out]; omega)] at this)
      have HX : Hid ((enc h).length = x) := Lib.hid (by rw [enc_length, HN.out]; have := hx.out; have := HLN.out; have := HMM.out; omega)
      go_wp2
      go_ret2
      have e := HX.out
      refine ⟨A', c', ?_, HF.out.lower (Nat.le_trans HB.out.size HS.out), HB.out.trans ((HT.out.trans (hb.out.mono HS.out)).mono HB.out.size)⟩
      rw [e]
      rfl
    | succ gf =>
      have hlt : j < m := by omega
      have lt0 : (j : Int) < (m : Int) := by omega
      have hw1 : (j : Int) + 1 ≤ 10000 := by omega
      have hcl := (World.cell?_of_block hk.out).trans (C5.out j hlt)
      have hy := HW.out (L.getD j 0) (getD_mem (by rw [HMM.out]; exact hlt))
      obtain ⟨v, hv⟩ : ∃ v, L.getD j 0 = v := ⟨_, rfl⟩
      have HV : Hid (L.take (j + 1) = L.take j ++ [v]) := Lib.hid (by rw [← hv]; exact take_getD (by rw [HMM.out]; exact hlt))
      rw [hv] at hcl hy
      obtain ⟨hy0, hy1⟩ := hy
      clear hv
      go_wp2_with fail
      refine (four_any v _ hy0 hy1).mono ?_
      rintro e X6 ⟨A6, c6, rfl, o6, u6⟩
      have sz := hb.out.size
      have sz6 := u6.size
      have hsl : ((be h.m 4 ++ [h.i / 256, h.i % 256, h.o, h.p]) ++ flat 4 (L.take j)).length = x := by
        simp only [List.length_append, be_length, flat_length, List.length_cons, List.length_nil, List.length_take, HMM.out]
        have := hx.out
        omega
      have hbl := ho.out.blk_lt
      obtain ⟨A7, c7, X7, r7, o7, g7, d7⟩ := run_appg (P := Try.prog) X6 X0.heap.size 27 27 5 .u8 i0 _ 1 Try.underlying27 hi0' hz0 hz1 hz2 rfl _ _ _ (ho.out.below u6 (Nat.le_refl _)) _ A6 c6 _ o6.bs (by rw [hsl, be_length]; have := hx.out; unfold maxLen; omega) (by rw [hsl, be_length]; have := hx.out; omega) (by omega)
      have hsl2 : (((be h.m 4 ++ [h.i / 256, h.i % 256, h.o, h.p]) ++ flat 4 (L.take j)) ++ be v 4).length = x + 4 := by rw [List.length_append, hsl, be_length]
      rw [hsl2, hsl, be_length] at r7
      clear hsl2
      have hb6 : Below X0.heap.size X0 X6 := hb.out.trans (u6.mono sz)
      have HO : Hid (Own .u8 5 X7 X0.heap.size A7 c7 ((be h.m 4 ++ [h.i / 256, h.i % 256, h.o, h.p]) ++ flat 4 (L.take (j + 1)))) := Lib.hid (by
        rw [HV.out, flat_snoc, ← List.append_assoc]
        exact o7)
      have HD : Hid (∀ g, blk A7 = some g → g ≠ g5) := Lib.hid (fun g hg => by
        rcases d7 with q | q
        · exact hd.out g (q ▸ hg)
        · rw [hg] at q
          injection q with q
          have := hs.out
          omega)
      have HK : Hid (X7.heap[g5]? = X5.heap[g5]?) := Lib.hid ((g7.block g5 (by have := hs.out; omega) (fun q => hd.out g5 q.symm rfl)).trans ((u6.block g5 hs.out).trans hk.out))
      have HB7 : Hid (Below X0.heap.size X0 X7) := Lib.hid (hb6.trans (grown_below g7 (by omega) (fun g hg => (hbl g hg).1)))
      have HS7 : Hid (g5 < X7.heap.size) := Lib.hid (by have := hs.out; have := g7.size; omega)
      have HXX : Hid (x + 4 = 8 + (j + 1) * 4) := Lib.hid (by have := hx.out; omega)
      have hx9 : x ≤ 10000 := by have := hx.out; omega
      clear o6 u6 o7 g7 d7 hb6 hsl hbl ho hd hk hb hs
      go_wp2_with (at_builtin; refine wpList_runb _ rfl (.tmp 46) (.tmp 51) 27 rfl rfl rfl r7 ?_)
      go_wp2
      go_roundg gf
      case measure => omega
      case rel => exact ⟨j + 1, x + 4, A7, c7, by go_num, by go_num, Lib.hid (by omega), HXX, HO, HD, HK, HB7, HS7⟩
end Go.Proofs.Ytdjblkmhlghglaa
