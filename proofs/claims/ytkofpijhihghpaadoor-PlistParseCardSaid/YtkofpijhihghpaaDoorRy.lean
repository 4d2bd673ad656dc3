/-
  The contract of the reference's Add. No statement is proved here; no conditions.
-/
import Derived.Test.YtkofpijhihghpaaDoorRx
namespace Go.Proofs.YtkofpijhihghpaaDoor
open Go.RowKit Go.Joins

/-- What has been put together of the first k rules; the new one comes ahead of place R. -/
def inp (x : Ru) (R : Nat) (l : List Ru) (k : Nat) : List Ru := if k ≤ R then l.take k else l.take R ++ x :: (l.drop R).take (k - R)
theorem inp_low {x : Ru} {R k : Nat} {l : List Ru} (hk : k < l.length) (h : k < R) : inp x R l (k + 1) = inp x R l k ++ [gr l k] := by
  rw [inp, inp, if_pos (by omega), if_pos (by omega), take_next hk]
theorem drop_next {l : List Ru} {R k : Nat} (hk : k < l.length) (h : R ≤ k) : (l.drop R).take (k + 1 - R) = (l.drop R).take (k - R) ++ [gr l k] := by
  rw [show k + 1 - R = (k - R) + 1 by omega, List.take_succ_eq_append_getElem (by rw [List.length_drop]; omega), List.getElem_drop, gr_eq hk]
  congr 3
  omega
theorem inp_mid {x : Ru} {R : Nat} {l : List Ru} (hk : R < l.length) : inp x R l (R + 1) = (inp x R l R ++ [x]) ++ [gr l R] := by
  rw [inp, inp, if_neg (by omega), if_pos (by omega), drop_next hk (Nat.le_refl _)]
  simp
theorem inp_high {x : Ru} {R k : Nat} {l : List Ru} (hk : k < l.length) (h : R < k) : inp x R l (k + 1) = inp x R l k ++ [gr l k] := by
  rw [inp, inp, if_neg (by omega), if_neg (by omega), drop_next hk (by omega)]
  simp
theorem inp_len {x : Ru} {R k : Nat} {l : List Ru} (hk : k ≤ l.length) : (inp x R l k).length ≤ k + 1 := by
  unfold inp
  split
  · simp; omega
  · simp; omega
theorem inp_end {x : Ru} {R : Nat} {l : List Ru} (hR : R < l.length) : inp x R l l.length = l.take R ++ x :: l.drop R := by
  rw [inp, if_neg (by omega), List.take_of_length_le (l := l.drop R) (by rw [List.length_drop]; omega)]
set_option maxRecDepth 100000 in
set_option maxHeartbeats 1000000 in
theorem qadd_any (A0 : Option Addr) (c : Nat) (l : List Ru) (x : Ru) (w : World) (hl : Rr w A0 l) (hll : l.length ≤ 10000) (hxA : x.A < 4294967296) (hs : Ls l) :
    Calls Tryd.prog 21 #[.slice A0 l.length c, rv x] w fun e w' => Lst w (addr l x) e w' := by
  have cm := fun W => qmay_any x W hxA
  obtain ⟨W0, hW0⟩ : ∃ W0, w.alloc (.cells #[.int .i64 x.s, .bool x.p, .int .u32 (x.A : Int), .int .i64 x.N, .int .i64 x.g, .int .i64 x.l] 34) = W0 := ⟨_, rfl⟩
  have b0 : Below w.heap.size w W0 := by rw [← hW0]; exact below_alloc1 _ _
  have KK : Hid (∀ V, Below W0.heap.size W0 V → V.cell? ⟨w.heap.size, 0, none⟩ = some (.int .i64 x.s) ∧ V.cell? ⟨w.heap.size, 1, none⟩ = some (.bool x.p) ∧ V.cell? ⟨w.heap.size, 2, none⟩ = some (.int .u32 (x.A : Int)) ∧ V.cell? ⟨w.heap.size, 3, none⟩ = some (.int .i64 x.N) ∧ V.cell? ⟨w.heap.size, 4, none⟩ = some (.int .i64 x.g) ∧ V.cell? ⟨w.heap.size, 5, none⟩ = some (.int .i64 x.l)) := Lib.hid (fun V hV => rb_new hW0 hV)
  have s0 : w.heap.size < W0.heap.size := by rw [← hW0]; simp
  have cf := fun W (hW : Below W0.heap.size W0 W) => qdrop_any A0 c l x.s W ((hl.step b0).step hW) hll
  obtain ⟨ln, hln⟩ : ∃ ln, l.length = ln := ⟨_, rfl⟩
  rw [hln] at cf hll
  have HL := Lib.hid (hl.step b0)
  have HLN := Lib.hid hln
  have HB0 := Lib.hid b0
  have HS := Lib.hid hs
  have HAD : Hid (addr l x = if okr x then (if hasq l x.s then ([], 7) else if 200 ≤ ln then ([], 8) else (inl x l, 0)) else ([], 1)) := Lib.hid (by rw [addr, hln])
  rw [hln]
  obtain ⟨k0, k1, k2, k3, k4, k5⟩ := KK.out _ (Below.refl _ _)
  clear hl hln b0 hs
  go_enter Tryd.func21, Tryd.ntmps21
  cases hk : okr x with
  | false =>
    rw [hk] at cm
    go_wp2_with fail
    refine (cm _).mono ?_
    rintro e W1 ⟨rfl, hb1⟩
    go_wp2
    go_ret2
    refine ⟨none, 0, ?_, ?_, HB0.out.trans (hb1.mono HB0.out.size)⟩
    · rw [HAD.out, hk]; rfl
    · rw [HAD.out, hk]; exact Sl.nil0 _
  | true =>
    rw [hk] at cm
    go_wp2_with fail
    refine (cm _).mono ?_
    rintro e W1 ⟨rfl, hb1⟩
    have cf1 := cf W1 hb1
    clear cm cf hW0 k0 k1 k2 k3 k4 k5
    obtain ⟨k0, k1, k2, k3, k4, k5⟩ := KK.out _ hb1
    cases hq : hasq l x.s with
    | true =>
      have hd : dropr l x.s = (drl l x.s, 0) := by rw [dropr, hq]; rfl
      rw [hd] at cf1
      go_wp2_with fail
      refine cf1.mono ?_
      rintro e W2 ⟨A2, c2, rfl, _, hb2⟩
      have HW2 : Hid (Below w.heap.size w W2) := Lib.hid (HB0.out.trans ((hb1.trans (hb2.mono hb1.size)).mono HB0.out.size))
      go_wp2
      go_ret2
      refine ⟨none, 0, ?_, ?_, HW2.out⟩
      · rw [HAD.out, hk, hq]; rfl
      · rw [HAD.out, hk, hq]; exact Sl.nil0 _
    | false =>
      have hd : dropr l x.s = ([], 6) := by rw [dropr, hq]; rfl
      rw [hd] at cf1
      go_wp2_with fail
      refine cf1.mono ?_
      rintro e W2 ⟨A2, c2, rfl, _, hb2⟩
      have HB2 : Hid (Below W0.heap.size W0 W2) := Lib.hid (hb1.trans (hb2.mono hb1.size))
      clear cf1 hb1 hb2 k0 k1 k2 k3 k4 k5
      by_cases hf : 200 ≤ ln
      · have f1 : (200 : Int) ≤ (ln : Int) := by omega
        go_wp2_with fail
        go_ret2
        refine ⟨none, 0, ?_, ?_, HB0.out.trans (HB2.out.mono HB0.out.size)⟩
        · rw [HAD.out, hk, hq, if_pos hf]; rfl
        · rw [HAD.out, hk, hq, if_pos hf]; exact Sl.nil0 _
      · have f1 : ¬ ((200 : Int) ≤ (ln : Int)) := by omega
        obtain ⟨R, hR⟩ : ∃ R, fsi (fun y => decide (x.s ≤ y.s)) l = R := ⟨_, rfl⟩
        have hle := fsi_le (fun y => decide (x.s ≤ y.s)) l
        rw [hR, HLN.out] at hle
        have hgt : Hid (∀ k, k < ln → (k < R → (gr l k).s < x.s) ∧ (R ≤ k → x.s < (gr l k).s)) := Lib.hid (fun k hkl => by
          obtain ⟨h1, h2⟩ := fsi_ge HS.out x.s
          rw [hR] at h1 h2
          have hkl2 : k < l.length := by rw [HLN.out]; exact hkl
          have hne : (gr l k).s ≠ x.s := fun h => by
            have := (hasq_iff l x.s).2 ⟨gr l k, by rw [gr_eq hkl2]; exact List.getElem_mem _, h⟩
            rw [hq] at this
            cases this
          refine ⟨fun h => ?_, fun h => ?_⟩
          · rw [gr_eq hkl2]
            exact h1 _ (List.mem_iff_getElem.2 ⟨k, by simp; omega, by simp⟩)
          · have := h2 (gr l k) (by rw [gr_eq hkl2]; exact List.mem_iff_getElem.2 ⟨k - R, by simp; omega, by simp [show R + (k - R) = k by omega]⟩)
            omega)
        have HF : Hid (addr l x = (l.take R ++ x :: l.drop R, 0)) := Lib.hid (by
          rw [HAD.out, hk, hq, if_neg hf, inl, hR]
          rfl)
        obtain ⟨W3, hW3⟩ : ∃ W3, W2.alloc (.cells #[] 34) = W3 := ⟨_, rfl⟩
        have b3 : Below W2.heap.size W2 W3 := by rw [← hW3]; exact below_alloc1 _ _
        have O0 : Hid (Ob 34 6 (W0.heap.size ≤ ·) W3 (some ⟨W2.heap.size, 0, none⟩) 0 []) := Lib.hid (by rw [← hW3]; exact (Ob.lit0 W2 34 6).more (fun j hj _ => Nat.le_trans HB2.out.size hj))
        have B3 : Hid (Below W0.heap.size W0 W3) := Lib.hid (HB2.out.trans (b3.mono HB2.out.size))
        clear b3 HB2 hR hq hf HAD
        go_wp2_with fail
        clear hW3
        go_loopg [8, 9, 10] ln (fun gf v8 v9 v10 wx => ∃ (k n : Nat) (A' : Option Addr) (c' : Nat), v8 = .slice A' n c' ∧ v9 = .bool (decide (R < k)) ∧ v10 = .int .i64 (k : Int) ∧ Hid (gf + k = ln) ∧ Hid ((inp x R l k).length = n) ∧ Hid (Ob 34 6 (W0.heap.size ≤ ·) wx A' c' (rflat (inp x R l k))) ∧ Hid (Below W0.heap.size W0 wx))
        case atStart => exact ⟨0, 0, _, _, rfl, by simp, rfl, Lib.hid (by omega), Lib.hid (by simp [inp]), Lib.hid (by simpa [inp, rflat] using O0.out), B3⟩
        case round =>
          obtain ⟨k, n, A', c', rfl, rfl, rfl, hk, hn, ho, hb⟩ := hrel
          have hk' := hk.out
          clear O0 B3
          cases gk with
          | zero =>
            have e1 : k = ln := by omega
            have lt0 : decide ((k : Int) < (ln : Int)) = false := by simp; omega
            have lt1 : decide (k < ln) = false := by simp; omega
            have h1 := hn.out
            have h2 := ho.out
            rw [e1, ← HLN.out] at h1 h2
            by_cases hq : R < ln
            · have n1 : decide (R < k) = true := by simp; omega
              rw [inp_end (by rw [HLN.out]; exact hq)] at h1 h2
              have H1 := Lib.hid h1
              have H2 := Lib.hid h2
              clear h1 h2
              rw [n1]
              go_wp2
              go_ret2
              refine ⟨A', c', ?_, by rw [HF.out]; exact H2.out.sl, HB0.out.trans (hb.out.mono HB0.out.size)⟩
              rw [HF.out]
              show _ = Ending.returned (.tuple #[.slice A' (l.take R ++ x :: l.drop R).length c', .int .i64 0])
              rw [H1.out]
              rfl
            · have n1 : decide (R < k) = false := by simp; omega
              have e9 : inp x R l l.length = l.take R := by rw [inp, if_pos (by have := HLN.out; omega), HLN.out, show R = ln by omega]
              rw [e9] at h1 h2
              have e8 : l.take R ++ x :: l.drop R = l.take R ++ [x] := by rw [List.drop_eq_nil_of_le (by rw [HLN.out]; omega)]
              have E8 := Lib.hid e8
              obtain ⟨k0, k1, k2, k3, k4, k5⟩ := KK.out _ hb.out
              obtain ⟨m, hm⟩ : ∃ m, wr.heap.size = m := ⟨_, rfl⟩
              have hsz := hb.out.size
              have hnl : n ≤ 10000 := by have := List.length_take_le R l; omega
              obtain ⟨g', c2, W3, r1, r2, r3, r4⟩ := ru_app h2 h1 (by omega) x m hm
              have HO : Hid (Sl W3 (some ⟨g', 0, none⟩) c2 (l.take R ++ [x])) := Lib.hid (Ob.next r2 r4 (show W0.heap.size ≤ m by omega)).sl
              have HB3 : Hid (Below W0.heap.size W0 W3) := Lib.hid (hb.out.trans (r3.below (fun _ h => h) hsz))
              have H1 := Lib.hid h1
              clear r2 r3 r4 h1 h2 e8 e9 hnl
              rw [n1]
              go_wp2_with (at_builtin; refine wpList_runb _ rfl (.tmp 58) (.tmp 60) 44 rfl rfl rfl r1 ?_)
              go_wp2
              go_ret2
              refine ⟨_, c2, ?_, by rw [HF.out]; show Sl _ _ _ (l.take R ++ x :: l.drop R); rw [E8.out]; exact HO.out, HB0.out.trans (HB3.out.mono HB0.out.size)⟩
              rw [HF.out]
              show _ = Ending.returned (.tuple #[.slice (some ⟨g', 0, none⟩) (l.take R ++ x :: l.drop R).length c2, .int .i64 0])
              rw [E8.out, List.length_append, H1.out]
              rfl
          | succ gf =>
            have hkl : k < l.length := by rw [HLN.out]; omega
            have lt0 : (k : Int) < (ln : Int) := by omega
            have hw1 : (k : Int) + 1 ≤ 10000 := by omega
            have hnk : n ≤ k + 1 := by rw [← hn.out]; exact inp_len (by omega)
            obtain ⟨g1, g2⟩ := hgt.out k (by omega)
            obtain ⟨k0, k1, k2, k3, k4, k5⟩ := KK.out _ hb.out
            obtain ⟨b, off, hA, _, e0, e1, e2, e3, e4, e5⟩ := (HL.out.step hb.out).at hkl
            obtain ⟨y, hy⟩ : ∃ y, gr l k = y := ⟨_, rfl⟩
            rw [hy] at e0 e1 e2 e3 e4 e5 g1 g2
            subst hA
            rcases Nat.lt_trichotomy k R with hq | hq | hq
            · have n1 : decide (R < k) = false := by simp; omega
              have n2 : ¬ (y.s > x.s) := by have := g1 hq; omega
              have HST : Hid (inp x R l (k + 1) = inp x R l k ++ [y]) := Lib.hid (by rw [inp_low hkl hq, hy])
              have n4 : Hid (decide (R < k + 1) = false) := Lib.hid (by simp; omega)
              clear g1 g2 hy hkl hq
              rw [n1]
              go_wp2_with fail
              go_quiet (fail)
              have ho' := ho.out.drew nq
              have hb' := hb.out.trans (below_draws _ wr nq)
              have e0' : (wr.drewN nq).cell? ⟨b, off + k * 6, none⟩ = some (.int .i64 y.s) := e0
              have e1' : (wr.drewN nq).cell? ⟨b, off + k * 6 + 1, none⟩ = some (.bool y.p) := e1
              have e2' : (wr.drewN nq).cell? ⟨b, off + k * 6 + 2, none⟩ = some (.int .u32 (y.A : Int)) := e2
              have e3' : (wr.drewN nq).cell? ⟨b, off + k * 6 + 3, none⟩ = some (.int .i64 y.N) := e3
              have e4' : (wr.drewN nq).cell? ⟨b, off + k * 6 + 4, none⟩ = some (.int .i64 y.g) := e4
              have e5' : (wr.drewN nq).cell? ⟨b, off + k * 6 + 5, none⟩ = some (.int .i64 y.l) := e5
              clear ho hb e0 e1 e2 e3 e4 e5 k0 k1 k2 k3 k4 k5
              generalize wr.drewN nq = wq at *
              obtain ⟨m, hm⟩ : ∃ m, wq.heap.size = m := ⟨_, rfl⟩
              have hsz := hb'.size
              obtain ⟨g', c2, W3, r1, r2, r3, r4⟩ := ru_app ho' hn.out (by omega) y m hm
              have HO : Hid (Ob 34 6 (W0.heap.size ≤ ·) W3 (some ⟨g', 0, none⟩) c2 (rflat (inp x R l (k + 1)))) := Lib.hid (by rw [HST.out]; exact Ob.next r2 r4 (by omega))
              have HB3 : Hid (Below W0.heap.size W0 W3) := Lib.hid (hb'.trans (r3.below (fun _ h => h) hsz))
              clear r2 r3 r4 ho' hb'
              go_wp2_with (at_builtin; refine wpList_runb _ rfl (.tmp 49) (.tmp 54) 44 rfl rfl rfl r1 ?_)
              go_wp2
              go_roundg gf
              case measure => omega
              case rel => exact ⟨k + 1, n + 1, _, c2, by go_num, by rw [n4.out], by go_num, Lib.hid (by omega), Lib.hid (by rw [HST.out, List.length_append, hn.out]; rfl), HO, HB3⟩
            · have n1 : decide (R < k) = false := by simp; omega
              have n2 : y.s > x.s := g2 (by omega)
              have HST : Hid (inp x R l (k + 1) = (inp x R l k ++ [x]) ++ [y]) := Lib.hid (by rw [hq, inp_mid (by rw [← hq]; exact hkl), ← hq, hy])
              have n4 : Hid (decide (R < k + 1) = true) := Lib.hid (by simp; omega)
              have HRD := Lib.hid (HL.out.step hb.out)
              have HY := Lib.hid hy
              have HKL := Lib.hid hkl
              clear g1 g2 hy hkl hq
              rw [n1]
              go_wp2_with fail
              go_quiet (fail)
              have ho' := ho.out.drew nq
              have hb' := hb.out.trans (below_draws _ wr nq)
              have HRD' := Lib.hid (HRD.out.drew nq)
              have hkq : Below W0.heap.size W0 (wr.drewN nq) := hb'
              clear ho hb e0 e1 e2 e3 e4 e5 k0 k1 k2 k3 k4 k5 HRD
              generalize wr.drewN nq = wq at *
              obtain ⟨k0, k1, k2, k3, k4, k5⟩ := KK.out _ hb'
              obtain ⟨m, hm⟩ : ∃ m, wq.heap.size = m := ⟨_, rfl⟩
              have hsz := hb'.size
              obtain ⟨g', c2, W3, r1, r2, r3, r4⟩ := ru_app ho' hn.out (by omega) x m hm
              have o3 : Ob 34 6 (W0.heap.size ≤ ·) W3 (some ⟨g', 0, none⟩) c2 (rflat (inp x R l k ++ [x])) := Ob.next r2 r4 (by omega)
              have hb3 : Below W0.heap.size W0 W3 := hb'.trans (r3.below (fun _ h => h) hsz)
              have hn3 : (inp x R l k ++ [x]).length = n + 1 := by rw [List.length_append, hn.out]; rfl
              obtain ⟨b', off', hA', _, e0, e1, e2, e3, e4, e5⟩ := (HL.out.step hb3).at HKL.out
              simp only [Option.some.injEq, Addr.mk.injEq] at hA'
              obtain ⟨rfl, rfl, _⟩ := hA'
              rw [HY.out] at e0 e1 e2 e3 e4 e5
              obtain ⟨m2, hm2⟩ : ∃ m, W3.heap.size = m := ⟨_, rfl⟩
              have hsz2 := hb3.size
              obtain ⟨g4, c4, W4, p1, p2, p3, p4⟩ := ru_app o3 hn3 (by omega) y m2 hm2
              have HO : Hid (Ob 34 6 (W0.heap.size ≤ ·) W4 (some ⟨g4, 0, none⟩) c4 (rflat (inp x R l (k + 1)))) := Lib.hid (by rw [HST.out]; exact Ob.next p2 p4 (by omega))
              have HB3 : Hid (Below W0.heap.size W0 W4) := Lib.hid (hb3.trans (p3.below (fun _ h => h) hsz2))
              have HN3 := Lib.hid hn3
              clear r2 r3 r4 ho' hb' o3 hb3 p2 p3 p4 hn3 hkq
              go_upto_region 16 with (at_builtin; refine wpList_runb _ rfl (.tmp 45) (.tmp 47) 44 rfl rfl rfl r1 ?_)
              clear r1 k0 k1 k2 k3 k4 k5
              go_wp2_with (at_builtin; refine wpList_runb _ rfl (.tmp 49) (.tmp 54) 44 rfl rfl rfl p1 ?_)
              go_wp2
              go_roundg gf
              case measure => omega
              case rel => exact ⟨k + 1, n + 1 + 1, _, c4, by go_num, by rw [n4.out], by go_num, Lib.hid (by omega), Lib.hid (by rw [HST.out, List.length_append, HN3.out]; rfl), HO, HB3⟩
            · have n1 : decide (R < k) = true := by simp; omega
              have HST : Hid (inp x R l (k + 1) = inp x R l k ++ [y]) := Lib.hid (by rw [inp_high hkl hq, hy])
              have n4 : Hid (decide (R < k + 1) = true) := Lib.hid (by simp; omega)
              clear g1 g2 hy hkl hq
              rw [n1]
              go_wp2_with fail
              go_quiet (fail)
              have ho' := ho.out.drew nq
              have hb' := hb.out.trans (below_draws _ wr nq)
              have e0' : (wr.drewN nq).cell? ⟨b, off + k * 6, none⟩ = some (.int .i64 y.s) := e0
              have e1' : (wr.drewN nq).cell? ⟨b, off + k * 6 + 1, none⟩ = some (.bool y.p) := e1
              have e2' : (wr.drewN nq).cell? ⟨b, off + k * 6 + 2, none⟩ = some (.int .u32 (y.A : Int)) := e2
              have e3' : (wr.drewN nq).cell? ⟨b, off + k * 6 + 3, none⟩ = some (.int .i64 y.N) := e3
              have e4' : (wr.drewN nq).cell? ⟨b, off + k * 6 + 4, none⟩ = some (.int .i64 y.g) := e4
              have e5' : (wr.drewN nq).cell? ⟨b, off + k * 6 + 5, none⟩ = some (.int .i64 y.l) := e5
              clear ho hb e0 e1 e2 e3 e4 e5 k0 k1 k2 k3 k4 k5
              generalize wr.drewN nq = wq at *
              obtain ⟨m, hm⟩ : ∃ m, wq.heap.size = m := ⟨_, rfl⟩
              have hsz := hb'.size
              obtain ⟨g', c2, W3, r1, r2, r3, r4⟩ := ru_app ho' hn.out (by omega) y m hm
              have HO : Hid (Ob 34 6 (W0.heap.size ≤ ·) W3 (some ⟨g', 0, none⟩) c2 (rflat (inp x R l (k + 1)))) := Lib.hid (by rw [HST.out]; exact Ob.next r2 r4 (by omega))
              have HB3 : Hid (Below W0.heap.size W0 W3) := Lib.hid (hb'.trans (r3.below (fun _ h => h) hsz))
              clear r2 r3 r4 ho' hb'
              go_wp2_with (at_builtin; refine wpList_runb _ rfl (.tmp 49) (.tmp 54) 44 rfl rfl rfl r1 ?_)
              go_wp2
              go_roundg gf
              case measure => omega
              case rel => exact ⟨k + 1, n + 1, _, c2, by go_num, by rw [n4.out], by go_num, Lib.hid (by omega), Lib.hid (by rw [HST.out, List.length_append, hn.out]; rfl), HO, HB3⟩
end Go.Proofs.YtkofpijhihghpaaDoor
