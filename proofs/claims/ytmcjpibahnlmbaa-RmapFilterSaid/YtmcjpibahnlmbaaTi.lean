/-
  Contracts of the reference's Then and Filter. No statement is proved here; no conditions.
-/
import Derived.Test.YtmcjpibahnlmbaaTh
import Derived.Test.YtmcjpibahnlmbaaRe
namespace Go.Proofs.Ytmcjpibahnlmbaa
open Go.RowKit Go.Joins

set_option maxRecDepth 100000 in
set_option maxHeartbeats 1000000 in
theorem rthen_any (A0 A1 : Option Addr) (c d : Nat) (m n : List Cl) (t : Rt) (w : World) (hm : Cr w A0 m) (hn : Cr w A1 n) (hml : m.length ≤ 10000) (hnl : n.length ≤ 10000) (hmk : Oks (cps m)) (hnk : Oks (cps n)) (ht : okt t = true) (hB : t.A < 4294967296) :
    Calls Try.prog 24 #[.slice A0 m.length c, .slice A1 n.length d, tv t] w fun e w' => e = .returned (.tuple #[tv (thn (cps m) (cps n) t).1, .bool (thn (cps m) (cps n) t).2]) ∧ Below w.heap.size w w' := by
  obtain ⟨W0, hW0⟩ : ∃ W0, w.alloc (.cells #[Value.int .u32 (t.A : Int), Value.int .i64 t.N, Value.int .i64 t.k, Value.int .i64 t.c, Value.int .u32 (t.t : Int)] 44) = W0 := ⟨_, rfl⟩
  have s0 : W0.heap.size = w.heap.size + 1 := by rw [← hW0]; simp
  obtain ⟨W1, hW1⟩ : ∃ W1, W0.alloc (.cells #[Value.int .u32 0, Value.int .i64 0, Value.int .i64 0, Value.int .i64 0, Value.int .u32 0] 44) = W1 := ⟨_, rfl⟩
  have s1 : W1.heap.size = w.heap.size + 2 := by rw [← hW1]; simp [s0]
  have b0 : Below w.heap.size w W0 := by rw [← hW0]; exact below_alloc1 _ _
  have b1 : Below W0.heap.size W0 W1 := by rw [← hW1]; exact below_alloc1 _ _
  have HB : Hid (Below w.heap.size w W1) := Lib.hid (b0.trans (b1.mono (by omega)))
  have KX : Hid (∀ V, Below W1.heap.size W1 V → V.cell? ⟨w.heap.size, 0, none⟩ = some (Value.int .u32 (t.A : Int)) ∧ V.cell? ⟨w.heap.size, 1, none⟩ = some (Value.int .i64 t.N) ∧ V.cell? ⟨w.heap.size, 2, none⟩ = some (Value.int .i64 t.k) ∧ V.cell? ⟨w.heap.size, 3, none⟩ = some (Value.int .i64 t.c) ∧ V.cell? ⟨w.heap.size, 4, none⟩ = some (Value.int .u32 (t.t : Int))) :=
    Lib.hid (fun V hV => tb_new hW0 (b1.trans (hV.mono b1.size)))
  have KZ : Hid (∀ V, Below W1.heap.size W1 V → V.heap[w.heap.size + 1]? = some (.cells #[Value.int .u32 0, Value.int .i64 0, Value.int .i64 0, Value.int .i64 0, Value.int .u32 0] 44)) :=
    Lib.hid (fun V hV => by rw [hV.block _ (by omega), ← hW1]; exact alloc_at _ _ _ (by omega))
  clear b0 b1
  have c1 := reval8_any A0 c m t W1 (hm.step HB.out) hml hmk ht hB
  have c2 := fun W (hW : Below W1.heap.size W1 W) r (hr : okt r = true) (hrA : r.A < 4294967296) => reval8_any A1 d n r W (hn.step (HB.out.trans (hW.mono (by omega)))) hnl hnk hr hrA
  have he : okt (evm (cps m) t).1 = true := evm_ok hmk ht
  have hA : (evm (cps m) t).1.A < 4294967296 := evm_A hB
  obtain ⟨R, hR⟩ : ∃ R, thn (cps m) (cps n) t = R := ⟨_, rfl⟩
  rw [hR]
  have hth : R = if (evm (cps m) t).2.1 then ((evm (cps n) (evm (cps m) t).1).1, (evm (cps n) (evm (cps m) t).1).2.1) else (zr, false) := hR.symm
  have HR := Lib.hid hth
  clear hth hR
  obtain ⟨⟨r, b1, s⟩, hE⟩ : ∃ E, evm (cps m) t = E := ⟨_, rfl⟩
  rw [hE] at c1 he hA HR
  simp only at c1 he hA HR
  have c2 := fun W hW => c2 W hW r he hA
  obtain ⟨⟨r2, b2, s2⟩, hE2⟩ : ∃ E, evm (cps n) r = E := ⟨_, rfl⟩
  rw [hE2] at c2 HR
  simp only at c2 HR
  clear hE hE2 he hA hm hn hmk hnk
  generalize m.length = lm at *
  generalize n.length = ln at *
  obtain ⟨q0, q1, q2, q3, q4⟩ := KX.out _ (Below.refl _ _)
  go_enter Try.func24, Try.ntmps24
  go_wp2_with fail
  refine c1.mono ?_
  rintro e V1 ⟨rfl, hb1⟩
  clear c1 hW0 hW1 q0 q1 q2 q3 q4
  obtain ⟨V2, hV2⟩ : ∃ V2, V1.alloc (.cells #[Value.int .u32 (r.A : Int), Value.int .i64 r.N, Value.int .i64 r.k, Value.int .i64 r.c, Value.int .u32 (r.t : Int)] 44) = V2 := ⟨_, rfl⟩
  have b2' : Below V1.heap.size V1 V2 := by rw [← hV2]; exact below_alloc1 _ _
  have HB2 := Lib.hid (hb1.trans (b2'.mono hb1.size))
  obtain ⟨q0, q1, q2, q3, q4⟩ := tb_new hV2 (Below.refl _ _)
  clear hb1 b2'
  cases b1
  · have HR2 : Hid (R = (zr, false)) := Lib.hid (by rw [HR.out]; rfl)
    have kz := KZ.out _ HB2.out
    obtain ⟨z0, z1, z2, z3, z4, f0, f1, f2, f3, f4, hzl⟩ := tz_at kz
    obtain ⟨r0, r1, r2, r3, r4⟩ := tz_get kz (.int .u32 0) (.int .i64 0) (.int .i64 0) (.int .i64 0) (.int .u32 0)
    clear HR
    go_wp2
    refine bodyPost_ret (v := .tuple #[tv zr, .bool false]) (by simp [results, Try.results24, go_sem, r0, r1, r2, r3, r4, zr]) rfl ⟨by rw [HR2.out], ?_⟩
    exact below_st5 (HB.out.trans (HB2.out.mono (by omega))) (by omega) _ _ _ _ _
  · have HR2 : Hid (R = (r2, b2)) := Lib.hid (by rw [HR.out]; rfl)
    have c3 := c2 V2 HB2.out
    clear HR c2
    go_wp2_with fail
    refine c3.mono ?_
    rintro e V3 ⟨rfl, hb3⟩
    clear c3 hV2 q0 q1 q2 q3 q4
    obtain ⟨V4, hV4⟩ : ∃ V4, V3.alloc (.cells #[Value.int .u32 (r2.A : Int), Value.int .i64 r2.N, Value.int .i64 r2.k, Value.int .i64 r2.c, Value.int .u32 (r2.t : Int)] 44) = V4 := ⟨_, rfl⟩
    have b4' : Below V3.heap.size V3 V4 := by rw [← hV4]; exact below_alloc1 _ _
    have HB4 := Lib.hid (HB2.out.trans ((hb3.trans (b4'.mono hb3.size)).mono HB2.out.size))
    obtain ⟨q0, q1, q2, q3, q4⟩ := tb_new hV4 (Below.refl _ _)
    clear hb3 b4'
    have kz := KZ.out _ HB4.out
    obtain ⟨z0, z1, z2, z3, z4, f0, f1, f2, f3, f4, hzl⟩ := tz_at kz
    obtain ⟨y0, y1, y2, y3, y4⟩ := tz_get kz (Value.int .u32 (r2.A : Int)) (Value.int .i64 r2.N) (Value.int .i64 r2.k) (Value.int .i64 r2.c) (Value.int .u32 (r2.t : Int))
    go_wp2
    refine bodyPost_ret (v := .tuple #[tv r2, .bool b2]) (by simp [results, Try.results24, go_sem, y0, y1, y2, y3, y4]) rfl ⟨by rw [HR2.out], ?_⟩
    exact below_st5 (HB.out.trans (HB4.out.mono (by omega))) (by omega) _ _ _ _ _
set_option maxRecDepth 100000 in
set_option maxHeartbeats 1000000 in
theorem rfilter_any (A0 A1 : Option Addr) (c d : Nat) (m : List Cl) (l : List Rt) (w : World) (hm : Cr w A0 m) (hl : Tt w A1 l) (hml : m.length ≤ 10000) (hll : l.length ≤ 10000) (hmk : Oks (cps m)) (ht : ∀ t ∈ l, okt t = true ∧ t.A < 4294967296) :
    Calls Try.prog 26 #[.slice A0 m.length c, .slice A1 l.length d] w fun e w' => ∃ A' c', e = .returned (.slice A' (flt (cps m) l).length c') ∧ Tt w' A' (flt (cps m) l) ∧ Below w.heap.size w w' := by
  have ce := fun W (hW : Below w.heap.size w W) t (h : t ∈ l) => reval8_any A0 c m t W (hm.step hW) hml hmk (ht t h).1 (ht t h).2
  obtain ⟨M, hM⟩ : ∃ M, cps m = M := ⟨_, rfl⟩
  rw [hM] at ce
  rw [hM]
  have HCE := Lib.hid ce
  have HL := Lib.hid hl
  obtain ⟨ln, hln⟩ : ∃ ln, l.length = ln := ⟨_, rfl⟩
  rw [hln] at hll ⊢
  have HLN := Lib.hid hln
  clear hm hmk ht ce hM hl hln
  generalize m.length = lm at *
  obtain ⟨W0, hW0⟩ : ∃ W0, w.alloc (.cells #[] 44) = W0 := ⟨_, rfl⟩
  have O0 : Hid (Ob 44 5 (w.heap.size ≤ ·) W0 (some ⟨w.heap.size, 0, none⟩) 0 (tflat [])) := Lib.hid (by rw [← hW0]; exact Ob.lit0 w 44 5)
  have B0 : Hid (Below w.heap.size w W0) := Lib.hid (by rw [← hW0]; exact below_alloc1 _ _)
  go_enter Try.func26, Try.ntmps26
  go_wp2_with fail
  clear hW0
  go_loopg [5, 6] ln (fun gf v3 v4 wx => ∃ (k n : Nat) (A' : Option Addr) (c' : Nat), v3 = .slice A' n c' ∧ v4 = .int .i64 (k : Int) ∧ Hid (gf + k = ln) ∧ Hid ((flt M (l.take k)).length = n) ∧ Hid (Ob 44 5 (w.heap.size ≤ ·) wx A' c' (tflat (flt M (l.take k)))) ∧ Hid (Below w.heap.size w wx))
  case atStart => exact ⟨0, 0, _, _, rfl, rfl, Lib.hid (by omega), Lib.hid rfl, O0, B0⟩
  case round =>
    obtain ⟨k, n, A', c', rfl, rfl, hk, hn, ho, hb⟩ := hrel
    have hk' := hk.out
    clear O0 B0
    cases gk with
    | zero =>
      have e1 : k = ln := by omega
      have lt0 : decide ((k : Int) < (ln : Int)) = false := by simp; omega
      have lt1 : decide (k < ln) = false := by simp; omega
      have h1 := hn.out
      have h2 := ho.out
      rw [e1, ← HLN.out, List.take_length] at h1 h2
      have H1 := Lib.hid h1
      have H2 := Lib.hid h2
      clear h1 h2 e1
      go_wp2
      go_ret
      exact ⟨A', c', by rw [H1.out]; rfl, H2.out.rd, hb.out⟩
    | succ gf =>
      have hkl : k < l.length := by rw [HLN.out]; omega
      have lt0 : (k : Int) < (ln : Int) := by omega
      have hw1 : (k : Int) + 1 ≤ 10000 := by omega
      obtain ⟨b, off, hA, _, e0, e1, e2, e3, e4⟩ := (HL.out.step hb.out).at hkl
      have hst : flt M (l.take (k + 1)) = flt M (l.take k) ++ flt M [gt l k] := by rw [List.take_succ_eq_append_getElem hkl, flt_append, gt_eq hkl]
      have hmem : gt l k ∈ l := by rw [gt_eq hkl]; exact List.getElem_mem _
      have hnk : n ≤ k := by
        have := flt_len M (l.take k)
        rw [hn.out] at this
        simp at this
        omega
      obtain ⟨t, hte⟩ : ∃ t, gt l k = t := ⟨_, rfl⟩
      rw [hte] at e0 e1 e2 e3 e4 hst hmem
      subst hA
      clear hte hkl
      have O1 := Lib.hid ho.out
      have HB1 := Lib.hid hb.out
      have c1 := HCE.out wr HB1.out t hmem
      rw [flt_one] at hst
      obtain ⟨⟨r, b1, s⟩, hE⟩ : ∃ E, evm M t = E := ⟨_, rfl⟩
      rw [hE] at c1 hst
      simp only at c1 hst
      have HST := Lib.hid hst
      clear hmem hE hst hb ho
      go_wp2_with fail
      refine c1.mono ?_
      rintro e V1 ⟨rfl, hb1⟩
      obtain ⟨V2, hV2⟩ : ∃ V2, V1.alloc (.cells #[Value.int .u32 (r.A : Int), Value.int .i64 r.N, Value.int .i64 r.k, Value.int .i64 r.c, Value.int .u32 (r.t : Int)] 44) = V2 := ⟨_, rfl⟩
      have b2' : Below V1.heap.size V1 V2 := by rw [← hV2]; exact below_alloc1 _ _
      have hb2 := hb1.trans (b2'.mono hb1.size)
      have HB2 := Lib.hid (HB1.out.trans (hb2.mono HB1.out.size))
      have O2 := Lib.hid (O1.out.below hb2)
      clear hb1 b2' hb2 HB1 O1 c1 e0 e1 e2 e3 e4 
      obtain ⟨q0, q1, q2, q3, q4⟩ := tb_new hV2 (Below.refl _ _)
      cases b1
      · have HST2 : Hid (flt M (l.take (k + 1)) = flt M (l.take k)) := Lib.hid (by rw [HST.out]; simp)
        clear HST
        go_wp2
        go_roundg gf
        case measure => omega
        case rel => exact ⟨k + 1, n, A', c', rfl, by go_num, Lib.hid (by omega), Lib.hid (by rw [HST2.out]; exact hn.out), Lib.hid (by rw [HST2.out]; exact O2.out), HB2⟩
      · have HST2 : Hid (flt M (l.take (k + 1)) = flt M (l.take k) ++ [r]) := Lib.hid (by rw [HST.out]; simp)
        clear HST
        obtain ⟨mm, hmm⟩ : ∃ mm, V2.heap.size = mm := ⟨_, rfl⟩
        have hsz := HB2.out.size
        obtain ⟨g', c2, W3, r1, r2, r3, r4⟩ := rr_app O2.out hn.out (by omega) r mm hmm
        have HO : Hid (Ob 44 5 (w.heap.size ≤ ·) W3 (some ⟨g', 0, none⟩) c2 (tflat (flt M (l.take (k + 1))))) := Lib.hid (by rw [HST2.out]; exact Ob.next r2 r4 (by omega))
        have HB3 : Hid (Below w.heap.size w W3) := Lib.hid (HB2.out.trans (r3.below (fun _ h => h) hsz))
        clear r2 r3 r4 O2 HB2
        go_wp2_with (at_builtin; refine wpList_runb _ rfl (.tmp 28) (.tmp 30) 61 rfl rfl rfl r1 ?_)
        go_wp2
        go_roundg gf
        case measure => omega
        case rel => exact ⟨k + 1, n + 1, _, c2, by go_num, by go_num, Lib.hid (by omega), Lib.hid (by rw [HST2.out, List.length_append, hn.out]; rfl), HO, HB3⟩
end Go.Proofs.Ytmcjpibahnlmbaa
