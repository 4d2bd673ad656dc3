/-
  The contract of the reference's Decode. No statement is proved here; no conditions.
-/
import Derived.Test.YtfhickgdmcmodaaRd0
namespace Go.Proofs.Ytfhickgdmcmodaa
open Go.RowKit Go.Joins

set_option maxRecDepth 100000 in
set_option maxHeartbeats 4000000 in
theorem rdecode_any (A : Option Addr) (c : Nat) (l : List Int) (w : World) (hb : Bt w A l) (hy : Byt l) (hc : l.length ≤ c) (hl : l.length ≤ 5000) :
    Calls Try.prog 14 #[.slice A l.length c] w fun e w' => ∃ A' c', e = .returned (.tuple #[pv' (decp l) A' c', .int .i64 (flt l)]) ∧ Own .u8 5 w' w.heap.size A' c' (decp l).b ∧ Below w.heap.size w w' := by
  obtain ⟨W0, hW0⟩ : ∃ W0, w.alloc (.cells #[Value.int .i64 0, .int .u32 0, .int .u32 0, .int .i64 0, .int .u8 0, .int .u8 0, .int .u8 0, .int .u8 0, .int .u8 0, .int .u8 0, .int .u8 0, .int .u8 0, .slice none 0 0] 32) = W0 := ⟨_, rfl⟩
  have b0 : Below w.heap.size w W0 := by rw [← hW0]; exact below_alloc1 _ _
  have s0 : W0.heap.size = w.heap.size + 1 := by rw [← hW0]; simp
  have KZ : Hid (∀ V, Below W0.heap.size W0 V → V.heap[w.heap.size]? = some (.cells #[Value.int .i64 0, .int .u32 0, .int .u32 0, .int .i64 0, .int .u8 0, .int .u8 0, .int .u8 0, .int .u8 0, .int .u8 0, .int .u8 0, .int .u8 0, .int .u8 0, .slice none 0 0] 32)) :=
    Lib.hid (fun V hV => by rw [hV.block _ (by omega), ← hW0]; exact alloc_at _ _ _ rfl)
  have HB : Hid (Below w.heap.size w W0) := Lib.hid b0
  have T0 : Below W0.heap.size W0 W0 := Below.refl _ _
  obtain ⟨n, hn⟩ : ∃ n, l.length = n := ⟨_, rfl⟩
  have HF : Hid (flt l = if n < 24 then 2 else if l.getD 0 0 ≠ 2 then 10 else if 1500 < n then 5 else if mayT (l.getD 1 0) = false ∨ num (sub l 2 2) ≠ (n : Int) then 3 else if num (sub l 12 2) ≠ ck l then 4 else if 1 < num (sub l 14 2) then 11 else 0) := Lib.hid (by rw [← hn]; rfl)
  have HZ : ∀ E, flt l = E → E ≠ 0 → decp l = zpk := fun E h h0 => by simp [decp, h, h0]
  by_cases c1 : n < 24
  · have e : flt l = 2 := by rw [HF.out, if_pos c1]
    rw [HZ 2 e (by decide), e, hn]
    have c1' : (n : Int) < 24 := by omega
    clear e HF
    obtain ⟨z0, z1, z2, z3, z4, z5, z6, z7, z8, z9, z10, z11, z12, f0, f1, f2, f3, f4, f5, f6, f7, f8, f9, f10, f11, f12, hzl⟩ := kz_at (KZ.out _ T0)
    go_enter Try.func14, Try.ntmps14
    go_wp2
    obtain ⟨r0, r1, r2, r3, r4, r5, r6, r7, r8, r9, r10, r11, r12⟩ := kz_get (KZ.out _ T0) (Value.int .i64 0) (.int .u32 0) (.int .u32 0) (.int .i64 0) (.int .u8 0) (.int .u8 0) (.int .u8 0) (.int .u8 0) (.int .u8 0) (.int .u8 0) (.int .u8 0) (.int .u8 0) (.slice none 0 0)
    refine bodyPost_ret (v := .tuple #[pv' zpk none 0, .int .i64 2]) (by simp [results, Try.results14, go_sem, r0, r1, r2, r3, r4, r5, r6, r7, r8, r9, r10, r11, r12, zpk]) rfl ⟨none, 0, rfl, Own.nil _ _, ?_⟩
    exact below_st13 (HB.out.trans (T0.mono HB.out.size)) (Nat.le_refl _) _ _ _ _ _ _ _ _ _ _ _ _ _
  have n24 : 24 ≤ n := by omega
  have n24' : ¬ ((n : Int) < 24) := by omega
  obtain ⟨b, off, rfl, hlt, -⟩ := hb (by rintro rfl; simp at hn; omega)
  have g0 : w.cell? ⟨b, off, none⟩ = some (.int .u8 (l.getD 0 0)) := hb.get (i := 0) (by omega)
  have g1 := hb.get (i := 1) (by omega)
  have y0 := byt_getD hy 0
  have y1 := byt_getD hy 1
  have hb0 := hb.step b0
  have q2 : Bt W0 _ (l.drop 2) := hb0.drop 2 (some ⟨b, off + 2, none⟩) (fun _ => by simp [addr_add])
  have q4 : Bt W0 _ (l.drop 4) := hb0.drop 4 (some ⟨b, off + 4, none⟩) (fun _ => by simp [addr_add])
  have q8 : Bt W0 _ (l.drop 8) := hb0.drop 8 (some ⟨b, off + 8, none⟩) (fun _ => by simp [addr_add])
  have q12 : Bt W0 _ (l.drop 12) := hb0.drop 12 (some ⟨b, off + 12, none⟩) (fun _ => by simp [addr_add])
  have q14 : Bt W0 _ (l.drop 14) := hb0.drop 14 (some ⟨b, off + 14, none⟩) (fun _ => by simp [addr_add])
  obtain ⟨A2, hA2⟩ : ∃ A2, (if c = 24 then (some ⟨b, off, none⟩ : Option Addr) else some ⟨b, off + 24, none⟩) = A2 := ⟨_, rfl⟩
  have q24 : Bt W0 A2 (l.drop 24) := hb0.drop 24 A2 (fun h => by rw [← hA2, if_neg (by omega)]; simp [addr_add])
  have g16 := hb.get (i := 16) (by omega)
  have g17 := hb.get (i := 17) (by omega)
  have g18 := hb.get (i := 18) (by omega)
  have g19 := hb.get (i := 19) (by omega)
  have g20 := hb.get (i := 20) (by omega)
  have g21 := hb.get (i := 21) (by omega)
  have g22 := hb.get (i := 22) (by omega)
  have g23 := hb.get (i := 23) (by omega)
  have C2 : ∀ (V : World) (i m k : Nat) (A' : Option Addr), Bt V A' (l.drop i) → m = n - i → i ≤ 22 → Calls Try.prog 26 #[.slice A' m k] V fun e w' => e = .returned (.int .i64 (num (sub l i 2))) ∧ Below V.heap.size V w' := fun V i m k A' hV hm hi =>
    two_any A' m k (l.drop i) V (by rw [List.length_drop, hn, hm]) hV (hy.drop i) (by rw [List.length_drop, hn]; omega)
  have C4 : ∀ (V : World) (i m k : Nat) (A' : Option Addr), Bt V A' (l.drop i) → m = n - i → m ≤ k → i ≤ 20 → Calls Try.prog 27 #[.slice A' m k, .int .i64 4] V fun e w' => ∃ A'' n' c', e = .returned (.tuple #[.int .u32 (num (sub l i 4)), .slice A'' n' c', .int .i64 0]) ∧ Below V.heap.size V w' := fun V i m k A' hV hm hk hi =>
    rtake4_any A' m k (l.drop i) V (by rw [List.length_drop, hn, hm]) hV (hy.drop i) (by rw [List.length_drop, hn]; omega) (by rw [List.length_drop, hn]; omega) (by rw [List.length_drop]; omega)
  have c22 := fun V => C2 V 2
  have c212 := fun V => C2 V 12
  have c214 := fun V => C2 V 14
  have c44 := fun V => C4 V 4
  have c48 := fun V => C4 V 8
  have l24 : (l.drop 24).length = n - 24 := by simp [hn]
  have v14 := num_two (sub_byt hy 14 2) (sub_len (by omega))
  have v12 := num_two (sub_byt hy 12 2) (sub_len (by omega))
  have v2 := num_two (sub_byt hy 2 2) (sub_len (by omega))
  have v4 := num_four (sub_byt hy 4 4) (sub_len (by omega))
  have v8 := num_four (sub_byt hy 8 4) (sub_len (by omega))
  have hkb := ck_bd l hy
  have HCK : Hid (l.getD 0 0 = 2 → mayT (l.getD 1 0) = true → num (sub l 2 2) = (n : Int) → inet (ahd (dec l) 0 ++ l.drop 24) = ck l) := Lib.hid (fun h0 h1 h2 => ck_dec hy (by omega) h0 h1 (by rw [hn]; exact h2))
  have HD : Hid (dec l = ⟨l.getD 1 0, num (sub l 4 4), num (sub l 8 4), num (sub l 14 2), l.getD 16 0, l.getD 17 0, l.getD 18 0, l.getD 19 0, l.getD 20 0, l.getD 21 0, l.getD 22 0, l.getD 23 0, l.drop 24⟩) := Lib.hid rfl
  have okd : Okp (dec l) := ⟨v4, v8, fun x hx => by
    simp only [dec, au, List.mem_cons, List.not_mem_nil, or_false] at hx
    rcases hx with rfl | rfl | rfl | rfl | rfl | rfl | rfl | rfl <;> exact byt_getD hy _, hy.drop 24⟩
  have HDZ : Hid (flt l = 0 → decp l = dec l) := Lib.hid (fun h => by simp [decp, h])
  have z24 := hy.drop 24
  have CA : ∀ (V : World) (A' : Option Addr) (k : Nat), l.length ≤ 1500 → Calls Try.prog 20 #[pv' (dec l) A' k, .int .i64 0] V fun e w' => ∃ A'' c', e = .returned (.slice A'' 16 c') ∧ Own .u8 5 w' V.heap.size A'' c' (ahd (dec l) 0) ∧ Below V.heap.size V w' := fun V A' k h15 =>
    ahead_any (dec l) A' k 0 V okd ⟨y1.1, y1.2⟩ ⟨v14.1, v14.2⟩ (by rw [dec_b, List.length_drop]; omega) (by omega) (by omega)
  unfold pv' at CA
  rw [dec_b, l24, hn] at CA
  have hd1 : (ahd (dec l) 0).length = 16 := ahd_length _ _
  have hd2 : Byt (ahd (dec l) 0) := ahd_byt _ _
  rw [show (dec l).t = l.getD 1 0 from rfl, show (dec l).r = num (sub l 4 4) from rfl, show (dec l).a = num (sub l 8 4) from rfl, show (dec l).u = num (sub l 14 2) from rfl, show (dec l).h0 = l.getD 16 0 from rfl, show (dec l).h1 = l.getD 17 0 from rfl, show (dec l).h2 = l.getD 18 0 from rfl, show (dec l).h3 = l.getD 19 0 from rfl, show (dec l).h4 = l.getD 20 0 from rfl, show (dec l).h5 = l.getD 21 0 from rfl, show (dec l).h6 = l.getD 22 0 from rfl, show (dec l).h7 = l.getD 23 0 from rfl] at CA
  generalize ahd (dec l) 0 = HH at *
  generalize l.drop 24 = L24 at *
  generalize sub l 2 2 = L2 at *
  generalize sub l 4 4 = L4 at *
  generalize sub l 8 4 = L8 at *
  generalize sub l 12 2 = L12 at *
  generalize sub l 14 2 = L14 at *
  generalize l.getD 0 0 = x0 at *
  generalize l.getD 1 0 = x1 at *
  generalize l.getD 16 0 = h0 at *
  generalize l.getD 17 0 = h1 at *
  generalize l.getD 18 0 = h2 at *
  generalize l.getD 19 0 = h3 at *
  generalize l.getD 20 0 = h4 at *
  generalize l.getD 21 0 = h5 at *
  generalize l.getD 22 0 = h6 at *
  generalize l.getD 23 0 = h7 at *
  obtain ⟨m, hm⟩ : ∃ m, off + 16 = m := ⟨_, rfl⟩
  rw [hm] at g16
  rw [show off + 17 = m + 1 by omega] at g17
  rw [show off + 18 = m + 2 by omega] at g18
  rw [show off + 19 = m + 3 by omega] at g19
  rw [show off + 20 = m + 4 by omega] at g20
  rw [show off + 21 = m + 5 by omega] at g21
  rw [show off + 22 = m + 6 by omega] at g22
  rw [show off + 23 = m + 7 by omega] at g23
  rw [hn] at hc hl ⊢
  have KB : Hid (∀ V, Below w.heap.size w V → V.cell? ⟨b, off, none⟩ = some (.int .u8 x0) ∧ V.cell? ⟨b, off + 1, none⟩ = some (.int .u8 x1) ∧ ∀ j, j < 8 → V.cell? ⟨b, m + j, none⟩ = some (.int .u8 ([h0, h1, h2, h3, h4, h5, h6, h7].getD j 0))) := Lib.hid (fun V hV => ⟨(hV.cell (p := ⟨b, off, none⟩) hlt).trans g0, (hV.cell (p := ⟨b, off + 1, none⟩) hlt).trans g1, fun j hj => by
    have : j = 0 ∨ j = 1 ∨ j = 2 ∨ j = 3 ∨ j = 4 ∨ j = 5 ∨ j = 6 ∨ j = 7 := by omega
    rw [hV.cell (p := ⟨b, m + j, none⟩) hlt]
    rcases this with rfl | rfl | rfl | rfl | rfl | rfl | rfl | rfl
    · exact g16
    · exact g17
    · exact g18
    · exact g19
    · exact g20
    · exact g21
    · exact g22
    · exact g23⟩)
  have h2c : ¬ (c = 2) := by omega
  have h4c : ¬ (c = 4) := by omega
  have h8c : ¬ (c = 8) := by omega
  have h12c : ¬ (c = 12) := by omega
  have h14c : ¬ (c = 14) := by omega
  have i00 : (0 : Int) < (n : Int) := by omega
  have i1 : (1 : Int) < (n : Int) := by omega
  have i14 : (14 : Int) ≤ (n : Int) := by omega
  have i12 : (12 : Int) ≤ (n : Int) := by omega
  have i24 : (24 : Int) ≤ (n : Int) := by omega
  have HFL : Hid (flt l = if x0 ≠ 2 then 10 else if 1500 < n then 5 else if mayT x1 = false ∨ num L2 ≠ (n : Int) then 3 else if num L12 ≠ ck l then 4 else if 1 < num L14 then 11 else 0) := Lib.hid (by rw [HF.out, if_neg c1])
  clear HF hb hy g0 g1 g16 g17 g18 g19 g20 g21 g22 g23 b0 C2 C4 c1
  have KB0 := KB.out _ HB.out
  obtain ⟨p0, p1, -⟩ := KB0
  by_cases c2 : x0 = 2
  case neg =>
    have e : flt l = 10 := by rw [HFL.out, if_pos c2]
    rw [HZ _ e (by decide), e]
    have c3 : (x0 == 2) = false := by simpa using c2
    clear e HFL
    obtain ⟨z0, z1, z2, z3, z4, z5, z6, z7, z8, z9, z10, z11, z12, f0, f1, f2, f3, f4, f5, f6, f7, f8, f9, f10, f11, f12, hzl⟩ := kz_at (KZ.out _ T0)
    go_enter Try.func14, Try.ntmps14
    go_wp2
    obtain ⟨r0, r1, r2, r3, r4, r5, r6, r7, r8, r9, r10, r11, r12⟩ := kz_get (KZ.out _ T0) (Value.int .i64 0) (.int .u32 0) (.int .u32 0) (.int .i64 0) (.int .u8 0) (.int .u8 0) (.int .u8 0) (.int .u8 0) (.int .u8 0) (.int .u8 0) (.int .u8 0) (.int .u8 0) (.slice none 0 0)
    refine bodyPost_ret (v := .tuple #[pv' zpk none 0, .int .i64 10]) (by simp [results, Try.results14, go_sem, r0, r1, r2, r3, r4, r5, r6, r7, r8, r9, r10, r11, r12, zpk]) rfl ⟨none, 0, rfl, Own.nil _ _, ?_⟩
    exact below_st13 (HB.out.trans (T0.mono HB.out.size)) (Nat.le_refl _) _ _ _ _ _ _ _ _ _ _ _ _ _
  subst c2
  by_cases c3 : 1500 < n
  · have e : flt l = 5 := by rw [HFL.out, if_neg (by simp), if_pos c3]
    rw [HZ _ e (by decide), e]
    have c4 : (n : Int) > 1500 := by omega
    clear e HFL
    obtain ⟨z0, z1, z2, z3, z4, z5, z6, z7, z8, z9, z10, z11, z12, f0, f1, f2, f3, f4, f5, f6, f7, f8, f9, f10, f11, f12, hzl⟩ := kz_at (KZ.out _ T0)
    go_enter Try.func14, Try.ntmps14
    go_wp2
    obtain ⟨r0, r1, r2, r3, r4, r5, r6, r7, r8, r9, r10, r11, r12⟩ := kz_get (KZ.out _ T0) (Value.int .i64 0) (.int .u32 0) (.int .u32 0) (.int .i64 0) (.int .u8 0) (.int .u8 0) (.int .u8 0) (.int .u8 0) (.int .u8 0) (.int .u8 0) (.int .u8 0) (.int .u8 0) (.slice none 0 0)
    refine bodyPost_ret (v := .tuple #[pv' zpk none 0, .int .i64 5]) (by simp [results, Try.results14, go_sem, r0, r1, r2, r3, r4, r5, r6, r7, r8, r9, r10, r11, r12, zpk]) rfl ⟨none, 0, rfl, Own.nil _ _, ?_⟩
    exact below_st13 (HB.out.trans (T0.mono HB.out.size)) (Nat.le_refl _) _ _ _ _ _ _ _ _ _ _ _ _ _
  have c4 : ¬ ((n : Int) > 1500) := by omega
  have HFL2 : Hid (flt l = if mayT x1 = false ∨ num L2 ≠ (n : Int) then 3 else if num L12 ≠ ck l then 4 else if 1 < num L14 then 11 else 0) := Lib.hid (by rw [HFL.out, if_neg (by simp), if_neg c3])
  clear HFL
  by_cases c5 : x1 < 1
  · have e : flt l = 3 := by rw [HFL2.out, if_pos (.inl (by simp [mayT]; omega))]
    rw [HZ _ e (by decide), e]
    clear e HFL2
    obtain ⟨z0, z1, z2, z3, z4, z5, z6, z7, z8, z9, z10, z11, z12, f0, f1, f2, f3, f4, f5, f6, f7, f8, f9, f10, f11, f12, hzl⟩ := kz_at (KZ.out _ T0)
    go_enter Try.func14, Try.ntmps14
    go_wp2
    obtain ⟨r0, r1, r2, r3, r4, r5, r6, r7, r8, r9, r10, r11, r12⟩ := kz_get (KZ.out _ T0) (Value.int .i64 0) (.int .u32 0) (.int .u32 0) (.int .i64 0) (.int .u8 0) (.int .u8 0) (.int .u8 0) (.int .u8 0) (.int .u8 0) (.int .u8 0) (.int .u8 0) (.int .u8 0) (.slice none 0 0)
    refine bodyPost_ret (v := .tuple #[pv' zpk none 0, .int .i64 3]) (by simp [results, Try.results14, go_sem, r0, r1, r2, r3, r4, r5, r6, r7, r8, r9, r10, r11, r12, zpk]) rfl ⟨none, 0, rfl, Own.nil _ _, ?_⟩
    exact below_st13 (HB.out.trans (T0.mono HB.out.size)) (Nat.le_refl _) _ _ _ _ _ _ _ _ _ _ _ _ _
  by_cases c6 : x1 > 5
  · have e : flt l = 3 := by rw [HFL2.out, if_pos (.inl (by simp [mayT]; omega))]
    rw [HZ _ e (by decide), e]
    clear e HFL2
    obtain ⟨z0, z1, z2, z3, z4, z5, z6, z7, z8, z9, z10, z11, z12, f0, f1, f2, f3, f4, f5, f6, f7, f8, f9, f10, f11, f12, hzl⟩ := kz_at (KZ.out _ T0)
    go_enter Try.func14, Try.ntmps14
    go_wp2
    obtain ⟨r0, r1, r2, r3, r4, r5, r6, r7, r8, r9, r10, r11, r12⟩ := kz_get (KZ.out _ T0) (Value.int .i64 0) (.int .u32 0) (.int .u32 0) (.int .i64 0) (.int .u8 0) (.int .u8 0) (.int .u8 0) (.int .u8 0) (.int .u8 0) (.int .u8 0) (.int .u8 0) (.int .u8 0) (.slice none 0 0)
    refine bodyPost_ret (v := .tuple #[pv' zpk none 0, .int .i64 3]) (by simp [results, Try.results14, go_sem, r0, r1, r2, r3, r4, r5, r6, r7, r8, r9, r10, r11, r12, zpk]) rfl ⟨none, 0, rfl, Own.nil _ _, ?_⟩
    exact below_st13 (HB.out.trans (T0.mono HB.out.size)) (Nat.le_refl _) _ _ _ _ _ _ _ _ _ _ _ _ _
  have hT : mayT x1 = true := by simp [mayT]; omega
  by_cases c7 : num L2 = (n : Int)
  case neg =>
    have e : flt l = 3 := by rw [HFL2.out, if_pos (.inr c7)]
    rw [HZ _ e (by decide), e]
    have c8 : (num L2 == (n : Int)) = false := by simpa using c7
    clear e HFL2
    go_enter Try.func14, Try.ntmps14
    go_wp2_with fail
    refine (c22 _ _ _ _ q2 (by omega) (by omega)).mono ?_
    rintro e W1 ⟨rfl, t1⟩
    obtain ⟨z0, z1, z2, z3, z4, z5, z6, z7, z8, z9, z10, z11, z12, f0, f1, f2, f3, f4, f5, f6, f7, f8, f9, f10, f11, f12, hzl⟩ := kz_at (KZ.out _ t1)
    go_wp2
    obtain ⟨r0, r1, r2, r3, r4, r5, r6, r7, r8, r9, r10, r11, r12⟩ := kz_get (KZ.out _ t1) (Value.int .i64 0) (.int .u32 0) (.int .u32 0) (.int .i64 0) (.int .u8 0) (.int .u8 0) (.int .u8 0) (.int .u8 0) (.int .u8 0) (.int .u8 0) (.int .u8 0) (.int .u8 0) (.slice none 0 0)
    refine bodyPost_ret (v := .tuple #[pv' zpk none 0, .int .i64 3]) (by simp [results, Try.results14, go_sem, r0, r1, r2, r3, r4, r5, r6, r7, r8, r9, r10, r11, r12, zpk]) rfl ⟨none, 0, rfl, Own.nil _ _, ?_⟩
    exact below_st13 (HB.out.trans (t1.mono HB.out.size)) (Nat.le_refl _) _ _ _ _ _ _ _ _ _ _ _ _ _
  have H7 := Lib.hid c7
  have HFL3 : Hid (flt l = if num L12 ≠ ck l then 4 else if 1 < num L14 then 11 else 0) := Lib.hid (by rw [HFL2.out, if_neg (fun h => h.elim (fun h => by rw [hT] at h; cases h) (fun h => h c7))])
  have HCK2 : Hid (inet (HH ++ L24) = ck l) := Lib.hid (HCK.out rfl hT c7)
  clear HFL2 HCK c7 v2
  go_enter Try.func14, Try.ntmps14
  go_wp2_with fail
  refine (c22 _ _ _ _ q2 (by omega) (by omega)).mono ?_
  rintro e W1 ⟨rfl, t1⟩
  rw [H7.out]
  go_wp2_with fail
  refine (c44 _ _ _ _ (q4.step t1) (by omega) (by omega) (by omega)).mono ?_
  rintro e W2 ⟨X2, n2, k2, rfl, t2⟩
  replace t2 := t1.trans (t2.mono t1.size)
  go_wp2_with fail
  refine (c48 _ _ _ _ (q8.step t2) (by omega) (by omega) (by omega)).mono ?_
  rintro e W3 ⟨X3, n3, k3, rfl, t3⟩
  replace t3 := t2.trans (t3.mono t2.size)
  have T3 := Lib.hid t3
  go_upto_region 11 with fail
  clear p0 p1
  go_cut [10] (fun v10 wx => ∃ a : Nat, v10 = .pointer (some ⟨a, 0, none⟩) ∧ W0.heap.size ≤ a ∧ Hid (Below W0.heap.size W0 wx) ∧ Hid (wx.heap[a]? = some (.cells #[.int .i64 x1, .int .u32 (num L4), .int .u32 (num L8), .int .i64 (num L14), cel 0 0 h0, cel 0 1 h1, cel 0 2 h2, cel 0 3 h3, cel 0 4 h4, cel 0 5 h5, cel 0 6 h6, cel 0 7 h7, .slice none 0 0] 32)))
  case first =>
    refine wp_region_held_drew (S := fun V => V.cell? ⟨b, off + 1, none⟩ = some (.int .u8 x1)) (by kernel_rfl) (KB.out _ (HB.out.trans (T3.out.drew.mono HB.out.size))).2.1 (fun hHeld => ?_)
    refine wpAnyH_take (i := 0) (v := ?_) rfl (by kernel_rfl) (by kernel_rfl) (by kernel_rfl) (fun _ _ _ h => h) (Or.inl ⟨by rfl, ?_⟩) (by assumption) ?_
    rotate_left
    · (intro w' hSw; (try dsimp only at hSw); go_simp; try with_reducible rfl)
    simp only [Act.put, List.getElem_toArray, List.getElem_cons_zero, List.setIfInBounds_toArray, List.set_cons_zero, List.set_cons_succ]
    refine wpAnyH_take (i := 1) (v := ?_) rfl (by kernel_rfl) (by kernel_rfl) (by kernel_rfl) (fun _ _ _ h => h) (Or.inl ⟨by rfl, ?_⟩) (by assumption) ?_
    rotate_left
    · (intro w' hSw; (try dsimp only at hSw); go_simp; try with_reducible rfl)
    simp only [Act.put, List.getElem_toArray, List.getElem_cons_zero, List.getElem_cons_succ, List.setIfInBounds_toArray, List.set_cons_zero, List.set_cons_succ]
    refine wpAnyH_take (i := 2) (v := ?_) rfl (by kernel_rfl) (by kernel_rfl) (by kernel_rfl) (fun _ _ _ h => h) (Or.inl ⟨by rfl, ?_⟩) (by assumption) ?_
    rotate_left
    · (intro w' hSw; (try dsimp only at hSw); go_simp; try with_reducible rfl)
    simp only [Act.put, List.getElem_toArray, List.getElem_cons_zero, List.getElem_cons_succ, List.setIfInBounds_toArray, List.set_cons_zero, List.set_cons_succ]
    refine wpAnyH_take (i := 3) (v := .int .i64 x1) rfl (by kernel_rfl) (by kernel_rfl) (by kernel_rfl) (fun _ _ _ h => h) (Or.inl ⟨by rfl, ?_⟩) (by assumption) ?_
    · (intro w' hSw; (try dsimp only at hSw); go_simp; try rw [wrap_i64 (by omega) (by omega)])
    simp only [Act.put, List.getElem_toArray, List.getElem_cons_zero, List.getElem_cons_succ, List.setIfInBounds_toArray, List.set_cons_zero, List.set_cons_succ]
    refine wpAnyH_take (i := 4) (v := ?_) rfl (by kernel_rfl) (by kernel_rfl) (by kernel_rfl) (fun _ _ _ h => h) (Or.inl ⟨by rfl, ?_⟩) (by assumption) ?_
    rotate_left
    · (intro w' hSw; (try dsimp only at hSw); go_simp; try with_reducible rfl)
    simp only [Act.put, List.getElem_toArray, List.getElem_cons_zero, List.getElem_cons_succ, List.setIfInBounds_toArray, List.set_cons_zero, List.set_cons_succ]
    refine wpAnyH_take (i := 5) (v := ?_) rfl (by kernel_rfl) (by kernel_rfl) (by kernel_rfl) (fun _ _ _ h => h) (Or.inl ⟨by rfl, ?_⟩) (by assumption) ?_
    rotate_left
    · (intro w' hSw; (try dsimp only at hSw); go_simp; try with_reducible rfl)
    simp only [Act.put, List.getElem_toArray, List.getElem_cons_zero, List.getElem_cons_succ, List.setIfInBounds_toArray, List.set_cons_zero, List.set_cons_succ]
    refine wpAnyH_take (i := 6) (v := ?_) rfl (by kernel_rfl) (by kernel_rfl) (by kernel_rfl) (fun _ _ _ h => h) (Or.inl ⟨by rfl, ?_⟩) (by assumption) ?_
    rotate_left
    · (intro w' hSw; (try dsimp only at hSw); go_simp; try with_reducible rfl)
    simp only [Act.put, List.getElem_toArray, List.getElem_cons_zero, List.getElem_cons_succ, List.setIfInBounds_toArray, List.set_cons_zero, List.set_cons_succ]
    refine wpAnyH_take (i := 7) (v := .slice (some ⟨b, off + 14, none⟩) (n - 14) (c - 14)) rfl (by kernel_rfl) (by kernel_rfl) (by kernel_rfl) (fun _ _ _ h => h) (Or.inl ⟨by rfl, ?_⟩) (by assumption) ?_
    · (intro w' hSw; (try dsimp only at hSw); go_simp; try rfl)
    simp only [Act.put, List.getElem_toArray, List.getElem_cons_zero, List.getElem_cons_succ, List.setIfInBounds_toArray, List.set_cons_zero, List.set_cons_succ]
    have tx : Below W0.heap.size W0 W3.drew := T3.out.drew
    generalize hX0 : W3.drew = X0 at tx ⊢
    clear hX0 hHeld
    refine wpAnyH_ready (rs := [8, 10]) (by kernel_rfl) (by simp) ?_
    refine AllReadyH.cons rfl (fun K hK => ?_) (AllReadyH.cons rfl (fun K hK => ?_) AllReadyH.nil)
    · go_simp
      go_at_call 26
      refine (c214 X0 _ _ _ (q14.step tx) (by omega) (by omega)).mono ?_
      rintro e X1 ⟨rfl, uX1⟩
      have tX1 : Below W0.heap.size W0 X1 := tx.trans (uX1.mono tx.size)
      refine hK.out _ _ (KB.out _ (HB.out.trans (tX1.mono HB.out.size))).2.1 (fun _ => ?_)
      clear hK K
      refine wpAnyH_take (i := 9) (v := .agg #[.int .i64 x1, .int .u32 (num L4), .int .u32 (num L8), .int .i64 (num L14), .int .u8 0, .int .u8 0, .int .u8 0, .int .u8 0, .int .u8 0, .int .u8 0, .int .u8 0, .int .u8 0, .slice none 0 0]) rfl (by kernel_rfl) (by kernel_rfl) (by kernel_rfl) (fun _ _ _ h => h) (Or.inl ⟨by rfl, ?_⟩) (by assumption) ?_
      · (intro w' hSw; (try dsimp only at hSw); go_simp; try rfl)
      simp only [Act.put, List.getElem_toArray, List.getElem_cons_zero, List.getElem_cons_succ, List.setIfInBounds_toArray, List.set_cons_zero, List.set_cons_succ]
      refine wpAnyH_ready (rs := [10]) (by kernel_rfl) (by simp) ?_
      refine AllReadyH.cons rfl (fun K hK => ?_) AllReadyH.nil
      go_simp
      obtain ⟨Z, hZ_⟩ : ∃ V, X1.alloc (.cells #[Value.int .i64 0, .int .u32 0, .int .u32 0, .int .i64 0, .int .u8 0, .int .u8 0, .int .u8 0, .int .u8 0, .int .u8 0, .int .u8 0, .int .u8 0, .int .u8 0, .slice none 0 0] 32) = V := ⟨_, rfl⟩
      have kz : Z.heap[X1.heap.size]? = some (.cells #[Value.int .i64 0, .int .u32 0, .int .u32 0, .int .i64 0, .int .u8 0, .int .u8 0, .int .u8 0, .int .u8 0, .int .u8 0, .int .u8 0, .int .u8 0, .int .u8 0, .slice none 0 0] 32) := by rw [← hZ_]; exact alloc_at _ _ _ rfl
      have uz : Below X1.heap.size X1 Z := by rw [← hZ_]; exact below_alloc1 _ _
      have ga := tX1.size
      have tZ : Below W0.heap.size W0 Z := tX1.trans (uz.mono ga)
      obtain ⟨a, ha_⟩ : ∃ v, X1.heap.size = v := ⟨_, rfl⟩
      rw [hZ_, ha_]
      rw [ha_] at kz ga
      refine hK.out _ _ (KB.out _ (HB.out.trans (tZ.mono HB.out.size))).2.1 (fun _ => ?_)
      clear hK K hZ_ ha_
      obtain ⟨z0, z1, z2, z3, z4, z5, z6, z7, z8, z9, z10, z11, z12, f0, f1, f2, f3, f4, f5, f6, f7, f8, f9, f10, f11, f12, hzl⟩ := kz_at kz
      have kr := kz_set kz (Value.int .i64 x1) (.int .u32 (num L4)) (.int .u32 (num L8)) (.int .i64 (num L14)) (.int .u8 0) (.int .u8 0) (.int .u8 0) (.int .u8 0) (.int .u8 0) (.int .u8 0) (.int .u8 0) (.int .u8 0) (.slice none 0 0)
      have ts : Below W0.heap.size W0 (st13 Z a (.int .i64 x1) (.int .u32 (num L4)) (.int .u32 (num L8)) (.int .i64 (num L14)) (.int .u8 0) (.int .u8 0) (.int .u8 0) (.int .u8 0) (.int .u8 0) (.int .u8 0) (.int .u8 0) (.int .u8 0) (.slice none 0 0)) := below_st13 tZ ga _ _ _ _ _ _ _ _ _ _ _ _ _
      refine wpAnyH_ready (rs := [11]) (by kernel_rfl) (by simp) ?_
      refine AllReadyH.cons rfl (fun K hK => ?_) AllReadyH.nil
      go_simp
      refine hK.out _ _ (KB.out _ (HB.out.trans (ts.mono HB.out.size))).2.1 (fun _ => ?_)
      clear hK K z0 z1 z2 z3 z4 z5 z6 z7 z8 z9 z10 z11 z12 f0 f1 f2 f3 f4 f5 f6 f7 f8 f9 f10 f11 f12 hzl
      refine wpAnyH_done (by kernel_rfl) ?_ _
      go_wp2_with fail
      go_meet
      case rel => exact ⟨a, rfl, ga, Lib.hid ts, Lib.hid (by rw [kr]; simp [cel])⟩
    · go_simp
      obtain ⟨Z, hZ_⟩ : ∃ V, X0.alloc (.cells #[Value.int .i64 0, .int .u32 0, .int .u32 0, .int .i64 0, .int .u8 0, .int .u8 0, .int .u8 0, .int .u8 0, .int .u8 0, .int .u8 0, .int .u8 0, .int .u8 0, .slice none 0 0] 32) = V := ⟨_, rfl⟩
      have kz : Z.heap[X0.heap.size]? = some (.cells #[Value.int .i64 0, .int .u32 0, .int .u32 0, .int .i64 0, .int .u8 0, .int .u8 0, .int .u8 0, .int .u8 0, .int .u8 0, .int .u8 0, .int .u8 0, .int .u8 0, .slice none 0 0] 32) := by rw [← hZ_]; exact alloc_at _ _ _ rfl
      have uz : Below X0.heap.size X0 Z := by rw [← hZ_]; exact below_alloc1 _ _
      have ga := tx.size
      have tZ : Below W0.heap.size W0 Z := tx.trans (uz.mono ga)
      obtain ⟨a, ha_⟩ : ∃ v, X0.heap.size = v := ⟨_, rfl⟩
      rw [hZ_, ha_]
      rw [ha_] at kz ga
      refine hK.out _ _ (KB.out _ (HB.out.trans (tZ.mono HB.out.size))).2.1 (fun _ => ?_)
      clear hK K hZ_ ha_
      refine wpAnyH_ready (rs := [8]) (by kernel_rfl) (by simp) ?_
      refine AllReadyH.cons rfl (fun K hK => ?_) AllReadyH.nil
      go_simp
      go_at_call 26
      refine (c214 Z _ _ _ (q14.step tZ) (by omega) (by omega)).mono ?_
      rintro e X1 ⟨rfl, uX1⟩
      have tX1 : Below W0.heap.size W0 X1 := tZ.trans (uX1.mono tZ.size)
      refine hK.out _ _ (KB.out _ (HB.out.trans (tX1.mono HB.out.size))).2.1 (fun _ => ?_)
      clear hK K
      replace kz := (uX1.block a (lt_of_block kz)).trans kz
      refine wpAnyH_take (i := 9) (v := .agg #[.int .i64 x1, .int .u32 (num L4), .int .u32 (num L8), .int .i64 (num L14), .int .u8 0, .int .u8 0, .int .u8 0, .int .u8 0, .int .u8 0, .int .u8 0, .int .u8 0, .int .u8 0, .slice none 0 0]) rfl (by kernel_rfl) (by kernel_rfl) (by kernel_rfl) (fun _ _ _ h => h) (Or.inl ⟨by rfl, ?_⟩) (by assumption) ?_
      · (intro w' hSw; (try dsimp only at hSw); go_simp; try rfl)
      simp only [Act.put, List.getElem_toArray, List.getElem_cons_zero, List.getElem_cons_succ, List.setIfInBounds_toArray, List.set_cons_zero, List.set_cons_succ]
      obtain ⟨z0, z1, z2, z3, z4, z5, z6, z7, z8, z9, z10, z11, z12, f0, f1, f2, f3, f4, f5, f6, f7, f8, f9, f10, f11, f12, hzl⟩ := kz_at kz
      have kr := kz_set kz (Value.int .i64 x1) (.int .u32 (num L4)) (.int .u32 (num L8)) (.int .i64 (num L14)) (.int .u8 0) (.int .u8 0) (.int .u8 0) (.int .u8 0) (.int .u8 0) (.int .u8 0) (.int .u8 0) (.int .u8 0) (.slice none 0 0)
      have ts : Below W0.heap.size W0 (st13 X1 a (.int .i64 x1) (.int .u32 (num L4)) (.int .u32 (num L8)) (.int .i64 (num L14)) (.int .u8 0) (.int .u8 0) (.int .u8 0) (.int .u8 0) (.int .u8 0) (.int .u8 0) (.int .u8 0) (.int .u8 0) (.slice none 0 0)) := below_st13 tX1 ga _ _ _ _ _ _ _ _ _ _ _ _ _
      refine wpAnyH_ready (rs := [11]) (by kernel_rfl) (by simp) ?_
      refine AllReadyH.cons rfl (fun K hK => ?_) AllReadyH.nil
      go_simp
      refine hK.out _ _ (KB.out _ (HB.out.trans (ts.mono HB.out.size))).2.1 (fun _ => ?_)
      clear hK K z0 z1 z2 z3 z4 z5 z6 z7 z8 z9 z10 z11 z12 f0 f1 f2 f3 f4 f5 f6 f7 f8 f9 f10 f11 f12 hzl
      refine wpAnyH_done (by kernel_rfl) ?_ _
      go_wp2_with fail
      go_meet
      case rel => exact ⟨a, rfl, ga, Lib.hid ts, Lib.hid (by rw [kr]; simp [cel])⟩
  case rest =>
    obtain ⟨a, rfl, ha, T4, K4⟩ := hcut
    go_wp2_with fail
    go_loopw [11] (fun i wr => ∃ j : Nat, j ≤ 8 ∧ i = .int .i64 (j : Int) ∧ Hid (wr.heap[a]? = some (.cells #[.int .i64 x1, .int .u32 (num L4), .int .u32 (num L8), .int .i64 (num L14), cel j 0 h0, cel j 1 h1, cel j 2 h2, cel j 3 h3, cel j 4 h4, cel j 5 h5, cel j 6 h6, cel j 7 h7, .slice none 0 0] 32)) ∧ Hid (Below W0.heap.size W0 wr)) (fun i _ => 8 - (intOf i).toNat)
    case atStart => exact ⟨0, by omega, rfl, K4, T4⟩
    case round =>
      obtain ⟨j, hj, rfl, kj, tj⟩ := hrel
      clear K4 T4
      by_cases hlt8 : j < 8
      · have e1 := (KB.out _ (HB.out.trans (tj.out.mono HB.out.size))).2.2 j hlt8
        rw [show m + j = off + (16 + j) by omega] at e1
        have hcell : wr.cell? ⟨a, 4 + j, none⟩ = some (.int .u8 0) := (cell_of_block kj.out (4 + j)).trans (cel_at _ _ _ _ _ _ _ _ _ _ _ _ _ j hlt8)
        have hfr := unfrozen_of_block kj.out (4 + j)
        have i3 : (16 + (j : Int)) < (n : Int) := by omega
        have i4 : (j : Int) < 8 := by omega
        generalize hv : [h0, h1, h2, h3, h4, h5, h6, h7].getD j 0 = v at e1
        have HV := Lib.hid hv
        clear hv
        go_wp2
        go_roundw
        case rel => exact ⟨j + 1, by omega, by go_num, Lib.hid (by rw [block_setCell (i := 4 + j) kj.out, ← HV.out, cel_set _ _ _ _ _ _ _ _ _ _ _ _ _ j hlt8]), Lib.hid (tj.out.setCell (p := ⟨a, 4 + j, none⟩) ha _)⟩
        case measure => simp [intOf]; omega
      · obtain rfl : j = 8 := by omega
        have k8 : wr.heap[a]? = some (.cells #[.int .i64 x1, .int .u32 (num L4), .int .u32 (num L8), .int .i64 (num L14), .int .u8 h0, .int .u8 h1, .int .u8 h2, .int .u8 h3, .int .u8 h4, .int .u8 h5, .int .u8 h6, .int .u8 h7, .slice none 0 0] 32) := by have := kj.out; simpa [cel] using this
        have k8n : decide (((8 : Nat) : Int) < 8) = false := by decide
        clear kj
        go_wp2_with fail
        obtain ⟨i0, hi0, hz0, hz1, hz2⟩ := info_of info5
        refine wp_region_held_drew (S := fun V => True) (by kernel_rfl) trivial (fun hHeld => ?_)
        refine wpAnyH_take (i := 0) (v := ?_) rfl (by kernel_rfl) (by kernel_rfl) (by kernel_rfl) (fun _ _ _ h => h) (Or.inl ⟨by rfl, ?_⟩) (by assumption) ?_
        rotate_left
        · (intro w' hSw; (try dsimp only at hSw); go_simp; try with_reducible rfl)
        simp only [Act.put, List.getElem_toArray, List.getElem_cons_zero, List.setIfInBounds_toArray, List.set_cons_zero, List.set_cons_succ]
        refine wpAnyH_take (i := 2) (v := ?_) rfl (by kernel_rfl) (by kernel_rfl) (by kernel_rfl) (fun _ _ _ h => h) (Or.inl ⟨by rfl, ?_⟩) (by assumption) ?_
        rotate_left
        · (intro w' hSw; (try dsimp only at hSw); go_simp; try with_reducible rfl)
        simp only [Act.put, List.getElem_toArray, List.getElem_cons_zero, List.getElem_cons_succ, List.setIfInBounds_toArray, List.set_cons_zero, List.set_cons_succ]
        refine wpAnyH_take (i := 3) (v := .slice A2 (n - 24) (c - 24)) rfl (by kernel_rfl) (by kernel_rfl) (by kernel_rfl) (fun _ _ _ h => h) (Or.inl ⟨by rfl, ?_⟩) (by assumption) ?_
        · (intro w' hSw; (try dsimp only at hSw); go_simp; (try rw [hA2]))
        simp only [Act.put, List.getElem_toArray, List.getElem_cons_zero, List.getElem_cons_succ, List.setIfInBounds_toArray, List.set_cons_zero, List.set_cons_succ]
        have tx : Below W0.heap.size W0 wr.drew := tj.out.drew
        have kx : wr.drew.heap[a]? = some (.cells #[.int .i64 x1, .int .u32 (num L4), .int .u32 (num L8), .int .i64 (num L14), .int .u8 h0, .int .u8 h1, .int .u8 h2, .int .u8 h3, .int .u8 h4, .int .u8 h5, .int .u8 h6, .int .u8 h7, .slice none 0 0] 32) := k8
        generalize hX8 : wr.drew = X8 at tx kx ⊢
        clear hX8 hHeld k8
        obtain ⟨z0, z1, z2, z3, z4, z5, z6, z7, z8, z9, z10, z11, z12, -⟩ := kz_at kx
        refine wpAnyH_ready (rs := [1]) (by kernel_rfl) (by simp) ?_
        refine AllReadyH.cons rfl (fun K hK => ?_) AllReadyH.nil
        go_simp
        refine hK.out _ _ trivial (fun _ => ?_)
        clear hK K z0 z1 z2 z3 z4 z5 z6 z7 z8 z9 z10 z11 z12
        obtain ⟨A9, c9, X9, rX9, oX9, tX9⟩ := run_app (P := Try.prog) X8 X8.heap.size 24 24 5 .u8 i0 _ 1 Try.underlying24 hi0 hz0 hz1 hz2 rfl _ _ _ (Own.nil X8 X8.heap.size) _ A2 (c - 24) _ (q24.step tx) (by simp only [maxLen, l24, List.length_nil] <;> omega) (by simp only [l24, List.length_nil] <;> omega) (Nat.le_refl _)
        simp only [List.nil_append, List.length_nil, l24] at rX9
        rw [List.nil_append] at oX9
        refine wpAnyH_ready (rs := [4]) (by kernel_rfl) (by simp) ?_
        refine AllReadyH.cons rfl (fun K hK => ?_) AllReadyH.nil
        refine step_runb _ rfl (.tmp 81) (.tmp 83) 24 rfl rfl rfl rX9 ?_
        refine hK.out _ _ trivial (fun _ => ?_)
        clear hK K rX9
        refine wpAnyH_take (i := 5) (v := ?_) rfl (by kernel_rfl) (by kernel_rfl) (by kernel_rfl) (fun _ _ _ h => h) (Or.inl ⟨by rfl, ?_⟩) (by assumption) ?_
        rotate_left
        · (intro w' hSw; (try dsimp only at hSw); go_simp; try with_reducible rfl)
        simp only [Act.put, List.getElem_toArray, List.getElem_cons_zero, List.getElem_cons_succ, List.setIfInBounds_toArray, List.set_cons_zero, List.set_cons_succ]
        have k9 : X9.heap[a]? = some (.cells #[.int .i64 x1, .int .u32 (num L4), .int .u32 (num L8), .int .i64 (num L14), .int .u8 h0, .int .u8 h1, .int .u8 h2, .int .u8 h3, .int .u8 h4, .int .u8 h5, .int .u8 h6, .int .u8 h7, .slice none 0 0] 32) := (tX9.block a (lt_of_block kx)).trans kx
        have t9 : Below W0.heap.size W0 X9 := tx.trans (tX9.mono tx.size)
        obtain ⟨z0, z1, z2, z3, z4, z5, z6, z7, z8, z9, z10, z11, z12, f0, f1, f2, f3, f4, f5, f6, f7, f8, f9, f10, f11, f12, hzl⟩ := kz_at k9
        refine wpAnyH_ready (rs := [6]) (by kernel_rfl) (by simp) ?_
        refine AllReadyH.cons rfl (fun K hK => ?_) AllReadyH.nil
        go_simp
        refine hK.out _ _ trivial (fun _ => ?_)
        clear hK K z0 z1 z2 z3 z4 z5 z6 z7 z8 z9 z10 z11 z12 f0 f1 f2 f3 f4 f5 f6 f7 f8 f9 f10 f11 f12 hzl
        refine wpAnyH_done (by kernel_rfl) ?_ _
        have k10 : (X9.setCell ⟨a, 12, none⟩ (.slice A9 (n - 24) c9)).heap[a]? = some (.cells #[.int .i64 x1, .int .u32 (num L4), .int .u32 (num L8), .int .i64 (num L14), .int .u8 h0, .int .u8 h1, .int .u8 h2, .int .u8 h3, .int .u8 h4, .int .u8 h5, .int .u8 h6, .int .u8 h7, .slice A9 (n - 24) c9] 32) := by
          rw [block_setCell (i := 12) k9]
          simp
        have t10 : Below W0.heap.size W0 (X9.setCell ⟨a, 12, none⟩ (.slice A9 (n - 24) c9)) := t9.setCell (p := ⟨a, 12, none⟩) ha _
        have halt := lt_of_block kx
        have o10 : Own .u8 5 (X9.setCell ⟨a, 12, none⟩ (.slice A9 (n - 24) c9)) X8.heap.size A9 c9 L24 := oX9.far (p := ⟨a, 12, none⟩) halt _
        have hX8s := tx.size
        go_wp2_with fail
        generalize hX10 : X9.setCell ⟨a, 12, none⟩ (.slice A9 (n - 24) c9) = X10 at k10 t10 o10 ⊢
        clear hX10 k9 t9 oX9 tX9 kx tx tj
        have KA : Hid (∀ V, Below X10.heap.size X10 V → V.heap[a]? = some (.cells #[.int .i64 x1, .int .u32 (num L4), .int .u32 (num L8), .int .i64 (num L14), .int .u8 h0, .int .u8 h1, .int .u8 h2, .int .u8 h3, .int .u8 h4, .int .u8 h5, .int .u8 h6, .int .u8 h7, .slice A9 (n - 24) c9] 32)) := Lib.hid (fun V hV => (hV.block a (lt_of_block k10)).trans k10)
        have KAS : Hid (∀ V, Below X10.heap.size X10 V → V.cell? ⟨a, 0, none⟩ = some (.int .i64 x1) ∧ V.cell? ⟨a, 1, none⟩ = some (.int .u32 (num L4)) ∧ V.cell? ⟨a, 2, none⟩ = some (.int .u32 (num L8)) ∧ V.cell? ⟨a, 3, none⟩ = some (.int .i64 (num L14)) ∧ V.cell? ⟨a, 4, none⟩ = some (.int .u8 h0) ∧ V.cell? ⟨a, 5, none⟩ = some (.int .u8 h1) ∧ V.cell? ⟨a, 6, none⟩ = some (.int .u8 h2) ∧ V.cell? ⟨a, 7, none⟩ = some (.int .u8 h3) ∧ V.cell? ⟨a, 8, none⟩ = some (.int .u8 h4) ∧ V.cell? ⟨a, 9, none⟩ = some (.int .u8 h5) ∧ V.cell? ⟨a, 10, none⟩ = some (.int .u8 h6) ∧ V.cell? ⟨a, 11, none⟩ = some (.int .u8 h7) ∧ V.cell? ⟨a, 12, none⟩ = some (.slice A9 (n - 24) c9)) := Lib.hid (fun V hV => by
          obtain ⟨z0, z1, z2, z3, z4, z5, z6, z7, z8, z9, z10, z11, z12, -⟩ := kz_at (KA.out V hV)
          exact ⟨z0, z1, z2, z3, z4, z5, z6, z7, z8, z9, z10, z11, z12⟩)
        refine wp_region_held_drew (S := fun V => V.cell? ⟨a, 0, none⟩ = some (.int .i64 x1) ∧ V.cell? ⟨a, 1, none⟩ = some (.int .u32 (num L4)) ∧ V.cell? ⟨a, 2, none⟩ = some (.int .u32 (num L8)) ∧ V.cell? ⟨a, 3, none⟩ = some (.int .i64 (num L14)) ∧ V.cell? ⟨a, 4, none⟩ = some (.int .u8 h0) ∧ V.cell? ⟨a, 5, none⟩ = some (.int .u8 h1) ∧ V.cell? ⟨a, 6, none⟩ = some (.int .u8 h2) ∧ V.cell? ⟨a, 7, none⟩ = some (.int .u8 h3) ∧ V.cell? ⟨a, 8, none⟩ = some (.int .u8 h4) ∧ V.cell? ⟨a, 9, none⟩ = some (.int .u8 h5) ∧ V.cell? ⟨a, 10, none⟩ = some (.int .u8 h6) ∧ V.cell? ⟨a, 11, none⟩ = some (.int .u8 h7) ∧ V.cell? ⟨a, 12, none⟩ = some (.slice A9 (n - 24) c9)) (by kernel_rfl) (KAS.out _ (Below.refl _ _).drew) (fun hHeld => ?_)
        refine wpAnyH_take (i := 0) (v := ?_) rfl (by kernel_rfl) (by kernel_rfl) (by kernel_rfl) (fun _ _ _ h => h) (Or.inl ⟨by rfl, ?_⟩) (by assumption) ?_
        rotate_left
        · (intro w' hSw; (try dsimp only at hSw); go_simp; try with_reducible rfl)
        simp only [Act.put, List.getElem_toArray, List.getElem_cons_zero, List.setIfInBounds_toArray, List.set_cons_zero, List.set_cons_succ]
        refine wpAnyH_take (i := 2) (v := ?_) rfl (by kernel_rfl) (by kernel_rfl) (by kernel_rfl) (fun _ _ _ h => h) (Or.inl ⟨by rfl, ?_⟩) (by assumption) ?_
        rotate_left
        · (intro w' hSw; (try dsimp only at hSw); go_simp; try with_reducible rfl)
        simp only [Act.put, List.getElem_toArray, List.getElem_cons_zero, List.getElem_cons_succ, List.setIfInBounds_toArray, List.set_cons_zero, List.set_cons_succ]
        refine wpAnyH_take (i := 3) (v := ?_) rfl (by kernel_rfl) (by kernel_rfl) (by kernel_rfl) (fun _ _ _ h => h) (Or.inl ⟨by rfl, ?_⟩) (by assumption) ?_
        rotate_left
        · (intro w' hSw; (try dsimp only at hSw); go_simp; try with_reducible rfl)
        simp only [Act.put, List.getElem_toArray, List.getElem_cons_zero, List.getElem_cons_succ, List.setIfInBounds_toArray, List.set_cons_zero, List.set_cons_succ]
        refine wpAnyH_take (i := 6) (v := ?_) rfl (by kernel_rfl) (by kernel_rfl) (by kernel_rfl) (fun _ _ _ h => h) (Or.inl ⟨by rfl, ?_⟩) (by assumption) ?_
        rotate_left
        · (intro w' hSw; (try dsimp only at hSw); go_simp; try with_reducible rfl)
        simp only [Act.put, List.getElem_toArray, List.getElem_cons_zero, List.getElem_cons_succ, List.setIfInBounds_toArray, List.set_cons_zero, List.set_cons_succ]
        refine wpAnyH_take (i := 7) (v := .slice (some ⟨b, off + 12, none⟩) (n - 12) (c - 12)) rfl (by kernel_rfl) (by kernel_rfl) (by kernel_rfl) (fun _ _ _ h => h) (Or.inl ⟨by rfl, ?_⟩) (by assumption) ?_
        · (intro w' hSw; (try dsimp only at hSw); go_simp; try rfl)
        simp only [Act.put, List.getElem_toArray, List.getElem_cons_zero, List.getElem_cons_succ, List.setIfInBounds_toArray, List.set_cons_zero, List.set_cons_succ]
        have tx : Below X10.heap.size X10 X10.drew := (Below.refl _ _).drew
        have bL : Bt X10.drew A9 L24 := o10.drew.bs
        generalize hX11 : X10.drew = X11 at tx bL ⊢
        clear hX11 hHeld
        have W010 := t10.size
        refine wpAnyH_ready (rs := [1]) (by kernel_rfl) (by simp) ?_
        refine AllReadyH.cons rfl (fun K hK => ?_) AllReadyH.nil
        go_simp
        go_at_call 20
        refine (CA X11 A9 c9 (by omega)).mono ?_
        rintro e X12 ⟨A12, c12, rfl, o12, u12⟩
        have t12 : Below X10.heap.size X10 X12 := tx.trans (u12.mono tx.size)
        refine hK.out _ _ (KAS.out _ t12) (fun _ => ?_)
        clear hK K
        have sz11 := tx.size
        have sz12 := u12.size
        obtain ⟨A13, c13, X13, rX13, oX13, tX13⟩ := run_app (P := Try.prog) X12 X11.heap.size 24 24 5 .u8 i0 _ 1 Try.underlying24 hi0 hz0 hz1 hz2 rfl _ _ _ o12 _ A9 c9 _ (bL.step u12) (by simp only [maxLen, hd1, l24] <;> omega) (by simp only [hd1, l24] <;> omega) sz12
        have t13 : Below X10.heap.size X10 X13 := t12.trans (tX13.mono sz11)
        obtain ⟨LL, hLL⟩ : ∃ LL, HH ++ L24 = LL := ⟨_, rfl⟩
        have hLn : LL.length = 16 + (n - 24) := by rw [← hLL, List.length_append, hd1, l24]
        have yL : Byt LL := by rw [← hLL]; exact hd2.append z24
        have hIn := HCK2.out
        rw [hLL] at hIn rX13 oX13
        rw [hd1, l24, hLn] at rX13
        have ci : Calls Try.prog 21 #[.slice A13 (16 + (n - 24)) c13] X13 fun e w' => e = .returned (.int .i64 (ck l)) ∧ X13 = w' := by
          have := rinet_any A13 c13 LL _ X13 oX13.bs yL (by omega)
          rwa [hIn, hLn] at this
        refine wpAnyH_ready (rs := [4]) (by kernel_rfl) (by simp) ?_
        refine AllReadyH.cons rfl (fun K hK => ?_) AllReadyH.nil
        refine step_runb _ rfl (.tmp 87) (.tmp 89) 24 rfl rfl rfl rX13 ?_
        refine hK.out _ _ (KAS.out _ t13) (fun _ => ?_)
        clear hK K rX13 hIn
        refine wpAnyH_ready (rs := [5]) (by kernel_rfl) (by simp) ?_
        refine AllReadyH.cons rfl (fun K hK => ?_) AllReadyH.nil
        go_simp
        go_at_call 21
        refine (ci).mono ?_
        rintro e X14 ⟨rfl, rfl⟩
        refine hK.out _ _ (KAS.out _ t13) (fun _ => ?_)
        clear hK K
        refine wpAnyH_ready (rs := [8]) (by kernel_rfl) (by simp) ?_
        refine AllReadyH.cons rfl (fun K hK => ?_) AllReadyH.nil
        go_simp
        go_at_call 26
        refine (c212 X13 _ _ _ (q12.step (t10.trans (t13.mono W010))) (by omega) (by omega)).mono ?_
        rintro e X15 ⟨rfl, u15⟩
        have t15 : Below X10.heap.size X10 X15 := t13.trans (u15.mono t13.size)
        refine hK.out _ _ (KAS.out _ t15) (fun _ => ?_)
        clear hK K
        obtain ⟨D, hD⟩ : ∃ D, (ck l != num L12) = D := ⟨_, rfl⟩
        have HDD := Lib.hid hD
        refine wpAnyH_ready (rs := [9]) (by kernel_rfl) (by simp) ?_
        refine AllReadyH.cons rfl (fun K hK => ?_) AllReadyH.nil
        go_simp
        try rw [hD]
        refine hK.out _ _ (KAS.out _ t15) (fun _ => ?_)
        clear hK K hD
        refine wpAnyH_done (by kernel_rfl) ?_ _
        have t16 : Below W0.heap.size W0 X15 := t10.trans (t15.mono W010)
        clear ci yL hLn hLL oX13 o12 u12 t12 t13 tX13 u15 hd1 hd2
        cases D
        rotate_left
        · have hne : num L12 ≠ ck l := fun h => by have := HDD.out; rw [h] at this; simp at this
          have e : flt l = 4 := by rw [HFL3.out, if_pos hne]
          have HE : Hid (decp l = zpk ∧ flt l = 4) := Lib.hid ⟨HZ _ e (by decide), e⟩
          clear e HFL3 hne
          obtain ⟨z0, z1, z2, z3, z4, z5, z6, z7, z8, z9, z10, z11, z12, f0, f1, f2, f3, f4, f5, f6, f7, f8, f9, f10, f11, f12, hzl⟩ := kz_at (KZ.out _ t16)
          go_wp2
          obtain ⟨r0, r1, r2, r3, r4, r5, r6, r7, r8, r9, r10, r11, r12⟩ := kz_get (KZ.out _ t16) (Value.int .i64 0) (.int .u32 0) (.int .u32 0) (.int .i64 0) (.int .u8 0) (.int .u8 0) (.int .u8 0) (.int .u8 0) (.int .u8 0) (.int .u8 0) (.int .u8 0) (.int .u8 0) (.slice none 0 0)
          refine bodyPost_ret (v := .tuple #[pv' zpk none 0, .int .i64 4]) (by simp [results, Try.results14, go_sem, r0, r1, r2, r3, r4, r5, r6, r7, r8, r9, r10, r11, r12, zpk]) rfl ⟨none, 0, by rw [HE.out.1, HE.out.2], by rw [HE.out.1]; exact Own.nil _ _, ?_⟩
          exact below_st13 (HB.out.trans (t16.mono HB.out.size)) (Nat.le_refl _) _ _ _ _ _ _ _ _ _ _ _ _ _
        · have heq : num L12 = ck l := by have := HDD.out; exact (by simpa using this : ck l = num L12).symm
          obtain ⟨y0, y1, y2, y3, y4, y5, y6, y7, y8, y9, y10, y11, y12⟩ := KAS.out _ t15
          have HFL4 : Hid (flt l = if 1 < num L14 then 11 else 0) := Lib.hid (by rw [HFL3.out, if_neg (by simpa using heq)])
          clear HFL3 heq HDD
          by_cases c99 : 1 < num L14
          · have e : flt l = 11 := by rw [HFL4.out, if_pos c99]
            have HE : Hid (decp l = zpk ∧ flt l = 11) := Lib.hid ⟨HZ _ e (by decide), e⟩
            have c9' : num L14 > 1 := c99
            clear e HFL4
            obtain ⟨z0, z1, z2, z3, z4, z5, z6, z7, z8, z9, z10, z11, z12, f0, f1, f2, f3, f4, f5, f6, f7, f8, f9, f10, f11, f12, hzl⟩ := kz_at (KZ.out _ t16)
            go_wp2
            obtain ⟨r0, r1, r2, r3, r4, r5, r6, r7, r8, r9, r10, r11, r12⟩ := kz_get (KZ.out _ t16) (Value.int .i64 0) (.int .u32 0) (.int .u32 0) (.int .i64 0) (.int .u8 0) (.int .u8 0) (.int .u8 0) (.int .u8 0) (.int .u8 0) (.int .u8 0) (.int .u8 0) (.int .u8 0) (.slice none 0 0)
            refine bodyPost_ret (v := .tuple #[pv' zpk none 0, .int .i64 11]) (by simp [results, Try.results14, go_sem, r0, r1, r2, r3, r4, r5, r6, r7, r8, r9, r10, r11, r12, zpk]) rfl ⟨none, 0, by rw [HE.out.1, HE.out.2], by rw [HE.out.1]; exact Own.nil _ _, ?_⟩
            exact below_st13 (HB.out.trans (t16.mono HB.out.size)) (Nat.le_refl _) _ _ _ _ _ _ _ _ _ _ _ _ _
          · have e : flt l = 0 := by rw [HFL4.out, if_neg c99]
            have HE : Hid (decp l = dec l ∧ flt l = 0) := Lib.hid ⟨HDZ.out e, e⟩
            have c9' : ¬ (num L14 > 1) := c99
            clear e HFL4 HZ HDZ
            obtain ⟨z0, z1, z2, z3, z4, z5, z6, z7, z8, z9, z10, z11, z12, f0, f1, f2, f3, f4, f5, f6, f7, f8, f9, f10, f11, f12, hzl⟩ := kz_at (KZ.out _ t16)
            go_wp2
            obtain ⟨r0, r1, r2, r3, r4, r5, r6, r7, r8, r9, r10, r11, r12⟩ := kz_get (KZ.out _ t16) (Value.int .i64 x1) (.int .u32 (num L4)) (.int .u32 (num L8)) (.int .i64 (num L14)) (.int .u8 h0) (.int .u8 h1) (.int .u8 h2) (.int .u8 h3) (.int .u8 h4) (.int .u8 h5) (.int .u8 h6) (.int .u8 h7) (.slice A9 (n - 24) c9)
            refine bodyPost_ret (v := .tuple #[.agg #[.int .i64 x1, .int .u32 (num L4), .int .u32 (num L8), .int .i64 (num L14), .int .u8 h0, .int .u8 h1, .int .u8 h2, .int .u8 h3, .int .u8 h4, .int .u8 h5, .int .u8 h6, .int .u8 h7, .slice A9 (n - 24) c9], .int .i64 0]) (by simp [results, Try.results14, go_sem, r0, r1, r2, r3, r4, r5, r6, r7, r8, r9, r10, r11, r12]) rfl ⟨A9, c9, ?_, ?_, ?_⟩
            · rw [HE.out.1, HE.out.2, HD.out]
              simp only [pv', l24]
            · rw [HE.out.1, HD.out]
              exact ((o10.below t15 (Nat.le_refl _)).far13 (b := w.heap.size) (by omega) _ _ _ _ _ _ _ _ _ _ _ _ _).lower (by omega)
            · exact below_st13 (HB.out.trans (t16.mono HB.out.size)) (Nat.le_refl _) _ _ _ _ _ _ _ _ _ _ _ _ _
end Go.Proofs.Ytfhickgdmcmodaa
