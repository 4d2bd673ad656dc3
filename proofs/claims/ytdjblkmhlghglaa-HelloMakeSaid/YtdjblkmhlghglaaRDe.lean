/-
  The contract of the reference's Decode. No statement is proved here; no conditions.
-/
import Derived.Test.YtdjblkmhlghglaaDe
namespace Go.Proofs.Ytdjblkmhlghglaa
open Go.RowKit Go.Joins

theorem nums_getD (k q : Nat) (l : List Int) (i : Nat) (hi : i < q) : (nums k q l).getD i 0 = num (sub l (i * k) k) := by
  induction q with
  | zero => omega
  | succ q ih =>
    rw [nums]
    rcases Nat.lt_or_ge i q with h | h
    · simp only [List.getD]
      rw [List.getElem?_append_left (by rw [nums_length]; exact h)]
      exact ih h
    · obtain rfl : i = q := by omega
      simp only [List.getD]
      rw [List.getElem?_append_right (by rw [nums_length]; exact Nat.le_refl _), nums_length]
      simp [sub]
theorem nums_drop (k a q : Nat) (l : List Int) : (nums k (a + q) l).drop a = nums k q (l.drop (a * k)) := by
  induction q with
  | zero => rw [Nat.add_zero, nums, List.drop_eq_nil_of_le (by rw [nums_length]; exact Nat.le_refl _)]
  | succ q ih =>
    rw [show a + (q + 1) = (a + q) + 1 by omega, nums, nums, ← ih, List.drop_append_of_le_length (by rw [nums_length]; omega), List.drop_drop, ← Nat.add_mul]
/-- What the reference's Decode answers. -/
def RD (w w' : World) (e : Ending) (d : He) (E : Int) : Prop := ∃ A' c', e = .returned (.tuple #[.agg #[.int .u32 d.m, .int .i64 d.i, .int .i64 d.o, .int .i64 d.p, .int .u32 d.d, .int .u32 d.r, .int .u32 d.b, .slice A' d.s.length c'], .int .i64 E]) ∧ Wt w' A' d.s ∧ Below w.heap.size w w'
set_option maxRecDepth 100000 in
set_option maxHeartbeats 4000000 in
theorem rdecode_any (A : Option Addr) (n c : Nat) (l : List Int) (w : World) (hn : l.length = n) (hb : Bt w A l) (hy : Byt l) (hc : n ≤ c) (hl : n ≤ 5000) :
    Calls Try.prog 14 #[.slice A n c] w fun e w' => RD w w' e (decp l) (flt l) := by
  obtain ⟨W0, hW0⟩ : ∃ V, w.alloc (.cells #[Value.int .u32 0, .int .i64 0, .int .i64 0, .int .i64 0, .int .u32 0, .int .u32 0, .int .u32 0, .slice none 0 0] 32) = V := ⟨_, rfl⟩
  have b0 : Below w.heap.size w W0 := by rw [← hW0]; exact below_alloc1 _ _
  have s0 : W0.heap.size = w.heap.size + 1 := by rw [← hW0]; simp
  have KZ : Hid (∀ V, Below W0.heap.size W0 V → V.heap[w.heap.size]? = some (.cells #[Value.int .u32 0, .int .i64 0, .int .i64 0, .int .i64 0, .int .u32 0, .int .u32 0, .int .u32 0, .slice none 0 0] 32)) :=
    Lib.hid (fun V hV => by rw [hV.block _ (by omega), ← hW0]; exact alloc_at _ _ _ rfl)
  have HB : Hid (Below w.heap.size w W0) := Lib.hid b0
  have HF : Hid (flt l = if n < 20 ∨ (n - 20) % 4 ≠ 0 then 2 else if 1220 < n then 5 else 0) := Lib.hid (by rw [← hn]; rfl)
  obtain ⟨z0, z1, z2, z3, z4, z5, z6, z7, f0, f1, f2, f3, f4, f5, f6, f7, hzl⟩ := kz8_at (KZ.out _ (Below.refl _ _))
  have K0 := kz8_get (KZ.out _ (Below.refl _ _)) (Value.int .u32 0) (.int .i64 0) (.int .i64 0) (.int .i64 0) (.int .u32 0) (.int .u32 0) (.int .u32 0) (.slice none 0 0)
  have HK0 := Lib.hid K0
  have T0 := below_st8 (b := w.heap.size) b0 (Nat.le_refl _) (Value.int .u32 0) (.int .i64 0) (.int .i64 0) (.int .i64 0) (.int .u32 0) (.int .u32 0) (.int .u32 0) (.slice none 0 0)
  have HT0 := Lib.hid T0
  clear K0 T0 b0
  by_cases c1 : n < 20
  · have ef : flt l = 2 := by rw [HF.out, if_pos (.inl c1)]
    have e : decp l = zhe := by simp [decp, ef]
    rw [e, ef]
    have c2 : (n : Int) < 20 := by omega
    clear e ef HF
    go_enter Try.func14, Try.ntmps14
    go_wp2
    obtain ⟨r0, r1, r2, r3, r4, r5, r6, r7⟩ := HK0.out
    refine bodyPost_ret (v := .tuple #[.agg #[Value.int .u32 0, .int .i64 0, .int .i64 0, .int .i64 0, .int .u32 0, .int .u32 0, .int .u32 0, .slice none 0 0], .int .i64 2]) (by simp [results, Try.results14, go_sem, r0, r1, r2, r3, r4, r5, r6, r7]) rfl ⟨none, 0, rfl, Bs.nil _, HT0.out⟩
  have c2 : ¬ ((n : Int) < 20) := by omega
  by_cases c3 : (n - 20) % 4 = 0
  case neg =>
    have ef : flt l = 2 := by rw [HF.out, if_pos (.inr c3)]
    have e : decp l = zhe := by simp [decp, ef]
    rw [e, ef]
    have c4 : ((n : Int) % 4 == 0) = false := by simp; omega
    have c5 : ((n : Int) % 4 != 0) = true := by simp [bne, c4]
    clear e ef HF
    go_enter Try.func14, Try.ntmps14
    go_wp2
    obtain ⟨r0, r1, r2, r3, r4, r5, r6, r7⟩ := HK0.out
    refine bodyPost_ret (v := .tuple #[.agg #[Value.int .u32 0, .int .i64 0, .int .i64 0, .int .i64 0, .int .u32 0, .int .u32 0, .int .u32 0, .slice none 0 0], .int .i64 2]) (by simp [results, Try.results14, go_sem, r0, r1, r2, r3, r4, r5, r6, r7]) rfl ⟨none, 0, rfl, Bs.nil _, HT0.out⟩
  have c4 : ((n : Int) % 4 == 0) = true := by simp; omega
  have c5 : ((n : Int) % 4 != 0) = false := by simp [bne, c4]
  obtain ⟨q, hq⟩ : ∃ q, n = 20 + q * 4 := ⟨(n - 20) / 4, by omega⟩
  have RR : ∀ V, Below w.heap.size w V → Calls Try.prog 31 #[.slice A n c, .int .i64 4] V fun e w' => ∃ A' c', e = .returned (.tuple #[.slice A' (5 + q) c', .int .i64 0]) ∧ Own .u32 22 w' V.heap.size A' c' (nums 4 (5 + q) l) ∧ Below V.heap.size V w' := fun V hV =>
    rrows4_any A n c (5 + q) l V (hb.step hV) hy hn (by omega) hc (by omega)
  have HQ := Lib.hid hq
  clear z0 z1 z2 z3 z4 z5 z6 z7 f0 f1 f2 f3 f4 f5 f6 f7 hzl HK0 HT0
  by_cases c6 : 1220 < n
  · have ef : flt l = 5 := by rw [HF.out, if_neg (by omega), if_pos c6]
    have e : decp l = zhe := by simp [decp, ef]
    rw [e, ef]
    obtain ⟨m, hm⟩ : ∃ m, 5 + q = m := ⟨_, rfl⟩
    rw [hm] at RR
    have c7 : (m : Int) > 305 := by omega
    clear e ef HF hm hq hn
    go_enter Try.func14, Try.ntmps14
    go_wp2_with fail
    refine (RR _ HB.out).mono ?_
    rintro e W1 ⟨A1, c1', rfl, o1, u1⟩
    obtain ⟨z0, z1, z2, z3, z4, z5, z6, z7, f0, f1, f2, f3, f4, f5, f6, f7, hzl⟩ := kz8_at (KZ.out _ u1)
    have K0 := kz8_get (KZ.out _ u1) (Value.int .u32 0) (.int .i64 0) (.int .i64 0) (.int .i64 0) (.int .u32 0) (.int .u32 0) (.int .u32 0) (.slice none 0 0)
    have HK0 := Lib.hid K0
    have T0 := below_st8 (b := w.heap.size) (HB.out.trans (u1.mono HB.out.size)) (Nat.le_refl _) (Value.int .u32 0) (.int .i64 0) (.int .i64 0) (.int .i64 0) (.int .u32 0) (.int .u32 0) (.int .u32 0) (.slice none 0 0)
    have HT0 := Lib.hid T0
    clear K0 T0 o1 u1
    go_wp2
    obtain ⟨r0, r1, r2, r3, r4, r5, r6, r7⟩ := HK0.out
    refine bodyPost_ret (v := .tuple #[.agg #[Value.int .u32 0, .int .i64 0, .int .i64 0, .int .i64 0, .int .u32 0, .int .u32 0, .int .u32 0, .slice none 0 0], .int .i64 5]) (by simp [results, Try.results14, go_sem, r0, r1, r2, r3, r4, r5, r6, r7]) rfl ⟨none, 0, rfl, Bs.nil _, HT0.out⟩
  have hf : flt l = 0 := by rw [HF.out, if_neg (by omega), if_neg c6]
  obtain ⟨b, off, rfl, hlt, -⟩ := hb (by rintro rfl; simp at hn; omega)
  have e : decp l = dec l := by simp [decp, hf]
  rw [e, hf]
  have g4 := hb.get (i := 4) (by omega)
  have g5 := hb.get (i := 5) (by omega)
  have g6 := hb.get (i := 6) (by omega)
  have g7 := hb.get (i := 7) (by omega)
  have y4 := byt_getD hy 4
  have y5 := byt_getD hy 5
  have y6 := byt_getD hy 6
  have y7 := byt_getD hy 7
  have hp : num (sub l 4 2) = 256 * l.getD 4 0 + l.getD 5 0 := by
    rw [num_pair _ (sub_len (by omega))]
    have e1 : (sub l 4 2).getD 0 0 = l.getD 4 0 := by simp [sub, List.getD]
    have e2 : (sub l 4 2).getD 1 0 = l.getD 5 0 := by simp [sub, List.getD]
    rw [e1, e2]; omega
  have HD : Hid (dec l = ⟨num (l.take 4), 256 * l.getD 4 0 + l.getD 5 0, l.getD 6 0, l.getD 7 0, num (sub l 8 4), num (sub l 12 4), num (sub l 16 4), nums 4 q (l.drop 20)⟩) := Lib.hid (by
    unfold dec
    rw [hp, show (l.length - 20) / 4 = q by omega])
  have d0 := nums_getD 4 (5 + q) l 0 (by omega)
  have d2 := nums_getD 4 (5 + q) l 2 (by omega)
  have d3 := nums_getD 4 (5 + q) l 3 (by omega)
  have d4 := nums_getD 4 (5 + q) l 4 (by omega)
  have d5 := nums_drop 4 5 q l
  rw [show sub l (0 * 4) 4 = l.take 4 by simp [sub]] at d0
  rw [show 5 * 4 = 20 from rfl] at d5
  rw [show 2 * 4 = 8 from rfl] at d2
  rw [show 3 * 4 = 12 from rfl] at d3
  rw [show 4 * 4 = 16 from rfl] at d4
  obtain ⟨L, hL⟩ : ∃ L, nums 4 (5 + q) l = L := ⟨_, rfl⟩
  have hLl : L.length = 5 + q := by rw [← hL, nums_length]
  have hDl : (nums 4 q (l.drop 20)).length = q := nums_length _ _ _
  rw [hL] at d0 d2 d3 d4 d5
  simp only [hL] at RR
  clear hL hp
  rw [← d5] at HD hDl
  generalize num (l.take 4) = y0 at *
  generalize num (sub l 8 4) = y2 at *
  generalize num (sub l 12 4) = y3 at *
  generalize num (sub l 16 4) = y4' at *
  generalize l.getD 4 0 = x4 at *
  generalize l.getD 5 0 = x5 at *
  generalize l.getD 6 0 = x6 at *
  generalize l.getD 7 0 = x7 at *
  obtain ⟨m, hm⟩ : ∃ m, 5 + q = m := ⟨_, rfl⟩
  simp only [hm] at RR
  rw [hm] at hLl
  have HDL := Lib.hid hDl
  have HLL := Lib.hid hLl
  have hm5 : 5 ≤ m := by omega
  have hmq : m - 5 = q := by omega
  have HMQ := Lib.hid hmq
  have c7 : ¬ ((m : Int) > 305) := by omega
  have j0 : (0 : Int) < (m : Int) := by omega
  have j2 : (2 : Int) < (m : Int) := by omega
  have j3 : (3 : Int) < (m : Int) := by omega
  have j4 : (4 : Int) < (m : Int) := by omega
  have j5 : (5 : Int) ≤ (m : Int) := by omega
  have jn0 : 0 < m := by omega
  have jn2 : 2 < m := by omega
  have jn3 : 3 < m := by omega
  have jn4 : 4 < m := by omega
  have in4 : 4 < n := by omega
  have in5 : 5 < n := by omega
  have in6 : 6 < n := by omega
  have in7 : 7 < n := by omega
  have i4 : (4 : Int) < (n : Int) := by omega
  have i5 : (5 : Int) < (n : Int) := by omega
  have i6 : (6 : Int) < (n : Int) := by omega
  have i7 : (7 : Int) < (n : Int) := by omega
  have hw7 : wrap64 (256 * x4) = 256 * x4 := by unfold wrap64; omega
  have hw12 : wrap64 (256 * x4 + x5) = 256 * x4 + x5 := by unfold wrap64; omega
  have KB : Hid (∀ V, Below w.heap.size w V → V.cell? ⟨b, off + 4, none⟩ = some (.int .u8 x4) ∧ V.cell? ⟨b, off + 5, none⟩ = some (.int .u8 x5) ∧ V.cell? ⟨b, off + 6, none⟩ = some (.int .u8 x6) ∧ V.cell? ⟨b, off + 7, none⟩ = some (.int .u8 x7)) := Lib.hid (fun V hV => ⟨(hV.cell (p := ⟨b, off + 4, none⟩) hlt).trans g4, (hV.cell (p := ⟨b, off + 5, none⟩) hlt).trans g5, (hV.cell (p := ⟨b, off + 6, none⟩) hlt).trans g6, (hV.cell (p := ⟨b, off + 7, none⟩) hlt).trans g7⟩)
  clear hb hy e g4 g5 g6 g7 hq hn hf HF hLl hDl c1 c3 c6 hm hmq d5
  go_enter Try.func14, Try.ntmps14
  go_wp2_with fail
  refine (RR _ HB.out).mono ?_
  rintro e W1 ⟨A1, cc, rfl, o1, u1⟩
  obtain ⟨g, rfl, hg0, hg1, hcc⟩ : ∃ g, A1 = some ⟨g, 0, none⟩ ∧ W0.heap.size ≤ g ∧ g < W1.heap.size ∧ m ≤ cc := by
    rcases o1.form with ⟨_, _, q⟩ | ⟨g, _, q, q1, q2, _⟩
    · have := HLL.out; rw [q] at this; simp at this; omega
    · exact ⟨g, q, q1, q2, by have := o1.cap_le; rw [HLL.out] at this; exact this⟩
  have m0 := o1.cellAt (i := 0) (by rw [HLL.out]; omega)
  have m2 := o1.cellAt (i := 2) (by rw [HLL.out]; omega)
  have m3 := o1.cellAt (i := 3) (by rw [HLL.out]; omega)
  have m4 := o1.cellAt (i := 4) (by rw [HLL.out]; omega)
  rw [d0] at m0
  rw [d2] at m2
  rw [d3] at m3
  rw [d4] at m4
  obtain ⟨A5, hA5⟩ : ∃ A5, (if cc = 5 then (some ⟨g, 0, none⟩ : Option Addr) else some ⟨g, 5, none⟩) = A5 := ⟨_, rfl⟩
  have w5 : Wt W1 A5 (L.drop 5) := o1.bs.drop 5 A5 (fun h => by rw [← hA5, if_neg (by rw [HLL.out] at h; omega)]; simp [addr_add])
  have KS : Hid (∀ V, Below W1.heap.size W1 V → V.cell? ⟨b, off + 4, none⟩ = some (.int .u8 x4) ∧ V.cell? ⟨b, off + 5, none⟩ = some (.int .u8 x5) ∧ V.cell? ⟨b, off + 6, none⟩ = some (.int .u8 x6) ∧ V.cell? ⟨b, off + 7, none⟩ = some (.int .u8 x7) ∧ V.cell? ⟨g, 0, none⟩ = some (.int .u32 y0) ∧ V.cell? ⟨g, 2, none⟩ = some (.int .u32 y2) ∧ V.cell? ⟨g, 3, none⟩ = some (.int .u32 y3) ∧ V.cell? ⟨g, 4, none⟩ = some (.int .u32 y4')) := Lib.hid (fun V hV => by
    obtain ⟨e4, e5, e6, e7⟩ := KB.out V (HB.out.trans ((u1.trans (hV.mono u1.size)).mono HB.out.size))
    exact ⟨e4, e5, e6, e7, (hV.cell (p := ⟨g, 0, none⟩) hg1).trans m0, (hV.cell (p := ⟨g, 2, none⟩) hg1).trans m2, (hV.cell (p := ⟨g, 3, none⟩) hg1).trans m3, (hV.cell (p := ⟨g, 4, none⟩) hg1).trans m4⟩)
  have tt : Below W1.heap.size W1 W1 := Below.refl _ _
  have HGW : Hid (g ≠ w.heap.size) := Lib.hid (by omega)
  have c5p : (5 : Int) ≤ (cc : Int) := by omega
  have mcc : (m : Int) ≤ (cc : Int) := by omega
  have W5 := Lib.hid w5
  clear hg0 o1 RR d0 d2 d3 d4 m0 m2 m3 m4 w5
  go_wp2_with fail
  refine wp_region_held_drew (S := fun V => V.cell? ⟨b, off + 4, none⟩ = some (.int .u8 x4) ∧ V.cell? ⟨b, off + 5, none⟩ = some (.int .u8 x5) ∧ V.cell? ⟨b, off + 6, none⟩ = some (.int .u8 x6) ∧ V.cell? ⟨b, off + 7, none⟩ = some (.int .u8 x7) ∧ V.cell? ⟨g, 0, none⟩ = some (.int .u32 y0) ∧ V.cell? ⟨g, 2, none⟩ = some (.int .u32 y2) ∧ V.cell? ⟨g, 3, none⟩ = some (.int .u32 y3) ∧ V.cell? ⟨g, 4, none⟩ = some (.int .u32 y4')) (by kernel_rfl) (KS.out _ tt.drew) (fun hHeld => ?_)
  replace tt : Below W1.heap.size W1 W1.drew := tt.drew
  generalize hX0 : W1.drew = Y0 at tt hHeld ⊢
  clear hX0
  refine wpAnyH_take (i := 0) (v := ?_) rfl (by kernel_rfl) (by kernel_rfl) (by kernel_rfl) (fun _ _ _ h => h) (Or.inl ⟨by rfl, ?_⟩) (by assumption) ?_
  rotate_left
  · (intro w' hSw; (try dsimp only at hSw); go_simp; try with_reducible rfl)
  simp only [Act.put, List.getElem_toArray, List.getElem_cons_zero, List.setIfInBounds_toArray, List.set_cons_zero, List.set_cons_succ]
  refine wpAnyH_take (i := 1) (v := ?_) rfl (by kernel_rfl) (by kernel_rfl) (by kernel_rfl) (fun _ _ _ h => h) (Or.inl ⟨by rfl, ?_⟩) (by assumption) ?_
  rotate_left
  · (intro w' hSw; (try dsimp only at hSw); go_simp; try with_reducible rfl)
  simp only [Act.put, List.getElem_toArray, List.getElem_cons_zero, List.getElem_cons_succ, List.setIfInBounds_toArray, List.set_cons_zero, List.set_cons_succ]
  refine wpAnyH_take (i := 2) (v := ?_) rfl (by kernel_rfl) (by kernel_rfl) (by kernel_rfl) (fun _ _ _ h => h) (Or.inl ⟨by rfl, ?_⟩) (by assumption) ?_
  rotate_left
  · (intro w' hSw; (try dsimp only at hSw); go_simp; try with_reducible rfl)
  simp only [Act.put, List.getElem_toArray, List.getElem_cons_zero, List.getElem_cons_succ, List.setIfInBounds_toArray, List.set_cons_zero, List.set_cons_succ]
  refine wpAnyH_take (i := 3) (v := ?_) rfl (by kernel_rfl) (by kernel_rfl) (by kernel_rfl) (fun _ _ _ h => h) (Or.inl ⟨by rfl, ?_⟩) (by assumption) ?_
  rotate_left
  · (intro w' hSw; (try dsimp only at hSw); go_simp; try with_reducible rfl)
  simp only [Act.put, List.getElem_toArray, List.getElem_cons_zero, List.getElem_cons_succ, List.setIfInBounds_toArray, List.set_cons_zero, List.set_cons_succ]
  refine wpAnyH_take (i := 4) (v := ?_) rfl (by kernel_rfl) (by kernel_rfl) (by kernel_rfl) (fun _ _ _ h => h) (Or.inl ⟨by rfl, ?_⟩) (by assumption) ?_
  rotate_left
  · (intro w' hSw; (try dsimp only at hSw); go_simp; try with_reducible rfl)
  simp only [Act.put, List.getElem_toArray, List.getElem_cons_zero, List.getElem_cons_succ, List.setIfInBounds_toArray, List.set_cons_zero, List.set_cons_succ]
  refine wpAnyH_take (i := 5) (v := ?_) rfl (by kernel_rfl) (by kernel_rfl) (by kernel_rfl) (fun _ _ _ h => h) (Or.inl ⟨by rfl, ?_⟩) (by assumption) ?_
  rotate_left
  · (intro w' hSw; (try dsimp only at hSw); go_simp; try with_reducible rfl)
  simp only [Act.put, List.getElem_toArray, List.getElem_cons_zero, List.getElem_cons_succ, List.setIfInBounds_toArray, List.set_cons_zero, List.set_cons_succ]
  refine wpAnyH_take (i := 6) (v := .int .i64 x4) rfl (by kernel_rfl) (by kernel_rfl) (by kernel_rfl) (fun _ _ _ h => h) (Or.inl ⟨by rfl, ?_⟩) (by assumption) ?_
  · (intro w' hSw; (try dsimp only at hSw); go_simp; rw [wrap_i64 (by omega) (by omega)])
  simp only [Act.put, List.getElem_toArray, List.getElem_cons_zero, List.getElem_cons_succ, List.setIfInBounds_toArray, List.set_cons_zero, List.set_cons_succ]
  refine wpAnyH_take (i := 7) (v := .int .i64 (256 * x4)) rfl (by kernel_rfl) (by kernel_rfl) (by kernel_rfl) (fun _ _ _ h => h) (Or.inl ⟨by rfl, ?_⟩) (by assumption) ?_
  · (intro w' hSw; (try dsimp only at hSw); go_simp; exact wrap_i64 (by omega) (by omega))
  simp only [Act.put, List.getElem_toArray, List.getElem_cons_zero, List.getElem_cons_succ, List.setIfInBounds_toArray, List.set_cons_zero, List.set_cons_succ]
  refine wpAnyH_take (i := 8) (v := ?_) rfl (by kernel_rfl) (by kernel_rfl) (by kernel_rfl) (fun _ _ _ h => h) (Or.inl ⟨by rfl, ?_⟩) (by assumption) ?_
  rotate_left
  · (intro w' hSw; (try dsimp only at hSw); go_simp; try with_reducible rfl)
  simp only [Act.put, List.getElem_toArray, List.getElem_cons_zero, List.getElem_cons_succ, List.setIfInBounds_toArray, List.set_cons_zero, List.set_cons_succ]
  refine wpAnyH_take (i := 9) (v := ?_) rfl (by kernel_rfl) (by kernel_rfl) (by kernel_rfl) (fun _ _ _ h => h) (Or.inl ⟨by rfl, ?_⟩) (by assumption) ?_
  rotate_left
  · (intro w' hSw; (try dsimp only at hSw); go_simp; try with_reducible rfl)
  simp only [Act.put, List.getElem_toArray, List.getElem_cons_zero, List.getElem_cons_succ, List.setIfInBounds_toArray, List.set_cons_zero, List.set_cons_succ]
  refine wpAnyH_take (i := 10) (v := ?_) rfl (by kernel_rfl) (by kernel_rfl) (by kernel_rfl) (fun _ _ _ h => h) (Or.inl ⟨by rfl, ?_⟩) (by assumption) ?_
  rotate_left
  · (intro w' hSw; (try dsimp only at hSw); go_simp; try with_reducible rfl)
  simp only [Act.put, List.getElem_toArray, List.getElem_cons_zero, List.getElem_cons_succ, List.setIfInBounds_toArray, List.set_cons_zero, List.set_cons_succ]
  refine wpAnyH_take (i := 11) (v := .int .i64 x5) rfl (by kernel_rfl) (by kernel_rfl) (by kernel_rfl) (fun _ _ _ h => h) (Or.inl ⟨by rfl, ?_⟩) (by assumption) ?_
  · (intro w' hSw; (try dsimp only at hSw); go_simp; rw [wrap_i64 (by omega) (by omega)])
  simp only [Act.put, List.getElem_toArray, List.getElem_cons_zero, List.getElem_cons_succ, List.setIfInBounds_toArray, List.set_cons_zero, List.set_cons_succ]
  refine wpAnyH_take (i := 12) (v := .int .i64 (256 * x4 + x5)) rfl (by kernel_rfl) (by kernel_rfl) (by kernel_rfl) (fun _ _ _ h => h) (Or.inl ⟨by rfl, ?_⟩) (by assumption) ?_
  · (intro w' hSw; (try dsimp only at hSw); go_simp; exact wrap_i64 (by omega) (by omega))
  simp only [Act.put, List.getElem_toArray, List.getElem_cons_zero, List.getElem_cons_succ, List.setIfInBounds_toArray, List.set_cons_zero, List.set_cons_succ]
  refine wpAnyH_take (i := 13) (v := ?_) rfl (by kernel_rfl) (by kernel_rfl) (by kernel_rfl) (fun _ _ _ h => h) (Or.inl ⟨by rfl, ?_⟩) (by assumption) ?_
  rotate_left
  · (intro w' hSw; (try dsimp only at hSw); go_simp; try with_reducible rfl)
  simp only [Act.put, List.getElem_toArray, List.getElem_cons_zero, List.getElem_cons_succ, List.setIfInBounds_toArray, List.set_cons_zero, List.set_cons_succ]
  refine wpAnyH_take (i := 14) (v := ?_) rfl (by kernel_rfl) (by kernel_rfl) (by kernel_rfl) (fun _ _ _ h => h) (Or.inl ⟨by rfl, ?_⟩) (by assumption) ?_
  rotate_left
  · (intro w' hSw; (try dsimp only at hSw); go_simp; try with_reducible rfl)
  simp only [Act.put, List.getElem_toArray, List.getElem_cons_zero, List.getElem_cons_succ, List.setIfInBounds_toArray, List.set_cons_zero, List.set_cons_succ]
  refine wpAnyH_take (i := 15) (v := ?_) rfl (by kernel_rfl) (by kernel_rfl) (by kernel_rfl) (fun _ _ _ h => h) (Or.inl ⟨by rfl, ?_⟩) (by assumption) ?_
  rotate_left
  · (intro w' hSw; (try dsimp only at hSw); go_simp; try with_reducible rfl)
  simp only [Act.put, List.getElem_toArray, List.getElem_cons_zero, List.getElem_cons_succ, List.setIfInBounds_toArray, List.set_cons_zero, List.set_cons_succ]
  refine wpAnyH_take (i := 16) (v := .int .i64 x6) rfl (by kernel_rfl) (by kernel_rfl) (by kernel_rfl) (fun _ _ _ h => h) (Or.inl ⟨by rfl, ?_⟩) (by assumption) ?_
  · (intro w' hSw; (try dsimp only at hSw); go_simp; rw [wrap_i64 (by omega) (by omega)])
  simp only [Act.put, List.getElem_toArray, List.getElem_cons_zero, List.getElem_cons_succ, List.setIfInBounds_toArray, List.set_cons_zero, List.set_cons_succ]
  refine wpAnyH_take (i := 17) (v := ?_) rfl (by kernel_rfl) (by kernel_rfl) (by kernel_rfl) (fun _ _ _ h => h) (Or.inl ⟨by rfl, ?_⟩) (by assumption) ?_
  rotate_left
  · (intro w' hSw; (try dsimp only at hSw); go_simp; try with_reducible rfl)
  simp only [Act.put, List.getElem_toArray, List.getElem_cons_zero, List.getElem_cons_succ, List.setIfInBounds_toArray, List.set_cons_zero, List.set_cons_succ]
  refine wpAnyH_take (i := 18) (v := ?_) rfl (by kernel_rfl) (by kernel_rfl) (by kernel_rfl) (fun _ _ _ h => h) (Or.inl ⟨by rfl, ?_⟩) (by assumption) ?_
  rotate_left
  · (intro w' hSw; (try dsimp only at hSw); go_simp; try with_reducible rfl)
  simp only [Act.put, List.getElem_toArray, List.getElem_cons_zero, List.getElem_cons_succ, List.setIfInBounds_toArray, List.set_cons_zero, List.set_cons_succ]
  refine wpAnyH_take (i := 19) (v := ?_) rfl (by kernel_rfl) (by kernel_rfl) (by kernel_rfl) (fun _ _ _ h => h) (Or.inl ⟨by rfl, ?_⟩) (by assumption) ?_
  rotate_left
  · (intro w' hSw; (try dsimp only at hSw); go_simp; try with_reducible rfl)
  simp only [Act.put, List.getElem_toArray, List.getElem_cons_zero, List.getElem_cons_succ, List.setIfInBounds_toArray, List.set_cons_zero, List.set_cons_succ]
  refine wpAnyH_take (i := 20) (v := .int .i64 x7) rfl (by kernel_rfl) (by kernel_rfl) (by kernel_rfl) (fun _ _ _ h => h) (Or.inl ⟨by rfl, ?_⟩) (by assumption) ?_
  · (intro w' hSw; (try dsimp only at hSw); go_simp; rw [wrap_i64 (by omega) (by omega)])
  simp only [Act.put, List.getElem_toArray, List.getElem_cons_zero, List.getElem_cons_succ, List.setIfInBounds_toArray, List.set_cons_zero, List.set_cons_succ]
  refine wpAnyH_take (i := 21) (v := ?_) rfl (by kernel_rfl) (by kernel_rfl) (by kernel_rfl) (fun _ _ _ h => h) (Or.inl ⟨by rfl, ?_⟩) (by assumption) ?_
  rotate_left
  · (intro w' hSw; (try dsimp only at hSw); go_simp; try with_reducible rfl)
  simp only [Act.put, List.getElem_toArray, List.getElem_cons_zero, List.getElem_cons_succ, List.setIfInBounds_toArray, List.set_cons_zero, List.set_cons_succ]
  refine wpAnyH_take (i := 22) (v := ?_) rfl (by kernel_rfl) (by kernel_rfl) (by kernel_rfl) (fun _ _ _ h => h) (Or.inl ⟨by rfl, ?_⟩) (by assumption) ?_
  rotate_left
  · (intro w' hSw; (try dsimp only at hSw); go_simp; try with_reducible rfl)
  simp only [Act.put, List.getElem_toArray, List.getElem_cons_zero, List.getElem_cons_succ, List.setIfInBounds_toArray, List.set_cons_zero, List.set_cons_succ]
  refine wpAnyH_take (i := 23) (v := ?_) rfl (by kernel_rfl) (by kernel_rfl) (by kernel_rfl) (fun _ _ _ h => h) (Or.inl ⟨by rfl, ?_⟩) (by assumption) ?_
  rotate_left
  · (intro w' hSw; (try dsimp only at hSw); go_simp; try with_reducible rfl)
  simp only [Act.put, List.getElem_toArray, List.getElem_cons_zero, List.getElem_cons_succ, List.setIfInBounds_toArray, List.set_cons_zero, List.set_cons_succ]
  refine wpAnyH_take (i := 24) (v := ?_) rfl (by kernel_rfl) (by kernel_rfl) (by kernel_rfl) (fun _ _ _ h => h) (Or.inl ⟨by rfl, ?_⟩) (by assumption) ?_
  rotate_left
  · (intro w' hSw; (try dsimp only at hSw); go_simp; try with_reducible rfl)
  simp only [Act.put, List.getElem_toArray, List.getElem_cons_zero, List.getElem_cons_succ, List.setIfInBounds_toArray, List.set_cons_zero, List.set_cons_succ]
  refine wpAnyH_take (i := 25) (v := ?_) rfl (by kernel_rfl) (by kernel_rfl) (by kernel_rfl) (fun _ _ _ h => h) (Or.inl ⟨by rfl, ?_⟩) (by assumption) ?_
  rotate_left
  · (intro w' hSw; (try dsimp only at hSw); go_simp; try with_reducible rfl)
  simp only [Act.put, List.getElem_toArray, List.getElem_cons_zero, List.getElem_cons_succ, List.setIfInBounds_toArray, List.set_cons_zero, List.set_cons_succ]
  refine wpAnyH_take (i := 26) (v := ?_) rfl (by kernel_rfl) (by kernel_rfl) (by kernel_rfl) (fun _ _ _ h => h) (Or.inl ⟨by rfl, ?_⟩) (by assumption) ?_
  rotate_left
  · (intro w' hSw; (try dsimp only at hSw); go_simp; try with_reducible rfl)
  simp only [Act.put, List.getElem_toArray, List.getElem_cons_zero, List.getElem_cons_succ, List.setIfInBounds_toArray, List.set_cons_zero, List.set_cons_succ]
  refine wpAnyH_take (i := 27) (v := ?_) rfl (by kernel_rfl) (by kernel_rfl) (by kernel_rfl) (fun _ _ _ h => h) (Or.inl ⟨by rfl, ?_⟩) (by assumption) ?_
  rotate_left
  · (intro w' hSw; (try dsimp only at hSw); go_simp; try with_reducible rfl)
  simp only [Act.put, List.getElem_toArray, List.getElem_cons_zero, List.getElem_cons_succ, List.setIfInBounds_toArray, List.set_cons_zero, List.set_cons_succ]
  refine wpAnyH_take (i := 28) (v := ?_) rfl (by kernel_rfl) (by kernel_rfl) (by kernel_rfl) (fun _ _ _ h => h) (Or.inl ⟨by rfl, ?_⟩) (by assumption) ?_
  rotate_left
  · (intro w' hSw; (try dsimp only at hSw); go_simp; try with_reducible rfl)
  simp only [Act.put, List.getElem_toArray, List.getElem_cons_zero, List.getElem_cons_succ, List.setIfInBounds_toArray, List.set_cons_zero, List.set_cons_succ]
  refine wpAnyH_take (i := 29) (v := ?_) rfl (by kernel_rfl) (by kernel_rfl) (by kernel_rfl) (fun _ _ _ h => h) (Or.inl ⟨by rfl, ?_⟩) (by assumption) ?_
  rotate_left
  · (intro w' hSw; (try dsimp only at hSw); go_simp; try with_reducible rfl)
  simp only [Act.put, List.getElem_toArray, List.getElem_cons_zero, List.getElem_cons_succ, List.setIfInBounds_toArray, List.set_cons_zero, List.set_cons_succ]
  refine wpAnyH_take (i := 30) (v := ?_) rfl (by kernel_rfl) (by kernel_rfl) (by kernel_rfl) (fun _ _ _ h => h) (Or.inl ⟨by rfl, ?_⟩) (by assumption) ?_
  rotate_left
  · (intro w' hSw; (try dsimp only at hSw); go_simp; try with_reducible rfl)
  simp only [Act.put, List.getElem_toArray, List.getElem_cons_zero, List.getElem_cons_succ, List.setIfInBounds_toArray, List.set_cons_zero, List.set_cons_succ]
  refine wpAnyH_take (i := 31) (v := .slice A5 (m - 5) (cc - 5)) rfl (by kernel_rfl) (by kernel_rfl) (by kernel_rfl) (fun _ _ _ h => h) (Or.inl ⟨by rfl, ?_⟩) (by assumption) ?_
  · (intro w' hSw; (try dsimp only at hSw); go_simp; try rw [hA5])
  simp only [Act.put, List.getElem_toArray, List.getElem_cons_zero, List.getElem_cons_succ, List.setIfInBounds_toArray, List.set_cons_zero, List.set_cons_succ]
  refine wpAnyH_take (i := 32) (v := .agg #[.int .u32 y0, .int .i64 (256 * x4 + x5), .int .i64 x6, .int .i64 x7, .int .u32 y2, .int .u32 y3, .int .u32 y4', .slice A5 (m - 5) (cc - 5)]) rfl (by kernel_rfl) (by kernel_rfl) (by kernel_rfl) (fun _ _ _ h => h) (Or.inl ⟨by rfl, ?_⟩) (by assumption) ?_
  · (intro w' hSw; (try dsimp only at hSw); go_simp; try rfl)
  simp only [Act.put, List.getElem_toArray, List.getElem_cons_zero, List.getElem_cons_succ, List.setIfInBounds_toArray, List.set_cons_zero, List.set_cons_succ]
  refine wpAnyH_ready (rs := [33]) (by kernel_rfl) (by simp) ?_
  refine AllReadyH.cons rfl (fun K hK => ?_) AllReadyH.nil
  obtain ⟨a0, a1, a2, a3, a4, a5, a6, a7, f0, f1, f2, f3, f4, f5, f6, f7, hzl⟩ := kz8_at (KZ.out _ (u1.trans (tt.mono u1.size)))
  have KR := Lib.hid <| kz8_get (KZ.out _ (u1.trans (tt.mono u1.size))) (Value.int .u32 y0) (.int .i64 (256 * x4 + x5)) (.int .i64 x6) (.int .i64 x7) (.int .u32 y2) (.int .u32 y3) (.int .u32 y4') (.slice A5 (m - 5) (cc - 5))
  have tz : Below w.heap.size w Y0 := HB.out.trans ((u1.trans (tt.mono u1.size)).mono HB.out.size)
  have TF : Hid (Below w.heap.size w (st8 Y0 w.heap.size (.int .u32 y0) (.int .i64 (256 * x4 + x5)) (.int .i64 x6) (.int .i64 x7) (.int .u32 y2) (.int .u32 y3) (.int .u32 y4') (.slice A5 (m - 5) (cc - 5))) ) := Lib.hid <| below_st8 tz (Nat.le_refl _) _ _ _ _ _ _ _ _
  have KF : Hid ((st8 Y0 w.heap.size (.int .u32 y0) (.int .i64 (256 * x4 + x5)) (.int .i64 x6) (.int .i64 x7) (.int .u32 y2) (.int .u32 y3) (.int .u32 y4') (.slice A5 (m - 5) (cc - 5))).cell? ⟨b, off + 4, none⟩ = some (.int .u8 x4) ∧ (st8 Y0 w.heap.size (.int .u32 y0) (.int .i64 (256 * x4 + x5)) (.int .i64 x6) (.int .i64 x7) (.int .u32 y2) (.int .u32 y3) (.int .u32 y4') (.slice A5 (m - 5) (cc - 5))).cell? ⟨b, off + 5, none⟩ = some (.int .u8 x5) ∧ (st8 Y0 w.heap.size (.int .u32 y0) (.int .i64 (256 * x4 + x5)) (.int .i64 x6) (.int .i64 x7) (.int .u32 y2) (.int .u32 y3) (.int .u32 y4') (.slice A5 (m - 5) (cc - 5))).cell? ⟨b, off + 6, none⟩ = some (.int .u8 x6) ∧ (st8 Y0 w.heap.size (.int .u32 y0) (.int .i64 (256 * x4 + x5)) (.int .i64 x6) (.int .i64 x7) (.int .u32 y2) (.int .u32 y3) (.int .u32 y4') (.slice A5 (m - 5) (cc - 5))).cell? ⟨b, off + 7, none⟩ = some (.int .u8 x7) ∧ (st8 Y0 w.heap.size (.int .u32 y0) (.int .i64 (256 * x4 + x5)) (.int .i64 x6) (.int .i64 x7) (.int .u32 y2) (.int .u32 y3) (.int .u32 y4') (.slice A5 (m - 5) (cc - 5))).cell? ⟨g, 0, none⟩ = some (.int .u32 y0) ∧ (st8 Y0 w.heap.size (.int .u32 y0) (.int .i64 (256 * x4 + x5)) (.int .i64 x6) (.int .i64 x7) (.int .u32 y2) (.int .u32 y3) (.int .u32 y4') (.slice A5 (m - 5) (cc - 5))).cell? ⟨g, 2, none⟩ = some (.int .u32 y2) ∧ (st8 Y0 w.heap.size (.int .u32 y0) (.int .i64 (256 * x4 + x5)) (.int .i64 x6) (.int .i64 x7) (.int .u32 y2) (.int .u32 y3) (.int .u32 y4') (.slice A5 (m - 5) (cc - 5))).cell? ⟨g, 3, none⟩ = some (.int .u32 y3) ∧ (st8 Y0 w.heap.size (.int .u32 y0) (.int .i64 (256 * x4 + x5)) (.int .i64 x6) (.int .i64 x7) (.int .u32 y2) (.int .u32 y3) (.int .u32 y4') (.slice A5 (m - 5) (cc - 5))).cell? ⟨g, 4, none⟩ = some (.int .u32 y4')) := Lib.hid <| by
    obtain ⟨e4, e5, e6, e7⟩ := KB.out _ TF.out
    obtain ⟨_, _, _, _, e0, e1, e2, e3⟩ := KS.out _ tt
    exact ⟨e4, e5, e6, e7, (cell_st8 (p := ⟨g, 0, none⟩) HGW.out _ _ _ _ _ _ _ _).trans e0, (cell_st8 (p := ⟨g, 2, none⟩) HGW.out _ _ _ _ _ _ _ _).trans e1, (cell_st8 (p := ⟨g, 3, none⟩) HGW.out _ _ _ _ _ _ _ _).trans e2, (cell_st8 (p := ⟨g, 4, none⟩) HGW.out _ _ _ _ _ _ _ _).trans e3⟩
  have WF : Hid (Wt (st8 Y0 w.heap.size (.int .u32 y0) (.int .i64 (256 * x4 + x5)) (.int .i64 x6) (.int .i64 x7) (.int .u32 y2) (.int .u32 y3) (.int .u32 y4') (.slice A5 (m - 5) (cc - 5))) A5 (L.drop 5)) := Lib.hid <| fun hne => by
    obtain ⟨b', off', e', hlt', hc'⟩ := (W5.out.step tt) hne
    have hbg : b' = g := by
      rw [e'] at hA5
      split at hA5 <;> (injection hA5 with hA5; injection hA5 with h1 h2; exact h1.symm)
    subst hbg
    exact ⟨b', off', e', by rw [size_st8]; exact hlt', fun i hi => (cell_st8 (p := ⟨b', off' + i, none⟩) HGW.out _ _ _ _ _ _ _ _).trans (hc' i hi)⟩
  go_simp
  refine hK.out _ _ KF.out (fun _ => ?_)
  clear hK K
  refine wpAnyH_ready (rs := [34]) (by kernel_rfl) (by simp) ?_
  refine AllReadyH.cons rfl (fun K hK => ?_) AllReadyH.nil
  clear a0 a1 a2 a3 a4 a5 a6 a7 f0 f1 f2 f3 f4 f5 f6 f7 hzl
  go_simp
  refine hK.out _ _ KF.out (fun _ => ?_)
  clear hK K
  refine wpAnyH_done (by kernel_rfl) ?_ _
  go_wp2
  obtain ⟨r0, r1, r2, r3, r4, r5, r6, r7⟩ := KR.out
  refine bodyPost_ret (v := .tuple #[.agg #[.int .u32 y0, .int .i64 (256 * x4 + x5), .int .i64 x6, .int .i64 x7, .int .u32 y2, .int .u32 y3, .int .u32 y4', .slice A5 (m - 5) (cc - 5)], .int .i64 0]) (by simp [results, Try.results14, go_sem, r0, r1, r2, r3, r4, r5, r6, r7]) rfl ⟨A5, cc - 5, ?_, ?_, TF.out⟩
  · rw [HD.out]
    simp only [HDL.out, HMQ.out]
  · rw [HD.out]
    exact WF.out
end Go.Proofs.Ytdjblkmhlghglaa
