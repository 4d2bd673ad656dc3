/-
  What bytes say of an advertisement; the contract of lsa's Decode. No statement is proved here; no conditions.
-/
import Derived.Test.YtefbpaebimagaaaRd
import Derived.Test.YtefbpaebimagaaaEn
namespace Go.Proofs.Ytefbpaebimagaaa
open Go.RowKit Go.Joins

theorem rdf_ok {F : List Int} (hy : Byt F) (h : F.length = 20) : Okd (rdf F) :=
  ⟨num_four (sub_byt hy 4 4) (sub_len (by omega)), num_four (sub_byt hy 8 4) (sub_len (by omega)), num_four (sub_byt hy 12 4) (sub_len (by omega))⟩
theorem rdE_ok {l : List Int} (h : rdE l = 0) : 20 ≤ l.length ∧ rdp l = rdf (l.take 20) ∧ rdr l = l.drop 20 ∧ mayd (rdf (l.take 20)) = true := by
  have h1 : 20 ≤ l.length := by
    unfold rdE at h
    split at h
    · omega
    · omega
  refine ⟨h1, by rw [rdp, if_pos h], by rw [rdr, if_pos h], ?_⟩
  unfold rdE at h
  rw [if_neg (by omega)] at h
  split at h
  · assumption
  · omega
/-- The body's length, the body, and what remains. -/
def bdn (l : List Int) : Nat := ((rdp l).n - 20).toNat
def bdy (l : List Int) : List Int := (l.drop 20).take (bdn l)
def rst (l : List Int) : List Int := (l.drop 20).drop (bdn l)
/-- Why these bytes do not begin with an advertisement; 0 if they do. -/
def dcE (l : List Int) : Int := if rdE l ≠ 0 then rdE l else if (l.length : Int) < (rdp l).n then 2 else if whl (rdp l) (bdy l) = true then 0 else 4
theorem dcE_ok {l : List Int} (h : dcE l = 0) : rdE l = 0 ∧ (rdp l).n ≤ (l.length : Int) ∧ whl (rdp l) (bdy l) = true := by
  unfold dcE at h
  split at h
  · rename_i h1; exact absurd h h1
  rename_i h1
  split at h
  · omega
  rename_i h2
  split at h
  · rename_i h3; exact ⟨Classical.not_not.1 h1, by omega, h3⟩
  · omega
set_option maxRecDepth 100000 in
set_option maxHeartbeats 4000000 in
theorem decode_bad (A : Option Addr) (n c : Nat) (l : List Int) (w : World) (hn : l.length = n) (hb : Bt w A l) (hy : Byt l) (hc : n ≤ c) (hl : n ≤ 4000) (hE : dcE l ≠ 0) :
    Calls Try.prog 54 #[.slice A n c] w fun e w' => e = .returned (.tuple #[.agg #[.int .i64 0, .int .i64 0, .int .i64 0, .int .u32 0, .int .u32 0, .int .u32 0, .int .i64 0, .int .i64 0, .slice none 0 0], .slice none 0 0, .int .i64 (dcE l)]) ∧ Below w.heap.size w w' := by
  obtain ⟨W0, hW0⟩ : ∃ V, w.alloc (.cells #[Value.int .i64 0, .int .i64 0, .int .i64 0, .int .u32 0, .int .u32 0, .int .u32 0, .int .i64 0, .int .i64 0, .slice none 0 0] 87) = V := ⟨_, rfl⟩
  have bW0 : Below w.heap.size w W0 := by rw [← hW0]; exact below_alloc1 _ _
  have sW0 : W0.heap.size = w.heap.size + 1 := by rw [← hW0]; simp
  have KZ : Hid (∀ V, Below W0.heap.size W0 V → V.heap[w.heap.size]? = some (.cells #[Value.int .i64 0, .int .i64 0, .int .i64 0, .int .u32 0, .int .u32 0, .int .u32 0, .int .i64 0, .int .i64 0, .slice none 0 0] 87)) :=
    Lib.hid (fun V hV => by rw [hV.block _ (by omega), ← hW0]; exact alloc_at _ _ _ (by omega))
  have HB : Hid (Below w.heap.size w W0) := Lib.hid bW0
  have CR := readhead_any A n c l W0 hn (hb.step bW0) hy hc (by omega)
  clear hb bW0 hc
  by_cases e0 : rdE l = 0
  case neg =>
    have hD : dcE l = rdE l := by rw [dcE, if_pos e0]
    have hP : rdp l = zhd := by rw [rdp, if_neg e0]
    have hR : rdr l = [] := by rw [rdr, if_neg e0]
    rw [hP, hR] at CR
    rw [hD] at hE
    obtain ⟨E, hEE⟩ : ∃ E, rdE l = E := ⟨_, rfl⟩
    rw [hEE] at CR hD e0
    have CR2 : Calls Try.prog 63 #[.slice A n c] W0 fun e w' => ∃ A' c', e = .returned (.tuple #[.agg #[.int .i64 0, .int .i64 0, .int .i64 0, .int .u32 0, .int .u32 0, .int .u32 0, .int .i64 0, .int .i64 0], .slice A' 0 c', .int .i64 E]) ∧ Own .u8 5 w' W0.heap.size A' c' [] ∧ Below W0.heap.size W0 w' := CR
    have d1 : (E == 0) = false := by simpa using e0
    have d2 : (E != 0) = true := by simp [bne, d1]
    have HD := Lib.hid hD
    clear e0 hD hE hEE CR hP hR
    go_enter Try.func54, Try.ntmps54
    go_wp2_with fail
    refine CR2.mono ?_
    rintro e Y1 ⟨A1, c1, rfl, -, u1⟩
    obtain ⟨X1, hX1⟩ : ∃ V, Y1.alloc (.cells #[Value.int .i64 0, .int .i64 0, .int .i64 0, .int .u32 0, .int .u32 0, .int .u32 0, .int .i64 0, .int .i64 0] 85) = V := ⟨_, rfl⟩
    have v1 : Below Y1.heap.size Y1 X1 := by rw [← hX1]; exact below_alloc1 _ _
    have t1 : Below W0.heap.size W0 X1 := u1.trans (v1.mono u1.size)
    have z1 := KZ.out _ t1
    obtain ⟨a0, a1, a2, a3, a4, a5, a6, a7, a8, f0, f1, f2, f3, f4, f5, f6, f7, f8, hzl⟩ := kz9_at z1
    have KR := Lib.hid <| kz9_get z1 (Value.int .i64 0) (.int .i64 0) (.int .i64 0) (.int .u32 0) (.int .u32 0) (.int .u32 0) (.int .i64 0) (.int .i64 0) (.slice none 0 0)
    have TF := Lib.hid <| below_st9 (HB.out.trans (t1.mono HB.out.size)) (Nat.le_refl _) (Value.int .i64 0) (.int .i64 0) (.int .i64 0) (.int .u32 0) (.int .u32 0) (.int .u32 0) (.int .i64 0) (.int .i64 0) (.slice none 0 0)
    clear z1 KZ
    clear t1 v1 CR2 u1 
    subst hX1
    go_wp2
    obtain ⟨r0, r1, r2, r3, r4, r5, r6, r7, r8⟩ := KR.out
    refine bodyPost_ret (v := .tuple #[.agg #[.int .i64 0, .int .i64 0, .int .i64 0, .int .u32 0, .int .u32 0, .int .u32 0, .int .i64 0, .int .i64 0, .slice none 0 0], .slice none 0 0, .int .i64 E]) (by simp [results, Try.results54, go_sem, r0, r1, r2, r3, r4, r5, r6, r7, r8]) rfl ⟨?_, TF.out⟩
    rw [HD.out]
  obtain ⟨h20, hP, hR, hM⟩ := rdE_ok e0
  have okh : Okd (rdp l) := by rw [hP]; exact rdf_ok (hy.take 20) (by simp; omega)
  rw [e0, hR] at CR
  rw [← hP] at hM
  have lR : (l.drop 20).length = n - 20 := by simp; omega
  rw [lR] at CR
  have yR := hy.drop 20
  obtain ⟨m, hm⟩ : ∃ m : Nat, (rdp l).n = 20 + (m : Int) := ⟨((rdp l).n - 20).toNat, by have := ((mayd_iff _).1 hM).2.2.2.2.2; omega⟩
  have hm2 : m ≤ 1380 := by have := ((mayd_iff _).1 hM).2.2.2.2.2; omega
  have hbn : bdn l = m := by rw [bdn, hm]; omega
  have hB : bdy l = (l.drop 20).take m := by rw [bdy, hbn]
  have hS : rst l = (l.drop 20).drop m := by rw [rst, hbn]
  have hD : dcE l = if (l.length : Int) < 20 + (m : Int) then 2 else if whl (rdp l) ((l.drop 20).take m) = true then 0 else 4 := by
    rw [dcE, if_neg (by rw [e0]; decide), hm, hB]
  rw [hn] at hD
  obtain ⟨h, hh⟩ : ∃ h, rdp l = h := ⟨_, rfl⟩
  rw [hh] at CR hM hm okh hD
  skip
  obtain ⟨LR, hLR⟩ : ∃ LR, l.drop 20 = LR := ⟨_, rfl⟩
  rw [hLR] at CR lR yR hD
  have hw : wrap64 (h.n - 20) = h.n - 20 := by unfold wrap64; omega
  have hw2 : IntKind.i64.wrap (h.n - 20) = h.n - 20 := by rw [hm]; exact wrap_i64 (by omega) (by omega)
  have hnm : h.n - 20 = (m : Int) := by omega
  rw [hn] at h20
  clear hP hR hB hS hbn hLR hy e0 hn hh
  by_cases hs : (n : Int) < 20 + (m : Int)
  · have hD2 : dcE l = 2 := by rw [hD, if_pos hs]
    have HD := Lib.hid hD2
    have x1 : cutE LR (m : Int) = 2 := by rw [cutE, if_neg (by omega), if_pos (by rw [lR]; omega)]
    have x2 : cutL LR (m : Int) = [] := by simp [cutL, x1]
    have x3 : cutF LR (m : Int) = [] := by simp [cutF, x1]
    have CC : ∀ V A' c', Bt V A' LR → n - 20 ≤ c' → Calls Try.prog 74 #[.slice A' (n - 20) c', .int .i64 (h.n - 20)] V fun e w' => ∃ A1 c1 A2 c2, e = .returned (.tuple #[.slice A1 0 c1, .slice A2 0 c2, .int .i64 2]) ∧ Below V.heap.size V w' := fun V A' c' hV hc' => by
      have q := cut_any A' c' LR V.heap.size (m : Int) V hV (by omega) (Nat.le_refl _) (by omega)
      rw [x1, x2, x3, lR] at q
      rw [hnm]
      exact q.mono fun e w' ⟨A1, c1, A2, c2, h1, _, _, h2⟩ => ⟨A1, c1, A2, c2, h1, h2⟩
    clear hD hD2 x1 x2 x3 hE okh hM hm yR hs hnm hm2
    go_enter Try.func54, Try.ntmps54
    go_wp2_with fail
    refine CR.mono ?_
    rintro e Y1 ⟨A1, c1, rfl, o1, u1⟩
    obtain ⟨X1, hX1⟩ : ∃ V, Y1.alloc (.cells #[.int .i64 h.a, .int .i64 h.o, .int .i64 h.t, .int .u32 h.i, .int .u32 h.v, .int .u32 h.q, .int .i64 h.s, .int .i64 h.n] 85) = V := ⟨_, rfl⟩
    have v1 : Below Y1.heap.size Y1 X1 := by rw [← hX1]; exact below_alloc1 _ _
    have t1 : Below W0.heap.size W0 X1 := u1.trans (v1.mono u1.size)
    have g1 : At X1 Y1.heap.size (.cells #[.int .i64 h.a, .int .i64 h.o, .int .i64 h.t, .int .u32 h.i, .int .u32 h.v, .int .u32 h.q, .int .i64 h.s, .int .i64 h.n] 85) := At.mk hX1
    obtain ⟨y0, y1, y2, y3, y4, y5, y6, y7, p0, p1, p2, p3, p4, p5, p6, p7, hkl⟩ := kz8_at g1
    have C2 := CC X1 A1 c1 (Bs.step o1.bs v1) (by have := o1.cap_le; omega)
    clear g1 o1 CC CR v1 u1
    go_wp2_with fail
    refine C2.mono ?_
    rintro e Y2 ⟨A2, c2, A3, c3, rfl, u2⟩
    have t2 : Below W0.heap.size W0 Y2 := t1.trans (u2.mono t1.size)
    clear C2 hX1 y0 y1 y2 y3 y4 y5 y6 y7 p0 p1 p2 p3 p4 p5 p6 p7 hkl
    have z1 := KZ.out _ t2
    obtain ⟨a0, a1, a2, a3, a4, a5, a6, a7, a8, f0, f1, f2, f3, f4, f5, f6, f7, f8, hzl⟩ := kz9_at z1
    have KR := Lib.hid <| kz9_get z1 (Value.int .i64 0) (.int .i64 0) (.int .i64 0) (.int .u32 0) (.int .u32 0) (.int .u32 0) (.int .i64 0) (.int .i64 0) (.slice none 0 0)
    have TF := Lib.hid <| below_st9 (HB.out.trans (t2.mono HB.out.size)) (Nat.le_refl _) (Value.int .i64 0) (.int .i64 0) (.int .i64 0) (.int .u32 0) (.int .u32 0) (.int .u32 0) (.int .i64 0) (.int .i64 0) (.slice none 0 0)
    clear z1 KZ
    go_wp2
    obtain ⟨r0, r1, r2, r3, r4, r5, r6, r7, r8⟩ := KR.out
    refine bodyPost_ret (v := .tuple #[.agg #[.int .i64 0, .int .i64 0, .int .i64 0, .int .u32 0, .int .u32 0, .int .u32 0, .int .i64 0, .int .i64 0, .slice none 0 0], .slice none 0 0, .int .i64 2]) (by simp [results, Try.results54, go_sem, r0, r1, r2, r3, r4, r5, r6, r7, r8]) rfl ⟨?_, TF.out⟩
    rw [HD.out]
  have hs2 : ¬ whl h (LR.take m) = true := fun q => hE (by rw [hD, if_neg hs, if_pos q])
  have hD2 : dcE l = 4 := by rw [hD, if_neg hs, if_neg hs2]
  have HD := Lib.hid hD2
  have hwf : whl h (LR.take m) = false := by simpa using hs2
  clear hD hD2 hs2
  have x1 : cutE LR (m : Int) = 0 := by rw [cutE, if_neg (by omega), if_neg (by rw [lR]; omega)]
  have x2 : cutL LR (m : Int) = LR.drop m := by simp [cutL, x1]
  have x3 : cutF LR (m : Int) = LR.take m := by simp [cutF, x1]
  have l2 : (LR.take m).length = m := by simp; omega
  have l3 : (LR.drop m).length = n - 20 - m := by simp; omega
  have CC : ∀ V A' c', Bt V A' LR → n - 20 ≤ c' → Calls Try.prog 74 #[.slice A' (n - 20) c', .int .i64 (h.n - 20)] V fun e w' => ∃ A1 c1 A2 c2, e = .returned (.tuple #[.slice A1 m c1, .slice A2 (n - 20 - m) c2, .int .i64 0]) ∧ Own .u8 5 w' V.heap.size A1 c1 (LR.take m) ∧ Own .u8 5 w' V.heap.size A2 c2 (LR.drop m) ∧ Below V.heap.size V w' := fun V A' c' hV hc' => by
    have q := cut_any A' c' LR V.heap.size (m : Int) V hV (by omega) (Nat.le_refl _) (by omega)
    rw [x1, x2, x3, lR, l2, l3] at q
    rw [hnm]
    exact q
  have yB := yR.take m
  obtain ⟨BB, hBB⟩ : ∃ BB, LR.take m = BB := ⟨_, rfl⟩
  rw [hBB] at CC l2 hwf yB
  have CW : ∀ V A' c', Bt V A' BB → Calls Try.prog 50 #[.agg #[.int .i64 h.a, .int .i64 h.o, .int .i64 h.t, .int .u32 h.i, .int .u32 h.v, .int .u32 h.q, .int .i64 h.s, .int .i64 h.n, .slice A' m c']] V fun e w' => e = .returned (.bool false) ∧ Below V.heap.size V w' := fun V A' c' hV => by
    have q := whole_any h A' m c' BB V l2 okh hV yB (by omega)
    rw [hwf] at q
    exact q
  clear x1 x2 x3 okh hM hm yR hs l2 l3 yB hBB hwf hnm hm2
  go_enter Try.func54, Try.ntmps54
  go_wp2_with fail
  refine CR.mono ?_
  rintro e Y1 ⟨A1, c1, rfl, o1, u1⟩
  obtain ⟨X1, hX1⟩ : ∃ V, Y1.alloc (.cells #[.int .i64 h.a, .int .i64 h.o, .int .i64 h.t, .int .u32 h.i, .int .u32 h.v, .int .u32 h.q, .int .i64 h.s, .int .i64 h.n] 85) = V := ⟨_, rfl⟩
  have v1 : Below Y1.heap.size Y1 X1 := by rw [← hX1]; exact below_alloc1 _ _
  have t1 : Below W0.heap.size W0 X1 := u1.trans (v1.mono u1.size)
  have g1 : At X1 Y1.heap.size (.cells #[.int .i64 h.a, .int .i64 h.o, .int .i64 h.t, .int .u32 h.i, .int .u32 h.v, .int .u32 h.q, .int .i64 h.s, .int .i64 h.n] 85) := At.mk hX1
  obtain ⟨y0, y1, y2, y3, y4, y5, y6, y7, p0, p1, p2, p3, p4, p5, p6, p7, hkl⟩ := kz8_at g1
  have C2 := CC X1 A1 c1 (Bs.step o1.bs v1) (by have := o1.cap_le; omega)
  clear o1 CC CR v1 u1
  go_wp2_with fail
  refine C2.mono ?_
  rintro e Y2 ⟨A2, c2, A3, c3, rfl, o2, o3, u2⟩
  have t2 : Below W0.heap.size W0 Y2 := t1.trans (u2.mono t1.size)
  clear C2 hX1 y0 y1 y2 y3 y4 y5 y6 y7 p0 p1 p2 p3 p4 p5 p6 p7 hkl
  obtain ⟨y0, y1, y2, y3, y4, y5, y6, y7, p0, p1, p2, p3, p4, p5, p6, p7, hkl⟩ := kz8_at (g1.step u2)
  obtain ⟨X3, hX3⟩ : ∃ V, Y2.alloc (.cells #[.int .i64 h.a, .int .i64 h.o, .int .i64 h.t, .int .u32 h.i, .int .u32 h.v, .int .u32 h.q, .int .i64 h.s, .int .i64 h.n, .slice A2 m c2] 87) = V := ⟨_, rfl⟩
  have v3 : Below Y2.heap.size Y2 X3 := by rw [← hX3]; exact below_alloc1 _ _
  have t3 : Below W0.heap.size W0 X3 := t2.trans (v3.mono t2.size)
  have g3 : At X3 Y2.heap.size (.cells #[.int .i64 h.a, .int .i64 h.o, .int .i64 h.t, .int .u32 h.i, .int .u32 h.v, .int .u32 h.q, .int .i64 h.s, .int .i64 h.n, .slice A2 m c2] 87) := At.mk hX3
  have C3 := CW X3 A2 c2 (Bs.step o2.bs v3)
  obtain ⟨b0, b1, b2, b3, b4, b5, b6, b7, b8, d0, d1, d2, d3, d4, d5, d6, d7, d8, hkl3⟩ := kz9_at g3
  have s1 := t1.size
  have O2 := Lib.hid (o2.step v3)
  have O3 := Lib.hid (o3.step v3)
  have S1 := Lib.hid s1
  clear CW g1 o2 o3 u2 t2 t1 v3 s1
  go_wp2_with fail
  refine C3.mono ?_
  rintro e Y4 ⟨rfl, u4⟩
  have t4 : Below W0.heap.size W0 Y4 := t3.trans (u4.mono t3.size)
  clear C3 hX3 y0 y1 y2 y3 y4 y5 y6 y7 p0 p1 p2 p3 p4 p5 p6 p7 hkl b0 b1 b2 b3 b4 b5 b6 b7 b8 d0 d1 d2 d3 d4 d5 d6 d7 d8 hkl3
  have z1 := KZ.out _ t4
  obtain ⟨a0, a1, a2, a3, a4, a5, a6, a7, a8, f0, f1, f2, f3, f4, f5, f6, f7, f8, hzl⟩ := kz9_at z1
  have KR := Lib.hid <| kz9_get z1 (Value.int .i64 0) (.int .i64 0) (.int .i64 0) (.int .u32 0) (.int .u32 0) (.int .u32 0) (.int .i64 0) (.int .i64 0) (.slice none 0 0)
  have TF := Lib.hid <| below_st9 (HB.out.trans (t4.mono HB.out.size)) (Nat.le_refl _) (Value.int .i64 0) (.int .i64 0) (.int .i64 0) (.int .u32 0) (.int .u32 0) (.int .u32 0) (.int .i64 0) (.int .i64 0) (.slice none 0 0)
  clear z1 KZ
  go_wp2
  obtain ⟨r0, r1, r2, r3, r4, r5, r6, r7, r8⟩ := KR.out
  refine bodyPost_ret (v := .tuple #[.agg #[.int .i64 0, .int .i64 0, .int .i64 0, .int .u32 0, .int .u32 0, .int .u32 0, .int .i64 0, .int .i64 0, .slice none 0 0], .slice none 0 0, .int .i64 4]) (by simp [results, Try.results54, go_sem, r0, r1, r2, r3, r4, r5, r6, r7, r8]) rfl ⟨?_, TF.out⟩
  rw [HD.out]
set_option maxRecDepth 100000 in
set_option maxHeartbeats 4000000 in
theorem decode_ok (A : Option Addr) (n c : Nat) (l : List Int) (w : World) (hn : l.length = n) (hb : Bt w A l) (hy : Byt l) (hc : n ≤ c) (hl : n ≤ 4000) (hE : dcE l = 0) :
    Calls Try.prog 54 #[.slice A n c] w fun e w' => ∃ A1 c1 A2 c2, e = .returned (.tuple #[.agg #[.int .i64 (rdp l).a, .int .i64 (rdp l).o, .int .i64 (rdp l).t, .int .u32 (rdp l).i, .int .u32 (rdp l).v, .int .u32 (rdp l).q, .int .i64 (rdp l).s, .int .i64 (rdp l).n, .slice A1 (bdn l) c1], .slice A2 (n - 20 - bdn l) c2, .int .i64 0]) ∧ Own .u8 5 w' w.heap.size A1 c1 (bdy l) ∧ Own .u8 5 w' w.heap.size A2 c2 (rst l) ∧ Below w.heap.size w w' := by
  obtain ⟨W0, hW0⟩ : ∃ V, w.alloc (.cells #[Value.int .i64 0, .int .i64 0, .int .i64 0, .int .u32 0, .int .u32 0, .int .u32 0, .int .i64 0, .int .i64 0, .slice none 0 0] 87) = V := ⟨_, rfl⟩
  have bW0 : Below w.heap.size w W0 := by rw [← hW0]; exact below_alloc1 _ _
  have sW0 : W0.heap.size = w.heap.size + 1 := by rw [← hW0]; simp
  have KZ : Hid (∀ V, Below W0.heap.size W0 V → V.heap[w.heap.size]? = some (.cells #[Value.int .i64 0, .int .i64 0, .int .i64 0, .int .u32 0, .int .u32 0, .int .u32 0, .int .i64 0, .int .i64 0, .slice none 0 0] 87)) :=
    Lib.hid (fun V hV => by rw [hV.block _ (by omega), ← hW0]; exact alloc_at _ _ _ (by omega))
  have HB : Hid (Below w.heap.size w W0) := Lib.hid bW0
  have CR := readhead_any A n c l W0 hn (hb.step bW0) hy hc (by omega)
  clear hb bW0 hc
  obtain ⟨e0, e1, e2⟩ := dcE_ok hE
  clear hE
  obtain ⟨h20, hP, hR, hM⟩ := rdE_ok e0
  have okh : Okd (rdp l) := by rw [hP]; exact rdf_ok (hy.take 20) (by simp; omega)
  rw [e0, hR] at CR
  rw [← hP] at hM
  have lR : (l.drop 20).length = n - 20 := by simp; omega
  rw [lR] at CR
  have yR := hy.drop 20
  obtain ⟨m, hm⟩ : ∃ m : Nat, (rdp l).n = 20 + (m : Int) := ⟨((rdp l).n - 20).toNat, by have := ((mayd_iff _).1 hM).2.2.2.2.2; omega⟩
  have hm2 : m ≤ 1380 := by have := ((mayd_iff _).1 hM).2.2.2.2.2; omega
  have hbn : bdn l = m := by rw [bdn, hm]; omega
  have hB : bdy l = (l.drop 20).take m := by rw [bdy, hbn]
  have hS : rst l = (l.drop 20).drop m := by rw [rst, hbn]
  rw [hm, hn] at e1
  rw [hB] at e2
  obtain ⟨h, hh⟩ : ∃ h, rdp l = h := ⟨_, rfl⟩
  rw [hh] at CR hM hm okh e2 ⊢
  rw [hbn, hB, hS]
  obtain ⟨LR, hLR⟩ : ∃ LR, l.drop 20 = LR := ⟨_, rfl⟩
  rw [hLR] at CR lR yR e2 ⊢
  have hw : wrap64 (h.n - 20) = h.n - 20 := by unfold wrap64; omega
  have hw2 : IntKind.i64.wrap (h.n - 20) = h.n - 20 := by rw [hm]; exact wrap_i64 (by omega) (by omega)
  have hnm : h.n - 20 = (m : Int) := by omega
  rw [hn] at h20
  clear hP hR hB hS hbn hLR hy e0 hn hh
  have hs : ¬ ((n : Int) < 20 + (m : Int)) := by omega
  have hwf : whl h (LR.take m) = true := e2
  clear e1 e2
  have x1 : cutE LR (m : Int) = 0 := by rw [cutE, if_neg (by omega), if_neg (by rw [lR]; omega)]
  have x2 : cutL LR (m : Int) = LR.drop m := by simp [cutL, x1]
  have x3 : cutF LR (m : Int) = LR.take m := by simp [cutF, x1]
  have l2 : (LR.take m).length = m := by simp; omega
  have l3 : (LR.drop m).length = n - 20 - m := by simp; omega
  have CC : ∀ V A' c', Bt V A' LR → n - 20 ≤ c' → Calls Try.prog 74 #[.slice A' (n - 20) c', .int .i64 (h.n - 20)] V fun e w' => ∃ A1 c1 A2 c2, e = .returned (.tuple #[.slice A1 m c1, .slice A2 (n - 20 - m) c2, .int .i64 0]) ∧ Own .u8 5 w' V.heap.size A1 c1 (LR.take m) ∧ Own .u8 5 w' V.heap.size A2 c2 (LR.drop m) ∧ Below V.heap.size V w' := fun V A' c' hV hc' => by
    have q := cut_any A' c' LR V.heap.size (m : Int) V hV (by omega) (Nat.le_refl _) (by omega)
    rw [x1, x2, x3, lR, l2, l3] at q
    rw [hnm]
    exact q
  have yB := yR.take m
  obtain ⟨BB, hBB⟩ : ∃ BB, LR.take m = BB := ⟨_, rfl⟩
  rw [hBB] at CC l2 hwf yB ⊢
  have CW : ∀ V A' c', Bt V A' BB → Calls Try.prog 50 #[.agg #[.int .i64 h.a, .int .i64 h.o, .int .i64 h.t, .int .u32 h.i, .int .u32 h.v, .int .u32 h.q, .int .i64 h.s, .int .i64 h.n, .slice A' m c']] V fun e w' => e = .returned (.bool true) ∧ Below V.heap.size V w' := fun V A' c' hV => by
    have q := whole_any h A' m c' BB V l2 okh hV yB (by omega)
    rw [hwf] at q
    exact q
  clear x1 x2 x3 okh hM hm yR hs l2 l3 yB hBB hwf hnm hm2
  go_enter Try.func54, Try.ntmps54
  go_wp2_with fail
  refine CR.mono ?_
  rintro e Y1 ⟨A1, c1, rfl, o1, u1⟩
  obtain ⟨X1, hX1⟩ : ∃ V, Y1.alloc (.cells #[.int .i64 h.a, .int .i64 h.o, .int .i64 h.t, .int .u32 h.i, .int .u32 h.v, .int .u32 h.q, .int .i64 h.s, .int .i64 h.n] 85) = V := ⟨_, rfl⟩
  have v1 : Below Y1.heap.size Y1 X1 := by rw [← hX1]; exact below_alloc1 _ _
  have t1 : Below W0.heap.size W0 X1 := u1.trans (v1.mono u1.size)
  have g1 : At X1 Y1.heap.size (.cells #[.int .i64 h.a, .int .i64 h.o, .int .i64 h.t, .int .u32 h.i, .int .u32 h.v, .int .u32 h.q, .int .i64 h.s, .int .i64 h.n] 85) := At.mk hX1
  obtain ⟨y0, y1, y2, y3, y4, y5, y6, y7, p0, p1, p2, p3, p4, p5, p6, p7, hkl⟩ := kz8_at g1
  have C2 := CC X1 A1 c1 (Bs.step o1.bs v1) (by have := o1.cap_le; omega)
  clear o1 CC CR v1 u1
  go_wp2_with fail
  refine C2.mono ?_
  rintro e Y2 ⟨A2, c2, A3, c3, rfl, o2, o3, u2⟩
  have t2 : Below W0.heap.size W0 Y2 := t1.trans (u2.mono t1.size)
  clear C2 hX1 y0 y1 y2 y3 y4 y5 y6 y7 p0 p1 p2 p3 p4 p5 p6 p7 hkl
  obtain ⟨y0, y1, y2, y3, y4, y5, y6, y7, p0, p1, p2, p3, p4, p5, p6, p7, hkl⟩ := kz8_at (g1.step u2)
  obtain ⟨X3, hX3⟩ : ∃ V, Y2.alloc (.cells #[.int .i64 h.a, .int .i64 h.o, .int .i64 h.t, .int .u32 h.i, .int .u32 h.v, .int .u32 h.q, .int .i64 h.s, .int .i64 h.n, .slice A2 m c2] 87) = V := ⟨_, rfl⟩
  have v3 : Below Y2.heap.size Y2 X3 := by rw [← hX3]; exact below_alloc1 _ _
  have t3 : Below W0.heap.size W0 X3 := t2.trans (v3.mono t2.size)
  have g3 : At X3 Y2.heap.size (.cells #[.int .i64 h.a, .int .i64 h.o, .int .i64 h.t, .int .u32 h.i, .int .u32 h.v, .int .u32 h.q, .int .i64 h.s, .int .i64 h.n, .slice A2 m c2] 87) := At.mk hX3
  have C3 := CW X3 A2 c2 (Bs.step o2.bs v3)
  obtain ⟨b0, b1, b2, b3, b4, b5, b6, b7, b8, d0, d1, d2, d3, d4, d5, d6, d7, d8, hkl3⟩ := kz9_at g3
  have s1 := t1.size
  have O2 := Lib.hid (o2.step v3)
  have O3 := Lib.hid (o3.step v3)
  have S1 := Lib.hid s1
  clear CW g1 o2 o3 u2 t2 t1 v3 s1
  go_wp2_with fail
  refine C3.mono ?_
  rintro e Y4 ⟨rfl, u4⟩
  have t4 : Below W0.heap.size W0 Y4 := t3.trans (u4.mono t3.size)
  clear C3 hX3 y0 y1 y2 y3 y4 y5 y6 y7 p0 p1 p2 p3 p4 p5 p6 p7 hkl b0 b1 b2 b3 b4 b5 b6 b7 b8 d0 d1 d2 d3 d4 d5 d6 d7 d8 hkl3
  obtain ⟨b0, b1, b2, b3, b4, b5, b6, b7, b8, d0, d1, d2, d3, d4, d5, d6, d7, d8, hkl3⟩ := kz9_at (g3.step u4)
  have z1 := KZ.out _ t4
  obtain ⟨a0, a1, a2, a3, a4, a5, a6, a7, a8, f0, f1, f2, f3, f4, f5, f6, f7, f8, hzl⟩ := kz9_at z1
  have hs0 : w.heap.size < W0.heap.size := lt_of_block (KZ.out _ (Below.refl _ _))
  have KR := Lib.hid <| kz9_get z1 (Value.int .i64 h.a) (.int .i64 h.o) (.int .i64 h.t) (.int .u32 h.i) (.int .u32 h.v) (.int .u32 h.q) (.int .i64 h.s) (.int .i64 h.n) (.slice A2 m c2)
  have TF := Lib.hid <| below_st9 (HB.out.trans (t4.mono HB.out.size)) (Nat.le_refl _) (Value.int .i64 h.a) (.int .i64 h.o) (.int .i64 h.t) (.int .u32 h.i) (.int .u32 h.v) (.int .u32 h.q) (.int .i64 h.s) (.int .i64 h.n) (.slice A2 m c2)
  have OF2 := Lib.hid <| ((O2.out.step u4).far9 (b := w.heap.size) (by have := S1.out; omega) (Value.int .i64 h.a) (.int .i64 h.o) (.int .i64 h.t) (.int .u32 h.i) (.int .u32 h.v) (.int .u32 h.q) (.int .i64 h.s) (.int .i64 h.n) (.slice A2 m c2)).lower (base' := w.heap.size) (by have := S1.out; omega)
  have OF3 := Lib.hid <| ((O3.out.step u4).far9 (b := w.heap.size) (by have := S1.out; omega) (Value.int .i64 h.a) (.int .i64 h.o) (.int .i64 h.t) (.int .u32 h.i) (.int .u32 h.v) (.int .u32 h.q) (.int .i64 h.s) (.int .i64 h.n) (.slice A2 m c2)).lower (base' := w.heap.size) (by have := S1.out; omega)
  clear z1 KZ g3 t3 t4 u4 hs0
  go_wp2
  obtain ⟨r0, r1, r2, r3, r4, r5, r6, r7, r8⟩ := KR.out
  refine bodyPost_ret (v := .tuple #[.agg #[.int .i64 h.a, .int .i64 h.o, .int .i64 h.t, .int .u32 h.i, .int .u32 h.v, .int .u32 h.q, .int .i64 h.s, .int .i64 h.n, .slice A2 m c2], .slice A3 (n - 20 - m) c3, .int .i64 0]) (by simp [results, Try.results54, go_sem, r0, r1, r2, r3, r4, r5, r6, r7, r8]) rfl ⟨A2, c2, A3, c3, rfl, OF2.out, OF3.out, TF.out⟩
end Go.Proofs.Ytefbpaebimagaaa
