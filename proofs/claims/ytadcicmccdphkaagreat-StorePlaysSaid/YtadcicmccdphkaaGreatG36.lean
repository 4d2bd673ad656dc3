/-
  The live question; stores compared. Contracts of the reference's Heads and Keys. No statement is proved here; no conditions.
-/
import Derived.Test.YtadcicmccdphkaaGreatG27
import Derived.Test.YtadcicmccdphkaaGreatG04
namespace Go.Proofs.YtadcicmccdphkaaGreat
open Go.RowKit Go.Joins

theorem mk_own0 {P : Program} (w : World) (t e : TypeId) (k : IntKind) (i : TypeInfo) (ht : P.underlying t = some (.slice e)) (hi : P.info? e = some i) (hz : i.zero = some (.int k 0)) (hsize : i.size = 1)
  (kl kc : IntKind) (L C : Int) (n c : Nat) (hL : L = n) (hC : C = c) (hnc : n ≤ c) (hbytes : i.bytes * c ≤ 281474976710656) (h63 : c ≤ maxLen) :
  ∃ w1, (Instr.makeSlice t (.int kl L) (.int kc C)).run P w = .ok (.slice (some ⟨w.heap.size, 0, none⟩) n c) w1 ∧ Own k e w1 w.heap.size (some ⟨w.heap.size, 0, none⟩) c (List.replicate n 0) ∧ Below w.heap.size w w1 := by
 subst hL hC
 refine ⟨w.alloc (.cells ((List.replicate c (0 : Int)).map (Value.int k)).toArray e), ?_, ?_, (Below.refl _ _).alloc (Nat.le_refl _) _⟩
 ·exact run_mk w t e k i ht hi hz hsize kl kc n c hnc hbytes (by unfold maxLen at h63; omega)
 ·refine Own.of_form (Nat.le_refl _) (heap_alloc_new w _) (by simpa using hnc) h63 (by simp) ?_
  simp [List.take_replicate, Nat.min_eq_left hnc]

theorem own_cap {k : IntKind} {e : TypeId} {w : World} {base c : Nat} {A : Option Addr} {l : List Int} (h : Own k e w base A c l) : l.length ≤ c := by
 rcases h.form with ⟨_, h1, h2⟩ | ⟨_, _, _, _, _, _, h1, _⟩
 ·rw [h2]; simp
 ·exact h1
def lz (i : Int) : Hd := ⟨0, 0, 3, i, 0, 0, 0, 0⟩
def lzs (i x : Int) : Hd := ⟨0, 0, 3, i, 0, 0, x, 28⟩
theorem lz_ok (i : Int) (h0 : 0 ≤ i) (h1 : i < 4294967296) : Okd (lz i) := ⟨⟨h0, h1⟩, ⟨Int.le_refl 0, by show (0 : Int) < _; omega⟩, ⟨Int.le_refl 0, by show (0 : Int) < _; omega⟩⟩
theorem lzs_ok (i x : Int) (h0 : 0 ≤ i) (h1 : i < 4294967296) : Okd (lzs i x) := ⟨⟨h0, h1⟩, ⟨Int.le_refl 0, by show (0 : Int) < _; omega⟩, ⟨Int.le_refl 0, by show (0 : Int) < _; omega⟩⟩
theorem z8_byt : Byt [0, 0, 0, 0, 0, 0, 0, 0] := by intro x hx; simp at hx; subst hx; decide
theorem lz_seal (i x : Int) (h0 : 0 ≤ i) (h1 : i < 4294967296) (hx : sck (lz i) [0, 0, 0, 0, 0, 0, 0, 0] 8 = x) (V : World) (A : Option Addr) (c : Nat) (hb : Bt V A [0, 0, 0, 0, 0, 0, 0, 0]) : Calls Tryz.prog 44 #[.agg #[.int .i64 0, .int .i64 0, .int .i64 3, .int .u32 i, .int .u32 0, .int .u32 0, .int .i64 0, .int .i64 0, .slice A 8 c]] V fun e w' => ∃ A' c', e = .returned (.tuple #[.agg #[.int .i64 0, .int .i64 0, .int .i64 3, .int .u32 i, .int .u32 0, .int .u32 0, .int .i64 x, .int .i64 28, .slice A' 8 c'], .int .i64 0]) ∧ Own .u8 5 w' V.heap.size A' c' [0, 0, 0, 0, 0, 0, 0, 0] ∧ Below V.heap.size V w' := by
 have q := seal_ok (lz i) A 8 c [0, 0, 0, 0, 0, 0, 0, 0] V rfl (lz_ok i h0 h1) hb z8_byt (by omega) (by simp [mayd, sl, lz, win])
 rw [hx] at q
 exact q
theorem lz_whl (i x : Int) (hx : sck (lz i) [0, 0, 0, 0, 0, 0, 0, 0] 8 = x) : whl (lzs i x) [0, 0, 0, 0, 0, 0, 0, 0] = true := by
 rw [← hx]
 exact seal_whl (h := lz i) (l := [0, 0, 0, 0, 0, 0, 0, 0]) (n := 8) rfl (by simp [mayd, sl, lz, win])
theorem lz_rgt : rgt 3 [0, 0, 0, 0, 0, 0, 0, 0] = true := by kernel_rfl
theorem put_one (x : Int) (h : whl (lzs 1 x) [0, 0, 0, 0, 0, 0, 0, 0] = true) : putR 1 [] false (lzs 1 x, [0, 0, 0, 0, 0, 0, 0, 0]) = ⟨[(lzs 1 x, [0, 0, 0, 0, 0, 0, 0, 0])], false, 3, 0⟩ := by
 rw [putR, if_neg (by rw [h]; simp), if_neg (by show ¬ rgt 3 _ = false; rw [lz_rgt]; simp), if_neg (by simp), if_neg (by simp)]
 rfl
theorem put_two (x y : Int) (h : whl (lzs 2 y) [0, 0, 0, 0, 0, 0, 0, 0] = true) : putR 1 [(lzs 1 x, [0, 0, 0, 0, 0, 0, 0, 0])] false (lzs 2 y, [0, 0, 0, 0, 0, 0, 0, 0]) = ⟨[(lzs 1 x, [0, 0, 0, 0, 0, 0, 0, 0])], true, 0, 8⟩ := by
 have hp : plcC [(lzs 1 x, [0, 0, 0, 0, 0, 0, 0, 0])] (lzs 2 y) = 1 := by
  have : lessK (lzs 1 x) (lzs 2 y) = true := (lessK_iff _ _).2 (.inr ⟨rfl, .inl (by show (1 : Int) < 2; decide)⟩)
  simp [plcC, List.findIdx_cons, this]
 rw [putR, if_neg (by rw [h]; simp), if_neg (by show ¬ rgt 3 _ = false; rw [lz_rgt]; simp), if_neg (by rw [hp]; simp), if_pos (by simp)]
set_option maxRecDepth 100000 in
set_option maxHeartbeats 4000000 in
theorem alive_any (w : World) : Calls Tryz.prog 21 #[] w fun e w' => e = .returned (.bool true) ∧ Below w.heap.size w w' := by
 obtain ⟨i0, hi0, hz0, hz1, hz2⟩ := info_of info5
 obtain ⟨x, hx⟩ : ∃ x, sck (lz 1) [0, 0, 0, 0, 0, 0, 0, 0] 8 = x := ⟨_, rfl⟩
 obtain ⟨y, hy⟩ : ∃ y, sck (lz 2) [0, 0, 0, 0, 0, 0, 0, 0] 8 = y := ⟨_, rfl⟩
 have HWX := Lib.hid (lz_whl 1 x hx)
 have HWY := Lib.hid (lz_whl 2 y hy)
 have CN1 := fun V => snew_any 1 V
 have CN2 := fun V => snew_any 0 V
 simp only [show nwM 1 = 1 from rfl, show nwE 1 = 0 from rfl, show nwM 0 = 0 from rfl, show nwE 0 = 1 from rfl] at CN1 CN2
 go_enter Tryz.func21, Tryz.ntmps21
 go_wp2_with fail
 refine (CN1 _).mono ?_
 rintro e W1 ⟨rfl, t1⟩
 obtain ⟨kS, hkS⟩ : ∃ q, W1.heap.size = q := ⟨_, rfl⟩
 obtain ⟨W2, hW2⟩ : ∃ V, W1.alloc (.cells #[Value.int .i64 0, .slice none 0 0, .bool false] 28) = V := ⟨_, rfl⟩
 have u2 : Below W1.heap.size W1 W2 := by rw [← hW2]; exact below_alloc1 _ _
 have G2 : Bk W2 kS (.cells #[Value.int .i64 0, .slice none 0 0, .bool false] 28) := by rw [← hkS]; exact Bk.mk hW2
 obtain ⟨W3, hW3⟩ : ∃ V, ((W2.setCell ⟨kS, 0, none⟩ (.int .i64 1)).setCell ⟨kS, 1, none⟩ (.slice none 0 0)).setCell ⟨kS, 2, none⟩ (.bool false) = V := ⟨_, rfl⟩
 have GS3 : Bk W3 kS (.cells #[.int .i64 1, .slice none 0 0, .bool false] 28) := by rw [← hW3]; exact kz3_set G2 _ _ _
 have T3 : Below w.heap.size w W3 := by rw [← hW3]; exact below_st3 (t1.trans (u2.mono t1.size)) (by rw [← hkS]; exact t1.size) _ _ _
 have HK3 := Lib.hid (show w.heap.size ≤ kS by rw [← hkS]; exact t1.size)
 obtain ⟨y0, y1, y2, f0, f1, f2, hz3⟩ := kz3_at G2
 clear G2 u2 t1
 go_wp2_with fail
 refine (CN2 _).mono ?_
 rintro e W4 ⟨rfl, u4⟩
 have GS4 := GS3.step u4
 have T4 := T3.trans (u4.mono T3.size)
 clear GS3 T3 u4 y0 y1 y2 f0 f1 f2 hz3 CN1 CN2 hW3 hW2 hkS W3 W2 W1
 obtain ⟨k2, hk2⟩ : ∃ q, W4.heap.size = q := ⟨_, rfl⟩
 obtain ⟨W5, hW5⟩ : ∃ V, W4.alloc (.cells #[Value.int .i64 0, .slice none 0 0, .bool false] 28) = V := ⟨_, rfl⟩
 have u5 : Below W4.heap.size W4 W5 := by rw [← hW5]; exact below_alloc1 _ _
 have G5 : Bk W5 k2 (.cells #[Value.int .i64 0, .slice none 0 0, .bool false] 28) := by rw [← hk2]; exact Bk.mk hW5
 obtain ⟨W6, hW6⟩ : ∃ V, ((W5.setCell ⟨k2, 0, none⟩ (.int .i64 0)).setCell ⟨k2, 1, none⟩ (.slice none 0 0)).setCell ⟨k2, 2, none⟩ (.bool false) = V := ⟨_, rfl⟩
 have u6 : Below W4.heap.size W4 W6 := by rw [← hW6]; exact below_st3 u5 (by rw [← hk2]; exact Nat.le_refl _) _ _ _
 have GS6 := GS4.step u6
 have T6 := T4.trans (u6.mono T4.size)
 obtain ⟨y0, y1, y2, f0, f1, f2, hz3⟩ := kz3_at G5
 clear G5 u5 u6 GS4 T4
 obtain ⟨V7, hmk7, ho7, hb7⟩ := mk_own0 (P := Tryz.prog) W6 38 5 .u8 i0 Tryz.underlying38 hi0 hz0 hz1 .i64 .i64 8 8 8 8 rfl rfl (by omega) (by rw [hz2]; omega) (by unfold maxLen; omega)
 obtain ⟨n7, hn7⟩ : ∃ q, W6.heap.size = q := ⟨_, rfl⟩
 rw [hn7] at hmk7 ho7
 have CS7 := lz_seal 1 x (by decide) (by decide) hx V7 (some ⟨n7, 0, none⟩) 8 ho7.bs
 have TV7 : Below w.heap.size w V7 := T6.trans (hb7.mono T6.size)
 have GS7 := GS6.step hb7
 go_wp2_with fail
 refine CS7.mono ?_
 rintro e W8 ⟨A8, c8, rfl, o8, u8⟩
 have GS8 := GS7.step u8
 have T8 := TV7.trans (u8.mono TV7.size)
 clear y0 y1 y2 f0 f1 f2 hz3 CS7 hmk7 ho7 hb7 hn7 GS6 T6 GS7 TV7 u8 hW6 hW5 hk2
 obtain ⟨k9, hk9⟩ : ∃ q, W8.heap.size = q := ⟨_, rfl⟩
 obtain ⟨W9, hW9⟩ : ∃ V, W8.alloc (.cells #[Value.int .i64 0, .int .i64 0, .int .i64 3, .int .u32 1, .int .u32 0, .int .u32 0, .int .i64 x, .int .i64 28, .slice A8 8 c8] 40) = V := ⟨_, rfl⟩
 have u9 : Below W8.heap.size W8 W9 := by rw [← hW9]; exact below_alloc1 _ _
 have GA9 : Bk W9 k9 (.cells #[Value.int .i64 0, .int .i64 0, .int .i64 3, .int .u32 1, .int .u32 0, .int .u32 0, .int .i64 x, .int .i64 28, .slice A8 8 c8] 40) := by rw [← hk9]; exact Bk.mk hW9
 have GS9 := GS8.step u9
 have T9 := T8.trans (u9.mono T8.size)
 have o9 := o8.bs.step u9
 have HC8 : Hid (8 ≤ c8) := Lib.hid (own_cap o8)
 clear u9 GS8 T8 o8
 obtain ⟨Va, hmka, hoa, hba⟩ := mk_own0 (P := Tryz.prog) W9 38 5 .u8 i0 Tryz.underlying38 hi0 hz0 hz1 .i64 .i64 8 8 8 8 rfl rfl (by omega) (by rw [hz2]; omega) (by unfold maxLen; omega)
 obtain ⟨na, hna⟩ : ∃ q, W9.heap.size = q := ⟨_, rfl⟩
 rw [hna] at hmka hoa
 have CSa := lz_seal 2 y (by decide) (by decide) hy Va (some ⟨na, 0, none⟩) 8 hoa.bs
 have TVa : Below w.heap.size w Va := T9.trans (hba.mono T9.size)
 have GSa := GS9.step hba
 have GAa := GA9.step hba
 have oa := o9.step hba
 go_wp2_with fail
 refine CSa.mono ?_
 rintro e Wb ⟨Ab, cb, rfl, ob, ub⟩
 have GSb := GSa.step ub
 have GAb := GAa.step ub
 have o9b := oa.step ub
 have Tb := TVa.trans (ub.mono TVa.size)
 clear CSa hmka hoa hba hna GS9 GA9 T9 o9 GSa GAa TVa oa ub hW9 hk9
 obtain ⟨kc, hkc⟩ : ∃ q, Wb.heap.size = q := ⟨_, rfl⟩
 obtain ⟨Wc, hWc⟩ : ∃ V, Wb.alloc (.cells #[Value.int .i64 0, .int .i64 0, .int .i64 3, .int .u32 2, .int .u32 0, .int .u32 0, .int .i64 y, .int .i64 28, .slice Ab 8 cb] 40) = V := ⟨_, rfl⟩
 have uc : Below Wb.heap.size Wb Wc := by rw [← hWc]; exact below_alloc1 _ _
 have GBc : Bk Wc kc (.cells #[Value.int .i64 0, .int .i64 0, .int .i64 3, .int .u32 2, .int .u32 0, .int .u32 0, .int .i64 y, .int .i64 28, .slice Ab 8 cb] 40) := by rw [← hkc]; exact Bk.mk hWc
 have GSc := GSb.step uc
 have GAc := GAb.step uc
 have o9c := o9b.step uc
 have obc := ob.bs.step uc
 have HCB : Hid (8 ≤ cb) := Lib.hid (own_cap ob)
 have HBU : Hid (Bu Wc ⟨lzs 2 y, Ab, cb, [0, 0, 0, 0, 0, 0, 0, 0]⟩) := Lib.hid ((Bu.of_own (x := ⟨lzs 2 y, Ab, cb, [0, 0, 0, 0, 0, 0, 0, 0]⟩) ob).step uc)
 have Tc := Tb.trans (uc.mono Tb.size)
 clear uc GSb GAb o9b ob Tb
 have CP1 := sput_any (lzs 1 x) A8 8 c8 [0, 0, 0, 0, 0, 0, 0, 0] 1 none 0 0 false [] Wc rfl (Arr.nil _ _) (by omega) (fun x hx => by cases hx) (lzs_ok 1 x (by decide) (by decide)) z8_byt rfl (by omega) HC8.out o9c
 rw [show cons [] = [] from rfl, put_one x HWX.out] at CP1
 obtain ⟨s0, s1, s2, p0, p1, p2, hzs⟩ := kz3_at GSc
 obtain ⟨a0, a1, a2, a3, a4, a5, a6, a7, a8, -⟩ := kz9_at GAc
 go_wp2_with fail
 refine CP1.mono ?_
 rintro e Wd ⟨Ad, cd, nd, Ld, rfl, hnd, hcd, had, ud⟩
 obtain rfl : nd = 1 := by rw [← hnd, ← cons_length, hcd]; rfl
 have GSd := GSc.step ud
 have GBd := GBc.step ud
 have obd := obc.step ud
 have Td := Tc.trans (ud.mono Tc.size)
 clear s0 s1 s2 p0 p1 p2 hzs a0 a1 a2 a3 a4 a5 a6 a7 a8 CP1 GSc GAc GBc o9c obc Tc hWc hkc
 obtain ⟨We, hWe⟩ : ∃ V, ((Wd.setCell ⟨kS, 0, none⟩ (.int .i64 1)).setCell ⟨kS, 1, none⟩ (.slice Ad 1 cd)).setCell ⟨kS, 2, none⟩ (.bool false) = V := ⟨_, rfl⟩
 have GSe : Bk We kS (.cells #[.int .i64 1, .slice Ad 1 cd, .bool false] 28) := by rw [← hWe]; exact kz3_set GSd _ _ _
 have Te : Below w.heap.size w We := by rw [← hWe]; exact below_st3 Td HK3.out _ _ _
 have hkcS : kc ≠ kS := by
  rintro rfl
  have h1 : (some (Obj.cells _ _)) = some (Obj.cells _ _) := GBd.symm.trans GSd
  injection h1 with h1
  injection h1 with _ h2 _
  exact absurd h2 (by decide)
 have GBe : Bk We kc (.cells #[Value.int .i64 0, .int .i64 0, .int .i64 3, .int .u32 2, .int .u32 0, .int .u32 0, .int .i64 y, .int .i64 28, .slice Ab 8 cb] 40) := by rw [← hWe]; exact (far_st3 hkcS _ _ _).trans GBd
 have hae : Aro Wc.heap.size We Ad cd Ld := by
  rw [← hWe]
  exact ((had.set GSd (by decide) (by decide) _).set (i := 1) (Bk.set3 (i := 0) GSd) (by decide) (by decide) _).set (i := 2) (Bk.set3 (i := 1) (Bk.set3 (i := 0) GSd)) (by decide) (by decide) _
 have obe : Bt We (Ab) [0, 0, 0, 0, 0, 0, 0, 0] := by
  have bu : Bu Wd ⟨lzs 2 y, Ab, cb, [0, 0, 0, 0, 0, 0, 0, 0]⟩ := HBU.out.step ud
  rw [← hWe]
  exact (((bu.set GSd (by decide) _).set (i := 1) (Bk.set3 (i := 0) GSd) (by decide) _).set (i := 2) (Bk.set3 (i := 1) (Bk.set3 (i := 0) GSd)) (by decide) _).1
 have CP2 := sput_any (lzs 2 y) Ab 8 cb [0, 0, 0, 0, 0, 0, 0, 0] 1 Ad 1 cd false Ld We hnd hae.arr (by omega) (fun z hz => by rw [hcd] at hz; obtain rfl := List.mem_singleton.1 hz; exact ⟨⟨by show (0 : Int) ≤ 0; omega, by show (0 : Int) < 4294967296; omega⟩, ⟨by show (0 : Int) ≤ 0; omega, by show (0 : Int) ≤ 3600; omega⟩, by show 8 ≤ 1600; omega⟩) (lzs_ok 2 y (by decide) (by decide)) z8_byt rfl (by omega) HCB.out obe
 rw [hcd, put_two x y HWY.out] at CP2
 obtain ⟨s0, s1, s2, p0, p1, p2, hzs⟩ := kz3_at GSd
 obtain ⟨t0, t1, t2, -⟩ := kz3_at GSe
 obtain ⟨b0, b1, b2, b3, b4, b5, b6, b7, b8, -⟩ := kz9_at GBe
 clear GBd obd Td hnd hcd had hae obe ud
 go_wp2_with fail
 refine CP2.mono ?_
 rintro e Wf ⟨Af, cf, nf, Lf, rfl, hnf, hcf, -, uf⟩
 obtain rfl : nf = 1 := by rw [← hnf, ← cons_length, hcf]; rfl
 have GSf := GSe.step uf
 have Tf := Te.trans (uf.mono Te.size)
 clear s0 s1 s2 p0 p1 p2 hzs t0 t1 t2 b0 b1 b2 b3 b4 b5 b6 b7 b8 CP2 GSe GBe Te hWe GSd
 obtain ⟨Wg, hWg⟩ : ∃ V, ((Wf.setCell ⟨kS, 0, none⟩ (.int .i64 1)).setCell ⟨kS, 1, none⟩ (.slice Af 1 cf)).setCell ⟨kS, 2, none⟩ (.bool true) = V := ⟨_, rfl⟩
 have GSg : Bk Wg kS (.cells #[.int .i64 1, .slice Af 1 cf, .bool true] 28) := by rw [← hWg]; exact kz3_set GSf _ _ _
 have Tg := Lib.hid (show Below w.heap.size w Wg by rw [← hWg]; exact below_st3 Tf HK3.out _ _ _)
 obtain ⟨s0, s1, s2, p0, p1, p2, hzs⟩ := kz3_at GSf
 obtain ⟨t0, t1, t2, -⟩ := kz3_at GSg
 clear GSf Tf hnf hcf uf GSg
 go_wp2
 go_ret
 exact ⟨rfl, Tg.out⟩
set_option maxRecDepth 100000 in
theorem plain_any (m : Int) (A : Option Addr) (n c : Nat) (o : Bool) (w : World) : Calls Tryz.prog 24 #[.agg #[.int .i64 m, .slice A n c, .bool o]] w fun e w' => e = .returned (.agg #[.int .i64 m, .slice A n c, .bool o]) ∧ Below w.heap.size w w' := by
 obtain ⟨W0, hW0⟩ : ∃ V, w.alloc (.cells #[.int .i64 m, .slice A n c, .bool o] 28) = V := ⟨_, rfl⟩
 have bW0 : Below w.heap.size w W0 := by rw [← hW0]; exact below_alloc1 _ _
 have sW0 : W0.heap.size = w.heap.size + 1 := by rw [← hW0]; simp
 have KX : Hid (∀ V, Below W0.heap.size W0 V → V.cell? ⟨w.heap.size, 0, none⟩ = some (.int .i64 m) ∧ V.cell? ⟨w.heap.size, 1, none⟩ = some (.slice A n c) ∧ V.cell? ⟨w.heap.size, 2, none⟩ = some (.bool o)) := Lib.hid (fun V hV => kb3_new hW0 hV)
 obtain ⟨W1, hW1⟩ : ∃ V, W0.alloc (.cells #[Value.int .i64 0, .slice none 0 0, .bool false] 32) = V := ⟨_, rfl⟩
 have bW1 : Below W0.heap.size W0 W1 := by rw [← hW1]; exact below_alloc1 _ _
 obtain ⟨k0, k1, k2⟩ := KX.out _ bW1
 have G1 : Bk W1 (w.heap.size + 1) (.cells #[Value.int .i64 0, .slice none 0 0, .bool false] 32) := by have := Bk.mk hW1; rwa [sW0] at this
 obtain ⟨y0, y1, y2, f0, f1, f2, hlt⟩ := kz3_at G1
 have HG := Lib.hid G1
 have HF : Hid (Below w.heap.size w (st3 W1 (w.heap.size + 1) (Value.int .i64 m) (.slice A n c) (.bool o))) := Lib.hid (below_st3 (bW0.trans (bW1.mono bW0.size)) (by omega) _ _ _)
 clear KX G1 bW0 bW1
 go_enter Tryz.func24, Tryz.ntmps24
 go_wp2
 obtain ⟨r0, r1, r2⟩ := kz3_get HG.out (Value.int .i64 m) (.slice A n c) (.bool o)
 refine bodyPost_ret (v := .agg #[.int .i64 m, .slice A n c, .bool o]) (by simp [results, Tryz.results24, go_sem, r0, r1, r2]) rfl ⟨rfl, HF.out⟩
set_option maxRecDepth 100000 in
theorem rsame_any (m : Int) (A A' : Option Addr) (n c c' : Nat) (o : Bool) (L L' : List Ae) (w : World) (hn : L.length = n) (hcc : cons L = cons L') (h1 : Arr w A L) (h2 : Arr w A' L') (hl : n ≤ 10000) :
  Calls Tryz.prog 23 #[.agg #[.int .i64 m, .slice A n c, .bool o], .agg #[.int .i64 m, .slice A' n c', .bool o]] w fun e w' => e = .returned (.bool true) ∧ Below w.heap.size w w' := by
 obtain ⟨W0, hW0⟩ : ∃ V, w.alloc (.cells #[.int .i64 m, .slice A n c, .bool o] 32) = V := ⟨_, rfl⟩
 have bW0 : Below w.heap.size w W0 := by rw [← hW0]; exact below_alloc1 _ _
 have sW0 : W0.heap.size = w.heap.size + 1 := by rw [← hW0]; simp
 have KX : Hid (∀ V, Below W0.heap.size W0 V → V.cell? ⟨w.heap.size, 0, none⟩ = some (.int .i64 m) ∧ V.cell? ⟨w.heap.size, 1, none⟩ = some (.slice A n c) ∧ V.cell? ⟨w.heap.size, 2, none⟩ = some (.bool o)) := Lib.hid (fun V hV => kb3_new hW0 hV)
 obtain ⟨W1, hW1⟩ : ∃ V, W0.alloc (.cells #[.int .i64 m, .slice A' n c', .bool o] 32) = V := ⟨_, rfl⟩
 have bW1 : Below W0.heap.size W0 W1 := by rw [← hW1]; exact below_alloc1 _ _
 have sW1 : W1.heap.size = W0.heap.size + 1 := by rw [← hW1]; simp
 have KY : Hid (∀ V, Below W1.heap.size W1 V → V.cell? ⟨W0.heap.size, 0, none⟩ = some (.int .i64 m) ∧ V.cell? ⟨W0.heap.size, 1, none⟩ = some (.slice A' n c') ∧ V.cell? ⟨W0.heap.size, 2, none⟩ = some (.bool o)) := Lib.hid (fun V hV => kb3_new hW1 hV)
 obtain ⟨k0, k1, k2⟩ := KX.out _ bW1
 obtain ⟨j0, j1, j2⟩ := KY.out _ (Below.refl _ _)
 have T1 := bW0.trans (bW1.mono bW0.size)
 have CA := all_any A A' n c c' L L' W1 hn hcc (h1.step T1) (h2.step T1) hl
 have HT := Lib.hid T1
 rw [sW0] at j0 j1 j2
 clear KX KY bW0 bW1 sW1 T1 h1 h2 hcc hn
 go_enter Tryz.func23, Tryz.ntmps23
 go_wp2_with fail
 refine CA.mono ?_
 rintro e W2 ⟨rfl, u2⟩
 go_wp2
 go_ret
 exact ⟨rfl, HT.out.trans (u2.mono HT.out.size)⟩
set_option maxRecDepth 100000 in
theorem lsame_any (m : Int) (A A' : Option Addr) (n n' c c' : Nat) (o : Bool) (L L' : List Ae) (w : World) (hn : L.length = n) (hn' : n = n') (hcc : cons L = cons L') (h1 : Arr w A L) (h2 : Arr w A' L') (hl : n ≤ 10000) :
  Calls Tryz.prog 6 #[.agg #[.int .i64 m, .slice A n c, .bool o], .agg #[.int .i64 m, .slice A' n' c', .bool o]] w fun e w' => e = .returned (.bool true) ∧ Below w.heap.size w w' := by
 subst hn'
 obtain ⟨W0, hW0⟩ : ∃ V, w.alloc (.cells #[.int .i64 m, .slice A n c, .bool o] 28) = V := ⟨_, rfl⟩
 have bW0 : Below w.heap.size w W0 := by rw [← hW0]; exact below_alloc1 _ _
 have sW0 : W0.heap.size = w.heap.size + 1 := by rw [← hW0]; simp
 have KX : Hid (∀ V, Below W0.heap.size W0 V → V.cell? ⟨w.heap.size, 0, none⟩ = some (.int .i64 m) ∧ V.cell? ⟨w.heap.size, 1, none⟩ = some (.slice A n c) ∧ V.cell? ⟨w.heap.size, 2, none⟩ = some (.bool o)) := Lib.hid (fun V hV => kb3_new hW0 hV)
 obtain ⟨W1, hW1⟩ : ∃ V, W0.alloc (.cells #[.int .i64 m, .slice A' n c', .bool o] 32) = V := ⟨_, rfl⟩
 have bW1 : Below W0.heap.size W0 W1 := by rw [← hW1]; exact below_alloc1 _ _
 have sW1 : W1.heap.size = W0.heap.size + 1 := by rw [← hW1]; simp
 have KY : Hid (∀ V, Below W1.heap.size W1 V → V.cell? ⟨W0.heap.size, 0, none⟩ = some (.int .i64 m) ∧ V.cell? ⟨W0.heap.size, 1, none⟩ = some (.slice A' n c') ∧ V.cell? ⟨W0.heap.size, 2, none⟩ = some (.bool o)) := Lib.hid (fun V hV => kb3_new hW1 hV)
 obtain ⟨k0, k1, k2⟩ := KX.out _ bW1
 obtain ⟨j0, j1, j2⟩ := KY.out _ (Below.refl _ _)
 have T1 := bW0.trans (bW1.mono bW0.size)
 have HT := Lib.hid T1
 have q1 := h1.step T1
 have q2 := h2.step T1
 rw [sW0] at j0 j1 j2
 clear KX KY bW0 bW1 sW1 T1 h1 h2
 go_enter Tryz.func6, Tryz.ntmps6
 go_wp2_with fail
 refine wp_region_quiet_below (by kernel_rfl) (by kernel_rfl) ?_
 have gg0 := cell_regrown k0
 have gg1 := cell_regrown k1
 have gg2 := cell_regrown k2
 have gg3 := cell_regrown j0
 have gg4 := cell_regrown j1
 have gg5 := cell_regrown j2
 have zz0 : ∀ d os, _ := fun d os => Calls.regrown_of (w := W1) (d := d) (os := os) (plain_any m A n c o _)
 have zz1 : ∀ d os, _ := fun d os => Calls.regrown_of (w := W1) (d := d) (os := os) (rsame_any m A A' n c c' o L L' _ hn hcc (q1.step (below_regrown W1 d os)) (q2.step (below_regrown W1 d os)) hl)
 repeat (first | go_big_quiet_step (with_reducible exact zz0 _ _) | go_big_quiet_step (with_reducible exact zz1 _ _) | go_big_quiet_step (fail) | go_big_quiet_skip)
 refine wpQuiet_nil ?_
 intro W9 hw'
 obtain ⟨⟨dq, osq⟩, hw''⟩ := hw'
 have hbz := below_regrown W1 dq osq
 rw [← hw''] at hbz
 clear hw'' gg0 gg1 gg2 gg3 gg4 gg5 zz0 zz1 
 go_wp2
 go_ret
 exact ⟨rfl, HT.out.trans (hbz.mono HT.out.size)⟩
end Go.Proofs.YtadcicmccdphkaaGreat
namespace Go.Proofs.YtadcicmccdphkaaGreat
open Go.RowKit Go.Joins

set_option maxRecDepth 100000 in
set_option maxHeartbeats 4000000 in
theorem hds_any (A A' : Option Addr) (n c c' : Nat) (L : List Hd) (w : World) (hn : L.length = n) (h1 : hRr w A L) (h2 : hRr w A' L) (hl : n ≤ 10000) :
  Calls Tryz.prog 15 #[.slice A n c, .slice A' n c'] w fun e w' => e = .returned (.bool true) ∧ Below w.heap.size w w' := by
 have H1 := Lib.hid h1
 have H2 := Lib.hid h2
 have HN := Lib.hid hn
 clear h1 h2 hn
 go_enter Tryz.func15, Tryz.ntmps15
 go_wp2_with fail
 go_loopg [5] n (fun gf v5 wx => ∃ (k : Nat), v5 = .int .i64 (k : Int) ∧ Hid (gf + k = n) ∧ Hid (Below w.heap.size w wx))
 case atStart => exact ⟨0, rfl, Lib.hid (by omega), Lib.hid (Below.refl _ _)⟩
 case round =>
  obtain ⟨k, rfl, hk, hb⟩ := hrel
  have hk' := hk.out
  cases gk with
  | zero =>
   have e1 : k = n := by omega
   have lt0 : decide ((k : Int) < (n : Int)) = false := by simp; omega
   have lt1 : decide (k < n) = false := by simp; omega
   go_wp2
   go_ret
   exact ⟨rfl, hb.out⟩
  | succ gf =>
   have hkl : k < L.length := by rw [HN.out]; omega
   have lt0 : (k : Int) < (n : Int) := by omega
   have hw1 : (k : Int) + 1 ≤ 10000 := by omega
   obtain ⟨b, off, hA, _, e0, e1, e2, e3, e4, e5, e6, e7⟩ := hrd_at (hRr.step H1.out hb.out) hkl
   obtain ⟨b2, off2, hA2, _, f0, f1, f2, f3, f4, f5, f6, f7⟩ := hrd_at (hRr.step H2.out hb.out) hkl
   obtain ⟨x, hx⟩ : ∃ x, hg L k = x := ⟨_, rfl⟩
   rw [hx] at e0 e1 e2 e3 e4 e5 e6 e7 f0 f1 f2 f3 f4 f5 f6 f7
   subst hA hA2
   clear hx hkl
   go_wp2_with fail
   go_quiet (fail)
   go_wp2
   go_roundg gf
   case measure => omega
   case rel => exact ⟨k + 1, by go_num, Lib.hid (by omega), Lib.hid (hb.out.trans (below_draws _ _ _))⟩
set_option maxRecDepth 100000 in
set_option maxHeartbeats 4000000 in
theorem keys_any (A A' : Option Addr) (n c c' : Nat) (L : List Ky) (w : World) (hn : L.length = n) (h1 : kRr w A L) (h2 : kRr w A' L) (hl : n ≤ 10000) :
  Calls Tryz.prog 18 #[.slice A n c, .slice A' n c'] w fun e w' => e = .returned (.bool true) ∧ Below w.heap.size w w' := by
 have H1 := Lib.hid h1
 have H2 := Lib.hid h2
 have HN := Lib.hid hn
 clear h1 h2 hn
 go_enter Tryz.func18, Tryz.ntmps18
 go_wp2_with fail
 go_loopg [5] n (fun gf v5 wx => ∃ (k : Nat), v5 = .int .i64 (k : Int) ∧ Hid (gf + k = n) ∧ Hid (Below w.heap.size w wx))
 case atStart => exact ⟨0, rfl, Lib.hid (by omega), Lib.hid (Below.refl _ _)⟩
 case round =>
  obtain ⟨k, rfl, hk, hb⟩ := hrel
  have hk' := hk.out
  cases gk with
  | zero =>
   have e1 : k = n := by omega
   have lt0 : decide ((k : Int) < (n : Int)) = false := by simp; omega
   have lt1 : decide (k < n) = false := by simp; omega
   go_wp2
   go_ret
   exact ⟨rfl, hb.out⟩
  | succ gf =>
   have hkl : k < L.length := by rw [HN.out]; omega
   have lt0 : (k : Int) < (n : Int) := by omega
   have hw1 : (k : Int) + 1 ≤ 10000 := by omega
   obtain ⟨b, off, hA, _, e0, e1, e2⟩ := krd_at (kRr.step H1.out hb.out) hkl
   obtain ⟨b2, off2, hA2, _, f0, f1, f2⟩ := krd_at (kRr.step H2.out hb.out) hkl
   obtain ⟨x, hx⟩ : ∃ x, kg L k = x := ⟨_, rfl⟩
   rw [hx] at e0 e1 e2 f0 f1 f2
   subst hA hA2
   clear hx hkl
   go_wp2_with fail
   go_quiet (fail)
   go_wp2
   go_roundg gf
   case measure => omega
   case rel => exact ⟨k + 1, by go_num, Lib.hid (by omega), Lib.hid (hb.out.trans (below_draws _ _ _))⟩
end Go.Proofs.YtadcicmccdphkaaGreat
