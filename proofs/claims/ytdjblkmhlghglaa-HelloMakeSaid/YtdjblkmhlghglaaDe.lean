/-
  What bytes say; the contract of hello's Decode. No statement is proved here; no conditions.
-/
import Derived.Test.YtdjblkmhlghglaaEn
namespace Go.Proofs.Ytdjblkmhlghglaa
open Go.RowKit Go.Joins

theorem cell_st8 {W : World} {b : Nat} {p : Addr} (h : p.block ≠ b) (u0 u1 u2 u3 u4 u5 u6 u7 : Value) : (st8 W b u0 u1 u2 u3 u4 u5 u6 u7).cell? p = W.cell? p := World.cell?_of_block (far_st8 h u0 u1 u2 u3 u4 u5 u6 u7)
def zhe : He := ⟨0, 0, 0, 0, 0, 0, 0, []⟩
def dec (l : List Int) : He := ⟨num (l.take 4), num (sub l 4 2), l.getD 6 0, l.getD 7 0, num (sub l 8 4), num (sub l 12 4), num (sub l 16 4), nums 4 ((l.length - 20) / 4) (l.drop 20)⟩
def decp (l : List Int) : He := if flt l = 0 then dec l else zhe
theorem flt_ok {l : List Int} (h : flt l = 0) : 20 ≤ l.length ∧ l.length ≤ 1220 ∧ ∃ q, l.length = 20 + q * 4 ∧ (l.length - 20) / 4 = q := by
  unfold flt at h
  split at h
  · omega
  split at h
  · omega
  rename_i h1 h2
  refine ⟨by omega, by omega, (l.length - 20) / 4, ?_, rfl⟩
  have : (l.length - 20) % 4 = 0 := by omega
  omega
theorem nums_wrd {l : List Int} (hy : Byt l) (q : Nat) (h : q * 4 ≤ l.length) : Wrd (nums 4 q l) := by
  induction q with
  | zero => intro x hx; cases hx
  | succ q ih =>
    intro x hx
    rw [nums] at hx
    rcases List.mem_append.1 hx with m | m
    · exact ih (by omega) x m
    · simp only [List.mem_singleton] at m
      subst m
      exact num_four ((hy.drop _).take _) (by simp; omega)
theorem dec_ok {l : List Int} (hy : Byt l) (h : flt l = 0) : Okh (dec l) := by
  obtain ⟨h1, _, q, h3, h4⟩ := flt_ok h
  refine ⟨num_four (hy.take 4) (by simp; omega), num_four (sub_byt hy 8 4) (sub_len (by omega)), num_four (sub_byt hy 12 4) (sub_len (by omega)), num_four (sub_byt hy 16 4) (sub_len (by omega)), ?_⟩
  exact nums_wrd (hy.drop 20) _ (by simp; omega)
theorem zhe_ok : Okh zhe := ⟨by decide, by decide, by decide, by decide, fun x hx => by cases hx⟩
theorem decp_ok {l : List Int} (hy : Byt l) : Okh (decp l) := by
  unfold decp
  split
  · rename_i h; exact dec_ok hy h
  · exact zhe_ok
theorem decp_len {l : List Int} : (decp l).s.length ≤ 300 := by
  unfold decp
  split
  · rename_i h
    obtain ⟨h1, h2, q, h3, h4⟩ := flt_ok h
    simp only [dec, nums_length]; omega
  · simp [zhe]
theorem rows4_any (A : Option Addr) (n c q : Nat) (l : List Int) (w : World) (hb : Bt w A l) (hy : Byt l) (hn : l.length = n) (hq : l.length = q * 4) (hc : n ≤ c) (hl : n ≤ 100000) :
    Calls Try.prog 29 #[.slice A n c, .int .i64 4] w fun e w' => ∃ A' c', e = .returned (.tuple #[.slice A' q c', .int .i64 0]) ∧ Own .u32 22 w' w.heap.size A' c' (nums 4 q l) ∧ Below w.heap.size w w' := by
  subst hn
  have h := rows_any A c l w.heap.size 4 w hb hy hc (Nat.le_refl _) hl
  obtain ⟨e1, e2⟩ := rowsE_all (l := l) (m := 4) (by decide) (by decide) q hq
  rw [e1, e2, nums_length] at h
  exact h
theorem rrows4_any (A : Option Addr) (n c q : Nat) (l : List Int) (w : World) (hb : Bt w A l) (hy : Byt l) (hn : l.length = n) (hq : l.length = q * 4) (hc : n ≤ c) (hl : n ≤ 100000) :
    Calls Try.prog 31 #[.slice A n c, .int .i64 4] w fun e w' => ∃ A' c', e = .returned (.tuple #[.slice A' q c', .int .i64 0]) ∧ Own .u32 22 w' w.heap.size A' c' (nums 4 q l) ∧ Below w.heap.size w w' := by
  subst hn
  have h := rrows_any A c l w.heap.size 4 w hb hy hc (Nat.le_refl _) hl
  obtain ⟨e1, e2⟩ := rowsE_all (l := l) (m := 4) (by decide) (by decide) q hq
  rw [e1, e2, nums_length] at h
  exact h
theorem nums_three (l : List Int) : nums 4 3 (sub l 8 12) = [num (sub l 8 4), num (sub l 12 4), num (sub l 16 4)] := by
  simp [nums, sub, List.drop_take, List.take_take]
theorem Own.three {w : World} {base c : Nat} {A : Option Addr} {x y z : Int} (h : Own .u32 22 w base A c [x, y, z]) : ∃ g, A = some ⟨g, 0, none⟩ ∧ g < w.heap.size ∧ 3 ≤ c ∧ w.cell? ⟨g, 0, none⟩ = some (.int .u32 x) ∧ w.cell? ⟨g, 1, none⟩ = some (.int .u32 y) ∧ w.cell? ⟨g, 2, none⟩ = some (.int .u32 z) := by
  rcases h.form with ⟨_, _, q⟩ | ⟨g, _, rfl, q1, q2, _⟩
  · cases q
  · exact ⟨g, rfl, q2, h.cap_le, h.cellAt (i := 0) (by simp), h.cellAt (i := 1) (by simp), h.cellAt (i := 2) (by simp)⟩
set_option maxRecDepth 100000 in
set_option maxHeartbeats 4000000 in
theorem decode_any (A : Option Addr) (n c : Nat) (l : List Int) (w : World) (hn : l.length = n) (hb : Bt w A l) (hy : Byt l) (hc : n ≤ c) (hl : n ≤ 5000) :
    Calls Try.prog 13 #[.slice A n c] w fun e w' => ∃ A' c', e = .returned (.tuple #[.agg #[.int .u32 (decp l).m, .int .i64 (decp l).i, .int .i64 (decp l).o, .int .i64 (decp l).p, .int .u32 (decp l).d, .int .u32 (decp l).r, .int .u32 (decp l).b, .slice A' (decp l).s.length c'], .int .i64 (flt l)]) ∧ Own .u32 22 w' w.heap.size A' c' (decp l).s ∧ Below w.heap.size w w' := by
  obtain ⟨W0, hW0⟩ : ∃ V, w.alloc (.cells #[Value.int .u32 0, .int .i64 0, .int .i64 0, .int .i64 0, .int .u32 0, .int .u32 0, .int .u32 0, .slice none 0 0] 25) = V := ⟨_, rfl⟩
  have b0 : Below w.heap.size w W0 := by rw [← hW0]; exact below_alloc1 _ _
  have s0 : W0.heap.size = w.heap.size + 1 := by rw [← hW0]; simp
  have KZ : Hid (∀ V, Below W0.heap.size W0 V → V.heap[w.heap.size]? = some (.cells #[Value.int .u32 0, .int .i64 0, .int .i64 0, .int .i64 0, .int .u32 0, .int .u32 0, .int .u32 0, .slice none 0 0] 25)) :=
    Lib.hid (fun V hV => by rw [hV.block _ (by omega), ← hW0]; exact alloc_at _ _ _ rfl)
  have HB : Hid (Below w.heap.size w W0) := Lib.hid b0
  have CF : ∀ V, Calls Try.prog 28 #[.slice A n c] V fun e w' => e = .returned (.int .i64 (flt l)) ∧ V = w' := fun V => by
    have := fault_any A c l V (by omega)
    rwa [hn] at this
  by_cases hf : flt l = 0
  case neg =>
    have e : decp l = zhe := by simp [decp, hf]
    rw [e]
    obtain ⟨E, hE⟩ : ∃ E, flt l = E := ⟨_, rfl⟩
    rw [hE] at hf ⊢
    simp only [hE] at CF
    have hf2 : (E != 0) = true := by simpa using hf
    have hf3 : (E == 0) = false := by simpa using hf
    obtain ⟨z0, z1, z2, z3, z4, z5, z6, z7, f0, f1, f2, f3, f4, f5, f6, f7, hzl⟩ := kz8_at (KZ.out _ (Below.refl _ _))
    obtain ⟨r0, r1, r2, r3, r4, r5, r6, r7⟩ := kz8_get (KZ.out _ (Below.refl _ _)) (Value.int .u32 0) (.int .i64 0) (.int .i64 0) (.int .i64 0) (.int .u32 0) (.int .u32 0) (.int .u32 0) (.slice none 0 0)
    clear e hE b0
    go_enter Try.func13, Try.ntmps13
    go_wp2_with fail
    refine (CF _).mono ?_
    rintro e W1 ⟨rfl, rfl⟩
    go_wp2
    refine bodyPost_ret (v := .tuple #[.agg #[Value.int .u32 0, .int .i64 0, .int .i64 0, .int .i64 0, .int .u32 0, .int .u32 0, .int .u32 0, .slice none 0 0], .int .i64 E]) (by simp [results, Try.results13, go_sem, r0, r1, r2, r3, r4, r5, r6, r7]) rfl ⟨none, 0, rfl, Own.nil _ _, ?_⟩
    exact below_st8 HB.out (Nat.le_refl _) _ _ _ _ _ _ _ _
  obtain ⟨n20, n1220, q, hq, hq2⟩ := flt_ok hf
  obtain ⟨b, off, rfl, hlt, -⟩ := hb (by rintro rfl; simp at n20)
  have e : decp l = dec l := by simp [decp, hf]
  rw [e]
  have HF := Lib.hid hf
  have g6 := hb.get (i := 6) (by omega)
  have g7 := hb.get (i := 7) (by omega)
  have q0 : Bt w (some ⟨b, off, none⟩) (l.take 4) := hb.take 4
  have q4 : Bt w _ (sub l 4 2) := hb.sub 4 2
  have q8 : Bt w _ (sub l 8 12) := hb.sub 8 12
  obtain ⟨A2, hA2⟩ : ∃ A2, (if c = 20 then (some ⟨b, off, none⟩ : Option Addr) else some ⟨b, off + 20, none⟩) = A2 := ⟨_, rfl⟩
  have q20 : Bt w A2 (l.drop 20) := hb.drop 20 A2 (fun h => by rw [← hA2, if_neg (by omega)]; simp [addr_add])
  have l0 : (l.take 4).length = 4 := by simp; omega
  have l4 : (sub l 4 2).length = 2 := sub_len (by omega)
  have l8 : (sub l 8 12).length = 12 := sub_len (by omega)
  have l20 : (l.drop 20).length = n - 20 := by simp [hn]
  have z0 := hy.take 4
  have z4 := sub_byt hy 4 2
  have z8 := sub_byt hy 8 12
  have z20 := hy.drop 20
  have v4 := num_two z4 l4
  have y6 := byt_getD hy 6
  have y7 := byt_getD hy 7
  have HD : Hid (dec l = ⟨num (l.take 4), num (sub l 4 2), l.getD 6 0, l.getD 7 0, num (sub l 8 4), num (sub l 12 4), num (sub l 16 4), nums 4 q (l.drop 20)⟩) := Lib.hid (by rw [← hq2]; rfl)
  have h3 := nums_three l
  have hln : n = 20 + q * 4 := by omega
  have hlq : (l.drop 20).length = q * 4 := by rw [l20]; omega
  generalize hL20 : l.drop 20 = L20 at *
  generalize sub l 8 12 = L8 at *
  generalize sub l 4 2 = L4 at *
  generalize l.take 4 = L0 at *
  generalize num (sub l 8 4) = y0 at *
  generalize num (sub l 12 4) = y1 at *
  generalize num (sub l 16 4) = y2 at *
  generalize l.getD 6 0 = x6 at *
  generalize l.getD 7 0 = x7 at *
  have KB : Hid (∀ V, Below w.heap.size w V → V.cell? ⟨b, off + 6, none⟩ = some (.int .u8 x6) ∧ V.cell? ⟨b, off + 7, none⟩ = some (.int .u8 x7)) := Lib.hid (fun V hV => ⟨(hV.cell (p := ⟨b, off + 6, none⟩) hlt).trans g6, (hV.cell (p := ⟨b, off + 7, none⟩) hlt).trans g7⟩)
  have h4c : ¬ (c = 4) := by omega
  have h8c : ¬ (c = 8) := by omega
  have p4 : (4 : Int) ≤ (c : Int) := by omega
  have p6 : (6 : Int) ≤ (c : Int) := by omega
  have p20 : (20 : Int) ≤ (c : Int) := by omega
  have n20' : (20 : Int) ≤ (n : Int) := by omega
  have i6 : (6 : Int) < (n : Int) := by omega
  have i7 : (7 : Int) < (n : Int) := by omega
  have R8 : ∀ V, Below w.heap.size w V → Calls Try.prog 29 #[.slice (some ⟨b, off + 8, none⟩) 12 (c - 8), .int .i64 4] V fun e w' => ∃ A' c', e = .returned (.tuple #[.slice A' 3 c', .int .i64 0]) ∧ Own .u32 22 w' V.heap.size A' c' [y0, y1, y2] ∧ Below V.heap.size V w' := fun V hV => by
    have := rows4_any (some ⟨b, off + 8, none⟩) 12 (c - 8) 3 L8 V (q8.step hV) z8 l8 (by omega) (by omega) (by omega)
    rwa [h3] at this
  have R20 : ∀ V, Below w.heap.size w V → Calls Try.prog 29 #[.slice A2 (n - 20) (c - 20), .int .i64 4] V fun e w' => ∃ A' c', e = .returned (.tuple #[.slice A' q c', .int .i64 0]) ∧ Own .u32 22 w' V.heap.size A' c' (nums 4 q L20) ∧ Below V.heap.size V w' := fun V hV =>
    rows4_any A2 (n - 20) (c - 20) q L20 V (q20.step hV) z20 l20 hlq (by omega) (by omega)
  obtain ⟨NS, hNS⟩ : ∃ NS, nums 4 q L20 = NS := ⟨_, rfl⟩
  have hNSl : NS.length = q := by rw [← hNS, nums_length]
  have HNS := Lib.hid hNSl
  rw [hNS] at HD R20
  clear hb hy e g6 g7 hL20 hNS hln hlq hq hq2 hn h3 n1220 hNSl
  go_enter Try.func13, Try.ntmps13
  go_wp2_with fail
  refine (CF _).mono ?_
  rintro e W0' ⟨rfl, rfl⟩
  rw [HF.out]
  go_wp2_with fail
  refine (R8 _ HB.out).mono ?_
  rintro e W1 ⟨A1, c1, rfl, o1, u1⟩
  have hg0 := o1.blk_lt
  obtain ⟨g, rfl, hg, hc1, m0, m1, m2⟩ := o1.three
  have hg1 := (hg0 g rfl).1
  clear hg0
  have t1 : Below w.heap.size w W1 := HB.out.trans (u1.mono HB.out.size)
  go_wp2_with fail
  try rw [hA2]
  refine (R20 _ t1).mono ?_
  rintro e W2 ⟨A3, c3, rfl, o2, u2⟩
  have t2 : Below W0.heap.size W0 W2 := u1.trans (u2.mono u1.size)
  have KS : Hid (∀ V, Below W2.heap.size W2 V → V.cell? ⟨b, off + 6, none⟩ = some (.int .u8 x6) ∧ V.cell? ⟨b, off + 7, none⟩ = some (.int .u8 x7) ∧ V.cell? ⟨g, 0, none⟩ = some (.int .u32 y0) ∧ V.cell? ⟨g, 1, none⟩ = some (.int .u32 y1) ∧ V.cell? ⟨g, 2, none⟩ = some (.int .u32 y2)) := Lib.hid (fun V hV => by
    have k1 := t1.trans ((u2.trans (hV.mono u2.size)).mono t1.size)
    have k2 : Below W1.heap.size W1 V := u2.trans (hV.mono u2.size)
    obtain ⟨e6, e7⟩ := KB.out V k1
    exact ⟨e6, e7, (k2.cell (p := ⟨g, 0, none⟩) hg).trans m0, (k2.cell (p := ⟨g, 1, none⟩) hg).trans m1, (k2.cell (p := ⟨g, 2, none⟩) hg).trans m2⟩)
  have KO : Hid (∀ V, Below W2.heap.size W2 V → Own .u32 22 V W1.heap.size A3 c3 NS) := Lib.hid (fun V hV => o2.below hV (Nat.le_refl _))
  have KT : Hid (∀ V, Below W2.heap.size W2 V → Below w.heap.size w V) := Lib.hid (fun V hV => t1.trans ((u2.trans (hV.mono u2.size)).mono t1.size))
  have KU : Hid (∀ V, Below W2.heap.size W2 V → Below W0.heap.size W0 V) := Lib.hid (fun V hV => t2.trans (hV.mono t2.size))
  have hs1 : W0.heap.size ≤ W1.heap.size := u1.size
  have tt : Below W2.heap.size W2 W2 := Below.refl _ _
  have HGW : Hid (g ≠ w.heap.size) := Lib.hid (by omega)
  have HS1 := Lib.hid hs1
  clear o1 o2 u1 u2 t1 t2 m0 m1 m2 hg CF R8 R20 hg1 hs1
  go_wp2_with fail
  refine wp_region_held_drew (S := fun V => V.cell? ⟨b, off + 6, none⟩ = some (.int .u8 x6) ∧ V.cell? ⟨b, off + 7, none⟩ = some (.int .u8 x7) ∧ V.cell? ⟨g, 0, none⟩ = some (.int .u32 y0) ∧ V.cell? ⟨g, 1, none⟩ = some (.int .u32 y1) ∧ V.cell? ⟨g, 2, none⟩ = some (.int .u32 y2)) (by kernel_rfl) (KS.out _ tt.drew) (fun hHeld => ?_)
  replace tt : Below W2.heap.size W2 W2.drew := tt.drew
  generalize hX0 : W2.drew = Y0 at tt hHeld ⊢
  clear hX0
  refine wpAnyH_take (i := 0) (v := ?_) rfl (by kernel_rfl) (by kernel_rfl) (by kernel_rfl) (fun _ _ _ h => h) (Or.inl ⟨by rfl, ?_⟩) (by assumption) ?_
  rotate_left
  · (intro w' hSw; (try dsimp only at hSw); go_simp; try with_reducible rfl)
  simp only [Act.put, List.getElem_toArray, List.getElem_cons_zero, List.setIfInBounds_toArray, List.set_cons_zero, List.set_cons_succ]
  refine wpAnyH_take (i := 1) (v := .slice (some ⟨b, off, none⟩) 4 c) rfl (by kernel_rfl) (by kernel_rfl) (by kernel_rfl) (fun _ _ _ h => h) (Or.inl ⟨by rfl, ?_⟩) (by assumption) ?_
  · (intro w' hSw; (try dsimp only at hSw); go_simp; try rfl)
  simp only [Act.put, List.getElem_toArray, List.getElem_cons_zero, List.getElem_cons_succ, List.setIfInBounds_toArray, List.set_cons_zero, List.set_cons_succ]
  refine wpAnyH_take (i := 3) (v := ?_) rfl (by kernel_rfl) (by kernel_rfl) (by kernel_rfl) (fun _ _ _ h => h) (Or.inl ⟨by rfl, ?_⟩) (by assumption) ?_
  rotate_left
  · (intro w' hSw; (try dsimp only at hSw); go_simp; try with_reducible rfl)
  simp only [Act.put, List.getElem_toArray, List.getElem_cons_zero, List.getElem_cons_succ, List.setIfInBounds_toArray, List.set_cons_zero, List.set_cons_succ]
  refine wpAnyH_take (i := 4) (v := .slice (some ⟨b, off + 4, none⟩) 2 (c - 4)) rfl (by kernel_rfl) (by kernel_rfl) (by kernel_rfl) (fun _ _ _ h => h) (Or.inl ⟨by rfl, ?_⟩) (by assumption) ?_
  · (intro w' hSw; (try dsimp only at hSw); go_simp; try rfl)
  simp only [Act.put, List.getElem_toArray, List.getElem_cons_zero, List.getElem_cons_succ, List.setIfInBounds_toArray, List.set_cons_zero, List.set_cons_succ]
  refine wpAnyH_take (i := 7) (v := ?_) rfl (by kernel_rfl) (by kernel_rfl) (by kernel_rfl) (fun _ _ _ h => h) (Or.inl ⟨by rfl, ?_⟩) (by assumption) ?_
  rotate_left
  · (intro w' hSw; (try dsimp only at hSw); go_simp; try with_reducible rfl)
  simp only [Act.put, List.getElem_toArray, List.getElem_cons_zero, List.getElem_cons_succ, List.setIfInBounds_toArray, List.set_cons_zero, List.set_cons_succ]
  refine wpAnyH_take (i := 8) (v := ?_) rfl (by kernel_rfl) (by kernel_rfl) (by kernel_rfl) (fun _ _ _ h => h) (Or.inl ⟨by rfl, ?_⟩) (by assumption) ?_
  rotate_left
  · (intro w' hSw; (try dsimp only at hSw); go_simp; try with_reducible rfl)
  simp only [Act.put, List.getElem_toArray, List.getElem_cons_zero, List.getElem_cons_succ, List.setIfInBounds_toArray, List.set_cons_zero, List.set_cons_succ]
  refine wpAnyH_take (i := 9) (v := ?_) rfl (by kernel_rfl) (by kernel_rfl) (by kernel_rfl) (fun _ _ _ h => h) (Or.inl ⟨by rfl, ?_⟩) (by assumption) ?_
  rotate_left
  · (intro w' hSw; (try dsimp only at hSw); go_simp; try with_reducible rfl)
  simp only [Act.put, List.getElem_toArray, List.getElem_cons_zero, List.getElem_cons_succ, List.setIfInBounds_toArray, List.set_cons_zero, List.set_cons_succ]
  refine wpAnyH_take (i := 10) (v := .int .i64 x6) rfl (by kernel_rfl) (by kernel_rfl) (by kernel_rfl) (fun _ _ _ h => h) (Or.inl ⟨by rfl, ?_⟩) (by assumption) ?_
  · (intro w' hSw; (try dsimp only at hSw); go_simp; rw [wrap_i64 (by omega) (by omega)])
  simp only [Act.put, List.getElem_toArray, List.getElem_cons_zero, List.getElem_cons_succ, List.setIfInBounds_toArray, List.set_cons_zero, List.set_cons_succ]
  refine wpAnyH_take (i := 11) (v := ?_) rfl (by kernel_rfl) (by kernel_rfl) (by kernel_rfl) (fun _ _ _ h => h) (Or.inl ⟨by rfl, ?_⟩) (by assumption) ?_
  rotate_left
  · (intro w' hSw; (try dsimp only at hSw); go_simp; try with_reducible rfl)
  simp only [Act.put, List.getElem_toArray, List.getElem_cons_zero, List.getElem_cons_succ, List.setIfInBounds_toArray, List.set_cons_zero, List.set_cons_succ]
  refine wpAnyH_take (i := 12) (v := ?_) rfl (by kernel_rfl) (by kernel_rfl) (by kernel_rfl) (fun _ _ _ h => h) (Or.inl ⟨by rfl, ?_⟩) (by assumption) ?_
  rotate_left
  · (intro w' hSw; (try dsimp only at hSw); go_simp; try with_reducible rfl)
  simp only [Act.put, List.getElem_toArray, List.getElem_cons_zero, List.getElem_cons_succ, List.setIfInBounds_toArray, List.set_cons_zero, List.set_cons_succ]
  refine wpAnyH_take (i := 13) (v := ?_) rfl (by kernel_rfl) (by kernel_rfl) (by kernel_rfl) (fun _ _ _ h => h) (Or.inl ⟨by rfl, ?_⟩) (by assumption) ?_
  rotate_left
  · (intro w' hSw; (try dsimp only at hSw); go_simp; try with_reducible rfl)
  simp only [Act.put, List.getElem_toArray, List.getElem_cons_zero, List.getElem_cons_succ, List.setIfInBounds_toArray, List.set_cons_zero, List.set_cons_succ]
  refine wpAnyH_take (i := 14) (v := .int .i64 x7) rfl (by kernel_rfl) (by kernel_rfl) (by kernel_rfl) (fun _ _ _ h => h) (Or.inl ⟨by rfl, ?_⟩) (by assumption) ?_
  · (intro w' hSw; (try dsimp only at hSw); go_simp; rw [wrap_i64 (by omega) (by omega)])
  simp only [Act.put, List.getElem_toArray, List.getElem_cons_zero, List.getElem_cons_succ, List.setIfInBounds_toArray, List.set_cons_zero, List.set_cons_succ]
  refine wpAnyH_take (i := 15) (v := ?_) rfl (by kernel_rfl) (by kernel_rfl) (by kernel_rfl) (fun _ _ _ h => h) (Or.inl ⟨by rfl, ?_⟩) (by assumption) ?_
  rotate_left
  · (intro w' hSw; (try dsimp only at hSw); go_simp; try with_reducible rfl)
  simp only [Act.put, List.getElem_toArray, List.getElem_cons_zero, List.getElem_cons_succ, List.setIfInBounds_toArray, List.set_cons_zero, List.set_cons_succ]
  refine wpAnyH_take (i := 16) (v := ?_) rfl (by kernel_rfl) (by kernel_rfl) (by kernel_rfl) (fun _ _ _ h => h) (Or.inl ⟨by rfl, ?_⟩) (by assumption) ?_
  rotate_left
  · (intro w' hSw; (try dsimp only at hSw); go_simp; try with_reducible rfl)
  simp only [Act.put, List.getElem_toArray, List.getElem_cons_zero, List.getElem_cons_succ, List.setIfInBounds_toArray, List.set_cons_zero, List.set_cons_succ]
  refine wpAnyH_take (i := 17) (v := ?_) rfl (by kernel_rfl) (by kernel_rfl) (by kernel_rfl) (fun _ _ _ h => h) (Or.inl ⟨by rfl, ?_⟩) (by assumption) ?_
  rotate_left
  · (intro w' hSw; (try dsimp only at hSw); go_simp; try with_reducible rfl)
  simp only [Act.put, List.getElem_toArray, List.getElem_cons_zero, List.getElem_cons_succ, List.setIfInBounds_toArray, List.set_cons_zero, List.set_cons_succ]
  refine wpAnyH_take (i := 18) (v := ?_) rfl (by kernel_rfl) (by kernel_rfl) (by kernel_rfl) (fun _ _ _ h => h) (Or.inl ⟨by rfl, ?_⟩) (by assumption) ?_
  rotate_left
  · (intro w' hSw; (try dsimp only at hSw); go_simp; try with_reducible rfl)
  simp only [Act.put, List.getElem_toArray, List.getElem_cons_zero, List.getElem_cons_succ, List.setIfInBounds_toArray, List.set_cons_zero, List.set_cons_succ]
  refine wpAnyH_take (i := 19) (v := ?_) rfl (by kernel_rfl) (by kernel_rfl) (by kernel_rfl) (fun _ _ _ h => h) (Or.inl ⟨by rfl, ?_⟩) (by assumption) ?_
  rotate_left
  · (intro w' hSw; (try dsimp only at hSw); go_simp; try with_reducible rfl)
  simp only [Act.put, List.getElem_toArray, List.getElem_cons_zero, List.getElem_cons_succ, List.setIfInBounds_toArray, List.set_cons_zero, List.set_cons_succ]
  refine wpAnyH_take (i := 20) (v := ?_) rfl (by kernel_rfl) (by kernel_rfl) (by kernel_rfl) (fun _ _ _ h => h) (Or.inl ⟨by rfl, ?_⟩) (by assumption) ?_
  rotate_left
  · (intro w' hSw; (try dsimp only at hSw); go_simp; try with_reducible rfl)
  simp only [Act.put, List.getElem_toArray, List.getElem_cons_zero, List.getElem_cons_succ, List.setIfInBounds_toArray, List.set_cons_zero, List.set_cons_succ]
  refine wpAnyH_take (i := 21) (v := ?_) rfl (by kernel_rfl) (by kernel_rfl) (by kernel_rfl) (fun _ _ _ h => h) (Or.inl ⟨by rfl, ?_⟩) (by assumption) ?_
  rotate_left
  · (intro w' hSw; (try dsimp only at hSw); go_simp; try with_reducible rfl)
  simp only [Act.put, List.getElem_toArray, List.getElem_cons_zero, List.getElem_cons_succ, List.setIfInBounds_toArray, List.set_cons_zero, List.set_cons_succ]
  refine wpAnyH_take (i := 22) (v := ?_) rfl (by kernel_rfl) (by kernel_rfl) (by kernel_rfl) (fun _ _ _ h => h) (Or.inl ⟨by rfl, ?_⟩) (by assumption) ?_
  rotate_left
  · (intro w' hSw; (try dsimp only at hSw); go_simp; try with_reducible rfl)
  simp only [Act.put, List.getElem_toArray, List.getElem_cons_zero, List.getElem_cons_succ, List.setIfInBounds_toArray, List.set_cons_zero, List.set_cons_succ]
  refine wpAnyH_take (i := 23) (v := ?_) rfl (by kernel_rfl) (by kernel_rfl) (by kernel_rfl) (fun _ _ _ h => h) (Or.inl ⟨by rfl, ?_⟩) (by assumption) ?_
  rotate_left
  · (intro w' hSw; (try dsimp only at hSw); go_simp; try with_reducible rfl)
  simp only [Act.put, List.getElem_toArray, List.getElem_cons_zero, List.getElem_cons_succ, List.setIfInBounds_toArray, List.set_cons_zero, List.set_cons_succ]
  refine wpAnyH_take (i := 24) (v := ?_) rfl (by kernel_rfl) (by kernel_rfl) (by kernel_rfl) (fun _ _ _ h => h) (Or.inl ⟨by rfl, ?_⟩) (by assumption) ?_
  rotate_left
  · (intro w' hSw; (try dsimp only at hSw); go_simp; try with_reducible rfl)
  simp only [Act.put, List.getElem_toArray, List.getElem_cons_zero, List.getElem_cons_succ, List.setIfInBounds_toArray, List.set_cons_zero, List.set_cons_succ]
  refine wpAnyH_ready (rs := [2]) (by kernel_rfl) (by simp) ?_
  refine AllReadyH.cons rfl (fun K hK => ?_) AllReadyH.nil
  go_simp
  go_at_call 30
  refine (number_any _ 4 _ L0 Y0 (q0.step (KT.out _ tt)) z0 l0 (by omega) (by decide) (by decide)).mono ?_
  rintro e Y1 ⟨rfl, u1⟩
  have t_Y1 : Below W2.heap.size W2 Y1 := tt.trans (u1.mono tt.size)
  refine hK.out _ _ (KS.out _ t_Y1) (fun _ => ?_)
  clear hK K
  refine wpAnyH_ready (rs := [5]) (by kernel_rfl) (by simp) ?_
  refine AllReadyH.cons rfl (fun K hK => ?_) AllReadyH.nil
  go_simp
  go_at_call 30
  refine (number_any _ 2 _ L4 Y1 (q4.step (KT.out _ t_Y1)) z4 l4 (by omega) (by decide) (by decide)).mono ?_
  rintro e Y2 ⟨rfl, u2⟩
  have t_Y2 : Below W2.heap.size W2 Y2 := t_Y1.trans (u2.mono t_Y1.size)
  refine hK.out _ _ (KS.out _ t_Y2) (fun _ => ?_)
  clear hK K
  refine wpAnyH_take (i := 6) (v := .int .i64 (num L4)) rfl (by kernel_rfl) (by kernel_rfl) (by kernel_rfl) (fun _ _ _ h => h) (Or.inl ⟨by rfl, ?_⟩) (by assumption) ?_
  · (intro w' hSw; (try dsimp only at hSw); go_simp; rw [wrap_i64 (by omega) (by omega)])
  simp only [Act.put, List.getElem_toArray, List.getElem_cons_zero, List.getElem_cons_succ, List.setIfInBounds_toArray, List.set_cons_zero, List.set_cons_succ]
  refine wpAnyH_take (i := 25) (v := .agg #[.int .u32 (num L0), .int .i64 (num L4), .int .i64 x6, .int .i64 x7, .int .u32 y0, .int .u32 y1, .int .u32 y2, .slice A3 q c3]) rfl (by kernel_rfl) (by kernel_rfl) (by kernel_rfl) (fun _ _ _ h => h) (Or.inl ⟨by rfl, ?_⟩) (by assumption) ?_
  · (intro w' hSw; (try dsimp only at hSw); go_simp; try rfl)
  simp only [Act.put, List.getElem_toArray, List.getElem_cons_zero, List.getElem_cons_succ, List.setIfInBounds_toArray, List.set_cons_zero, List.set_cons_succ]
  refine wpAnyH_ready (rs := [26]) (by kernel_rfl) (by simp) ?_
  refine AllReadyH.cons rfl (fun K hK => ?_) AllReadyH.nil
  obtain ⟨a0, a1, a2, a3, a4, a5, a6, a7, f0, f1, f2, f3, f4, f5, f6, f7, hzl⟩ := kz8_at (KZ.out _ (KU.out _ t_Y2))
  have KR := Lib.hid <| kz8_get (KZ.out _ (KU.out _ t_Y2)) (Value.int .u32 (num L0)) (.int .i64 (num L4)) (.int .i64 x6) (.int .i64 x7) (.int .u32 y0) (.int .u32 y1) (.int .u32 y2) (.slice A3 q c3)
  have TF : Hid (Below w.heap.size w (st8 Y2 w.heap.size (.int .u32 (num L0)) (.int .i64 (num L4)) (.int .i64 x6) (.int .i64 x7) (.int .u32 y0) (.int .u32 y1) (.int .u32 y2) (.slice A3 q c3)) ) := Lib.hid <| below_st8 (KT.out _ t_Y2) (Nat.le_refl _) _ _ _ _ _ _ _ _
  have OF := Lib.hid <| ((KO.out _ t_Y2).far8 (b := w.heap.size) (by have := HS1.out; omega) (.int .u32 (num L0)) (.int .i64 (num L4)) (.int .i64 x6) (.int .i64 x7) (.int .u32 y0) (.int .u32 y1) (.int .u32 y2) (.slice A3 q c3)).lower (base' := w.heap.size) (by have := HS1.out; omega)
  have KF : Hid ((st8 Y2 w.heap.size (.int .u32 (num L0)) (.int .i64 (num L4)) (.int .i64 x6) (.int .i64 x7) (.int .u32 y0) (.int .u32 y1) (.int .u32 y2) (.slice A3 q c3)).cell? ⟨b, off + 6, none⟩ = some (.int .u8 x6) ∧ (st8 Y2 w.heap.size (.int .u32 (num L0)) (.int .i64 (num L4)) (.int .i64 x6) (.int .i64 x7) (.int .u32 y0) (.int .u32 y1) (.int .u32 y2) (.slice A3 q c3)).cell? ⟨b, off + 7, none⟩ = some (.int .u8 x7) ∧ (st8 Y2 w.heap.size (.int .u32 (num L0)) (.int .i64 (num L4)) (.int .i64 x6) (.int .i64 x7) (.int .u32 y0) (.int .u32 y1) (.int .u32 y2) (.slice A3 q c3)).cell? ⟨g, 0, none⟩ = some (.int .u32 y0) ∧ (st8 Y2 w.heap.size (.int .u32 (num L0)) (.int .i64 (num L4)) (.int .i64 x6) (.int .i64 x7) (.int .u32 y0) (.int .u32 y1) (.int .u32 y2) (.slice A3 q c3)).cell? ⟨g, 1, none⟩ = some (.int .u32 y1) ∧ (st8 Y2 w.heap.size (.int .u32 (num L0)) (.int .i64 (num L4)) (.int .i64 x6) (.int .i64 x7) (.int .u32 y0) (.int .u32 y1) (.int .u32 y2) (.slice A3 q c3)).cell? ⟨g, 2, none⟩ = some (.int .u32 y2)) := Lib.hid <| by
    obtain ⟨e6, e7⟩ := KB.out _ TF.out
    obtain ⟨_, _, e0, e1, e2⟩ := KS.out _ t_Y2
    exact ⟨e6, e7, (cell_st8 (p := ⟨g, 0, none⟩) HGW.out _ _ _ _ _ _ _ _).trans e0, (cell_st8 (p := ⟨g, 1, none⟩) HGW.out _ _ _ _ _ _ _ _).trans e1, (cell_st8 (p := ⟨g, 2, none⟩) HGW.out _ _ _ _ _ _ _ _).trans e2⟩
  go_simp
  refine hK.out _ _ KF.out (fun _ => ?_)
  clear hK K
  refine wpAnyH_ready (rs := [27]) (by kernel_rfl) (by simp) ?_
  refine AllReadyH.cons rfl (fun K hK => ?_) AllReadyH.nil
  clear a0 a1 a2 a3 a4 a5 a6 a7 f0 f1 f2 f3 f4 f5 f6 f7 hzl
  go_simp
  refine hK.out _ _ KF.out (fun _ => ?_)
  clear hK K
  refine wpAnyH_done (by kernel_rfl) ?_ _
  go_wp2
  obtain ⟨r0, r1, r2, r3, r4, r5, r6, r7⟩ := KR.out
  refine bodyPost_ret (v := .tuple #[.agg #[.int .u32 (num L0), .int .i64 (num L4), .int .i64 x6, .int .i64 x7, .int .u32 y0, .int .u32 y1, .int .u32 y2, .slice A3 q c3], .int .i64 0]) (by simp [results, Try.results13, go_sem, r0, r1, r2, r3, r4, r5, r6, r7]) rfl ⟨A3, c3, ?_, ?_, TF.out⟩
  · rw [HF.out, HD.out]
    simp only [HNS.out]
  · rw [HD.out]
    exact OF.out
end Go.Proofs.Ytdjblkmhlghglaa
