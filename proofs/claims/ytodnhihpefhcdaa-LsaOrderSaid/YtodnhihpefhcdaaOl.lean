/-
  The contract of lsa's Older. No statement is proved here; no conditions.
-/
import Derived.Test.YtodnhihpefhcdaaEn
namespace Go.Proofs.Ytodnhihpefhcdaa
open Go.RowKit Go.Joins

/-- The header when by more seconds have passed. -/
def old (h : Hd) (y : Int) : Hd := if 0 < y then ⟨h.a + min y (3600 - h.a), h.o, h.t, h.i, h.v, h.q, h.s, h.n⟩ else h
theorem old_may {h : Hd} {y : Int} (hm : mayd h = true) : mayd (old h y) = true := by
  obtain ⟨h1, h2, h3, h4, h5, h6⟩ := (mayd_iff h).1 hm
  unfold old
  split
  · refine (mayd_iff _).2 ⟨?_, h2, h3, h4, h5, h6⟩
    show 0 ≤ h.a + min y (3600 - h.a) ∧ h.a + min y (3600 - h.a) ≤ 3600
    omega
  · exact hm
theorem old_n (h : Hd) (y : Int) : (old h y).n = h.n := by
  unfold old
  split <;> rfl
theorem old_ok {h : Hd} {y : Int} (ok : Okd h) : Okd (old h y) := by
  unfold old
  split
  · exact ⟨ok.i, ok.v, ok.q⟩
  · exact ok
theorem old_smd (h : Hd) (y : Int) (l : List Int) : smd (old h y) l = smd h l := by
  have e : ∀ (h : Hd), smd h l = be h.o 1 ++ (be h.t 1 ++ (be h.i 4 ++ (be h.v 4 ++ (be h.q 4 ++ (be h.s 2 ++ be h.n 2))))) ++ l := fun h => by
    unfold smd ehd
    rw [List.append_assoc, List.drop_left' (be_length _ _)]
  rw [e, e]
  unfold old
  split <;> rfl
/-- It is whole still. -/
theorem old_whl {h : Hd} {l : List Int} (y : Int) (hw : whl h l = true) : whl (old h y) l = true := by
  unfold whl maya fit at *
  rw [old_smd, old_n]
  simp only [Bool.and_eq_true] at hw ⊢
  exact ⟨⟨old_may hw.1.1, hw.1.2⟩, hw.2⟩
set_option maxRecDepth 100000 in
set_option maxHeartbeats 2000000 in
theorem older_any (h : Hd) (y : Int) (A : Option Addr) (n c : Nat) (l : List Int) (w : World) (hn : l.length = n) (hb : Bt w A l) (hl : n ≤ 5000) (h0 : 0 ≤ h.a) (h1 : h.a ≤ 3600) :
    Calls Try.prog 20 #[.agg #[.int .i64 h.a, .int .i64 h.o, .int .i64 h.t, .int .u32 h.i, .int .u32 h.v, .int .u32 h.q, .int .i64 h.s, .int .i64 h.n, .slice A n c], .int .i64 y] w fun e w' => ∃ A' c', e = .returned (.agg #[.int .i64 (old h y).a, .int .i64 (old h y).o, .int .i64 (old h y).t, .int .u32 (old h y).i, .int .u32 (old h y).v, .int .u32 (old h y).q, .int .i64 (old h y).s, .int .i64 (old h y).n, .slice A' n c']) ∧ Own .u8 5 w' w.heap.size A' c' l ∧ Below w.heap.size w w' := by
  obtain ⟨W0, hW0⟩ : ∃ V, w.alloc (.cells #[.int .i64 h.a, .int .i64 h.o, .int .i64 h.t, .int .u32 h.i, .int .u32 h.v, .int .u32 h.q, .int .i64 h.s, .int .i64 h.n, .slice A n c] 37) = V := ⟨_, rfl⟩
  have bW0 : Below w.heap.size w W0 := by rw [← hW0]; exact below_alloc1 _ _
  have sW0 : W0.heap.size = w.heap.size + 1 := by rw [← hW0]; simp
  have KX : Hid (∀ V, Below W0.heap.size W0 V → V.cell? ⟨w.heap.size, 0, none⟩ = some (.int .i64 h.a) ∧ V.cell? ⟨w.heap.size, 1, none⟩ = some (.int .i64 h.o) ∧ V.cell? ⟨w.heap.size, 2, none⟩ = some (.int .i64 h.t) ∧ V.cell? ⟨w.heap.size, 3, none⟩ = some (.int .u32 h.i) ∧ V.cell? ⟨w.heap.size, 4, none⟩ = some (.int .u32 h.v) ∧ V.cell? ⟨w.heap.size, 5, none⟩ = some (.int .u32 h.q) ∧ V.cell? ⟨w.heap.size, 6, none⟩ = some (.int .i64 h.s) ∧ V.cell? ⟨w.heap.size, 7, none⟩ = some (.int .i64 h.n) ∧ V.cell? ⟨w.heap.size, 8, none⟩ = some (.slice A n c)) := Lib.hid (fun V hV => kb9_new hW0 hV)
  obtain ⟨W1, hW1⟩ : ∃ V, W0.alloc (.cells #[Value.int .i64 0, .int .i64 0, .int .i64 0, .int .u32 0, .int .u32 0, .int .u32 0, .int .i64 0, .int .i64 0, .slice none 0 0] 37) = V := ⟨_, rfl⟩
  have bW1 : Below W0.heap.size W0 W1 := by rw [← hW1]; exact below_alloc1 _ _
  have sW1 : W1.heap.size = W0.heap.size + 1 := by rw [← hW1]; simp
  have KZ : Hid (∀ V, Below W1.heap.size W1 V → V.heap[w.heap.size + 1]? = some (.cells #[Value.int .i64 0, .int .i64 0, .int .i64 0, .int .u32 0, .int .u32 0, .int .u32 0, .int .i64 0, .int .i64 0, .slice none 0 0] 37)) :=
    Lib.hid (fun V hV => by rw [hV.block _ (by omega), ← hW1]; exact alloc_at _ _ _ (by omega))
  have HB : Hid (Below w.heap.size w W1) := Lib.hid (bW0.trans (bW1.mono bW0.size))
  have q0 := hb.step HB.out
  have hs1 : W1.heap.size = w.heap.size + 2 := by omega
  have HS1 := Lib.hid hs1
  have HN := Lib.hid hn
  have CC := copy_any h A n c l W1 hn q0 (by omega)
  obtain ⟨k0, k1, k2, k3, k4, k5, k6, k7, k8⟩ := KX.out _ bW1
  clear hb bW0 bW1 KX hn hs1 q0
  go_enter Try.func20, Try.ntmps20
  go_wp2_with fail
  refine CC.mono ?_
  rintro e Y1 ⟨A1, c1, rfl, o1, u1⟩
  clear k0 k1 k2 k3 k4 k5 k6 k7 k8 CC hW0 hW1 sW0 sW1
  obtain ⟨k, hk⟩ : ∃ k, Y1.heap.size = k := ⟨_, rfl⟩
  have hkb : w.heap.size + 2 ≤ k := by
    have := u1.size
    have := HS1.out
    omega
  obtain ⟨X1, hX1⟩ : ∃ V, Y1.alloc (.cells #[.int .i64 h.a, .int .i64 h.o, .int .i64 h.t, .int .u32 h.i, .int .u32 h.v, .int .u32 h.q, .int .i64 h.s, .int .i64 h.n, .slice A1 n c1] 37) = V := ⟨_, rfl⟩
  have v1 : Below Y1.heap.size Y1 X1 := by rw [← hX1]; exact below_alloc1 _ _
  have T1 : Below W1.heap.size W1 X1 := u1.trans (v1.mono u1.size)
  have g1 : X1.heap[k]? = some (.cells #[Value.int .i64 h.a, .int .i64 h.o, .int .i64 h.t, .int .u32 h.i, .int .u32 h.v, .int .u32 h.q, .int .i64 h.s, .int .i64 h.n, .slice A1 n c1] 37) := by rw [← hX1]; exact alloc_at _ _ _ hk.symm
  obtain ⟨a0, a1, a2, a3, a4, a5, a6, a7, a8, f0, f1, f2, f3, f4, f5, f6, f7, f8, hkl⟩ := kz9_at g1
  have p1 := o1.step v1
  have hne : w.heap.size + 1 ≠ k := by omega
  by_cases hy : 0 < y
  case neg =>
    have HE : Hid (old h y = h) := Lib.hid (by simp [old, hy])
    have hyy : ¬ (y > 0) := hy
    have z1 := KZ.out _ T1
    have KR := Lib.hid <| kz9_get z1 (Value.int .i64 h.a) (.int .i64 h.o) (.int .i64 h.t) (.int .u32 h.i) (.int .u32 h.v) (.int .u32 h.q) (.int .i64 h.s) (.int .i64 h.n) (.slice A1 n c1)
    have OF := Lib.hid <| (p1.far9 (b := w.heap.size + 1) (by have := HS1.out; omega) (Value.int .i64 h.a) (.int .i64 h.o) (.int .i64 h.t) (.int .u32 h.i) (.int .u32 h.v) (.int .u32 h.q) (.int .i64 h.s) (.int .i64 h.n) (.slice A1 n c1)).lower (base' := w.heap.size) (by have := HS1.out; omega)
    have TF := Lib.hid <| below_st9 (HB.out.trans (T1.mono HB.out.size)) (show w.heap.size ≤ w.heap.size + 1 by omega) (Value.int .i64 h.a) (.int .i64 h.o) (.int .i64 h.t) (.int .u32 h.i) (.int .u32 h.v) (.int .u32 h.q) (.int .i64 h.s) (.int .i64 h.n) (.slice A1 n c1)
    obtain ⟨b0, b1, b2, b3, b4, b5, b6, b7, b8, d0, d1, d2, d3, d4, d5, d6, d7, d8, hzl⟩ := kz9_at z1
    clear hy g1 p1 o1 z1 hne KZ
    try rw [hX1]
    try rw [hk]
    go_wp2
    obtain ⟨r0, r1, r2, r3, r4, r5, r6, r7, r8⟩ := KR.out
    refine bodyPost_ret (v := .agg #[.int .i64 h.a, .int .i64 h.o, .int .i64 h.t, .int .u32 h.i, .int .u32 h.v, .int .u32 h.q, .int .i64 h.s, .int .i64 h.n, .slice A1 n c1]) (by simp [results, Try.results20, go_sem, r0, r1, r2, r3, r4, r5, r6, r7, r8]) rfl ⟨A1, c1, ?_, OF.out, TF.out⟩
    rw [HE.out]
  have hyy : y > 0 := hy
  by_cases hq : y ≤ 3600 - h.a
  · have hq2 : ¬ (3600 - h.a < y) := by omega
    have hmin : min y (3600 - h.a) = y := by omega
    have HE : Hid (old h y = ⟨h.a + y, h.o, h.t, h.i, h.v, h.q, h.s, h.n⟩) := Lib.hid (by simp only [old, if_pos hy]; rw [hmin])
    clear hmin
    have hm1 : h.a + y ≤ 3600 := by omega
    have hm2 : 0 ≤ h.a + y := by omega
    obtain ⟨X2, hX2⟩ : ∃ V, X1.setCell ⟨k, 0, none⟩ (.int .i64 (h.a + y)) = V := ⟨_, rfl⟩
    have g2 : X2.heap[k]? = some (.cells #[Value.int .i64 (h.a + y), .int .i64 h.o, .int .i64 h.t, .int .u32 h.i, .int .u32 h.v, .int .u32 h.q, .int .i64 h.s, .int .i64 h.n, .slice A1 n c1] 37) := by rw [← hX2, block_setCell (i := 0) g1]; rfl
    have U2 : Below Y1.heap.size Y1 X2 := by rw [← hX2]; exact v1.setCell (p := ⟨k, 0, none⟩) (Nat.le_of_eq hk) _
    have T2 : Below W1.heap.size W1 X2 := u1.trans (U2.mono u1.size)
    have p2 := o1.below U2 (Nat.le_refl _)
    have z2 := KZ.out _ T2
    have KR := Lib.hid <| kz9_get z2 (Value.int .i64 (h.a + y)) (.int .i64 h.o) (.int .i64 h.t) (.int .u32 h.i) (.int .u32 h.v) (.int .u32 h.q) (.int .i64 h.s) (.int .i64 h.n) (.slice A1 n c1)
    have OF := Lib.hid <| (p2.far9 (b := w.heap.size + 1) (by have := HS1.out; omega) (Value.int .i64 (h.a + y)) (.int .i64 h.o) (.int .i64 h.t) (.int .u32 h.i) (.int .u32 h.v) (.int .u32 h.q) (.int .i64 h.s) (.int .i64 h.n) (.slice A1 n c1)).lower (base' := w.heap.size) (by have := HS1.out; omega)
    have TF := Lib.hid <| below_st9 (HB.out.trans (T2.mono HB.out.size)) (show w.heap.size ≤ w.heap.size + 1 by omega) (Value.int .i64 (h.a + y)) (.int .i64 h.o) (.int .i64 h.t) (.int .u32 h.i) (.int .u32 h.v) (.int .u32 h.q) (.int .i64 h.s) (.int .i64 h.n) (.slice A1 n c1)
    obtain ⟨x0, x1, x2, x3, x4, x5, x6, x7, x8, y0, y1, y2, y3, y4, y5, y6, y7, y8, hkl2⟩ := kz9_at g2
    obtain ⟨b0, b1, b2, b3, b4, b5, b6, b7, b8, d0, d1, d2, d3, d4, d5, d6, d7, d8, hzl⟩ := kz9_at z2
    clear hy g1 g2 p1 p2 o1 z2 KZ T2 U2 T1
    try rw [hX1]
    try rw [hk]
    go_wp2
    obtain ⟨r0, r1, r2, r3, r4, r5, r6, r7, r8⟩ := KR.out
    refine bodyPost_ret (v := .agg #[.int .i64 (h.a + y), .int .i64 h.o, .int .i64 h.t, .int .u32 h.i, .int .u32 h.v, .int .u32 h.q, .int .i64 h.s, .int .i64 h.n, .slice A1 n c1]) (by simp [results, Try.results20, go_sem, r0, r1, r2, r3, r4, r5, r6, r7, r8]) rfl ⟨A1, c1, ?_, OF.out, TF.out⟩
    rw [HE.out]
  · have hq3 : 3600 - h.a < y := by omega
    have hmin : min y (3600 - h.a) = (3600 - h.a) := by omega
    have HE : Hid (old h y = ⟨h.a + (3600 - h.a), h.o, h.t, h.i, h.v, h.q, h.s, h.n⟩) := Lib.hid (by simp only [old, if_pos hy]; rw [hmin])
    clear hmin
    have hm1 : h.a + (3600 - h.a) ≤ 3600 := by omega
    have hm2 : 0 ≤ h.a + (3600 - h.a) := by omega
    obtain ⟨X2, hX2⟩ : ∃ V, X1.setCell ⟨k, 0, none⟩ (.int .i64 (h.a + (3600 - h.a))) = V := ⟨_, rfl⟩
    have g2 : X2.heap[k]? = some (.cells #[Value.int .i64 (h.a + (3600 - h.a)), .int .i64 h.o, .int .i64 h.t, .int .u32 h.i, .int .u32 h.v, .int .u32 h.q, .int .i64 h.s, .int .i64 h.n, .slice A1 n c1] 37) := by rw [← hX2, block_setCell (i := 0) g1]; rfl
    have U2 : Below Y1.heap.size Y1 X2 := by rw [← hX2]; exact v1.setCell (p := ⟨k, 0, none⟩) (Nat.le_of_eq hk) _
    have T2 : Below W1.heap.size W1 X2 := u1.trans (U2.mono u1.size)
    have p2 := o1.below U2 (Nat.le_refl _)
    have z2 := KZ.out _ T2
    have KR := Lib.hid <| kz9_get z2 (Value.int .i64 (h.a + (3600 - h.a))) (.int .i64 h.o) (.int .i64 h.t) (.int .u32 h.i) (.int .u32 h.v) (.int .u32 h.q) (.int .i64 h.s) (.int .i64 h.n) (.slice A1 n c1)
    have OF := Lib.hid <| (p2.far9 (b := w.heap.size + 1) (by have := HS1.out; omega) (Value.int .i64 (h.a + (3600 - h.a))) (.int .i64 h.o) (.int .i64 h.t) (.int .u32 h.i) (.int .u32 h.v) (.int .u32 h.q) (.int .i64 h.s) (.int .i64 h.n) (.slice A1 n c1)).lower (base' := w.heap.size) (by have := HS1.out; omega)
    have TF := Lib.hid <| below_st9 (HB.out.trans (T2.mono HB.out.size)) (show w.heap.size ≤ w.heap.size + 1 by omega) (Value.int .i64 (h.a + (3600 - h.a))) (.int .i64 h.o) (.int .i64 h.t) (.int .u32 h.i) (.int .u32 h.v) (.int .u32 h.q) (.int .i64 h.s) (.int .i64 h.n) (.slice A1 n c1)
    obtain ⟨x0, x1, x2, x3, x4, x5, x6, x7, x8, y0, y1, y2, y3, y4, y5, y6, y7, y8, hkl2⟩ := kz9_at g2
    obtain ⟨b0, b1, b2, b3, b4, b5, b6, b7, b8, d0, d1, d2, d3, d4, d5, d6, d7, d8, hzl⟩ := kz9_at z2
    clear hy g1 g2 p1 p2 o1 z2 KZ T2 U2 T1
    try rw [hX1]
    try rw [hk]
    go_wp2
    obtain ⟨r0, r1, r2, r3, r4, r5, r6, r7, r8⟩ := KR.out
    refine bodyPost_ret (v := .agg #[.int .i64 (h.a + (3600 - h.a)), .int .i64 h.o, .int .i64 h.t, .int .u32 h.i, .int .u32 h.v, .int .u32 h.q, .int .i64 h.s, .int .i64 h.n, .slice A1 n c1]) (by simp [results, Try.results20, go_sem, r0, r1, r2, r3, r4, r5, r6, r7, r8]) rfl ⟨A1, c1, ?_, OF.out, TF.out⟩
    rw [HE.out]
end Go.Proofs.Ytodnhihpefhcdaa
