/-
  The contract of the reference's Older of an advertisement. No statement is proved here; no conditions.
-/
import Derived.Test.YtadcicmccdphkaaGreatG06
namespace Go.Proofs.YtadcicmccdphkaaGreat
open Go.RowKit Go.Joins

set_option maxRecDepth 100000 in
set_option maxHeartbeats 2000000 in
theorem rolder_any (h : Hd) (y : Int) (A : Option Addr) (n c : Nat) (w : World) (h0 : 0 ≤ h.a) (h1 : h.a ≤ 3600) :
  Calls Tryz.prog 58 #[.agg #[.int .i64 h.a, .int .i64 h.o, .int .i64 h.t, .int .u32 h.i, .int .u32 h.v, .int .u32 h.q, .int .i64 h.s, .int .i64 h.n, .slice A n c], .int .i64 y] w fun e w' => e = .returned (.agg #[.int .i64 (old h y).a, .int .i64 (old h y).o, .int .i64 (old h y).t, .int .u32 (old h y).i, .int .u32 (old h y).v, .int .u32 (old h y).q, .int .i64 (old h y).s, .int .i64 (old h y).n, .slice A n c]) ∧ Below w.heap.size w w' := by
 obtain ⟨W0, hW0⟩ : ∃ V, w.alloc (.cells #[.int .i64 h.a, .int .i64 h.o, .int .i64 h.t, .int .u32 h.i, .int .u32 h.v, .int .u32 h.q, .int .i64 h.s, .int .i64 h.n, .slice A n c] 40) = V := ⟨_, rfl⟩
 have bW0 : Below w.heap.size w W0 := by rw [← hW0]; exact below_alloc1 _ _
 have sW0 : W0.heap.size = w.heap.size + 1 := by rw [← hW0]; simp
 have gW0 : W0.heap[w.heap.size]? = some (.cells #[.int .i64 h.a, .int .i64 h.o, .int .i64 h.t, .int .u32 h.i, .int .u32 h.v, .int .u32 h.q, .int .i64 h.s, .int .i64 h.n, .slice A n c] 40) := by rw [← hW0]; exact alloc_at _ _ _ rfl
 obtain ⟨W1, hW1⟩ : ∃ V, W0.alloc (.cells #[Value.int .i64 0, .int .i64 0, .int .i64 0, .int .u32 0, .int .u32 0, .int .u32 0, .int .i64 0, .int .i64 0, .slice none 0 0] 40) = V := ⟨_, rfl⟩
 have bW1 : Below W0.heap.size W0 W1 := by rw [← hW1]; exact below_alloc1 _ _
 have sW1 : W1.heap.size = W0.heap.size + 1 := by rw [← hW1]; simp
 have g1 : W1.heap[w.heap.size]? = some (.cells #[.int .i64 h.a, .int .i64 h.o, .int .i64 h.t, .int .u32 h.i, .int .u32 h.v, .int .u32 h.q, .int .i64 h.s, .int .i64 h.n, .slice A n c] 40) := (bW1.block _ (by omega)).trans gW0
 have z1 : W1.heap[w.heap.size + 1]? = some (.cells #[Value.int .i64 0, .int .i64 0, .int .i64 0, .int .u32 0, .int .u32 0, .int .u32 0, .int .i64 0, .int .i64 0, .slice none 0 0] 40) := by rw [← hW1]; exact alloc_at _ _ _ (by omega)
 have HB : Hid (Below w.heap.size w W1) := Lib.hid (bW0.trans (bW1.mono bW0.size))
 have hs1 : W1.heap.size = w.heap.size + 2 := by omega
 have HS1 := Lib.hid hs1
 obtain ⟨a0, a1, a2, a3, a4, a5, a6, a7, a8, f0, f1, f2, f3, f4, f5, f6, f7, f8, hkl⟩ := kz9_at g1
 have T1 : Below W1.heap.size W1 W1 := Below.refl _ _
 clear bW0 bW1 gW0
 by_cases hy : 0 < y
 case neg =>
  have HE : Hid (old h y = h) := Lib.hid (by simp [old, hy])
  have hyy : ¬ (y > 0) := hy
  have KR := Lib.hid <| kz9_get z1 (Value.int .i64 h.a) (.int .i64 h.o) (.int .i64 h.t) (.int .u32 h.i) (.int .u32 h.v) (.int .u32 h.q) (.int .i64 h.s) (.int .i64 h.n) (.slice A n c)
  have TF := Lib.hid <| below_st9 (HB.out.trans (T1.mono HB.out.size)) (show w.heap.size ≤ w.heap.size + 1 by omega) (Value.int .i64 h.a) (.int .i64 h.o) (.int .i64 h.t) (.int .u32 h.i) (.int .u32 h.v) (.int .u32 h.q) (.int .i64 h.s) (.int .i64 h.n) (.slice A n c)
  obtain ⟨b0, b1, b2, b3, b4, b5, b6, b7, b8, d0, d1, d2, d3, d4, d5, d6, d7, d8, hzl⟩ := kz9_at z1
  clear hy g1 z1 T1 hs1 sW1
  go_enter Tryz.func58, Tryz.ntmps58
  go_wp2
  obtain ⟨r0, r1, r2, r3, r4, r5, r6, r7, r8⟩ := KR.out
  refine bodyPost_ret (v := .agg #[.int .i64 h.a, .int .i64 h.o, .int .i64 h.t, .int .u32 h.i, .int .u32 h.v, .int .u32 h.q, .int .i64 h.s, .int .i64 h.n, .slice A n c]) (by simp [results, Tryz.results58, go_sem, r0, r1, r2, r3, r4, r5, r6, r7, r8]) rfl ⟨?_, TF.out⟩
  rw [HE.out]
 have hyy : y > 0 := hy
 by_cases hq : y ≤ 3600
 ·have hq1 : ¬ (3600 < y) := by omega
  by_cases hp : h.a + y ≤ 3600
  ·have hp1 : ¬ (3600 < h.a + y) := by omega
   have HE : Hid (old h y = ⟨h.a + y, h.o, h.t, h.i, h.v, h.q, h.s, h.n⟩) := Lib.hid (by simp only [old, if_pos hy]; congr 1; omega)
   obtain ⟨X2, hX2⟩ : ∃ V, W1.setCell ⟨w.heap.size, 0, none⟩ (.int .i64 (h.a + y)) = V := ⟨_, rfl⟩
   have g2 : X2.heap[w.heap.size]? = some (.cells #[Value.int .i64 (h.a + y), .int .i64 h.o, .int .i64 h.t, .int .u32 h.i, .int .u32 h.v, .int .u32 h.q, .int .i64 h.s, .int .i64 h.n, .slice A n c] 40) := by rw [← hX2, block_setCell (i := 0) g1]; rfl
   have z2 : X2.heap[w.heap.size + 1]? = some (.cells #[Value.int .i64 0, .int .i64 0, .int .i64 0, .int .u32 0, .int .u32 0, .int .u32 0, .int .i64 0, .int .i64 0, .slice none 0 0] 40) := by rw [← hX2]; exact (Below.heap_setCell _ _ _ _ (by simp)).trans z1
   have HBX : Hid (Below w.heap.size w X2) := Lib.hid (by rw [← hX2]; exact HB.out.setCell (p := ⟨w.heap.size, 0, none⟩) (Nat.le_refl _) _)
   have KR := Lib.hid <| kz9_get z2 (Value.int .i64 (h.a + y)) (.int .i64 h.o) (.int .i64 h.t) (.int .u32 h.i) (.int .u32 h.v) (.int .u32 h.q) (.int .i64 h.s) (.int .i64 h.n) (.slice A n c)
   have TF := Lib.hid <| below_st9 HBX.out (show w.heap.size ≤ w.heap.size + 1 by omega) (Value.int .i64 (h.a + y)) (.int .i64 h.o) (.int .i64 h.t) (.int .u32 h.i) (.int .u32 h.v) (.int .u32 h.q) (.int .i64 h.s) (.int .i64 h.n) (.slice A n c)
   obtain ⟨x0, x1, x2, x3, x4, x5, x6, x7, x8, y0, y1, y2, y3, y4, y5, y6, y7, y8, hkl2⟩ := kz9_at g2
   obtain ⟨b0, b1, b2, b3, b4, b5, b6, b7, b8, d0, d1, d2, d3, d4, d5, d6, d7, d8, hzl⟩ := kz9_at z2
   have hr : h.a + y ≤ 100000 := by omega
   have hr0 : 0 ≤ h.a + y := by omega
   clear hy g1 g2 z1 z2 T1 hs1 sW1 hq hp
   go_enter Tryz.func58, Tryz.ntmps58
   go_wp2
   obtain ⟨r0, r1, r2, r3, r4, r5, r6, r7, r8⟩ := KR.out
   refine bodyPost_ret (v := .agg #[.int .i64 (h.a + y), .int .i64 h.o, .int .i64 h.t, .int .u32 h.i, .int .u32 h.v, .int .u32 h.q, .int .i64 h.s, .int .i64 h.n, .slice A n c]) (by simp [results, Tryz.results58, go_sem, r0, r1, r2, r3, r4, r5, r6, r7, r8]) rfl ⟨?_, TF.out⟩
   rw [HE.out]
  have hp1 : 3600 < h.a + y := by omega
  have HE : Hid (old h y = ⟨3600, h.o, h.t, h.i, h.v, h.q, h.s, h.n⟩) := Lib.hid (by simp only [old, if_pos hy]; congr 1; omega)
  obtain ⟨X2, hX2⟩ : ∃ V, W1.setCell ⟨w.heap.size, 0, none⟩ (.int .i64 (3600)) = V := ⟨_, rfl⟩
  have g2 : X2.heap[w.heap.size]? = some (.cells #[Value.int .i64 (3600), .int .i64 h.o, .int .i64 h.t, .int .u32 h.i, .int .u32 h.v, .int .u32 h.q, .int .i64 h.s, .int .i64 h.n, .slice A n c] 40) := by rw [← hX2, block_setCell (i := 0) g1]; rfl
  have z2 : X2.heap[w.heap.size + 1]? = some (.cells #[Value.int .i64 0, .int .i64 0, .int .i64 0, .int .u32 0, .int .u32 0, .int .u32 0, .int .i64 0, .int .i64 0, .slice none 0 0] 40) := by rw [← hX2]; exact (Below.heap_setCell _ _ _ _ (by simp)).trans z1
  have HBX : Hid (Below w.heap.size w X2) := Lib.hid (by rw [← hX2]; exact HB.out.setCell (p := ⟨w.heap.size, 0, none⟩) (Nat.le_refl _) _)
  have KR := Lib.hid <| kz9_get z2 (Value.int .i64 (3600)) (.int .i64 h.o) (.int .i64 h.t) (.int .u32 h.i) (.int .u32 h.v) (.int .u32 h.q) (.int .i64 h.s) (.int .i64 h.n) (.slice A n c)
  have TF := Lib.hid <| below_st9 HBX.out (show w.heap.size ≤ w.heap.size + 1 by omega) (Value.int .i64 (3600)) (.int .i64 h.o) (.int .i64 h.t) (.int .u32 h.i) (.int .u32 h.v) (.int .u32 h.q) (.int .i64 h.s) (.int .i64 h.n) (.slice A n c)
  obtain ⟨x0, x1, x2, x3, x4, x5, x6, x7, x8, y0, y1, y2, y3, y4, y5, y6, y7, y8, hkl2⟩ := kz9_at g2
  obtain ⟨b0, b1, b2, b3, b4, b5, b6, b7, b8, d0, d1, d2, d3, d4, d5, d6, d7, d8, hzl⟩ := kz9_at z2
  have hr : h.a + y ≤ 100000 := by omega
  have hr0 : 0 ≤ h.a + y := by omega
  clear hy g1 g2 z1 z2 T1 hs1 sW1 hq hp
  go_enter Tryz.func58, Tryz.ntmps58
  go_wp2
  obtain ⟨r0, r1, r2, r3, r4, r5, r6, r7, r8⟩ := KR.out
  refine bodyPost_ret (v := .agg #[.int .i64 (3600), .int .i64 h.o, .int .i64 h.t, .int .u32 h.i, .int .u32 h.v, .int .u32 h.q, .int .i64 h.s, .int .i64 h.n, .slice A n c]) (by simp [results, Tryz.results58, go_sem, r0, r1, r2, r3, r4, r5, r6, r7, r8]) rfl ⟨?_, TF.out⟩
  rw [HE.out]
 have hq1 : 3600 < y := by omega
 by_cases hp : h.a + 3600 ≤ 3600
 ·have hp1 : ¬ (3600 < h.a + 3600) := by omega
  have HE : Hid (old h y = ⟨h.a + 3600, h.o, h.t, h.i, h.v, h.q, h.s, h.n⟩) := Lib.hid (by simp only [old, if_pos hy]; congr 1; omega)
  obtain ⟨X2, hX2⟩ : ∃ V, W1.setCell ⟨w.heap.size, 0, none⟩ (.int .i64 (h.a + 3600)) = V := ⟨_, rfl⟩
  have g2 : X2.heap[w.heap.size]? = some (.cells #[Value.int .i64 (h.a + 3600), .int .i64 h.o, .int .i64 h.t, .int .u32 h.i, .int .u32 h.v, .int .u32 h.q, .int .i64 h.s, .int .i64 h.n, .slice A n c] 40) := by rw [← hX2, block_setCell (i := 0) g1]; rfl
  have z2 : X2.heap[w.heap.size + 1]? = some (.cells #[Value.int .i64 0, .int .i64 0, .int .i64 0, .int .u32 0, .int .u32 0, .int .u32 0, .int .i64 0, .int .i64 0, .slice none 0 0] 40) := by rw [← hX2]; exact (Below.heap_setCell _ _ _ _ (by simp)).trans z1
  have HBX : Hid (Below w.heap.size w X2) := Lib.hid (by rw [← hX2]; exact HB.out.setCell (p := ⟨w.heap.size, 0, none⟩) (Nat.le_refl _) _)
  have KR := Lib.hid <| kz9_get z2 (Value.int .i64 (h.a + 3600)) (.int .i64 h.o) (.int .i64 h.t) (.int .u32 h.i) (.int .u32 h.v) (.int .u32 h.q) (.int .i64 h.s) (.int .i64 h.n) (.slice A n c)
  have TF := Lib.hid <| below_st9 HBX.out (show w.heap.size ≤ w.heap.size + 1 by omega) (Value.int .i64 (h.a + 3600)) (.int .i64 h.o) (.int .i64 h.t) (.int .u32 h.i) (.int .u32 h.v) (.int .u32 h.q) (.int .i64 h.s) (.int .i64 h.n) (.slice A n c)
  obtain ⟨x0, x1, x2, x3, x4, x5, x6, x7, x8, y0, y1, y2, y3, y4, y5, y6, y7, y8, hkl2⟩ := kz9_at g2
  obtain ⟨b0, b1, b2, b3, b4, b5, b6, b7, b8, d0, d1, d2, d3, d4, d5, d6, d7, d8, hzl⟩ := kz9_at z2
  have hr : h.a + 3600 ≤ 100000 := by omega
  have hr0 : 0 ≤ h.a + 3600 := by omega
  clear hy g1 g2 z1 z2 T1 hs1 sW1 hq hp
  go_enter Tryz.func58, Tryz.ntmps58
  go_wp2
  obtain ⟨r0, r1, r2, r3, r4, r5, r6, r7, r8⟩ := KR.out
  refine bodyPost_ret (v := .agg #[.int .i64 (h.a + 3600), .int .i64 h.o, .int .i64 h.t, .int .u32 h.i, .int .u32 h.v, .int .u32 h.q, .int .i64 h.s, .int .i64 h.n, .slice A n c]) (by simp [results, Tryz.results58, go_sem, r0, r1, r2, r3, r4, r5, r6, r7, r8]) rfl ⟨?_, TF.out⟩
  rw [HE.out]
 have hp1 : 3600 < h.a + 3600 := by omega
 have HE : Hid (old h y = ⟨3600, h.o, h.t, h.i, h.v, h.q, h.s, h.n⟩) := Lib.hid (by simp only [old, if_pos hy]; congr 1; omega)
 obtain ⟨X2, hX2⟩ : ∃ V, W1.setCell ⟨w.heap.size, 0, none⟩ (.int .i64 (3600)) = V := ⟨_, rfl⟩
 have g2 : X2.heap[w.heap.size]? = some (.cells #[Value.int .i64 (3600), .int .i64 h.o, .int .i64 h.t, .int .u32 h.i, .int .u32 h.v, .int .u32 h.q, .int .i64 h.s, .int .i64 h.n, .slice A n c] 40) := by rw [← hX2, block_setCell (i := 0) g1]; rfl
 have z2 : X2.heap[w.heap.size + 1]? = some (.cells #[Value.int .i64 0, .int .i64 0, .int .i64 0, .int .u32 0, .int .u32 0, .int .u32 0, .int .i64 0, .int .i64 0, .slice none 0 0] 40) := by rw [← hX2]; exact (Below.heap_setCell _ _ _ _ (by simp)).trans z1
 have HBX : Hid (Below w.heap.size w X2) := Lib.hid (by rw [← hX2]; exact HB.out.setCell (p := ⟨w.heap.size, 0, none⟩) (Nat.le_refl _) _)
 have KR := Lib.hid <| kz9_get z2 (Value.int .i64 (3600)) (.int .i64 h.o) (.int .i64 h.t) (.int .u32 h.i) (.int .u32 h.v) (.int .u32 h.q) (.int .i64 h.s) (.int .i64 h.n) (.slice A n c)
 have TF := Lib.hid <| below_st9 HBX.out (show w.heap.size ≤ w.heap.size + 1 by omega) (Value.int .i64 (3600)) (.int .i64 h.o) (.int .i64 h.t) (.int .u32 h.i) (.int .u32 h.v) (.int .u32 h.q) (.int .i64 h.s) (.int .i64 h.n) (.slice A n c)
 obtain ⟨x0, x1, x2, x3, x4, x5, x6, x7, x8, y0, y1, y2, y3, y4, y5, y6, y7, y8, hkl2⟩ := kz9_at g2
 obtain ⟨b0, b1, b2, b3, b4, b5, b6, b7, b8, d0, d1, d2, d3, d4, d5, d6, d7, d8, hzl⟩ := kz9_at z2
 have hr : h.a + 3600 ≤ 100000 := by omega
 have hr0 : 0 ≤ h.a + 3600 := by omega
 clear hy g1 g2 z1 z2 T1 hs1 sW1 hq hp
 go_enter Tryz.func58, Tryz.ntmps58
 go_wp2
 obtain ⟨r0, r1, r2, r3, r4, r5, r6, r7, r8⟩ := KR.out
 refine bodyPost_ret (v := .agg #[.int .i64 (3600), .int .i64 h.o, .int .i64 h.t, .int .u32 h.i, .int .u32 h.v, .int .u32 h.q, .int .i64 h.s, .int .i64 h.n, .slice A n c]) (by simp [results, Tryz.results58, go_sem, r0, r1, r2, r3, r4, r5, r6, r7, r8]) rfl ⟨?_, TF.out⟩
 rw [HE.out]
end Go.Proofs.YtadcicmccdphkaaGreat
