/-
  The contract of body.only at summaries, externals and networks. No statement is proved here; no conditions.
-/
import Derived.Test.YtadcicmccdphkaaGreatG17
namespace Go.Proofs.YtadcicmccdphkaaGreat
open Go.RowKit Go.Joins

theorem enters_Summary (args : Array Value) (w' : World) : (callFunc 105 args).run Tryz.prog w' = .ok (.enter 105 args) w' := by simp [callFunc, Tryz.func105, Tryz.f105, mark]
set_option maxRecDepth 100000 in
set_option maxHeartbeats 4000000 in
theorem only_s (m x : Int) (B : Option Addr) (k d : Nat) (b : List Int) (w : World) (hm0 : 0 ≤ m) (hm1 : m < 4294967296) (hk : b.length = k) (hB : Bt w B b) (hy : Byt b) :
  Calls Tryz.prog 104 #[.agg #[.int .u32 m, .int .i64 x], .func (.func 105) #[] #[], .slice B k d] w fun e w' => e = .returned (if encSE m x = 0 ∧ encSL m x = b then .tuple #[.agg #[.int .u32 m, .int .i64 x], .int .i64 0] else .tuple #[.agg #[Value.int .u32 0, .int .i64 0], .int .i64 3]) ∧ Below w.heap.size w w' := by
 obtain ⟨W0, hW0⟩ : ∃ V, w.alloc (.cells #[.int .u32 m, .int .i64 x] 130) = V := ⟨_, rfl⟩
 have bW0 : Below w.heap.size w W0 := by rw [← hW0]; exact below_alloc1 _ _
 have sW0 : W0.heap.size = w.heap.size + 1 := by rw [← hW0]; simp
 have KX : Hid (∀ V, Below W0.heap.size W0 V → V.cell? ⟨w.heap.size, 0, none⟩ = some (.int .u32 m) ∧ V.cell? ⟨w.heap.size, 1, none⟩ = some (.int .i64 x)) := Lib.hid (fun V hV => kb2_new hW0 hV)
 obtain ⟨W1, hW1⟩ : ∃ V, W0.alloc (.cells #[Value.int .u32 0, .int .i64 0] 130) = V := ⟨_, rfl⟩
 have bW1 : Below W0.heap.size W0 W1 := by rw [← hW1]; exact below_alloc1 _ _
 have sW1 : W1.heap.size = W0.heap.size + 1 := by rw [← hW1]; simp
 have KZ : Hid (∀ V, Below W1.heap.size W1 V → V.heap[w.heap.size + 1]? = some (.cells #[Value.int .u32 0, .int .i64 0] 130)) :=
  Lib.hid (fun V hV => by rw [hV.block _ (by omega), ← hW1]; exact alloc_at _ _ _ (by omega))
 have HB : Hid (Below w.heap.size w W1) := Lib.hid (bW0.trans (bW1.mono bW0.size))
 have q0 := hB.step HB.out
 have CW := summary_any m x W1 hm0 hm1
 have hf := enters_Summary #[.agg #[.int .u32 m, .int .i64 x]] W1
 have HZ : Hid (w.heap.size ≤ w.heap.size + 1) := Lib.hid (by omega)
 have KR : Hid (∀ V, Below W1.heap.size W1 V → V.cell? ⟨w.heap.size, 0, none⟩ = some (.int .u32 m) ∧ V.cell? ⟨w.heap.size, 1, none⟩ = some (.int .i64 x)) := Lib.hid (fun V hV => KX.out V (bW1.trans (hV.mono bW1.size)))
 obtain ⟨k0, k1⟩ := KR.out _ (Below.refl _ _)
 have s1 : W1.heap.size = w.heap.size + 2 := by omega
 have S1 := Lib.hid s1
 have HK := Lib.hid hk
 have yE : Byt (encSL m x) := by unfold encSL; split; exact enS_byt _ _; intro z hz; cases hz
 have HE : Hid (encSE m x = 0 ∨ encSE m x = 1) := Lib.hid (by unfold encSE; split <;> simp)
 generalize encSE m x = X at *
 generalize encSL m x = M at *
 obtain ⟨mm, hmm⟩ : ∃ mm, M.length = mm := ⟨_, rfl⟩
 rw [hmm] at CW
 have HM := Lib.hid hmm
 clear hB bW0 bW1 KX s1 hk hmm sW1
 by_cases hX : X = 1
 ·subst hX
  have hno : ¬ ((1 : Int) = 0 ∧ M = b) := by omega
  rw [if_neg hno]
  clear hno HE
  go_enter Tryz.func104, Tryz.ntmps104
  go_wp2_with fail
  refine CW.mono ?_
  rintro e Y1 ⟨A1, c1, rfl, -, u1⟩
  clear sW0
  have HY : Hid (Below w.heap.size w Y1) := Lib.hid (HB.out.trans (u1.mono HB.out.size))
  obtain ⟨Z1, hZ1⟩ : ∃ V, Y1.alloc (.cells #[Value.int .u32 0, .int .i64 0] 130) = V := ⟨_, rfl⟩
  have v1 : Below Y1.heap.size Y1 Z1 := by rw [← hZ1]; exact below_alloc1 _ _
  have kz2 := KZ.out _ (u1.trans (v1.mono u1.size))
  obtain ⟨a0, a1, f0, f1, hzl⟩ := kz2_at kz2
  have KG := Lib.hid <| kz2_get kz2 (Value.int .u32 0) (.int .i64 0)
  have TF := Lib.hid <| below_st2 (b := w.heap.size + 1) (HY.out.trans (v1.mono HY.out.size)) HZ.out (Value.int .u32 0) (.int .i64 0)
  obtain ⟨o0, o1⟩ := kb2_new hZ1 (Below.refl _ _)
  clear CW u1 v1 k0 k1 hf kz2 KZ KR
  subst hZ1
  go_wp2
  obtain ⟨r0, r1⟩ := KG.out
  refine bodyPost_ret (v := .tuple #[.agg #[Value.int .u32 0, .int .i64 0], .int .i64 3]) (by simp [results, Tryz.results104, go_sem, r0, r1]) rfl ⟨rfl, TF.out⟩
 obtain rfl : X = 0 := by have := HE.out; omega
 by_cases hMb : M = b
 ·have hyes : (0 : Int) = 0 ∧ M = b := ⟨rfl, hMb⟩
  rw [if_pos hyes]
  have hd : decide (M = b) = true := by simpa using hMb
  have HD := Lib.hid hd
  clear hyes HE hMb hd
  go_enter Tryz.func104, Tryz.ntmps104
  go_wp2_with fail
  refine CW.mono ?_
  rintro e Y1 ⟨A1, c1, rfl, o1, u1⟩
  clear sW0 k0 k1
  go_wp2_with fail
  refine (equal_any _ _ _ _ _ _ M b _ HM.out HK.out o1.bs (q0.step u1) yE hy).mono ?_
  rintro e _ ⟨rfl, rfl⟩
  rw [HD.out]
  have HY : Hid (Below w.heap.size w Y1) := Lib.hid (HB.out.trans (u1.mono HB.out.size))
  have kz2 := KZ.out _ u1
  obtain ⟨a0, a1, f0, f1, hzl⟩ := kz2_at kz2
  have KG := Lib.hid <| kz2_get kz2 (Value.int .u32 m) (.int .i64 x)
  have TF := Lib.hid <| below_st2 (b := w.heap.size + 1) HY.out HZ.out (Value.int .u32 m) (.int .i64 x)
  obtain ⟨g0, g1⟩ := KR.out _ u1
  clear CW u1 hf kz2 KZ KR o1
  go_wp2
  obtain ⟨r0, r1⟩ := KG.out
  refine bodyPost_ret (v := .tuple #[.agg #[.int .u32 m, .int .i64 x], .int .i64 0]) (by simp [results, Tryz.results104, go_sem, r0, r1]) rfl ⟨rfl, TF.out⟩
 ·have hno : ¬ ((0 : Int) = 0 ∧ M = b) := fun h => hMb h.2
  rw [if_neg hno]
  have hd : decide (M = b) = false := by simpa using hMb
  have HD := Lib.hid hd
  clear hno HE hMb hd
  go_enter Tryz.func104, Tryz.ntmps104
  go_wp2_with fail
  refine CW.mono ?_
  rintro e Y1 ⟨A1, c1, rfl, o1, u1⟩
  clear sW0
  go_wp2_with fail
  refine (equal_any _ _ _ _ _ _ M b _ HM.out HK.out o1.bs (q0.step u1) yE hy).mono ?_
  rintro e _ ⟨rfl, rfl⟩
  rw [HD.out]
  clear o1
  have HY : Hid (Below w.heap.size w Y1) := Lib.hid (HB.out.trans (u1.mono HB.out.size))
  obtain ⟨Z1, hZ1⟩ : ∃ V, Y1.alloc (.cells #[Value.int .u32 0, .int .i64 0] 130) = V := ⟨_, rfl⟩
  have v1 : Below Y1.heap.size Y1 Z1 := by rw [← hZ1]; exact below_alloc1 _ _
  have kz2 := KZ.out _ (u1.trans (v1.mono u1.size))
  obtain ⟨a0, a1, f0, f1, hzl⟩ := kz2_at kz2
  have KG := Lib.hid <| kz2_get kz2 (Value.int .u32 0) (.int .i64 0)
  have TF := Lib.hid <| below_st2 (b := w.heap.size + 1) (HY.out.trans (v1.mono HY.out.size)) HZ.out (Value.int .u32 0) (.int .i64 0)
  obtain ⟨o0, o1⟩ := kb2_new hZ1 (Below.refl _ _)
  clear CW u1 v1 k0 k1 hf kz2 KZ KR
  subst hZ1
  go_wp2
  obtain ⟨r0, r1⟩ := KG.out
  refine bodyPost_ret (v := .tuple #[.agg #[Value.int .u32 0, .int .i64 0], .int .i64 3]) (by simp [results, Tryz.results104, go_sem, r0, r1]) rfl ⟨rfl, TF.out⟩
theorem enters_External (args : Array Value) (w' : World) : (callFunc 107 args).run Tryz.prog w' = .ok (.enter 107 args) w' := by simp [callFunc, Tryz.func107, Tryz.f107, mark]
set_option maxRecDepth 100000 in
set_option maxHeartbeats 4000000 in
theorem only_x (x : Xb) (B : Option Addr) (k d : Nat) (b : List Int) (w : World) (ok : Okx x) (hk : b.length = k) (hB : Bt w B b) (hy : Byt b) :
  Calls Tryz.prog 106 #[.agg #[.int .u32 x.m, .bool x.s, .int .i64 x.c, .int .u32 x.f, .int .u32 x.t], .func (.func 107) #[] #[], .slice B k d] w fun e w' => e = .returned (if encXE x = 0 ∧ encXL x = b then .tuple #[.agg #[.int .u32 x.m, .bool x.s, .int .i64 x.c, .int .u32 x.f, .int .u32 x.t], .int .i64 0] else .tuple #[.agg #[Value.int .u32 0, .bool false, .int .i64 0, .int .u32 0, .int .u32 0], .int .i64 3]) ∧ Below w.heap.size w w' := by
 obtain ⟨W0, hW0⟩ : ∃ V, w.alloc (.cells #[.int .u32 x.m, .bool x.s, .int .i64 x.c, .int .u32 x.f, .int .u32 x.t] 133) = V := ⟨_, rfl⟩
 have bW0 : Below w.heap.size w W0 := by rw [← hW0]; exact below_alloc1 _ _
 have sW0 : W0.heap.size = w.heap.size + 1 := by rw [← hW0]; simp
 have KX : Hid (∀ V, Below W0.heap.size W0 V → V.cell? ⟨w.heap.size, 0, none⟩ = some (.int .u32 x.m) ∧ V.cell? ⟨w.heap.size, 1, none⟩ = some (.bool x.s) ∧ V.cell? ⟨w.heap.size, 2, none⟩ = some (.int .i64 x.c) ∧ V.cell? ⟨w.heap.size, 3, none⟩ = some (.int .u32 x.f) ∧ V.cell? ⟨w.heap.size, 4, none⟩ = some (.int .u32 x.t)) := Lib.hid (fun V hV => kb5_new hW0 hV)
 obtain ⟨W1, hW1⟩ : ∃ V, W0.alloc (.cells #[Value.int .u32 0, .bool false, .int .i64 0, .int .u32 0, .int .u32 0] 133) = V := ⟨_, rfl⟩
 have bW1 : Below W0.heap.size W0 W1 := by rw [← hW1]; exact below_alloc1 _ _
 have sW1 : W1.heap.size = W0.heap.size + 1 := by rw [← hW1]; simp
 have KZ : Hid (∀ V, Below W1.heap.size W1 V → V.heap[w.heap.size + 1]? = some (.cells #[Value.int .u32 0, .bool false, .int .i64 0, .int .u32 0, .int .u32 0] 133)) :=
  Lib.hid (fun V hV => by rw [hV.block _ (by omega), ← hW1]; exact alloc_at _ _ _ (by omega))
 have HB : Hid (Below w.heap.size w W1) := Lib.hid (bW0.trans (bW1.mono bW0.size))
 have q0 := hB.step HB.out
 have CW := external_any x W1 ok
 have hf := enters_External #[.agg #[.int .u32 x.m, .bool x.s, .int .i64 x.c, .int .u32 x.f, .int .u32 x.t]] W1
 have HZ : Hid (w.heap.size ≤ w.heap.size + 1) := Lib.hid (by omega)
 have KR : Hid (∀ V, Below W1.heap.size W1 V → V.cell? ⟨w.heap.size, 0, none⟩ = some (.int .u32 x.m) ∧ V.cell? ⟨w.heap.size, 1, none⟩ = some (.bool x.s) ∧ V.cell? ⟨w.heap.size, 2, none⟩ = some (.int .i64 x.c) ∧ V.cell? ⟨w.heap.size, 3, none⟩ = some (.int .u32 x.f) ∧ V.cell? ⟨w.heap.size, 4, none⟩ = some (.int .u32 x.t)) := Lib.hid (fun V hV => KX.out V (bW1.trans (hV.mono bW1.size)))
 obtain ⟨k0, k1, k2, k3, k4⟩ := KR.out _ (Below.refl _ _)
 have s1 : W1.heap.size = w.heap.size + 2 := by omega
 have S1 := Lib.hid s1
 have HK := Lib.hid hk
 have yE : Byt (encXL x) := by unfold encXL; split; exact enX_byt _; intro z hz; cases hz
 have HE : Hid (encXE x = 0 ∨ encXE x = 1) := Lib.hid (by unfold encXE; split <;> simp)
 generalize encXE x = X at *
 generalize encXL x = M at *
 obtain ⟨mm, hmm⟩ : ∃ mm, M.length = mm := ⟨_, rfl⟩
 rw [hmm] at CW
 have HM := Lib.hid hmm
 clear hB bW0 bW1 KX s1 hk hmm sW1
 by_cases hX : X = 1
 ·subst hX
  have hno : ¬ ((1 : Int) = 0 ∧ M = b) := by omega
  rw [if_neg hno]
  clear hno HE
  go_enter Tryz.func106, Tryz.ntmps106
  go_wp2_with fail
  refine CW.mono ?_
  rintro e Y1 ⟨A1, c1, rfl, -, u1⟩
  clear sW0
  have HY : Hid (Below w.heap.size w Y1) := Lib.hid (HB.out.trans (u1.mono HB.out.size))
  obtain ⟨Z1, hZ1⟩ : ∃ V, Y1.alloc (.cells #[Value.int .u32 0, .bool false, .int .i64 0, .int .u32 0, .int .u32 0] 133) = V := ⟨_, rfl⟩
  have v1 : Below Y1.heap.size Y1 Z1 := by rw [← hZ1]; exact below_alloc1 _ _
  have kz2 := KZ.out _ (u1.trans (v1.mono u1.size))
  obtain ⟨a0, a1, a2, a3, a4, f0, f1, f2, f3, f4, hzl⟩ := kz5_at kz2
  have KG := Lib.hid <| kz5_get kz2 (Value.int .u32 0) (.bool false) (.int .i64 0) (.int .u32 0) (.int .u32 0)
  have TF := Lib.hid <| below_st5 (b := w.heap.size + 1) (HY.out.trans (v1.mono HY.out.size)) HZ.out (Value.int .u32 0) (.bool false) (.int .i64 0) (.int .u32 0) (.int .u32 0)
  obtain ⟨o0, o1, o2, o3, o4⟩ := kb5_new hZ1 (Below.refl _ _)
  clear CW u1 v1 k0 k1 k2 k3 k4 hf kz2 KZ KR
  subst hZ1
  go_wp2
  obtain ⟨r0, r1, r2, r3, r4⟩ := KG.out
  refine bodyPost_ret (v := .tuple #[.agg #[Value.int .u32 0, .bool false, .int .i64 0, .int .u32 0, .int .u32 0], .int .i64 3]) (by simp [results, Tryz.results106, go_sem, r0, r1, r2, r3, r4]) rfl ⟨rfl, TF.out⟩
 obtain rfl : X = 0 := by have := HE.out; omega
 by_cases hMb : M = b
 ·have hyes : (0 : Int) = 0 ∧ M = b := ⟨rfl, hMb⟩
  rw [if_pos hyes]
  have hd : decide (M = b) = true := by simpa using hMb
  have HD := Lib.hid hd
  clear hyes HE hMb hd
  go_enter Tryz.func106, Tryz.ntmps106
  go_wp2_with fail
  refine CW.mono ?_
  rintro e Y1 ⟨A1, c1, rfl, o1, u1⟩
  clear sW0 k0 k1 k2 k3 k4
  go_wp2_with fail
  refine (equal_any _ _ _ _ _ _ M b _ HM.out HK.out o1.bs (q0.step u1) yE hy).mono ?_
  rintro e _ ⟨rfl, rfl⟩
  rw [HD.out]
  have HY : Hid (Below w.heap.size w Y1) := Lib.hid (HB.out.trans (u1.mono HB.out.size))
  have kz2 := KZ.out _ u1
  obtain ⟨a0, a1, a2, a3, a4, f0, f1, f2, f3, f4, hzl⟩ := kz5_at kz2
  have KG := Lib.hid <| kz5_get kz2 (Value.int .u32 x.m) (.bool x.s) (.int .i64 x.c) (.int .u32 x.f) (.int .u32 x.t)
  have TF := Lib.hid <| below_st5 (b := w.heap.size + 1) HY.out HZ.out (Value.int .u32 x.m) (.bool x.s) (.int .i64 x.c) (.int .u32 x.f) (.int .u32 x.t)
  obtain ⟨g0, g1, g2, g3, g4⟩ := KR.out _ u1
  clear CW u1 hf kz2 KZ KR o1
  go_wp2
  obtain ⟨r0, r1, r2, r3, r4⟩ := KG.out
  refine bodyPost_ret (v := .tuple #[.agg #[.int .u32 x.m, .bool x.s, .int .i64 x.c, .int .u32 x.f, .int .u32 x.t], .int .i64 0]) (by simp [results, Tryz.results106, go_sem, r0, r1, r2, r3, r4]) rfl ⟨rfl, TF.out⟩
 ·have hno : ¬ ((0 : Int) = 0 ∧ M = b) := fun h => hMb h.2
  rw [if_neg hno]
  have hd : decide (M = b) = false := by simpa using hMb
  have HD := Lib.hid hd
  clear hno HE hMb hd
  go_enter Tryz.func106, Tryz.ntmps106
  go_wp2_with fail
  refine CW.mono ?_
  rintro e Y1 ⟨A1, c1, rfl, o1, u1⟩
  clear sW0
  go_wp2_with fail
  refine (equal_any _ _ _ _ _ _ M b _ HM.out HK.out o1.bs (q0.step u1) yE hy).mono ?_
  rintro e _ ⟨rfl, rfl⟩
  rw [HD.out]
  clear o1
  have HY : Hid (Below w.heap.size w Y1) := Lib.hid (HB.out.trans (u1.mono HB.out.size))
  obtain ⟨Z1, hZ1⟩ : ∃ V, Y1.alloc (.cells #[Value.int .u32 0, .bool false, .int .i64 0, .int .u32 0, .int .u32 0] 133) = V := ⟨_, rfl⟩
  have v1 : Below Y1.heap.size Y1 Z1 := by rw [← hZ1]; exact below_alloc1 _ _
  have kz2 := KZ.out _ (u1.trans (v1.mono u1.size))
  obtain ⟨a0, a1, a2, a3, a4, f0, f1, f2, f3, f4, hzl⟩ := kz5_at kz2
  have KG := Lib.hid <| kz5_get kz2 (Value.int .u32 0) (.bool false) (.int .i64 0) (.int .u32 0) (.int .u32 0)
  have TF := Lib.hid <| below_st5 (b := w.heap.size + 1) (HY.out.trans (v1.mono HY.out.size)) HZ.out (Value.int .u32 0) (.bool false) (.int .i64 0) (.int .u32 0) (.int .u32 0)
  obtain ⟨o0, o1, o2, o3, o4⟩ := kb5_new hZ1 (Below.refl _ _)
  clear CW u1 v1 k0 k1 k2 k3 k4 hf kz2 KZ KR
  subst hZ1
  go_wp2
  obtain ⟨r0, r1, r2, r3, r4⟩ := KG.out
  refine bodyPost_ret (v := .tuple #[.agg #[Value.int .u32 0, .bool false, .int .i64 0, .int .u32 0, .int .u32 0], .int .i64 3]) (by simp [results, Tryz.results106, go_sem, r0, r1, r2, r3, r4]) rfl ⟨rfl, TF.out⟩
theorem enters_Network (args : Array Value) (w' : World) : (callFunc 103 args).run Tryz.prog w' = .ok (.enter 103 args) w' := by simp [callFunc, Tryz.func103, Tryz.f103, mark]
set_option maxRecDepth 100000 in
set_option maxHeartbeats 4000000 in
theorem only_n (m : Int) (A : Option Addr) (n c : Nat) (l : List Int) (B : Option Addr) (k d : Nat) (b : List Int) (w : World) (hm0 : 0 ≤ m) (hm1 : m < 4294967296) (hn : l.length = n) (hb : Bs .u32 w w.heap.size A l) (hyl : Wrd l) (hl : n ≤ 10000) (hk : b.length = k) (hB : Bt w B b) (hy : Byt b) :
  Calls Tryz.prog 102 #[.agg #[.int .u32 m, .slice A n c], .func (.func 103) #[] #[], .slice B k d] w fun e w' => e = .returned (if encNE m l = 0 ∧ encNL m l = b then .tuple #[.agg #[.int .u32 m, .slice A n c], .int .i64 0] else .tuple #[.agg #[Value.int .u32 0, .slice none 0 0], .int .i64 3]) ∧ Below w.heap.size w w' := by
 obtain ⟨W0, hW0⟩ : ∃ V, w.alloc (.cells #[.int .u32 m, .slice A n c] 127) = V := ⟨_, rfl⟩
 have bW0 : Below w.heap.size w W0 := by rw [← hW0]; exact below_alloc1 _ _
 have sW0 : W0.heap.size = w.heap.size + 1 := by rw [← hW0]; simp
 have KX : Hid (∀ V, Below W0.heap.size W0 V → V.cell? ⟨w.heap.size, 0, none⟩ = some (.int .u32 m) ∧ V.cell? ⟨w.heap.size, 1, none⟩ = some (.slice A n c)) := Lib.hid (fun V hV => kb2_new hW0 hV)
 obtain ⟨W1, hW1⟩ : ∃ V, W0.alloc (.cells #[Value.int .u32 0, .slice none 0 0] 127) = V := ⟨_, rfl⟩
 have bW1 : Below W0.heap.size W0 W1 := by rw [← hW1]; exact below_alloc1 _ _
 have sW1 : W1.heap.size = W0.heap.size + 1 := by rw [← hW1]; simp
 have KZ : Hid (∀ V, Below W1.heap.size W1 V → V.heap[w.heap.size + 1]? = some (.cells #[Value.int .u32 0, .slice none 0 0] 127)) :=
  Lib.hid (fun V hV => by rw [hV.block _ (by omega), ← hW1]; exact alloc_at _ _ _ (by omega))
 have HB : Hid (Below w.heap.size w W1) := Lib.hid (bW0.trans (bW1.mono bW0.size))
 have q0 := hB.step HB.out
 have CW := network_any m A n c l W1 hm0 hm1 hn (hb.step HB.out) hyl hl
 have hf := enters_Network #[.agg #[.int .u32 m, .slice A n c]] W1
 have HZ : Hid (w.heap.size ≤ w.heap.size + 1) := Lib.hid (by omega)
 have KR : Hid (∀ V, Below W1.heap.size W1 V → V.cell? ⟨w.heap.size, 0, none⟩ = some (.int .u32 m) ∧ V.cell? ⟨w.heap.size, 1, none⟩ = some (.slice A n c)) := Lib.hid (fun V hV => KX.out V (bW1.trans (hV.mono bW1.size)))
 obtain ⟨k0, k1⟩ := KR.out _ (Below.refl _ _)
 have s1 : W1.heap.size = w.heap.size + 2 := by omega
 have S1 := Lib.hid s1
 have HK := Lib.hid hk
 have yE : Byt (encNL m l) := by unfold encNL; split; exact enN_byt _ _; intro z hz; cases hz
 have HE : Hid (encNE m l = 0 ∨ encNE m l = 1) := Lib.hid (by unfold encNE; split <;> simp)
 generalize encNE m l = X at *
 generalize encNL m l = M at *
 obtain ⟨mm, hmm⟩ : ∃ mm, M.length = mm := ⟨_, rfl⟩
 rw [hmm] at CW
 have HM := Lib.hid hmm
 clear hB bW0 bW1 KX s1 hk hmm sW1
 by_cases hX : X = 1
 ·subst hX
  have hno : ¬ ((1 : Int) = 0 ∧ M = b) := by omega
  rw [if_neg hno]
  clear hno HE
  go_enter Tryz.func102, Tryz.ntmps102
  go_wp2_with fail
  refine CW.mono ?_
  rintro e Y1 ⟨A1, c1, rfl, -, u1⟩
  clear sW0
  have HY : Hid (Below w.heap.size w Y1) := Lib.hid (HB.out.trans (u1.mono HB.out.size))
  obtain ⟨Z1, hZ1⟩ : ∃ V, Y1.alloc (.cells #[Value.int .u32 0, .slice none 0 0] 127) = V := ⟨_, rfl⟩
  have v1 : Below Y1.heap.size Y1 Z1 := by rw [← hZ1]; exact below_alloc1 _ _
  have kz2 := KZ.out _ (u1.trans (v1.mono u1.size))
  obtain ⟨a0, a1, f0, f1, hzl⟩ := kz2_at kz2
  have KG := Lib.hid <| kz2_get kz2 (Value.int .u32 0) (.slice none 0 0)
  have TF := Lib.hid <| below_st2 (b := w.heap.size + 1) (HY.out.trans (v1.mono HY.out.size)) HZ.out (Value.int .u32 0) (.slice none 0 0)
  obtain ⟨o0, o1⟩ := kb2_new hZ1 (Below.refl _ _)
  clear CW u1 v1 k0 k1 hf kz2 KZ KR
  subst hZ1
  go_wp2
  obtain ⟨r0, r1⟩ := KG.out
  refine bodyPost_ret (v := .tuple #[.agg #[Value.int .u32 0, .slice none 0 0], .int .i64 3]) (by simp [results, Tryz.results102, go_sem, r0, r1]) rfl ⟨rfl, TF.out⟩
 obtain rfl : X = 0 := by have := HE.out; omega
 by_cases hMb : M = b
 ·have hyes : (0 : Int) = 0 ∧ M = b := ⟨rfl, hMb⟩
  rw [if_pos hyes]
  have hd : decide (M = b) = true := by simpa using hMb
  have HD := Lib.hid hd
  clear hyes HE hMb hd
  go_enter Tryz.func102, Tryz.ntmps102
  go_wp2_with fail
  refine CW.mono ?_
  rintro e Y1 ⟨A1, c1, rfl, o1, u1⟩
  clear sW0 k0 k1
  go_wp2_with fail
  refine (equal_any _ _ _ _ _ _ M b _ HM.out HK.out o1.bs (q0.step u1) yE hy).mono ?_
  rintro e _ ⟨rfl, rfl⟩
  rw [HD.out]
  have HY : Hid (Below w.heap.size w Y1) := Lib.hid (HB.out.trans (u1.mono HB.out.size))
  have kz2 := KZ.out _ u1
  obtain ⟨a0, a1, f0, f1, hzl⟩ := kz2_at kz2
  have KG := Lib.hid <| kz2_get kz2 (Value.int .u32 m) (.slice A n c)
  have TF := Lib.hid <| below_st2 (b := w.heap.size + 1) HY.out HZ.out (Value.int .u32 m) (.slice A n c)
  obtain ⟨g0, g1⟩ := KR.out _ u1
  clear CW u1 hf kz2 KZ KR o1
  go_wp2
  obtain ⟨r0, r1⟩ := KG.out
  refine bodyPost_ret (v := .tuple #[.agg #[.int .u32 m, .slice A n c], .int .i64 0]) (by simp [results, Tryz.results102, go_sem, r0, r1]) rfl ⟨rfl, TF.out⟩
 ·have hno : ¬ ((0 : Int) = 0 ∧ M = b) := fun h => hMb h.2
  rw [if_neg hno]
  have hd : decide (M = b) = false := by simpa using hMb
  have HD := Lib.hid hd
  clear hno HE hMb hd
  go_enter Tryz.func102, Tryz.ntmps102
  go_wp2_with fail
  refine CW.mono ?_
  rintro e Y1 ⟨A1, c1, rfl, o1, u1⟩
  clear sW0
  go_wp2_with fail
  refine (equal_any _ _ _ _ _ _ M b _ HM.out HK.out o1.bs (q0.step u1) yE hy).mono ?_
  rintro e _ ⟨rfl, rfl⟩
  rw [HD.out]
  clear o1
  have HY : Hid (Below w.heap.size w Y1) := Lib.hid (HB.out.trans (u1.mono HB.out.size))
  obtain ⟨Z1, hZ1⟩ : ∃ V, Y1.alloc (.cells #[Value.int .u32 0, .slice none 0 0] 127) = V := ⟨_, rfl⟩
  have v1 : Below Y1.heap.size Y1 Z1 := by rw [← hZ1]; exact below_alloc1 _ _
  have kz2 := KZ.out _ (u1.trans (v1.mono u1.size))
  obtain ⟨a0, a1, f0, f1, hzl⟩ := kz2_at kz2
  have KG := Lib.hid <| kz2_get kz2 (Value.int .u32 0) (.slice none 0 0)
  have TF := Lib.hid <| below_st2 (b := w.heap.size + 1) (HY.out.trans (v1.mono HY.out.size)) HZ.out (Value.int .u32 0) (.slice none 0 0)
  obtain ⟨o0, o1⟩ := kb2_new hZ1 (Below.refl _ _)
  clear CW u1 v1 k0 k1 hf kz2 KZ KR
  subst hZ1
  go_wp2
  obtain ⟨r0, r1⟩ := KG.out
  refine bodyPost_ret (v := .tuple #[.agg #[Value.int .u32 0, .slice none 0 0], .int .i64 3]) (by simp [results, Tryz.results102, go_sem, r0, r1]) rfl ⟨rfl, TF.out⟩
end Go.Proofs.YtadcicmccdphkaaGreat
