/-
  Descriptions there and back; the walk of the law DbdDesc. No statement is proved here; no conditions.
-/
import Derived.Test.YtefbpaebimagaaaRdd
import Derived.Test.YtefbpaebimagaaaRTd
import Derived.Test.YtefbpaebimagaaaAl
import Derived.Test.YtefbpaebimagaaaKb
namespace Go.Proofs.Ytefbpaebimagaaa
open Go.RowKit Go.Joins

set_option maxRecDepth 100000 in
set_option maxHeartbeats 4000000 in
theorem plain_any (x : Dc) (A : Option Addr) (n c : Nat) (w : World) : Calls Try.prog 11 #[.agg #[.int .i64 x.m, .int .i64 x.o, .bool x.i, .bool x.r, .bool x.s, .int .u32 x.q, .slice A n c]] w fun e w' => e = .returned (.agg #[.int .i64 x.m, .int .i64 x.o, .bool x.i, .bool x.r, .bool x.s, .int .u32 x.q, .slice A n c]) ∧ Below w.heap.size w w' := by
  obtain ⟨W0, hW0⟩ : ∃ V, w.alloc (.cells #[.int .i64 x.m, .int .i64 x.o, .bool x.i, .bool x.r, .bool x.s, .int .u32 x.q, .slice A n c] 25) = V := ⟨_, rfl⟩
  have bW0 : Below w.heap.size w W0 := by rw [← hW0]; exact below_alloc1 _ _
  have sW0 : W0.heap.size = w.heap.size + 1 := by rw [← hW0]; simp
  have KX : Hid (∀ V, Below W0.heap.size W0 V → V.cell? ⟨w.heap.size, 0, none⟩ = some (.int .i64 x.m) ∧ V.cell? ⟨w.heap.size, 1, none⟩ = some (.int .i64 x.o) ∧ V.cell? ⟨w.heap.size, 2, none⟩ = some (.bool x.i) ∧ V.cell? ⟨w.heap.size, 3, none⟩ = some (.bool x.r) ∧ V.cell? ⟨w.heap.size, 4, none⟩ = some (.bool x.s) ∧ V.cell? ⟨w.heap.size, 5, none⟩ = some (.int .u32 x.q) ∧ V.cell? ⟨w.heap.size, 6, none⟩ = some (.slice A n c)) := Lib.hid (fun V hV => kb7_new hW0 hV)
  obtain ⟨W1, hW1⟩ : ∃ V, W0.alloc (.cells #[Value.int .i64 0, .int .i64 0, .bool false, .bool false, .bool false, .int .u32 0, .slice none 0 0] 32) = V := ⟨_, rfl⟩
  have bW1 : Below W0.heap.size W0 W1 := by rw [← hW1]; exact below_alloc1 _ _
  have sW1 : W1.heap.size = W0.heap.size + 1 := by rw [← hW1]; simp
  have KZ : Hid (∀ V, Below W1.heap.size W1 V → V.heap[(w.heap.size + 1)]? = some (.cells #[Value.int .i64 0, .int .i64 0, .bool false, .bool false, .bool false, .int .u32 0, .slice none 0 0] 32)) :=
    Lib.hid (fun V hV => by rw [hV.block _ (by omega), ← hW1]; exact alloc_at _ _ _ (by omega))
  have HB : Hid (Below w.heap.size w W1) := Lib.hid (bW0.trans (bW1.mono bW0.size))
  obtain ⟨k0, k1, k2, k3, k4, k5, k6⟩ := KX.out _ bW1
  have z1 := KZ.out _ (Below.refl _ _)
  obtain ⟨a0, a1, a2, a3, a4, a5, a6, f0, f1, f2, f3, f4, f5, f6, hzl⟩ := kz7_at z1
  have KR := Lib.hid <| kz7_get z1 (Value.int .i64 x.m) (.int .i64 x.o) (.bool x.i) (.bool x.r) (.bool x.s) (.int .u32 x.q) (.slice A n c)
  have TF := Lib.hid <| below_st7 HB.out (show w.heap.size ≤ w.heap.size + 1 by omega) (Value.int .i64 x.m) (.int .i64 x.o) (.bool x.i) (.bool x.r) (.bool x.s) (.int .u32 x.q) (.slice A n c)
  clear z1 KZ bW0 bW1 KX
  go_enter Try.func11, Try.ntmps11
  go_wp2
  obtain ⟨r0, r1, r2, r3, r4, r5, r6⟩ := KR.out
  refine bodyPost_ret (v := .agg #[.int .i64 x.m, .int .i64 x.o, .bool x.i, .bool x.r, .bool x.s, .int .u32 x.q, .slice A n c]) (by simp [results, Try.results11, go_sem, r0, r1, r2, r3, r4, r5, r6]) rfl ⟨rfl, TF.out⟩
set_option maxRecDepth 100000 in
set_option maxHeartbeats 4000000 in
theorem samed_any (x : Dc) (A B : Option Addr) (n c c' : Nat) (L : List Hd) (w : World) (hn : L.length = n) (h1 : hRr w A L) (h2 : hRr w B L) (hl : n ≤ 10000) : Calls Try.prog 14 #[.agg #[.int .i64 x.m, .int .i64 x.o, .bool x.i, .bool x.r, .bool x.s, .int .u32 x.q, .slice A n c], .agg #[.int .i64 x.m, .int .i64 x.o, .bool x.i, .bool x.r, .bool x.s, .int .u32 x.q, .slice B n c']] w fun e w' => e = .returned (.bool true) ∧ Below w.heap.size w w' := by
  obtain ⟨W0, hW0⟩ : ∃ V, w.alloc (.cells #[.int .i64 x.m, .int .i64 x.o, .bool x.i, .bool x.r, .bool x.s, .int .u32 x.q, .slice A n c] 32) = V := ⟨_, rfl⟩
  have bW0 : Below w.heap.size w W0 := by rw [← hW0]; exact below_alloc1 _ _
  have sW0 : W0.heap.size = w.heap.size + 1 := by rw [← hW0]; simp
  have KX : Hid (∀ V, Below W0.heap.size W0 V → V.cell? ⟨w.heap.size, 0, none⟩ = some (.int .i64 x.m) ∧ V.cell? ⟨w.heap.size, 1, none⟩ = some (.int .i64 x.o) ∧ V.cell? ⟨w.heap.size, 2, none⟩ = some (.bool x.i) ∧ V.cell? ⟨w.heap.size, 3, none⟩ = some (.bool x.r) ∧ V.cell? ⟨w.heap.size, 4, none⟩ = some (.bool x.s) ∧ V.cell? ⟨w.heap.size, 5, none⟩ = some (.int .u32 x.q) ∧ V.cell? ⟨w.heap.size, 6, none⟩ = some (.slice A n c)) := Lib.hid (fun V hV => kb7_new hW0 hV)
  obtain ⟨W1, hW1⟩ : ∃ V, W0.alloc (.cells #[.int .i64 x.m, .int .i64 x.o, .bool x.i, .bool x.r, .bool x.s, .int .u32 x.q, .slice B n c'] 32) = V := ⟨_, rfl⟩
  have bW1 : Below W0.heap.size W0 W1 := by rw [← hW1]; exact below_alloc1 _ _
  have sW1 : W1.heap.size = W0.heap.size + 1 := by rw [← hW1]; simp
  have KY : Hid (∀ V, Below W1.heap.size W1 V → V.cell? ⟨W0.heap.size, 0, none⟩ = some (.int .i64 x.m) ∧ V.cell? ⟨W0.heap.size, 1, none⟩ = some (.int .i64 x.o) ∧ V.cell? ⟨W0.heap.size, 2, none⟩ = some (.bool x.i) ∧ V.cell? ⟨W0.heap.size, 3, none⟩ = some (.bool x.r) ∧ V.cell? ⟨W0.heap.size, 4, none⟩ = some (.bool x.s) ∧ V.cell? ⟨W0.heap.size, 5, none⟩ = some (.int .u32 x.q) ∧ V.cell? ⟨W0.heap.size, 6, none⟩ = some (.slice B n c')) := Lib.hid (fun V hV => kb7_new hW1 hV)
  have b2 : Below w.heap.size w W1 := bW0.trans (bW1.mono bW0.size)
  obtain ⟨k0, k1, k2, k3, k4, k5, k6⟩ := KX.out _ bW1
  have kj := KY.out _ (Below.refl _ _)
  rw [sW0] at kj
  obtain ⟨j0, j1, j2, j3, j4, j5, j6⟩ := kj
  have C := heads_any A B n c c' L W1 hn (h1.step b2) (h2.step b2) hl
  have B2 := Lib.hid b2
  clear bW0 bW1 KX KY b2 h1 h2 hn
  go_enter Try.func14, Try.ntmps14
  go_wp2_with fail
  refine C.mono ?_
  rintro e V ⟨rfl, u⟩
  go_wp2
  go_ret
  exact ⟨rfl, B2.out.trans (u.mono B2.out.size)⟩
theorem tb_bs (i r s : Bool) : tb ((if i = true then 4 else 0) + ((if r = true then 2 else 0) + (if s = true then 1 else 0))) 4 = i ∧ tb ((if i = true then 4 else 0) + ((if r = true then 2 else 0) + (if s = true then 1 else 0))) 2 = r ∧ tb ((if i = true then 4 else 0) + ((if r = true then 2 else 0) + (if s = true then 1 else 0))) 1 = s := by
  cases i <;> cases r <;> cases s <;> decide
theorem tb_fgs (x : Dc) : tb (fgs x) 4 = x.i ∧ tb (fgs x) 2 = x.r ∧ tb (fgs x) 1 = x.s := tb_bs x.i x.r x.s
/-- What is written is read. -/
theorem td_pd {x : Dc} {L : List Hd} (hq : 0 ≤ x.q ∧ x.q < 4294967296) (ok : ∀ x ∈ L, Okd x) (h : pdE x L = 0) : tdE (pdL x L) = 0 ∧ tdD (pdL x L) = x ∧ tdL (pdL x L) = L := by
  have hw : (win x.m 0 65535 && win x.o 0 255) = true := by
    by_cases q : (win x.m 0 65535 && win x.o 0 255) = true
    · exact q
    · rw [(pdE_no (by simpa using q)).1] at h; omega
  have h1 : win x.m 0 65535 = true := by simp only [Bool.and_eq_true] at hw; exact hw.1
  have h2 : win x.o 0 255 = true := by simp only [Bool.and_eq_true] at hw; exact hw.2
  obtain ⟨e1, e2⟩ := pdE_eq (L := L) h1 h2
  rw [e1] at h
  rw [e2, if_pos h]
  obtain ⟨t1, t2⟩ := th_ph ok h
  obtain ⟨m0, m1⟩ := (win_iff _ _ _).1 h1
  obtain ⟨o0, o1⟩ := (win_iff _ _ _).1 h2
  obtain ⟨f0, f1⟩ := fgs_bd x
  generalize phL L 0 60 = P at *
  have ed : (dhd x ++ P).drop 8 = P := List.drop_left' (dhd_length x)
  have el : dhd x = [x.m / 256, x.m % 256, x.o, fgs x] ++ be x.q 4 := by
    rw [dhd, be2 x.m m0 (by omega), be1 x.o o0 (by omega), be1 (fgs x) f0 (by omega)]
    rfl
  have g3 : (dhd x ++ P).getD 3 0 = fgs x := by rw [el]; rfl
  have g2 : (dhd x ++ P).getD 2 0 = x.o := by rw [el]; rfl
  have k2 : num ((dhd x ++ P).take 2) = x.m := by
    rw [num_01 (by rw [List.length_append, dhd_length]; omega), el]
    show 256 * (x.m / 256) + x.m % 256 = x.m
    omega
  have k4 : sub (dhd x ++ P) 4 4 = be x.q 4 := by
    rw [el, List.append_assoc]
    exact sub_mid _ _ _ 4 4 rfl (be_length _ _)
  have hlen : ¬ (dhd x ++ P).length < 8 := by rw [List.length_append, dhd_length]; omega
  obtain ⟨r1, r2, r3⟩ := td_ok (l := dhd x ++ P) hlen (by rw [ed]; exact t1) (by rw [g3]; omega)
  refine ⟨r1, ?_, by rw [r3, ed, t2]⟩
  obtain ⟨b4, b2, b1⟩ := tb_fgs x
  rw [r2, k2, g2, g3, k4, b4, b2, b1, num_be4 hq.1 hq.2]
theorem pd_byt (x : Dc) (L : List Hd) : Byt (pdL x L) := by
  unfold pdL
  split
  · exact (dhd_byt x).append (ph_byt _ _ _)
  · intro z hz; cases hz
theorem pd_len (x : Dc) (L : List Hd) : (pdL x L).length ≤ 8 + L.length * 20 := by
  have := ph_len L 0 60
  unfold pdL
  split
  · rw [List.length_append, dhd_length]; omega
  · simp
theorem tdl_len (l : List Int) : (tdL l).length ≤ l.length := by
  have := th_len (l.drop 8) 0 60
  have := List.length_drop (i := 8) (l := l)
  unfold tdL
  split
  · omega
  · simp
end Go.Proofs.Ytefbpaebimagaaa
