/-
  Contracts of both Rights, of the law's conversion of routers' bodies, of SameRouter; the live question. What is sealed is whole. No statement is proved here; no conditions.
-/
import Derived.Test.YtadcicmccdphkaaGreatG19
import Derived.Test.YtadcicmccdphkaaGreatG20
import Derived.Test.YtadcicmccdphkaaGreatG22
import Derived.Test.YtadcicmccdphkaaGreatG23
import Derived.Test.YtadcicmccdphkaaGreatG24
import Derived.Test.YtadcicmccdphkaaGreatG06
namespace Go.Proofs.YtadcicmccdphkaaGreat
open Go.RowKit Go.Joins

def rE (t : Int) (l : List Int) : Int := if t = 1 then rdRE l else if t = 2 then rdNE l else if t = 3 ∨ t = 4 then rdSE l else if t = 5 ∨ t = 7 then rdXE l else 3
def rgt (t : Int) (l : List Int) : Bool := (rE t l == 0)
set_option maxRecDepth 100000 in
set_option maxHeartbeats 4000000 in
theorem right_any (a o t i v q s z : Int) (A : Option Addr) (n c : Nat) (l : List Int) (w : World) (hn : l.length = n) (hb : Bt w A l) (hy : Byt l) (hc : n ≤ c) (hl : n ≤ 5000) :
  Calls Tryz.prog 48 #[.agg #[.int .i64 a, .int .i64 o, .int .i64 t, .int .u32 i, .int .u32 v, .int .u32 q, .int .i64 s, .int .i64 z, .slice A n c]] w fun e w' => e = .returned (.bool (rgt t l)) ∧ Below w.heap.size w w' := by
 obtain ⟨W0, hW0⟩ : ∃ V, w.alloc (.cells #[.int .i64 a, .int .i64 o, .int .i64 t, .int .u32 i, .int .u32 v, .int .u32 q, .int .i64 s, .int .i64 z, .slice A n c] 40) = V := ⟨_, rfl⟩
 have bW0 : Below w.heap.size w W0 := by rw [← hW0]; exact below_alloc1 _ _
 have sW0 : W0.heap.size = w.heap.size + 1 := by rw [← hW0]; simp
 have KX : Hid (∀ V, Below W0.heap.size W0 V → V.cell? ⟨w.heap.size, 0, none⟩ = some (.int .i64 a) ∧ V.cell? ⟨w.heap.size, 1, none⟩ = some (.int .i64 o) ∧ V.cell? ⟨w.heap.size, 2, none⟩ = some (.int .i64 t) ∧ V.cell? ⟨w.heap.size, 3, none⟩ = some (.int .u32 i) ∧ V.cell? ⟨w.heap.size, 4, none⟩ = some (.int .u32 v) ∧ V.cell? ⟨w.heap.size, 5, none⟩ = some (.int .u32 q) ∧ V.cell? ⟨w.heap.size, 6, none⟩ = some (.int .i64 s) ∧ V.cell? ⟨w.heap.size, 7, none⟩ = some (.int .i64 z) ∧ V.cell? ⟨w.heap.size, 8, none⟩ = some (.slice A n c)) := Lib.hid (fun V hV => kb9_new hW0 hV)
 have q0 := hb.step bW0
 have HB := Lib.hid bW0
 have C1 := readrouter_any A n c l W0 hn q0 hy hc hl
 have C2 := readnetwork_any A n c l W0 hn q0 hy hc hl
 have C3 := readsummary_any A n c l W0 hn q0 hy hc hl
 have C4 := readexternal_any A n c l W0 hn q0 hy hc hl
 have E1 : Hid (rgt 1 l = (rdRE l == 0)) := Lib.hid rfl
 have E2 : Hid (rgt 2 l = (rdNE l == 0)) := Lib.hid rfl
 have E3 : Hid (rgt 3 l = (rdSE l == 0)) := Lib.hid rfl
 have E4 : Hid (rgt 4 l = (rdSE l == 0)) := Lib.hid rfl
 have E5 : Hid (rgt 5 l = (rdXE l == 0)) := Lib.hid rfl
 have E7 : Hid (rgt 7 l = (rdXE l == 0)) := Lib.hid rfl
 generalize rdRE l = e1 at *
 generalize rdNE l = e2 at *
 generalize rdSE l = e3 at *
 generalize rdXE l = e4 at *
 generalize rdRF l = f1 at *
 generalize rdRL l = f2 at *
 generalize rdNM l = f3 at *
 generalize rdNL l = f4 at *
 generalize rdSM l = f5 at *
 generalize rdSC l = f6 at *
 generalize rdX l = f7 at *
 obtain ⟨k0, k1, k2, k3, k4, k5, k6, k7, k8⟩ := KX.out _ (Below.refl _ _)
 clear hn hb bW0 q0 hy KX
 by_cases h1 : t = 1
 ·subst h1
  rw [E1.out]
  go_enter Tryz.func48, Tryz.ntmps48
  go_wp2_with fail
  refine C1.mono ?_
  rintro e Y1 ⟨A1, m1, c1, -, rfl, -, u1⟩
  go_wp2
  go_ret
  exact ⟨rfl, HB.out.trans (u1.mono HB.out.size)⟩
 by_cases h2 : t = 2
 ·subst h2
  rw [E2.out]
  go_enter Tryz.func48, Tryz.ntmps48
  go_wp2_with fail
  refine C2.mono ?_
  rintro e Y1 ⟨A1, m1, c1, -, rfl, -, u1⟩
  go_wp2
  go_ret
  exact ⟨rfl, HB.out.trans (u1.mono HB.out.size)⟩
 by_cases h3 : t = 3
 ·subst h3
  rw [E3.out]
  go_enter Tryz.func48, Tryz.ntmps48
  go_wp2_with fail
  refine C3.mono ?_
  rintro e Y1 ⟨rfl, u1⟩
  go_wp2
  go_ret
  exact ⟨rfl, HB.out.trans (u1.mono HB.out.size)⟩
 by_cases h4 : t = 4
 ·subst h4
  rw [E4.out]
  go_enter Tryz.func48, Tryz.ntmps48
  go_wp2_with fail
  refine C3.mono ?_
  rintro e Y1 ⟨rfl, u1⟩
  go_wp2
  go_ret
  exact ⟨rfl, HB.out.trans (u1.mono HB.out.size)⟩
 by_cases h5 : t = 5
 ·subst h5
  rw [E5.out]
  go_enter Tryz.func48, Tryz.ntmps48
  go_wp2_with fail
  refine C4.mono ?_
  rintro e Y1 ⟨rfl, u1⟩
  go_wp2
  go_ret
  exact ⟨rfl, HB.out.trans (u1.mono HB.out.size)⟩
 by_cases h7 : t = 7
 ·subst h7
  rw [E7.out]
  go_enter Tryz.func48, Tryz.ntmps48
  go_wp2_with fail
  refine C4.mono ?_
  rintro e Y1 ⟨rfl, u1⟩
  go_wp2
  go_ret
  exact ⟨rfl, HB.out.trans (u1.mono HB.out.size)⟩
 have E0 : Hid (rgt t l = false) := Lib.hid (by
  unfold rgt rE
  rw [if_neg h1, if_neg h2, if_neg (by omega), if_neg (by omega)]
  rfl)
 have d1 : (t == 1) = false := by simpa using h1
 have d2 : (t == 2) = false := by simpa using h2
 have d3 : (t == 3) = false := by simpa using h3
 have d4 : (t == 4) = false := by simpa using h4
 have d5 : (t == 5) = false := by simpa using h5
 have d7 : (t == 7) = false := by simpa using h7
 rw [E0.out]
 clear h1 h2 h3 h4 h5 h7 C1 C2 C3 C4
 go_enter Tryz.func48, Tryz.ntmps48
 go_wp2
 go_ret
 exact ⟨rfl, HB.out⟩
set_option maxRecDepth 100000 in
set_option maxHeartbeats 4000000 in
theorem rright_any (a o t i v q s z : Int) (A : Option Addr) (n c : Nat) (l : List Int) (w : World) (hn : l.length = n) (hb : Bt w A l) (hy : Byt l) (hc : n ≤ c) (hl : n ≤ 5000) :
  Calls Tryz.prog 37 #[.agg #[.int .i64 a, .int .i64 o, .int .i64 t, .int .u32 i, .int .u32 v, .int .u32 q, .int .i64 s, .int .i64 z, .slice A n c]] w fun e w' => e = .returned (.bool (rgt t l)) ∧ Below w.heap.size w w' := by
 obtain ⟨W0, hW0⟩ : ∃ V, w.alloc (.cells #[.int .i64 a, .int .i64 o, .int .i64 t, .int .u32 i, .int .u32 v, .int .u32 q, .int .i64 s, .int .i64 z, .slice A n c] 40) = V := ⟨_, rfl⟩
 have bW0 : Below w.heap.size w W0 := by rw [← hW0]; exact below_alloc1 _ _
 have sW0 : W0.heap.size = w.heap.size + 1 := by rw [← hW0]; simp
 have KX : Hid (∀ V, Below W0.heap.size W0 V → V.cell? ⟨w.heap.size, 0, none⟩ = some (.int .i64 a) ∧ V.cell? ⟨w.heap.size, 1, none⟩ = some (.int .i64 o) ∧ V.cell? ⟨w.heap.size, 2, none⟩ = some (.int .i64 t) ∧ V.cell? ⟨w.heap.size, 3, none⟩ = some (.int .u32 i) ∧ V.cell? ⟨w.heap.size, 4, none⟩ = some (.int .u32 v) ∧ V.cell? ⟨w.heap.size, 5, none⟩ = some (.int .u32 q) ∧ V.cell? ⟨w.heap.size, 6, none⟩ = some (.int .i64 s) ∧ V.cell? ⟨w.heap.size, 7, none⟩ = some (.int .i64 z) ∧ V.cell? ⟨w.heap.size, 8, none⟩ = some (.slice A n c)) := Lib.hid (fun V hV => kb9_new hW0 hV)
 have q0 := hb.step bW0
 have HB := Lib.hid bW0
 have C1 := rreadrouter_any A n c l W0 hn q0 hy hc hl
 have C2 := rreadnetwork_any A n c l W0 hn q0 hy hc hl
 have C3 := rreadsummary_any A n c l W0 hn q0 hy hc hl
 have C4 := rreadexternal_any A n c l W0 hn q0 hy hc hl
 have E1 : Hid (rgt 1 l = (rdRE l == 0)) := Lib.hid rfl
 have E2 : Hid (rgt 2 l = (rdNE l == 0)) := Lib.hid rfl
 have E3 : Hid (rgt 3 l = (rdSE l == 0)) := Lib.hid rfl
 have E4 : Hid (rgt 4 l = (rdSE l == 0)) := Lib.hid rfl
 have E5 : Hid (rgt 5 l = (rdXE l == 0)) := Lib.hid rfl
 have E7 : Hid (rgt 7 l = (rdXE l == 0)) := Lib.hid rfl
 generalize rdRE l = e1 at *
 generalize rdNE l = e2 at *
 generalize rdSE l = e3 at *
 generalize rdXE l = e4 at *
 generalize rdRF l = f1 at *
 generalize rdRL l = f2 at *
 generalize rdNM l = f3 at *
 generalize rdNL l = f4 at *
 generalize rdSM l = f5 at *
 generalize rdSC l = f6 at *
 generalize rdX l = f7 at *
 obtain ⟨k0, k1, k2, k3, k4, k5, k6, k7, k8⟩ := KX.out _ (Below.refl _ _)
 clear hn hb bW0 q0 hy KX
 by_cases h1 : t = 1
 ·subst h1
  rw [E1.out]
  go_enter Tryz.func37, Tryz.ntmps37
  go_wp2_with fail
  refine C1.mono ?_
  rintro e Y1 ⟨A1, m1, c1, -, rfl, -, u1⟩
  go_wp2
  go_ret
  exact ⟨rfl, HB.out.trans (u1.mono HB.out.size)⟩
 by_cases h2 : t = 2
 ·subst h2
  rw [E2.out]
  go_enter Tryz.func37, Tryz.ntmps37
  go_wp2_with fail
  refine C2.mono ?_
  rintro e Y1 ⟨A1, m1, c1, -, rfl, -, u1⟩
  go_wp2
  go_ret
  exact ⟨rfl, HB.out.trans (u1.mono HB.out.size)⟩
 by_cases h3 : t = 3
 ·subst h3
  rw [E3.out]
  go_enter Tryz.func37, Tryz.ntmps37
  go_wp2_with fail
  refine C3.mono ?_
  rintro e Y1 ⟨rfl, u1⟩
  go_wp2
  go_ret
  exact ⟨rfl, HB.out.trans (u1.mono HB.out.size)⟩
 by_cases h4 : t = 4
 ·subst h4
  rw [E4.out]
  go_enter Tryz.func37, Tryz.ntmps37
  go_wp2_with fail
  refine C3.mono ?_
  rintro e Y1 ⟨rfl, u1⟩
  go_wp2
  go_ret
  exact ⟨rfl, HB.out.trans (u1.mono HB.out.size)⟩
 by_cases h5 : t = 5
 ·subst h5
  rw [E5.out]
  go_enter Tryz.func37, Tryz.ntmps37
  go_wp2_with fail
  refine C4.mono ?_
  rintro e Y1 ⟨rfl, u1⟩
  go_wp2
  go_ret
  exact ⟨rfl, HB.out.trans (u1.mono HB.out.size)⟩
 by_cases h7 : t = 7
 ·subst h7
  rw [E7.out]
  go_enter Tryz.func37, Tryz.ntmps37
  go_wp2_with fail
  refine C4.mono ?_
  rintro e Y1 ⟨rfl, u1⟩
  go_wp2
  go_ret
  exact ⟨rfl, HB.out.trans (u1.mono HB.out.size)⟩
 have E0 : Hid (rgt t l = false) := Lib.hid (by
  unfold rgt rE
  rw [if_neg h1, if_neg h2, if_neg (by omega), if_neg (by omega)]
  rfl)
 have d1 : (t == 1) = false := by simpa using h1
 have d2 : (t == 2) = false := by simpa using h2
 have d3 : (t == 3) = false := by simpa using h3
 have d4 : (t == 4) = false := by simpa using h4
 have d5 : (t == 5) = false := by simpa using h5
 have d7 : (t == 7) = false := by simpa using h7
 rw [E0.out]
 clear h1 h2 h3 h4 h5 h7 C1 C2 C3 C4
 go_enter Tryz.func37, Tryz.ntmps37
 go_wp2
 go_ret
 exact ⟨rfl, HB.out⟩
end Go.Proofs.YtadcicmccdphkaaGreat
namespace Go.Proofs.YtadcicmccdphkaaGreat
open Go.RowKit Go.Joins

def hdm (h : Hd) : List Int := be h.o 1 ++ (be h.t 1 ++ (be h.i 4 ++ (be h.v 4 ++ be h.q 4)))
theorem hdm_length (h : Hd) : (hdm h).length = 14 := by simp [hdm, be_length]
theorem smd_eq (h : Hd) (l : List Int) : smd h l = hdm h ++ (be h.s 2 ++ (be h.n 2 ++ l)) := by
 unfold smd ehd hdm
 rw [List.append_assoc, List.drop_left' (be_length _ _)]
 simp only [List.append_assoc]
theorem two_mid (M R : List Int) (a b x y : Int) (h : M.length = 14) : two (M ++ ([a, b] ++ R)) 14 x y = M ++ ([x, y] ++ R) := by
 unfold two
 rw [List.set_append_right _ _ (by omega), h, List.set_append_right _ _ (by omega), h]
 simp
theorem sub_two (M R : List Int) (x y : Int) (h : M.length = 14) : sub (M ++ ([x, y] ++ R)) 14 2 = [x, y] := sub_mid M [x, y] R 14 2 h rfl
theorem sck_eq (h : Hd) (l : List Int) (n : Nat) (_hn : l.length = n) : ∃ X Y : Int, (1 ≤ X ∧ X ≤ 255) ∧ (1 ≤ Y ∧ Y ≤ 255) ∧ sck h l n = X * 256 + Y ∧ placed (smd (sl h 0 (20 + (n : Int))) l) 14 = smd (sl h (sck h l n) (20 + (n : Int))) l := by
 obtain ⟨S, hS⟩ : ∃ S, smd (sl h 0 (20 + (n : Int))) l = S := ⟨_, rfl⟩
 have hx := placeX_bd S 14
 have hy := placeY_bd S 14
 have hp : placed S 14 = hdm h ++ ([placeX S 14, placeY S 14] ++ (be (20 + (n : Int)) 2 ++ l)) := by
  unfold placed
  generalize placeX S 14 = X
  generalize placeY S 14 = Y
  rw [← hS, smd_eq, be2 (sl h 0 (20 + (n : Int))).s (Int.le_refl 0) (show (0 : Int) < 65536 by decide)]
  exact two_mid (hdm h) (be (20 + (n : Int)) 2 ++ l) _ _ X Y (hdm_length h)
 have hc : sck h l n = placeX S 14 * 256 + placeY S 14 := by
  unfold sck
  rw [hS, hp, sub_two _ _ _ _ (hdm_length h)]
  simp [num]
 refine ⟨placeX S 14, placeY S 14, hx, hy, hc, ?_⟩
 rw [hS, hp, smd_eq]
 have e : be (sl h (sck h l n) (20 + (n : Int))).s 2 = [placeX S 14, placeY S 14] := by
  show be (sck h l n) 2 = _
  rw [hc, be2 _ (by omega) (by omega)]
  congr 1
  ·omega
  ·congr 1
   omega
 rw [e]
 rfl
theorem seal_whl {h : Hd} {l : List Int} {n : Nat} (hn : l.length = n) (hm : mayd (sl h 0 (20 + (n : Int))) = true) : whl (sl h (sck h l n) (20 + (n : Int))) l = true := by
 obtain ⟨X, Y, hX, hY, hc, hp⟩ := sck_eq h l n hn
 obtain ⟨h1, h2, h3, h4, h5, h6⟩ := (mayd_iff _).1 hm
 have hf := place_fits (smd (sl h 0 (20 + (n : Int))) l) 14 (by rw [smd_length]; omega)
 rw [hp] at hf
 have hm2 : mayd (sl h (sck h l n) (20 + (n : Int))) = true := (mayd_iff _).2 ⟨h1, h2, h3, h4, by show 0 ≤ sck h l n ∧ sck h l n ≤ 65535; omega, h6⟩
 unfold whl maya fit
 rw [hm2, hf.1, hf.2]
 simp [sl, hn]
theorem whl_iff {h : Hd} {l : List Int} (hw : whl h l = true) : mayd h = true ∧ h.n = 20 + (l.length : Int) ∧ p0 (smd h l) = 0 := by
 unfold whl maya fit at hw
 simp only [Bool.and_eq_true, decide_eq_true_eq, beq_iff_eq] at hw
 exact ⟨hw.1.1, hw.1.2, hw.2.1⟩
end Go.Proofs.YtadcicmccdphkaaGreat
