/-
  May of the program, of a store that may be. May of the program, of a store that may be: the contract. The reference's May of a store that may be. No statement is proved here; no conditions.
-/
import Derived.Test.YtadcicmccdphkaaGreatG27
import Derived.Test.YtadcicmccdphkaaGreatG25
import Derived.Test.YtadcicmccdphkaaGreatG10
import Derived.Test.YtadcicmccdphkaaGreatG13
import Derived.Test.YtadcicmccdphkaaGreatG33
import Derived.Test.YtadcicmccdphkaaGreatG29
namespace Go.Proofs.YtadcicmccdphkaaGreat
open Go.RowKit Go.Joins

set_option maxRecDepth 100000 in
theorem aix0_any (A0 : Option Addr) (n c : Nat) (L : List Ae) (F : Nat) (pr : Ae → Bool) (w : World) (hn : L.length = n) (hl : Arr w A0 L) (hll : n ≤ 10000)
  (hF : ∀ (args : Array Value) (w' : World), (callFunc F args).run Tryz.prog w' = .ok (.enter F args) w')
  (hp : ∀ V x, x ∈ L → Below w.heap.size w V → Calls Tryz.prog F #[av x] V fun e V' => e = .returned (.bool (pr x)) ∧ Below V.heap.size V V') :
  Calls Tryz.prog 40 #[.slice A0 n c, .func (.func F) #[] #[]] w fun e w' => e = .returned (.int .i64 (fix pr L)) ∧ Below w.heap.size w w' := by
 have HL := Lib.hid hl
 have HP := Lib.hid hp
 obtain ⟨R, hR⟩ : ∃ R, fix pr L = R := ⟨_, rfl⟩
 rw [hR]
 have HLN := Lib.hid hn
 have HR := Lib.hid hR
 clear hl hp hn hR
 go_enter Tryz.func40, Tryz.ntmps40
 go_wp2_with fail
 go_loopg [8] n (fun gf v wx => ∃ (k : Nat), v = .int .i64 (k : Int) ∧ Hid (gf + k = n) ∧ Hid (∀ i (hi : i < L.length), i < k → pr L[i] = false) ∧ Hid (Below w.heap.size w wx))
 case atStart => exact ⟨0, rfl, Lib.hid (by omega), Lib.hid (fun i _ hi => by omega), Lib.hid (Below.refl _ _)⟩
 case round =>
  obtain ⟨k, rfl, hk, hn, hb⟩ := hrel
  have hk' := hk.out
  cases gk with
  | zero =>
   have e1 : k = n := by omega
   have lt0 : decide ((k : Int) < (n : Int)) = false := by simp; omega
   have lt1 : decide (k < n) = false := by simp; omega
   go_wp2
   go_ret
   refine ⟨ret_int ?_, hb.out⟩
   rw [← HR.out, fix_none]
   intro x hx
   obtain ⟨i, hi, rfl⟩ := List.getElem_of_mem hx
   exact hn.out i hi (by have := HLN.out; omega)
  | succ gf =>
   have hkl : k < L.length := by rw [HLN.out]; omega
   have lt0 : (k : Int) < (n : Int) := by omega
   have hw1 : (k : Int) + 1 ≤ 10000 := by omega
   obtain ⟨b, off, hA, _, e0, e1, e2, e3, e4, e5, e6, e7, e8⟩ := ard_at (HL.out.step hb.out).1 hkl
   have hmem : ag L k ∈ L := ag_mem hkl
   have hxl : ag L k = L[k] := ag_eq hkl
   obtain ⟨x, hx⟩ : ∃ x, ag L k = x := ⟨_, rfl⟩
   rw [hx] at e0 e1 e2 e3 e4 e5 e6 e7 e8 hmem hxl
   subst hA
   have see := HP.out wr x hmem hb.out
   have HX := Lib.hid hxl
   clear hx hmem hxl
   have hf1 := hF #[av x] wr
   cases hpr : pr x with
   | true =>
    rw [hpr] at see
    have E9 : Hid (R = (k : Int)) := Lib.hid (by rw [← HR.out, fix_at hkl (fun i hi => hn.out i (by omega) hi) (by rw [← HX.out]; exact hpr)])
    clear HX hkl
    go_wp2_with fail
    refine see.mono ?_
    rintro e W2 ⟨rfl, hb2⟩
    go_wp2
    go_ret
    exact ⟨ret_int E9.out.symm, hb.out.trans (hb2.mono hb.out.size)⟩
   | false =>
    rw [hpr] at see
    have HN : Hid (∀ i (hi : i < L.length), i < k + 1 → pr L[i] = false) := Lib.hid (fun i hi hik => by
     rcases Nat.lt_or_ge i k with q | q
     ·exact hn.out i hi q
     ·obtain rfl : i = k := by omega
      rw [← HX.out]; exact hpr)
    clear HX hkl
    go_wp2_with fail
    refine see.mono ?_
    rintro e W2 ⟨rfl, hb2⟩
    have HB2 := Lib.hid (hb.out.trans (hb2.mono hb.out.size))
    clear hb2 see hf1 e0 e1 e2 e3 e4 e5 e6 e7 e8 hb
    go_wp2
    go_roundg gf
    case measure => omega
    case rel => exact ⟨k + 1, by go_num, Lib.hid (by omega), HN, HB2⟩
theorem enters_wr (args : Array Value) (w' : World) : (callFunc 34 args).run Tryz.prog w' = .ok (.enter 34 args) w' := by simp [callFunc, Tryz.func34, Tryz.f34, mark]
set_option maxRecDepth 100000 in
theorem iswrong_any (x : Ae) (w : World) (hv : Sv (con x)) (hb : Bt w x.A x.l) (hc : x.l.length ≤ x.c) :
  Calls Tryz.prog 34 #[av x] w fun e w' => e = .returned (.bool false) ∧ Below w.heap.size w w' := by
 have hn := hv.sok.n
 have HB := Lib.hid hb
 have HV := Lib.hid hv
 obtain ⟨h, hh⟩ : ∃ h, x.h = h := ⟨_, rfl⟩
 obtain ⟨B, hB⟩ : ∃ B, x.l = B := ⟨_, rfl⟩
 obtain ⟨mB, hmB⟩ : ∃ mB, B.length = mB := ⟨_, rfl⟩
 have hcon : con x = (h, B) := by rw [con, hh, hB]
 rw [hcon] at HV hn
 rw [av, hh, hB, hmB]
 rw [hB] at HB hc
 rw [hmB] at hc
 have hn2 : mB ≤ 1600 := by rw [← hmB]; exact hn
 generalize x.A = Ab at *
 generalize x.c = d at *
 have HMB := Lib.hid hmB
 clear hv hb hn hh hB hmB hcon
 obtain ⟨W0, hW0⟩ : ∃ V, w.alloc (.cells #[.int .i64 h.a, .int .i64 h.o, .int .i64 h.t, .int .u32 h.i, .int .u32 h.v, .int .u32 h.q, .int .i64 h.s, .int .i64 h.n, .slice Ab mB d] 40) = V := ⟨_, rfl⟩
 have bW0 : Below w.heap.size w W0 := by rw [← hW0]; exact below_alloc1 _ _
 have sW0 : W0.heap.size = w.heap.size + 1 := by rw [← hW0]; simp
 have KX : Hid (∀ V, Below W0.heap.size W0 V → V.cell? ⟨w.heap.size, 0, none⟩ = some (.int .i64 h.a) ∧ V.cell? ⟨w.heap.size, 1, none⟩ = some (.int .i64 h.o) ∧ V.cell? ⟨w.heap.size, 2, none⟩ = some (.int .i64 h.t) ∧ V.cell? ⟨w.heap.size, 3, none⟩ = some (.int .u32 h.i) ∧ V.cell? ⟨w.heap.size, 4, none⟩ = some (.int .u32 h.v) ∧ V.cell? ⟨w.heap.size, 5, none⟩ = some (.int .u32 h.q) ∧ V.cell? ⟨w.heap.size, 6, none⟩ = some (.int .i64 h.s) ∧ V.cell? ⟨w.heap.size, 7, none⟩ = some (.int .i64 h.n) ∧ V.cell? ⟨w.heap.size, 8, none⟩ = some (.slice Ab mB d)) := Lib.hid (fun V hV => kb9_new hW0 hV)
 obtain ⟨k0, k1, k2, k3, k4, k5, k6, k7, k8⟩ := KX.out _ (Below.refl _ _)
 have CW := whole_any h Ab mB d B W0 HMB.out HV.out.ok (HB.out.step bW0) HV.out.y (by omega)
 rw [show whl h B = true from HV.out.w] at CW
 have B0 := Lib.hid bW0
 have KXX := KX
 go_enter Tryz.func34, Tryz.ntmps34
 go_wp2_with fail
 refine CW.mono ?_
 rintro e W1 ⟨rfl, u1⟩
 obtain ⟨q0, q1, q2, q3, q4, q5, q6, q7, q8⟩ := KXX.out _ u1
 have CR := right_any h.a h.o h.t h.i h.v h.q h.s h.n Ab mB d B W1 HMB.out ((HB.out.step bW0).step u1) HV.out.y hc (by omega)
 rw [show rgt h.t B = true from HV.out.r] at CR
 have T1 := Lib.hid (bW0.trans (u1.mono bW0.size))
 clear k0 k1 k2 k3 k4 k5 k6 k7 k8 CW u1 KX KXX
 go_wp2_with fail
 refine CR.mono ?_
 rintro e W2 ⟨rfl, u2⟩
 go_wp2
 go_ret
 exact ⟨rfl, T1.out.trans (u2.mono T1.out.size)⟩
set_option maxRecDepth 100000 in
theorem cfwrong_any (A0 : Option Addr) (n c : Nat) (L : List Ae) (w : World) (hn : L.length = n) (hl : Arr w A0 L) (hll : n ≤ 9000) (hv : Vs (cons L)) (hc : ∀ x ∈ L, x.l.length ≤ x.c) :
  Calls Tryz.prog 33 #[.slice A0 n c, .func (.func 34) #[] #[]] w fun e w' => e = .returned (.bool false) ∧ Below w.heap.size w w' := by
 have cf := aix0_any A0 n c L 34 (fun _ => false) w hn hl (by omega) enters_wr (fun V x hx hV => iswrong_any x V (hv.e _ (List.mem_map.2 ⟨x, hx, rfl⟩)) ((hl.step hV).2 x hx) (hc x hx))
 rw [show fix (fun _ : Ae => false) L = -1 from fix_none fun _ _ => rfl] at cf
 clear hl hn hv hc
 go_enter Tryz.func33, Tryz.ntmps33
 go_wp2_with fail
 refine cf.mono ?_
 rintro e W1 ⟨rfl, hb1⟩
 clear cf
 go_wp2
 go_ret
 exact ⟨rfl, hb1⟩
set_option maxRecDepth 100000 in
set_option maxHeartbeats 4000000 in
theorem ascend_any (A : Option Addr) (n c : Nat) (L : List Ae) (w : World) (hn : L.length = n) (hl : Arr w A L) (hll : n ≤ 9000) (hv : Asc (cons L)) :
  Calls Tryz.prog 35 #[.slice A n c] w fun e w' => e = .returned (.bool true) ∧ Below w.heap.size w w' := by
 have HN := Lib.hid hn
 have HL := Lib.hid hl
 have HV : Hid (∀ i (h : i + 1 < L.length), lessK (ag L i).h (ag L (i + 1)).h = true) := Lib.hid (fun i h => by
  have h1 := List.pairwise_iff_getElem.1 hv i (i + 1) (by rw [cons_length]; omega) (by rw [cons_length]; omega) (by omega)
  rw [ag_eq (show i < L.length by omega), ag_eq h]
  simpa [cons, con] using h1)
 clear hn hl hv
 go_enter Tryz.func35, Tryz.ntmps35
 go_wp2_with fail
 go_loopg [7] n (fun gf v7 wx => ∃ (k : Nat), v7 = .int .i64 (k : Int) ∧ Hid (gf + k = n) ∧ Hid (Below w.heap.size w wx))
 case atStart => exact ⟨0, rfl, Lib.hid (by omega), Lib.hid (Below.refl _ _)⟩
 case round =>
  obtain ⟨k, rfl, hk, hb⟩ := hrel
  have hk' := hk.out
  cases gk with
  | zero =>
   obtain rfl : k = n := by omega
   have lt0 : decide ((k : Int) < (k : Int)) = false := by simp
   have lt1 : decide (k < k) = false := by simp
   go_wp2
   go_ret
   exact ⟨rfl, hb.out⟩
  | succ gf =>
   have hkl : k < L.length := by rw [HN.out]; omega
   have lt0 : (k : Int) < (n : Int) := by omega
   have hw1 : (k : Int) + 1 ≤ 10000 := by omega
   have har := Arr.step HL.out hb.out
   obtain ⟨b, off, hA, _, e0, e1, e2, e3, e4, e5, e6, e7, e8⟩ := ard_at har.1 hkl
   obtain ⟨W1, hW1⟩ : ∃ V, wr.alloc (.cells #[Value.int .i64 (ag L k).h.a, .int .i64 (ag L k).h.o, .int .i64 (ag L k).h.t, .int .u32 (ag L k).h.i, .int .u32 (ag L k).h.v, .int .u32 (ag L k).h.q, .int .i64 (ag L k).h.s, .int .i64 (ag L k).h.n, .slice (ag L k).A (ag L k).l.length (ag L k).c] 40) = V := ⟨_, rfl⟩
   have u1 : Below wr.heap.size wr W1 := by rw [← hW1]; exact below_alloc1 _ _
   have G1 := Bk.mk hW1
   have H1 := Lib.hid (hb.out.trans (u1.mono hb.out.size))
   by_cases hk0 : k = 0
   ·subst hk0
    obtain ⟨y, hy⟩ : ∃ y, ag L 0 = y := ⟨_, rfl⟩
    rw [hy] at e0 e1 e2 e3 e4 e5 e6 e7 e8 G1 hW1
    simp only [Nat.zero_mul, Nat.add_zero] at e0 e1 e2 e3 e4 e5 e6 e7 e8
    obtain ⟨z0, z1, z2, z3, z4, z5, z6, z7, z8, f0, f1, f2, f3, f4, f5, f6, f7, f8, hzl⟩ := kz9_at G1
    subst hA
    clear hkl har hy u1 G1
    go_upto_region 4 with fail
    refine wp_region_quiet_below (by kernel_rfl) (by kernel_rfl) ?_
    have gg0 := cell_regrown z0
    have gg1 := cell_regrown z1
    have gg2 := cell_regrown z2
    have gg3 := cell_regrown z3
    have gg4 := cell_regrown z4
    have gg5 := cell_regrown z5
    have gg6 := cell_regrown z6
    have gg7 := cell_regrown z7
    have gg8 := cell_regrown z8
    repeat (first | go_big_quiet_step (fail) | go_big_quiet_skip)
    refine wpQuiet_nil ?_
    intro W9 hw'
    obtain ⟨⟨dq, osq⟩, hw''⟩ := hw'
    have hbz := below_regrown W1 dq osq
    rw [← hw''] at hbz
    clear hw'' gg0 gg1 gg2 gg3 gg4 gg5 gg6 gg7 gg8  
    have H9 := Lib.hid (H1.out.trans (hbz.mono H1.out.size))
    clear z0 z1 z2 z3 z4 z5 z6 z7 z8 f0 f1 f2 f3 f4 f5 f6 f7 f8 hzl e0 e1 e2 e3 e4 e5 e6 e7 e8 hbz hW1
    go_wp2
    go_roundg gf
    case measure => omega
    case rel => exact ⟨1, by go_num, Lib.hid (by omega), H9⟩
   ·obtain ⟨p, rfl⟩ : ∃ p, k = p + 1 := ⟨k - 1, by omega⟩
    have hls := HV.out p hkl
    have hpl : p < L.length := by omega
    obtain ⟨b2, off2, hA2, _, x0, x1, x2, x3, x4, x5, x6, x7, x8⟩ := ard_at (har.step u1).1 hpl
    rw [hA] at hA2
    injection hA2 with hA2
    injection hA2 with h1 h2
    subst h1 h2
    obtain ⟨y, hy⟩ : ∃ y, ag L (p + 1) = y := ⟨_, rfl⟩
    obtain ⟨v, hv⟩ : ∃ v, ag L p = v := ⟨_, rfl⟩
    rw [hy] at e0 e1 e2 e3 e4 e5 e6 e7 e8 G1 hW1 hls
    rw [hv] at x0 x1 x2 x3 x4 x5 x6 x7 x8 hls
    obtain ⟨z0, z1, z2, z3, z4, z5, z6, z7, z8, f0, f1, f2, f3, f4, f5, f6, f7, f8, hzl⟩ := kz9_at G1
    have CL := fun V => less_any v.h y.h V
    rw [hls] at CL
    have hgt : ((p : Int) + 1 > 0) := by omega
    have hcast : ((p + 1 : Nat) : Int) = (p : Int) + 1 := by omega
    have hwp : IntKind.i64.wrap ((p : Int) + 1 - 1) = (p : Int) := by rw [show (p : Int) + 1 - 1 = p by omega]; exact wrap_i64 (by omega) (by omega)
    have hlp : (p : Int) < (n : Int) := by omega
    have htn : ((p : Int) + 1).toNat = p + 1 := by omega
    have hp0 : (0 : Int) ≤ (p : Int) + 1 := by omega
    have hlp1 : (p : Int) + 1 < (n : Int) := by omega
    have hw2 : IntKind.i64.wrap ((p : Int) + 1 + 1) = (p : Int) + 1 + 1 := wrap_i64 (by omega) (by omega)
    subst hA
    clear hkl hpl har hy hv u1 G1 hls
    go_upto_region 4 with fail
    refine wp_region_quiet_below (by kernel_rfl) (by kernel_rfl) ?_
    have gg0 := cell_regrown z0
    have gg1 := cell_regrown z1
    have gg2 := cell_regrown z2
    have gg3 := cell_regrown z3
    have gg4 := cell_regrown z4
    have gg5 := cell_regrown z5
    have gg6 := cell_regrown z6
    have gg7 := cell_regrown z7
    have gg8 := cell_regrown z8
    have gg9 := cell_regrown x0
    have gg10 := cell_regrown x1
    have gg11 := cell_regrown x2
    have gg12 := cell_regrown x3
    have gg13 := cell_regrown x4
    have gg14 := cell_regrown x5
    have gg15 := cell_regrown x6
    have gg16 := cell_regrown x7
    have gg17 := cell_regrown x8
    have zz0 : ∀ d os, _ := fun d os => Calls.regrown_of (w := W1) (d := d) (os := os) (key_any v.h _)
    have zz1 : ∀ d os, _ := fun d os => Calls.regrown_of (w := W1) (d := d) (os := os) (key_any y.h _)
    have zz2 : ∀ d os, _ := fun d os => Calls.regrown_of (w := W1) (d := d) (os := os) (CL _)
    repeat (first | go_big_quiet_step (with_reducible exact zz0 _ _) | go_big_quiet_step (with_reducible exact zz1 _ _) | go_big_quiet_step (with_reducible exact zz2 _ _) | go_big_quiet_step (fail) | go_big_quiet_skip)
    refine wpQuiet_nil ?_
    intro W9 hw'
    obtain ⟨⟨dq, osq⟩, hw''⟩ := hw'
    have hbz := below_regrown W1 dq osq
    rw [← hw''] at hbz
    clear hw'' gg0 gg1 gg2 gg3 gg4 gg5 gg6 gg7 gg8 gg9 gg10 gg11 gg12 gg13 gg14 gg15 gg16 gg17 zz0 zz1 zz2 
    have H9 := Lib.hid (H1.out.trans (hbz.mono H1.out.size))
    clear z0 z1 z2 z3 z4 z5 z6 z7 z8 f0 f1 f2 f3 f4 f5 f6 f7 f8 hzl e0 e1 e2 e3 e4 e5 e6 e7 e8 x0 x1 x2 x3 x4 x5 x6 x7 x8 hbz hW1 CL
    go_wp2
    go_roundg gf
    case measure => omega
    case rel => exact ⟨p + 2, by go_num, Lib.hid (by omega), H9⟩
end Go.Proofs.YtadcicmccdphkaaGreat
namespace Go.Proofs.YtadcicmccdphkaaGreat
open Go.RowKit Go.Joins

set_option maxRecDepth 100000 in
theorem smay_any (m : Int) (A : Option Addr) (n c : Nat) (o : Bool) (L : List Ae) (w : World) (hn : L.length = n) (hl : Arr w A L) (hv : Vs (cons L)) (hc : ∀ x ∈ L, x.l.length ≤ x.c) (hm : 1 ≤ m ∧ m ≤ 2000) (hnm : (n : Int) ≤ m) :
  Calls Tryz.prog 8 #[.agg #[.int .i64 m, .slice A n c, .bool o]] w fun e w' => e = .returned (.bool true) ∧ Below w.heap.size w w' := by
 obtain ⟨W0, hW0⟩ : ∃ V, w.alloc (.cells #[.int .i64 m, .slice A n c, .bool o] 28) = V := ⟨_, rfl⟩
 have bW0 : Below w.heap.size w W0 := by rw [← hW0]; exact below_alloc1 _ _
 have sW0 : W0.heap.size = w.heap.size + 1 := by rw [← hW0]; simp
 have KX : Hid (∀ V, Below W0.heap.size W0 V → V.cell? ⟨w.heap.size, 0, none⟩ = some (.int .i64 m) ∧ V.cell? ⟨w.heap.size, 1, none⟩ = some (.slice A n c) ∧ V.cell? ⟨w.heap.size, 2, none⟩ = some (.bool o)) := Lib.hid (fun V hV => kb3_new hW0 hV)
 obtain ⟨k0, k1, k2⟩ := KX.out _ (Below.refl _ _)
 have CM := smayMax_any m W0
 rw [show win m 1 2000 = true from (win_iff _ _ _).2 hm] at CM
 have CC := cfwrong_any A n c L W0 hn (hl.step bW0) (by omega) hv hc
 have CA := fun V (hV : Below W0.heap.size W0 V) => ascend_any A n c L V hn ((hl.step bW0).step hV) (by omega) hv.a
 have B0 := Lib.hid bW0
 have hle : (n : Int) ≤ m := hnm
 have hge : decide ((n : Int) ≤ m) = true := by simpa using hnm
 have KXX := KX
 clear hn hl hv hc sW0 bW0 KX
 go_enter Tryz.func8, Tryz.ntmps8
 go_wp2_with fail
 refine CM.mono ?_
 rintro e _ ⟨rfl, rfl⟩
 go_wp2_with fail
 refine CC.mono ?_
 rintro e W1 ⟨rfl, u1⟩
 obtain ⟨q0, q1, q2⟩ := KXX.out _ u1
 have CA1 := CA W1 u1
 have T1 := Lib.hid (B0.out.trans (u1.mono B0.out.size))
 clear k0 k1 k2 CC CM CA u1
 go_wp2_with fail
 refine CA1.mono ?_
 rintro e W2 ⟨rfl, u2⟩
 go_wp2
 go_ret
 exact ⟨rfl, T1.out.trans (u2.mono T1.out.size)⟩
end Go.Proofs.YtadcicmccdphkaaGreat
namespace Go.Proofs.YtadcicmccdphkaaGreat
open Go.RowKit Go.Joins

set_option maxRecDepth 100000 in
set_option maxHeartbeats 8000000 in
theorem rmay14_any (m : Int) (A : Option Addr) (n c : Nat) (o : Bool) (L : List Ae) (w : World) (hn : L.length = n) (hl : Arr w A L) (hv : Vs (cons L)) (hc : ∀ x ∈ L, x.l.length ≤ x.c) (hm : 1 ≤ m ∧ m ≤ 2000) (hnm : (n : Int) ≤ m) :
  Calls Tryz.prog 9 #[.agg #[.int .i64 m, .slice A n c, .bool o]] w fun e w' => e = .returned (.bool true) ∧ Below w.heap.size w w' := by
 obtain ⟨W0, hW0⟩ : ∃ V, w.alloc (.cells #[.int .i64 m, .slice A n c, .bool o] 32) = V := ⟨_, rfl⟩
 have bW0 : Below w.heap.size w W0 := by rw [← hW0]; exact below_alloc1 _ _
 have sW0 : W0.heap.size = w.heap.size + 1 := by rw [← hW0]; simp
 have KX : Hid (∀ V, Below W0.heap.size W0 V → V.cell? ⟨w.heap.size, 0, none⟩ = some (.int .i64 m) ∧ V.cell? ⟨w.heap.size, 1, none⟩ = some (.slice A n c) ∧ V.cell? ⟨w.heap.size, 2, none⟩ = some (.bool o)) := Lib.hid (fun V hV => kb3_new hW0 hV)
 obtain ⟨k0, k1, k2⟩ := KX.out _ (Below.refl _ _)
 have HN := Lib.hid hn
 have HL := Lib.hid hl
 have HSV : Hid (∀ i (h : i < L.length), Sv (con (ag L i)) ∧ (ag L i).l.length ≤ (ag L i).c) := Lib.hid (fun i h => ⟨hv.e _ (List.mem_map.2 ⟨_, ag_mem h, rfl⟩), hc _ (ag_mem h)⟩)
 have HV : Hid (∀ i (h : i + 1 < L.length), lessK (ag L i).h (ag L (i + 1)).h = true) := Lib.hid (fun i h => by
  have h1 := List.pairwise_iff_getElem.1 hv.a i (i + 1) (by rw [cons_length]; omega) (by rw [cons_length]; omega) (by omega)
  rw [ag_eq (show i < L.length by omega), ag_eq h]
  simpa [cons, con] using h1)
 have B0 := Lib.hid bW0
 obtain ⟨hm1, hm2⟩ := hm
 have d1 : decide (m < 1) = false := by simp; omega
 have d2 : decide (m > 2000) = false := by simp; omega
 have d3 : decide ((n : Int) > m) = false := by simp; omega
 have hnl : n ≤ 2000 := by omega
 clear hl hn hv hc bW0 sW0
 go_enter Tryz.func9, Tryz.ntmps9
 go_wp2_with fail
 go_loopg [3] n (fun gf v3 wx => ∃ (k : Nat), v3 = .int .i64 (k : Int) ∧ Hid (gf + k = n) ∧ Hid (Below W0.heap.size W0 wx))
 case atStart => exact ⟨0, rfl, Lib.hid (by omega), Lib.hid (Below.refl _ _)⟩
 case round =>
  obtain ⟨k, rfl, hk, hb⟩ := hrel
  have hk' := hk.out
  have HB := Lib.hid (B0.out.trans (hb.out.mono B0.out.size))
  clear k0 k1 k2 hW0
  obtain ⟨k0, k1, k2⟩ := KX.out _ hb.out
  cases gk with
  | zero =>
   obtain rfl : k = n := by omega
   have lt0 : decide ((k : Int) < (k : Int)) = false := by simp
   have lt1 : decide (k < k) = false := by simp
   go_wp2
   go_ret
   exact ⟨rfl, HB.out⟩
  | succ gf =>
   have hkl : k < L.length := by rw [HN.out]; omega
   have lt0 : (k : Int) < (n : Int) := by omega
   have hw1 : (k : Int) + 1 ≤ 10000 := by omega
   obtain ⟨b, off, hA, _, e0, e1, e2, e3, e4, e5, e6, e7, e8⟩ := ard_at (Arr.step HL.out HB.out).1 hkl
   have HBT := Lib.hid (HL.out.2 _ (ag_mem hkl))
   obtain ⟨hsv, hcp⟩ := HSV.out k hkl
   by_cases hk0 : k = 0
   ·subst hk0
    have HAR : Hid (∀ V, Below w.heap.size w V → V.cell? ⟨b, off + 0 * 9, none⟩ = some (.int .i64 (ag L 0).h.a) ∧ V.cell? ⟨b, off + 0 * 9 + 1, none⟩ = some (.int .i64 (ag L 0).h.o) ∧ V.cell? ⟨b, off + 0 * 9 + 2, none⟩ = some (.int .i64 (ag L 0).h.t) ∧ V.cell? ⟨b, off + 0 * 9 + 3, none⟩ = some (.int .u32 (ag L 0).h.i) ∧ V.cell? ⟨b, off + 0 * 9 + 4, none⟩ = some (.int .u32 (ag L 0).h.v) ∧ V.cell? ⟨b, off + 0 * 9 + 5, none⟩ = some (.int .u32 (ag L 0).h.q) ∧ V.cell? ⟨b, off + 0 * 9 + 6, none⟩ = some (.int .i64 (ag L 0).h.s) ∧ V.cell? ⟨b, off + 0 * 9 + 7, none⟩ = some (.int .i64 (ag L 0).h.n) ∧ V.cell? ⟨b, off + 0 * 9 + 8, none⟩ = some (.slice (ag L 0).A (ag L 0).l.length (ag L 0).c)) := Lib.hid (fun V hV => by
     obtain ⟨b2, off2, hA2, _, q0, q1, q2, q3, q4, q5, q6, q7, q8⟩ := ard_at (Arr.step HL.out hV).1 hkl
     rw [hA] at hA2
     injection hA2 with hA2
     injection hA2 with h1 h2
     subst h1 h2
     exact ⟨q0, q1, q2, q3, q4, q5, q6, q7, q8⟩)
    obtain ⟨x, hx⟩ : ∃ x, ag L 0 = x := ⟨_, rfl⟩
    rw [hx] at HAR HBT hsv hcp e0 e1 e2 e3 e4 e5 e6 e7 e8
    simp only [Nat.zero_mul, Nat.add_zero] at e0 e1 e2 e3 e4 e5 e6 e7 e8 HAR
    subst hA
    clear hkl hx
    have CW := rwhole_any x.h x.A x.l.length x.c x.l wr rfl hsv.ok (HBT.out.step HB.out) hsv.y (by have := hsv.sok.n; simp only [con] at this; omega)
    rw [show whl x.h x.l = true from hsv.w] at CW
    have CR := fun V (hV : Below w.heap.size w V) => rright_any x.h.a x.h.o x.h.t x.h.i x.h.v x.h.q x.h.s x.h.n x.A x.l.length x.c x.l V rfl (HBT.out.step hV) hsv.y hcp (by have := hsv.sok.n; simp only [con] at this; omega)
    rw [show rgt x.h.t x.l = true from hsv.r] at CR
    go_wp2_with fail
    refine CW.mono ?_
    rintro e W6 ⟨rfl, u6⟩
    have T6 := Lib.hid (hb.out.trans (u6.mono hb.out.size))
    have BB6 := Lib.hid (B0.out.trans (T6.out.mono B0.out.size))
    have CR6 := CR W6 BB6.out
    obtain ⟨k0, k1, k2⟩ := KX.out _ T6.out
    obtain ⟨e0, e1, e2, e3, e4, e5, e6, e7, e8⟩ := HAR.out _ BB6.out
    clear CW CR u6
    go_wp2_with fail
    refine CR6.mono ?_
    rintro e W7 ⟨rfl, u7⟩
    have T7 := Lib.hid (T6.out.trans (u7.mono T6.out.size))
    have BB7 := Lib.hid (B0.out.trans (T7.out.mono B0.out.size))
    clear CR6 u7 e0 e1 e2 e3 e4 e5 e6 e7 e8 k0 k1 k2
    obtain ⟨k0, k1, k2⟩ := KX.out _ T7.out
    obtain ⟨e0, e1, e2, e3, e4, e5, e6, e7, e8⟩ := HAR.out _ BB7.out
    clear hsv hcp HBT HAR
    go_upto_region 8 with fail
    refine wp_region_quiet_below (by kernel_rfl) (by kernel_rfl) ?_
    have gg0 := cell_regrown k0
    have gg1 := cell_regrown k1
    have gg2 := cell_regrown k2
    have gg3 := cell_regrown e0
    have gg4 := cell_regrown e1
    have gg5 := cell_regrown e2
    have gg6 := cell_regrown e3
    have gg7 := cell_regrown e4
    have gg8 := cell_regrown e5
    have gg9 := cell_regrown e6
    have gg10 := cell_regrown e7
    have gg11 := cell_regrown e8
    repeat (first | go_big_quiet_step (fail) | go_big_quiet_skip)
    refine wpQuiet_nil ?_
    intro W9 hw'
    obtain ⟨⟨dq, osq⟩, hw''⟩ := hw'
    have hbz := below_regrown W7 dq osq
    rw [← hw''] at hbz
    clear hw'' gg0 gg1 gg2 gg3 gg4 gg5 gg6 gg7 gg8 gg9 gg10 gg11  
    have H9 := Lib.hid (T7.out.trans (hbz.mono T7.out.size))
    clear e0 e1 e2 e3 e4 e5 e6 e7 e8 k0 k1 k2 hbz
    go_wp2
    go_roundg gf
    case measure => omega
    case rel => exact ⟨1, by go_num, Lib.hid (by omega), H9⟩
   ·obtain ⟨p, rfl⟩ : ∃ p, k = p + 1 := ⟨k - 1, by omega⟩
    have hls := HV.out p hkl
    have hpl : p < L.length := by omega
    have HAR : Hid (∀ V, Below w.heap.size w V → V.cell? ⟨b, off + (p + 1) * 9, none⟩ = some (.int .i64 (ag L (p + 1)).h.a) ∧ V.cell? ⟨b, off + (p + 1) * 9 + 1, none⟩ = some (.int .i64 (ag L (p + 1)).h.o) ∧ V.cell? ⟨b, off + (p + 1) * 9 + 2, none⟩ = some (.int .i64 (ag L (p + 1)).h.t) ∧ V.cell? ⟨b, off + (p + 1) * 9 + 3, none⟩ = some (.int .u32 (ag L (p + 1)).h.i) ∧ V.cell? ⟨b, off + (p + 1) * 9 + 4, none⟩ = some (.int .u32 (ag L (p + 1)).h.v) ∧ V.cell? ⟨b, off + (p + 1) * 9 + 5, none⟩ = some (.int .u32 (ag L (p + 1)).h.q) ∧ V.cell? ⟨b, off + (p + 1) * 9 + 6, none⟩ = some (.int .i64 (ag L (p + 1)).h.s) ∧ V.cell? ⟨b, off + (p + 1) * 9 + 7, none⟩ = some (.int .i64 (ag L (p + 1)).h.n) ∧ V.cell? ⟨b, off + (p + 1) * 9 + 8, none⟩ = some (.slice (ag L (p + 1)).A (ag L (p + 1)).l.length (ag L (p + 1)).c)) := Lib.hid (fun V hV => by
     obtain ⟨b2, off2, hA2, _, q0, q1, q2, q3, q4, q5, q6, q7, q8⟩ := ard_at (Arr.step HL.out hV).1 hkl
     rw [hA] at hA2
     injection hA2 with hA2
     injection hA2 with h1 h2
     subst h1 h2
     exact ⟨q0, q1, q2, q3, q4, q5, q6, q7, q8⟩)
    have HAP : Hid (∀ V, Below w.heap.size w V → V.cell? ⟨b, off + p * 9, none⟩ = some (.int .i64 (ag L p).h.a) ∧ V.cell? ⟨b, off + p * 9 + 1, none⟩ = some (.int .i64 (ag L p).h.o) ∧ V.cell? ⟨b, off + p * 9 + 2, none⟩ = some (.int .i64 (ag L p).h.t) ∧ V.cell? ⟨b, off + p * 9 + 3, none⟩ = some (.int .u32 (ag L p).h.i) ∧ V.cell? ⟨b, off + p * 9 + 4, none⟩ = some (.int .u32 (ag L p).h.v) ∧ V.cell? ⟨b, off + p * 9 + 5, none⟩ = some (.int .u32 (ag L p).h.q) ∧ V.cell? ⟨b, off + p * 9 + 6, none⟩ = some (.int .i64 (ag L p).h.s) ∧ V.cell? ⟨b, off + p * 9 + 7, none⟩ = some (.int .i64 (ag L p).h.n) ∧ V.cell? ⟨b, off + p * 9 + 8, none⟩ = some (.slice (ag L p).A (ag L p).l.length (ag L p).c)) := Lib.hid (fun V hV => by
     obtain ⟨b2, off2, hA2, _, q0, q1, q2, q3, q4, q5, q6, q7, q8⟩ := ard_at (Arr.step HL.out hV).1 hpl
     rw [hA] at hA2
     injection hA2 with hA2
     injection hA2 with h1 h2
     subst h1 h2
     exact ⟨q0, q1, q2, q3, q4, q5, q6, q7, q8⟩)
    obtain ⟨x, hx⟩ : ∃ x, ag L (p + 1) = x := ⟨_, rfl⟩
    obtain ⟨v, hv⟩ : ∃ v, ag L p = v := ⟨_, rfl⟩
    rw [hx] at HAR HBT hsv hcp hls e0 e1 e2 e3 e4 e5 e6 e7 e8
    rw [hv] at HAP hls
    have CL := fun V => rless_any v.h x.h V
    rw [hls] at CL
    have hgt : ((p : Int) + 1 > 0) := by omega
    have hcast : ((p + 1 : Nat) : Int) = (p : Int) + 1 := by omega
    have hwp : IntKind.i64.wrap ((p : Int) + 1 - 1) = (p : Int) := by rw [show (p : Int) + 1 - 1 = p by omega]; exact wrap_i64 (by omega) (by omega)
    have hlp : (p : Int) < (n : Int) := by omega
    have htn : ((p : Int) + 1).toNat = p + 1 := by omega
    have hp0 : (0 : Int) ≤ (p : Int) + 1 := by omega
    have hlp1 : (p : Int) + 1 < (n : Int) := by omega
    have hw2 : IntKind.i64.wrap ((p : Int) + 1 + 1) = (p : Int) + 1 + 1 := wrap_i64 (by omega) (by omega)
    subst hA
    clear hkl hpl hx hv hls
    have CW := rwhole_any x.h x.A x.l.length x.c x.l wr rfl hsv.ok (HBT.out.step HB.out) hsv.y (by have := hsv.sok.n; simp only [con] at this; omega)
    rw [show whl x.h x.l = true from hsv.w] at CW
    have CR := fun V (hV : Below w.heap.size w V) => rright_any x.h.a x.h.o x.h.t x.h.i x.h.v x.h.q x.h.s x.h.n x.A x.l.length x.c x.l V rfl (HBT.out.step hV) hsv.y hcp (by have := hsv.sok.n; simp only [con] at this; omega)
    rw [show rgt x.h.t x.l = true from hsv.r] at CR
    go_wp2_with fail
    refine CW.mono ?_
    rintro e W6 ⟨rfl, u6⟩
    have T6 := Lib.hid (hb.out.trans (u6.mono hb.out.size))
    have BB6 := Lib.hid (B0.out.trans (T6.out.mono B0.out.size))
    have CR6 := CR W6 BB6.out
    obtain ⟨k0, k1, k2⟩ := KX.out _ T6.out
    obtain ⟨e0, e1, e2, e3, e4, e5, e6, e7, e8⟩ := HAR.out _ BB6.out
    clear CW CR u6
    go_wp2_with fail
    refine CR6.mono ?_
    rintro e W7 ⟨rfl, u7⟩
    have T7 := Lib.hid (T6.out.trans (u7.mono T6.out.size))
    have BB7 := Lib.hid (B0.out.trans (T7.out.mono B0.out.size))
    clear CR6 u7 e0 e1 e2 e3 e4 e5 e6 e7 e8 k0 k1 k2
    obtain ⟨k0, k1, k2⟩ := KX.out _ T7.out
    obtain ⟨e0, e1, e2, e3, e4, e5, e6, e7, e8⟩ := HAR.out _ BB7.out
    obtain ⟨x0, x1, x2, x3, x4, x5, x6, x7, x8⟩ := HAP.out _ BB7.out
    clear hsv hcp HBT HAR HAP
    go_upto_region 8 with fail
    refine wp_region_quiet_below (by kernel_rfl) (by kernel_rfl) ?_
    have gg0 := cell_regrown k0
    have gg1 := cell_regrown k1
    have gg2 := cell_regrown k2
    have gg3 := cell_regrown e0
    have gg4 := cell_regrown e1
    have gg5 := cell_regrown e2
    have gg6 := cell_regrown e3
    have gg7 := cell_regrown e4
    have gg8 := cell_regrown e5
    have gg9 := cell_regrown e6
    have gg10 := cell_regrown e7
    have gg11 := cell_regrown e8
    have gg12 := cell_regrown x0
    have gg13 := cell_regrown x1
    have gg14 := cell_regrown x2
    have gg15 := cell_regrown x3
    have gg16 := cell_regrown x4
    have gg17 := cell_regrown x5
    have gg18 := cell_regrown x6
    have gg19 := cell_regrown x7
    have gg20 := cell_regrown x8
    have zz0 : ∀ d os, _ := fun d os => Calls.regrown_of (w := W7) (d := d) (os := os) (rkey_any v.h _)
    have zz1 : ∀ d os, _ := fun d os => Calls.regrown_of (w := W7) (d := d) (os := os) (rkey_any x.h _)
    have zz2 : ∀ d os, _ := fun d os => Calls.regrown_of (w := W7) (d := d) (os := os) (CL _)
    repeat (first | go_big_quiet_step (with_reducible exact zz0 _ _) | go_big_quiet_step (with_reducible exact zz1 _ _) | go_big_quiet_step (with_reducible exact zz2 _ _) | go_big_quiet_step (fail) | go_big_quiet_skip)
    refine wpQuiet_nil ?_
    intro W9 hw'
    obtain ⟨⟨dq, osq⟩, hw''⟩ := hw'
    have hbz := below_regrown W7 dq osq
    rw [← hw''] at hbz
    clear hw'' gg0 gg1 gg2 gg3 gg4 gg5 gg6 gg7 gg8 gg9 gg10 gg11 gg12 gg13 gg14 gg15 gg16 gg17 gg18 gg19 gg20 zz0 zz1 zz2 
    have H9 := Lib.hid (T7.out.trans (hbz.mono T7.out.size))
    clear e0 e1 e2 e3 e4 e5 e6 e7 e8 k0 k1 k2 x0 x1 x2 x3 x4 x5 x6 x7 x8 hbz CL
    go_wp2
    go_roundg gf
    case measure => omega
    case rel => exact ⟨p + 2, by go_num, Lib.hid (by omega), H9⟩
end Go.Proofs.YtadcicmccdphkaaGreat
