/-
  slices.IndexFunc at advertisements; store.has and its closure. The contract of lsa's Less. The contract of store.freshAd. store.has, store.place and its closures. No statement is proved here; no conditions.
-/
import Derived.Test.YtadcicmccdphkaaGreatG07
import Derived.Test.YtadcicmccdphkaaGreatG09
import Derived.Test.YtadcicmccdphkaaGreatG05
import Derived.Deep.LoopGhost
import Derived.Laws.StructEq
namespace Go.Proofs.YtadcicmccdphkaaGreat
open Go.RowKit Go.Joins

def Bk (w : World) (b : Nat) (o : Obj) : Prop := w.heap[b]? = some o
theorem Bk.lt {w : World} {b : Nat} {o : Obj} (h : Bk w b o) : b < w.heap.size := lt_of_block h
theorem Bk.step {w w' : World} {b : Nat} {o : Obj} (h : Bk w b o) (k : Below w.heap.size w w') : Bk w' b o := (k.block b h.lt).trans h
theorem Bk.mk {w W0 : World} {o : Obj} (h : w.alloc o = W0) : Bk W0 w.heap.size o := by subst h; exact alloc_at _ _ _ rfl
abbrev av (x : Ae) : Value := .agg #[.int .i64 x.h.a, .int .i64 x.h.o, .int .i64 x.h.t, .int .u32 x.h.i, .int .u32 x.h.v, .int .u32 x.h.q, .int .i64 x.h.s, .int .i64 x.h.n, .slice x.A x.l.length x.c]
set_option maxRecDepth 100000 in
theorem aix_any (A0 : Option Addr) (n c : Nat) (L : List Ae) (F : Nat) (p1 : Value) (pr : Ae → Bool) (w : World) (hn : L.length = n) (hl : Arr w A0 L) (hll : n ≤ 10000)
  (hF : ∀ (args : Array Value) (w' : World), (callFunc F args).run Tryz.prog w' = .ok (.enter F args) w')
  (hp : ∀ V x, x ∈ L → Below w.heap.size w V → Calls Tryz.prog F #[av x, p1] V fun e V' => e = .returned (.bool (pr x)) ∧ Below V.heap.size V V') :
  Calls Tryz.prog 40 #[.slice A0 n c, .func (.func F) #[] #[p1]] w fun e w' => e = .returned (.int .i64 (fix pr L)) ∧ Below w.heap.size w w' := by
 have HL := Lib.hid hl
 have HP := Lib.hid hp
 obtain ⟨R, hR⟩ : ∃ R, fix pr L = R := ⟨_, rfl⟩
 rw [hR]
 have HLN := Lib.hid hn
 have HR := Lib.hid hR
 clear hl hp hn hR
 go_enter Tryz.func40, Tryz.ntmps40
 go_wp2_with fail
 go_loopg [8] n (fun gf v wx => ∃ (k : Nat), v = .int .i64 (k : Int) ∧ Hid (gf + k = n) ∧ Hid (∀ i (hi : i < L.length), i < k → pr L[i] = false) ∧ Hid (Below w.heap.size w wx))
 case atStart => exact ⟨0, rfl, Lib.hid (by omega), Lib.hid (fun i _ hi => by omega), Lib.hid (Below.refl _ _)⟩
 case round =>
  obtain ⟨k, rfl, hk, hn, hb⟩ := hrel
  have hk' := hk.out
  cases gk with
  | zero =>
   have e1 : k = n := by omega
   have lt0 : decide ((k : Int) < (n : Int)) = false := by simp; omega
   have lt1 : decide (k < n) = false := by simp; omega
   go_wp2
   go_ret
   refine ⟨ret_int ?_, hb.out⟩
   rw [← HR.out, fix_none]
   intro x hx
   obtain ⟨i, hi, rfl⟩ := List.getElem_of_mem hx
   exact hn.out i hi (by have := HLN.out; omega)
  | succ gf =>
   have hkl : k < L.length := by rw [HLN.out]; omega
   have lt0 : (k : Int) < (n : Int) := by omega
   have hw1 : (k : Int) + 1 ≤ 10000 := by omega
   obtain ⟨b, off, hA, _, e0, e1, e2, e3, e4, e5, e6, e7, e8⟩ := ard_at (HL.out.step hb.out).1 hkl
   have hmem : ag L k ∈ L := ag_mem hkl
   have hxl : ag L k = L[k] := ag_eq hkl
   obtain ⟨x, hx⟩ : ∃ x, ag L k = x := ⟨_, rfl⟩
   rw [hx] at e0 e1 e2 e3 e4 e5 e6 e7 e8 hmem hxl
   subst hA
   have see := HP.out wr x hmem hb.out
   have HX := Lib.hid hxl
   clear hx hmem hxl
   have hf1 := hF #[av x, p1] wr
   cases hpr : pr x with
   | true =>
    rw [hpr] at see
    have E9 : Hid (R = (k : Int)) := Lib.hid (by rw [← HR.out, fix_at hkl (fun i hi => hn.out i (by omega) hi) (by rw [← HX.out]; exact hpr)])
    clear HX hkl
    go_wp2_with fail
    refine see.mono ?_
    rintro e W2 ⟨rfl, hb2⟩
    go_wp2
    go_ret
    exact ⟨ret_int E9.out.symm, hb.out.trans (hb2.mono hb.out.size)⟩
   | false =>
    rw [hpr] at see
    have HN : Hid (∀ i (hi : i < L.length), i < k + 1 → pr L[i] = false) := Lib.hid (fun i hi hik => by
     rcases Nat.lt_or_ge i k with q | q
     ·exact hn.out i hi q
     ·obtain rfl : i = k := by omega
      rw [← HX.out]; exact hpr)
    clear HX hkl
    go_wp2_with fail
    refine see.mono ?_
    rintro e W2 ⟨rfl, hb2⟩
    have HB2 := Lib.hid (hb.out.trans (hb2.mono hb.out.size))
    clear hb2 see hf1 e0 e1 e2 e3 e4 e5 e6 e7 e8 hb
    go_wp2
    go_roundg gf
    case measure => omega
    case rel => exact ⟨k + 1, by go_num, Lib.hid (by omega), HN, HB2⟩
def kq (y x : Hd) : Bool := decide (x.t = y.t) && (decide (x.i = y.i) && decide (x.v = y.v))
theorem htK : Tryz.prog.underlying 25 = some (.struct (Tryz.prog.fieldsOf 25)) := by kernel_rfl
theorem hpK : Tryz.prog.stoodInHeld 25 = false := by kernel_rfl
theorem eqK0 (w : World) (a b c d e f : Int) : (Op.equalIn 10000 25 (.agg #[.int .i64 a, .int .u32 b, .int .u32 c]) (.agg #[.int .i64 d, .int .u32 e, .int .u32 f])).run Tryz.prog w = .ok (decide (a = d) && (decide (b = e) && decide (c = f))) w := by
 rw [run_equalIn_agg (P := Tryz.prog) w 9999 25 #[.int .i64 a, .int .u32 b, .int .u32 c] #[.int .i64 d, .int .u32 e, .int .u32 f] htK hpK]
 simp [go_sem, Op.eqFields]
 by_cases h1 : a = d <;> by_cases h2 : b = e <;> by_cases h3 : c = f <;> simp [h1, h2, h3]
theorem eqK (w : World) (a b c d e f : Int) : (binOp .eql 25 (.agg #[.int .i64 a, .int .u32 b, .int .u32 c]) (.agg #[.int .i64 d, .int .u32 e, .int .u32 f])).run Tryz.prog w = .ok (.bool (decide (a = d) && (decide (b = e) && decide (c = f)))) w := by
 rw [run_eql_struct, eqK0]
 rfl
theorem neK (w : World) (a b c d e f : Int) : (binOp .neq 25 (.agg #[.int .i64 a, .int .u32 b, .int .u32 c]) (.agg #[.int .i64 d, .int .u32 e, .int .u32 f])).run Tryz.prog w = .ok (.bool (!(decide (a = d) && (decide (b = e) && decide (c = f))))) w := by
 rw [run_neq_struct, eqK0]
 rfl
theorem enters_has1 (args : Array Value) (w' : World) : (callFunc 66 args).run Tryz.prog w' = .ok (.enter 66 args) w' := by simp [callFunc, Tryz.func66, Tryz.f66, mark]
set_option maxRecDepth 100000 in
theorem has1_any (y : Hd) (b : Nat) (x : Ae) (w : World) (hb : Bk w b (.cells #[.int .i64 y.t, .int .u32 y.i, .int .u32 y.v] 25)) :
  Calls Tryz.prog 66 #[av x, .pointer (some ⟨b, 0, none⟩)] w fun e w' => e = .returned (.bool (kq y x.h)) ∧ Below w.heap.size w w' := by
 obtain ⟨h, hh⟩ : ∃ h, x.h = h := ⟨_, rfl⟩
 obtain ⟨A, hA⟩ : ∃ A, x.A = A := ⟨_, rfl⟩
 obtain ⟨n, hn⟩ : ∃ n, x.l.length = n := ⟨_, rfl⟩
 obtain ⟨c, hc⟩ : ∃ c, x.c = c := ⟨_, rfl⟩
 have HK : Hid (kq y h = (decide (h.t = y.t) && (decide (h.i = y.i) && decide (h.v = y.v)))) := Lib.hid rfl
 rw [av, hh, hA, hn, hc]
 clear hh hA hn hc
 obtain ⟨W0, hW0⟩ : ∃ V, w.alloc (.cells #[.int .i64 h.a, .int .i64 h.o, .int .i64 h.t, .int .u32 h.i, .int .u32 h.v, .int .u32 h.q, .int .i64 h.s, .int .i64 h.n, .slice A n c] 40) = V := ⟨_, rfl⟩
 have bW0 : Below w.heap.size w W0 := by rw [← hW0]; exact below_alloc1 _ _
 have sW0 : W0.heap.size = w.heap.size + 1 := by rw [← hW0]; simp
 have KX : Hid (∀ V, Below W0.heap.size W0 V → V.cell? ⟨w.heap.size, 0, none⟩ = some (.int .i64 h.a) ∧ V.cell? ⟨w.heap.size, 1, none⟩ = some (.int .i64 h.o) ∧ V.cell? ⟨w.heap.size, 2, none⟩ = some (.int .i64 h.t) ∧ V.cell? ⟨w.heap.size, 3, none⟩ = some (.int .u32 h.i) ∧ V.cell? ⟨w.heap.size, 4, none⟩ = some (.int .u32 h.v) ∧ V.cell? ⟨w.heap.size, 5, none⟩ = some (.int .u32 h.q) ∧ V.cell? ⟨w.heap.size, 6, none⟩ = some (.int .i64 h.s) ∧ V.cell? ⟨w.heap.size, 7, none⟩ = some (.int .i64 h.n) ∧ V.cell? ⟨w.heap.size, 8, none⟩ = some (.slice A n c)) := Lib.hid (fun V hV => kb9_new hW0 hV)
 obtain ⟨k0, k1, k2, k3, k4, k5, k6, k7, k8⟩ := KX.out _ (Below.refl _ _)
 obtain ⟨j0, j1, j2, f0, f1, f2, hlt⟩ := kz3_at (hb.step bW0)
 have hq := fun W => eqK W h.t h.i h.v y.t y.i y.v
 rw [HK.out]
 clear KX sW0 hb HK
 go_enter Tryz.func66, Tryz.ntmps66
 go_wp2_with fail
 refine wp_region_quiet_below (by kernel_rfl) (by kernel_rfl) ?_
 have gg0 := cell_regrown k0
 have gg1 := cell_regrown k1
 have gg2 := cell_regrown k2
 have gg3 := cell_regrown k3
 have gg4 := cell_regrown k4
 have gg5 := cell_regrown k5
 have gg6 := cell_regrown k6
 have gg7 := cell_regrown k7
 have gg8 := cell_regrown k8
 have gg9 := cell_regrown j0
 have gg10 := cell_regrown j1
 have gg11 := cell_regrown j2
 have zz0 : ∀ d os, _ := fun d os => Calls.regrown_of (w := W0) (d := d) (os := os) (key_any h _)
 repeat (first | go_big_quiet_step (with_reducible exact zz0 _ _) | go_big_quiet_step (fail) | go_big_quiet_skip)
 refine wpQuiet_nil ?_
 intro W9 hw'
 obtain ⟨⟨dq, osq⟩, hw''⟩ := hw'
 have hbz := below_regrown W0 dq osq
 rw [← hw''] at hbz
 clear hw'' gg0 gg1 gg2 gg3 gg4 gg5 gg6 gg7 gg8 gg9 gg10 gg11 zz0 
 go_wp2
 go_ret
 exact ⟨rfl, bW0.trans (hbz.mono bW0.size)⟩
end Go.Proofs.YtadcicmccdphkaaGreat
namespace Go.Proofs.YtadcicmccdphkaaGreat
open Go.RowKit Go.Joins
open List (getElem_toArray getElem_cons_zero getElem_cons_succ setIfInBounds_toArray set_cons_zero set_cons_succ)

set_option maxRecDepth 100000 in
set_option maxHeartbeats 10000000 in
theorem less_any (a b : Hd) (w : World) :
  Calls Tryz.prog 51 #[.agg #[.int .i64 a.t, .int .u32 a.i, .int .u32 a.v], .agg #[.int .i64 b.t, .int .u32 b.i, .int .u32 b.v]] w fun e w' => e = .returned (.bool (lessK a b)) ∧ Below w.heap.size w w' := by
 obtain ⟨W0, hW0⟩ : ∃ V, w.alloc (.cells #[.int .i64 a.t, .int .u32 a.i, .int .u32 a.v] 25) = V := ⟨_, rfl⟩
 have bW0 : Below w.heap.size w W0 := by rw [← hW0]; exact below_alloc1 _ _
 have sW0 : W0.heap.size = w.heap.size + 1 := by rw [← hW0]; simp
 have KX : Hid (∀ V, Below W0.heap.size W0 V → V.cell? ⟨w.heap.size, 0, none⟩ = some (.int .i64 a.t) ∧ V.cell? ⟨w.heap.size, 1, none⟩ = some (.int .u32 a.i) ∧ V.cell? ⟨w.heap.size, 2, none⟩ = some (.int .u32 a.v)) := Lib.hid (fun V hV => kb3_new hW0 hV)
 obtain ⟨W1, hW1⟩ : ∃ V, W0.alloc (.cells #[.int .i64 b.t, .int .u32 b.i, .int .u32 b.v] 25) = V := ⟨_, rfl⟩
 have bW1 : Below W0.heap.size W0 W1 := by rw [← hW1]; exact below_alloc1 _ _
 have sW1 : W1.heap.size = W0.heap.size + 1 := by rw [← hW1]; simp
 have KY : Hid (∀ V, Below W1.heap.size W1 V → V.cell? ⟨W0.heap.size, 0, none⟩ = some (.int .i64 b.t) ∧ V.cell? ⟨W0.heap.size, 1, none⟩ = some (.int .u32 b.i) ∧ V.cell? ⟨W0.heap.size, 2, none⟩ = some (.int .u32 b.v)) := Lib.hid (fun V hV => kb3_new hW1 hV)
 have b2 : Below w.heap.size w W1 := bW0.trans (bW1.mono bW0.size)
 have B2 := Lib.hid b2
 have KZ : Hid (∀ V, Below W1.heap.size W1 V → (V.cell? ⟨w.heap.size, 0, none⟩ = some (.int .i64 a.t) ∧ V.cell? ⟨w.heap.size, 1, none⟩ = some (.int .u32 a.i) ∧ V.cell? ⟨w.heap.size, 2, none⟩ = some (.int .u32 a.v)) ∧ (V.cell? ⟨(w.heap.size + 1), 0, none⟩ = some (.int .i64 b.t) ∧ V.cell? ⟨(w.heap.size + 1), 1, none⟩ = some (.int .u32 b.i) ∧ V.cell? ⟨(w.heap.size + 1), 2, none⟩ = some (.int .u32 b.v))) := Lib.hid (fun V hV => by
  have q1 := KX.out V (bW1.trans (hV.mono bW1.size))
  have q2 := KY.out V hV
  rw [sW0] at q2
  exact ⟨q1, q2⟩)
 have HC : Hid (lessK a b = decide (fstn [cmpI a.t b.t, cmpI a.i b.i, cmpI a.v b.v] < 0)) := Lib.hid rfl
 have tt : Below W1.heap.size W1 W1 := Below.refl _ _
 clear KX KY bW0 bW1 b2 sW1
 go_enter Tryz.func51, Tryz.ntmps51
 go_wp2_with fail
 refine wp_region_held_drew (S := fun V => (V.cell? ⟨w.heap.size, 0, none⟩ = some (.int .i64 a.t) ∧ V.cell? ⟨w.heap.size, 1, none⟩ = some (.int .u32 a.i) ∧ V.cell? ⟨w.heap.size, 2, none⟩ = some (.int .u32 a.v)) ∧ (V.cell? ⟨(w.heap.size + 1), 0, none⟩ = some (.int .i64 b.t) ∧ V.cell? ⟨(w.heap.size + 1), 1, none⟩ = some (.int .u32 b.i) ∧ V.cell? ⟨(w.heap.size + 1), 2, none⟩ = some (.int .u32 b.v))) (by kernel_rfl) (KZ.out _ tt.drew) (fun hHeld => ?_)
 replace tt : Below W1.heap.size W1 W1.drew := tt.drew
 generalize hX0 : W1.drew = X0 at tt hHeld ⊢
 clear hX0
 refine wpAnyH_take (i := 0) (v := ?_) rfl (by kernel_rfl) (by kernel_rfl) (by kernel_rfl) (fun _ _ _ h => h) (Or.inl ⟨by rfl, ?_⟩) (by assumption) ?_
 rotate_left
 ·(intro w' hSw; (try dsimp only at hSw); go_simp; try with_reducible rfl)
 simp only [Act.put, getElem_toArray, getElem_cons_zero, setIfInBounds_toArray, set_cons_zero, set_cons_succ]
 refine wpAnyH_take (i := 1) (v := ?_) rfl (by kernel_rfl) (by kernel_rfl) (by kernel_rfl) (fun _ _ _ h => h) (Or.inl ⟨by rfl, ?_⟩) (by assumption) ?_
 rotate_left
 ·(intro w' hSw; (try dsimp only at hSw); go_simp; try with_reducible rfl)
 simp only [Act.put, getElem_toArray, getElem_cons_zero, getElem_cons_succ, setIfInBounds_toArray, set_cons_zero, set_cons_succ]
 refine wpAnyH_take (i := 2) (v := ?_) rfl (by kernel_rfl) (by kernel_rfl) (by kernel_rfl) (fun _ _ _ h => h) (Or.inl ⟨by rfl, ?_⟩) (by assumption) ?_
 rotate_left
 ·(intro w' hSw; (try dsimp only at hSw); go_simp; try with_reducible rfl)
 simp only [Act.put, getElem_toArray, getElem_cons_zero, getElem_cons_succ, setIfInBounds_toArray, set_cons_zero, set_cons_succ]
 refine wpAnyH_take (i := 3) (v := ?_) rfl (by kernel_rfl) (by kernel_rfl) (by kernel_rfl) (fun _ _ _ h => h) (Or.inl ⟨by rfl, ?_⟩) (by assumption) ?_
 rotate_left
 ·(intro w' hSw; (try dsimp only at hSw); go_simp; try with_reducible rfl)
 simp only [Act.put, getElem_toArray, getElem_cons_zero, getElem_cons_succ, setIfInBounds_toArray, set_cons_zero, set_cons_succ]
 refine wpAnyH_take (i := 5) (v := ?_) rfl (by kernel_rfl) (by kernel_rfl) (by kernel_rfl) (fun _ _ _ h => h) (Or.inl ⟨by rfl, ?_⟩) (by assumption) ?_
 rotate_left
 ·(intro w' hSw; (try dsimp only at hSw); go_simp; try with_reducible rfl)
 simp only [Act.put, getElem_toArray, getElem_cons_zero, getElem_cons_succ, setIfInBounds_toArray, set_cons_zero, set_cons_succ]
 refine wpAnyH_take (i := 6) (v := ?_) rfl (by kernel_rfl) (by kernel_rfl) (by kernel_rfl) (fun _ _ _ h => h) (Or.inl ⟨by rfl, ?_⟩) (by assumption) ?_
 rotate_left
 ·(intro w' hSw; (try dsimp only at hSw); go_simp; try with_reducible rfl)
 simp only [Act.put, getElem_toArray, getElem_cons_zero, getElem_cons_succ, setIfInBounds_toArray, set_cons_zero, set_cons_succ]
 refine wpAnyH_take (i := 7) (v := ?_) rfl (by kernel_rfl) (by kernel_rfl) (by kernel_rfl) (fun _ _ _ h => h) (Or.inl ⟨by rfl, ?_⟩) (by assumption) ?_
 rotate_left
 ·(intro w' hSw; (try dsimp only at hSw); go_simp; try with_reducible rfl)
 simp only [Act.put, getElem_toArray, getElem_cons_zero, getElem_cons_succ, setIfInBounds_toArray, set_cons_zero, set_cons_succ]
 refine wpAnyH_take (i := 8) (v := ?_) rfl (by kernel_rfl) (by kernel_rfl) (by kernel_rfl) (fun _ _ _ h => h) (Or.inl ⟨by rfl, ?_⟩) (by assumption) ?_
 rotate_left
 ·(intro w' hSw; (try dsimp only at hSw); go_simp; try with_reducible rfl)
 simp only [Act.put, getElem_toArray, getElem_cons_zero, getElem_cons_succ, setIfInBounds_toArray, set_cons_zero, set_cons_succ]
 refine wpAnyH_take (i := 10) (v := ?_) rfl (by kernel_rfl) (by kernel_rfl) (by kernel_rfl) (fun _ _ _ h => h) (Or.inl ⟨by rfl, ?_⟩) (by assumption) ?_
 rotate_left
 ·(intro w' hSw; (try dsimp only at hSw); go_simp; try with_reducible rfl)
 simp only [Act.put, getElem_toArray, getElem_cons_zero, getElem_cons_succ, setIfInBounds_toArray, set_cons_zero, set_cons_succ]
 refine wpAnyH_take (i := 11) (v := ?_) rfl (by kernel_rfl) (by kernel_rfl) (by kernel_rfl) (fun _ _ _ h => h) (Or.inl ⟨by rfl, ?_⟩) (by assumption) ?_
 rotate_left
 ·(intro w' hSw; (try dsimp only at hSw); go_simp; try with_reducible rfl)
 simp only [Act.put, getElem_toArray, getElem_cons_zero, getElem_cons_succ, setIfInBounds_toArray, set_cons_zero, set_cons_succ]
 refine wpAnyH_take (i := 12) (v := ?_) rfl (by kernel_rfl) (by kernel_rfl) (by kernel_rfl) (fun _ _ _ h => h) (Or.inl ⟨by rfl, ?_⟩) (by assumption) ?_
 rotate_left
 ·(intro w' hSw; (try dsimp only at hSw); go_simp; try with_reducible rfl)
 simp only [Act.put, getElem_toArray, getElem_cons_zero, getElem_cons_succ, setIfInBounds_toArray, set_cons_zero, set_cons_succ]
 refine wpAnyH_take (i := 13) (v := ?_) rfl (by kernel_rfl) (by kernel_rfl) (by kernel_rfl) (fun _ _ _ h => h) (Or.inl ⟨by rfl, ?_⟩) (by assumption) ?_
 rotate_left
 ·(intro w' hSw; (try dsimp only at hSw); go_simp; try with_reducible rfl)
 simp only [Act.put, getElem_toArray, getElem_cons_zero, getElem_cons_succ, setIfInBounds_toArray, set_cons_zero, set_cons_succ]
 refine wpAnyH_ready (rs := [4]) (by kernel_rfl) (by simp) ?_
 refine AllReadyH.cons rfl (fun K hK => ?_) AllReadyH.nil
 go_simp
 go_at_call 79
 refine (cmp_i64 _ _ _).mono ?_
 rintro e _ ⟨rfl, rfl⟩
 refine hK.out _ _ (KZ.out _ tt) (fun _ => ?_)
 clear hK K
 refine wpAnyH_ready (rs := [9]) (by kernel_rfl) (by simp) ?_
 refine AllReadyH.cons rfl (fun K hK => ?_) AllReadyH.nil
 go_simp
 go_at_call 80
 refine (cmp_u32 _ _ _).mono ?_
 rintro e _ ⟨rfl, rfl⟩
 refine hK.out _ _ (KZ.out _ tt) (fun _ => ?_)
 clear hK K
 refine wpAnyH_ready (rs := [14]) (by kernel_rfl) (by simp) ?_
 refine AllReadyH.cons rfl (fun K hK => ?_) AllReadyH.nil
 go_simp
 go_at_call 80
 refine (cmp_u32 _ _ _).mono ?_
 rintro e _ ⟨rfl, rfl⟩
 refine hK.out _ _ (KZ.out _ tt) (fun _ => ?_)
 clear hK K
 refine wpAnyH_ready (rs := [15]) (by kernel_rfl) (by simp) ?_
 refine AllReadyH.cons rfl (fun K hK => ?_) AllReadyH.nil
 go_simp
 obtain ⟨Y1, hY1⟩ : ∃ V, X0.alloc (.cells #[.int .i64 (cmpI a.t b.t), .int .i64 (cmpI a.i b.i), .int .i64 (cmpI a.v b.v)] 3) = V := ⟨_, rfl⟩
 have u1 : Below X0.heap.size X0 Y1 := by rw [← hY1]; exact below_alloc1 _ _
 have t_Y1 : Below W1.heap.size W1 Y1 := tt.trans (u1.mono tt.size)
 obtain ⟨k1, hk1⟩ : ∃ k, X0.heap.size = k := ⟨_, rfl⟩
 have zr : Bs .i64 Y1 Y1.heap.size (some ⟨k1, 0, none⟩) [cmpI a.t b.t, cmpI a.i b.i, cmpI a.v b.v] := by
  rw [← hY1]
  exact Bs.mk _ _ _ _ _ _ hk1 (by simp [maxLen]) rfl
 try rw [hY1]
 try rw [hk1]
 refine hK.out _ _ (KZ.out _ t_Y1) (fun _ => ?_)
 clear hK K
 refine wpAnyH_ready (rs := [16]) (by kernel_rfl) (by simp) ?_
 refine AllReadyH.cons rfl (fun K hK => ?_) AllReadyH.nil
 go_simp
 go_at_call 78
 refine (first_any (some ⟨k1, 0, none⟩) 3 3 _ Y1 rfl zr (by decide)).mono ?_
 rintro e _ ⟨rfl, rfl⟩
 refine hK.out _ _ (KZ.out _ t_Y1) (fun _ => ?_)
 clear hK K
 refine wpAnyH_take (i := 17) (v := ?_) rfl (by kernel_rfl) (by kernel_rfl) (by kernel_rfl) (fun _ _ _ h => h) (Or.inl ⟨by rfl, ?_⟩) (by assumption) ?_
 rotate_left
 ·(intro w' hSw; (try dsimp only at hSw); go_simp; try with_reducible rfl)
 simp only [Act.put, getElem_toArray, getElem_cons_zero, getElem_cons_succ, setIfInBounds_toArray, set_cons_zero, set_cons_succ]
 refine wpAnyH_ready (rs := [18]) (by kernel_rfl) (by simp) ?_
 refine AllReadyH.cons rfl (fun K hK => ?_) AllReadyH.nil
 go_simp
 refine hK.out _ _ (KZ.out _ t_Y1) (fun _ => ?_)
 clear hK K
 refine wpAnyH_done (by kernel_rfl) ?_ _
 go_wp2
 go_ret
 exact ⟨ret_bool (by rw [HC.out]), B2.out.trans (t_Y1.mono B2.out.size)⟩
end Go.Proofs.YtadcicmccdphkaaGreat
namespace Go.Proofs.YtadcicmccdphkaaGreat
open Go.RowKit Go.Joins
open List (getElem_toArray getElem_cons_zero getElem_cons_succ setIfInBounds_toArray set_cons_zero set_cons_succ)

set_option maxRecDepth 100000 in
theorem fad_any (h : Hd) (A : Option Addr) (n c : Nat) (l : List Int) (w : World) (hn : l.length = n) (hb : Bt w A l) (hl : n ≤ 100000) :
  Calls Tryz.prog 42 #[.agg #[.int .i64 h.a, .int .i64 h.o, .int .i64 h.t, .int .u32 h.i, .int .u32 h.v, .int .u32 h.q, .int .i64 h.s, .int .i64 h.n, .slice A n c]] w fun e w' => ∃ A' c', e = .returned (.agg #[.int .i64 h.a, .int .i64 h.o, .int .i64 h.t, .int .u32 h.i, .int .u32 h.v, .int .u32 h.q, .int .i64 h.s, .int .i64 h.n, .slice A' n c']) ∧ Own .u8 5 w' w.heap.size A' c' l ∧ Below w.heap.size w w' := by
 obtain ⟨W0, hW0⟩ : ∃ V, w.alloc (.cells #[.int .i64 h.a, .int .i64 h.o, .int .i64 h.t, .int .u32 h.i, .int .u32 h.v, .int .u32 h.q, .int .i64 h.s, .int .i64 h.n, .slice A n c] 40) = V := ⟨_, rfl⟩
 have bW0 : Below w.heap.size w W0 := by rw [← hW0]; exact below_alloc1 _ _
 have sW0 : W0.heap.size = w.heap.size + 1 := by rw [← hW0]; simp
 have KX : Hid (∀ V, Below W0.heap.size W0 V → V.cell? ⟨w.heap.size, 0, none⟩ = some (.int .i64 h.a) ∧ V.cell? ⟨w.heap.size, 1, none⟩ = some (.int .i64 h.o) ∧ V.cell? ⟨w.heap.size, 2, none⟩ = some (.int .i64 h.t) ∧ V.cell? ⟨w.heap.size, 3, none⟩ = some (.int .u32 h.i) ∧ V.cell? ⟨w.heap.size, 4, none⟩ = some (.int .u32 h.v) ∧ V.cell? ⟨w.heap.size, 5, none⟩ = some (.int .u32 h.q) ∧ V.cell? ⟨w.heap.size, 6, none⟩ = some (.int .i64 h.s) ∧ V.cell? ⟨w.heap.size, 7, none⟩ = some (.int .i64 h.n) ∧ V.cell? ⟨w.heap.size, 8, none⟩ = some (.slice A n c)) := Lib.hid (fun V hV => kb9_new hW0 hV)
 obtain ⟨W1, hW1⟩ : ∃ V, W0.alloc (.cells #[Value.int .i64 0, .int .i64 0, .int .i64 0, .int .u32 0, .int .u32 0, .int .u32 0, .int .i64 0, .int .i64 0, .slice none 0 0] 40) = V := ⟨_, rfl⟩
 have bW1 : Below W0.heap.size W0 W1 := by rw [← hW1]; exact below_alloc1 _ _
 have sW1 : W1.heap.size = W0.heap.size + 1 := by rw [← hW1]; simp
 have KZ : Hid (∀ V, Below W1.heap.size W1 V → V.heap[w.heap.size + 1]? = some (.cells #[Value.int .i64 0, .int .i64 0, .int .i64 0, .int .u32 0, .int .u32 0, .int .u32 0, .int .i64 0, .int .i64 0, .slice none 0 0] 40)) :=
  Lib.hid (fun V hV => by rw [hV.block _ (by omega), ← hW1]; exact alloc_at _ _ _ (by omega))
 have HB : Hid (Below w.heap.size w W1) := Lib.hid (bW0.trans (bW1.mono bW0.size))
 have KS : Hid (∀ V, Below W1.heap.size W1 V → V.cell? ⟨w.heap.size, 0, none⟩ = some (.int .i64 h.a) ∧ V.cell? ⟨w.heap.size, 1, none⟩ = some (.int .i64 h.o) ∧ V.cell? ⟨w.heap.size, 2, none⟩ = some (.int .i64 h.t) ∧ V.cell? ⟨w.heap.size, 3, none⟩ = some (.int .u32 h.i) ∧ V.cell? ⟨w.heap.size, 4, none⟩ = some (.int .u32 h.v) ∧ V.cell? ⟨w.heap.size, 5, none⟩ = some (.int .u32 h.q) ∧ V.cell? ⟨w.heap.size, 6, none⟩ = some (.int .i64 h.s) ∧ V.cell? ⟨w.heap.size, 7, none⟩ = some (.int .i64 h.n) ∧ V.cell? ⟨w.heap.size, 8, none⟩ = some (.slice A n c)) := Lib.hid (fun V hV => KX.out V (bW1.trans (hV.mono bW1.size)))
 have tt : Below W1.heap.size W1 W1 := Below.refl _ _
 have q0 := hb.step HB.out
 have hs1 : W1.heap.size = w.heap.size + 2 := by omega
 have HS1 := Lib.hid hs1
 have HN := Lib.hid hn
 clear hb bW0 bW1 KX hn hs1
 go_enter Tryz.func42, Tryz.ntmps42
 go_wp2_with fail
 refine wp_region_held_drew (S := fun V => V.cell? ⟨w.heap.size, 0, none⟩ = some (.int .i64 h.a) ∧ V.cell? ⟨w.heap.size, 1, none⟩ = some (.int .i64 h.o) ∧ V.cell? ⟨w.heap.size, 2, none⟩ = some (.int .i64 h.t) ∧ V.cell? ⟨w.heap.size, 3, none⟩ = some (.int .u32 h.i) ∧ V.cell? ⟨w.heap.size, 4, none⟩ = some (.int .u32 h.v) ∧ V.cell? ⟨w.heap.size, 5, none⟩ = some (.int .u32 h.q) ∧ V.cell? ⟨w.heap.size, 6, none⟩ = some (.int .i64 h.s) ∧ V.cell? ⟨w.heap.size, 7, none⟩ = some (.int .i64 h.n) ∧ V.cell? ⟨w.heap.size, 8, none⟩ = some (.slice A n c)) (by kernel_rfl) (KS.out _ tt.drew) (fun hHeld => ?_)
 replace q0 := q0.step tt.drew
 replace tt : Below W1.heap.size W1 W1.drew := tt.drew
 generalize hX0 : W1.drew = Y0 at tt q0 hHeld ⊢
 clear hX0
 refine wpAnyH_take (i := 0) (v := ?_) rfl (by kernel_rfl) (by kernel_rfl) (by kernel_rfl) (fun _ _ _ h => h) (Or.inl ⟨by rfl, ?_⟩) (by assumption) ?_
 rotate_left
 ·(intro w' hSw; (try dsimp only at hSw); go_simp; try with_reducible rfl)
 simp only [Act.put, getElem_toArray, getElem_cons_zero, setIfInBounds_toArray, set_cons_zero, set_cons_succ]
 refine wpAnyH_take (i := 1) (v := ?_) rfl (by kernel_rfl) (by kernel_rfl) (by kernel_rfl) (fun _ _ _ h => h) (Or.inl ⟨by rfl, ?_⟩) (by assumption) ?_
 rotate_left
 ·(intro w' hSw; (try dsimp only at hSw); go_simp; try with_reducible rfl)
 simp only [Act.put, getElem_toArray, getElem_cons_zero, getElem_cons_succ, setIfInBounds_toArray, set_cons_zero, set_cons_succ]
 refine wpAnyH_take (i := 2) (v := ?_) rfl (by kernel_rfl) (by kernel_rfl) (by kernel_rfl) (fun _ _ _ h => h) (Or.inl ⟨by rfl, ?_⟩) (by assumption) ?_
 rotate_left
 ·(intro w' hSw; (try dsimp only at hSw); go_simp; try with_reducible rfl)
 simp only [Act.put, getElem_toArray, getElem_cons_zero, getElem_cons_succ, setIfInBounds_toArray, set_cons_zero, set_cons_succ]
 refine wpAnyH_take (i := 3) (v := ?_) rfl (by kernel_rfl) (by kernel_rfl) (by kernel_rfl) (fun _ _ _ h => h) (Or.inl ⟨by rfl, ?_⟩) (by assumption) ?_
 rotate_left
 ·(intro w' hSw; (try dsimp only at hSw); go_simp; try with_reducible rfl)
 simp only [Act.put, getElem_toArray, getElem_cons_zero, getElem_cons_succ, setIfInBounds_toArray, set_cons_zero, set_cons_succ]
 refine wpAnyH_ready (rs := [4]) (by kernel_rfl) (by simp) ?_
 refine AllReadyH.cons rfl (fun K hK => ?_) AllReadyH.nil
 go_simp
 go_at_call 67
 refine (clone_any A n c l Y0 HN.out q0 hl).mono ?_
 rintro e Y1 ⟨A1, c1, rfl, o1, u1⟩
 have t_Y1 : Below W1.heap.size W1 Y1 := tt.trans (u1.mono tt.size)
 replace q0 := q0.step u1
 refine hK.out _ _ (KS.out _ t_Y1) (fun _ => ?_)
 clear hK K
 refine wpAnyH_take (i := 5) (v := .agg #[.int .i64 h.a, .int .i64 h.o, .int .i64 h.t, .int .u32 h.i, .int .u32 h.v, .int .u32 h.q, .int .i64 h.s, .int .i64 h.n, .slice A1 n c1]) rfl (by kernel_rfl) (by kernel_rfl) (by kernel_rfl) (fun _ _ _ h => h) (Or.inl ⟨by rfl, ?_⟩) (by assumption) ?_
 ·(intro w' hSw; (try dsimp only at hSw); go_simp; try rfl)
 simp only [Act.put, getElem_toArray, getElem_cons_zero, getElem_cons_succ, setIfInBounds_toArray, set_cons_zero, set_cons_succ]
 refine wpAnyH_ready (rs := [6]) (by kernel_rfl) (by simp) ?_
 refine AllReadyH.cons rfl (fun K hK => ?_) AllReadyH.nil
 obtain ⟨a0, a1, a2, a3, a4, a5, a6, a7, a8, f0, f1, f2, f3, f4, f5, f6, f7, f8, hzl⟩ := kz9_at (KZ.out _ t_Y1)
 have KR := Lib.hid <| kz9_get (KZ.out _ t_Y1) (Value.int .i64 h.a) (.int .i64 h.o) (.int .i64 h.t) (.int .u32 h.i) (.int .u32 h.v) (.int .u32 h.q) (.int .i64 h.s) (.int .i64 h.n) (.slice A1 n c1)
 have TF : Hid (Below w.heap.size w (st9 Y1 (w.heap.size + 1) (.int .i64 h.a) (.int .i64 h.o) (.int .i64 h.t) (.int .u32 h.i) (.int .u32 h.v) (.int .u32 h.q) (.int .i64 h.s) (.int .i64 h.n) (.slice A1 n c1))) := Lib.hid <| below_st9 (HB.out.trans (t_Y1.mono HB.out.size)) (by omega) _ _ _ _ _ _ _ _ _
 have OF := Lib.hid <| (o1.far9 (b := w.heap.size + 1) (by have := tt.size; have := HS1.out; omega) (.int .i64 h.a) (.int .i64 h.o) (.int .i64 h.t) (.int .u32 h.i) (.int .u32 h.v) (.int .u32 h.q) (.int .i64 h.s) (.int .i64 h.n) (.slice A1 n c1)).lower (base' := w.heap.size) (by have := tt.size; have := HS1.out; omega)
 have KF : Hid ((st9 Y1 (w.heap.size + 1) (.int .i64 h.a) (.int .i64 h.o) (.int .i64 h.t) (.int .u32 h.i) (.int .u32 h.v) (.int .u32 h.q) (.int .i64 h.s) (.int .i64 h.n) (.slice A1 n c1)).cell? ⟨w.heap.size, 0, none⟩ = some (.int .i64 h.a) ∧ (st9 Y1 (w.heap.size + 1) (.int .i64 h.a) (.int .i64 h.o) (.int .i64 h.t) (.int .u32 h.i) (.int .u32 h.v) (.int .u32 h.q) (.int .i64 h.s) (.int .i64 h.n) (.slice A1 n c1)).cell? ⟨w.heap.size, 1, none⟩ = some (.int .i64 h.o) ∧ (st9 Y1 (w.heap.size + 1) (.int .i64 h.a) (.int .i64 h.o) (.int .i64 h.t) (.int .u32 h.i) (.int .u32 h.v) (.int .u32 h.q) (.int .i64 h.s) (.int .i64 h.n) (.slice A1 n c1)).cell? ⟨w.heap.size, 2, none⟩ = some (.int .i64 h.t) ∧ (st9 Y1 (w.heap.size + 1) (.int .i64 h.a) (.int .i64 h.o) (.int .i64 h.t) (.int .u32 h.i) (.int .u32 h.v) (.int .u32 h.q) (.int .i64 h.s) (.int .i64 h.n) (.slice A1 n c1)).cell? ⟨w.heap.size, 3, none⟩ = some (.int .u32 h.i) ∧ (st9 Y1 (w.heap.size + 1) (.int .i64 h.a) (.int .i64 h.o) (.int .i64 h.t) (.int .u32 h.i) (.int .u32 h.v) (.int .u32 h.q) (.int .i64 h.s) (.int .i64 h.n) (.slice A1 n c1)).cell? ⟨w.heap.size, 4, none⟩ = some (.int .u32 h.v) ∧ (st9 Y1 (w.heap.size + 1) (.int .i64 h.a) (.int .i64 h.o) (.int .i64 h.t) (.int .u32 h.i) (.int .u32 h.v) (.int .u32 h.q) (.int .i64 h.s) (.int .i64 h.n) (.slice A1 n c1)).cell? ⟨w.heap.size, 5, none⟩ = some (.int .u32 h.q) ∧ (st9 Y1 (w.heap.size + 1) (.int .i64 h.a) (.int .i64 h.o) (.int .i64 h.t) (.int .u32 h.i) (.int .u32 h.v) (.int .u32 h.q) (.int .i64 h.s) (.int .i64 h.n) (.slice A1 n c1)).cell? ⟨w.heap.size, 6, none⟩ = some (.int .i64 h.s) ∧ (st9 Y1 (w.heap.size + 1) (.int .i64 h.a) (.int .i64 h.o) (.int .i64 h.t) (.int .u32 h.i) (.int .u32 h.v) (.int .u32 h.q) (.int .i64 h.s) (.int .i64 h.n) (.slice A1 n c1)).cell? ⟨w.heap.size, 7, none⟩ = some (.int .i64 h.n) ∧ (st9 Y1 (w.heap.size + 1) (.int .i64 h.a) (.int .i64 h.o) (.int .i64 h.t) (.int .u32 h.i) (.int .u32 h.v) (.int .u32 h.q) (.int .i64 h.s) (.int .i64 h.n) (.slice A1 n c1)).cell? ⟨w.heap.size, 8, none⟩ = some (.slice A n c)) := Lib.hid <| by
  obtain ⟨e0, e1, e2, e3, e4, e5, e6, e7, e8⟩ := KS.out _ t_Y1
  exact ⟨(cell_st9 (p := ⟨w.heap.size, 0, none⟩) (show w.heap.size ≠ w.heap.size + 1 by omega) _ _ _ _ _ _ _ _ _).trans e0, (cell_st9 (p := ⟨w.heap.size, 1, none⟩) (show w.heap.size ≠ w.heap.size + 1 by omega) _ _ _ _ _ _ _ _ _).trans e1, (cell_st9 (p := ⟨w.heap.size, 2, none⟩) (show w.heap.size ≠ w.heap.size + 1 by omega) _ _ _ _ _ _ _ _ _).trans e2, (cell_st9 (p := ⟨w.heap.size, 3, none⟩) (show w.heap.size ≠ w.heap.size + 1 by omega) _ _ _ _ _ _ _ _ _).trans e3, (cell_st9 (p := ⟨w.heap.size, 4, none⟩) (show w.heap.size ≠ w.heap.size + 1 by omega) _ _ _ _ _ _ _ _ _).trans e4, (cell_st9 (p := ⟨w.heap.size, 5, none⟩) (show w.heap.size ≠ w.heap.size + 1 by omega) _ _ _ _ _ _ _ _ _).trans e5, (cell_st9 (p := ⟨w.heap.size, 6, none⟩) (show w.heap.size ≠ w.heap.size + 1 by omega) _ _ _ _ _ _ _ _ _).trans e6, (cell_st9 (p := ⟨w.heap.size, 7, none⟩) (show w.heap.size ≠ w.heap.size + 1 by omega) _ _ _ _ _ _ _ _ _).trans e7, (cell_st9 (p := ⟨w.heap.size, 8, none⟩) (show w.heap.size ≠ w.heap.size + 1 by omega) _ _ _ _ _ _ _ _ _).trans e8⟩
 go_simp
 refine hK.out _ _ KF.out (fun _ => ?_)
 clear hK K
 refine wpAnyH_done (by kernel_rfl) ?_ _
 go_wp2
 obtain ⟨r0, r1, r2, r3, r4, r5, r6, r7, r8⟩ := KR.out
 refine bodyPost_ret (v := .agg #[.int .i64 h.a, .int .i64 h.o, .int .i64 h.t, .int .u32 h.i, .int .u32 h.v, .int .u32 h.q, .int .i64 h.s, .int .i64 h.n, .slice A1 n c1]) (by simp [results, Tryz.results42, go_sem, r0, r1, r2, r3, r4, r5, r6, r7, r8]) rfl ⟨_, _, rfl, OF.out, TF.out⟩
end Go.Proofs.YtadcicmccdphkaaGreat
namespace Go.Proofs.YtadcicmccdphkaaGreat
open Go.RowKit Go.Joins
open List (getElem_toArray getElem_cons_zero getElem_cons_succ setIfInBounds_toArray set_cons_zero set_cons_succ)

set_option maxRecDepth 100000 in
theorem has_any (y : Hd) (w : World) :
  Calls Tryz.prog 41 #[.agg #[.int .i64 y.t, .int .u32 y.i, .int .u32 y.v]] w fun e w' => e = .returned (.func (.func 66) #[] #[.pointer (some ⟨w.heap.size, 0, none⟩)]) ∧ Bk w' w.heap.size (.cells #[.int .i64 y.t, .int .u32 y.i, .int .u32 y.v] 25) ∧ Below w.heap.size w w' := by
 obtain ⟨W0, hW0⟩ : ∃ V, w.alloc (.cells #[.int .i64 y.t, .int .u32 y.i, .int .u32 y.v] 25) = V := ⟨_, rfl⟩
 have bW0 : Below w.heap.size w W0 := by rw [← hW0]; exact below_alloc1 _ _
 have HB := Lib.hid (Bk.mk hW0)
 go_enter Tryz.func41, Tryz.ntmps41
 go_wp2
 go_ret
 exact ⟨rfl, HB.out, bW0⟩
theorem enters_put1 (args : Array Value) (w' : World) : (callFunc 50 args).run Tryz.prog w' = .ok (.enter 50 args) w' := by simp [callFunc, Tryz.func50, Tryz.f50, mark]
theorem enters_place1 (args : Array Value) (w' : World) : (callFunc 77 args).run Tryz.prog w' = .ok (.enter 77 args) w' := by simp [callFunc, Tryz.func77, Tryz.f77, mark]
set_option maxRecDepth 100000 in
theorem put1_any (h y : Hd) (b : Nat) (w : World) (hb : Bk w b (.cells #[.int .i64 y.t, .int .u32 y.i, .int .u32 y.v] 25)) :
  Calls Tryz.prog 50 #[.agg #[.int .i64 h.t, .int .u32 h.i, .int .u32 h.v], .pointer (some ⟨b, 0, none⟩)] w fun e w' => e = .returned (.bool (lessK h y)) ∧ Below w.heap.size w w' := by
 obtain ⟨W0, hW0⟩ : ∃ V, w.alloc (.cells #[.int .i64 h.t, .int .u32 h.i, .int .u32 h.v] 25) = V := ⟨_, rfl⟩
 have bW0 : Below w.heap.size w W0 := by rw [← hW0]; exact below_alloc1 _ _
 have sW0 : W0.heap.size = w.heap.size + 1 := by rw [← hW0]; simp
 have KX : Hid (∀ V, Below W0.heap.size W0 V → V.cell? ⟨w.heap.size, 0, none⟩ = some (.int .i64 h.t) ∧ V.cell? ⟨w.heap.size, 1, none⟩ = some (.int .u32 h.i) ∧ V.cell? ⟨w.heap.size, 2, none⟩ = some (.int .u32 h.v)) := Lib.hid (fun V hV => kb3_new hW0 hV)
 obtain ⟨k0, k1, k2⟩ := KX.out _ (Below.refl _ _)
 obtain ⟨j0, j1, j2, f0, f1, f2, hlt⟩ := kz3_at (hb.step bW0)
 have CL := less_any h y W0
 clear KX sW0 hb
 go_enter Tryz.func50, Tryz.ntmps50
 go_wp2_with fail
 refine CL.mono ?_
 rintro e W1 ⟨rfl, u1⟩
 go_wp2
 go_ret
 exact ⟨rfl, bW0.trans (u1.mono bW0.size)⟩
abbrev cl1 (kb : Nat) : Value := .func (.func 50) #[] #[.pointer (some ⟨kb, 0, none⟩)]
set_option maxRecDepth 100000 in
theorem place1_any (y : Hd) (kb pb : Nat) (x : Ae) (w : World) (hk : Bk w kb (.cells #[.int .i64 y.t, .int .u32 y.i, .int .u32 y.v] 25)) (hp : Bk w pb (.cells #[cl1 kb] 93)) :
  Calls Tryz.prog 77 #[av x, .pointer (some ⟨pb, 0, none⟩)] w fun e w' => e = .returned (.bool (!lessK x.h y)) ∧ Below w.heap.size w w' := by
 obtain ⟨h, hh⟩ : ∃ h, x.h = h := ⟨_, rfl⟩
 obtain ⟨A, hA⟩ : ∃ A, x.A = A := ⟨_, rfl⟩
 obtain ⟨n, hn⟩ : ∃ n, x.l.length = n := ⟨_, rfl⟩
 obtain ⟨c, hc⟩ : ∃ c, x.c = c := ⟨_, rfl⟩
 rw [av, hh, hA, hn, hc]
 clear hh hA hn hc
 obtain ⟨W0, hW0⟩ : ∃ V, w.alloc (.cells #[.int .i64 h.a, .int .i64 h.o, .int .i64 h.t, .int .u32 h.i, .int .u32 h.v, .int .u32 h.q, .int .i64 h.s, .int .i64 h.n, .slice A n c] 40) = V := ⟨_, rfl⟩
 have bW0 : Below w.heap.size w W0 := by rw [← hW0]; exact below_alloc1 _ _
 have sW0 : W0.heap.size = w.heap.size + 1 := by rw [← hW0]; simp
 have KX : Hid (∀ V, Below W0.heap.size W0 V → V.cell? ⟨w.heap.size, 0, none⟩ = some (.int .i64 h.a) ∧ V.cell? ⟨w.heap.size, 1, none⟩ = some (.int .i64 h.o) ∧ V.cell? ⟨w.heap.size, 2, none⟩ = some (.int .i64 h.t) ∧ V.cell? ⟨w.heap.size, 3, none⟩ = some (.int .u32 h.i) ∧ V.cell? ⟨w.heap.size, 4, none⟩ = some (.int .u32 h.v) ∧ V.cell? ⟨w.heap.size, 5, none⟩ = some (.int .u32 h.q) ∧ V.cell? ⟨w.heap.size, 6, none⟩ = some (.int .i64 h.s) ∧ V.cell? ⟨w.heap.size, 7, none⟩ = some (.int .i64 h.n) ∧ V.cell? ⟨w.heap.size, 8, none⟩ = some (.slice A n c)) := Lib.hid (fun V hV => kb9_new hW0 hV)
 obtain ⟨k0, k1, k2, k3, k4, k5, k6, k7, k8⟩ := KX.out _ (Below.refl _ _)
 have hp0 := hp.step bW0
 have hk0 := hk.step bW0
 have p0 : W0.cell? ⟨pb, 0, none⟩ = some (cl1 kb) := (cell_of_block hp0 0).trans rfl
 have T0 := Lib.hid bW0
 have KS : Hid (∀ V, Below W0.heap.size W0 V → (V.cell? ⟨w.heap.size, 0, none⟩ = some (.int .i64 h.a) ∧ V.cell? ⟨w.heap.size, 1, none⟩ = some (.int .i64 h.o) ∧ V.cell? ⟨w.heap.size, 2, none⟩ = some (.int .i64 h.t) ∧ V.cell? ⟨w.heap.size, 3, none⟩ = some (.int .u32 h.i) ∧ V.cell? ⟨w.heap.size, 4, none⟩ = some (.int .u32 h.v) ∧ V.cell? ⟨w.heap.size, 5, none⟩ = some (.int .u32 h.q) ∧ V.cell? ⟨w.heap.size, 6, none⟩ = some (.int .i64 h.s) ∧ V.cell? ⟨w.heap.size, 7, none⟩ = some (.int .i64 h.n) ∧ V.cell? ⟨w.heap.size, 8, none⟩ = some (.slice A n c)) ∧ V.cell? ⟨pb, 0, none⟩ = some (cl1 kb)) := Lib.hid (fun V hV => ⟨KX.out V hV, (cell_of_block (hp0.step hV) 0).trans rfl⟩)
 have tt : Below W0.heap.size W0 W0 := Below.refl _ _
 clear KX sW0 hp hk hp0 p0 bW0 k0 k1 k2 k3 k4 k5 k6 k7 k8
 go_enter Tryz.func77, Tryz.ntmps77
 go_wp2_with fail
 refine wp_region_held_drew (S := fun V => (V.cell? ⟨w.heap.size, 0, none⟩ = some (.int .i64 h.a) ∧ V.cell? ⟨w.heap.size, 1, none⟩ = some (.int .i64 h.o) ∧ V.cell? ⟨w.heap.size, 2, none⟩ = some (.int .i64 h.t) ∧ V.cell? ⟨w.heap.size, 3, none⟩ = some (.int .u32 h.i) ∧ V.cell? ⟨w.heap.size, 4, none⟩ = some (.int .u32 h.v) ∧ V.cell? ⟨w.heap.size, 5, none⟩ = some (.int .u32 h.q) ∧ V.cell? ⟨w.heap.size, 6, none⟩ = some (.int .i64 h.s) ∧ V.cell? ⟨w.heap.size, 7, none⟩ = some (.int .i64 h.n) ∧ V.cell? ⟨w.heap.size, 8, none⟩ = some (.slice A n c)) ∧ V.cell? ⟨pb, 0, none⟩ = some (cl1 kb)) (by kernel_rfl) (KS.out _ tt.drew) (fun hHeld => ?_)
 replace hk0 := hk0.step tt.drew
 replace tt : Below W0.heap.size W0 W0.drew := tt.drew
 generalize hX0 : W0.drew = Y0 at tt hk0 hHeld ⊢
 clear hX0
 refine wpAnyH_take (i := 0) (v := ?_) rfl (by kernel_rfl) (by kernel_rfl) (by kernel_rfl) (fun _ _ _ h => h) (Or.inl ⟨by rfl, ?_⟩) (by assumption) ?_
 rotate_left
 ·(intro w' hSw; (try dsimp only at hSw); go_simp; try with_reducible rfl)
 simp only [Act.put, getElem_toArray, getElem_cons_zero, setIfInBounds_toArray, set_cons_zero, set_cons_succ]
 refine wpAnyH_take (i := 1) (v := ?_) rfl (by kernel_rfl) (by kernel_rfl) (by kernel_rfl) (fun _ _ _ h => h) (Or.inl ⟨by rfl, ?_⟩) (by assumption) ?_
 rotate_left
 ·(intro w' hSw; (try dsimp only at hSw); go_simp; try with_reducible rfl)
 simp only [Act.put, getElem_toArray, getElem_cons_zero, getElem_cons_succ, setIfInBounds_toArray, set_cons_zero, set_cons_succ]
 refine wpAnyH_take (i := 2) (v := ?_) rfl (by kernel_rfl) (by kernel_rfl) (by kernel_rfl) (fun _ _ _ h => h) (Or.inl ⟨by rfl, ?_⟩) (by assumption) ?_
 rotate_left
 ·(intro w' hSw; (try dsimp only at hSw); go_simp; try with_reducible rfl)
 simp only [Act.put, getElem_toArray, getElem_cons_zero, getElem_cons_succ, setIfInBounds_toArray, set_cons_zero, set_cons_succ]
 refine wpAnyH_ready (rs := [3]) (by kernel_rfl) (by simp) ?_
 refine AllReadyH.cons rfl (fun K hK => ?_) AllReadyH.nil
 go_simp
 go_at_call 43
 refine (key_any h Y0).mono ?_
 rintro e Y1 ⟨rfl, u1⟩
 have t_Y1 : Below W0.heap.size W0 Y1 := tt.trans (u1.mono tt.size)
 replace hk0 := hk0.step u1
 refine hK.out _ _ (KS.out _ t_Y1) (fun _ => ?_)
 clear hK K
 refine wpAnyH_ready (rs := [4]) (by kernel_rfl) (by simp) ?_
 refine AllReadyH.cons rfl (fun K hK => ?_) AllReadyH.nil
 go_simp
 have hf2 := enters_put1 #[.agg #[.int .i64 h.t, .int .u32 h.i, .int .u32 h.v]] Y1
 go_at_call 50
 refine (put1_any h y kb Y1 hk0).mono ?_
 rintro e Y2 ⟨rfl, u2⟩
 have t_Y2 : Below W0.heap.size W0 Y2 := t_Y1.trans (u2.mono t_Y1.size)
 replace hk0 := hk0.step u2
 refine hK.out _ _ (KS.out _ t_Y2) (fun _ => ?_)
 clear hK K
 refine wpAnyH_take (i := 5) (v := ?_) rfl (by kernel_rfl) (by kernel_rfl) (by kernel_rfl) (fun _ _ _ h => h) (Or.inl ⟨by rfl, ?_⟩) (by assumption) ?_
 rotate_left
 ·(intro w' hSw; (try dsimp only at hSw); go_simp; try with_reducible rfl)
 simp only [Act.put, getElem_toArray, getElem_cons_zero, getElem_cons_succ, setIfInBounds_toArray, set_cons_zero, set_cons_succ]
 refine wpAnyH_ready (rs := [6]) (by kernel_rfl) (by simp) ?_
 refine AllReadyH.cons rfl (fun K hK => ?_) AllReadyH.nil
 go_simp
 refine hK.out _ _ (KS.out _ t_Y2) (fun _ => ?_)
 clear hK K
 refine wpAnyH_done (by kernel_rfl) ?_ _
 have HT := Lib.hid (T0.out.trans (t_Y2.mono T0.out.size))
 go_wp2
 go_ret
 exact ⟨rfl, HT.out⟩
def plc (L : List Ae) (y : Hd) : Nat := L.findIdx fun x => !lessK x.h y
theorem plc_le (L : List Ae) (y : Hd) : plc L y ≤ L.length := List.findIdx_le_length
set_option maxRecDepth 100000 in
theorem place_any (y : Hd) (kb : Nat) (A : Option Addr) (n c : Nat) (L : List Ae) (w : World) (hn : L.length = n) (hl : Arr w A L) (hll : n ≤ 10000) (hk : Bk w kb (.cells #[.int .i64 y.t, .int .u32 y.i, .int .u32 y.v] 25)) :
  Calls Tryz.prog 49 #[.slice A n c, cl1 kb] w fun e w' => e = .returned (.int .i64 (plc L y)) ∧ Below w.heap.size w w' := by
 obtain ⟨W0, hW0⟩ : ∃ V, w.alloc (.cells #[cl1 kb] 93) = V := ⟨_, rfl⟩
 have bW0 : Below w.heap.size w W0 := by rw [← hW0]; exact below_alloc1 _ _
 have G0 := Bk.mk hW0
 have HL := Lib.hid (plc_le L y)
 have HF : Hid (fix (fun x : Ae => !lessK x.h y) L = if plc L y < n then (plc L y : Int) else -1) := Lib.hid (by rw [fix, hn]; rfl)
 have CI := aix_any A n c L 77 (.pointer (some ⟨w.heap.size, 0, none⟩)) (fun x => !lessK x.h y) W0 hn (hl.step bW0) hll enters_place1 (fun V x hx hV => place1_any y kb w.heap.size x V ((hk.step bW0).step hV) (G0.step hV))
 rw [HF.out] at CI
 rw [hn] at HL
 generalize plc L y = q at *
 have hq : q ≤ n := HL.out
 clear HF HL G0 hk hl hn
 go_enter Tryz.func49, Tryz.ntmps49
 by_cases h : q < n
 ·rw [if_pos h] at CI
  have g0 : ¬ ((q : Int) < 0) := by omega
  go_wp2_with fail
  refine CI.mono ?_
  rintro e W1 ⟨rfl, u1⟩
  go_wp2
  go_ret
  exact ⟨rfl, bW0.trans (u1.mono bW0.size)⟩
 ·rw [if_neg h] at CI
  obtain rfl : q = n := by omega
  go_wp2_with fail
  refine CI.mono ?_
  rintro e W1 ⟨rfl, u1⟩
  go_wp2
  go_ret
  exact ⟨rfl, bW0.trans (u1.mono bW0.size)⟩
end Go.Proofs.YtadcicmccdphkaaGreat
