/-
  slices.IndexFunc at advertisements; store.has and its closure. No statement is proved here; no conditions.
-/
import Derived.Test.YtadcicmccdphkaaAd
import Derived.Test.YtadcicmccdphkaaOr
import Derived.Test.YtadcicmccdphkaaMl
import Derived.Deep.LoopGhost
import Derived.Laws.StructEq
namespace Go.Proofs.Ytadcicmccdphkaa
open Go.RowKit Go.Joins

/-- Block b holds o. -/
def Bk (w : World) (b : Nat) (o : Obj) : Prop := w.heap[b]? = some o
theorem Bk.lt {w : World} {b : Nat} {o : Obj} (h : Bk w b o) : b < w.heap.size := lt_of_block h
theorem Bk.step {w w' : World} {b : Nat} {o : Obj} (h : Bk w b o) (k : Below w.heap.size w w') : Bk w' b o := (k.block b h.lt).trans h
theorem Bk.mk {w W0 : World} {o : Obj} (h : w.alloc o = W0) : Bk W0 w.heap.size o := by subst h; exact alloc_at _ _ _ rfl
/-- An advertisement as a value. -/
abbrev av (x : Ae) : Value := .agg #[.int .i64 x.h.a, .int .i64 x.h.o, .int .i64 x.h.t, .int .u32 x.h.i, .int .u32 x.h.v, .int .u32 x.h.q, .int .i64 x.h.s, .int .i64 x.h.n, .slice x.A x.l.length x.c]
set_option maxRecDepth 100000 in
theorem aix_any (A0 : Option Addr) (n c : Nat) (L : List Ae) (F : Nat) (p1 : Value) (pr : Ae → Bool) (w : World) (hn : L.length = n) (hl : Arr w A0 L) (hll : n ≤ 10000)
    (hF : ∀ (args : Array Value) (w' : World), (callFunc F args).run Try.prog w' = .ok (.enter F args) w')
    (hp : ∀ V x, x ∈ L → Below w.heap.size w V → Calls Try.prog F #[av x, p1] V fun e V' => e = .returned (.bool (pr x)) ∧ Below V.heap.size V V') :
    Calls Try.prog 26 #[.slice A0 n c, .func (.func F) #[] #[p1]] w fun e w' => e = .returned (.int .i64 (fix pr L)) ∧ Below w.heap.size w w' := by
  have HL := Lib.hid hl
  have HP := Lib.hid hp
  obtain ⟨R, hR⟩ : ∃ R, fix pr L = R := ⟨_, rfl⟩
  rw [hR]
  have HLN := Lib.hid hn
  have HR := Lib.hid hR
  clear hl hp hn hR
  go_enter Try.func26, Try.ntmps26
  go_wp2_with fail
  go_loopg [8] n (fun gf v wx => ∃ (k : Nat), v = .int .i64 (k : Int) ∧ Hid (gf + k = n) ∧ Hid (∀ i (hi : i < L.length), i < k → pr L[i] = false) ∧ Hid (Below w.heap.size w wx))
  case atStart => exact ⟨0, rfl, Lib.hid (by omega), Lib.hid (fun i _ hi => by omega), Lib.hid (Below.refl _ _)⟩
  case round =>
    obtain ⟨k, rfl, hk, hn, hb⟩ := hrel
    have hk' := hk.out
    cases gk with
    | zero =>
      have e1 : k = n := by omega
      have lt0 : decide ((k : Int) < (n : Int)) = false := by simp; omega
      have lt1 : decide (k < n) = false := by simp; omega
      go_wp2
      go_ret
      refine ⟨ret_int ?_, hb.out⟩
      rw [← HR.out, fix_none]
      intro x hx
      obtain ⟨i, hi, rfl⟩ := List.getElem_of_mem hx
      exact hn.out i hi (by have := HLN.out; omega)
    | succ gf =>
      have hkl : k < L.length := by rw [HLN.out]; omega
      have lt0 : (k : Int) < (n : Int) := by omega
      have hw1 : (k : Int) + 1 ≤ 10000 := by omega
      obtain ⟨b, off, hA, _, e0, e1, e2, e3, e4, e5, e6, e7, e8⟩ := ard_at (HL.out.step hb.out).1 hkl
      have hmem : ag L k ∈ L := ag_mem hkl
      have hxl : ag L k = L[k] := ag_eq hkl
      obtain ⟨x, hx⟩ : ∃ x, ag L k = x := ⟨_, rfl⟩
      rw [hx] at e0 e1 e2 e3 e4 e5 e6 e7 e8 hmem hxl
      subst hA
      have see := HP.out wr x hmem hb.out
      have HX := Lib.hid hxl
      clear hx hmem hxl
      have hf1 := hF #[av x, p1] wr
      cases hpr : pr x with
      | true =>
        rw [hpr] at see
        have E9 : Hid (R = (k : Int)) := Lib.hid (by rw [← HR.out, fix_at hkl (fun i hi => hn.out i (by omega) hi) (by rw [← HX.out]; exact hpr)])
        clear HX hkl
        go_wp2_with fail
        refine see.mono ?_
        rintro e W2 ⟨rfl, hb2⟩
        go_wp2
        go_ret
        exact ⟨ret_int E9.out.symm, hb.out.trans (hb2.mono hb.out.size)⟩
      | false =>
        rw [hpr] at see
        have HN : Hid (∀ i (hi : i < L.length), i < k + 1 → pr L[i] = false) := Lib.hid (fun i hi hik => by
          rcases Nat.lt_or_ge i k with q | q
          · exact hn.out i hi q
          · obtain rfl : i = k := by omega
            rw [← HX.out]; exact hpr)
        clear HX hkl
        go_wp2_with fail
        refine see.mono ?_
        rintro e W2 ⟨rfl, hb2⟩
        have HB2 := Lib.hid (hb.out.trans (hb2.mono hb.out.size))
        clear hb2 see hf1 e0 e1 e2 e3 e4 e5 e6 e7 e8 hb
        go_wp2
        go_roundg gf
        case measure => omega
        case rel => exact ⟨k + 1, by go_num, Lib.hid (by omega), HN, HB2⟩
/-- Whether x has the key of y. -/
def kq (y x : Hd) : Bool := decide (x.t = y.t) && (decide (x.i = y.i) && decide (x.v = y.v))
theorem kq_iff (y x : Hd) : kq y x = true ↔ x.t = y.t ∧ x.i = y.i ∧ x.v = y.v := by simp [kq]
theorem htK : Try.prog.underlying 40 = some (.struct (Try.prog.fieldsOf 40)) := by kernel_rfl
theorem hpK : Try.prog.stoodInHeld 40 = false := by kernel_rfl
theorem eqK0 (w : World) (a b c d e f : Int) : (Op.equalIn 10000 40 (.agg #[.int .i64 a, .int .u32 b, .int .u32 c]) (.agg #[.int .i64 d, .int .u32 e, .int .u32 f])).run Try.prog w = .ok (decide (a = d) && (decide (b = e) && decide (c = f))) w := by
  rw [run_equalIn_agg (P := Try.prog) w 9999 40 #[.int .i64 a, .int .u32 b, .int .u32 c] #[.int .i64 d, .int .u32 e, .int .u32 f] htK hpK]
  simp [go_sem, Op.eqFields]
  by_cases h1 : a = d <;> by_cases h2 : b = e <;> by_cases h3 : c = f <;> simp [h1, h2, h3]
theorem eqK (w : World) (a b c d e f : Int) : (binOp .eql 40 (.agg #[.int .i64 a, .int .u32 b, .int .u32 c]) (.agg #[.int .i64 d, .int .u32 e, .int .u32 f])).run Try.prog w = .ok (.bool (decide (a = d) && (decide (b = e) && decide (c = f)))) w := by
  rw [run_eql_struct, eqK0]
  rfl
theorem neK (w : World) (a b c d e f : Int) : (binOp .neq 40 (.agg #[.int .i64 a, .int .u32 b, .int .u32 c]) (.agg #[.int .i64 d, .int .u32 e, .int .u32 f])).run Try.prog w = .ok (.bool (!(decide (a = d) && (decide (b = e) && decide (c = f))))) w := by
  rw [run_neq_struct, eqK0]
  rfl
theorem enters_has1 (args : Array Value) (w' : World) : (callFunc 49 args).run Try.prog w' = .ok (.enter 49 args) w' := by simp [callFunc, Try.func49, Try.f49, mark]
set_option maxRecDepth 100000 in
theorem has1_any (y : Hd) (b : Nat) (x : Ae) (w : World) (hb : Bk w b (.cells #[.int .i64 y.t, .int .u32 y.i, .int .u32 y.v] 40)) :
    Calls Try.prog 49 #[av x, .pointer (some ⟨b, 0, none⟩)] w fun e w' => e = .returned (.bool (kq y x.h)) ∧ Below w.heap.size w w' := by
  obtain ⟨h, hh⟩ : ∃ h, x.h = h := ⟨_, rfl⟩
  obtain ⟨A, hA⟩ : ∃ A, x.A = A := ⟨_, rfl⟩
  obtain ⟨n, hn⟩ : ∃ n, x.l.length = n := ⟨_, rfl⟩
  obtain ⟨c, hc⟩ : ∃ c, x.c = c := ⟨_, rfl⟩
  have HK : Hid (kq y h = (decide (h.t = y.t) && (decide (h.i = y.i) && decide (h.v = y.v)))) := Lib.hid rfl
  rw [av, hh, hA, hn, hc]
  clear hh hA hn hc
  obtain ⟨W0, hW0⟩ : ∃ V, w.alloc (.cells #[.int .i64 h.a, .int .i64 h.o, .int .i64 h.t, .int .u32 h.i, .int .u32 h.v, .int .u32 h.q, .int .i64 h.s, .int .i64 h.n, .slice A n c] 34) = V := ⟨_, rfl⟩
  have bW0 : Below w.heap.size w W0 := by rw [← hW0]; exact below_alloc1 _ _
  have sW0 : W0.heap.size = w.heap.size + 1 := by rw [← hW0]; simp
  have KX : Hid (∀ V, Below W0.heap.size W0 V → V.cell? ⟨w.heap.size, 0, none⟩ = some (.int .i64 h.a) ∧ V.cell? ⟨w.heap.size, 1, none⟩ = some (.int .i64 h.o) ∧ V.cell? ⟨w.heap.size, 2, none⟩ = some (.int .i64 h.t) ∧ V.cell? ⟨w.heap.size, 3, none⟩ = some (.int .u32 h.i) ∧ V.cell? ⟨w.heap.size, 4, none⟩ = some (.int .u32 h.v) ∧ V.cell? ⟨w.heap.size, 5, none⟩ = some (.int .u32 h.q) ∧ V.cell? ⟨w.heap.size, 6, none⟩ = some (.int .i64 h.s) ∧ V.cell? ⟨w.heap.size, 7, none⟩ = some (.int .i64 h.n) ∧ V.cell? ⟨w.heap.size, 8, none⟩ = some (.slice A n c)) := Lib.hid (fun V hV => kb9_new hW0 hV)
  obtain ⟨k0, k1, k2, k3, k4, k5, k6, k7, k8⟩ := KX.out _ (Below.refl _ _)
  obtain ⟨j0, j1, j2, f0, f1, f2, hlt⟩ := kz3_at (hb.step bW0)
  have hq := fun W => eqK W h.t h.i h.v y.t y.i y.v
  rw [HK.out]
  clear KX sW0 hb HK
  go_enter Try.func49, Try.ntmps49
  go_wp2_with fail
  refine wp_region_quiet_below (by kernel_rfl) (by kernel_rfl) ?_
  have gg0 := cell_regrown k0
  have gg1 := cell_regrown k1
  have gg2 := cell_regrown k2
  have gg3 := cell_regrown k3
  have gg4 := cell_regrown k4
  have gg5 := cell_regrown k5
  have gg6 := cell_regrown k6
  have gg7 := cell_regrown k7
  have gg8 := cell_regrown k8
  have gg9 := cell_regrown j0
  have gg10 := cell_regrown j1
  have gg11 := cell_regrown j2
  have zz0 : ∀ d os, _ := fun d os => Calls.regrown_of (w := W0) (d := d) (os := os) (key_any h _)
  repeat (first | go_big_quiet_step (with_reducible exact zz0 _ _) | go_big_quiet_step (fail) | go_big_quiet_skip)
  refine wpQuiet_nil ?_
  intro W9 hw'
  obtain ⟨⟨dq, osq⟩, hw''⟩ := hw'
  have hbz := below_regrown W0 dq osq
  rw [← hw''] at hbz
  clear hw'' gg0 gg1 gg2 gg3 gg4 gg5 gg6 gg7 gg8 gg9 gg10 gg11 zz0 
  go_wp2
  go_ret
  exact ⟨rfl, bW0.trans (hbz.mono bW0.size)⟩
end Go.Proofs.Ytadcicmccdphkaa
