/-
  One round; who changes. No statement is proved here; no conditions.
-/
import Derived.Test.YtpfppacmldjioaaHi
import Derived.Test.YtpfppacmldjioaaMp
import Derived.StillTailTactics
namespace Go.Proofs.Ytpfppacmldjioaa
open Go.RowKit Go.Joins

theorem enters_r1 (args : Array Value) (w' : World) : (callFunc 32 args).run Try.prog w' = .ok (.enter 32 args) w' := by simp [callFunc, Try.func32, Try.f32, mark]
theorem enters_r2 (args : Array Value) (w' : World) : (callFunc 35 args).run Try.prog w' = .ok (.enter 35 args) w' := by simp [callFunc, Try.func35, Try.f35, mark]
theorem enters_s1 (args : Array Value) (w' : World) : (callFunc 31 args).run Try.prog w' = .ok (.enter 31 args) w' := by simp [callFunc, Try.func31, Try.f31, mark]
theorem enters_dr (args : Array Value) (w' : World) : (callFunc 33 args).run Try.prog w' = .ok (.enter 33 args) w' := by simp [callFunc, Try.func33, Try.f33, mark]
theorem enters_e1 (args : Array Value) (w' : World) : (callFunc 26 args).run Try.prog w' = .ok (.enter 26 args) w' := by simp [callFunc, Try.func26, Try.f26, mark]
set_option maxRecDepth 100000 in
theorem round_any (A0 : Option Addr) (n c : Nat) (L : List Ca) (w : World) (hn : L.length = n) (hl : Cr w A0 L) (hll : n ≤ 10000) :
    Calls Try.prog 23 #[.slice A0 n c] w fun e w' => e = .returned (.tuple #[.int .u32 (rD L), .int .u32 (rB L)]) ∧ Below w.heap.size w w' := by
  have C1 := highest_any A0 n c L 32 (fun c => !sDR c && sBR c) w hn hl hll enters_r1 (fun V x => round1_any x V)
  have C2 : Hid (∀ V, Below w.heap.size w V → _) := Lib.hid (fun V hV => highest_any A0 n c L 35 (fun c => !sDR c) V hn (hl.step hV) hll enters_r2 (fun V x => round2_any x V))
  have C3 : Hid (∀ V, Below w.heap.size w V → _) := Lib.hid (fun V hV => highest_any A0 n c L 33 sDR V hn (hl.step hV) hll enters_dr (fun V x => saysDR_any x V))
  have HB : Hid (rB L = if hi (fun c => !sDR c && sBR c) L = 0 then hi (fun c => !sDR c) L else hi (fun c => !sDR c && sBR c) L) := Lib.hid rfl
  have HD : Hid (rD L = if hi sDR L = 0 then rB L else hi sDR L) := Lib.hid rfl
  rw [HD.out, HB.out]
  generalize hi (fun c => !sDR c && sBR c) L = b1 at *
  generalize hi (fun c => !sDR c) L = b2 at *
  generalize hi sDR L = d1 at *
  clear HD HB hl hn hll
  by_cases h1 : b1 = 0
  · have g1 : (b1 == 0) = true := by simp [h1]
    have H1 := Lib.hid h1
    clear h1
    go_enter Try.func23, Try.ntmps23
    go_wp2_with fail
    refine C1.mono ?_
    rintro e W1 ⟨rfl, u1⟩
    have K2 := C2.out W1 u1
    have H0 := Lib.hid u1
    clear u1
    go_wp2_with fail
    refine K2.mono ?_
    rintro e W2 ⟨rfl, u2⟩
    have HT := Lib.hid (H0.out.trans (u2.mono H0.out.size))
    clear u2
    have K3 := C3.out _ HT.out
    by_cases h3 : d1 = 0
    · have g3 : (d1 == 0) = true := by simp [h3]
      have H3 := Lib.hid h3
      clear h3
      go_wp2_with fail
      refine K3.mono ?_
      rintro e W9 ⟨rfl, u9⟩
      go_wp2
      go_ret2
      exact ⟨rfl, HT.out.trans (u9.mono HT.out.size)⟩
    · have g3 : (d1 == 0) = false := by simpa using h3
      have H3 := Lib.hid h3
      clear h3
      go_wp2_with fail
      refine K3.mono ?_
      rintro e W9 ⟨rfl, u9⟩
      go_wp2
      go_ret2
      exact ⟨rfl, HT.out.trans (u9.mono HT.out.size)⟩
  · have g1 : (b1 == 0) = false := by simpa using h1
    have H1 := Lib.hid h1
    clear h1
    go_enter Try.func23, Try.ntmps23
    go_wp2_with fail
    refine C1.mono ?_
    rintro e W1 ⟨rfl, u1⟩
    have HT := Lib.hid u1
    clear u1
    have K3 := C3.out _ HT.out
    by_cases h3 : d1 = 0
    · have g3 : (d1 == 0) = true := by simp [h3]
      have H3 := Lib.hid h3
      clear h3
      go_wp2_with fail
      refine K3.mono ?_
      rintro e W9 ⟨rfl, u9⟩
      go_wp2
      go_ret2
      exact ⟨rfl, HT.out.trans (u9.mono HT.out.size)⟩
    · have g3 : (d1 == 0) = false := by simpa using h3
      have H3 := Lib.hid h3
      clear h3
      go_wp2_with fail
      refine K3.mono ?_
      rintro e W9 ⟨rfl, u9⟩
      go_wp2
      go_ret2
      exact ⟨rfl, HT.out.trans (u9.mono HT.out.size)⟩
set_option maxRecDepth 100000 in
theorem changes_any (x : Ca) (d b : Int) (w : World) : Calls Try.prog 27 #[cv x, .int .u32 d, .int .u32 b] w fun e w' => e = .returned (.bool (chg x d b)) ∧ Below w.heap.size w w' := by
  obtain ⟨W0, hW0⟩ : ∃ V, w.alloc (.cells #[.int .u32 x.i, .int .i64 x.p, .int .u32 x.d, .int .u32 x.b] 40) = V := ⟨_, rfl⟩
  have bW0 : Below w.heap.size w W0 := by rw [← hW0]; exact below_alloc1 _ _
  have sW0 : W0.heap.size = w.heap.size + 1 := by rw [← hW0]; simp
  have KX : Hid (∀ V, Below W0.heap.size W0 V → V.cell? ⟨w.heap.size, 0, none⟩ = some (.int .u32 x.i) ∧ V.cell? ⟨w.heap.size, 1, none⟩ = some (.int .i64 x.p) ∧ V.cell? ⟨w.heap.size, 2, none⟩ = some (.int .u32 x.d) ∧ V.cell? ⟨w.heap.size, 3, none⟩ = some (.int .u32 x.b)) := Lib.hid (fun V hV => kb4_new hW0 hV)
  obtain ⟨k0, k1, k2, k3⟩ := KX.out _ (Below.refl _ _)
  have HV : Hid (chg x d b = ((sDR x != (x.i == d)) || (sBR x != (x.i == b)))) := Lib.hid rfl
  rw [HV.out]
  have CD : ∀ V, _ := fun V => saysDR_any x V
  have CB : ∀ V, _ := fun V => saysBDR_any x V
  have HB := Lib.hid bW0
  generalize sDR x = s at *
  generalize sBR x = r at *
  generalize hf : (x.i == d) = f at *
  generalize hg : (x.i == b) = g at *
  clear KX sW0 bW0 HV
  cases s <;> cases f
  all_goals
    go_enter Try.func27, Try.ntmps27
    go_wp2_with fail
    refine wp_region_quiet_below (by kernel_rfl) (by kernel_rfl) ?_
    have gg0 := cell_regrown k0
    have gg1 := cell_regrown k1
    have gg2 := cell_regrown k2
    have gg3 := cell_regrown k3
    have zz0 : ∀ d os, _ := fun d os => Calls.regrown_of (w := W0) (d := d) (os := os) (CD _)
    have zz1 : ∀ d os, _ := fun d os => Calls.regrown_of (w := W0) (d := d) (os := os) (CB _)
    repeat (first | go_big_quiet_step (with_reducible exact zz0 _ _) | go_big_quiet_step (with_reducible exact zz1 _ _) | go_big_quiet_step (fail) | go_big_quiet_skip)
    refine wpQuiet_nil ?_
    intro W9 hw'
    obtain ⟨⟨dq, osq⟩, hw''⟩ := hw'
    have hbz := below_regrown W0 dq osq
    rw [← hw''] at hbz
    clear hw'' gg0 gg1 gg2 gg3 zz0 zz1 
    go_wp2
    go_ret
    exact ⟨by cases r <;> cases g <;> rfl, HB.out.trans (hbz.mono HB.out.size)⟩
set_option maxRecDepth 100000 in
theorem elect1_any (o : Int) (kb : Nat) (x : Ca) (w : World) (hb : Bk w kb (.cells #[.int .u32 o] 23)) : Calls Try.prog 26 #[cv x, .pointer (some ⟨kb, 0, none⟩)] w fun e w' => e = .returned (.bool (decide (x.i = o))) ∧ Below w.heap.size w w' := by
  obtain ⟨W0, hW0⟩ : ∃ V, w.alloc (.cells #[.int .u32 x.i, .int .i64 x.p, .int .u32 x.d, .int .u32 x.b] 40) = V := ⟨_, rfl⟩
  have bW0 : Below w.heap.size w W0 := by rw [← hW0]; exact below_alloc1 _ _
  have sW0 : W0.heap.size = w.heap.size + 1 := by rw [← hW0]; simp
  have KX : Hid (∀ V, Below W0.heap.size W0 V → V.cell? ⟨w.heap.size, 0, none⟩ = some (.int .u32 x.i) ∧ V.cell? ⟨w.heap.size, 1, none⟩ = some (.int .i64 x.p) ∧ V.cell? ⟨w.heap.size, 2, none⟩ = some (.int .u32 x.d) ∧ V.cell? ⟨w.heap.size, 3, none⟩ = some (.int .u32 x.b)) := Lib.hid (fun V hV => kb4_new hW0 hV)
  obtain ⟨k0, k1, k2, k3⟩ := KX.out _ (Below.refl _ _)
  have j0 : W0.cell? ⟨kb, 0, none⟩ = some (.int .u32 o) := (cell_of_block (hb.step bW0) 0).trans rfl
  clear KX sW0 hb
  go_enter Try.func26, Try.ntmps26
  go_wp2
  go_ret
  exact ⟨rfl, bW0⟩
/-- The place of the first one, or -1. -/
def fix (p : Ca → Bool) (L : List Ca) : Int := if L.findIdx p < L.length then (L.findIdx p : Int) else -1
theorem fix_none {p : Ca → Bool} {L : List Ca} (h : ∀ x ∈ L, p x = false) : fix p L = -1 := by
  rw [fix, if_neg (by rw [List.findIdx_eq_length.2 h]; omega)]
theorem fix_at {p : Ca → Bool} {L : List Ca} {k : Nat} (hk : k < L.length) (h : ∀ i (hi : i < L.length), i < k → p L[i] = false) (ht : p L[k] = true) : fix p L = (k : Int) := by
  have : L.findIdx p = k := (List.findIdx_eq hk).2 ⟨ht, fun j hj => h j (by omega) hj⟩
  rw [fix, this, if_pos hk]
set_option maxRecDepth 100000 in
theorem ix_any (A0 : Option Addr) (n c : Nat) (L : List Ca) (Fn : Nat) (p1 : Value) (pr : Ca → Bool) (w : World) (hn : L.length = n) (hl : Cr w A0 L) (hll : n ≤ 10000)
    (hF : ∀ (args : Array Value) (w' : World), (callFunc Fn args).run Try.prog w' = .ok (.enter Fn args) w')
    (hp : ∀ V x, x ∈ L → Below w.heap.size w V → Calls Try.prog Fn #[cv x, p1] V fun e V' => e = .returned (.bool (pr x)) ∧ Below V.heap.size V V') :
    Calls Try.prog 25 #[.slice A0 n c, .func (.func Fn) #[] #[p1]] w fun e w' => e = .returned (.int .i64 (fix pr L)) ∧ Below w.heap.size w w' := by
  have HL := Lib.hid hl
  have HP := Lib.hid hp
  obtain ⟨R, hR⟩ : ∃ R, fix pr L = R := ⟨_, rfl⟩
  rw [hR]
  have HLN := Lib.hid hn
  have HR := Lib.hid hR
  clear hl hp hn hR
  go_enter Try.func25, Try.ntmps25
  go_wp2_with fail
  go_loopg [8] n (fun gf v wx => ∃ (k : Nat), v = .int .i64 (k : Int) ∧ Hid (gf + k = n) ∧ Hid (∀ i (hi : i < L.length), i < k → pr L[i] = false) ∧ Hid (Below w.heap.size w wx))
  case atStart => exact ⟨0, rfl, Lib.hid (by omega), Lib.hid (fun i _ hi => by omega), Lib.hid (Below.refl _ _)⟩
  case round =>
    obtain ⟨k, rfl, hk, hn, hb⟩ := hrel
    have hk' := hk.out
    cases gk with
    | zero =>
      have e1 : k = n := by omega
      have lt0 : decide ((k : Int) < (n : Int)) = false := by simp; omega
      have lt1 : decide (k < n) = false := by simp; omega
      go_wp2
      go_ret
      refine ⟨ret_int ?_, hb.out⟩
      rw [← HR.out, fix_none]
      intro x hx
      obtain ⟨i, hi, rfl⟩ := List.getElem_of_mem hx
      exact hn.out i hi (by have := HLN.out; omega)
    | succ gf =>
      have hkl : k < L.length := by rw [HLN.out]; omega
      have lt0 : (k : Int) < (n : Int) := by omega
      have hw1 : (k : Int) + 1 ≤ 10000 := by omega
      obtain ⟨b, off, hA, _, e0, e1, e2, e3⟩ := crd_at (HL.out.step hb.out) hkl
      have hmem : cg L k ∈ L := cg_mem hkl
      have hxl : cg L k = L[k] := cg_eq hkl
      obtain ⟨x, hx⟩ : ∃ x, cg L k = x := ⟨_, rfl⟩
      rw [hx] at e0 e1 e2 e3 hmem hxl
      subst hA
      have see := HP.out wr x hmem hb.out
      have HX := Lib.hid hxl
      clear hx hmem hxl
      have hf1 := hF #[cv x, p1] wr
      cases hpr : pr x with
      | true =>
        rw [hpr] at see
        have E9 : Hid (R = (k : Int)) := Lib.hid (by rw [← HR.out, fix_at hkl hn.out (by rw [← HX.out]; exact hpr)])
        clear HX hkl
        go_wp2_with fail
        refine see.mono ?_
        rintro e W2 ⟨rfl, hb2⟩
        go_wp2
        go_ret
        exact ⟨ret_int E9.out.symm, hb.out.trans (hb2.mono hb.out.size)⟩
      | false =>
        rw [hpr] at see
        have HN : Hid (∀ i (hi : i < L.length), i < k + 1 → pr L[i] = false) := Lib.hid (fun i hi hik => by
          rcases Nat.lt_or_ge i k with q | q
          · exact hn.out i hi q
          · obtain rfl : i = k := by omega
            rw [← HX.out]; exact hpr)
        clear HX hkl
        go_wp2_with fail
        refine see.mono ?_
        rintro e W2 ⟨rfl, hb2⟩
        have HB2 := Lib.hid (hb.out.trans (hb2.mono hb.out.size))
        clear hb2 see hf1 e0 e1 e2 e3 hb
        go_wp2
        go_roundg gf
        case measure => omega
        case rel => exact ⟨k + 1, by go_num, Lib.hid (by omega), HN, HB2⟩
end Go.Proofs.Ytpfppacmldjioaa
