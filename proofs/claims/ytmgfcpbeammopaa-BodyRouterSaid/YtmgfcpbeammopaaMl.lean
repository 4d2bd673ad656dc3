/-
  Whether a router's body may be: slices.IndexFunc and slices.ContainsFunc at links, body.mayRouter, and the reference's MayRouter. No statement is proved here; no conditions.
-/
import Derived.Test.YtmgfcpbeammopaaBd
import Derived.Deep.LoopGhost
namespace Go.Proofs.Ytmgfcpbeammopaa
open Go.RowKit Go.Joins

/-- The place of the first one that is so, or -1. -/
def fix {α : Type} (pr : α → Bool) (l : List α) : Int := if l.findIdx pr < l.length then (l.findIdx pr : Int) else -1
theorem fix_none {α : Type} {pr : α → Bool} {l : List α} (h : ∀ x ∈ l, pr x = false) : fix pr l = -1 := by
  unfold fix
  rw [if_neg]
  have := List.findIdx_eq_length.2 h
  omega
theorem fix_at {α : Type} {pr : α → Bool} {l : List α} {k : Nat} (hk : k < l.length) (h : ∀ i (hi : i < k), pr (l[i]'(by omega)) = false) (ht : pr l[k] = true) : fix pr l = k := by
  unfold fix
  have e : l.findIdx pr = k := (List.findIdx_eq hk).2 ⟨ht, fun j hj => h j hj⟩
  rw [e, if_pos hk]
theorem fix_any {α : Type} (pr : α → Bool) (l : List α) : decide (fix pr l ≥ 0) = l.any pr := by
  unfold fix
  rw [Bool.eq_iff_iff, decide_eq_true_eq, List.any_eq_true]
  rw [show (∃ x, x ∈ l ∧ pr x = true) ↔ l.findIdx pr < l.length from List.findIdx_lt_length.symm]
  split
  · rename_i h; simp [h]
  · rename_i h; simp [h]
theorem enters_wrong (args : Array Value) (w' : World) : (callFunc 45 args).run Try.prog w' = .ok (.enter 45 args) w' := by simp [callFunc, Try.func45, Try.f45, mark]
set_option maxRecDepth 100000 in
theorem lix_any (A0 : Option Addr) (n c : Nat) (L : List Lk) (w : World) (hn : L.length = n) (hl : Lr w A0 L) (hll : n ≤ 10000) :
    Calls Try.prog 57 #[.slice A0 n c, .func (.func 45) #[] #[]] w fun e w' => e = .returned (.int .i64 (fix (fun x => !mayk x) L)) ∧ Below w.heap.size w w' := by
  have HL := Lib.hid hl
  have HLN := Lib.hid hn
  obtain ⟨R, hR⟩ : ∃ R, fix (fun x => !mayk x) L = R := ⟨_, rfl⟩
  rw [hR]
  have HR := Lib.hid hR
  clear hl hn hR
  go_enter Try.func57, Try.ntmps57
  go_wp2_with fail
  go_loopg [8] n (fun gf v wx => ∃ (k : Nat), v = .int .i64 (k : Int) ∧ Hid (gf + k = n) ∧ Hid (∀ i (hi : i < L.length), i < k → (!mayk L[i]) = false) ∧ Hid (Below w.heap.size w wx))
  case atStart => exact ⟨0, rfl, Lib.hid (by omega), Lib.hid (fun i _ hi => by omega), Lib.hid (Below.refl _ _)⟩
  case round =>
    obtain ⟨k, rfl, hk, hp, hb⟩ := hrel
    have hk' := hk.out
    cases gk with
    | zero =>
      have e1 : k = n := by omega
      have lt0 : decide ((k : Int) < (n : Int)) = false := by simp; omega
      have lt1 : decide (k < n) = false := by simp; omega
      go_wp2
      go_ret
      refine ⟨ret_int ?_, hb.out⟩
      rw [← HR.out, fix_none]
      intro x hx
      obtain ⟨i, hi, rfl⟩ := List.getElem_of_mem hx
      exact hp.out i hi (by have := HLN.out; omega)
    | succ gf =>
      have hkl : k < L.length := by rw [HLN.out]; omega
      have lt0 : (k : Int) < (n : Int) := by omega
      have hw1 : (k : Int) + 1 ≤ 10000 := by omega
      obtain ⟨b, off, hA, _, e0, e1, e2, e3⟩ := (HL.out.step hb.out).at hkl
      have hxl : gl L k = L[k] := gl_eq hkl
      obtain ⟨x, hx⟩ : ∃ x, gl L k = x := ⟨_, rfl⟩
      rw [hx] at e0 e1 e2 e3 hxl
      subst hA
      have see := wrong_any x wr
      have HX := Lib.hid hxl
      clear hx hxl
      have hf1 := enters_wrong #[lkv x] wr
      cases hpr : mayk x with
      | false =>
        rw [hpr] at see
        have E9 : Hid (R = (k : Int)) := Lib.hid (by rw [← HR.out, fix_at hkl (fun i hi => hp.out i (by omega) hi) (by rw [← HX.out, hpr]; rfl)])
        clear HX hkl
        go_wp2_with fail
        refine see.mono ?_
        rintro e W2 ⟨rfl, hb2⟩
        go_wp2
        go_ret
        exact ⟨ret_int E9.out.symm, hb.out.trans (hb2.mono hb.out.size)⟩
      | true =>
        rw [hpr] at see
        have HN : Hid (∀ i (hi : i < L.length), i < k + 1 → (!mayk L[i]) = false) := Lib.hid (fun i hi hik => by
          rcases Nat.lt_or_ge i k with q | q
          · exact hp.out i hi q
          · obtain rfl : i = k := by omega
            rw [← HX.out, hpr]
            rfl)
        clear HX hkl
        go_wp2_with fail
        refine see.mono ?_
        rintro e W2 ⟨rfl, hb2⟩
        have HB2 := Lib.hid (hb.out.trans (hb2.mono hb.out.size))
        clear hb2 see hf1 e0 e1 e2 e3 hb
        go_wp2
        go_roundg gf
        case measure => omega
        case rel => exact ⟨k + 1, by go_num, Lib.hid (by omega), HN, HB2⟩
theorem lcf_any (A0 : Option Addr) (n c : Nat) (L : List Lk) (w : World) (hn : L.length = n) (hl : Lr w A0 L) (hll : n ≤ 10000) :
    Calls Try.prog 44 #[.slice A0 n c, .func (.func 45) #[] #[]] w fun e w' => e = .returned (.bool (!L.all mayk)) ∧ Below w.heap.size w w' := by
  have cf := lix_any A0 n c L w hn hl hll
  have he := fix_any (fun x => !mayk x) L
  rw [show L.any (fun x => !mayk x) = !L.all mayk by simp [List.not_all_eq_any_not]] at he
  generalize fix (fun x => !mayk x) L = R at *
  generalize (!L.all mayk) = E at *
  have HE := Lib.hid he
  clear hl he hn
  go_enter Try.func44, Try.ntmps44
  go_wp2_with fail
  refine cf.mono ?_
  rintro e W1 ⟨rfl, hb1⟩
  clear cf
  go_wp2
  go_ret
  exact ⟨ret_bool HE.out, hb1⟩
/-- Whether a router's body may be. -/
def mayR (f : Int) (L : List Lk) : Bool := win f 0 31 && (decide (L.length ≤ 100) && L.all mayk)
theorem mayR_iff (f : Int) (L : List Lk) : mayR f L = true ↔ (0 ≤ f ∧ f ≤ 31) ∧ L.length ≤ 100 ∧ ∀ x ∈ L, mayk x = true := by simp [mayR, win]
set_option maxRecDepth 100000 in
theorem mayR_any (f : Int) (A : Option Addr) (n c : Nat) (L : List Lk) (w : World) (hn : L.length = n) (hl : Lr w A L) (hll : n ≤ 10000) :
    Calls Try.prog 24 #[.agg #[.int .i64 f, .slice A n c]] w fun e w' => e = .returned (.bool (mayR f L)) ∧ Below w.heap.size w w' := by
  have HM : Hid (mayR f L = (win f 0 31 && (decide (n ≤ 100) && L.all mayk))) := Lib.hid (by unfold mayR; rw [hn])
  obtain ⟨W0, hW0⟩ : ∃ V, w.alloc (.cells #[.int .i64 f, .slice A n c] 24) = V := ⟨_, rfl⟩
  have bW0 : Below w.heap.size w W0 := by rw [← hW0]; exact below_alloc1 _ _
  have sW0 : W0.heap.size = w.heap.size + 1 := by rw [← hW0]; simp
  have KX : Hid (∀ V, Below W0.heap.size W0 V → V.cell? ⟨w.heap.size, 0, none⟩ = some (.int .i64 f) ∧ V.cell? ⟨w.heap.size, 1, none⟩ = some (.slice A n c)) := Lib.hid (fun V hV => kb2_new hW0 hV)
  obtain ⟨k0, k1⟩ := KX.out _ (Below.refl _ _)
  have c1 := fun V => within_any f 0 31 V
  have c2 := lcf_any A n c L W0 hn (hl.step bW0) hll
  rw [HM.out]
  generalize win f 0 31 = T1 at *
  generalize L.all mayk = T2 at *
  clear HM KX hn hl
  cases T1
  · go_enter Try.func24, Try.ntmps24
    go_wp2_with fail
    refine (c1 _).mono ?_
    rintro e w1 ⟨rfl, rfl⟩
    go_wp2
    go_ret
    exact ⟨rfl, bW0⟩
  by_cases h1 : n ≤ 100
  · have d0 : decide ((n : Int) ≤ 100) = true := by simp; omega
    have d1 : decide (n ≤ 100) = true := by simpa using h1
    have d2 : (n : Int) ≤ 100 := by omega
    rw [d1]
    go_enter Try.func24, Try.ntmps24
    go_wp2_with fail
    refine (c1 _).mono ?_
    rintro e w1 ⟨rfl, rfl⟩
    go_wp2_with fail
    refine c2.mono ?_
    rintro e w2 ⟨rfl, u2⟩
    go_wp2
    go_ret
    exact ⟨ret_bool (by simp), bW0.trans (u2.mono bW0.size)⟩
  · have d0 : decide ((n : Int) ≤ 100) = false := by simp; omega
    have d1 : decide (n ≤ 100) = false := by simpa using h1
    have d2 : ¬ ((n : Int) ≤ 100) := by omega
    rw [d1]
    go_enter Try.func24, Try.ntmps24
    go_wp2_with fail
    refine (c1 _).mono ?_
    rintro e w1 ⟨rfl, rfl⟩
    go_wp2
    go_ret
    exact ⟨rfl, bW0⟩
set_option maxRecDepth 100000 in
set_option maxHeartbeats 2000000 in
theorem rmayR_any (f : Int) (A : Option Addr) (n c : Nat) (L : List Lk) (w : World) (hn : L.length = n) (hl : Lr w A L) :
    Calls Try.prog 28 #[.agg #[.int .i64 f, .slice A n c]] w fun e w' => e = .returned (.bool (mayR f L)) ∧ Below w.heap.size w w' := by
  have HM : Hid (mayR f L = (win f 0 31 && (decide (n ≤ 100) && L.all mayk))) := Lib.hid (by unfold mayR; rw [hn])
  generalize mayR f L = M at *
  obtain ⟨W0, hW0⟩ : ∃ V, w.alloc (.cells #[.int .i64 f, .slice A n c] 31) = V := ⟨_, rfl⟩
  have bW0 : Below w.heap.size w W0 := by rw [← hW0]; exact below_alloc1 _ _
  have sW0 : W0.heap.size = w.heap.size + 1 := by rw [← hW0]; simp
  have KX : Hid (∀ V, Below W0.heap.size W0 V → V.cell? ⟨w.heap.size, 0, none⟩ = some (.int .i64 f) ∧ V.cell? ⟨w.heap.size, 1, none⟩ = some (.slice A n c)) := Lib.hid (fun V hV => kb2_new hW0 hV)
  obtain ⟨k0, k1⟩ := KX.out _ (Below.refl _ _)
  by_cases f0 : f < 0
  · have e : win f 0 31 = false := by simp [win]; omega
    have HN := Lib.hid hn
    clear hn hl KX
    go_enter Try.func28, Try.ntmps28
    go_wp2
    go_ret
    exact ⟨ret_bool (by rw [HM.out]; rw [e]; rfl), bW0⟩
  by_cases f1 : f > 31
  · have e : win f 0 31 = false := by simp [win]; omega
    have HN := Lib.hid hn
    clear hn hl KX
    go_enter Try.func28, Try.ntmps28
    go_wp2
    go_ret
    exact ⟨ret_bool (by rw [HM.out]; rw [e]; rfl), bW0⟩
  have e31 : win f 0 31 = true := by simp [win]; omega
  by_cases h1 : 100 < n
  · have e : decide (n ≤ 100) = false := by simp; omega
    have d : (n : Int) > 100 := by omega
    have HN := Lib.hid hn
    clear hn hl KX
    go_enter Try.func28, Try.ntmps28
    go_wp2
    go_ret
    exact ⟨ret_bool (by rw [HM.out]; rw [e]; simp), bW0⟩
  have e100 : decide (n ≤ 100) = true := by simp; omega
  have d : ¬ ((n : Int) > 100) := by omega
  have HA : Hid (M = L.all mayk) := Lib.hid (by rw [HM.out, e31, e100]; simp)
  have HN := Lib.hid hn
  have HL := Lib.hid (hl.step bW0)
  have HB := Lib.hid bW0
  clear hn hl HM e31 e100 bW0
  go_enter Try.func28, Try.ntmps28
  go_wp2_with fail
  clear k0 k1
  go_loopg [3] n (fun gf v wx => ∃ (k : Nat), v = .int .i64 (k : Int) ∧ Hid (gf + k = n) ∧ Hid (∀ i (hi : i < L.length), i < k → mayk L[i] = true) ∧ Hid (Below W0.heap.size W0 wx))
  case atStart => exact ⟨0, rfl, Lib.hid (by omega), Lib.hid (fun i _ hi => by omega), Lib.hid (Below.refl _ _)⟩
  case round =>
    obtain ⟨k, rfl, hk, hp, hb⟩ := hrel
    have hk' := hk.out
    obtain ⟨k0, k1⟩ := KX.out _ hb.out
    cases gk with
    | zero =>
      have e1 : k = n := by omega
      have lt0 : decide ((k : Int) < (n : Int)) = false := by simp; omega
      have lt1 : decide (k < n) = false := by simp; omega
      have E9 : Hid (M = true) := Lib.hid (by
        rw [HA.out, List.all_eq_true]
        intro x hx
        obtain ⟨i, hi, rfl⟩ := List.getElem_of_mem hx
        exact hp.out i hi (by have := HN.out; omega))
      go_wp2
      go_ret
      exact ⟨ret_bool E9.out.symm, HB.out.trans (hb.out.mono HB.out.size)⟩
    | succ gf =>
      have hkl : k < L.length := by rw [HN.out]; omega
      have lt0 : (k : Int) < (n : Int) := by omega
      have hw1 : (k : Int) + 1 ≤ 10000 := by omega
      obtain ⟨b, off, hA, _, e0, e1, e2, e3⟩ := (HL.out.step hb.out).at hkl
      have hxl : gl L k = L[k] := gl_eq hkl
      obtain ⟨x, hx⟩ : ∃ x, gl L k = x := ⟨_, rfl⟩
      rw [hx] at e0 e1 e2 e3 hxl
      subst hA
      have HX := Lib.hid hxl
      have HF : mayk x = false → M = false := fun q => by
        rw [HA.out]
        refine Bool.eq_false_iff.2 fun h => ?_
        have := List.all_eq_true.1 h L[k] (List.getElem_mem hkl)
        rw [← HX.out, q] at this
        cases this
      obtain ⟨W1, hW1⟩ : ∃ V, wr.alloc (.cells #[Value.int .i64 x.k, .int .u32 x.i, .int .u32 x.d, .int .i64 x.c] 69) = V := ⟨_, rfl⟩
      have b1 : Below wr.heap.size wr W1 := by rw [← hW1]; exact below_alloc1 _ _
      obtain ⟨y0, y1, y2, y3⟩ := kb4_new hW1 (Below.refl _ _)
      have HB1 : Hid (Below W0.heap.size W0 W1) := Lib.hid (hb.out.trans (b1.mono hb.out.size))
      have HBF : Hid (Below w.heap.size w W1) := Lib.hid (HB.out.trans (HB1.out.mono HB.out.size))
      clear hx hxl b1
      by_cases g0 : x.k < 1
      · have E9 : Hid (M = false) := Lib.hid (HF (by simp [mayk, win]; omega))
        clear HF HX hkl
        go_wp2
        go_ret
        exact ⟨ret_bool E9.out.symm, HBF.out⟩
      by_cases g1 : x.k > 4
      · have E9 : Hid (M = false) := Lib.hid (HF (by simp [mayk, win]; omega))
        clear HF HX hkl
        go_wp2
        go_ret
        exact ⟨ret_bool E9.out.symm, HBF.out⟩
      by_cases g2 : x.c < 0
      · have E9 : Hid (M = false) := Lib.hid (HF (by simp [mayk, win]; omega))
        clear HF HX hkl
        go_wp2
        go_ret
        exact ⟨ret_bool E9.out.symm, HBF.out⟩
      by_cases g3 : x.c > 65535
      · have E9 : Hid (M = false) := Lib.hid (HF (by simp [mayk, win]; omega))
        clear HF HX hkl
        go_wp2
        go_ret
        exact ⟨ret_bool E9.out.symm, HBF.out⟩
      have HP : Hid (∀ i (hi : i < L.length), i < k + 1 → mayk L[i] = true) := Lib.hid (fun i hi hik => by
        rcases Nat.lt_or_ge i k with q | q
        · exact hp.out i hi q
        · obtain rfl : i = k := by omega
          rw [← HX.out]
          exact (mayk_iff x).2 ⟨⟨by omega, by omega⟩, by omega, by omega⟩)
      clear HF HX hkl hp
      go_wp2
      go_roundg gf
      case measure => omega
      case rel => exact ⟨k + 1, by go_num, Lib.hid (by omega), HP, HB1⟩
end Go.Proofs.Ytmgfcpbeammopaa
