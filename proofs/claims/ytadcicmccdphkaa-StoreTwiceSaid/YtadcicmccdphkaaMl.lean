/-
  Whether a router's body may be: slices.IndexFunc and slices.ContainsFunc at links, body.mayRouter, and the reference's MayRouter. No statement is proved here; no conditions.
-/
import Derived.Test.YtadcicmccdphkaaBd
import Derived.Deep.LoopGhost
namespace Go.Proofs.Ytadcicmccdphkaa
open Go.RowKit Go.Joins

/-- The place of the first one that is so, or -1. -/
def fix {α : Type} (pr : α → Bool) (l : List α) : Int := if l.findIdx pr < l.length then (l.findIdx pr : Int) else -1
theorem fix_none {α : Type} {pr : α → Bool} {l : List α} (h : ∀ x ∈ l, pr x = false) : fix pr l = -1 := by
  unfold fix
  rw [if_neg]
  have := List.findIdx_eq_length.2 h
  omega
theorem fix_at {α : Type} {pr : α → Bool} {l : List α} {k : Nat} (hk : k < l.length) (h : ∀ i (hi : i < k), pr (l[i]'(by omega)) = false) (ht : pr l[k] = true) : fix pr l = k := by
  unfold fix
  have e : l.findIdx pr = k := (List.findIdx_eq hk).2 ⟨ht, fun j hj => h j hj⟩
  rw [e, if_pos hk]
theorem fix_any {α : Type} (pr : α → Bool) (l : List α) : decide (fix pr l ≥ 0) = l.any pr := by
  unfold fix
  rw [Bool.eq_iff_iff, decide_eq_true_eq, List.any_eq_true]
  rw [show (∃ x, x ∈ l ∧ pr x = true) ↔ l.findIdx pr < l.length from List.findIdx_lt_length.symm]
  split
  · rename_i h; simp [h]
  · rename_i h; simp [h]
theorem enters_wrong (args : Array Value) (w' : World) : (callFunc 91 args).run Try.prog w' = .ok (.enter 91 args) w' := by simp [callFunc, Try.func91, Try.f91, mark]
set_option maxRecDepth 100000 in
theorem lix_any (A0 : Option Addr) (n c : Nat) (L : List Lk) (w : World) (hn : L.length = n) (hl : Lr w A0 L) (hll : n ≤ 10000) :
    Calls Try.prog 96 #[.slice A0 n c, .func (.func 91) #[] #[]] w fun e w' => e = .returned (.int .i64 (fix (fun x => !mayk x) L)) ∧ Below w.heap.size w w' := by
  have HL := Lib.hid hl
  have HLN := Lib.hid hn
  obtain ⟨R, hR⟩ : ∃ R, fix (fun x => !mayk x) L = R := ⟨_, rfl⟩
  rw [hR]
  have HR := Lib.hid hR
  clear hl hn hR
  go_enter Try.func96, Try.ntmps96
  go_wp2_with fail
  go_loopg [8] n (fun gf v wx => ∃ (k : Nat), v = .int .i64 (k : Int) ∧ Hid (gf + k = n) ∧ Hid (∀ i (hi : i < L.length), i < k → (!mayk L[i]) = false) ∧ Hid (Below w.heap.size w wx))
  case atStart => exact ⟨0, rfl, Lib.hid (by omega), Lib.hid (fun i _ hi => by omega), Lib.hid (Below.refl _ _)⟩
  case round =>
    obtain ⟨k, rfl, hk, hp, hb⟩ := hrel
    have hk' := hk.out
    cases gk with
    | zero =>
      have e1 : k = n := by omega
      have lt0 : decide ((k : Int) < (n : Int)) = false := by simp; omega
      have lt1 : decide (k < n) = false := by simp; omega
      go_wp2
      go_ret
      refine ⟨ret_int ?_, hb.out⟩
      rw [← HR.out, fix_none]
      intro x hx
      obtain ⟨i, hi, rfl⟩ := List.getElem_of_mem hx
      exact hp.out i hi (by have := HLN.out; omega)
    | succ gf =>
      have hkl : k < L.length := by rw [HLN.out]; omega
      have lt0 : (k : Int) < (n : Int) := by omega
      have hw1 : (k : Int) + 1 ≤ 10000 := by omega
      obtain ⟨b, off, hA, _, e0, e1, e2, e3⟩ := (HL.out.step hb.out).at hkl
      have hxl : gl L k = L[k] := gl_eq hkl
      obtain ⟨x, hx⟩ : ∃ x, gl L k = x := ⟨_, rfl⟩
      rw [hx] at e0 e1 e2 e3 hxl
      subst hA
      have see := wrong_any x wr
      have HX := Lib.hid hxl
      clear hx hxl
      have hf1 := enters_wrong #[lkv x] wr
      cases hpr : mayk x with
      | false =>
        rw [hpr] at see
        have E9 : Hid (R = (k : Int)) := Lib.hid (by rw [← HR.out, fix_at hkl (fun i hi => hp.out i (by omega) hi) (by rw [← HX.out, hpr]; rfl)])
        clear HX hkl
        go_wp2_with fail
        refine see.mono ?_
        rintro e W2 ⟨rfl, hb2⟩
        go_wp2
        go_ret
        exact ⟨ret_int E9.out.symm, hb.out.trans (hb2.mono hb.out.size)⟩
      | true =>
        rw [hpr] at see
        have HN : Hid (∀ i (hi : i < L.length), i < k + 1 → (!mayk L[i]) = false) := Lib.hid (fun i hi hik => by
          rcases Nat.lt_or_ge i k with q | q
          · exact hp.out i hi q
          · obtain rfl : i = k := by omega
            rw [← HX.out, hpr]
            rfl)
        clear HX hkl
        go_wp2_with fail
        refine see.mono ?_
        rintro e W2 ⟨rfl, hb2⟩
        have HB2 := Lib.hid (hb.out.trans (hb2.mono hb.out.size))
        clear hb2 see hf1 e0 e1 e2 e3 hb
        go_wp2
        go_roundg gf
        case measure => omega
        case rel => exact ⟨k + 1, by go_num, Lib.hid (by omega), HN, HB2⟩
theorem lcf_any (A0 : Option Addr) (n c : Nat) (L : List Lk) (w : World) (hn : L.length = n) (hl : Lr w A0 L) (hll : n ≤ 10000) :
    Calls Try.prog 90 #[.slice A0 n c, .func (.func 91) #[] #[]] w fun e w' => e = .returned (.bool (!L.all mayk)) ∧ Below w.heap.size w w' := by
  have cf := lix_any A0 n c L w hn hl hll
  have he := fix_any (fun x => !mayk x) L
  rw [show L.any (fun x => !mayk x) = !L.all mayk by simp [List.not_all_eq_any_not]] at he
  generalize fix (fun x => !mayk x) L = R at *
  generalize (!L.all mayk) = E at *
  have HE := Lib.hid he
  clear hl he hn
  go_enter Try.func90, Try.ntmps90
  go_wp2_with fail
  refine cf.mono ?_
  rintro e W1 ⟨rfl, hb1⟩
  clear cf
  go_wp2
  go_ret
  exact ⟨ret_bool HE.out, hb1⟩
/-- Whether a router's body may be. -/
def mayR (f : Int) (L : List Lk) : Bool := win f 0 31 && (decide (L.length ≤ 100) && L.all mayk)
theorem mayR_iff (f : Int) (L : List Lk) : mayR f L = true ↔ (0 ≤ f ∧ f ≤ 31) ∧ L.length ≤ 100 ∧ ∀ x ∈ L, mayk x = true := by simp [mayR, win]
set_option maxRecDepth 100000 in
theorem mayR_any (f : Int) (A : Option Addr) (n c : Nat) (L : List Lk) (w : World) (hn : L.length = n) (hl : Lr w A L) (hll : n ≤ 10000) :
    Calls Try.prog 79 #[.agg #[.int .i64 f, .slice A n c]] w fun e w' => e = .returned (.bool (mayR f L)) ∧ Below w.heap.size w w' := by
  have HM : Hid (mayR f L = (win f 0 31 && (decide (n ≤ 100) && L.all mayk))) := Lib.hid (by unfold mayR; rw [hn])
  obtain ⟨W0, hW0⟩ : ∃ V, w.alloc (.cells #[.int .i64 f, .slice A n c] 76) = V := ⟨_, rfl⟩
  have bW0 : Below w.heap.size w W0 := by rw [← hW0]; exact below_alloc1 _ _
  have sW0 : W0.heap.size = w.heap.size + 1 := by rw [← hW0]; simp
  have KX : Hid (∀ V, Below W0.heap.size W0 V → V.cell? ⟨w.heap.size, 0, none⟩ = some (.int .i64 f) ∧ V.cell? ⟨w.heap.size, 1, none⟩ = some (.slice A n c)) := Lib.hid (fun V hV => kb2_new hW0 hV)
  obtain ⟨k0, k1⟩ := KX.out _ (Below.refl _ _)
  have c1 := fun V => ywithin_any f 0 31 V
  have c2 := lcf_any A n c L W0 hn (hl.step bW0) hll
  rw [HM.out]
  generalize win f 0 31 = T1 at *
  generalize L.all mayk = T2 at *
  clear HM KX hn hl
  cases T1
  · go_enter Try.func79, Try.ntmps79
    go_wp2_with fail
    refine (c1 _).mono ?_
    rintro e w1 ⟨rfl, rfl⟩
    go_wp2
    go_ret
    exact ⟨rfl, bW0⟩
  by_cases h1 : n ≤ 100
  · have d0 : decide ((n : Int) ≤ 100) = true := by simp; omega
    have d1 : decide (n ≤ 100) = true := by simpa using h1
    have d2 : (n : Int) ≤ 100 := by omega
    rw [d1]
    go_enter Try.func79, Try.ntmps79
    go_wp2_with fail
    refine (c1 _).mono ?_
    rintro e w1 ⟨rfl, rfl⟩
    go_wp2_with fail
    refine c2.mono ?_
    rintro e w2 ⟨rfl, u2⟩
    go_wp2
    go_ret
    exact ⟨ret_bool (by simp), bW0.trans (u2.mono bW0.size)⟩
  · have d0 : decide ((n : Int) ≤ 100) = false := by simp; omega
    have d1 : decide (n ≤ 100) = false := by simpa using h1
    have d2 : ¬ ((n : Int) ≤ 100) := by omega
    rw [d1]
    go_enter Try.func79, Try.ntmps79
    go_wp2_with fail
    refine (c1 _).mono ?_
    rintro e w1 ⟨rfl, rfl⟩
    go_wp2
    go_ret
    exact ⟨rfl, bW0⟩
end Go.Proofs.Ytadcicmccdphkaa
