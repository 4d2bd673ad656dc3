/-
  The contract of slices.Concat at rules. No statement is proved here; no conditions.
-/
import Derived.Test.YtkofpijhihghpaaDoorApp
namespace Go.Proofs.YtkofpijhihghpaaDoor
open Go.RowKit Go.Joins

/-- A slice of rules, with its room. -/
structure Sl (w : World) (A : Option Addr) (c : Nat) (l : List Ru) : Prop where
  rr : Rr w A l
  cap : l.length ≤ c
  nil : A = none → c = 0
  max : c ≤ 9223372036854775807
theorem Sl.step {w w' : World} {A : Option Addr} {c : Nat} {l : List Ru} (h : Sl w A c l) (k : Below w.heap.size w w') : Sl w' A c l := ⟨h.rr.step k, h.cap, h.nil, h.max⟩
theorem Sl.drew {w : World} {A : Option Addr} {c : Nat} {l : List Ru} (h : Sl w A c l) (n : Nat) : Sl (w.drewN n) A c l := ⟨h.rr, h.cap, h.nil, h.max⟩
theorem Ob.sl {e : TypeId} {S : Nat → Prop} {w : World} {A : Option Addr} {c : Nat} {l : List Ru} (h : Ob e 6 S w A c (rflat l)) : Sl w A c l := by
  refine ⟨h.rd, ?_, ?_, ?_⟩
  · rcases h with ⟨_, _, r3⟩ | ⟨g, _, _, r3⟩
    · have := rflat_length l
      rw [r3] at this
      simp at this
      omega
    · have h1 := r3.cap
      rw [rflat_length] at h1
      omega
  · rintro rfl
    rcases h with ⟨_, r, _⟩ | ⟨g, _, r, _⟩
    · exact r
    · cases r
  · rcases h with ⟨_, r, _⟩ | ⟨g, _, _, r3⟩
    · omega
    · have := r3.max
      unfold maxLen at this
      omega
/-- A piece: where it lies, its room, its rules. -/
structure Pc where
  a : Option Addr
  c : Nat
  l : List Ru
abbrev pv (p : Pc) : Value := .slice p.a p.l.length p.c
def gp (ps : List Pc) (k : Nat) : Pc := ps.getD k ⟨none, 0, []⟩
theorem gp_eq {ps : List Pc} {k : Nat} (h : k < ps.length) : gp ps k = ps[k] := by simp [gp, List.getD, h]
/-- All rules of the pieces. -/
def cat : List Pc → List Ru
  | [] => []
  | p :: ps => p.l ++ cat ps
theorem cat_append (a b : List Pc) : cat (a ++ b) = cat a ++ cat b := by
  induction a with
  | nil => rfl
  | cons p a ih => simp [cat, ih]
theorem cat_take {ps : List Pc} {k : Nat} (h : k < ps.length) : cat (ps.take (k + 1)) = cat (ps.take k) ++ (gp ps k).l := by
  rw [List.take_succ_eq_append_getElem h, cat_append, gp_eq h]
  simp [cat]
theorem cat_le (ps : List Pc) (k : Nat) : (cat (ps.take k)).length ≤ (cat ps).length := by
  have := cat_append (ps.take k) (ps.drop k)
  rw [List.take_append_drop] at this
  rw [this, List.length_append]
  omega
theorem Rd.piece {S : Nat → Prop} {w : World} {A : Option Addr} {ps : List Pc} (h : Rd S w A (ps.map pv)) {k : Nat} (hk : k < ps.length) : ∃ b off, A = some ⟨b, off, none⟩ ∧ w.cell? ⟨b, off + k, none⟩ = some (pv (gp ps k)) := by
  have hne : ps.map pv ≠ [] := by
    intro e
    have := congrArg List.length e
    simp at this
    rw [this] at hk
    simp at hk
  obtain ⟨b, off, rfl, _, _, hc⟩ := h hne
  exact ⟨b, off, rfl, hc k _ (by rw [gp_eq hk]; simp [hk])⟩
set_option maxRecDepth 100000 in
theorem concat_any (P0 : Option Addr) (pc : Nat) (ps : List Pc) (w : World) (hP : Rd (fun _ => True) w P0 (ps.map pv)) (hr : ∀ p ∈ ps, Rr w p.a p.l) (hpl : ps.length ≤ 100) (hll : (cat ps).length ≤ 10000) :
    Calls Tryd.prog 49 #[.slice P0 ps.length pc] w fun e w' => ∃ A' c', e = .returned (.slice A' (cat ps).length c') ∧ Sl w' A' c' (cat ps) ∧ Below w.heap.size w w' := by
  have HP := Lib.hid hP
  have HR := Lib.hid hr
  obtain ⟨ln, hln⟩ : ∃ ln, ps.length = ln := ⟨_, rfl⟩
  have HLN := Lib.hid hln
  rw [hln] at hpl ⊢
  have HLL := Lib.hid hll
  clear hP hr hln hll
  go_enter Tryd.func49, Tryd.ntmps49
  go_wp2_with fail
  go_loopg [3, 11] ln (fun gf v3 v11 wx => ∃ (k m : Nat), v3 = .int .i64 (m : Int) ∧ v11 = .int .i64 (k : Int) ∧ Hid (gf + k = ln) ∧ Hid (m = (cat (ps.take k)).length) ∧ wx = w)
  case atStart => exact ⟨0, 0, rfl, rfl, Lib.hid (by omega), Lib.hid (by simp [cat]), rfl⟩
  case round =>
    obtain ⟨k, m, rfl, rfl, hk, hm, hwx⟩ := hrel
    replace hwx := hwx.symm
    subst hwx
    have hk' := hk.out
    have hm2 : m ≤ 10000 := by have := hm.out; have := cat_le ps k; have := HLL.out; omega
    cases gk with
    | succ gf =>
      have hkl : k < ps.length := by rw [HLN.out]; omega
      have lt0 : (k : Int) < (ln : Int) := by omega
      have hw1 : (k : Int) + 1 ≤ 10000 := by omega
      obtain ⟨b, off, hA, e0⟩ := HP.out.piece hkl
      obtain ⟨x, hx⟩ : ∃ x, gp ps k = x := ⟨_, rfl⟩
      have hn : m + x.l.length = (cat (ps.take (k + 1))).length := by rw [cat_take hkl, List.length_append, ← hm.out, hx]
      have hn2 : m + x.l.length ≤ 10000 := by rw [hn]; have := cat_le ps (k + 1); have := HLL.out; omega
      rw [hx] at e0
      have HN := Lib.hid hn
      subst hA
      clear hx hn hkl
      obtain ⟨xn, hxn⟩ : ∃ xn, x.l.length = xn := ⟨_, rfl⟩
      have e1 : w.cell? ⟨b, off + k, none⟩ = some (.slice x.a xn x.c) := by rw [← hxn]; exact e0
      have HXN := Lib.hid hxn
      rw [hxn] at hn2
      clear e0 hxn
      have hn3 : ¬ ((m : Int) + (xn : Int) < 0) := by omega
      go_wp2
      go_roundg gf
      case measure => omega
      case rel => exact ⟨k + 1, m + xn, by go_num, by go_num, Lib.hid (by omega), Lib.hid (by rw [← HXN.out]; exact HN.out), rfl⟩
    | zero =>
      have e1 : k = ln := by omega
      have lt0 : decide ((k : Int) < (ln : Int)) = false := by simp; omega
      have lt1 : decide (k < ln) = false := by simp; omega
      go_wp2_with fail
      refine (grow_any m _ (by omega)).mono ?_
      rintro e W1 ⟨A1, c1, rfl, o1, b1⟩
      have O1 := Lib.hid o1
      have B1 := Lib.hid b1
      clear o1 b1
      go_wp2_with fail
      go_loopg [6, 27] ln (fun gf v6 v27 wx => ∃ (j n : Nat) (A' : Option Addr) (c' : Nat), v6 = .slice A' n c' ∧ v27 = .int .i64 (j : Int) ∧ Hid (gf + j = ln) ∧ Hid (n = (cat (ps.take j)).length) ∧ Hid (Ob 26 6 (w.heap.size ≤ ·) wx A' c' (rflat (cat (ps.take j)))) ∧ Hid (Below w.heap.size w wx))
      case atStart => exact ⟨0, 0, A1, c1, rfl, rfl, Lib.hid (by omega), Lib.hid (by simp [cat]), O1, B1⟩
      case round =>
        obtain ⟨j, n, A2, c2, rfl, rfl, hj, hn, ho, hb⟩ := hrel
        have hj' := hj.out
        clear O1 B1
        cases gk with
        | zero =>
          have e1 : j = ln := by omega
          have lt0 : decide ((j : Int) < (ln : Int)) = false := by simp; omega
          have lt1 : decide (j < ln) = false := by simp; omega
          go_wp2
          go_ret
          have e2 : ps.take j = ps := by rw [e1, ← HLN.out]; exact List.take_length
          have h1 := hn.out
          have h2 := ho.out
          rw [e2] at h1 h2
          refine ⟨A2, c2, ?_, h2.sl, hb.out⟩
          rw [h1]
          rfl
        | succ gf =>
          have hkl : j < ps.length := by rw [HLN.out]; omega
          have lt0 : (j : Int) < (ln : Int) := by omega
          have hw1 : (j : Int) + 1 ≤ 10000 := by omega
          have hsz := hb.out.size
          obtain ⟨b, off, hA, e0⟩ := (HP.out.keep hb.out.size (fun i _ hi => hb.out.block i hi)).piece hkl
          have hx2 := (HR.out (gp ps j) (by rw [gp_eq hkl]; exact List.getElem_mem _)).step hb.out
          obtain ⟨x, hx⟩ : ∃ x, gp ps j = x := ⟨_, rfl⟩
          have hc := cat_take hkl
          have hm1 : n + x.l.length = (cat (ps.take (j + 1))).length := by rw [hc, List.length_append, ← hn.out, hx]
          have hm2 : n + x.l.length ≤ 10000 := by rw [hm1]; have := cat_le ps (j + 1); have := HLL.out; omega
          rw [hx] at e0 hx2 hc
          subst hA
          clear hx hkl
          obtain ⟨xn, hxn⟩ : ∃ xn, x.l.length = xn := ⟨_, rfl⟩
          have e1 : wr.cell? ⟨b, off + j, none⟩ = some (.slice x.a xn x.c) := by rw [← hxn]; exact e0
          have HC := Lib.hid hc
          have HM := Lib.hid hm1
          have HXN := Lib.hid hxn
          rw [hxn] at hm2
          clear e0 hc hm1
          obtain ⟨ti, hi5, hz5, hsz5, hby5⟩ := info26
          rcases Nat.eq_zero_or_pos xn with q | q
          · subst q
            have hx0 : x.l = [] := List.eq_nil_of_length_eq_zero hxn
            have hcap : n ≤ c2 ∧ (A2 = none → c2 = 0) := by
              rcases ho.out with ⟨r1, r2, r3⟩ | ⟨g, r1, r2, r3⟩
              · refine ⟨?_, fun _ => r2⟩
                have := rflat_length (cat (ps.take j))
                rw [r3] at this
                have := hn.out
                simp at *
                omega
              · refine ⟨?_, fun h => by rw [h] at r2; cases r2⟩
                have h1 := r3.cap
                rw [rflat_length, ← hn.out] at h1
                omega
            have hrun := app_zero (P := Tryd.prog) wr 42 42 26 ti Tryd.underlying42 hi5 A2 c2 n x.a x.c hcap.1 hcap.2
            have HO : Hid (Ob 26 6 (w.heap.size ≤ ·) wr A2 c2 (rflat (cat (ps.take (j + 1))))) := Lib.hid (by rw [HC.out, hx0, List.append_nil]; exact ho.out)
            clear hxn hcap hx2 hi5 hz5 hsz5 hby5
            go_wp2_with (at_builtin; refine wpList_runb _ rfl (.tmp 31) (.tmp 32) 42 rfl rfl rfl hrun ?_)
            go_wp2
            go_roundg gf
            case measure => omega
            case rel => exact ⟨j + 1, n, A2, c2, rfl, by go_num, Lib.hid (by omega), Lib.hid (by rw [← HM.out, HXN.out]; rfl), HO, hb⟩
          · obtain ⟨g', c', W3, r1, r2, r3, r4⟩ := app_gen (P := Tryd.prog) Tryd.underlying42 hi5 hz5 hsz5 hby5 rfl (by omega) (by omega) ho.out (n := n) (by rw [rflat_length, ← hn.out]) x.a x.c xn (rflat x.l) hx2 (by rw [rflat_length, hxn]) (rflat_one _) q (by omega)
            have HO : Hid (Ob 26 6 (w.heap.size ≤ ·) W3 (some ⟨g', 0, none⟩) c' (rflat (cat (ps.take (j + 1))))) := Lib.hid (.inr ⟨g', by rcases r4 with q | q; exact q; show w.heap.size ≤ g'; omega, rfl, by rw [HC.out, rflat_append]; exact r2⟩)
            have HB : Hid (Below w.heap.size w W3) := Lib.hid (hb.out.trans (r3.below (fun _ h => h) hsz))
            clear hxn hx2 hi5 hz5 hsz5 hby5 r2 r3 r4 ho hb
            go_wp2_with (at_builtin; refine wpList_runb _ rfl (.tmp 31) (.tmp 32) 42 rfl rfl rfl r1 ?_)
            go_wp2
            go_roundg gf
            case measure => omega
            case rel => exact ⟨j + 1, n + xn, _, c', by go_num, by go_num, Lib.hid (by omega), Lib.hid (by rw [← HM.out, HXN.out]), HO, HB⟩
end Go.Proofs.YtkofpijhihghpaaDoor
