/-
  Contracts of plain and rows, of the reference's Same and Ints at rows that are alike, of its Drop and Eval. No statement is proved here; no conditions.
-/
import Derived.Test.YtkofpijhihghpaaDoorIdl
import Derived.Test.YtkofpijhihghpaaDoorRg
import Derived.Laws.StructEq
namespace Go.Proofs.YtkofpijhihghpaaDoor
open Go.RowKit Go.Joins

theorem plain_any (x : Ru) (w : World) : Calls Tryd.prog 13 #[rv x] w fun e w' => e = .returned (rv x) ∧ Below w.heap.size w w' := by
  have hb := below_alloc2 w (.cells #[.int .i64 x.s, .bool x.p, .int .u32 (x.A : Int), .int .i64 x.N, .int .i64 x.g, .int .i64 x.l] 26) (.cells #[.int .i64 x.s, .bool x.p, .int .u32 (x.A : Int), .int .i64 x.N, .int .i64 x.g, .int .i64 x.l] 34)
  go_enter Tryd.func13, Tryd.ntmps13
  go_wp2
  refine bodyPost_ret (v := rv x) (by simp [results, Tryd.results13, go_sem]) rfl ⟨rfl, ?_⟩
  exact hb
/-- One rule more. -/
theorem ru_app {S : Nat → Prop} {w : World} {A : Option Addr} {c n : Nat} {L : List Ru} (h : Ob 34 6 S w A c (rflat L)) (hn : L.length = n) (hl : n ≤ 100000) (x : Ru) (n0 : Nat) (hn0 : w.heap.size = n0) :
    ∃ g' c' w', (Builtin.append_ #[44, 44] 44 #[.slice A n c, .slice (some ⟨n0, 0, none⟩) 1 1]).run Tryd.prog (w.alloc (.cells #[.int .i64 x.s, .bool x.p, .int .u32 (x.A : Int), .int .i64 x.N, .int .i64 x.g, .int .i64 x.l] 34)) = .ok (.slice (some ⟨g', 0, none⟩) (n + 1) c') w' ∧ Rg 34 6 w' g' c' (rflat (L ++ [x])) ∧ Kp S w w' ∧ (S g' ∨ n0 < g') := by
  obtain ⟨ti, hi5, hz5, hsz5, hby5⟩ := info34
  have := app_one (P := Tryd.prog) Tryd.underlying44 hi5 hz5 hsz5 hby5 rfl (by omega) (by omega) h (n := n) (by rw [rflat_length, hn]) (rflat [x]) rfl (rflat_one _) (by omega) n0 hn0
  rw [rflat_append]
  exact this
theorem Ob.lit0 (w : World) (e : TypeId) (sz : Nat) : Ob e sz (w.heap.size ≤ ·) (w.alloc (.cells #[] e)) (some ⟨w.heap.size, 0, none⟩) 0 [] := .inr ⟨w.heap.size, Nat.le_refl _, rfl, Rg.lit w e sz 0 #[] [] rfl (by simp) (by unfold maxLen; omega)⟩
theorem take_next {l : List Ru} {k : Nat} (h : k < l.length) : l.take (k + 1) = l.take k ++ [gr l k] := by rw [List.take_succ_eq_append_getElem h, gr_eq h]
/-- A list comes back. -/
def Rws (w : World) (L : List Ru) (e : Ending) (w' : World) : Prop := ∃ A' c', e = .returned (.slice A' L.length c') ∧ Sl w' A' c' L ∧ Below w.heap.size w w'
set_option maxRecDepth 100000 in
theorem rows_any (A0 : Option Addr) (c : Nat) (l : List Ru) (w : World) (hl : Rr w A0 l) (hll : l.length ≤ 10000) :
    Calls Tryd.prog 19 #[.slice A0 l.length c] w fun e w' => Rws w l e w' := by
  have HL := Lib.hid hl
  obtain ⟨ln, hln⟩ : ∃ ln, l.length = ln := ⟨_, rfl⟩
  rw [hln] at hll ⊢
  have HLN := Lib.hid hln
  obtain ⟨W0, hW0⟩ : ∃ W0, w.alloc (.cells #[] 34) = W0 := ⟨_, rfl⟩
  have O0 : Hid (Ob 34 6 (w.heap.size ≤ ·) W0 (some ⟨w.heap.size, 0, none⟩) 0 []) := Lib.hid (by rw [← hW0]; exact Ob.lit0 w 34 6)
  have B0 : Hid (Below w.heap.size w W0) := Lib.hid (by rw [← hW0]; exact below_alloc1 _ _)
  clear hl hln
  go_enter Tryd.func19, Tryd.ntmps19
  go_wp2_with fail
  clear hW0
  go_loopg [3, 4] ln (fun gf v3 v4 wx => ∃ (k : Nat) (A' : Option Addr) (c' : Nat), v3 = .slice A' k c' ∧ v4 = .int .i64 (k : Int) ∧ Hid (gf + k = ln) ∧ Hid (Ob 34 6 (w.heap.size ≤ ·) wx A' c' (rflat (l.take k))) ∧ Hid (Below w.heap.size w wx))
  case atStart => exact ⟨0, _, _, rfl, rfl, Lib.hid (by omega), O0, B0⟩
  case round =>
    obtain ⟨k, A', c', rfl, rfl, hk, ho, hb⟩ := hrel
    have hk' := hk.out
    clear O0 B0
    cases gk with
    | zero =>
      have e1 : k = ln := by omega
      have lt0 : decide ((k : Int) < (ln : Int)) = false := by simp; omega
      have lt1 : decide (k < ln) = false := by simp; omega
      go_wp2
      go_ret
      have h2 := ho.out
      rw [e1, ← HLN.out, List.take_length] at h2
      refine ⟨A', c', ?_, h2.sl, hb.out⟩
      rw [HLN.out, ← e1]
      rfl
    | succ gf =>
      have hkl : k < l.length := by rw [HLN.out]; omega
      have lt0 : (k : Int) < (ln : Int) := by omega
      have hw1 : (k : Int) + 1 ≤ 10000 := by omega
      obtain ⟨b, off, hA, _, e0, e1, e2, e3, e4, e5⟩ := (HL.out.step hb.out).at hkl
      have hst := take_next hkl
      have hlk : (l.take k).length = k := by simp; omega
      obtain ⟨x, hx⟩ : ∃ x, gr l k = x := ⟨_, rfl⟩
      rw [hx] at e0 e1 e2 e3 e4 e5 hst
      subst hA
      have HST := Lib.hid hst
      have HLK := Lib.hid hlk
      clear hx hst hkl hlk
      go_wp2_with fail
      refine (plain_any x _).mono ?_
      rintro e W1 ⟨rfl, hb1⟩
      have HB1 : Hid (Below w.heap.size w W1) := Lib.hid (hb.out.trans (hb1.mono hb.out.size))
      have O1 := Lib.hid (ho.out.below hb1)
      clear hb1 e0 e1 e2 e3 e4 e5 hb ho
      obtain ⟨m, hm⟩ : ∃ m, W1.heap.size = m := ⟨_, rfl⟩
      have hsz := HB1.out.size
      obtain ⟨g', c2, W3, r1, r2, r3, r4⟩ := ru_app O1.out HLK.out (by omega) x m hm
      have HO : Hid (Ob 34 6 (w.heap.size ≤ ·) W3 (some ⟨g', 0, none⟩) c2 (rflat (l.take (k + 1)))) := Lib.hid (by rw [HST.out]; exact Ob.next r2 r4 (by omega))
      have HB3 : Hid (Below w.heap.size w W3) := Lib.hid (HB1.out.trans (r3.below (fun _ h => h) hsz))
      clear r2 r3 r4 O1 HB1 HST
      go_wp2_with (at_builtin; refine wpList_runb _ rfl (.tmp 12) (.tmp 18) 44 rfl rfl rfl r1 ?_)
      go_wp2
      go_roundg gf
      case measure => omega
      case rel => exact ⟨k + 1, _, c2, by go_num, by go_num, Lib.hid (by omega), HO, HB3⟩
set_option maxRecDepth 100000 in
theorem same_any (A0 B0 : Option Addr) (c d : Nat) (l : List Ru) (w : World) (hl : Rr w A0 l) (hm : Rr w B0 l) (hll : l.length ≤ 10000) :
    Calls Tryd.prog 26 #[.slice A0 l.length c, .slice B0 l.length d] w fun e w' => e = .returned (.bool true) ∧ Below w.heap.size w w' := by
  have HL := Lib.hid hl
  have HM := Lib.hid hm
  obtain ⟨ln, hln⟩ : ∃ ln, l.length = ln := ⟨_, rfl⟩
  rw [hln] at hll ⊢
  have HLN := Lib.hid hln
  clear hl hm hln
  go_enter Tryd.func26, Tryd.ntmps26
  go_wp2_with fail
  go_loopg [5] ln (fun gf v wx => ∃ (k : Nat), v = .int .i64 (k : Int) ∧ Hid (gf + k = ln) ∧ Hid (Below w.heap.size w wx))
  case atStart => exact ⟨0, rfl, Lib.hid (by omega), Lib.hid (Below.refl _ _)⟩
  case round =>
    obtain ⟨k, rfl, hk, hb⟩ := hrel
    have hk' := hk.out
    cases gk with
    | zero =>
      have lt0 : decide ((k : Int) < (ln : Int)) = false := by simp; omega
      have lt1 : decide (k < ln) = false := by simp; omega
      go_wp2
      go_ret
      exact ⟨rfl, hb.out⟩
    | succ gf =>
      have hkl : k < l.length := by rw [HLN.out]; omega
      have lt0 : (k : Int) < (ln : Int) := by omega
      have hw1 : (k : Int) + 1 ≤ 10000 := by omega
      obtain ⟨b, off, hA, _, e0, e1, e2, e3, e4, e5⟩ := (HL.out.step hb.out).at hkl
      obtain ⟨b', off', hB, _, f0, f1, f2, f3, f4, f5⟩ := (HM.out.step hb.out).at hkl
      obtain ⟨⟨s, p, A, N, g, h⟩, hx⟩ : ∃ x, gr l k = x := ⟨_, rfl⟩
      rw [hx] at e0 e1 e2 e3 e4 e5 f0 f1 f2 f3 f4 f5
      simp only at e0 e1 e2 e3 e4 e5 f0 f1 f2 f3 f4 f5
      subst hA hB
      clear hx hkl
      go_wp2_with fail
      go_quiet (fail)
      have HB3 := Lib.hid (hb.out.trans (below_draws _ wr nq))
      clear hb e0 e1 e2 e3 e4 e5 f0 f1 f2 f3 f4 f5
      generalize wr.drewN nq = wq at *
      go_wp2
      go_roundg gf
      case measure => omega
      case rel => exact ⟨k + 1, by go_num, Lib.hid (by omega), HB3⟩
theorem Rd.int_at {S : Nat → Prop} {w : World} {A : Option Addr} {l : List Int} (h : Rd S w A (its l)) {k : Nat} (hk : k < l.length) : ∃ b off, A = some ⟨b, off, none⟩ ∧ w.cell? ⟨b, off + k, none⟩ = some (.int .i64 (l.getD k 0)) := by
  have hne : its l ≠ [] := by
    intro e
    have := congrArg List.length e
    simp at this
    rw [this] at hk
    simp at hk
  obtain ⟨b, off, rfl, _, _, hc⟩ := h hne
  exact ⟨b, off, rfl, hc k _ (by simp [hk, List.getD])⟩
set_option maxRecDepth 100000 in
theorem ints_any (A1 A2 : Option Addr) (c1 c2 : Nat) (l : List Int) (w : World) (h1 : Rd (fun _ => True) w A1 (its l)) (h2 : Rd (fun _ => True) w A2 (its l)) (hl : l.length ≤ 100000) :
    Calls Tryd.prog 27 #[.slice A1 l.length c1, .slice A2 l.length c2] w fun e w' => e = .returned (.bool true) ∧ Below w.heap.size w w' := by
  have R1 := Lib.hid h1
  have R2 := Lib.hid h2
  clear h1 h2
  go_enter Tryd.func27, Tryd.ntmps27
  go_wp2_with fail
  go_loopg [5] l.length (fun gf v wx => ∃ k nd, v = .int .i64 ((k : Nat) : Int) ∧ Hid (gf + k = l.length) ∧ wx = w.drewN nd)
  case atStart => exact ⟨0, 0, rfl, Lib.hid (by omega), rfl⟩
  case round =>
    obtain ⟨k, nd, rfl, hk, rfl⟩ := hrel
    have hk' := hk.out
    cases gk with
    | zero =>
      have lt0 : decide ((k : Int) < (l.length : Int)) = false := by simp; omega
      go_wp2
      go_ret
      exact ⟨rfl, rfl, rfl, rfl, Nat.le_refl _, fun _ _ => rfl⟩
    | succ gf =>
      have hkl : k < l.length := by omega
      have lt0 : (k : Int) < (l.length : Int) := by omega
      obtain ⟨b, off, rfl, e0⟩ := R1.out.int_at hkl
      obtain ⟨b', off', rfl, f0⟩ := R2.out.int_at hkl
      go_wp2_with fail
      go_quiet (fail)
      go_wp2
      go_roundg gf
      case measure => omega
      case rel => exact ⟨k + 1, _, by go_num, Lib.hid (by omega), rfl⟩
end Go.Proofs.YtkofpijhihghpaaDoor
