/-
  The contract of slices.Concat at bytes. No statement is proved here; no conditions.
-/
import Derived.Test.YtadcicmccdphkaaMr
import Derived.Test.YtadcicmccdphkaaLeaf
import Derived.Lib.AppendZerosOnto
import Derived.Deep.LoopGhost
namespace Go.Proofs.Ytadcicmccdphkaa
open Go.RowKit Go.Joins

theorem alloc_at (w : World) (o : Obj) (n : Nat) (h : n = w.heap.size) : (w.alloc o).heap[n]? = some o := by
  subst h
  show (w.heap.push o)[w.heap.size]? = some o
  simp
theorem alloc_lt (w : World) (o : Obj) (n : Nat) (h : n < w.heap.size) : (w.alloc o).heap[n]? = w.heap[n]? := by
  show (w.heap.push o)[n]? = w.heap[n]?
  rw [Array.getElem?_push_lt h, Array.getElem?_eq_getElem h]
/-- The bytes l are read at A. -/
abbrev Bt (w : World) (A : Option Addr) (l : List Int) : Prop := Bs .u8 w w.heap.size A l
theorem Bs.step {k : IntKind} {w w' : World} {A : Option Addr} {l : List Int} (h : Bs k w w.heap.size A l) (hb : Below w.heap.size w w') : Bs k w' w'.heap.size A l := (h.below hb).more hb.size
/-- A piece: where it lies, its room, its bytes. -/
structure Pc where
  a : Option Addr
  c : Nat
  l : List Int
abbrev pv (p : Pc) : Value := .slice p.a p.l.length p.c
def gp (ps : List Pc) (k : Nat) : Pc := ps.getD k ⟨none, 0, []⟩
theorem gp_eq {ps : List Pc} {k : Nat} (h : k < ps.length) : gp ps k = ps[k] := by simp [gp, List.getD, h]
/-- All bytes of the pieces. -/
def cat : List Pc → List Int
  | [] => []
  | p :: ps => p.l ++ cat ps
theorem cat_append (a b : List Pc) : cat (a ++ b) = cat a ++ cat b := by
  induction a with
  | nil => rfl
  | cons p a ih => simp [cat, ih]
theorem cat_take {ps : List Pc} {k : Nat} (h : k < ps.length) : cat (ps.take (k + 1)) = cat (ps.take k) ++ (gp ps k).l := by
  rw [List.take_succ_eq_append_getElem h, cat_append, gp_eq h]
  simp [cat]
theorem cat_le (ps : List Pc) (k : Nat) : (cat (ps.take k)).length ≤ (cat ps).length := by
  have := cat_append (ps.take k) (ps.drop k)
  rw [List.take_append_drop] at this
  rw [this, List.length_append]
  omega
/-- The pieces lie at A, in a row. -/
def Ps (w : World) (A : Option Addr) (ps : List Pc) : Prop := ps ≠ [] → ∃ b off, A = some ⟨b, off, none⟩ ∧ b < w.heap.size ∧ ∀ i, i < ps.length → w.cell? ⟨b, off + i, none⟩ = some (pv (gp ps i))
theorem Ps.step {w w' : World} {A : Option Addr} {ps : List Pc} (h : Ps w A ps) (hb : Below w.heap.size w w') : Ps w' A ps := fun hn => by
  obtain ⟨b, off, e, hlt, hc⟩ := h hn
  exact ⟨b, off, e, Nat.lt_of_lt_of_le hlt hb.size, fun i hi => (hb.cell (p := ⟨b, off + i, none⟩) hlt).trans (hc i hi)⟩
theorem Ps.at {w : World} {A : Option Addr} {ps : List Pc} (h : Ps w A ps) {k : Nat} (hk : k < ps.length) : ∃ b off, A = some ⟨b, off, none⟩ ∧ b < w.heap.size ∧ w.cell? ⟨b, off + k, none⟩ = some (pv (gp ps k)) := by
  obtain ⟨b, off, e, hlt, hc⟩ := h (by rintro rfl; simp at hk)
  exact ⟨b, off, e, hlt, hc k hk⟩
theorem Ps.lit (w : World) (e : TypeId) (ps : List Pc) : Ps (w.alloc (.cells (ps.map pv).toArray e)) (some ⟨w.heap.size, 0, none⟩) ps := fun _ => by
  refine ⟨w.heap.size, 0, rfl, by simp, fun i hi => ?_⟩
  rw [cell_of_block (alloc_at w _ _ rfl), gp_eq hi]
  simp [hi]
theorem zc_size (k : Nat) : (Builtin.zeroCells (Value.int .u8 0).cells k).size = k := by
  simp [Builtin.zeroCells, Value.cells]
set_option maxRecDepth 100000 in
theorem grow_any (n : Nat) (w : World) (hn : n ≤ 1000000) :
    Calls Try.prog 73 #[.slice none 0 0, .int .i64 (n : Int)] w fun e w' => ∃ A' c', e = .returned (.slice A' 0 c') ∧ Own .u8 5 w' w.heap.size A' c' [] ∧ Below w.heap.size w w' := by
  have h1 : ¬ ((n : Int) < 0) := by omega
  have h2 : wrap64 (n : Int) = (n : Int) := by unfold wrap64; omega
  by_cases h0 : n = 0
  · subst h0
    go_enter Try.func73, Try.ntmps73
    go_wp2
    go_ret
    exact ⟨none, 0, rfl, Own.nil _ _, Below.refl _ _⟩
  · obtain ⟨i, hi, hz, hsz, hby⟩ := info_of info5
    have h4 : (n : Int) > 0 := by omega
    have hold : (Builtin.firstCells 1 0 (.slice none 0 0)).run Try.prog w.drew = .ok (([] : List Value).toArray) w.drew := run_firstCells_none w.drew 1 0 0 0
    obtain ⟨G, hG⟩ : ∃ G, G = grownCap w n 0 5 := ⟨_, rfl⟩
    have hGn : n ≤ G := hG ▸ grownCap_ge w _ _ _
    have hGm : G ≤ maxLen := hG ▸ grownCap_le_maxLen w _ _ _ (by unfold maxLen; omega)
    obtain ⟨Z, hZ⟩ : ∃ Z, Z = ([] : List Value).toArray ++ Builtin.zeroCells (Value.int .u8 0).cells n ++ Builtin.zeroCells (Value.int .u8 0).cells (G - n) := ⟨_, rfl⟩
    have hrun : ∀ ty, (Builtin.append_ #[32, 3] ty #[.slice none 0 0, .int .i64 (n : Int)]).run Try.prog w = .ok (.slice (some ⟨w.heap.size, 0, none⟩) n G) (w.drew.alloc (.cells Z 5)) := fun ty => by
      have hx := Lib.run_append_grow_zeros w 32 3 ty 5 i _ .i64 .i64 Try.underlying32 Try.underlying3 hi hz none 0 0 [] (by rw [hsz]; exact hold) n (by omega) (by omega) (by omega) (by omega) (by rw [hby]; omega)
        (by rw [hby, Nat.zero_add]; exact growslice_fits (by omega) (by omega))
      rw [Nat.zero_add, ← hG, ← hZ] at hx
      exact hx
    have hRw : Hid (Own .u8 5 (w.drew.alloc (.cells Z 5)) w.heap.size (some ⟨w.heap.size, 0, none⟩) G []) := by
      refine Lib.hid (Own.of_form (g := w.heap.size) (cur := Z) (Nat.le_refl _) (Go.heap_alloc_new w.drew _) (by simp) hGm ?_ (by simp))
      rw [hZ]; simp only [Array.size_append, zc_size]; simp; omega
    have hG63 : (G : Int) ≤ 9223372036854775807 := by unfold maxLen at hGm; omega
    clear hold hG hZ hi hz hsz hby hGm
    go_enter Try.func73, Try.ntmps73
    go_wp2_with (at_builtin; refine Lib.wpList_append_run _ rfl _ _ _ _ rfl _ _ rfl rfl _ _ (hrun _) ?_)
    all_goals go_ret
    all_goals exact ⟨_, G, rfl, hRw.out, (Below.refl _ w).drew.alloc (Nat.le_refl _) _⟩
set_option maxRecDepth 100000 in
theorem concat_any (P0 : Option Addr) (pc : Nat) (ps : List Pc) (w : World) (hP : Ps w P0 ps) (hr : ∀ p ∈ ps, Bt w p.a p.l) (hpl : ps.length ≤ 100) (hll : (cat ps).length ≤ 10000) :
    Calls Try.prog 54 #[.slice P0 ps.length pc] w fun e w' => ∃ A' c', e = .returned (.slice A' (cat ps).length c') ∧ Own .u8 5 w' w.heap.size A' c' (cat ps) ∧ Below w.heap.size w w' := by
  have HP := Lib.hid hP
  have HR := Lib.hid hr
  obtain ⟨ln, hln⟩ : ∃ ln, ps.length = ln := ⟨_, rfl⟩
  have HLN := Lib.hid hln
  rw [hln] at hpl ⊢
  have HLL := Lib.hid hll
  clear hP hr hln hll
  go_enter Try.func54, Try.ntmps54
  go_wp2_with fail
  go_loopg [3, 11] ln (fun gf v3 v11 wx => ∃ (k m : Nat), v3 = .int .i64 (m : Int) ∧ v11 = .int .i64 (k : Int) ∧ Hid (gf + k = ln) ∧ Hid (m = (cat (ps.take k)).length) ∧ wx = w)
  case atStart => exact ⟨0, 0, rfl, rfl, Lib.hid (by omega), Lib.hid (by simp [cat]), rfl⟩
  case round =>
    obtain ⟨k, m, rfl, rfl, hk, hm, hwx⟩ := hrel
    replace hwx := hwx.symm
    subst hwx
    have hk' := hk.out
    have hm2 : m ≤ 10000 := by have := hm.out; have := cat_le ps k; have := HLL.out; omega
    cases gk with
    | succ gf =>
      have hkl : k < ps.length := by rw [HLN.out]; omega
      have lt0 : (k : Int) < (ln : Int) := by omega
      have hw1 : (k : Int) + 1 ≤ 10000 := by omega
      obtain ⟨b, off, hA, _, e0⟩ := HP.out.at hkl
      obtain ⟨x, hx⟩ : ∃ x, gp ps k = x := ⟨_, rfl⟩
      have hn : m + x.l.length = (cat (ps.take (k + 1))).length := by rw [cat_take hkl, List.length_append, ← hm.out, hx]
      have hn2 : m + x.l.length ≤ 10000 := by rw [hn]; have := cat_le ps (k + 1); have := HLL.out; omega
      rw [hx] at e0
      have HN := Lib.hid hn
      subst hA
      clear hx hn hkl
      obtain ⟨xn, hxn⟩ : ∃ xn, x.l.length = xn := ⟨_, rfl⟩
      have e1 : w.cell? ⟨b, off + k, none⟩ = some (.slice x.a xn x.c) := by rw [← hxn]; exact e0
      have HXN := Lib.hid hxn
      rw [hxn] at hn2
      clear e0 hxn
      have hn3 : ¬ ((m : Int) + (xn : Int) < 0) := by omega
      go_wp2
      go_roundg gf
      case measure => omega
      case rel => exact ⟨k + 1, m + xn, by go_num, by go_num, Lib.hid (by omega), Lib.hid (by rw [← HXN.out]; exact HN.out), rfl⟩
    | zero =>
      have e1 : k = ln := by omega
      have lt0 : decide ((k : Int) < (ln : Int)) = false := by simp; omega
      have lt1 : decide (k < ln) = false := by simp; omega
      go_wp2_with fail
      refine (grow_any m _ (by omega)).mono ?_
      rintro e W1 ⟨A1, c1, rfl, o1, b1⟩
      have O1 := Lib.hid o1
      have B1 := Lib.hid b1
      clear o1 b1
      go_wp2_with fail
      go_loopg [6, 27] ln (fun gf v6 v27 wx => ∃ (j n : Nat) (A' : Option Addr) (c' : Nat), v6 = .slice A' n c' ∧ v27 = .int .i64 (j : Int) ∧ Hid (gf + j = ln) ∧ Hid (n = (cat (ps.take j)).length) ∧ Hid (Own .u8 5 wx w.heap.size A' c' (cat (ps.take j))) ∧ Hid (Below w.heap.size w wx))
      case atStart => exact ⟨0, 0, A1, c1, rfl, rfl, Lib.hid (by omega), Lib.hid (by simp [cat]), O1, B1⟩
      case round =>
        obtain ⟨j, n, A2, c2, rfl, rfl, hj, hn, ho, hb⟩ := hrel
        have hj' := hj.out
        clear O1 B1
        cases gk with
        | zero =>
          have e1 : j = ln := by omega
          have lt0 : decide ((j : Int) < (ln : Int)) = false := by simp; omega
          have lt1 : decide (j < ln) = false := by simp; omega
          go_wp2
          go_ret
          have e2 : ps.take j = ps := by rw [e1, ← HLN.out]; exact List.take_length
          have h1 := hn.out
          have h2 := ho.out
          rw [e2] at h1 h2
          refine ⟨A2, c2, ?_, h2, hb.out⟩
          rw [h1]
          rfl
        | succ gf =>
          have hkl : j < ps.length := by rw [HLN.out]; omega
          have lt0 : (j : Int) < (ln : Int) := by omega
          have hw1 : (j : Int) + 1 ≤ 10000 := by omega
          have hsz := hb.out.size
          obtain ⟨b, off, hA, _, e0⟩ := (HP.out.step hb.out).at hkl
          have hx2 := Bs.step (HR.out (gp ps j) (by rw [gp_eq hkl]; exact List.getElem_mem _)) hb.out
          obtain ⟨x, hx⟩ : ∃ x, gp ps j = x := ⟨_, rfl⟩
          have hc := cat_take hkl
          have hm1 : n + x.l.length = (cat (ps.take (j + 1))).length := by rw [hc, List.length_append, ← hn.out, hx]
          have hm2 : n + x.l.length ≤ 10000 := by rw [hm1]; have := cat_le ps (j + 1); have := HLL.out; omega
          rw [hx] at e0 hx2 hc
          subst hA
          clear hx hkl
          obtain ⟨xn, hxn⟩ : ∃ xn, x.l.length = xn := ⟨_, rfl⟩
          have e1 : wr.cell? ⟨b, off + j, none⟩ = some (.slice x.a xn x.c) := by rw [← hxn]; exact e0
          have HC := Lib.hid hc
          have HM := Lib.hid hm1
          have HXN := Lib.hid hxn
          obtain ⟨ti, hi5, hz5, hsz5, hby5⟩ := info_of info5
          obtain ⟨A3, c3, W3, r1, r2, r3⟩ := run_app (P := Try.prog) wr w.heap.size 32 32 5 .u8 ti _ 1 Try.underlying32 hi5 hz5 hsz5 hby5 rfl A2 c2 _ ho.out _ x.a x.c x.l hx2 (by rw [← hn.out]; unfold maxLen; omega) (by rw [← hn.out]; omega) hsz
          have HO : Hid (Own .u8 5 W3 w.heap.size A3 c3 (cat (ps.take (j + 1)))) := Lib.hid (by rw [HC.out]; exact r2)
          have HB : Hid (Below w.heap.size w W3) := Lib.hid (hb.out.trans r3)
          have hr1 : (Builtin.append_ #[32, 32] 32 #[.slice A2 n c2, .slice x.a xn x.c]).run Try.prog wr = .ok (.slice A3 (n + xn) c3) W3 := by
            rw [List.length_append, ← hn.out, hxn] at r1
            exact r1
          rw [hxn] at hm2
          clear e0 hc hm1 hxn hx2 hi5 hz5 hsz5 hby5 r1 r2 r3 ho hb
          go_wp2_with (at_builtin; refine wpList_runb _ rfl (.tmp 31) (.tmp 32) 32 rfl rfl rfl hr1 ?_)
          go_wp2
          go_roundg gf
          case measure => omega
          case rel => exact ⟨j + 1, n + xn, _, c3, by go_num, by go_num, Lib.hid (by omega), Lib.hid (by rw [← HM.out, HXN.out]), HO, HB⟩
end Go.Proofs.Ytadcicmccdphkaa
