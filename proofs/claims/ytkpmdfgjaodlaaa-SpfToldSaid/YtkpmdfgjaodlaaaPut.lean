/-
  Contracts of slices.Grow at items, and of the heap's put. No statement is proved here; no conditions.
-/
import Derived.Test.YtkpmdfgjaodlaaaHr
import Derived.Lib.AppendZerosOnto
import Derived.Lib.SliceRun
namespace Go.Proofs.Ytkpmdfgjaodlaaa
open Go.RowKit Go.Joins

theorem info32 : (Try.prog.info? 60).map (fun i => (i.zero, i.size, i.bytes)) = some (some (.agg #[.int .u64 0, .int .i64 0]), 2, 16) := by kernel_rfl
theorem info_two {e : TypeId} (h : (Try.prog.info? e).map (fun i => (i.zero, i.size, i.bytes)) = some (some (.agg #[.int .u64 0, .int .i64 0]), 2, 16)) : ∃ i, Try.prog.info? e = some i ∧ i.zero = some (.agg #[.int .u64 0, .int .i64 0]) ∧ i.size = 2 ∧ i.bytes = 16 := by
  cases hq : Try.prog.info? e with
  | none => rw [hq] at h; cases h
  | some i =>
    rw [hq] at h
    simp only [Option.map_some, Option.some.injEq, Prod.mk.injEq] at h
    exact ⟨i, rfl, h.1, h.2.1, h.2.2⟩

theorem zc_size (k : Nat) : (Builtin.zeroCells (Value.agg #[.int .u64 0, .int .i64 0]).cells k).size = k * 2 := by
  simp [Builtin.zeroCells, Value.cells]

/-- The items d lie in a row with room for n more: where they lay, or in a new one; or there are none, and no room is wanted. -/
def Grew (A : Option Addr) (g n : Nat) (d : List It) (w : World) (A' : Option Addr) (g' c' : Nat) (w' : World) : Prop :=
  d.length + n ≤ c' ∧ Below w.heap.size w w' ∧ ((A' = none ∧ c' = 0 ∧ d = [] ∧ A = none ∧ n = 0) ∨ (A' = some ⟨g', 0, none⟩ ∧ Rw 60 w' g' c' d ∧ ((A' = A ∧ g' = g) ∨ g' = w.heap.size)))

set_option maxRecDepth 100000 in
theorem grow_any (hb : Nat) (A : Option Addr) (g c n : Nat) (d : List It) (w : World) (h : Hr w hb A g c d) (hn : d.length + n ≤ 1000000) :
    Calls Try.prog 45 #[.slice A d.length c, .int .i64 n] w fun e w' => ∃ A' g' c', e = .returned (.slice A' d.length c') ∧ Grew A g n d w A' g' c' w' := by
  have hcap := h.cap
  have hmax := h.max
  unfold maxLen at hmax
  have h1 : ¬ ((n : Int) < 0) := by omega
  by_cases hroom : d.length + n ≤ c
  · have h2 : wrap64 ((c : Int) - (d.length : Int)) = (c : Int) - (d.length : Int) := by unfold wrap64; omega
    have h3 : wrap64 ((n : Int) - ((c : Int) - (d.length : Int))) = (n : Int) - ((c : Int) - (d.length : Int)) := by unfold wrap64; omega
    have h4 : ¬ ((n : Int) - ((c : Int) - (d.length : Int)) > 0) := by omega
    have hH := Lib.hid h
    clear h
    go_enter Try.func45, Try.ntmps45
    go_wp2
    go_ret
    refine ⟨A, g, c, rfl, hroom, Below.refl _ _, ?_⟩
    rcases hH.out.2 with ⟨rfl, rfl, rfl, _⟩ | ⟨r1, r2⟩
    · exact .inl ⟨rfl, rfl, rfl, rfl, by simp at hroom; omega⟩
    · exact .inr ⟨r1, r2, .inl ⟨rfl, rfl⟩⟩
  · obtain ⟨i, hi, hz, hsz, hby⟩ := info_two info32
    have h2 : wrap64 ((c : Int) - (d.length : Int)) = (c : Int) - (d.length : Int) := by unfold wrap64; omega
    have h3 : wrap64 ((n : Int) - ((c : Int) - (d.length : Int))) = (n : Int) - ((c : Int) - (d.length : Int)) := by unfold wrap64; omega
    have h4 : (n : Int) - ((c : Int) - (d.length : Int)) > 0 := by omega
    obtain ⟨cs, hcl, hcs, hold⟩ : ∃ cs : List Value, cs.length = c * 2 ∧ cs.take (d.length * 2) = flat d ∧ (Builtin.firstCells 2 c (.slice A c c)).run Try.prog w.drew = .ok cs.toArray w.drew := by
      rcases h.2 with ⟨rfl, rfl, rfl, _⟩ | ⟨rfl, cur, hg, q1, q2, q3, q4⟩
      · exact ⟨[], rfl, rfl, run_firstCells_none w.drew 2 0 0 0⟩
      · refine ⟨cur.toList, by simpa using q3, q4, run_firstCells_some w.drew 2 c _ c c cur.toList (by simpa using q3) fun j v hj => ?_⟩
        rw [addr_add, Nat.zero_add]
        exact (cell_of_row w g j cur 60 (0, 0) hg).trans (by rw [← Array.getElem?_toList]; exact hj)
    have hck : c + (d.length + n - c) = d.length + n := by omega
    obtain ⟨G, hG⟩ : ∃ G, G = grownCap w (d.length + n) c 60 := ⟨_, rfl⟩
    have hGn : d.length + n ≤ G := hG ▸ grownCap_ge w _ _ _
    have hGm : G ≤ maxLen := hG ▸ grownCap_le_maxLen w _ _ _ (by unfold maxLen; omega)
    obtain ⟨Z, hZ⟩ : ∃ Z, Z = cs.toArray ++ Builtin.zeroCells (Value.agg #[.int .u64 0, .int .i64 0]).cells (d.length + n - c) ++ Builtin.zeroCells (Value.agg #[.int .u64 0, .int .i64 0]).cells (G - (d.length + n)) := ⟨_, rfl⟩
    have hrun : ∀ ty, (Builtin.append_ #[61, 3] ty #[.slice A c c, .int .i64 ((n : Int) - ((c : Int) - (d.length : Int)))]).run Try.prog w =
        .ok (.slice (some ⟨w.heap.size, 0, none⟩) (d.length + n) G) (w.drew.alloc (.cells Z 60)) := fun ty => by
      have hx := Lib.run_append_grow_zeros w 61 3 ty 60 i _ .i64 .i64 Try.underlying61 Try.underlying3 hi hz A c c cs (by rw [hsz]; exact hold) (d.length + n - c) (by omega) (by omega) (by omega) (by omega) (by rw [hby]; omega)
        (by rw [hck, hby]; exact growslice_fits (by omega) (by omega))
      rw [hck, ← hG, ← hZ] at hx
      rw [show (n : Int) - ((c : Int) - (d.length : Int)) = ((d.length + n - c : Nat) : Int) by omega]
      exact hx
    have hRw : Hid (Rw 60 (w.drew.alloc (.cells Z 60)) w.heap.size G d) := by
      refine Lib.hid ⟨Z, Go.heap_alloc_new w.drew _, by omega, hGm, ?_, ?_⟩
      · rw [hZ]; simp only [Array.size_append, zc_size, List.size_toArray, hcl]; omega
      · rw [hZ, ← hcs, Array.toList_append, Array.toList_append, List.append_assoc, List.take_append_of_le_length (by simp [hcl]; omega)]
    have hG63 : (G : Int) ≤ 9223372036854775807 := by unfold maxLen at hGm; omega
    have hdG : d.length ≤ G := by omega
    have HN := Lib.hid h
    clear hcs hcl hold hck hG hZ hi hz hsz hby hmax hGm h
    go_enter Try.func45, Try.ntmps45
    cases A with
    | none =>
      obtain ⟨hc0, hd0⟩ : c = 0 ∧ d = [] := by
        rcases HN.out.2 with ⟨_, rfl, rfl, _⟩ | ⟨r, _⟩
        · exact ⟨rfl, rfl⟩
        · cases r
      subst hc0 hd0
      go_wp2_with (at_builtin; refine Lib.wpList_append_run _ rfl _ _ _ _ rfl _ _ rfl rfl _ _ (hrun _) ?_)
      all_goals go_ret
      all_goals exact ⟨_, w.heap.size, G, rfl, by simpa using hGn, (Below.refl _ w).drew.alloc (Nat.le_refl _) _, .inr ⟨rfl, hRw.out, .inr rfl⟩⟩
    | some a =>
      obtain ⟨ab, ao, asp⟩ := a
      obtain ⟨e1, e2, e3⟩ : ab = g ∧ ao = 0 ∧ asp = none := by
        rcases HN.out.2 with ⟨r, _⟩ | ⟨r, _⟩
        · cases r
        · injection r with r; injection r with r1 r2 r3; exact ⟨r1, r2, r3⟩
      subst e1 e2 e3
      go_wp2_with (at_builtin; refine Lib.wpList_append_run _ rfl _ _ _ _ rfl _ _ rfl rfl _ _ (hrun _) ?_)
      all_goals go_ret
      all_goals exact ⟨_, w.heap.size, G, rfl, by simpa using hGn, (Below.refl _ w).drew.alloc (Nat.le_refl _) _, .inr ⟨rfl, hRw.out, .inr rfl⟩⟩
theorem hb_store {w : World} {hb : Nat} {u v : Value} (h : w.heap[hb]? = some (.cells #[u] 74 (0, 0))) : (w.setCell ⟨hb, 0, none⟩ v).heap[hb]? = some (.cells #[v] 74 (0, 0)) := by
  rw [setCell_eq_setRow w hb 0 _ 74 (0, 0) v h]
  exact setRow_heap w hb _ _ 74 (0, 0) h

/-- Behind block hb lie the items L now, where they lay or in a new row; all else is as it was. -/
def Puts (w : World) (hb g : Nat) (L : List It) (w' : World) : Prop := ∃ A' g' c', Hr w' hb A' g' c' L ∧ (g' = g ∨ w.heap.size ≤ g') ∧ Kp (fun j => j = hb ∨ j = g) w w'

set_option maxRecDepth 100000 in
theorem put_any (hb : Nat) (A : Option Addr) (g c : Nat) (d : List It) (w : World) (h : Hr w hb A g c d) (S : Nat → Prop) (A2 : Option Addr) (c2 : Nat) (l : List It) (hl : Bs S w A2 l) (hS : ∀ j, S j → j ≠ hb) (hn : d.length + l.length ≤ 1000000) :
    Calls Try.prog 39 #[.pointer (some ⟨hb, 0, none⟩), .slice A2 l.length c2] w fun e w' => e = .returned (.tuple #[]) ∧ Puts w hb g (d ++ l) w' := by
  have c0 := h.cell0
  have gr := grow_any hb A g c l.length d w h hn
  have hH := Lib.hid h
  have HL := Lib.hid hl
  clear h hl
  go_enter Try.func39, Try.ntmps39
  go_wp2_with fail
  refine gr.mono ?_
  rintro e W1 ⟨A', g', c', rfl, hG⟩
  obtain ⟨q1, q2, q3⟩ := hG
  have h1 := (hH.out.below q2 (Nat.le_refl _)).1
  have c1 := (hH.out.below q2 (Nat.le_refl _)).cell0
  have f1 := (hH.out.below q2 (Nat.le_refl _)).frozen0
  have hl1 : Hid (Bs S W1 A2 l) := Lib.hid (HL.out.below q2 (fun _ _ h => h))
  clear c0 gr HL
  have Q1 := Lib.hid q1
  have b1 : (d.length : Int) + (l.length : Int) ≤ (c' : Int) := by omega
  obtain ⟨i, hi, hz, hsz, hby⟩ := info_two info32
  rcases q3 with ⟨rfl, rfl, rfl, rfl, hl0⟩ | ⟨rfl, hR, hg⟩
  · obtain rfl := List.eq_nil_of_length_eq_zero hl0
    have hrun := fun W D n' cc => run_cp0 (P := Try.prog) W 61 61 3 60 i Try.underlying61 hi D A2 n' cc c2
    have hst := Lib.hid (hb_store (v := .slice none 0 0) h1)
    have HH : Hid (g = hb) := Lib.hid (by
      rcases hH.out.2 with ⟨_, _, _, r⟩ | ⟨r, _⟩
      · exact r
      · cases r)
    clear Q1 q1 b1 hi hz hsz hby h1
    go_wp2
    go_end0
    exact ⟨rfl, none, g, 0, ⟨hst.out, .inl ⟨rfl, rfl, rfl, HH.out⟩⟩, .inl rfl, (Kp.of_below q2 (Nat.le_refl _)).then_set _ _ (.inl rfl)⟩
  · have hne : g' ≠ hb := by
      rintro rfl
      obtain ⟨cur, hg, _⟩ := hR
      have := h1.symm.trans hg
      simp at this
    have hlen : (d ++ l).length = d.length + l.length := List.length_append
    have hst := hb_store (v := .slice (some ⟨g', 0, none⟩) (d.length + l.length) c') h1
    have hK1 : Kp (fun j => j = hb ∨ j = g) w (W1.setCell ⟨hb, 0, none⟩ (.slice (some ⟨g', 0, none⟩) (d.length + l.length) c')) := (Kp.of_below q2 (Nat.le_refl _)).then_set _ _ (.inl rfl)
    have hK2 : Kp (· = hb) W1 (W1.setCell ⟨hb, 0, none⟩ (.slice (some ⟨g', 0, none⟩) (d.length + l.length) c')) := Kp.setCell _ _ _ rfl
    have hR2 := hR.kp hK2 hne
    have hL2 := hl1.out.kp hK2 hS
    have hgg : g' = g ∨ w.heap.size ≤ g' := by
      rcases hg with h | h
      · exact .inl h.2
      · exact .inr (by omega)
    have ccell : (W1.setCell ⟨hb, 0, none⟩ (.slice (some ⟨g', 0, none⟩) (d.length + l.length) c')).cell? ⟨hb, 0, none⟩ = some (.slice (some ⟨g', 0, none⟩) (d.length + l.length) c') := (cell_of_row _ hb 0 _ _ _ hst).trans rfl
    by_cases hl0 : l = []
    · subst hl0
      have hrun := fun W D n' cc => run_cp0 (P := Try.prog) W 61 61 3 60 i Try.underlying61 hi D A2 n' cc c2
      have hst := Lib.hid hst
      have hK1 := Lib.hid hK1
      have hR2 := Lib.hid hR2
      have hgg := Lib.hid hgg
      clear Q1 q1 hi hz hsz hby h1 hR hg hK2 hlen hl1
      by_cases hcd : c' = d.length
      · subst hcd
        go_wp2
        go_end0
        exact ⟨rfl, _, g', d.length, ⟨by simpa using hst.out, .inr ⟨rfl, by simpa using hR2.out⟩⟩, hgg.out, by simpa using hK1.out⟩
      · go_wp2
        go_end0
        exact ⟨rfl, _, g', c', ⟨by simpa using hst.out, .inr ⟨rfl, by simpa using hR2.out⟩⟩, hgg.out, by simpa using hK1.out⟩
    · have hcd : ¬ c' = d.length := by
        have := List.length_pos_iff.2 hl0
        omega
      obtain ⟨W3, hrun, hR3, hK3⟩ := run_cp (P := Try.prog) (W1.setCell ⟨hb, 0, none⟩ (.slice (some ⟨g', 0, none⟩) (d.length + l.length) c')) 61 61 3 60 i Try.underlying61 hi hsz g' c' (c' - d.length) (some ⟨g', d.length * 2, none⟩) d l hR2 (by omega) (fun _ => rfl) S A2 c2 hL2
      have hst3 := Lib.hid ((hK3.block hb (lt_of_block hst) (by omega)).trans hst)
      have hR3 := Lib.hid hR3
      have hK4 := Lib.hid (hK1.trans hK3 (fun j hj => by
        rcases hgg with e | e
        · exact .inl (.inr (hj.trans e))
        · exact .inr (by omega)))
      have hgg := Lib.hid hgg
      have hlen := Lib.hid hlen
      clear Q1 q1 hi hz hsz hby h1 hR hg hK2 hst hK1 hR2 hL2 hK3 hl1
      go_wp2
      go_end0
      refine ⟨rfl, _, g', c', ⟨?_, .inr ⟨rfl, hR3.out⟩⟩, hgg.out, hK4.out⟩
      rw [hlen.out]
      exact hst3.out
end Go.Proofs.Ytkpmdfgjaodlaaa
