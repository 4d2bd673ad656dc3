/-
  The walk of the law OctetPut: for every input it returns true and writes nothing that was there before. No conditions.
-/
import Derived.Test.YtmljcjpmekildaaBack
import Derived.Test.YtmljcjpmekildaaRefA
namespace Go.Proofs.Ytmljcjpmekildaa
open Go.RowKit

theorem Own.set {k : IntKind} {e : TypeId} {w : World} {base g c : Nat} {l : List Int} (h : Own k e w base (some ⟨g, 0, none⟩) c l) (i : Nat) (v : Int) : Own k e (w.setCell ⟨g, i, none⟩ (.int k v)) base (some ⟨g, 0, none⟩) c (l.set i v) := by
  have h' := (World.ownsRow.stored h i (.int k v)).1
  have e1 : (l.map (Value.int k)).set i (.int k v) = (l.set i v).map (Value.int k) := by rw [List.map_set]
  rw [e1] at h'
  unfold Own
  rw [List.length_set]
  exact h'
theorem Own.frozen {k : IntKind} {e : TypeId} {w : World} {base g c : Nat} {l : List Int} (h : Own k e w base (some ⟨g, 0, none⟩) c l) (i : Nat) : w.frozen? ⟨g, i, none⟩ = false := World.ownsRow.frozenAt h i
theorem Own.far {k : IntKind} {e : TypeId} {w : World} {base c : Nat} {A : Option Addr} {l : List Int} (h : Own k e w base A c l) {p : Addr} (hp : p.block < base) (v : Value) : Own k e (w.setCell p v) base A c l :=
  h.kept fun g hg _ => Below.heap_setCell w p v g (by omega)

theorem Own.cellAt {k : IntKind} {e : TypeId} {w : World} {base g c : Nat} {l : List Int} (h : Own k e w base (some ⟨g, 0, none⟩) c l) {i : Nat} (hi : i < l.length) : w.cell? ⟨g, i, none⟩ = some (.int k (l.getD i 0)) := by
  obtain ⟨b, off, hA, -, hc⟩ := h.bs.at_ hi
  injection hA with hA
  injection hA with h1 h2
  subst h1 h2
  rwa [Nat.zero_add] at hc
theorem Bs.blk {k : IntKind} {w : World} {B g o : Nat} {l : List Int} (h : Bs k w B (some ⟨g, o, none⟩) l) (hl : l ≠ []) : g < B := by
  obtain ⟨b, off, hA, hb, -⟩ := h hl
  injection hA with hA
  injection hA with h1 _
  omega

/-- The first j are three, the rest are as they were. -/
def threes (j : Nat) (P : List Int) : List Int := List.replicate j 3 ++ P.drop j
theorem threes_length (j : Nat) (P : List Int) (h : j ≤ P.length) : (threes j P).length = P.length := by simp [threes]; omega
theorem threes_get (j : Nat) (P : List Int) (__h : j < P.length) : (threes j P).getD j 0 = P.getD j 0 := by
  simp [threes, List.getD, List.getElem?_append, List.getElem?_drop]
theorem threes_set (j : Nat) (P : List Int) (h : j < P.length) : (threes j P).set j 3 = threes (j + 1) P := by
  apply List.ext_getElem?
  intro i
  simp only [threes, List.getElem?_set, List.getElem?_append, List.getElem?_replicate, List.length_append, List.length_replicate, List.length_drop, List.getElem?_drop]
  by_cases h1 : j = i
  · subst h1; simp; omega
  · by_cases h2 : i < j
    · rw [if_neg h1, if_pos h2, if_pos (by omega), if_pos (by omega), if_pos (by omega)]
    · rw [if_neg h1, if_neg h2, if_neg (by omega)]; congr 1; omega

set_option maxHeartbeats 2000000 in
theorem put_walk (A : Option Addr) (c : Nat) (l : List Int) (n m : Int) (w : World) (hb : Bs .u8 w w.heap.size A l) (h3 : 0 ≤ n) (h4 : n < 4294967296) :
    Calls Try.prog 3 #[.slice A l.length c, .int .u32 n, .int .i64 m] w fun e w' => e = .returned (.bool true) ∧ Below w.heap.size w w' := by
  by_cases hl : 300 < l.length
  · go_enter Try.func3, Try.ntmps3
    go_wp2_with (go_at_call 8; refine (alive_any _).mono ?_; rintro e w' ⟨rfl, hB⟩)
    go_ret
    exact ⟨rfl, hB⟩
  have hl' : l.length ≤ 300 := by omega
  obtain ⟨i0, hi, hz0, hz1, hz2⟩ := info_parts info5
  go_enter Try.func3, Try.ntmps3
  go_wp2_with (at_builtin; refine wpList_app _ rfl (.tmp 17) (.tmp 18) 22 rfl w.heap.size 5 .u8 i0 _ 1 Try.underlying22 hi hz0 hz1 hz2 rfl _ _ [] rfl (Own.empty w w.heap.size (Nat.le_refl _) .u8 5) _ _ _ l rfl (hb.alloc (Nat.le_refl _) _) ?_ ?_ ?_ ?_; (simp [maxLen] <;> omega); (simp <;> omega); (simp <;> omega); intro l1 A1 c1 w1 hl1 ho1 hb1')
  obtain rfl : l = l1 := by rw [hl1.out, List.nil_append]
  have hB1 : Below w.heap.size w w1 := ((Below.refl _ w).alloc (Nat.le_refl _) _).trans hb1'
  clear hl1 hb1'
  refine (put_any A1 c1 l w1.heap.size n m w1 ho1.bs (Nat.le_refl _) (by omega) h3 h4).mono ?_
  rintro e w2 ⟨A2, c2, rfl, hO2, hB2⟩
  go_wp2_with fail
  have hs1 := hB1.size
  have hs2 := hB2.size
  refine (rput_any A c l w.heap.size n m w2 ((hb.below hB1).below (hB2.mono hs1)) (by omega) (by omega) h3 h4).mono ?_
  rintro e w3 ⟨A3, c3, rfl, hO3, hB3⟩
  have hs3 := hB3.size
  have hO23 := hO2.below hB3 (Nat.le_refl _)
  have hB13 : Below w1.heap.size w1 w3 := hB2.trans (hB3.mono hs2)
  have hbs2 := hO2.bs
  have HO1 := Lib.hid ho1
  have HB1 := Lib.hid hB1
  generalize putL l n m = P at hO2 hO23 hO3 hbs2
  generalize putE n m = E
  have hPl : P.length ≤ maxLen := Nat.le_trans hO3.cap_le hO3.max
  unfold maxLen at hPl
  clear hO2 hB2 hB3 ho1 hB1
  go_wp2_with fail
  go_loopw [12] (fun i wr => ∃ j : Nat, j ≤ P.length ∧ i = .int .i64 (j : Int) ∧ Own .u8 5 wr w1.heap.size A2 c2 (threes j P) ∧ Own .u8 5 wr w2.heap.size A3 c3 P ∧ Below w1.heap.size w1 wr) (fun i _ => P.length - (intOf i).toNat)
  case atStart => exact ⟨0, Nat.zero_le _, rfl, by simpa [threes] using hO23, hO3, hB13⟩
  case round =>
    obtain ⟨j, hj, rfl, hX, hY, hbw⟩ := hrel
    by_cases hlt : j < P.length
    · rcases hX.form with ⟨rfl, _, h⟩ | ⟨g, _, rfl, hg1, _⟩
      · have := threes_length j P hj; rw [h] at this; simp at this; omega
      have hcx : wr.cell? ⟨g, j, none⟩ = some (.int .u8 (P.getD j 0)) := by rw [hX.cellAt (by rw [threes_length j P hj]; exact hlt), threes_get j P hlt]
      have hgl : g < w2.heap.size := hbs2.blk (by rintro rfl; simp at hlt)
      obtain ⟨b2, o2, rfl, _, hcy⟩ := hY.bs.at_ hlt
      have hfr := hX.frozen j
      have hdec : decide (P.length ≤ j) = false := by simp; omega
      have hi0 : (0 : Int) ≤ (j : Int) ∧ (j : Int) < (P.length : Int) := by omega
      have hne : ¬ (P.length ≤ j) := by omega
      go_wp2_with fail
      go_quiet (fail)
      go_wp2
      go_roundw
      case rel => exact ⟨j + 1, by omega, by go_num, by rw [← threes_set j P hlt]; exact (hX.drewN _).set j 3, (hY.drewN _).far hgl _, (below_drewN hbw _).setCell hg1 _⟩
      case measure => simp [intOf]; omega
    · have hge : P.length ≤ j := by omega
      go_wp2_with fail
      refine (alive_any _).mono ?_
      rintro e w5 ⟨rfl, hB5⟩
      have hb15 : Below w1.heap.size w1 w5 := hbw.trans (hB5.mono hbw.size)
      have hO15 := HO1.out.below hb15 (Nat.le_refl _)
      have HB : Hid (Below w.heap.size w w5) := HB1.out.trans (hb15.mono hs1)
      have hsA : (convert 22 9 (.slice A1 l.length c1)).run Try.prog w5 = .ok (.string (strOfNums l)) w5 := run_str w5 22 5 9 Try.underlying22 Try.underlying5 Try.underlying9 _ A1 c1 l hO15.bs
      have hsB : (convert 22 9 (.slice A l.length c)).run Try.prog w5 = .ok (.string (strOfNums l)) w5 := run_str w5 22 5 9 Try.underlying22 Try.underlying5 Try.underlying9 _ A c l (hb.below HB.out)
      clear hb15 hO15 hB5 hbw hX hY
      go_wp2
      go_ret
      exact ⟨rfl, HB.out⟩
end Go.Proofs.Ytmljcjpmekildaa
