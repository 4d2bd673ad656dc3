/-
  Contracts of the heap's Push and New. No statement is proved here; no conditions.
-/
import Derived.Test.YtkpmdfgjaodlaaaPop
namespace Go.Proofs.Ytkpmdfgjaodlaaa
open Go.RowKit Go.Joins

/-- The heap behind block hb has the items m now, in the row where it was or in a new one; all else is as it was. -/
def Pushed (w : World) (hb g : Nat) (m : List It) (w' : World) : Prop := ∃ g', Hp w' hb g' m ∧ (g' = g ∨ w.heap.size ≤ g') ∧ Kp (fun j => j = hb ∨ j = g) w w'
/-- Block 'the next' is a new heap with the items m. -/
def Newed (w : World) (m : List It) (w' : World) : Prop := ∃ g, Hp w' w.heap.size g m ∧ w.heap.size ≤ g ∧ Below w.heap.size w w'

theorem push_nil (x : It) (w : World) : Calls Try.prog 32 #[.pointer none, iv x] w fun e w' => e = .returned (.tuple #[]) ∧ Below w.heap.size w w' := by
  go_enter Try.func32, Try.ntmps32
  go_wp2
  refine bodyPost_ret (results_none rfl _ _ _) rfl ?_
  exact ⟨rfl, below_alloc1 _ _⟩

set_option maxRecDepth 100000 in
theorem push_any (hb g : Nat) (m : List It) (x : It) (w : World) (h : Hp w hb g m) (hm : m.length < 1000000) : Calls Try.prog 32 #[.pointer (some ⟨hb, 0, none⟩), iv x] w fun e w' => e = .returned (.tuple #[]) ∧ Pushed w hb g (ins x m) w' := by
  obtain ⟨A, c, d, h1, h2, h3, h4⟩ := h
  have hlen := h4.length_eq
  have B0 := below_alloc2 w (.cells #[.int .u64 x.1, .int .i64 x.2] 60) (.cells #[.int .u64 x.1, .int .i64 x.2] 60)
  have hl := Rw.lit (w.alloc (.cells #[.int .u64 x.1, .int .i64 x.2] 60)) 60 [x] #[.int .u64 x.1, .int .i64 x.2] rfl (by simp [maxLen])
  have e1 : (w.alloc (.cells #[.int .u64 x.1, .int .i64 x.2] 60)).heap.size = w.heap.size + 1 := by simp
  rw [e1] at hl
  have pt := put_any hb A g c d _ (h1.below B0 (Nat.le_refl _)) (· = w.heap.size + 1) _ 1 [x] hl.bs (fun j hj => by have := h1.lt; omega) (by simp; omega)
  clear e1
  rw [show [x].length = 1 from rfl] at pt
  have hs1 := Lib.hid h1.lt
  have H2 := Lib.hid h2
  have H3 := Lib.hid h3
  have H4 := Lib.hid h4
  have HL := Lib.hid hlen
  have HB := Lib.hid B0
  clear h1 h2 h3 h4 hlen B0 hl
  go_enter Try.func32, Try.ntmps32
  go_wp2_with fail
  refine pt.mono ?_
  rintro e W1 ⟨rfl, A', g', c', q1, q2, q3⟩
  have c0 := q1.cell0
  have hln : (d ++ [x]).length = d.length + 1 := by simp
  rw [hln] at c0
  have rs := rise_any hb A' g' c' d.length (d ++ [x]) W1 q1 (by omega) (by have := HL.out; omega) (snoc_ris H2.out)
  have Q1 := Lib.hid q1
  have Q2 := Lib.hid q2
  have Q3 := Lib.hid q3
  clear q1 q2 q3 hln pt
  have w1 : wrap64 (d.length : Int) = (d.length : Int) := by have := HL.out; unfold wrap64; omega
  go_wp2_with fail
  refine rs.mono ?_
  rintro e W2 ⟨rfl, d', r1, r2, r3, r4⟩
  go_wp2
  go_end0
  have hg : g' = g ∨ w.heap.size ≤ g' := by
    rcases Q2.out with e | e
    · exact .inl e
    · exact .inr (by simp at e; omega)
  refine ⟨rfl, g', ⟨A', c', d', r1, r2, ins_asc x m H3.out, ?_⟩, hg, ?_⟩
  · exact (ins_perm x m).trans ((H4.out.cons x).trans ((List.perm_append_singleton x d).symm.trans r3.symm))
  · refine ((Kp.of_below HB.out (Nat.le_refl _)).trans Q3.out (fun _ h => .inl h)).trans r4 (fun j hj => ?_)
    rcases hg with e | e
    · exact .inl (.inr (hj.trans e))
    · exact .inr (by omega)

set_option maxRecDepth 100000 in
theorem new_any (S : Nat → Prop) (A2 : Option Addr) (c2 : Nat) (l : List It) (w : World) (hl : Bs S w A2 l) (hn : l.length ≤ 1000000) : Calls Try.prog 29 #[.slice A2 l.length c2] w fun e w' => e = .returned (.pointer (some ⟨w.heap.size, 0, none⟩)) ∧ Newed w (srt l) w' := by
  have B0 := below_alloc1 w (.cells #[.slice none 0 0] 74)
  have h0 : Hr (w.alloc (.cells #[.slice none 0 0] 74)) w.heap.size none w.heap.size 0 [] := ⟨Go.heap_alloc_new w _, .inl ⟨rfl, rfl, rfl, rfl⟩⟩
  have pt := put_any w.heap.size none w.heap.size 0 [] _ h0 (· < w.heap.size) A2 c2 l ((hl.more (T := (· < w.heap.size)) (fun j _ h => h)).below B0 (fun j h _ => h)) (fun j hj => by omega) (by simpa using hn)
  rw [List.nil_append] at pt
  have HB := Lib.hid B0
  clear h0 hl B0
  have w1 : wrap64 ((l.length : Int) / 2) = (l.length : Int) / 2 := by unfold wrap64; omega
  have w2 : wrap64 ((l.length : Int) / 2 - 1) = (l.length : Int) / 2 - 1 := by unfold wrap64; omega
  go_enter Try.func29, Try.ntmps29
  go_wp2_with fail
  refine pt.mono ?_
  rintro e W1 ⟨rfl, A', g', c', q1, q2, q3⟩
  have hg : w.heap.size ≤ g' := by
    rcases q2 with e | e
    · omega
    · simp at e; omega
  have b1 : Below w.heap.size w W1 := HB.out.trans (q3.below (fun j hj => by omega) (by simp))
  clear pt q2 q3 HB
  have Q1 := Lib.hid q1
  have Q2 := Lib.hid b1
  have Q3 := Lib.hid hg
  clear q1 b1 hg
  go_wp2_with fail
  go_loopg [4] (l.length / 2) (fun gf vi wx => ∃ (d' : List It), vi = .int .i64 ((gf : Int) - 1) ∧ Hid (gf ≤ l.length) ∧ Hid (Hr wx w.heap.size A' g' c' d') ∧ Hid (Hpf gf d') ∧ Hid (d'.Perm l) ∧ Hid (Below w.heap.size w wx))
  case atStart => exact ⟨l, by go_num, Lib.hid (by omega), Q1, Lib.hid (hpf_half l), Lib.hid (List.Perm.refl _), Q2⟩
  case round =>
    obtain ⟨d', rfl, hgl, hh, hp, hpm, hb⟩ := hrel
    clear w1 w2 Q1 Q2
    cases gk with
    | zero =>
      go_wp2
      go_ret
      exact ⟨rfl, g', ⟨A', c', d', hh.out, hp.out, srt_asc l, (srt_perm l).trans hpm.out.symm⟩, Q3.out, hb.out⟩
    | succ j =>
      have hl1 := hpm.out.length_eq
      have hj := hgl.out
      have w3 : wrap64 ((j : Int) - 1) = (j : Int) - 1 := by unfold wrap64; omega
      have e1 : ((j + 1 : Nat) : Int) - 1 = (j : Int) := by omega
      have sk := sink_any w.heap.size A' g' c' j j d' _ hh.out (by omega) (Nat.le_refl _) (by omega) (snk_of hp.out)
      clear hj hl1
      rw [e1]
      go_wp2_with fail
      refine sk.mono ?_
      rintro e W2 ⟨rfl, d2, r1, r2, r3, r4⟩
      clear sk e1
      have hb2 := hb.out.trans (r4.below (B := w.heap.size) (fun k hk => by have := Q3.out; omega) (by have := hh.out.lt; omega))
      go_wp2
      go_roundg j
      case measure => omega
      case rel => exact ⟨d2, val_int w3, Lib.hid (by have := hgl.out; omega), Lib.hid r1, Lib.hid r2, Lib.hid (r3.trans hpm.out), Lib.hid hb2⟩
end Go.Proofs.Ytkpmdfgjaodlaaa
