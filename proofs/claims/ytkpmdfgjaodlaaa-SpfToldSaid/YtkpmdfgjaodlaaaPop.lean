/-
  The contract of the heap's Pop. No statement is proved here; no conditions.
-/
import Derived.Test.YtkpmdfgjaodlaaaApi
namespace Go.Proofs.Ytkpmdfgjaodlaaa
open Go.RowKit Go.Joins

/-- The last one laid at the first place, and the slice cut: the heap's items are 'cut d'. -/
theorem cut_hr {W : World} {hb g c : Nat} {d : List It} (h : Hr W hb (some ⟨g, 0, none⟩) g c d) (hd : 0 < d.length) :
    Hr (((W.setCell ⟨g, 0, none⟩ (.int .u64 (gt d (d.length - 1)).1)).setCell ⟨g, 1, none⟩ (.int .i64 (gt d (d.length - 1)).2)).setCell ⟨hb, 0, none⟩ (.slice (some ⟨g, 0, none⟩) (d.length - 1) c)) hb (some ⟨g, 0, none⟩) g c (cut d) := by
  have hne := h.ne hd
  have R := ((h.row hd).2.set hd (gt d (d.length - 1)))
  rw [Nat.zero_mul, Nat.zero_add] at R
  have h1 : ((W.setCell ⟨g, 0, none⟩ (.int .u64 (gt d (d.length - 1)).1)).setCell ⟨g, 1, none⟩ (.int .i64 (gt d (d.length - 1)).2)).heap[hb]? = some (.cells #[.slice (some ⟨g, 0, none⟩) d.length c] 74 (0, 0)) := by
    rw [Below.heap_setCell _ _ _ _ (fun e => hne e.symm), Below.heap_setCell _ _ _ _ (fun e => hne e.symm)]
    exact h.1
  refine ⟨?_, .inr ⟨rfl, ?_⟩⟩
  · rw [cut_length]
    exact hb_store h1
  · exact (R.take (d.length - 1) (by simp)).keep (Below.heap_setCell _ _ _ _ hne)

set_option maxRecDepth 100000 in
theorem pop_any (hb g : Nat) (m : List It) (w : World) (h : Hp w hb g m) (hm : m.length ≤ 1000000) : Calls Try.prog 30 #[.pointer (some ⟨hb, 0, none⟩)] w fun e w' => e = .returned (.tuple #[iv (hd m), .bool (some_ m)]) ∧ Hp w' hb g m.tail ∧ Kp (fun j => j = hb ∨ j = g) w w' := by
  have hH := Lib.hid h
  clear h
  cases m with
  | nil =>
    have tp : Calls Try.prog 41 #[.pointer (some ⟨hb, 0, none⟩)] (w.alloc (.cells #[.int .u64 0, .int .i64 0] 60)) fun e w' => e = .returned (.tuple #[iv (0, 0), .bool false]) ∧ Below (w.alloc (.cells #[.int .u64 0, .int .i64 0] 60)).heap.size (w.alloc (.cells #[.int .u64 0, .int .i64 0] 60)) w' := top_any hb g [] _ (hH.out.below (below_alloc1 w _) (Nat.le_refl _))
    go_enter Try.func30, Try.ntmps30
    go_wp2_with fail
    refine tp.mono ?_
    rintro e W ⟨rfl, hW⟩
    have h0 := blk_alloc (o' := .cells #[.int .u64 0, .int .i64 0] 60) ((hW.block w.heap.size (by simp)).trans (Go.heap_alloc_new w _))
    obtain ⟨c0, c1, f0, f1⟩ := blk2 h0
    have r2 := blk2 (blk2_set (.int .u64 0) (.int .i64 0) h0)
    have H := Lib.hid (((below_alloc1 w _).trans (hW.mono (by simp))).trans ((below_alloc1 W (.cells #[.int .u64 0, .int .i64 0] 60)).mono (by have := hW.size; simp at this; omega)))
    clear h0 hW tp
    go_wp2
    refine bodyPost_ret (v := .tuple #[iv (0, 0), .bool false]) (by simp [results, Try.results30, go_sem, r2]) rfl ⟨rfl, ?_⟩
    have B := (H.out.setCell (p := ⟨w.heap.size, 0, none⟩) (Nat.le_refl _) (.int .u64 0)).setCell (p := ⟨w.heap.size, 1, none⟩) (Nat.le_refl _) (.int .i64 0)
    exact ⟨hH.out.below B (Nat.le_refl _), Kp.of_below B (Nat.le_refl _)⟩
  | cons x m =>
    have tp : Calls Try.prog 41 #[.pointer (some ⟨hb, 0, none⟩)] (w.alloc (.cells #[.int .u64 0, .int .i64 0] 60)) fun e w' => e = .returned (.tuple #[iv x, .bool true]) ∧ Below (w.alloc (.cells #[.int .u64 0, .int .i64 0] 60)).heap.size (w.alloc (.cells #[.int .u64 0, .int .i64 0] 60)) w' := top_any hb g (x :: m) _ (hH.out.below (below_alloc1 w _) (Nat.le_refl _))
    go_enter Try.func30, Try.ntmps30
    go_wp2_with fail
    refine tp.mono ?_
    rintro e W1 ⟨rfl, hW⟩
    obtain ⟨A, c, d, h1, h2, h3, h4⟩ := hH.out
    have hlen : d.length = m.length + 1 := h4.length_eq.symm.trans (by simp)
    have hpos : 0 < d.length := by omega
    obtain ⟨hA, -⟩ := h1.row hpos
    subst hA
    have htop := top_eq h2 h3 h4
    obtain ⟨W2, hW2⟩ : ∃ W2, W1.alloc (.cells #[.int .u64 x.1, .int .i64 x.2] 60) = W2 := ⟨_, rfl⟩
    rw [List.length_cons] at hm
    have B2 : Below w.heap.size w W2 := hW2 ▸ (((below_alloc1 w _).trans (hW.mono (by simp))).trans ((below_alloc1 W1 (.cells #[.int .u64 x.1, .int .i64 x.2] 60)).mono (by have := hW.size; simp at this; omega)))
    have hr2 : W2.heap[w.heap.size]? = some (.cells #[.int .u64 0, .int .i64 0] 60 (0, 0)) := hW2 ▸ blk_alloc (o' := .cells #[.int .u64 x.1, .int .i64 x.2] 60) ((hW.block w.heap.size (by simp)).trans (Go.heap_alloc_new w _))
    have hf2 : W2.heap[W1.heap.size]? = some (.cells #[.int .u64 x.1, .int .i64 x.2] 60 (0, 0)) := hW2 ▸ Go.heap_alloc_new W1 _
    have hh2 : Hr W2 hb (some ⟨g, 0, none⟩) g c d := h1.below B2 (Nat.le_refl _)
    have hlt1 : w.heap.size < W1.heap.size := by have := hW.size; simp at this; omega
    have hgl := h1.glt
    have hhl := h1.lt
    have hgne := h1.ne hpos
    obtain ⟨n, hn⟩ : ∃ n, n = d.length - 1 := ⟨_, rfl⟩
    have hdn : (d.length : Int) - 1 = (n : Int) := by omega
    have hl1 : wrap64 (n : Int) = (n : Int) := by unfold wrap64; omega
    have hn2 : (n : Int) < (d.length : Int) := by omega
    have hz2 : (0 : Int) < (d.length : Int) := by omega
    have c0 := hh2.cell0
    have f0 := hh2.frozen0
    have hR2 := (hh2.row hpos).2
    obtain ⟨c1, c2⟩ := hR2.cell hpos
    obtain ⟨c3, c4⟩ := hR2.cell (i := n) (by omega)
    have f1 := hR2.frozen 0
    have f2 := hR2.frozen 1
    rw [Nat.zero_mul] at c1 c2
    rw [Nat.zero_add] at c2
    have cc := cut_hr hh2 hpos
    rw [← hn] at cc
    have hsnk := cut_snk h2
    have hprm := cut_perm hpos
    have hcl := cut_length d
    generalize hy : gt d n = y at *
    have hcap := hh2.cap
    have HN := Lib.hid hn
    clear hn
    have hnc : (n : Int) ≤ (c : Int) := by omega
    obtain ⟨W3, hW3⟩ : ∃ W3, (W2.setCell ⟨g, 0, none⟩ (.int .u64 y.1)).setCell ⟨g, 1, none⟩ (.int .i64 y.2) = W3 := ⟨_, rfl⟩
    rw [hW3] at cc
    have K3 : Kp (· = g) W2 W3 := hW3 ▸ ((Kp.refl (· = g) W2).then_set _ _ rfl).then_set _ _ rfl
    have c5 : W3.cell? ⟨hb, 0, none⟩ = some (.slice (some ⟨g, 0, none⟩) d.length c) := (World.cell?_of_block (K3.block hb hh2.lt (fun e => hgne e.symm))).trans c0
    have f5 : W3.frozen? ⟨hb, 0, none⟩ = false := (World.frozen?_of_block (K3.block hb hh2.lt (fun e => hgne e.symm))).trans f0
    obtain ⟨W4, hW4⟩ : ∃ W4, W3.setCell ⟨hb, 0, none⟩ (.slice (some ⟨g, 0, none⟩) n c) = W4 := ⟨_, rfl⟩
    rw [hW4] at cc
    have K4 : Kp (fun j => j = hb ∨ j = g) w W4 := hW4 ▸ (((Kp.of_below B2 (Nat.le_refl _)).trans K3 (fun j hj => .inl (.inr hj))).then_set _ _ (.inl rfl))
    have hr4 : W4.heap[w.heap.size]? = some (.cells #[.int .u64 0, .int .i64 0] 60 (0, 0)) := by
      rw [← hW4, Below.heap_setCell _ _ _ _ (by show w.heap.size ≠ hb; omega), K3.block _ (lt_of_block hr2) (by omega)]
      exact hr2
    have hf4 : W4.heap[W1.heap.size]? = some (.cells #[.int .u64 x.1, .int .i64 x.2] 60 (0, 0)) := by
      rw [← hW4, Below.heap_setCell _ _ _ _ (by show W1.heap.size ≠ hb; omega), K3.block _ (lt_of_block hf2) (by omega)]
      exact hf2
    have sk := sink_any hb (some ⟨g, 0, none⟩) g c 0 0 (cut d) W4.drew cc (by omega) (Nat.le_refl _) (by omega) hsnk
    have P1 := Lib.hid hprm
    have P2 := Lib.hid h4
    have P3 := Lib.hid h3
    have P4 := Lib.hid K4
    have P5 := Lib.hid hr4
    have P6 := Lib.hid hf4
    have P7 := Lib.hid htop
    have P8 : Hid (hb < w.heap.size ∧ g < w.heap.size ∧ w.heap.size < W1.heap.size) := Lib.hid ⟨hhl, hgl, hlt1⟩
    clear hprm h4 h3 K4 hr4 hf4 K3 hsnk cc h2 h1 hW tp B2 hr2 hf2 hh2 hR2 htop hhl hgl hlt1 hcl hlen hcap hH
    go_wp2_with fail
    go_region
    go_wp2_with fail
    refine sk.mono ?_
    rintro e W5 ⟨rfl, d', q1, q2, q3, q4⟩
    obtain ⟨l1, l2, l3⟩ := P8.out
    have hr5 := (q4.block w.heap.size (lt_of_block P5.out) (by omega)).trans P5.out
    have hf5 := (q4.block W1.heap.size (lt_of_block P6.out) (by omega)).trans P6.out
    obtain ⟨u1, u2, -, -⟩ := blk2 hf5
    obtain ⟨u3, u4, u5, u6⟩ := blk2 hr5
    have r2 := blk2 (blk2_set (.int .u64 x.1) (.int .i64 x.2) hr5)
    have ne1 : w.heap.size ≠ W1.heap.size := by omega
    have Q1 := Lib.hid q1
    have Q4 := Lib.hid q4
    clear sk hr5 hf5 q1 q4
    go_wp2
    refine bodyPost_ret (v := .tuple #[iv x, .bool true]) (by simp [results, Try.results30, go_sem, r2]) rfl ⟨rfl, ?_, ?_⟩
    · refine ⟨_, c, d', (Q1.out.keep (Below.heap_setCell _ _ _ _ (by show hb ≠ w.heap.size; omega)) (Below.heap_setCell _ _ _ _ (by show g ≠ w.heap.size; omega))).keep (Below.heap_setCell _ _ _ _ (by show hb ≠ w.heap.size; omega)) (Below.heap_setCell _ _ _ _ (by show g ≠ w.heap.size; omega)), q2, asc_tail P3.out, ?_⟩
      have h5 := P1.out
      rw [P7.out] at h5
      exact ((List.perm_cons x).1 (P2.out.trans h5.symm)).trans q3.symm
    · have Kz := P4.out.trans (T := (· = g)) (b := W4) (c := W5) ⟨Q4.out.os, Q4.out.tape, Q4.out.output, Q4.out.size, Q4.out.block⟩ (fun j hj => .inl (.inr hj))
      exact (Kz.trans (T := (· = w.heap.size)) ((Kp.refl (· = w.heap.size) W5).then_set _ _ rfl) (fun j hj => .inr (by omega))).trans (T := (· = w.heap.size)) ((Kp.refl (· = w.heap.size) _).then_set _ _ rfl) (fun j hj => .inr (by omega))
end Go.Proofs.Ytkpmdfgjaodlaaa
