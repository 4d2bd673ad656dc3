/-
  The contract of the program's Drop. No statement is proved here; no conditions.
-/
import Derived.Test.YtkofpijhihghpaaDoorCat
namespace Go.Proofs.YtkofpijhihghpaaDoor
open Go.RowKit Go.Joins

/-- A list and a number come back. -/
def Lst (w : World) (r : List Ru × Int) (e : Ending) (w' : World) : Prop := ∃ A' c', e = .returned (.tuple #[.slice A' r.1.length c', .int .i64 r.2]) ∧ Sl w' A' c' r.1 ∧ Below w.heap.size w w'
theorem Sl.nil0 (w : World) : Sl w none 0 [] := ⟨Rr.nil _ _, by simp, fun _ => rfl, by omega⟩
set_option maxRecDepth 100000 in
theorem drop_any (A0 : Option Addr) (c : Nat) (l : List Ru) (s : Int) (w : World) (hl : Sl w A0 c l) (hll : l.length ≤ 10000) (hs : Ls l) :
    Calls Tryd.prog 22 #[.slice A0 l.length c, .int .i64 s] w fun e w' => Lst w (dropr l s) e w' := by
  obtain ⟨W0, hW0⟩ : ∃ W0, w.alloc (.cells #[.int .i64 s] 3) = W0 := ⟨_, rfl⟩
  have b0 : Below w.heap.size w W0 := by rw [← hW0]; exact below_alloc1 _ _
  have K0 : ∀ V, Below W0.heap.size W0 V → V.cell? ⟨w.heap.size, 0, none⟩ = some (.int .i64 s) := fun V hV => by
    subst hW0
    exact (cell_of_block ((hV.block w.heap.size (by simp)).trans (alloc_at _ _ _ rfl)) 0).trans rfl
  have cf := first_any A0 c l 50 (.pointer (some ⟨w.heap.size, 0, none⟩)) (fun x => decide (x.s = s)) W0 (hl.rr.step b0) hll enters50 (fun V x hx hV => ceq_any x s w.heap.size V (K0 V hV))
  have hle := fsi_le (fun x => decide (x.s = s)) l
  have he := has_fsi2 l s
  have hd := drl_fsi hs s
  obtain ⟨R, hR⟩ : ∃ R, fsi (fun x => decide (x.s = s)) l = R := ⟨_, rfl⟩
  obtain ⟨ln, hln⟩ : ∃ ln, l.length = ln := ⟨_, rfl⟩
  rw [hR] at cf hle he hd
  have HL := Lib.hid hl
  have hcap := hl.cap
  have hmax := hl.max
  rw [hln] at cf hle he hll hcap
  have HE := Lib.hid he
  have HD := Lib.hid hd
  have HLN := Lib.hid hln
  have HB0 := Lib.hid b0
  rw [hln]
  clear hl hs hR hln b0 he hd K0
  go_enter Tryd.func22, Tryd.ntmps22
  go_wp2_with fail
  refine cf.mono ?_
  rintro e W1 ⟨rfl, hb1⟩
  clear cf
  have HB1 := Lib.hid (HB0.out.trans (hb1.mono HB0.out.size))
  clear hb1 hW0
  by_cases hq : R = ln
  · have n1 : ((R : Int) == (ln : Int)) = true := by simp; omega
    have n2 : (R == ln) = true := by simpa using hq
    have n3 : decide (R = ln) = true := by simpa using hq
    go_wp2
    go_ret2
    refine ⟨none, 0, ?_, ?_, HB1.out⟩
    · rw [dropr, HE.out, hq]
      simp
    · rw [dropr, HE.out, hq]
      simp
      exact Sl.nil0 _
  · have n1 : ((R : Int) == (ln : Int)) = false := by simp; omega
    have n2 : (R == ln) = false := by simpa using hq
    have n3 : decide (R = ln) = false := by simpa using hq
    have hlt : R < ln := by omega
    have hlt2 : (R : Int) < (ln : Int) := by omega
    obtain ⟨b, off, hA, _⟩ := (HL.out.step HB1.out).rr.at (i := R) (by rw [HLN.out]; exact hlt)
    subst hA
    have hRc : R ≤ c := by omega
    have hwr : IntKind.i64.wrap ((R : Int) + 1) = (R : Int) + 1 := by simp [IntKind.wrap, IntKind.bits, IntKind.signed]; omega
    have hbd : 0 ≤ (R : Int) + 1 ∧ (R : Int) + 1 ≤ (ln : Int) := by omega
    have htn : ((R : Int) + 1).toNat = R + 1 := by omega
    obtain ⟨A2, hA2⟩ : ∃ A2, (if c = R + 1 then some (⟨b, off, none⟩ : Addr) else some ⟨b, off + (R + 1) * 6, none⟩) = A2 := ⟨_, rfl⟩
    have R1 : Hid (∀ V, Below w.heap.size w V → Rr V (some ⟨b, off, none⟩) (l.take R) ∧ Rr V A2 (l.drop (R + 1))) := Lib.hid (fun V hV => by
      have h := (HL.out.step hV).rr
      refine ⟨h.take R, ?_⟩
      rw [← hA2]
      split
      · rw [List.drop_eq_nil_of_le (by rw [HLN.out]; omega)]
        exact Rr.nil _ _
      · exact h.drop (R + 1))
    have HS : Hid (dropr l s = (l.take R ++ l.drop (R + 1), 0)) := Lib.hid (by rw [dropr, HE.out, decide_eq_false hq]; simp [HD.out])
    have hl1 : Hid ((l.take R).length = R ∧ (l.drop (R + 1)).length = ln - (R + 1)) := Lib.hid (by rw [List.length_take, List.length_drop, HLN.out]; omega)
    go_wp2_with fail
    refine wp_region_held_drew (S := fun V => True) (by kernel_rfl) trivial (fun hHeld => ?_)
    refine wpAnyH_take (i := 0) (v := ?_) rfl (by kernel_rfl) (by kernel_rfl) (by kernel_rfl) (fun _ _ _ h => h) (Or.inl ⟨by rfl, ?_⟩) (by assumption) ?_
    rotate_left
    · (intro w' hSw; (try dsimp only at hSw); go_simp; try with_reducible rfl)
    simp only [Act.put, List.getElem_toArray, List.getElem_cons_zero, List.setIfInBounds_toArray, List.set_cons_zero, List.set_cons_succ]
    refine wpAnyH_take (i := 1) (v := ?_) rfl (by kernel_rfl) (by kernel_rfl) (by kernel_rfl) (fun _ _ _ h => h) (Or.inl ⟨by rfl, ?_⟩) (by assumption) ?_
    rotate_left
    · (intro w' hSw; (try dsimp only at hSw); go_simp; try with_reducible rfl)
    simp only [Act.put, List.getElem_toArray, List.getElem_cons_zero, List.getElem_cons_succ, List.setIfInBounds_toArray, List.set_cons_zero, List.set_cons_succ]
    refine wpAnyH_take (i := 2) (v := .slice (some ⟨b, off, none⟩) R c) rfl (by kernel_rfl) (by kernel_rfl) (by kernel_rfl) (fun _ _ _ h => h) (Or.inl ⟨by rfl, ?_⟩) (by assumption) ?_
    · (intro w' hSw; (try dsimp only at hSw); go_simp; (try rw [if_pos hRc]))
    simp only [Act.put, List.getElem_toArray, List.getElem_cons_zero, List.getElem_cons_succ, List.setIfInBounds_toArray, List.set_cons_zero, List.set_cons_succ]
    refine wpAnyH_take (i := 3) (v := ?_) rfl (by kernel_rfl) (by kernel_rfl) (by kernel_rfl) (fun _ _ _ h => h) (Or.inl ⟨by rfl, ?_⟩) (by assumption) ?_
    rotate_left
    · (intro w' hSw; (try dsimp only at hSw); go_simp; try with_reducible rfl)
    simp only [Act.put, List.getElem_toArray, List.getElem_cons_zero, List.getElem_cons_succ, List.setIfInBounds_toArray, List.set_cons_zero, List.set_cons_succ]
    refine wpAnyH_take (i := 4) (v := ?_) rfl (by kernel_rfl) (by kernel_rfl) (by kernel_rfl) (fun _ _ _ h => h) (Or.inl ⟨by rfl, ?_⟩) (by assumption) ?_
    rotate_left
    · (intro w' hSw; (try dsimp only at hSw); go_simp; try with_reducible rfl)
    simp only [Act.put, List.getElem_toArray, List.getElem_cons_zero, List.getElem_cons_succ, List.setIfInBounds_toArray, List.set_cons_zero, List.set_cons_succ]
    refine wpAnyH_take (i := 5) (v := .int .i64 ((R : Int) + 1)) rfl (by kernel_rfl) (by kernel_rfl) (by kernel_rfl) (fun _ _ _ h => h) (Or.inl ⟨by rfl, ?_⟩) (by assumption) ?_
    · (intro w' hSw; (try dsimp only at hSw); go_simp; (try rw [hwr]))
    simp only [Act.put, List.getElem_toArray, List.getElem_cons_zero, List.getElem_cons_succ, List.setIfInBounds_toArray, List.set_cons_zero, List.set_cons_succ]
    refine wpAnyH_take (i := 6) (v := .slice A2 (ln - (R + 1)) (c - (R + 1))) rfl (by kernel_rfl) (by kernel_rfl) (by kernel_rfl) (fun _ _ _ h => h) (Or.inl ⟨by rfl, ?_⟩) (by assumption) ?_
    · (intro w' hSw; (try dsimp only at hSw); go_simp; (try rw [if_pos hbd, htn, hA2]))
    simp only [Act.put, List.getElem_toArray, List.getElem_cons_zero, List.getElem_cons_succ, List.setIfInBounds_toArray, List.set_cons_zero, List.set_cons_succ]
    have t1 : Below w.heap.size w W1.drew := HB1.out.trans (below_draws _ _ 1)
    generalize hX0 : W1.drew = X0 at t1 ⊢
    clear hX0 hHeld
    refine wpAnyH_ready (rs := [7]) (by kernel_rfl) (by simp) ?_
    refine AllReadyH.cons rfl (fun K hK => ?_) AllReadyH.nil
    go_simp
    obtain ⟨X1, hX1⟩ : ∃ V, X0.alloc (.cells #[.slice (some ⟨b, off, none⟩) R c, .slice A2 (ln - (R + 1)) (c - (R + 1))] 42) = V := ⟨_, rfl⟩
    have q1 : Below X0.heap.size X0 X1 := by rw [← hX1]; exact below_alloc1 _ _
    have t2 : Below w.heap.size w X1 := t1.trans (q1.mono t1.size)
    have hP : Rd (fun _ => True) X1 (some ⟨X0.heap.size, 0, none⟩) ([(⟨some ⟨b, off, none⟩, c, l.take R⟩ : Pc), ⟨A2, c - (R + 1), l.drop (R + 1)⟩].map pv) := by
      rw [← hX1]
      refine (Rg.lit X0 42 1 2 _ _ ?_ rfl (by unfold maxLen; omega)).rd.more (fun _ _ _ => trivial)
      simp [hl1.out.1, hl1.out.2]
    obtain ⟨m, hm⟩ : ∃ m, X0.heap.size = m := ⟨_, rfl⟩
    rw [hm] at hP
    have cc := concat_any (some ⟨m, 0, none⟩) 2 _ X1 hP (fun p hp => by
      obtain ⟨r1, r2⟩ := R1.out X1 t2
      simp only [List.mem_cons, List.not_mem_nil, or_false] at hp
      rcases hp with rfl | rfl
      · exact r1
      · exact r2) (by simp) (by simp [cat]; have := HLN.out; omega)
    simp only [List.length_cons, List.length_nil, cat, List.append_nil] at cc
    obtain ⟨n3, hn3⟩ : ∃ n3, (l.take R ++ l.drop (R + 1)).length = n3 := ⟨_, rfl⟩
    rw [hn3] at cc
    have HN3 := Lib.hid hn3
    clear hn3
    rw [hX1, hm]
    refine hK.out _ _ trivial (fun _ => ?_)
    clear hK K hX1
    refine wpAnyH_ready (rs := [8]) (by kernel_rfl) (by simp) ?_
    refine AllReadyH.cons rfl (fun K hK => ?_) AllReadyH.nil
    go_simp
    go_at_call 49
    refine cc.mono ?_
    rintro e X2 ⟨A3, c3, rfl, s3, b3⟩
    have F : Hid (Sl X2 A3 c3 (l.take R ++ l.drop (R + 1))) := Lib.hid s3
    have T3 : Hid (Below w.heap.size w X2) := Lib.hid (t2.trans (b3.mono t2.size))
    refine hK.out _ _ trivial (fun _ => ?_)
    clear hK K s3 b3 cc hP q1 t1 t2
    refine wpAnyH_ready (rs := [9]) (by kernel_rfl) (by simp) ?_
    refine AllReadyH.cons rfl (fun K hK => ?_) AllReadyH.nil
    go_simp
    refine hK.out _ _ trivial (fun _ => ?_)
    clear hK K
    refine wpAnyH_ready (rs := [10]) (by kernel_rfl) (by simp) ?_
    refine AllReadyH.cons rfl (fun K hK => ?_) AllReadyH.nil
    go_simp
    refine hK.out _ _ trivial (fun _ => ?_)
    clear hK K
    refine wpAnyH_done (by kernel_rfl) ?_ _
    go_wp2
    go_ret2
    refine ⟨A3, c3, ?_, ?_, T3.out⟩
    · rw [HS.out]
      show _ = Ending.returned (.tuple #[.slice A3 (l.take R ++ l.drop (R + 1)).length c3, .int .i64 0])
      rw [HN3.out]
      rfl
    · rw [HS.out]; exact F.out
end Go.Proofs.YtkofpijhihghpaaDoor
