/-
  The law's rows, however long. No statement is proved here; no conditions.
-/
import Derived.Test.YtpfppacmldjioaaAl2
import Derived.Deep.RegionHeldLaw
import Derived.Deep.DeepCutAuto
import Derived.Laws.StructEq
namespace Go.Proofs.Ytpfppacmldjioaa
open Go.RowKit Go.Joins

theorem run_apprB {P : Program} (w : World) (t ty e : TypeId) (i : TypeInfo) (z : Value) (sz by_ : Nat) (ht : P.underlying t = some (.slice e)) (hi : P.info? e = some i) (hz : i.zero = some z) (hsize : i.size = sz) (hby : i.bytes = by_) (hzs : z.cells.size = sz) (hsz : 0 < sz) (hb1 : 0 < by_)
    (A : Option Addr) (g c n : Nat) (cs : List Value) (hown : Ow e sz w A g c n cs)
    (S : Nat → Prop) (A2 : Option Addr) (c2 n2 : Nat) (cs2 : List Value) (hr : Rd S w A2 cs2) (hl2 : cs2.length = n2 * sz) (h1 : ∀ u ∈ cs2, u.oneCell' = true) (hn2 : 0 < n2) (hb : (n + n2) * by_ ≤ 140737488355328) :
    ∃ g' c' w', (Builtin.append_ #[t, t] ty #[.slice A n c, .slice A2 n2 c2]).run P w = .ok (.slice (some ⟨g', 0, none⟩) (n + n2) c') w' ∧ Rg e sz w' g' c' (cs ++ cs2) ∧ Kp (fun j => A = some ⟨j, 0, none⟩) w w' ∧ (A = some ⟨g', 0, none⟩ ∨ g' = w.heap.size) := by
  have hne : cs2 ≠ [] := by
    rintro rfl
    have := Nat.mul_pos hn2 hsz
    simp at hl2
    omega
  obtain ⟨b, off, rfl, _, _, hc⟩ := hr hne
  have hbb : n + n2 ≤ (n + n2) * by_ := Nat.le_mul_of_pos_right _ hb1
  obtain ⟨v', w', hrun, h2, h3, h4, h5⟩ := run_append_own_at (P := P) w 0 t ty e i z sz by_ ht hi hz hsize hby hzs hsz _ _ _ (hown.own w hsz) ⟨b, off, none⟩ n2 c2 cs2 hl2 (fun j u hu => by rw [addr_add]; exact hc j u hu) h1 (by unfold maxLen; omega) hb (Nat.zero_le _)
  rcases h2.2 with ⟨rfl, h⟩ | ⟨g', cap, cur, rfl, _, q1, q2, q3, q4, q5⟩
  · omega
  · refine ⟨g', cap, w', hrun, ⟨cur, q1, by rw [h2.1]; exact Nat.mul_le_mul_right _ q2, q3, q4, by rw [h2.1]; exact q5⟩, Kp.of_grown h3 (fun j hj => ?_), ?_⟩
    · rcases hown.2 with ⟨rfl, _⟩ | ⟨rfl, _⟩
      · simp [Value.ownBlock] at hj
      · simp [Value.ownBlock] at hj; simp [hj]
    · rcases hown.2 with ⟨rfl, _⟩ | ⟨rfl, _⟩
      · simp [Value.ownBlock] at h5; exact .inr h5
      · simp [Value.ownBlock] at h5
        rcases h5 with h5 | h5
        · exact .inl (by simp [h5])
        · exact .inr h5
/-- One candidate more, out of a new block: as long as the row has room in memory. -/
theorem app4B {t e : TypeId} {z : Value} (ht : Try.prog.underlying t = some (.slice e)) (hin : (Try.prog.info? e).map (fun i => (i.zero, i.size, i.bytes)) = some (some z, 4, 24)) (hz : z.cells.size = 4) {base : Nat} {w : World} {A : Option Addr} {c n : Nat} {L : List Ca} (h : Ow4 e base w A c L) (hn : L.length = n) (x : Ca) (hb : (n + 1) * 24 ≤ 140737488355328) (n0 : Nat) (hn0 : w.heap.size = n0) (hbase : base ≤ w.heap.size) :
    ∃ g' c' w', (Builtin.append_ #[t, t] t #[.slice A n c, .slice (some ⟨n0, 0, none⟩) 1 1]).run Try.prog (w.alloc (.cells (ccs x).toArray e)) = .ok (.slice (some ⟨g', 0, none⟩) (n + 1) c') w' ∧ Ow4 e base w' (some ⟨g', 0, none⟩) c' (L ++ [x]) ∧ Below base w w' := by
  subst hn0
  obtain ⟨i0, hi0, hz0, hz1, hz2⟩ := info_of hin
  obtain ⟨W5, hW5⟩ : ∃ W5, w.alloc (.cells (ccs x).toArray e) = W5 := ⟨_, rfl⟩
  have b5 : Below w.heap.size w W5 := by rw [← hW5]; exact below_alloc1 _ _
  have src : Rd (· = w.heap.size) W5 (some ⟨w.heap.size, 0, none⟩) (ccs x) := by
    rw [← hW5]
    exact (Rg.lit w e 4 1 _ (ccs x) rfl rfl (by unfold maxLen; omega)).rd
  have h5 : Ob e 4 (base ≤ ·) W5 A c (cflat L) := Ob.below h b5
  obtain ⟨g, ow, hS⟩ := h5.ow (n := n) (by rw [cflat_length, hn]) (by decide)
  obtain ⟨g', c', w', r1, r2, r3, r4⟩ := run_apprB (P := Try.prog) W5 t t e i0 z 4 24 ht hi0 hz0 hz1 hz2 hz (by decide) (by decide) A g c n (cflat L) ow _ _ 1 1 (ccs x) src rfl (ccs_one x) (by omega) hb
  rw [hW5]
  refine ⟨g', c', w', r1, Ow4.of (by rw [cflat_snoc]; exact r2) ?_, b5.mono hbase |>.trans (r3.below (fun j hj => hS _ hj) (Nat.le_trans hbase b5.size))⟩
  rcases r4 with q | q
  · exact hS _ q
  · have := b5.size; omega
set_option maxRecDepth 100000 in
set_option maxHeartbeats 4000000 in
theorem rowsB_any (A0 : Option Addr) (n c : Nat) (L : List Ca) (w : World) (hn : L.length = n) (hl : Cr w A0 L) (hll : n * 24 ≤ 140737488355328) :
    Calls Try.prog 10 #[.slice A0 n c] w fun e w' => ∃ A' c', e = .returned (.slice A' n c') ∧ Ow4 45 w.heap.size w' A' c' L ∧ Below w.heap.size w w' := by
  obtain ⟨W0, hW0⟩ : ∃ V, w.alloc (.cells #[] 45) = V := ⟨_, rfl⟩
  have bW0 : Below w.heap.size w W0 := by rw [← hW0]; exact below_alloc1 _ _
  have O0 : Hid (Ow4 45 w.heap.size W0 (some ⟨w.heap.size, 0, none⟩) 0 []) := Lib.hid (by rw [← hW0]; exact Ow4.empty _ _)
  have B0 := Lib.hid bW0
  have HN := Lib.hid hn
  have HL := Lib.hid hl
  have H1K := Lib.hid hll
  clear hl hn bW0 hll
  go_enter Try.func10, Try.ntmps10
  go_wp2_with fail
  go_loopg [3, 4] n (fun gf v3 v4 wx => ∃ (k : Nat) (A' : Option Addr) (c' : Nat), v3 = .slice A' k c' ∧ v4 = .int .i64 (k : Int) ∧ Hid (gf + k = n) ∧ Hid (Ow4 45 w.heap.size wx A' c' (L.take k)) ∧ Hid (Below w.heap.size w wx))
  case atStart => exact ⟨0, _, 0, rfl, rfl, Lib.hid (by omega), O0, B0⟩
  case round =>
    obtain ⟨k, A', c', rfl, rfl, hk, hO, hb⟩ := hrel
    have hk' := hk.out
    clear O0 B0 hW0
    cases gk with
    | zero =>
      have e1 : k = n := by omega
      have lt0 : decide ((k : Int) < (n : Int)) = false := by simp; omega
      have lt1 : decide (k < n) = false := by simp; omega
      have HO : Hid (Ow4 45 w.heap.size wr A' c' L) := Lib.hid (by
        have q := hO.out
        rw [List.take_of_length_le (by rw [HN.out]; omega)] at q
        exact q)
      subst e1
      go_wp2
      go_ret
      exact ⟨A', c', rfl, HO.out, hb.out⟩
    | succ gf =>
      have hkl : k < L.length := by rw [HN.out]; omega
      have lt0 : (k : Int) < (n : Int) := by omega
      have hw1 : (k : Int) + 1 ≤ 6000000000000 := by have := H1K.out; omega
      have hk5 : (k + 1) * 24 ≤ 140737488355328 := by have := H1K.out; omega
      obtain ⟨b, off, hA, hbw, d0, d1, d2, d3⟩ := crd_at HL.out hkl
      have HX := Lib.hid (ctake hkl)
      obtain ⟨x, hx⟩ : ∃ x, cg L k = x := ⟨_, rfl⟩
      rw [hx] at d0 d1 d2 d3 HX
      subst hA
      have HLK : Hid ((L.take k).length = k) := Lib.hid (by simp; omega)
      have KS : Hid (∀ V, Below w.heap.size w V → V.cell? ⟨b, off + k * 4, none⟩ = some (.int .u32 x.i) ∧ V.cell? ⟨b, off + k * 4 + 1, none⟩ = some (.int .i64 x.p) ∧ V.cell? ⟨b, off + k * 4 + 2, none⟩ = some (.int .u32 x.d) ∧ V.cell? ⟨b, off + k * 4 + 3, none⟩ = some (.int .u32 x.b)) := Lib.hid (fun V hV => by
        have hc : ∀ i, V.cell? ⟨b, i, none⟩ = w.cell? ⟨b, i, none⟩ := fun i => World.cell?_of_block (hV.block b hbw)
        exact ⟨(hc _).trans d0, (hc _).trans d1, (hc _).trans d2, (hc _).trans d3⟩)
      have tt := hb.out
      have o := hO.out
      have rf := Below.refl wr.heap.size wr
      clear hx d0 d1 d2 d3 hbw hkl hO
      go_upto_region 5 with fail
      refine wp_region_held_drew (S := fun V => V.cell? ⟨b, off + k * 4, none⟩ = some (.int .u32 x.i) ∧ V.cell? ⟨b, off + k * 4 + 1, none⟩ = some (.int .i64 x.p) ∧ V.cell? ⟨b, off + k * 4 + 2, none⟩ = some (.int .u32 x.d) ∧ V.cell? ⟨b, off + k * 4 + 3, none⟩ = some (.int .u32 x.b)) (by kernel_rfl) (KS.out _ tt.drew) (fun hHeld => ?_)
      replace o := o.step rf.drew
      replace tt := tt.drew
      generalize hX0 : wr.drew = Y0 at tt o hHeld ⊢
      clear hX0 rf
      refine wpAnyH_take (i := 0) (v := ?_) rfl (by kernel_rfl) (by kernel_rfl) (by kernel_rfl) (fun _ _ _ h => h) (Or.inl ⟨by rfl, ?_⟩) (by assumption) ?_
      rotate_left
      · (intro w' hSw; (try dsimp only at hSw); go_simp; try with_reducible rfl)
      simp only [Act.put, List.getElem_toArray, List.getElem_cons_zero, List.setIfInBounds_toArray, List.set_cons_zero, List.set_cons_succ]
      refine wpAnyH_take (i := 1) (v := ?_) rfl (by kernel_rfl) (by kernel_rfl) (by kernel_rfl) (fun _ _ _ h => h) (Or.inl ⟨by rfl, ?_⟩) (by assumption) ?_
      rotate_left
      · (intro w' hSw; (try dsimp only at hSw); go_simp; try with_reducible rfl)
      simp only [Act.put, List.getElem_toArray, List.getElem_cons_zero, List.getElem_cons_succ, List.setIfInBounds_toArray, List.set_cons_zero, List.set_cons_succ]
      refine wpAnyH_take (i := 2) (v := ?_) rfl (by kernel_rfl) (by kernel_rfl) (by kernel_rfl) (fun _ _ _ h => h) (Or.inl ⟨by rfl, ?_⟩) (by assumption) ?_
      rotate_left
      · (intro w' hSw; (try dsimp only at hSw); go_simp; try with_reducible rfl)
      simp only [Act.put, List.getElem_toArray, List.getElem_cons_zero, List.getElem_cons_succ, List.setIfInBounds_toArray, List.set_cons_zero, List.set_cons_succ]
      refine wpAnyH_take (i := 3) (v := ?_) rfl (by kernel_rfl) (by kernel_rfl) (by kernel_rfl) (fun _ _ _ h => h) (Or.inl ⟨by rfl, ?_⟩) (by assumption) ?_
      rotate_left
      · (intro w' hSw; (try dsimp only at hSw); go_simp; try with_reducible rfl)
      simp only [Act.put, List.getElem_toArray, List.getElem_cons_zero, List.getElem_cons_succ, List.setIfInBounds_toArray, List.set_cons_zero, List.set_cons_succ]
      refine wpAnyH_take (i := 4) (v := ?_) rfl (by kernel_rfl) (by kernel_rfl) (by kernel_rfl) (fun _ _ _ h => h) (Or.inl ⟨by rfl, ?_⟩) (by assumption) ?_
      rotate_left
      · (intro w' hSw; (try dsimp only at hSw); go_simp; try with_reducible rfl)
      simp only [Act.put, List.getElem_toArray, List.getElem_cons_zero, List.getElem_cons_succ, List.setIfInBounds_toArray, List.set_cons_zero, List.set_cons_succ]
      refine wpAnyH_take (i := 5) (v := ?_) rfl (by kernel_rfl) (by kernel_rfl) (by kernel_rfl) (fun _ _ _ h => h) (Or.inl ⟨by rfl, ?_⟩) (by assumption) ?_
      rotate_left
      · (intro w' hSw; (try dsimp only at hSw); go_simp; try with_reducible rfl)
      simp only [Act.put, List.getElem_toArray, List.getElem_cons_zero, List.getElem_cons_succ, List.setIfInBounds_toArray, List.set_cons_zero, List.set_cons_succ]
      refine wpAnyH_take (i := 6) (v := ?_) rfl (by kernel_rfl) (by kernel_rfl) (by kernel_rfl) (fun _ _ _ h => h) (Or.inl ⟨by rfl, ?_⟩) (by assumption) ?_
      rotate_left
      · (intro w' hSw; (try dsimp only at hSw); go_simp; try with_reducible rfl)
      simp only [Act.put, List.getElem_toArray, List.getElem_cons_zero, List.getElem_cons_succ, List.setIfInBounds_toArray, List.set_cons_zero, List.set_cons_succ]
      refine wpAnyH_take (i := 7) (v := ?_) rfl (by kernel_rfl) (by kernel_rfl) (by kernel_rfl) (fun _ _ _ h => h) (Or.inl ⟨by rfl, ?_⟩) (by assumption) ?_
      rotate_left
      · (intro w' hSw; (try dsimp only at hSw); go_simp; try with_reducible rfl)
      simp only [Act.put, List.getElem_toArray, List.getElem_cons_zero, List.getElem_cons_succ, List.setIfInBounds_toArray, List.set_cons_zero, List.set_cons_succ]
      refine wpAnyH_take (i := 8) (v := ?_) rfl (by kernel_rfl) (by kernel_rfl) (by kernel_rfl) (fun _ _ _ h => h) (Or.inl ⟨by rfl, ?_⟩) (by assumption) ?_
      rotate_left
      · (intro w' hSw; (try dsimp only at hSw); go_simp; try with_reducible rfl)
      simp only [Act.put, List.getElem_toArray, List.getElem_cons_zero, List.getElem_cons_succ, List.setIfInBounds_toArray, List.set_cons_zero, List.set_cons_succ]
      refine wpAnyH_take (i := 9) (v := ?_) rfl (by kernel_rfl) (by kernel_rfl) (by kernel_rfl) (fun _ _ _ h => h) (Or.inl ⟨by rfl, ?_⟩) (by assumption) ?_
      rotate_left
      · (intro w' hSw; (try dsimp only at hSw); go_simp; try with_reducible rfl)
      simp only [Act.put, List.getElem_toArray, List.getElem_cons_zero, List.getElem_cons_succ, List.setIfInBounds_toArray, List.set_cons_zero, List.set_cons_succ]
      refine wpAnyH_take (i := 10) (v := ?_) rfl (by kernel_rfl) (by kernel_rfl) (by kernel_rfl) (fun _ _ _ h => h) (Or.inl ⟨by rfl, ?_⟩) (by assumption) ?_
      rotate_left
      · (intro w' hSw; (try dsimp only at hSw); go_simp; try with_reducible rfl)
      simp only [Act.put, List.getElem_toArray, List.getElem_cons_zero, List.getElem_cons_succ, List.setIfInBounds_toArray, List.set_cons_zero, List.set_cons_succ]
      refine wpAnyH_take (i := 11) (v := ?_) rfl (by kernel_rfl) (by kernel_rfl) (by kernel_rfl) (fun _ _ _ h => h) (Or.inl ⟨by rfl, ?_⟩) (by assumption) ?_
      rotate_left
      · (intro w' hSw; (try dsimp only at hSw); go_simp; try with_reducible rfl)
      simp only [Act.put, List.getElem_toArray, List.getElem_cons_zero, List.getElem_cons_succ, List.setIfInBounds_toArray, List.set_cons_zero, List.set_cons_succ]
      refine wpAnyH_take (i := 12) (v := ?_) rfl (by kernel_rfl) (by kernel_rfl) (by kernel_rfl) (fun _ _ _ h => h) (Or.inl ⟨by rfl, ?_⟩) (by assumption) ?_
      rotate_left
      · (intro w' hSw; (try dsimp only at hSw); go_simp; try with_reducible rfl)
      simp only [Act.put, List.getElem_toArray, List.getElem_cons_zero, List.getElem_cons_succ, List.setIfInBounds_toArray, List.set_cons_zero, List.set_cons_succ]
      refine wpAnyH_take (i := 13) (v := ?_) rfl (by kernel_rfl) (by kernel_rfl) (by kernel_rfl) (fun _ _ _ h => h) (Or.inl ⟨by rfl, ?_⟩) (by assumption) ?_
      rotate_left
      · (intro w' hSw; (try dsimp only at hSw); go_simp; try with_reducible rfl)
      simp only [Act.put, List.getElem_toArray, List.getElem_cons_zero, List.getElem_cons_succ, List.setIfInBounds_toArray, List.set_cons_zero, List.set_cons_succ]
      refine wpAnyH_take (i := 14) (v := ?_) rfl (by kernel_rfl) (by kernel_rfl) (by kernel_rfl) (fun _ _ _ h => h) (Or.inl ⟨by rfl, ?_⟩) (by assumption) ?_
      rotate_left
      · (intro w' hSw; (try dsimp only at hSw); go_simp; try with_reducible rfl)
      simp only [Act.put, List.getElem_toArray, List.getElem_cons_zero, List.getElem_cons_succ, List.setIfInBounds_toArray, List.set_cons_zero, List.set_cons_succ]
      refine wpAnyH_take (i := 15) (v := ?_) rfl (by kernel_rfl) (by kernel_rfl) (by kernel_rfl) (fun _ _ _ h => h) (Or.inl ⟨by rfl, ?_⟩) (by assumption) ?_
      rotate_left
      · (intro w' hSw; (try dsimp only at hSw); go_simp; try with_reducible rfl)
      simp only [Act.put, List.getElem_toArray, List.getElem_cons_zero, List.getElem_cons_succ, List.setIfInBounds_toArray, List.set_cons_zero, List.set_cons_succ]
      refine wpAnyH_take (i := 16) (v := ?_) rfl (by kernel_rfl) (by kernel_rfl) (by kernel_rfl) (fun _ _ _ h => h) (Or.inl ⟨by rfl, ?_⟩) (by assumption) ?_
      rotate_left
      · (intro w' hSw; (try dsimp only at hSw); go_simp; try with_reducible rfl)
      simp only [Act.put, List.getElem_toArray, List.getElem_cons_zero, List.getElem_cons_succ, List.setIfInBounds_toArray, List.set_cons_zero, List.set_cons_succ]
      refine wpAnyH_take (i := 17) (v := ?_) rfl (by kernel_rfl) (by kernel_rfl) (by kernel_rfl) (fun _ _ _ h => h) (Or.inl ⟨by rfl, ?_⟩) (by assumption) ?_
      rotate_left
      · (intro w' hSw; (try dsimp only at hSw); go_simp; try with_reducible rfl)
      simp only [Act.put, List.getElem_toArray, List.getElem_cons_zero, List.getElem_cons_succ, List.setIfInBounds_toArray, List.set_cons_zero, List.set_cons_succ]
      refine wpAnyH_take (i := 18) (v := ?_) rfl (by kernel_rfl) (by kernel_rfl) (by kernel_rfl) (fun _ _ _ h => h) (Or.inl ⟨by rfl, ?_⟩) (by assumption) ?_
      rotate_left
      · (intro w' hSw; (try dsimp only at hSw); go_simp; try with_reducible rfl)
      simp only [Act.put, List.getElem_toArray, List.getElem_cons_zero, List.getElem_cons_succ, List.setIfInBounds_toArray, List.set_cons_zero, List.set_cons_succ]
      refine wpAnyH_take (i := 19) (v := ?_) rfl (by kernel_rfl) (by kernel_rfl) (by kernel_rfl) (fun _ _ _ h => h) (Or.inl ⟨by rfl, ?_⟩) (by assumption) ?_
      rotate_left
      · (intro w' hSw; (try dsimp only at hSw); go_simp; try with_reducible rfl)
      simp only [Act.put, List.getElem_toArray, List.getElem_cons_zero, List.getElem_cons_succ, List.setIfInBounds_toArray, List.set_cons_zero, List.set_cons_succ]
      refine wpAnyH_take (i := 20) (v := ?_) rfl (by kernel_rfl) (by kernel_rfl) (by kernel_rfl) (fun _ _ _ h => h) (Or.inl ⟨by rfl, ?_⟩) (by assumption) ?_
      rotate_left
      · (intro w' hSw; (try dsimp only at hSw); go_simp; try with_reducible rfl)
      simp only [Act.put, List.getElem_toArray, List.getElem_cons_zero, List.getElem_cons_succ, List.setIfInBounds_toArray, List.set_cons_zero, List.set_cons_succ]
      refine wpAnyH_take (i := 21) (v := ?_) rfl (by kernel_rfl) (by kernel_rfl) (by kernel_rfl) (fun _ _ _ h => h) (Or.inl ⟨by rfl, ?_⟩) (by assumption) ?_
      rotate_left
      · (intro w' hSw; (try dsimp only at hSw); go_simp; try with_reducible rfl)
      simp only [Act.put, List.getElem_toArray, List.getElem_cons_zero, List.getElem_cons_succ, List.setIfInBounds_toArray, List.set_cons_zero, List.set_cons_succ]
      refine wpAnyH_ready (rs := [22]) (by kernel_rfl) (by simp) ?_
      refine AllReadyH.cons rfl (fun K hK => ?_) AllReadyH.nil
      have o_ := Lib.hid o
      go_simp
      obtain ⟨Y1, hY1⟩ : ∃ V, Y0.alloc (.cells #[Value.int .u32 x.i, .int .i64 x.p, .int .u32 x.d, .int .u32 x.b] 45) = V := ⟨_, rfl⟩
      have u1 : Below Y0.heap.size Y0 Y1 := by rw [← hY1]; exact below_alloc1 _ _
      have t_Y1 : Below w.heap.size w Y1 := tt.trans (u1.mono tt.size)
      replace o := o.step u1
      obtain ⟨k1, hk1⟩ : ∃ k, Y0.heap.size = k := ⟨_, rfl⟩
      try rw [hY1]
      try rw [hk1]
      refine hK.out _ _ (KS.out _ t_Y1) (fun _ => ?_)
      clear hK K
      refine wpAnyH_ready (rs := [23]) (by kernel_rfl) (by simp) ?_
      refine AllReadyH.cons rfl (fun K hK => ?_) AllReadyH.nil
      obtain ⟨g9, c9, Z9, r9, o9, u9⟩ := app4B (t := 28) Try.underlying28 infoR rfl o_.out HLK.out x hk5 k1 hk1 tt.size
      rw [show (ccs x).toArray = #[Value.int .u32 x.i, .int .i64 x.p, .int .u32 x.d, .int .u32 x.b] from rfl, hY1] at r9
      have O9 : Hid (Ow4 45 w.heap.size Z9 (some ⟨g9, 0, none⟩) c9 (L.take (k + 1))) := Lib.hid (by rw [HX.out]; exact o9)
      have T9 : Hid (Below w.heap.size w Z9) := Lib.hid (tt.trans u9)
      clear o9 u9 o o_
      refine step_runb _ rfl (.tmp 12) (.tmp 34) 28 rfl rfl rfl r9 ?_
      refine hK.out _ _ (KS.out _ T9.out) (fun _ => ?_)
      clear hK K
      refine wpAnyH_ready (rs := [24]) (by kernel_rfl) (by simp) ?_
      refine AllReadyH.cons rfl (fun K hK => ?_) AllReadyH.nil
      go_simp
      refine hK.out _ _ (KS.out _ T9.out) (fun _ => ?_)
      clear hK K
      refine wpAnyH_done (by kernel_rfl) ?_ _
      go_wp2
      go_roundg gf
      case measure => omega
      case rel => exact ⟨k + 1, _, c9, by go_num, by go_num, Lib.hid (by omega), O9, T9⟩
end Go.Proofs.Ytpfppacmldjioaa
