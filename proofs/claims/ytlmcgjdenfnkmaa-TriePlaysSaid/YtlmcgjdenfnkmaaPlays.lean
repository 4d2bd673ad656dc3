/-
  The walk of the law TriePlays. No statement is proved here; no conditions.
-/
import Derived.Test.YtlmcgjdenfnkmaaLongest
namespace Go.Proofs.Ytlmcgjdenfnkmaa
open Go.RowKit Go.Joins

/-- An act's variable. -/
abbrev abo (x : Ac) : Obj := .cells #[.bool x.d, .int .u32 (x.A : Int), .int .i64 x.N, .int .i64 x.V, .int .u32 (x.a : Int)] 30 (0, 0)
theorem blk5 {w : World} {b : Nat} {u v z r q : Value} {t : TypeId} (h : w.heap[b]? = some (.cells #[u, v, z, r, q] t (0, 0))) : w.cell? ⟨b, 0, none⟩ = some u ∧ w.cell? ⟨b, 1, none⟩ = some v ∧ w.cell? ⟨b, 2, none⟩ = some z ∧ w.cell? ⟨b, 3, none⟩ = some r ∧ w.cell? ⟨b, 4, none⟩ = some q ∧ w.frozen? ⟨b, 0, none⟩ = false ∧ w.frozen? ⟨b, 1, none⟩ = false ∧ w.frozen? ⟨b, 2, none⟩ = false ∧ w.frozen? ⟨b, 3, none⟩ = false ∧ w.frozen? ⟨b, 4, none⟩ = false :=
  ⟨(cell_of_row w b 0 _ _ _ h).trans rfl, (cell_of_row w b 1 _ _ _ h).trans rfl, (cell_of_row w b 2 _ _ _ h).trans rfl, (cell_of_row w b 3 _ _ _ h).trans rfl, (cell_of_row w b 4 _ _ _ h).trans rfl, by simp [World.frozen?, h], by simp [World.frozen?, h], by simp [World.frozen?, h], by simp [World.frozen?, h], by simp [World.frozen?, h]⟩
theorem blk5_set {w : World} {b : Nat} {u v z r q : Value} {t : TypeId} (u' v' z' r' q' : Value) (h : w.heap[b]? = some (.cells #[u, v, z, r, q] t (0, 0))) : (((((w.setCell ⟨b, 0, none⟩ u').setCell ⟨b, 1, none⟩ v').setCell ⟨b, 2, none⟩ z').setCell ⟨b, 3, none⟩ r').setCell ⟨b, 4, none⟩ q').heap[b]? = some (.cells #[u', v', z', r', q'] t (0, 0)) := by
  have h1 := heap_setCell_same w b 0 _ t u' h
  have h2 := heap_setCell_same _ b 1 _ t v' h1
  have h3 := heap_setCell_same _ b 2 _ t z' h2
  have h4 := heap_setCell_same _ b 3 _ t r' h3
  have h5 := heap_setCell_same _ b 4 _ t q' h4
  rw [h5]
  simp
/-- A variable of an act is made and stored into. -/
theorem stored5 (x : Ac) (W : World) : ∃ W1 W2, W.alloc (.cells #[.bool false, .int .u32 0, .int .i64 0, .int .i64 0, .int .u32 0] 30) = W1 ∧ (W1.cell? ⟨W.heap.size, 0, none⟩ = some (.bool false) ∧ W1.cell? ⟨W.heap.size, 1, none⟩ = some (.int .u32 0) ∧ W1.cell? ⟨W.heap.size, 2, none⟩ = some (.int .i64 0) ∧ W1.cell? ⟨W.heap.size, 3, none⟩ = some (.int .i64 0) ∧ W1.cell? ⟨W.heap.size, 4, none⟩ = some (.int .u32 0) ∧ W1.frozen? ⟨W.heap.size, 0, none⟩ = false ∧ W1.frozen? ⟨W.heap.size, 1, none⟩ = false ∧ W1.frozen? ⟨W.heap.size, 2, none⟩ = false ∧ W1.frozen? ⟨W.heap.size, 3, none⟩ = false ∧ W1.frozen? ⟨W.heap.size, 4, none⟩ = false) ∧
    ((((W1.setCell ⟨W.heap.size, 0, none⟩ (.bool x.d)).setCell ⟨W.heap.size, 1, none⟩ (.int .u32 (x.A : Int))).setCell ⟨W.heap.size, 2, none⟩ (.int .i64 x.N)).setCell ⟨W.heap.size, 3, none⟩ (.int .i64 x.V)).setCell ⟨W.heap.size, 4, none⟩ (.int .u32 (x.a : Int)) = W2 ∧ W2.heap[W.heap.size]? = some (abo x) ∧ Below W.heap.size W W2 := by
  have h : (W.alloc (.cells #[.bool false, .int .u32 0, .int .i64 0, .int .i64 0, .int .u32 0] 30)).heap[W.heap.size]? = some (.cells #[.bool false, .int .u32 0, .int .i64 0, .int .i64 0, .int .u32 0] 30 (0, 0)) := Go.heap_alloc_new _ _
  refine ⟨_, _, rfl, blk5 h, rfl, blk5_set _ _ _ _ _ h, ?_⟩
  exact Below.setCell (Below.setCell (Below.setCell (Below.setCell (Below.setCell (below_alloc1 _ _) (by simp) _) (by simp) _) (by simp) _) (by simp) _) (by simp) _
theorem Ls.grewk {w0 w w' : World} {tb : Nat} {mt mr mt' : List En} {A : Option Addr} {S : Nat → Prop} (h : Ls w0 tb mt mr A S w) (hg : Grew S w tb mt' w') : ∃ S', Ls w0 tb mt' mr A S' w' ∧ ∀ j, j < w.heap.size → ¬ S j → ¬ S' j ∧ w'.heap[j]? = w.heap[j]? := by
  obtain ⟨S', h1, h2, h3⟩ := hg
  have hs := h2.size
  have hw := h.bel.size
  refine ⟨S', ⟨h1, fun j hj => ?_, (h.row.kp h2 (fun j hj => hj.2.2)).more (fun j hj _ => ⟨hj.1, by omega, fun hq => ?_⟩), h.bel.trans (h2.below (fun j hj => (h.own j hj).1) h.bel.size)⟩, fun j hj hn => ⟨fun hq => ?_, h2.block j hj hn⟩⟩
  · rcases h3 j hj with q | q
    · have := h.own j q; omega
    · omega
  · rcases h3 j hq with q | q
    · exact hj.2.2 q
    · omega
  · rcases h3 j hq with q | q
    · exact hn q
    · omega
set_option maxRecDepth 100000 in
set_option maxHeartbeats 8000000 in
theorem plays_walk (A0 : Option Addr) (c : Nat) (s : List Ac) (A : Nat) (N : Int) (w : World) (hs : Sc (· < w.heap.size) w A0 s) (hA : A < 4294967296) :
    Calls Try.prog 3 #[.slice A0 s.length c, pf A N] w fun e w' => e = .returned (.bool true) ∧ Below w.heap.size w w' := by
  have K := box_at (w := w) (u := .int .u32 (A : Int)) (v := .int .i64 N) (t := 25) (B := w.heap.size + 1) (by omega)
  have B0 := below_alloc1 w (.cells #[.int .u32 (A : Int), .int .i64 N] 25)
  obtain ⟨W0, hW0⟩ : ∃ W0, w.alloc (.cells #[.int .u32 (A : Int), .int .i64 N] 25) = W0 := ⟨_, rfl⟩
  have hs0 : W0.heap.size = w.heap.size + 1 := by rw [← hW0]; simp
  rw [hW0] at K B0
  have HS : Hid (∀ V, Below W0.heap.size W0 V → Sc (· < w.heap.size) V A0 s) := Lib.hid (fun V hV => (hs.below B0 (fun _ h => h)).below hV (fun _ h => by omega))
  have KP : Hid (∀ V, Below W0.heap.size W0 V → V.cell? ⟨w.heap.size, 0, none⟩ = some (.int .u32 (A : Int)) ∧ V.cell? ⟨w.heap.size, 1, none⟩ = some (.int .i64 N)) := Lib.hid (fun V hV => by
    obtain ⟨h1, h2, _, _⟩ := K V (hV.mono (by omega))
    exact ⟨h1, h2⟩)
  have HB0 := Lib.hid B0
  obtain ⟨sn, hsn⟩ : ∃ sn, s.length = sn := ⟨_, rfl⟩
  obtain ⟨n, hn⟩ : ∃ n, min sn 150 = n := ⟨_, rfl⟩
  have HSN := Lib.hid hsn
  have hn1 : n ≤ sn := by omega
  have hn2 : n ≤ 150 := by omega
  have HN := Lib.hid hn
  rw [hsn]
  clear hs hsn hn K B0
  go_enter Try.func3, Try.ntmps3
  go_wp2_with fail
  refine (new_any _).mono ?_
  rintro e W1 ⟨rfl, b1, s1, t1⟩
  have l1 := fun A => Ls.start W0 t1 b1 s1 A
  obtain ⟨W2, hW2⟩ : ∃ W2, W1.alloc (.cells #[] 39) = W2 := ⟨_, rfl⟩
  have b2 : Below W1.heap.size W1 W2 := by rw [← hW2]; exact below_alloc1 _ _
  have L2 := Lib.hid (fun A => (l1 A).below b2)
  obtain ⟨tb, htb⟩ : ∃ tb, W0.heap.size = tb := ⟨_, rfl⟩
  have HTB := Lib.hid htb
  have L3 : Hid (∀ A, Ls W0 tb [] [] A (· = W0.heap.size) W2) := Lib.hid (fun A => by rw [← htb]; exact L2.out A)
  rw [htb]
  clear b1 t1 l1 b2 htb L2
  go_wp2_with fail
  clear hW2 hW0
  go_loopg [6, 7] n (fun gf v6 v7 wx => ∃ (k : Nat) (A' : Option Addr) (c' : Nat) (M : List En), v6 = .slice A' M.length c' ∧ v7 = .int .i64 (k : Int) ∧ Hid (gf + k = n) ∧ Hid (M.length ≤ k) ∧ Hid (∃ S, Ls W0 tb M M A' S wx))
  case atStart => exact ⟨0, _, _, [], rfl, rfl, Lib.hid (by omega), Lib.hid (by simp), Lib.hid ⟨_, L3.out _⟩⟩
  case round =>
    obtain ⟨k, A', c', M, rfl, rfl, hk, hMl, hL⟩ := hrel
    have hk' := hk.out
    clear L3
    cases gk with
    | zero =>
      have e1 : k = n := by omega
      have hM150 : M.length ≤ 150 := by have := hMl.out; omega
      obtain ⟨S, hL⟩ := hL.out
      have HL := Lib.hid hL.drew
      have HMS := Lib.hid (show ∀ x ∈ M, x.A < 4294967296 from hL.tz.om.lt)
      obtain ⟨mn, hmn⟩ : ∃ mn, M.length = mn := ⟨_, rfl⟩
      have HMN := Lib.hid hmn
      rw [hmn] at hM150 ⊢
      clear hL hmn hMl
      by_cases hq : k < sn
      · have lt0 : (k : Int) < (sn : Int) := by omega
        have h150 : k = 150 := by have := HN.out; omega
        have lt2 : decide ((k : Int) < 150) = false := by simp; omega
        clear e1 hk' hk h150
        go_upto_region 24 with fail
        refine wp_region_held_drew (S := fun V => V.cell? ⟨w.heap.size, 0, none⟩ = some (.int .u32 (A : Int)) ∧ V.cell? ⟨w.heap.size, 1, none⟩ = some (.int .i64 N)) (by kernel_rfl) (KP.out _ HL.out.bel) (fun hHeld => ?_)
        obtain ⟨X0, hX0⟩ : ∃ X, wr.drew = X := ⟨_, rfl⟩
        rw [hX0] at HL ⊢
        clear hX0 hHeld
        refine wpAnyH_ready (rs := [0]) (by kernel_rfl) (by simp) ?_
        refine AllReadyH.cons rfl (fun K hK => ?_) AllReadyH.nil
        go_simp
        go_at_call 17
        refine (alive_any X0).mono ?_
        rintro e X1 ⟨rfl, hb⟩
        have L1 := Lib.hid (HL.out.below hb)
        clear hb HL
        refine hK.out _ _ (KP.out _ L1.out.bel) (fun hHeld => ?_)
        clear hK K
        refine wpAnyH_take (i := 1) (v := ?_) rfl (by kernel_rfl) (by kernel_rfl) (by kernel_rfl) (fun _ _ _ h => h) (Or.inl ⟨by rfl, ?_⟩) (by assumption) ?_
        rotate_left
        · (intro w' hSw; (try dsimp only at hSw); go_simp; try with_reducible rfl)
        simp only [Act.put, List.getElem_toArray, List.getElem_cons_zero, List.getElem_cons_succ, List.setIfInBounds_toArray, List.set_cons_zero, List.set_cons_succ]
        refine wpAnyH_take (i := 2) (v := ?_) rfl (by kernel_rfl) (by kernel_rfl) (by kernel_rfl) (fun _ _ _ h => h) (Or.inl ⟨by rfl, ?_⟩) (by assumption) ?_
        rotate_left
        · (intro w' hSw; (try dsimp only at hSw); go_simp; try with_reducible rfl)
        simp only [Act.put, List.getElem_toArray, List.getElem_cons_zero, List.getElem_cons_succ, List.setIfInBounds_toArray, List.set_cons_zero, List.set_cons_succ]
        refine wpAnyH_take (i := 4) (v := ?_) rfl (by kernel_rfl) (by kernel_rfl) (by kernel_rfl) (fun _ _ _ h => h) (Or.inl ⟨by rfl, ?_⟩) (by assumption) ?_
        rotate_left
        · (intro w' hSw; (try dsimp only at hSw); go_simp; try with_reducible rfl)
        simp only [Act.put, List.getElem_toArray, List.getElem_cons_zero, List.getElem_cons_succ, List.setIfInBounds_toArray, List.set_cons_zero, List.set_cons_succ]
        refine wpAnyH_ready (rs := [3]) (by kernel_rfl) (by simp) ?_
        refine AllReadyH.cons rfl (fun K hK => ?_) AllReadyH.nil
        go_simp
        go_at_call 19
        refine (walk_any S tb M X1 L1.out.tz (by rw [HMN.out]; omega)).mono ?_
        rintro e X2 ⟨A3, c3, rfl, ho3, hb⟩
        have L2 := Lib.hid (L1.out.below hb)
        have O3 := Lib.hid ho3
        rw [HMN.out]
        clear hb L1 ho3
        refine hK.out _ _ (KP.out _ L2.out.bel) (fun hHeld => ?_)
        clear hK K
        have cs := same_any _ _ A3 A' c3 c' M M X2 O3.out.rd L2.out.row (by rw [HMN.out]; omega)
        rw [decide_eq_true rfl, HMN.out] at cs
        refine wpAnyH_ready (rs := [5]) (by kernel_rfl) (by simp) ?_
        refine AllReadyH.cons rfl (fun K hK => ?_) AllReadyH.nil
        go_simp
        go_at_call 18
        refine (cs).mono ?_
        rintro e X3 ⟨rfl, hb⟩
        have L3 := Lib.hid (L2.out.below hb)
        clear hb L2 O3 cs
        refine hK.out _ _ (KP.out _ L3.out.bel) (fun hHeld => ?_)
        clear hK K
        refine wpAnyH_take (i := 6) (v := ?_) rfl (by kernel_rfl) (by kernel_rfl) (by kernel_rfl) (fun _ _ _ h => h) (Or.inl ⟨by rfl, ?_⟩) (by assumption) ?_
        rotate_left
        · (intro w' hSw; (try dsimp only at hSw); go_simp; try with_reducible rfl)
        simp only [Act.put, List.getElem_toArray, List.getElem_cons_zero, List.getElem_cons_succ, List.setIfInBounds_toArray, List.set_cons_zero, List.set_cons_succ]
        refine wpAnyH_take (i := 7) (v := ?_) rfl (by kernel_rfl) (by kernel_rfl) (by kernel_rfl) (fun _ _ _ h => h) (Or.inl ⟨by rfl, ?_⟩) (by assumption) ?_
        rotate_left
        · (intro w' hSw; (try dsimp only at hSw); go_simp; try with_reducible rfl)
        simp only [Act.put, List.getElem_toArray, List.getElem_cons_zero, List.getElem_cons_succ, List.setIfInBounds_toArray, List.set_cons_zero, List.set_cons_succ]
        refine wpAnyH_take (i := 8) (v := ?_) rfl (by kernel_rfl) (by kernel_rfl) (by kernel_rfl) (fun _ _ _ h => h) (Or.inl ⟨by rfl, ?_⟩) (by assumption) ?_
        rotate_left
        · (intro w' hSw; (try dsimp only at hSw); go_simp; try with_reducible rfl)
        simp only [Act.put, List.getElem_toArray, List.getElem_cons_zero, List.getElem_cons_succ, List.setIfInBounds_toArray, List.set_cons_zero, List.set_cons_succ]
        refine wpAnyH_take (i := 9) (v := ?_) rfl (by kernel_rfl) (by kernel_rfl) (by kernel_rfl) (fun _ _ _ h => h) (Or.inl ⟨by rfl, ?_⟩) (by assumption) ?_
        rotate_left
        · (intro w' hSw; (try dsimp only at hSw); go_simp; try with_reducible rfl)
        simp only [Act.put, List.getElem_toArray, List.getElem_cons_zero, List.getElem_cons_succ, List.setIfInBounds_toArray, List.set_cons_zero, List.set_cons_succ]
        refine wpAnyH_take (i := 11) (v := ?_) rfl (by kernel_rfl) (by kernel_rfl) (by kernel_rfl) (fun _ _ _ h => h) (Or.inl ⟨by rfl, ?_⟩) (by assumption) ?_
        rotate_left
        · (intro w' hSw; (try dsimp only at hSw); go_simp; try with_reducible rfl)
        simp only [Act.put, List.getElem_toArray, List.getElem_cons_zero, List.getElem_cons_succ, List.setIfInBounds_toArray, List.set_cons_zero, List.set_cons_succ]
        refine wpAnyH_take (i := 12) (v := ?_) rfl (by kernel_rfl) (by kernel_rfl) (by kernel_rfl) (fun _ _ _ h => h) (Or.inl ⟨by rfl, ?_⟩) (by assumption) ?_
        rotate_left
        · (intro w' hSw; (try dsimp only at hSw); go_simp; try with_reducible rfl)
        simp only [Act.put, List.getElem_toArray, List.getElem_cons_zero, List.getElem_cons_succ, List.setIfInBounds_toArray, List.set_cons_zero, List.set_cons_succ]
        refine wpAnyH_ready (rs := [10]) (by kernel_rfl) (by simp) ?_
        refine AllReadyH.cons rfl (fun K hK => ?_) AllReadyH.nil
        go_simp
        go_at_call 20
        refine (below_any S tb A N M X3 L3.out.tz hA (by rw [HMN.out]; omega)).mono ?_
        rintro e X4 ⟨A4, c4, rfl, ho4, hb⟩
        have L4 := Lib.hid (L3.out.below hb)
        have O4 := Lib.hid ho4
        clear hb L3 ho4
        refine hK.out _ _ (KP.out _ L4.out.bel) (fun hHeld => ?_)
        clear hK K
        have cb := rbelow_any _ A' c' M A N X4 L4.out.row (by rw [HMN.out]; omega) hA HMS.out
        rw [HMN.out] at cb
        refine wpAnyH_ready (rs := [13]) (by kernel_rfl) (by simp) ?_
        refine AllReadyH.cons rfl (fun K hK => ?_) AllReadyH.nil
        go_simp
        go_at_call 21
        refine (cb).mono ?_
        rintro e X5 ⟨A5, c5, rfl, ho5, hb⟩
        have L5 := Lib.hid (L4.out.below hb)
        have O4' := Lib.hid (O4.out.below hb)
        have O5 := Lib.hid ho5
        clear hb L4 ho5 O4 cb
        refine hK.out _ _ (KP.out _ L5.out.bel) (fun hHeld => ?_)
        clear hK K
        have cs := same_any _ _ A4 A5 c4 c5 (M.filter fun x => covp A N x.A x.N) (M.filter fun x => covp A N x.A x.N) X5 O4'.out.rd O5.out.rd (by have h1 := List.length_filter_le (fun x => covp A N x.A x.N) M; have h2 := HMN.out; omega)
        rw [decide_eq_true rfl] at cs
        refine wpAnyH_ready (rs := [14]) (by kernel_rfl) (by simp) ?_
        refine AllReadyH.cons rfl (fun K hK => ?_) AllReadyH.nil
        go_simp
        go_at_call 18
        refine (cs).mono ?_
        rintro e X6 ⟨rfl, hb⟩
        have L6 := Lib.hid (L5.out.below hb)
        clear hb L5 O4' O5 cs
        refine hK.out _ _ (KP.out _ L6.out.bel) (fun hHeld => ?_)
        clear hK K
        refine wpAnyH_take (i := 15) (v := ?_) rfl (by kernel_rfl) (by kernel_rfl) (by kernel_rfl) (fun _ _ _ h => h) (Or.inl ⟨by rfl, ?_⟩) (by assumption) ?_
        rotate_left
        · (intro w' hSw; (try dsimp only at hSw); go_simp; try with_reducible rfl)
        simp only [Act.put, List.getElem_toArray, List.getElem_cons_zero, List.getElem_cons_succ, List.setIfInBounds_toArray, List.set_cons_zero, List.set_cons_succ]
        refine wpAnyH_take (i := 16) (v := ?_) rfl (by kernel_rfl) (by kernel_rfl) (by kernel_rfl) (fun _ _ _ h => h) (Or.inl ⟨by rfl, ?_⟩) (by assumption) ?_
        rotate_left
        · (intro w' hSw; (try dsimp only at hSw); go_simp; try with_reducible rfl)
        simp only [Act.put, List.getElem_toArray, List.getElem_cons_zero, List.getElem_cons_succ, List.setIfInBounds_toArray, List.set_cons_zero, List.set_cons_succ]
        refine wpAnyH_take (i := 17) (v := ?_) rfl (by kernel_rfl) (by kernel_rfl) (by kernel_rfl) (fun _ _ _ h => h) (Or.inl ⟨by rfl, ?_⟩) (by assumption) ?_
        rotate_left
        · (intro w' hSw; (try dsimp only at hSw); go_simp; try with_reducible rfl)
        simp only [Act.put, List.getElem_toArray, List.getElem_cons_zero, List.getElem_cons_succ, List.setIfInBounds_toArray, List.set_cons_zero, List.set_cons_succ]
        refine wpAnyH_take (i := 18) (v := ?_) rfl (by kernel_rfl) (by kernel_rfl) (by kernel_rfl) (fun _ _ _ h => h) (Or.inl ⟨by rfl, ?_⟩) (by assumption) ?_
        rotate_left
        · (intro w' hSw; (try dsimp only at hSw); go_simp; try with_reducible rfl)
        simp only [Act.put, List.getElem_toArray, List.getElem_cons_zero, List.getElem_cons_succ, List.setIfInBounds_toArray, List.set_cons_zero, List.set_cons_succ]
        refine wpAnyH_take (i := 20) (v := ?_) rfl (by kernel_rfl) (by kernel_rfl) (by kernel_rfl) (fun _ _ _ h => h) (Or.inl ⟨by rfl, ?_⟩) (by assumption) ?_
        rotate_left
        · (intro w' hSw; (try dsimp only at hSw); go_simp; try with_reducible rfl)
        simp only [Act.put, List.getElem_toArray, List.getElem_cons_zero, List.getElem_cons_succ, List.setIfInBounds_toArray, List.set_cons_zero, List.set_cons_succ]
        refine wpAnyH_take (i := 21) (v := ?_) rfl (by kernel_rfl) (by kernel_rfl) (by kernel_rfl) (fun _ _ _ h => h) (Or.inl ⟨by rfl, ?_⟩) (by assumption) ?_
        rotate_left
        · (intro w' hSw; (try dsimp only at hSw); go_simp; try with_reducible rfl)
        simp only [Act.put, List.getElem_toArray, List.getElem_cons_zero, List.getElem_cons_succ, List.setIfInBounds_toArray, List.set_cons_zero, List.set_cons_succ]
        refine wpAnyH_ready (rs := [19]) (by kernel_rfl) (by simp) ?_
        refine AllReadyH.cons rfl (fun K hK => ?_) AllReadyH.nil
        go_simp
        go_at_call 22
        refine (above_any S tb A N M X6 L6.out.tz hA).mono ?_
        rintro e X7 ⟨A7, c7, rfl, ho7, hb⟩
        have L7 := Lib.hid (L6.out.below hb)
        have O7 := Lib.hid ho7
        clear hb L6 ho7
        refine hK.out _ _ (KP.out _ L7.out.bel) (fun hHeld => ?_)
        clear hK K
        have cb := rabove_any _ A' c' M A N X7 L7.out.row (by rw [HMN.out]; omega) hA HMS.out
        rw [HMN.out] at cb
        refine wpAnyH_ready (rs := [22]) (by kernel_rfl) (by simp) ?_
        refine AllReadyH.cons rfl (fun K hK => ?_) AllReadyH.nil
        go_simp
        go_at_call 23
        refine (cb).mono ?_
        rintro e X8 ⟨A8, c8, rfl, ho8, hb⟩
        have L8 := Lib.hid (L7.out.below hb)
        have O7' := Lib.hid (O7.out.below hb)
        have O8 := Lib.hid ho8
        clear hb L7 ho8 O7 cb
        refine hK.out _ _ (KP.out _ L8.out.bel) (fun hHeld => ?_)
        clear hK K
        have cs := same_any _ _ A7 A8 c7 c8 (abv M A N) (abv M A N) X8 O7'.out.rd O8.out.rd (by have := abv_len L8.out.tz.om (N := N) hA; omega)
        rw [decide_eq_true rfl] at cs
        refine wpAnyH_ready (rs := [23]) (by kernel_rfl) (by simp) ?_
        refine AllReadyH.cons rfl (fun K hK => ?_) AllReadyH.nil
        go_simp
        go_at_call 18
        refine (cs).mono ?_
        rintro e X9 ⟨rfl, hb⟩
        have L9 := Lib.hid (L8.out.below hb)
        clear hb L8 O7' O8 cs
        refine hK.out _ _ (KP.out _ L9.out.bel) (fun hHeld => ?_)
        clear hK K
        refine wpAnyH_take (i := 24) (v := ?_) rfl (by kernel_rfl) (by kernel_rfl) (by kernel_rfl) (fun _ _ _ h => h) (Or.inl ⟨by rfl, ?_⟩) (by assumption) ?_
        rotate_left
        · (intro w' hSw; (try dsimp only at hSw); go_simp; try with_reducible rfl)
        simp only [Act.put, List.getElem_toArray, List.getElem_cons_zero, List.getElem_cons_succ, List.setIfInBounds_toArray, List.set_cons_zero, List.set_cons_succ]
        refine wpAnyH_take (i := 25) (v := ?_) rfl (by kernel_rfl) (by kernel_rfl) (by kernel_rfl) (fun _ _ _ h => h) (Or.inl ⟨by rfl, ?_⟩) (by assumption) ?_
        rotate_left
        · (intro w' hSw; (try dsimp only at hSw); go_simp; try with_reducible rfl)
        simp only [Act.put, List.getElem_toArray, List.getElem_cons_zero, List.getElem_cons_succ, List.setIfInBounds_toArray, List.set_cons_zero, List.set_cons_succ]
        refine wpAnyH_done (by kernel_rfl) ?_ _
        go_wp2
        go_ret
        exact ⟨rfl, HB0.out.trans (L9.out.bel.mono HB0.out.size)⟩
      · have lt0 : decide ((k : Int) < (sn : Int)) = false := by simp; omega
        have lt1 : decide (k < sn) = false := by simp; omega
        clear e1 hk' hk hq
        go_upto_region 24 with fail
        refine wp_region_held_drew (S := fun V => V.cell? ⟨w.heap.size, 0, none⟩ = some (.int .u32 (A : Int)) ∧ V.cell? ⟨w.heap.size, 1, none⟩ = some (.int .i64 N)) (by kernel_rfl) (KP.out _ HL.out.bel) (fun hHeld => ?_)
        obtain ⟨X0, hX0⟩ : ∃ X, wr.drew = X := ⟨_, rfl⟩
        rw [hX0] at HL ⊢
        clear hX0 hHeld
        refine wpAnyH_ready (rs := [0]) (by kernel_rfl) (by simp) ?_
        refine AllReadyH.cons rfl (fun K hK => ?_) AllReadyH.nil
        go_simp
        go_at_call 17
        refine (alive_any X0).mono ?_
        rintro e X1 ⟨rfl, hb⟩
        have L1 := Lib.hid (HL.out.below hb)
        clear hb HL
        refine hK.out _ _ (KP.out _ L1.out.bel) (fun hHeld => ?_)
        clear hK K
        refine wpAnyH_take (i := 1) (v := ?_) rfl (by kernel_rfl) (by kernel_rfl) (by kernel_rfl) (fun _ _ _ h => h) (Or.inl ⟨by rfl, ?_⟩) (by assumption) ?_
        rotate_left
        · (intro w' hSw; (try dsimp only at hSw); go_simp; try with_reducible rfl)
        simp only [Act.put, List.getElem_toArray, List.getElem_cons_zero, List.getElem_cons_succ, List.setIfInBounds_toArray, List.set_cons_zero, List.set_cons_succ]
        refine wpAnyH_take (i := 2) (v := ?_) rfl (by kernel_rfl) (by kernel_rfl) (by kernel_rfl) (fun _ _ _ h => h) (Or.inl ⟨by rfl, ?_⟩) (by assumption) ?_
        rotate_left
        · (intro w' hSw; (try dsimp only at hSw); go_simp; try with_reducible rfl)
        simp only [Act.put, List.getElem_toArray, List.getElem_cons_zero, List.getElem_cons_succ, List.setIfInBounds_toArray, List.set_cons_zero, List.set_cons_succ]
        refine wpAnyH_take (i := 4) (v := ?_) rfl (by kernel_rfl) (by kernel_rfl) (by kernel_rfl) (fun _ _ _ h => h) (Or.inl ⟨by rfl, ?_⟩) (by assumption) ?_
        rotate_left
        · (intro w' hSw; (try dsimp only at hSw); go_simp; try with_reducible rfl)
        simp only [Act.put, List.getElem_toArray, List.getElem_cons_zero, List.getElem_cons_succ, List.setIfInBounds_toArray, List.set_cons_zero, List.set_cons_succ]
        refine wpAnyH_ready (rs := [3]) (by kernel_rfl) (by simp) ?_
        refine AllReadyH.cons rfl (fun K hK => ?_) AllReadyH.nil
        go_simp
        go_at_call 19
        refine (walk_any S tb M X1 L1.out.tz (by rw [HMN.out]; omega)).mono ?_
        rintro e X2 ⟨A3, c3, rfl, ho3, hb⟩
        have L2 := Lib.hid (L1.out.below hb)
        have O3 := Lib.hid ho3
        rw [HMN.out]
        clear hb L1 ho3
        refine hK.out _ _ (KP.out _ L2.out.bel) (fun hHeld => ?_)
        clear hK K
        have cs := same_any _ _ A3 A' c3 c' M M X2 O3.out.rd L2.out.row (by rw [HMN.out]; omega)
        rw [decide_eq_true rfl, HMN.out] at cs
        refine wpAnyH_ready (rs := [5]) (by kernel_rfl) (by simp) ?_
        refine AllReadyH.cons rfl (fun K hK => ?_) AllReadyH.nil
        go_simp
        go_at_call 18
        refine (cs).mono ?_
        rintro e X3 ⟨rfl, hb⟩
        have L3 := Lib.hid (L2.out.below hb)
        clear hb L2 O3 cs
        refine hK.out _ _ (KP.out _ L3.out.bel) (fun hHeld => ?_)
        clear hK K
        refine wpAnyH_take (i := 6) (v := ?_) rfl (by kernel_rfl) (by kernel_rfl) (by kernel_rfl) (fun _ _ _ h => h) (Or.inl ⟨by rfl, ?_⟩) (by assumption) ?_
        rotate_left
        · (intro w' hSw; (try dsimp only at hSw); go_simp; try with_reducible rfl)
        simp only [Act.put, List.getElem_toArray, List.getElem_cons_zero, List.getElem_cons_succ, List.setIfInBounds_toArray, List.set_cons_zero, List.set_cons_succ]
        refine wpAnyH_take (i := 7) (v := ?_) rfl (by kernel_rfl) (by kernel_rfl) (by kernel_rfl) (fun _ _ _ h => h) (Or.inl ⟨by rfl, ?_⟩) (by assumption) ?_
        rotate_left
        · (intro w' hSw; (try dsimp only at hSw); go_simp; try with_reducible rfl)
        simp only [Act.put, List.getElem_toArray, List.getElem_cons_zero, List.getElem_cons_succ, List.setIfInBounds_toArray, List.set_cons_zero, List.set_cons_succ]
        refine wpAnyH_take (i := 8) (v := ?_) rfl (by kernel_rfl) (by kernel_rfl) (by kernel_rfl) (fun _ _ _ h => h) (Or.inl ⟨by rfl, ?_⟩) (by assumption) ?_
        rotate_left
        · (intro w' hSw; (try dsimp only at hSw); go_simp; try with_reducible rfl)
        simp only [Act.put, List.getElem_toArray, List.getElem_cons_zero, List.getElem_cons_succ, List.setIfInBounds_toArray, List.set_cons_zero, List.set_cons_succ]
        refine wpAnyH_take (i := 9) (v := ?_) rfl (by kernel_rfl) (by kernel_rfl) (by kernel_rfl) (fun _ _ _ h => h) (Or.inl ⟨by rfl, ?_⟩) (by assumption) ?_
        rotate_left
        · (intro w' hSw; (try dsimp only at hSw); go_simp; try with_reducible rfl)
        simp only [Act.put, List.getElem_toArray, List.getElem_cons_zero, List.getElem_cons_succ, List.setIfInBounds_toArray, List.set_cons_zero, List.set_cons_succ]
        refine wpAnyH_take (i := 11) (v := ?_) rfl (by kernel_rfl) (by kernel_rfl) (by kernel_rfl) (fun _ _ _ h => h) (Or.inl ⟨by rfl, ?_⟩) (by assumption) ?_
        rotate_left
        · (intro w' hSw; (try dsimp only at hSw); go_simp; try with_reducible rfl)
        simp only [Act.put, List.getElem_toArray, List.getElem_cons_zero, List.getElem_cons_succ, List.setIfInBounds_toArray, List.set_cons_zero, List.set_cons_succ]
        refine wpAnyH_take (i := 12) (v := ?_) rfl (by kernel_rfl) (by kernel_rfl) (by kernel_rfl) (fun _ _ _ h => h) (Or.inl ⟨by rfl, ?_⟩) (by assumption) ?_
        rotate_left
        · (intro w' hSw; (try dsimp only at hSw); go_simp; try with_reducible rfl)
        simp only [Act.put, List.getElem_toArray, List.getElem_cons_zero, List.getElem_cons_succ, List.setIfInBounds_toArray, List.set_cons_zero, List.set_cons_succ]
        refine wpAnyH_ready (rs := [10]) (by kernel_rfl) (by simp) ?_
        refine AllReadyH.cons rfl (fun K hK => ?_) AllReadyH.nil
        go_simp
        go_at_call 20
        refine (below_any S tb A N M X3 L3.out.tz hA (by rw [HMN.out]; omega)).mono ?_
        rintro e X4 ⟨A4, c4, rfl, ho4, hb⟩
        have L4 := Lib.hid (L3.out.below hb)
        have O4 := Lib.hid ho4
        clear hb L3 ho4
        refine hK.out _ _ (KP.out _ L4.out.bel) (fun hHeld => ?_)
        clear hK K
        have cb := rbelow_any _ A' c' M A N X4 L4.out.row (by rw [HMN.out]; omega) hA HMS.out
        rw [HMN.out] at cb
        refine wpAnyH_ready (rs := [13]) (by kernel_rfl) (by simp) ?_
        refine AllReadyH.cons rfl (fun K hK => ?_) AllReadyH.nil
        go_simp
        go_at_call 21
        refine (cb).mono ?_
        rintro e X5 ⟨A5, c5, rfl, ho5, hb⟩
        have L5 := Lib.hid (L4.out.below hb)
        have O4' := Lib.hid (O4.out.below hb)
        have O5 := Lib.hid ho5
        clear hb L4 ho5 O4 cb
        refine hK.out _ _ (KP.out _ L5.out.bel) (fun hHeld => ?_)
        clear hK K
        have cs := same_any _ _ A4 A5 c4 c5 (M.filter fun x => covp A N x.A x.N) (M.filter fun x => covp A N x.A x.N) X5 O4'.out.rd O5.out.rd (by have h1 := List.length_filter_le (fun x => covp A N x.A x.N) M; have h2 := HMN.out; omega)
        rw [decide_eq_true rfl] at cs
        refine wpAnyH_ready (rs := [14]) (by kernel_rfl) (by simp) ?_
        refine AllReadyH.cons rfl (fun K hK => ?_) AllReadyH.nil
        go_simp
        go_at_call 18
        refine (cs).mono ?_
        rintro e X6 ⟨rfl, hb⟩
        have L6 := Lib.hid (L5.out.below hb)
        clear hb L5 O4' O5 cs
        refine hK.out _ _ (KP.out _ L6.out.bel) (fun hHeld => ?_)
        clear hK K
        refine wpAnyH_take (i := 15) (v := ?_) rfl (by kernel_rfl) (by kernel_rfl) (by kernel_rfl) (fun _ _ _ h => h) (Or.inl ⟨by rfl, ?_⟩) (by assumption) ?_
        rotate_left
        · (intro w' hSw; (try dsimp only at hSw); go_simp; try with_reducible rfl)
        simp only [Act.put, List.getElem_toArray, List.getElem_cons_zero, List.getElem_cons_succ, List.setIfInBounds_toArray, List.set_cons_zero, List.set_cons_succ]
        refine wpAnyH_take (i := 16) (v := ?_) rfl (by kernel_rfl) (by kernel_rfl) (by kernel_rfl) (fun _ _ _ h => h) (Or.inl ⟨by rfl, ?_⟩) (by assumption) ?_
        rotate_left
        · (intro w' hSw; (try dsimp only at hSw); go_simp; try with_reducible rfl)
        simp only [Act.put, List.getElem_toArray, List.getElem_cons_zero, List.getElem_cons_succ, List.setIfInBounds_toArray, List.set_cons_zero, List.set_cons_succ]
        refine wpAnyH_take (i := 17) (v := ?_) rfl (by kernel_rfl) (by kernel_rfl) (by kernel_rfl) (fun _ _ _ h => h) (Or.inl ⟨by rfl, ?_⟩) (by assumption) ?_
        rotate_left
        · (intro w' hSw; (try dsimp only at hSw); go_simp; try with_reducible rfl)
        simp only [Act.put, List.getElem_toArray, List.getElem_cons_zero, List.getElem_cons_succ, List.setIfInBounds_toArray, List.set_cons_zero, List.set_cons_succ]
        refine wpAnyH_take (i := 18) (v := ?_) rfl (by kernel_rfl) (by kernel_rfl) (by kernel_rfl) (fun _ _ _ h => h) (Or.inl ⟨by rfl, ?_⟩) (by assumption) ?_
        rotate_left
        · (intro w' hSw; (try dsimp only at hSw); go_simp; try with_reducible rfl)
        simp only [Act.put, List.getElem_toArray, List.getElem_cons_zero, List.getElem_cons_succ, List.setIfInBounds_toArray, List.set_cons_zero, List.set_cons_succ]
        refine wpAnyH_take (i := 20) (v := ?_) rfl (by kernel_rfl) (by kernel_rfl) (by kernel_rfl) (fun _ _ _ h => h) (Or.inl ⟨by rfl, ?_⟩) (by assumption) ?_
        rotate_left
        · (intro w' hSw; (try dsimp only at hSw); go_simp; try with_reducible rfl)
        simp only [Act.put, List.getElem_toArray, List.getElem_cons_zero, List.getElem_cons_succ, List.setIfInBounds_toArray, List.set_cons_zero, List.set_cons_succ]
        refine wpAnyH_take (i := 21) (v := ?_) rfl (by kernel_rfl) (by kernel_rfl) (by kernel_rfl) (fun _ _ _ h => h) (Or.inl ⟨by rfl, ?_⟩) (by assumption) ?_
        rotate_left
        · (intro w' hSw; (try dsimp only at hSw); go_simp; try with_reducible rfl)
        simp only [Act.put, List.getElem_toArray, List.getElem_cons_zero, List.getElem_cons_succ, List.setIfInBounds_toArray, List.set_cons_zero, List.set_cons_succ]
        refine wpAnyH_ready (rs := [19]) (by kernel_rfl) (by simp) ?_
        refine AllReadyH.cons rfl (fun K hK => ?_) AllReadyH.nil
        go_simp
        go_at_call 22
        refine (above_any S tb A N M X6 L6.out.tz hA).mono ?_
        rintro e X7 ⟨A7, c7, rfl, ho7, hb⟩
        have L7 := Lib.hid (L6.out.below hb)
        have O7 := Lib.hid ho7
        clear hb L6 ho7
        refine hK.out _ _ (KP.out _ L7.out.bel) (fun hHeld => ?_)
        clear hK K
        have cb := rabove_any _ A' c' M A N X7 L7.out.row (by rw [HMN.out]; omega) hA HMS.out
        rw [HMN.out] at cb
        refine wpAnyH_ready (rs := [22]) (by kernel_rfl) (by simp) ?_
        refine AllReadyH.cons rfl (fun K hK => ?_) AllReadyH.nil
        go_simp
        go_at_call 23
        refine (cb).mono ?_
        rintro e X8 ⟨A8, c8, rfl, ho8, hb⟩
        have L8 := Lib.hid (L7.out.below hb)
        have O7' := Lib.hid (O7.out.below hb)
        have O8 := Lib.hid ho8
        clear hb L7 ho8 O7 cb
        refine hK.out _ _ (KP.out _ L8.out.bel) (fun hHeld => ?_)
        clear hK K
        have cs := same_any _ _ A7 A8 c7 c8 (abv M A N) (abv M A N) X8 O7'.out.rd O8.out.rd (by have := abv_len L8.out.tz.om (N := N) hA; omega)
        rw [decide_eq_true rfl] at cs
        refine wpAnyH_ready (rs := [23]) (by kernel_rfl) (by simp) ?_
        refine AllReadyH.cons rfl (fun K hK => ?_) AllReadyH.nil
        go_simp
        go_at_call 18
        refine (cs).mono ?_
        rintro e X9 ⟨rfl, hb⟩
        have L9 := Lib.hid (L8.out.below hb)
        clear hb L8 O7' O8 cs
        refine hK.out _ _ (KP.out _ L9.out.bel) (fun hHeld => ?_)
        clear hK K
        refine wpAnyH_take (i := 24) (v := ?_) rfl (by kernel_rfl) (by kernel_rfl) (by kernel_rfl) (fun _ _ _ h => h) (Or.inl ⟨by rfl, ?_⟩) (by assumption) ?_
        rotate_left
        · (intro w' hSw; (try dsimp only at hSw); go_simp; try with_reducible rfl)
        simp only [Act.put, List.getElem_toArray, List.getElem_cons_zero, List.getElem_cons_succ, List.setIfInBounds_toArray, List.set_cons_zero, List.set_cons_succ]
        refine wpAnyH_take (i := 25) (v := ?_) rfl (by kernel_rfl) (by kernel_rfl) (by kernel_rfl) (fun _ _ _ h => h) (Or.inl ⟨by rfl, ?_⟩) (by assumption) ?_
        rotate_left
        · (intro w' hSw; (try dsimp only at hSw); go_simp; try with_reducible rfl)
        simp only [Act.put, List.getElem_toArray, List.getElem_cons_zero, List.getElem_cons_succ, List.setIfInBounds_toArray, List.set_cons_zero, List.set_cons_succ]
        refine wpAnyH_done (by kernel_rfl) ?_ _
        go_wp2
        go_ret
        exact ⟨rfl, HB0.out.trans (L9.out.bel.mono HB0.out.size)⟩
    | succ gf =>
      have hkl : k < s.length := by rw [HSN.out]; omega
      have lt0 : (k : Int) < (sn : Int) := by omega
      have lt2 : (k : Int) < 150 := by omega
      obtain ⟨S, hL⟩ := hL.out
      obtain ⟨b, off, hA0, hxA, hxa, q1, q2, q3, q4, q5⟩ := (HS.out _ hL.bel).at_ hkl
      obtain ⟨x, hx⟩ : ∃ x, ga s k = x := ⟨_, rfl⟩
      have hal := act_len hL.tz.om x
      have hMl' := hMl.out
      rw [hx] at hxA hxa q1 q2 q3 q4 q5
      subst hA0
      obtain ⟨ab, hab⟩ : ∃ ab, wr.heap.size = ab := ⟨_, rfl⟩
      obtain ⟨Y1, Y2, hY1, ⟨y0, y1, y2, y3, y4, f0, f1, f2, f3, f4⟩, hY2, hx2, hb2⟩ := stored5 x wr
      have nS : ¬ S wr.heap.size := fun h => by have := hL.own _ h; omega
      have hL2 := hL.below hb2
      rw [hab] at y0 y1 y2 y3 y4 f0 f1 f2 f3 f4 hY2 hx2 nS
      obtain ⟨z0, z1, z2, z3, z4, _⟩ := blk5 hx2
      have HL2 := Lib.hid hL2
      have HX2 := Lib.hid hx2
      have HNS := Lib.hid nS
      clear hx hkl hMl hL hL2 hx2 hb2 nS
      cases hd : x.d with
      | true =>
        rw [hd] at q1 z0 hY2
        rw [show actm M x = dropm M x.A x.N by simp [actm, hd]] at hal
        have cd := tdrop_all S tb x.A x.N M Y2 HL2.out.tz hxA (by omega)
        have his := drop_is HL2.out.tz.om x.A x.N
        obtain ⟨isb, hisb⟩ : ∃ isb, (getm M x.A x.N).isSome = isb := ⟨_, rfl⟩
        rw [hisb] at cd his
        have HIS := Lib.hid his
        clear hd hisb his
        go_wp2_with fail
        refine cd.mono ?_
        rintro e Y3 ⟨rfl, hg⟩
        obtain ⟨S1, hL1, hkp⟩ := HL2.out.grewk hg
        obtain ⟨nS1, hx3⟩ := hkp ab (lt_of_block HX2.out) HNS.out
        have HX3 := Lib.hid (hx3.trans HX2.out)
        have HNS1 := Lib.hid nS1
        have cr := rdrop_any _ A' c' M x.A x.N Y3 hL1.row (by omega)
        have HL1 := Lib.hid hL1
        clear cd hg hL1 hkp nS1 hx3 q1 q2 q3 q4 q5 hY1 hY2 y0 y1 y2 y3 y4 f0 f1 f2 f3 f4 HL2 HX2 HNS z0 z1 z2 z3 z4
        obtain ⟨z0, z1, z2, z3, z4, _⟩ := blk5 HX3.out
        go_wp2_with fail
        refine cr.mono ?_
        rintro e Y4 ⟨A2, c2, rfl, ho, hb⟩
        have HL4 := Lib.hid (HL1.out.new hb ho)
        have HX4 := Lib.hid ((hb.block _ (lt_of_block HX3.out)).trans HX3.out)
        obtain ⟨M2, hM2⟩ : ∃ M2, dropm M x.A x.N = M2 := ⟨_, rfl⟩
        have hi2 := HIS.out
        rw [hM2] at HL4 hal hi2
        rw [hM2, hi2]
        clear cr ho hb HL1 z0 z1 z2 z3 z4 HX3 hM2 hi2 HIS HNS1
        obtain ⟨z0, z1, z2, z3, z4, _⟩ := blk5 HX4.out
        have hM2l : M2.length ≤ k + 1 := by omega
        have hbb : (isb != isb) = false := by cases isb <;> rfl
        clear hal hMl'
        have cf := find_any S1 tb x.a M2 Y4 HL4.out.tz hxa
        obtain ⟨o, ho⟩ : ∃ o, (abv M2 x.a 32).getLast? = o := ⟨_, rfl⟩
        have hfd := abv_fnd HL4.out.tz.om x.a
        rw [ho] at cf hfd
        have HF := Lib.hid hfd
        clear hfd ho
        obtain ⟨z, hz⟩ : ∃ z, o.getD zen = z := ⟨_, rfl⟩
        have HZE : Hid (fdv o = .tuple #[ev z, .bool o.isSome]) := Lib.hid (by rw [← hz]; cases o <;> rfl)
        rw [HZE.out] at cf
        clear hz
        go_wp2_with fail
        refine cf.mono ?_
        rintro e V1 ⟨rfl, hb1⟩
        obtain ⟨xb, hxb⟩ : ∃ xb, V1.heap.size = xb := ⟨_, rfl⟩
        obtain ⟨V2, V3, hV2, ⟨r0, r1, r2, g0, g1, g2⟩, hV3, hx3, hb3⟩ := stored (z.A : Int) z.N z.V V1
        have HL5 := Lib.hid ((HL4.out.below hb1).below hb3)
        have HX5 := Lib.hid ((hb3.block _ (lt_of_block ((hb1.block _ (lt_of_block HX4.out)).trans HX4.out))).trans ((hb1.block _ (lt_of_block HX4.out)).trans HX4.out))
        rw [hxb] at hx3 hV3 r0 r1 r2 g0 g1 g2
        have HZ3 := Lib.hid hx3
        have crf := rfind_any _ A2 c2 M2 x.a V3 HL5.out.row (by omega) hxa HL5.out.tz.om.lt
        clear cf hb1 hb3 hx3 z0 z1 z2 z3 z4 HL4 HX4
        obtain ⟨z0, z1, z2, z3, z4, _⟩ := blk5 HX5.out
        go_wp2_with fail
        refine crf.mono ?_
        rintro e V4 ⟨o', hfo, rfl, hb4⟩
        have hoo : o' = o := FndR.same HL5.out.tz.om hfo HF.out
        subst hoo
        rw [HZE.out]
        have HL6 := Lib.hid (HL5.out.below hb4)
        have hz4 := (hb4.block _ (lt_of_block HZ3.out)).trans HZ3.out
        clear crf hfo HL5 z0 z1 z2 z3 z4 HX5 hV2 hV3 r0 r1 r2 g0 g1 g2 hb4 hxb
        obtain ⟨xc, hxc⟩ : ∃ xc, V4.heap.size = xc := ⟨_, rfl⟩
        obtain ⟨V5, V6, hV5, ⟨r0, r1, r2, g0, g1, g2⟩, hV6, hx6, hb6⟩ := stored (z.A : Int) z.N z.V V4
        have HL7 := Lib.hid (HL6.out.below hb6)
        have hz6 := (hb6.block _ (lt_of_block hz4)).trans hz4
        rw [hxc] at hx6 hV6 r0 r1 r2 g0 g1 g2
        obtain ⟨t0, t1, t2, _⟩ := blk3 hz6
        obtain ⟨u0, u1, u2, _⟩ := blk3 hx6
        obtain ⟨nd, en, tn, _⟩ := HL7.out.tz
        have cl := len_any tb nd en M2 _ V6 tn
        obtain ⟨m2, hm2⟩ : ∃ m2, M2.length = m2 := ⟨_, rfl⟩
        have HM2 := Lib.hid hm2
        rw [hm2] at cl hM2l
        rw [hm2]
        obtain ⟨ob, hob⟩ : ∃ ob, o'.isSome = ob := ⟨_, rfl⟩
        rw [hob]
        have hob2 : (ob != ob) = false := by cases ob <;> rfl
        have hmm : ((m2 : Int) != (m2 : Int)) = false := by simp
        clear HF HZE HL6 hz4 hb6 hz6 hx6 tn hm2 hob HZ3
        go_wp2_with fail
        refine cl.mono ?_
        rintro e V7 ⟨rfl, hV7⟩
        subst hV7
        clear cl
        go_wp2
        go_roundg gf
        case measure => omega
        case rel => exact ⟨k + 1, A2, c2, M2, by rw [HM2.out], by go_num, Lib.hid (by omega), Lib.hid (by rw [HM2.out]; omega), Lib.hid ⟨_, HL7.out⟩⟩
      | false =>
        rw [hd] at q1 z0 hY2
        rw [show actm M x = putm M x.A x.N x.V by simp [actm, hd]] at hal
        have cd := tset_all S tb x.A x.N x.V M Y2 HL2.out.tz hxA (by omega)
        obtain ⟨er, her⟩ : ∃ er, ern x.A x.N = er := ⟨_, rfl⟩
        rw [her] at cd
        clear hd
        go_wp2_with fail
        refine cd.mono ?_
        rintro e Y3 ⟨rfl, hg⟩
        obtain ⟨S1, hL1, hkp⟩ := HL2.out.grewk hg
        obtain ⟨nS1, hx3⟩ := hkp ab (lt_of_block HX2.out) HNS.out
        have HX3 := Lib.hid (hx3.trans HX2.out)
        have cr := rset_all _ A' c' M x.A x.N x.V Y3 hL1.row (by omega) hxA
        have HL1 := Lib.hid hL1
        have HER := Lib.hid her
        clear cd hg hL1 hkp nS1 hx3 q1 q2 q3 q4 q5 hY1 hY2 y0 y1 y2 y3 y4 f0 f1 f2 f3 f4 HL2 HX2 HNS z0 z1 z2 z3 z4 her
        obtain ⟨z0, z1, z2, z3, z4, _⟩ := blk5 HX3.out
        go_wp2_with fail
        refine cr.mono ?_
        rintro e Y4 ⟨A2, c2, rfl, hb, hr⟩
        have HL4 : Hid (Ls W0 tb (putm M x.A x.N x.V) (putm M x.A x.N x.V) A2 S1 Y4) := Lib.hid (by
          rcases hr with ⟨rfl, rfl, e⟩ | ho
          · have := HL1.out.below hb; rw [e] at this ⊢; exact this
          · exact HL1.out.new hb ho)
        have HX4 := Lib.hid ((hb.block _ (lt_of_block HX3.out)).trans HX3.out)
        obtain ⟨M2, hM2⟩ : ∃ M2, putm M x.A x.N x.V = M2 := ⟨_, rfl⟩
        rw [hM2] at HL4 hal
        rw [hM2, HER.out]
        clear cr hr hb HL1 z0 z1 z2 z3 z4 HX3 hM2 HER
        obtain ⟨z0, z1, z2, z3, z4, _⟩ := blk5 HX4.out
        have hM2l : M2.length ≤ k + 1 := by omega
        have hbb : (er != er) = false := by simp
        clear hal hMl'
        have cf := find_any S1 tb x.a M2 Y4 HL4.out.tz hxa
        obtain ⟨o, ho⟩ : ∃ o, (abv M2 x.a 32).getLast? = o := ⟨_, rfl⟩
        have hfd := abv_fnd HL4.out.tz.om x.a
        rw [ho] at cf hfd
        have HF := Lib.hid hfd
        clear hfd ho
        obtain ⟨z, hz⟩ : ∃ z, o.getD zen = z := ⟨_, rfl⟩
        have HZE : Hid (fdv o = .tuple #[ev z, .bool o.isSome]) := Lib.hid (by rw [← hz]; cases o <;> rfl)
        rw [HZE.out] at cf
        clear hz
        go_wp2_with fail
        refine cf.mono ?_
        rintro e V1 ⟨rfl, hb1⟩
        obtain ⟨xb, hxb⟩ : ∃ xb, V1.heap.size = xb := ⟨_, rfl⟩
        obtain ⟨V2, V3, hV2, ⟨r0, r1, r2, g0, g1, g2⟩, hV3, hx3, hb3⟩ := stored (z.A : Int) z.N z.V V1
        have HL5 := Lib.hid ((HL4.out.below hb1).below hb3)
        have HX5 := Lib.hid ((hb3.block _ (lt_of_block ((hb1.block _ (lt_of_block HX4.out)).trans HX4.out))).trans ((hb1.block _ (lt_of_block HX4.out)).trans HX4.out))
        rw [hxb] at hx3 hV3 r0 r1 r2 g0 g1 g2
        have HZ3 := Lib.hid hx3
        have crf := rfind_any _ A2 c2 M2 x.a V3 HL5.out.row (by omega) hxa HL5.out.tz.om.lt
        clear cf hb1 hb3 hx3 z0 z1 z2 z3 z4 HL4 HX4
        obtain ⟨z0, z1, z2, z3, z4, _⟩ := blk5 HX5.out
        go_wp2_with fail
        refine crf.mono ?_
        rintro e V4 ⟨o', hfo, rfl, hb4⟩
        have hoo : o' = o := FndR.same HL5.out.tz.om hfo HF.out
        subst hoo
        rw [HZE.out]
        have HL6 := Lib.hid (HL5.out.below hb4)
        have hz4 := (hb4.block _ (lt_of_block HZ3.out)).trans HZ3.out
        clear crf hfo HL5 z0 z1 z2 z3 z4 HX5 hV2 hV3 r0 r1 r2 g0 g1 g2 hb4 hxb
        obtain ⟨xc, hxc⟩ : ∃ xc, V4.heap.size = xc := ⟨_, rfl⟩
        obtain ⟨V5, V6, hV5, ⟨r0, r1, r2, g0, g1, g2⟩, hV6, hx6, hb6⟩ := stored (z.A : Int) z.N z.V V4
        have HL7 := Lib.hid (HL6.out.below hb6)
        have hz6 := (hb6.block _ (lt_of_block hz4)).trans hz4
        rw [hxc] at hx6 hV6 r0 r1 r2 g0 g1 g2
        obtain ⟨t0, t1, t2, _⟩ := blk3 hz6
        obtain ⟨u0, u1, u2, _⟩ := blk3 hx6
        obtain ⟨nd, en, tn, _⟩ := HL7.out.tz
        have cl := len_any tb nd en M2 _ V6 tn
        obtain ⟨m2, hm2⟩ : ∃ m2, M2.length = m2 := ⟨_, rfl⟩
        have HM2 := Lib.hid hm2
        rw [hm2] at cl hM2l
        rw [hm2]
        obtain ⟨ob, hob⟩ : ∃ ob, o'.isSome = ob := ⟨_, rfl⟩
        rw [hob]
        have hob2 : (ob != ob) = false := by cases ob <;> rfl
        have hmm : ((m2 : Int) != (m2 : Int)) = false := by simp
        clear HF HZE HL6 hz4 hb6 hz6 hx6 tn hm2 hob HZ3
        go_wp2_with fail
        refine cl.mono ?_
        rintro e V7 ⟨rfl, hV7⟩
        subst hV7
        clear cl
        go_wp2
        go_roundg gf
        case measure => omega
        case rel => exact ⟨k + 1, A2, c2, M2, by rw [HM2.out], by go_num, Lib.hid (by omega), Lib.hid (by rw [HM2.out]; omega), Lib.hid ⟨_, HL7.out⟩⟩
end Go.Proofs.Ytlmcgjdenfnkmaa
