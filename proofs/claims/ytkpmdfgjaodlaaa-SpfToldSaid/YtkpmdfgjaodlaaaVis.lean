/-
  Graphs that may be, over whole numbers; contracts of visitor and of the function that it hands back. No statement is proved here; no conditions.
-/
import Derived.Test.YtkpmdfgjaodlaaaRows2
import Derived.Deep.RegionHeldLaw
namespace Go.Proofs.Ytkpmdfgjaodlaaa
open Go.RowKit Go.Joins

/-- An edge between nodes. -/
structure NE where
  f : Nat
  t : Nat
  c : Nat
def NE.ed (x : NE) : Ed := ⟨x.f, x.t, x.c⟩
/-- Edge i. -/
def gn (G : List NE) (i : Nat) : NE := G.getD i ⟨0, 0, 0⟩
theorem gn_eq {G : List NE} {i : Nat} (h : i < G.length) : gn G i = G[i] := by simp [gn, List.getD, h]
abbrev nflat (G : List NE) : List Value := eflat (G.map NE.ed)
theorem ge_map {G : List NE} {i : Nat} (h : i < G.length) : ge (G.map NE.ed) i = (gn G i).ed := by
  rw [ge_eq (by simpa using h), gn_eq h]
  simp
theorem Rd.nedge {S : Nat → Prop} {w : World} {A : Option Addr} {G : List NE} (h : Rd S w A (nflat G)) {i : Nat} (hi : i < G.length) :
    ∃ b off, A = some ⟨b, off, none⟩ ∧ S b ∧ b < w.heap.size ∧ w.cell? ⟨b, off + i * 3, none⟩ = some (.int .i64 ((gn G i).f : Int)) ∧ w.cell? ⟨b, off + i * 3 + 1, none⟩ = some (.int .i64 ((gn G i).t : Int)) ∧ w.cell? ⟨b, off + i * 3 + 2, none⟩ = some (.int .i64 ((gn G i).c : Int)) := by
  have := h.edge (i := i) (by simpa using hi)
  rwa [ge_map hi] at this
/-- The graph may be. -/
structure GV (N : Nat) (G : List NE) : Prop where
  n1 : 1 ≤ N
  n2 : N ≤ 64
  m : G.length ≤ 400
  f : ∀ i, i < G.length → (gn G i).f < N
  t : ∀ i, i < G.length → (gn G i).t < N
  c : ∀ i, i < G.length → (gn G i).c ≤ 65535
/-- The edges from node u, of the first k ones. -/
def outs (G : List NE) (k u : Nat) : List Nat := (List.range k).filter fun i => (gn G i).f == u
def outL (N : Nat) (G : List NE) (k : Nat) : List (List Nat) := (List.range N).map (outs G k)
theorem outL_length (N : Nat) (G : List NE) (k : Nat) : (outL N G k).length = N := by simp [outL]
theorem gl_outL {N : Nat} {G : List NE} {k u : Nat} (h : u < N) : gl (outL N G k) u = outs G k u := by
  rw [gl_eq (by simpa [outL] using h)]
  simp [outL]
theorem outs_succ (G : List NE) (k u : Nat) : outs G (k + 1) u = if (gn G k).f = u then outs G k u ++ [k] else outs G k u := by
  unfold outs
  rw [List.range_succ, List.filter_append]
  by_cases h : (gn G k).f = u <;> simp [h]
theorem outs_len (G : List NE) (k u : Nat) : (outs G k u).length ≤ k := by
  have := List.length_filter_le (fun i => (gn G i).f == u) (List.range k)
  simpa [outs] using this
theorem outL_succ {N : Nat} {G : List NE} {k : Nat} (h : (gn G k).f < N) : (outL N G k).set (gn G k).f (gl (outL N G k) (gn G k).f ++ [k]) = outL N G (k + 1) := by
  rw [gl_outL h]
  apply List.ext_getElem
  · simp [outL]
  · intro i h1 h2
    simp [outL, List.getElem_set, outs_succ]
    split <;> simp_all
/-- The cells of a visitor: v leads to rows L, all in blocks of S. -/
def Vs (S : Nat → Prop) (w : World) (v : Nat) (L : List (List Nat)) : Prop :=
  ∃ gr, S v ∧ S gr ∧ v < w.heap.size ∧ gr < w.heap.size ∧ w.cell? ⟨v, 0, none⟩ = some (.slice (some ⟨gr, 0, none⟩) L.length L.length) ∧ ∀ u, u < L.length → ∃ A c, w.cell? ⟨gr, u, none⟩ = some (.slice A (gl L u).length c) ∧ Rd S w A (nts (gl L u))
theorem Vs.keep {S : Nat → Prop} {w w' : World} {v : Nat} {L : List (List Nat)} (h : Vs S w v L) (hs : w.heap.size ≤ w'.heap.size) (hk : ∀ j, S j → j < w.heap.size → w'.heap[j]? = w.heap[j]?) : Vs S w' v L := by
  obtain ⟨gr, h1, h2, h3, h4, h5, h6⟩ := h
  refine ⟨gr, h1, h2, by omega, by omega, (World.cell?_of_block (hk v h1 h3)).trans h5, fun u hu => ?_⟩
  obtain ⟨A, c, q1, q2⟩ := h6 u hu
  exact ⟨A, c, (World.cell?_of_block (hk gr h2 h4)).trans q1, q2.keep hs hk⟩
theorem Vs.kp {S T : Nat → Prop} {w w' : World} {v : Nat} {L : List (List Nat)} (h : Vs S w v L) (k : Kp T w w') (hST : ∀ j, S j → ¬ T j) : Vs S w' v L := h.keep k.size fun j hj hlt => k.block j hlt (hST j hj)
theorem Vs.below' {S : Nat → Prop} {w w' : World} {v : Nat} {L : List (List Nat)} (h : Vs S w v L) (k : Below w.heap.size w w') : Vs S w' v L := h.keep k.size fun j _ hlt => k.block j hlt

/-- What visitor leaves. -/
def Vised (w : World) (N : Nat) (G : List NE) (e : Ending) (w' : World) : Prop :=
  ∃ v, e = .returned (.func (.func 38) #[] #[.pointer (some ⟨v, 0, none⟩)]) ∧ Vs (fun j => w.heap.size ≤ j ∧ j < w'.heap.size) w' v (outL N G G.length) ∧ Below w.heap.size w w'
theorem one_at {w : World} {v : Nat} {x : Value} {t : TypeId} (h : w.heap[v]? = some (.cells #[x] t (0, 0))) : w.cell? ⟨v, 0, none⟩ = some x ∧ w.frozen? ⟨v, 0, none⟩ = false := ⟨(cell_of_row w v 0 _ _ _ h).trans rfl, by simp [World.frozen?, h]⟩

theorem fst_at {w : World} {v : Nat} {x y z : Value} {t : TypeId} (h : w.heap[v]? = some (.cells #[x, y, z] t (0, 0))) : w.cell? ⟨v, 0, none⟩ = some x := (cell_of_row w v 0 _ _ _ h).trans rfl

set_option maxRecDepth 100000 in
theorem visitor_any (N : Nat) (A : Option Addr) (c : Nat) (G : List NE) (B : Nat) (w : World) (hE : Rd (· < B) w A (nflat G)) (__hB : B ≤ w.heap.size) (hg : GV N G) :
    Calls Try.prog 28 #[gv N A G.length c] w fun e w' => Vised w N G e w' := by
  have hn2 := hg.n2
  have K := box2_at (w := w) (u := .int .i64 N) (v := .slice A G.length c) (t := 24) (B := w.heap.size + 1) (by omega)
  have B0 := below_alloc1 w (.cells #[.int .i64 N, .slice A G.length c] 24)
  obtain ⟨W0, hW0⟩ : ∃ W0, w.alloc (.cells #[.int .i64 N, .slice A G.length c] 24) = W0 := ⟨_, rfl⟩
  have hs0 : W0.heap.size = w.heap.size + 1 := by rw [← hW0]; simp
  rw [hW0] at K B0
  obtain ⟨c0, c1, _, _⟩ := K _ (Below.refl _ _)
  obtain ⟨i, hi, hz, hsz, hby⟩ := info26
  obtain ⟨W1, hmk, r1, r2, hs1⟩ := run_mkr W0 33 26 i _ 1 24 Try.underlying33 hi hz hsz hby N (by omega) (by omega)
  rw [Nat.mul_one, made_one _ rfl] at r1
  have rr := (RR.start (Q := fun j => w.heap.size + 1 ≤ j) r1).alloc (.cells #[.slice (some ⟨W0.heap.size, 0, none⟩) N N] 33)
  have eL : List.replicate N [] = outL N G 0 := by
    apply List.ext_getElem
    · simp [outL]
    · intro j h1 h2; simp [outL, outs]
  rw [eL] at rr
  have b2 := ((Below.refl (w.heap.size + 1) W0).trans (r2.mono (by omega))).alloc (by omega) (.cells #[.slice (some ⟨W0.heap.size, 0, none⟩) N N] 33)
  have v2 := Go.heap_alloc_new W1 (.cells #[.slice (some ⟨W0.heap.size, 0, none⟩) N N] 33)
  obtain ⟨k0, k1, _, _⟩ := K _ b2
  rw [hs0] at hmk rr v2 b2 k0 k1 hs1
  have HE := Lib.hid hE
  have HR := Lib.hid rr
  have HB := Lib.hid b2
  have HV := Lib.hid v2
  have HG := Lib.hid hg
  have HB0 := Lib.hid B0
  have hm := hg.m
  clear hi hz hsz hby hE r1 rr b2 v2 r2 eL hg B0
  go_enter Try.func28, Try.ntmps28
  go_wp2_with fail
  go_loopg [12] G.length (fun gf v wx => ∃ k, v = .int .i64 ((k : Nat) : Int) ∧ Hid (gf + k = G.length) ∧ Hid (RR (fun j => w.heap.size + 1 ≤ j) wx (w.heap.size + 1) (outL N G k)) ∧ Hid (wx.heap[w.heap.size + 1 + 1]? = some (.cells #[.slice (some ⟨w.heap.size + 1, 0, none⟩) N N] 33 (0, 0))) ∧ Hid (Below (w.heap.size + 1) W0 wx))
  case atStart => exact ⟨0, rfl, Lib.hid (by omega), HR, Lib.hid (by have := HV.out; rwa [hs1] at this), HB⟩
  case round =>
    obtain ⟨k, rfl, hk, hr, hv, hb⟩ := hrel
    have hk' := hk.out
    clear HR HB HV hmk c0 c1 k0 k1
    cases gk with
    | zero =>
      have e1 : k = G.length := by omega
      have lt0 : decide ((k : Int) < (G.length : Int)) = false := by simp; omega
      go_wp2
      go_ret
      refine ⟨_, rfl, ?_, HB0.out.trans (hb.out.mono (by omega))⟩
      have hr1 := hr.out
      rw [e1] at hr1
      have hl := hr1.lt
      have hvl := lt_of_block hv.out
      refine ⟨w.heap.size + 1, ⟨by omega, hvl⟩, ⟨by omega, hl⟩, hvl, hl, by rw [outL_length]; exact (one_at hv.out).1, fun u hu => ?_⟩
      obtain ⟨A', c', q1, q2⟩ := hr1.at_ hu
      exact ⟨A', c', q1, q2.more (fun j hj hlt => ⟨by omega, hlt⟩)⟩
    | succ gf =>
      have hkl : k < G.length := by omega
      have lt0 : (k : Int) < (G.length : Int) := by omega
      have hEx : Rd (· < B) wr A (nflat G) := (HE.out.below HB0.out (fun j hj _ => by omega)).below hb.out (fun j hj _ => by omega)
      obtain ⟨b, off, hA, hbB, hbs, e0, e1, e2⟩ := hEx.nedge hkl
      have hf := HG.out.f k hkl
      obtain ⟨x, hx⟩ : ∃ x, gn G k = x := ⟨_, rfl⟩
      rw [hx] at e0 e1 e2 hf
      subst hA
      obtain ⟨W4, hW4⟩ : ∃ W4, wr.alloc (.cells #[.int .i64 (x.f : Int), .int .i64 (x.t : Int), .int .i64 (x.c : Int)] 50) = W4 := ⟨_, rfl⟩
      have hs4 : W4.heap.size = wr.heap.size + 1 := by rw [← hW4]; simp
      have b4 : Below wr.heap.size wr W4 := by rw [← hW4]; exact below_alloc1 _ _
      have h50 : W4.heap[wr.heap.size]? = some (.cells #[.int .i64 (x.f : Int), .int .i64 (x.t : Int), .int .i64 (x.c : Int)] 50 (0, 0)) := by rw [← hW4]; exact Go.heap_alloc_new _ _
      have hv4 : W4.heap[w.heap.size + 1 + 1]? = some (.cells #[.slice (some ⟨w.heap.size + 1, 0, none⟩) N N] 33 (0, 0)) := (b4.block _ (lt_of_block hv.out)).trans hv.out
      have hr4 := hr.out.below' b4
      obtain ⟨A5, c5, q1, q1a, g6, c6, W6, r1, r2, r3, r5, r6, r7⟩ := hr4.appd (u := x.f) (by rw [outL_length]; exact hf) k (by rw [gl_outL hf]; have := outs_len G k x.f; omega) (fun j hj => by have := hb.out.size; omega) (wr.heap.size + 1) hs4
      have cv4 := (one_at hv4).1
      have ce4 : W4.cell? ⟨wr.heap.size, 0, none⟩ = some (.int .i64 (x.f : Int)) := (cell_of_row _ _ _ _ _ _ h50).trans rfl
      obtain ⟨t0, t1, t2⟩ := r7 _ _ hv4 (by omega) (.inl (by simp))
      obtain ⟨u0, u1, u2⟩ := r7 _ _ h50 (by have := hb.out.size; have := hr.out.lt; omega) (.inl (by simp))
      have S4 : W4.drew.cell? ⟨w.heap.size + 1 + 1, 0, none⟩ = some (.slice (some ⟨w.heap.size + 1, 0, none⟩) N N) ∧ W4.drew.cell? ⟨wr.heap.size, 0, none⟩ = some (.int .i64 (x.f : Int)) := ⟨cv4, ce4⟩
      have S5 := And.intro (one_at t0).1 (fst_at u0)
      have S6 := And.intro (one_at t1).1 (fst_at u1)
      have S7 := And.intro (one_at t2).1 (fst_at u2)
      have hfi : (x.f : Int) < (N : Int) := by omega
      have R5 := Lib.hid r5
      have R6 := Lib.hid (r6 (w.heap.size + 1) (by have := hb.out.size; omega) (Nat.le_refl _) (fun j hj => hj))
      have T2 := Lib.hid t2
      have HX := Lib.hid hx
      have hbw := Lib.hid b4
      clear t0 t1 t2 u0 u1 u2 r7 r5 r6 hr4 hv4 h50 cv4 hEx hx b4 hv hr
      go_wp2_with fail
      refine wp_region_held_drew (S := fun w' => w'.cell? ⟨w.heap.size + 1 + 1, 0, none⟩ = some (.slice (some ⟨w.heap.size + 1, 0, none⟩) N N) ∧ w'.cell? ⟨wr.heap.size, 0, none⟩ = some (.int .i64 (x.f : Int))) (by kernel_rfl) S4 (fun hHeld => ?_)
      refine wpAnyH_take (i := 0) (v := ?_) rfl (by kernel_rfl) (by kernel_rfl) (by kernel_rfl) (fun _ _ _ h => h) (Or.inl ⟨by rfl, ?_⟩) (by assumption) ?_
      rotate_left
      · (intro w' hSw; (try dsimp only at hSw); go_simp; try with_reducible rfl)
      simp only [Act.put, List.setIfInBounds_toArray]
      refine wpAnyH_take (i := 1) (v := ?_) rfl (by kernel_rfl) (by kernel_rfl) (by kernel_rfl) (fun _ _ _ h => h) (Or.inl ⟨by rfl, ?_⟩) (by assumption) ?_
      rotate_left
      · (intro w' hSw; (try dsimp only at hSw); go_simp; try with_reducible rfl)
      simp only [Act.put]
      refine wpAnyH_take (i := 2) (v := ?_) rfl (by kernel_rfl) (by kernel_rfl) (by kernel_rfl) (fun _ _ _ h => h) (Or.inl ⟨by rfl, ?_⟩) (by assumption) ?_
      rotate_left
      · (intro w' hSw; (try dsimp only at hSw); go_simp; try with_reducible rfl)
      simp only [Act.put]
      refine wpAnyH_take (i := 3) (v := ?_) rfl (by kernel_rfl) (by kernel_rfl) (by kernel_rfl) (fun _ _ _ h => h) (Or.inl ⟨by rfl, ?_⟩) (by assumption) ?_
      rotate_left
      · (intro w' hSw; (try dsimp only at hSw); go_simp; try with_reducible rfl)
      simp only [Act.put]
      refine wpAnyH_take (i := 4) (v := ?_) rfl (by kernel_rfl) (by kernel_rfl) (by kernel_rfl) (fun _ _ _ h => h) (Or.inl ⟨by rfl, ?_⟩) (by assumption) ?_
      rotate_left
      · (intro w' hSw; (try dsimp only at hSw); go_simp; try with_reducible rfl)
      simp only [Act.put]
      refine wpAnyH_take (i := 5) (v := ?_) rfl (by kernel_rfl) (by kernel_rfl) (by kernel_rfl) (fun _ _ _ h => h) (Or.inl ⟨by rfl, ?_⟩) (by assumption) ?_
      rotate_left
      · (intro w' hSw; (try dsimp only at hSw); go_simp; try with_reducible rfl)
      simp only [Act.put]
      refine wpAnyH_take (i := 6) (v := ?_) rfl (by kernel_rfl) (by kernel_rfl) (by kernel_rfl) (fun _ _ _ h => h) (Or.inl ⟨by rfl, ?_⟩) (by assumption) ?_
      rotate_left
      · (intro w' hSw; (try dsimp only at hSw); go_simp; try with_reducible rfl)
      simp only [Act.put]
      refine wpAnyH_take (i := 8) (v := ?_) rfl (by kernel_rfl) (by kernel_rfl) (by kernel_rfl) (fun _ _ _ h => h) (Or.inl ⟨by rfl, ?_⟩) (by assumption) ?_
      rotate_left
      · (intro w' hSw; (try dsimp only at hSw); go_simp; try with_reducible rfl)
      simp only [Act.put]
      refine wpAnyH_ready (rs := [7, 9]) (by kernel_rfl) (by simp) ?_
      refine AllReadyH.cons rfl (fun K hK => ?_) (AllReadyH.cons rfl (fun K hK => ?_) AllReadyH.nil)
      · go_simp
        refine hK.out _ _ S4 (fun _ => ?_)
        clear hK K
        refine wpAnyH_ready (rs := [9]) (by kernel_rfl) (by simp) ?_
        refine AllReadyH.cons rfl (fun K hK => ?_) AllReadyH.nil
        go_simp
        refine hK.out _ _ S5 (fun _ => ?_)
        clear hK K
        refine wpAnyH_ready (rs := [10]) (by kernel_rfl) (by simp) ?_
        refine AllReadyH.cons rfl (fun K hK => ?_) AllReadyH.nil
        refine step_runb _ rfl (.tmp 24) (.tmp 26) 26 rfl rfl rfl r1 ?_
        refine hK.out _ _ S6 (fun _ => ?_)
        clear hK K
        refine wpAnyH_ready (rs := [11]) (by kernel_rfl) (by simp) ?_
        refine AllReadyH.cons rfl (fun K hK => ?_) AllReadyH.nil
        go_simp
        refine hK.out _ _ S6 (fun _ => ?_)
        clear hK K
        refine wpAnyH_ready (rs := [12]) (by kernel_rfl) (by simp) ?_
        refine AllReadyH.cons rfl (fun K hK => ?_) AllReadyH.nil
        go_simp
        refine hK.out _ _ S7 (fun _ => ?_)
        clear hK K
        refine wpAnyH_done (by kernel_rfl) ?_ _
        generalize W6.setCell ⟨w.heap.size + 1, x.f, none⟩ (.slice (some ⟨g6, 0, none⟩) ((gl (outL N G k) x.f).length + 1) c6) = W7 at *
        clear S4 S5 S6 S7 r1 r2 r3 q1 q1a
        go_wp2
        go_roundg gf
        case measure => omega
        case rel =>
          refine ⟨k + 1, by go_num, Lib.hid (by omega), Lib.hid ?_, T2, Lib.hid ((hb.out.trans (hbw.out.mono (by have := hb.out.size; omega))).trans R6.out)⟩
          have := R5.out
          rwa [← HX.out, outL_succ (by rw [HX.out]; exact hf)] at this
      · go_simp
        refine hK.out _ _ S5 (fun _ => ?_)
        clear hK K
        refine wpAnyH_ready (rs := [7]) (by kernel_rfl) (by simp) ?_
        refine AllReadyH.cons rfl (fun K hK => ?_) AllReadyH.nil
        go_simp
        refine hK.out _ _ S5 (fun _ => ?_)
        clear hK K
        refine wpAnyH_ready (rs := [10]) (by kernel_rfl) (by simp) ?_
        refine AllReadyH.cons rfl (fun K hK => ?_) AllReadyH.nil
        refine step_runb _ rfl (.tmp 24) (.tmp 26) 26 rfl rfl rfl r1 ?_
        refine hK.out _ _ S6 (fun _ => ?_)
        clear hK K
        refine wpAnyH_ready (rs := [11]) (by kernel_rfl) (by simp) ?_
        refine AllReadyH.cons rfl (fun K hK => ?_) AllReadyH.nil
        go_simp
        refine hK.out _ _ S6 (fun _ => ?_)
        clear hK K
        refine wpAnyH_ready (rs := [12]) (by kernel_rfl) (by simp) ?_
        refine AllReadyH.cons rfl (fun K hK => ?_) AllReadyH.nil
        go_simp
        refine hK.out _ _ S7 (fun _ => ?_)
        clear hK K
        refine wpAnyH_done (by kernel_rfl) ?_ _
        generalize W6.setCell ⟨w.heap.size + 1, x.f, none⟩ (.slice (some ⟨g6, 0, none⟩) ((gl (outL N G k) x.f).length + 1) c6) = W7 at *
        clear S4 S5 S6 S7 r1 r2 r3 q1 q1a
        go_wp2
        go_roundg gf
        case measure => omega
        case rel =>
          refine ⟨k + 1, by go_num, Lib.hid (by omega), Lib.hid ?_, T2, Lib.hid ((hb.out.trans (hbw.out.mono (by have := hb.out.size; omega))).trans R6.out)⟩
          have := R5.out
          rwa [← HX.out, outL_succ (by rw [HX.out]; exact hf)] at this
end Go.Proofs.Ytkpmdfgjaodlaaa
