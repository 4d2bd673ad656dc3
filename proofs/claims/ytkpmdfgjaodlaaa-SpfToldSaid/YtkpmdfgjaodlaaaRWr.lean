/-
  Rows of rows of which none is changed in place. No statement is proved here; no conditions.
-/
import Derived.Test.YtkpmdfgjaodlaaaRInto
import Derived.Test.YtkpmdfgjaodlaaaRDist
import Derived.Test.YtkpmdfgjaodlaaaRTight
namespace Go.Proofs.Ytkpmdfgjaodlaaa
open Go.RowKit Go.Joins

/-- Block gr is a row of slices, each of them with its numbers in a block other than gr, from lo on. -/
def RW (lo : Nat) (w : World) (gr : Nat) (H : List (List Nat)) : Prop :=
  ∃ (A : Nat → Option Addr) (c : Nat → Nat), Rg 26 1 w gr H.length ((List.range H.length).map fun u => .slice (A u) (gl H u).length (c u)) ∧ ∀ u, u < H.length → Rd (fun j => lo ≤ j ∧ j ≠ gr) w (A u) (nts (gl H u))
theorem RW.below' {lo : Nat} {w w' : World} {gr : Nat} {H : List (List Nat)} (h : RW lo w gr H) (k : Below w.heap.size w w') : RW lo w' gr H := by
  obtain ⟨A, c, h1, h2⟩ := h
  exact ⟨A, c, h1.below' k, fun u hu => (h2 u hu).keep k.size fun j _ hl => k.block j hl⟩
theorem RW.lt {lo : Nat} {w : World} {gr : Nat} {H : List (List Nat)} (h : RW lo w gr H) : gr < w.heap.size := by obtain ⟨A, c, h1, _⟩ := h; exact h1.lt
theorem RW.start {lo : Nat} {w : World} {gr N : Nat} (h : Rg 26 1 w gr N (List.replicate N (.slice none 0 0))) : RW lo w gr (List.replicate N []) := by
  refine ⟨fun _ => none, fun _ => 0, ?_, fun u _ => by rw [gl_rep]; exact Rd.nil _⟩
  rw [List.length_replicate]
  have : ((List.range N).map fun u => Value.slice none (gl (List.replicate N []) u).length 0) = List.replicate N (.slice none 0 0) := by
    apply List.ext_getElem
    · simp
    · intro i h1 h2
      simp [gl_rep]
  rw [this]
  exact h
theorem RW.at_ {lo : Nat} {w : World} {gr : Nat} {H : List (List Nat)} (h : RW lo w gr H) {u : Nat} (hu : u < H.length) : ∃ A c, w.cell? ⟨gr, u, none⟩ = some (.slice A (gl H u).length c) ∧ Rd (fun j => lo ≤ j ∧ j ≠ gr) w A (nts (gl H u)) := by
  obtain ⟨A, c, h1, h2⟩ := h
  exact ⟨A u, c u, h1.cell (by simp [hu]), h2 u hu⟩
theorem RW.frozen {lo : Nat} {w : World} {gr : Nat} {H : List (List Nat)} (h : RW lo w gr H) (u : Nat) : w.frozen? ⟨gr, u, none⟩ = false := by
  obtain ⟨A, c, h1, _⟩ := h
  exact h1.frozen u
theorem RW.set {lo : Nat} {w : World} {gr : Nat} {H : List (List Nat)} (h : RW lo w gr H) {u : Nat} (hu : u < H.length) (A' : Option Addr) (c' : Nat) (r : List Nat) (hr : Rd (fun j => lo ≤ j ∧ j ≠ gr) w A' (nts r)) : RW lo (w.setCell ⟨gr, u, none⟩ (.slice A' r.length c')) gr (H.set u r) := by
  obtain ⟨A, c, h1, h2⟩ := h
  have k : Kp (fun j => j = gr) w (w.setCell ⟨gr, u, none⟩ (.slice A' r.length c')) := Kp.setCell w _ _ rfl
  refine ⟨fun v => if v = u then A' else A v, fun v => if v = u then c' else c v, ?_, fun v hv => ?_⟩
  · have := h1.set u (.slice A' r.length c')
    rw [List.length_set]
    have e2 : ((List.range H.length).map fun v => Value.slice (A v) (gl H v).length (c v)).set u (.slice A' r.length c') = (List.range H.length).map fun v => Value.slice (if v = u then A' else A v) (gl (H.set u r) v).length (if v = u then c' else c v) := by
      apply List.ext_getElem
      · simp
      · intro j j1 j2
        simp only [List.getElem_set, List.getElem_map, List.getElem_range, gl_set _ _ _ _ hu]
        by_cases e : u = j
        · subst e; simp
        · have e' : ¬ j = u := fun x => e x.symm
          simp only [if_neg e, if_neg e']
    rw [← e2]
    exact this
  · rw [List.length_set] at hv
    rw [gl_set _ _ _ _ hu]
    by_cases e : v = u
    · simp only [if_pos e]
      exact hr.kp k fun j hj => hj.2
    · simp only [if_neg e]
      exact (h2 v hv).kp k fun j hj => hj.2
/-- What Into leaves, as a row of such rows. -/
theorem Intoed.row {lo gr : Nat} {w w' : World} {A : Option Addr} {c : Nat} {l : List Nat} {n : Nat} {e : Ending} (h : Intoed w A c l n e w') (hr : Rd (fun j => lo ≤ j ∧ j ≠ gr) w A (nts l)) (hlo : lo ≤ w.heap.size) (hgr : gr < w.heap.size) :
    ∃ A' c', e = .returned (.slice A' (into l n).length c') ∧ Below w.heap.size w w' ∧ Rd (fun j => lo ≤ j ∧ j ≠ gr) w' A' (nts (into l n)) := by
  obtain ⟨A', c', h1, h2, h3⟩ := h
  refine ⟨A', c', h1, h2, ?_⟩
  rcases h3 with ⟨rfl, rfl, e1⟩ | ⟨g, rfl, hg, r⟩
  · rw [e1]
    exact hr.keep h2.size fun j _ hl => h2.block j hl
  · exact r.rd.more fun j hj _ => by subst hj; exact ⟨by omega, by omega⟩
theorem HX.small2 {N : Nat} {G : List NE} {U : List Bool} {root k i : Nat} {H : List (List Nat)} (h : HX N G U root k i H) (hg : GV N G) (t f m : Nat) : (intoL (gl H t) ((gl H f).take m)).length ≤ 400 := by
  have h1 := nodup_le G.length (intoL (gl H t) ((gl H f).take m)) ((intoL_rs _ (h.asc t)).imp (fun e => Nat.ne_of_lt e)) (fun a ha => by
    rcases (mem_intoL _).1 ha with q | q
    · exact (h.sound f a (List.mem_of_mem_take q)).1
    · exact (h.sound t a q).1)
  have := hg.m
  omega
/-- What the reference's Hops leaves. -/
def RHopsd (w : World) (N : Nat) (G : List NE) (root : Nat) (e : Ending) (w' : World) : Prop :=
  ∃ d H gr, e = .returned (.tuple #[.slice (some ⟨gr, 0, none⟩) N N, .int .i64 0]) ∧ IsD N G root d ∧ H.length = N ∧ (∀ u, u < N → gl H u = hopF (useL G d root) G root (outs G G.length root).length u) ∧ RW w.heap.size w' gr H ∧ w.heap.size ≤ gr ∧ Below w.heap.size w w'

set_option maxRecDepth 100000 in
theorem rhops_bad (N root : Int) (A : Option Addr) (c : Nat) (E : List Ed) (B : Nat) (w : World) (hE : Rd (· < B) w A (eflat E)) (hB : B ≤ w.heap.size) (hl : E.length ≤ 100000) (hbad : may N E = false ∨ ¬ (0 ≤ root ∧ root < N)) :
    Calls Try.prog 14 #[gv N A E.length c, .int .i64 root] w fun e w' => e = .returned (.tuple #[.slice none 0 0, .int .i64 1]) ∧ Below w.heap.size w w' := by
  have B0 := below_alloc1 w (.cells #[.int .i64 N, .slice A E.length c] 31)
  obtain ⟨W0, hW0⟩ : ∃ W0, w.alloc (.cells #[.int .i64 N, .slice A E.length c] 31) = W0 := ⟨_, rfl⟩
  have hs0 : W0.heap.size = w.heap.size + 1 := by rw [← hW0]; simp
  have h0 : W0.heap[w.heap.size]? = some (.cells #[.int .i64 N, .slice A E.length c] 31 (0, 0)) := by rw [← hW0]; exact Go.heap_alloc_new _ _
  rw [hW0] at B0
  obtain ⟨c0, c1, _, _⟩ := blk2 h0
  have my := rdist_bad N root A c E B W0 (hE.below B0 (fun j hj _ => by omega)) (by omega) hl hbad
  have HB0 := Lib.hid B0
  clear hE B0 h0
  go_enter Try.func14, Try.ntmps14
  go_wp2_with fail
  refine my.mono ?_
  rintro e W1 ⟨rfl, b1⟩
  have HB1 := Lib.hid b1
  clear b1 my
  go_wp2
  go_ret2
  exact ⟨rfl, HB0.out.trans (HB1.out.mono (by omega))⟩

set_option maxRecDepth 100000 in
theorem rows_any (N : Nat) (g1 g2 : Nat) (H : List (List Nat)) (w : World) (h1 : ∀ u, u < N → ∃ A c, w.cell? ⟨g1, u, none⟩ = some (.slice A (gl H u).length c) ∧ Rd (· < w.heap.size) w A (nts (gl H u))) (h2 : ∀ u, u < N → ∃ A c, w.cell? ⟨g2, u, none⟩ = some (.slice A (gl H u).length c) ∧ Rd (· < w.heap.size) w A (nts (gl H u))) (hl : ∀ u, (gl H u).length ≤ 1000) (hN : N ≤ 64) (q1 : g1 < w.heap.size) (q2 : g2 < w.heap.size) :
    Calls Try.prog 16 #[.slice (some ⟨g1, 0, none⟩) N N, .slice (some ⟨g2, 0, none⟩) N N] w fun e w' => e = .returned (.bool true) ∧ Below w.heap.size w w' := by
  have R1 := Lib.hid h1
  have R2 := Lib.hid h2
  have HL := Lib.hid hl
  clear h1 h2 hl
  go_enter Try.func16, Try.ntmps16
  go_wp2_with fail
  go_loopg [5] N (fun gf v wx => ∃ k, v = .int .i64 ((k : Nat) : Int) ∧ Hid (gf + k = N) ∧ Hid (Below w.heap.size w wx))
  case atStart => exact ⟨0, rfl, Lib.hid (by omega), Lib.hid (Below.refl _ _)⟩
  case round =>
    obtain ⟨k, rfl, hk, hb⟩ := hrel
    have hk' := hk.out
    cases gk with
    | zero =>
      have lt0 : decide ((k : Int) < (N : Int)) = false := by simp; omega
      go_wp2
      go_ret
      exact ⟨rfl, hb.out⟩
    | succ gf =>
      have hkl : k < N := by omega
      have lt0 : (k : Int) < (N : Int) := by omega
      obtain ⟨A1, c1, e1, r1⟩ := R1.out k hkl
      obtain ⟨A2, c2, e2, r2⟩ := R2.out k hkl
      have bd := hb.out.size
      have z1 := (World.cell?_of_block (hb.out.block g1 q1)).trans e1
      have z2 := (World.cell?_of_block (hb.out.block g2 q2)).trans e2
      have hll := HL.out k
      have hb2 : Below w.heap.size w wr.drew := ⟨hb.out.os, hb.out.tape, hb.out.output, hb.out.size, hb.out.block⟩
      have it := ints_any A1 A2 c1 c2 (gl H k) (· < w.heap.size) (· < w.heap.size) wr.drew (r1.below hb2 (fun j hj _ => hj)) (r2.below hb2 (fun j hj _ => hj)) (by omega)
      obtain ⟨n, hn⟩ : ∃ n, (gl H k).length = n := ⟨_, rfl⟩
      rw [hn] at z1 z2 it
      have HB2 := Lib.hid hb2
      have Sof : Hid (∀ V : World, Below wr.heap.size wr V → V.cell? ⟨g1, k, none⟩ = some (.slice A1 n c1) ∧ V.cell? ⟨g2, k, none⟩ = some (.slice A2 n c2)) := Lib.hid (fun V bV => ⟨(World.cell?_of_block (bV.block g1 (by omega))).trans z1, (World.cell?_of_block (bV.block g2 (by omega))).trans z2⟩)
      have BD : Hid (Below wr.heap.size wr wr.drew) := Lib.hid ⟨rfl, rfl, rfl, Nat.le_refl _, fun _ _ => rfl⟩
      clear e1 e2 r1 r2 hn hb2
      go_wp2_with fail
      refine wp_region_held_drew (S := fun V => V.cell? ⟨g1, k, none⟩ = some (.slice A1 n c1) ∧ V.cell? ⟨g2, k, none⟩ = some (.slice A2 n c2)) (by kernel_rfl) (Sof.out _ BD.out) (fun hHeld => ?_)
      refine wpAnyH_take (i := 0) (v := ?_) rfl (by kernel_rfl) (by kernel_rfl) (by kernel_rfl) (fun _ _ _ h => h) (Or.inl ⟨by rfl, ?_⟩) (by assumption) ?_
      rotate_left
      · (intro w' hSw; (try dsimp only at hSw); go_simp; try with_reducible rfl)
      simp only [Act.put, List.getElem_toArray, List.getElem_cons_zero, List.setIfInBounds_toArray, List.set_cons_zero, List.set_cons_succ]
      refine wpAnyH_take (i := 1) (v := ?_) rfl (by kernel_rfl) (by kernel_rfl) (by kernel_rfl) (fun _ _ _ h => h) (Or.inl ⟨by rfl, ?_⟩) (by assumption) ?_
      rotate_left
      · (intro w' hSw; (try dsimp only at hSw); go_simp; try with_reducible rfl)
      simp only [Act.put, List.getElem_toArray, List.getElem_cons_zero, List.getElem_cons_succ, List.setIfInBounds_toArray, List.set_cons_zero, List.set_cons_succ]
      refine wpAnyH_take (i := 2) (v := ?_) rfl (by kernel_rfl) (by kernel_rfl) (by kernel_rfl) (fun _ _ _ h => h) (Or.inl ⟨by rfl, ?_⟩) (by assumption) ?_
      rotate_left
      · (intro w' hSw; (try dsimp only at hSw); go_simp; try with_reducible rfl)
      simp only [Act.put, List.getElem_toArray, List.getElem_cons_zero, List.getElem_cons_succ, List.setIfInBounds_toArray, List.set_cons_zero, List.set_cons_succ]
      refine wpAnyH_take (i := 3) (v := ?_) rfl (by kernel_rfl) (by kernel_rfl) (by kernel_rfl) (fun _ _ _ h => h) (Or.inl ⟨by rfl, ?_⟩) (by assumption) ?_
      rotate_left
      · (intro w' hSw; (try dsimp only at hSw); go_simp; try with_reducible rfl)
      simp only [Act.put, List.getElem_toArray, List.getElem_cons_zero, List.getElem_cons_succ, List.setIfInBounds_toArray, List.set_cons_zero, List.set_cons_succ]
      refine wpAnyH_take (i := 4) (v := ?_) rfl (by kernel_rfl) (by kernel_rfl) (by kernel_rfl) (fun _ _ _ h => h) (Or.inl ⟨by rfl, ?_⟩) (by assumption) ?_
      rotate_left
      · (intro w' hSw; (try dsimp only at hSw); go_simp; try with_reducible rfl)
      simp only [Act.put, List.getElem_toArray, List.getElem_cons_zero, List.getElem_cons_succ, List.setIfInBounds_toArray, List.set_cons_zero, List.set_cons_succ]
      refine wpAnyH_take (i := 5) (v := ?_) rfl (by kernel_rfl) (by kernel_rfl) (by kernel_rfl) (fun _ _ _ h => h) (Or.inl ⟨by rfl, ?_⟩) (by assumption) ?_
      rotate_left
      · (intro w' hSw; (try dsimp only at hSw); go_simp; try with_reducible rfl)
      simp only [Act.put, List.getElem_toArray, List.getElem_cons_zero, List.getElem_cons_succ, List.setIfInBounds_toArray, List.set_cons_zero, List.set_cons_succ]
      refine wpAnyH_take (i := 6) (v := ?_) rfl (by kernel_rfl) (by kernel_rfl) (by kernel_rfl) (fun _ _ _ h => h) (Or.inl ⟨by rfl, ?_⟩) (by assumption) ?_
      rotate_left
      · (intro w' hSw; (try dsimp only at hSw); go_simp; try with_reducible rfl)
      simp only [Act.put, List.getElem_toArray, List.getElem_cons_zero, List.getElem_cons_succ, List.setIfInBounds_toArray, List.set_cons_zero, List.set_cons_succ]
      refine wpAnyH_take (i := 7) (v := ?_) rfl (by kernel_rfl) (by kernel_rfl) (by kernel_rfl) (fun _ _ _ h => h) (Or.inl ⟨by rfl, ?_⟩) (by assumption) ?_
      rotate_left
      · (intro w' hSw; (try dsimp only at hSw); go_simp; try with_reducible rfl)
      simp only [Act.put, List.getElem_toArray, List.getElem_cons_zero, List.getElem_cons_succ, List.setIfInBounds_toArray, List.set_cons_zero, List.set_cons_succ]
      refine wpAnyH_ready (rs := [8]) (by kernel_rfl) (by simp) ?_
      refine AllReadyH.cons rfl (fun K hK => ?_) AllReadyH.nil
      go_simp
      go_at_call 15
      refine it.mono ?_
      rintro e V1 ⟨rfl, q⟩
      have HQ : Hid (Below wr.heap.size wr V1) := Lib.hid (BD.out.trans (q.mono (Nat.le_refl _)))
      refine hK.out _ _ (Sof.out _ HQ.out) (fun _ => ?_)
      clear hK K q it
      refine wpAnyH_take (i := 9) (v := ?_) rfl (by kernel_rfl) (by kernel_rfl) (by kernel_rfl) (fun _ _ _ h => h) (Or.inl ⟨by rfl, ?_⟩) (by assumption) ?_
      rotate_left
      · (intro w' hSw; (try dsimp only at hSw); go_simp; try with_reducible rfl)
      simp only [Act.put, List.getElem_toArray, List.getElem_cons_zero, List.getElem_cons_succ, List.setIfInBounds_toArray, List.set_cons_zero, List.set_cons_succ]
      refine wpAnyH_done (by kernel_rfl) ?_ _
      go_wp2
      go_roundg gf
      case measure => omega
      case rel => exact ⟨k + 1, by go_num, Lib.hid (by omega), Lib.hid (hb.out.trans (HQ.out.mono bd))⟩
end Go.Proofs.Ytkpmdfgjaodlaaa
