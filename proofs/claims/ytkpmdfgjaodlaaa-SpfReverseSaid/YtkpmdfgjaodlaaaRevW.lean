/-
  The walk of the law SpfReverse. No statement is proved here; no conditions.
-/
import Derived.Test.YtkpmdfgjaodlaaaShort
import Derived.Test.YtkpmdfgjaodlaaaRev
namespace Go.Proofs.Ytkpmdfgjaodlaaa
open Go.RowKit Go.Joins

def NE.rev (x : NE) : NE := ⟨x.t, x.f, x.c⟩
def revG (G : List NE) : List NE := G.map NE.rev
theorem revG_ed (G : List NE) : (G.map NE.ed).map Ed.rev = (revG G).map NE.ed := by simp [revG, List.map_map]; intro x _; rfl
theorem revG_len (G : List NE) : (revG G).length = G.length := by simp [revG]
theorem revG_gn {G : List NE} {i : Nat} (hi : i < G.length) : gn (revG G) i = (gn G i).rev := by
  rw [gn_eq (by rw [revG_len]; exact hi), gn_eq hi]
  simp [revG]
theorem revG_rev (G : List NE) : revG (revG G) = G := by
  simp [revG, List.map_map]
  exact (List.map_congr_left (fun x _ => rfl)).trans (List.map_id' G)
theorem revG_v {N : Nat} {G : List NE} (h : GV N G) : GV N (revG G) :=
  ⟨h.n1, h.n2, by rw [revG_len]; exact h.m, fun i hi => by rw [revG_len] at hi; rw [revG_gn hi]; exact h.t i hi, fun i hi => by rw [revG_len] at hi; rw [revG_gn hi]; exact h.f i hi, fun i hi => by rw [revG_len] at hi; rw [revG_gn hi]; exact h.c i hi⟩
theorem Wk.rev {G : List NE} {a b l n : Nat} (h : Wk G a b l n) : Wk (revG G) b a l n := by
  induction h with
  | nil => exact .nil
  | snoc i h hi hf ih =>
    have h1 := Wk.one (G := revG G) (i := i) (by rw [revG_len]; exact hi)
    rw [revG_gn hi] at h1
    have h2 := h1.cat (show Wk (revG G) (gn G i).rev.t _ _ _ from by show Wk (revG G) (gn G i).f _ _ _; rw [hf]; exact ih)
    rw [show (gn G i).rev.c = (gn G i).c from rfl, show (gn G i).rev.f = (gn G i).t from rfl] at h2
    rw [Nat.add_comm, Nat.add_comm _ 1]
    exact h2
theorem IsD.rev {N : Nat} {G : List NE} {a b : Nat} {d c : List Nat} (h : IsD N G a d) (k : IsD N (revG G) b c) (ha : a < N) (hb : b < N) : gw d b = gw c a := by
  rcases h.at_ b hb with e | ⟨e, n, hn⟩ <;> rcases k.at_ a ha with e' | ⟨e', n', hn'⟩
  · rw [e, e']
  · have := h.lo b _ _ (by have := hn'.rev; rwa [revG_rev] at this); unfold inf at e; omega
  · have := k.lo a _ _ hn.rev; unfold inf at e'; omega
  · have h1 := h.lo b _ _ (by have := hn'.rev; rwa [revG_rev] at this)
    have h2 := k.lo a _ _ hn.rev
    omega

set_option maxRecDepth 100000 in
set_option maxHeartbeats 4000000 in
theorem reverse_bad (N a b : Int) (A : Option Addr) (c : Nat) (E : List Ed) (W : World) (hE : Rd (· < W.heap.size) W A (eflat E)) (hbad : ¬ (E.length ≤ 410 ∧ may N E = true ∧ (0 ≤ a ∧ a < N) ∧ 0 ≤ b ∧ b < N)) :
    Calls Try.prog 7 #[gv N A E.length c, .int .i64 a, .int .i64 b] W fun e W' => e = .returned (.bool true) ∧ Below W.heap.size W W' := by
  have K := box2_at (w := W) (u := .int .i64 N) (v := .slice A E.length c) (t := 24) (B := W.heap.size + 1) (by omega)
  have B0 := below_alloc1 W (.cells #[.int .i64 N, .slice A E.length c] 24)
  obtain ⟨W0, hW0⟩ : ∃ W0, W.alloc (.cells #[.int .i64 N, .slice A E.length c] 24) = W0 := ⟨_, rfl⟩
  have hs0 : W0.heap.size = W.heap.size + 1 := by rw [← hW0]; simp
  rw [hW0] at K B0
  obtain ⟨c0, c1, _, _⟩ := K _ (Below.refl _ _)
  have HB0 := Lib.hid B0
  have HE0 := Lib.hid (hE.below B0 (fun j hj _ => hj))
  clear B0 hE
  by_cases hlen : E.length > 410
  · have h1 : (410 : Int) < (E.length : Int) := by omega
    go_enter Try.func7, Try.ntmps7
    go_wp2_with fail
    refine (alive_any _).mono ?_
    rintro e W1 ⟨rfl, h1⟩
    have B1 := Lib.hid (HB0.out.trans (h1.mono (by omega)))
    clear h1
    go_wp2
    go_ret
    exact ⟨rfl, B1.out⟩
  · have h1 : decide ((410 : Int) < (E.length : Int)) = false := decide_eq_false (by omega)
    have h1' : decide (410 < E.length) = false := decide_eq_false (by omega)
    have my := may_any N A c E W.heap.size W0 HE0.out (by omega) (by omega)
    rw [hs0] at my
    cases hm : may N E with
    | false =>
      rw [hm] at my
      go_enter Try.func7, Try.ntmps7
      go_wp2_with fail
      refine my.mono ?_
      rintro e W1 ⟨rfl, b1⟩
      have HB1 := Lib.hid b1
      have hs1 := b1.size
      clear b1 my
      go_wp2_with fail
      refine (alive_any _).mono ?_
      rintro e W2 ⟨rfl, h2⟩
      have B2 := Lib.hid (HB0.out.trans ((HB1.out.mono (by omega)).trans (h2.mono (by omega))))
      clear h2
      go_wp2
      go_ret
      exact ⟨rfl, B2.out⟩
    | true =>
      rw [hm] at my hbad
      go_enter Try.func7, Try.ntmps7
      go_wp2_with fail
      refine my.mono ?_
      rintro e W1 ⟨rfl, b1⟩
      obtain ⟨k0, k1, _, _⟩ := K _ b1
      have HB1 := Lib.hid b1
      have hs1 := b1.size
      clear b1 my
      have hq : (a < 0) ∨ (0 ≤ a ∧ N ≤ a) ∨ (0 ≤ a ∧ a < N ∧ b < 0) ∨ (0 ≤ a ∧ a < N ∧ 0 ≤ b ∧ N ≤ b) := by
        have : ¬ ((0 ≤ a ∧ a < N) ∧ 0 ≤ b ∧ b < N) := fun h => hbad ⟨by omega, trivial, h⟩
        omega
      clear hbad
      have fin : ∀ W1' : World, W1' = W1 → Calls Try.prog 9 #[] W1' fun e W2 => e = .returned (.bool true) ∧ Below W.heap.size W W2 := fun W1' e => by
        subst e
        refine (alive_any _).mono ?_
        rintro e W2 ⟨rfl, h2⟩
        exact ⟨rfl, HB0.out.trans ((HB1.out.mono (by omega)).trans (h2.mono (by omega)))⟩
      have FIN := Lib.hid fin
      clear fin
      rcases hq with q | ⟨q1, q2⟩ | ⟨q1, q2, q3⟩ | ⟨q1, q2, q3, q4⟩
      · have d1 : decide (a < 0) = true := decide_eq_true q
        go_wp2_with fail
        refine (FIN.out _ rfl).mono ?_
        rintro e W2 ⟨rfl, h2⟩
        have B2 := Lib.hid h2
        clear h2
        go_wp2
        go_ret
        exact ⟨rfl, B2.out⟩
      · have d1 : decide (a < 0) = false := decide_eq_false (by omega)
        have d2 : decide (a ≥ N) = true := decide_eq_true q2
        go_wp2_with fail
        refine (FIN.out _ rfl).mono ?_
        rintro e W2 ⟨rfl, h2⟩
        have B2 := Lib.hid h2
        clear h2
        go_wp2
        go_ret
        exact ⟨rfl, B2.out⟩
      · have d1 : decide (a < 0) = false := decide_eq_false (by omega)
        have d2 : decide (a ≥ N) = false := decide_eq_false (by omega)
        have d3 : decide (b < 0) = true := decide_eq_true q3
        go_wp2_with fail
        refine (FIN.out _ rfl).mono ?_
        rintro e W2 ⟨rfl, h2⟩
        have B2 := Lib.hid h2
        clear h2
        go_wp2
        go_ret
        exact ⟨rfl, B2.out⟩
      · have d1 : decide (a < 0) = false := decide_eq_false (by omega)
        have d2 : decide (a ≥ N) = false := decide_eq_false (by omega)
        have d3 : decide (b < 0) = false := decide_eq_false (by omega)
        have d4 : decide (b ≥ N) = true := decide_eq_true q4
        go_wp2_with fail
        refine (FIN.out _ rfl).mono ?_
        rintro e W2 ⟨rfl, h2⟩
        have B2 := Lib.hid h2
        clear h2
        go_wp2
        go_ret
        exact ⟨rfl, B2.out⟩

set_option maxRecDepth 100000 in
set_option maxHeartbeats 4000000 in
theorem reverse_good (N a b : Nat) (A : Option Addr) (c : Nat) (G : List NE) (W : World) (hE : Rd (· < W.heap.size) W A (nflat G)) (hg : GV N G) (ha : a < N) (hb : b < N) :
    Calls Try.prog 7 #[gv N A G.length c, .int .i64 (a : Int), .int .i64 (b : Int)] W fun e W' => e = .returned (.bool true) ∧ Below W.heap.size W W' := by
  have hn2 := hg.n2
  have hm400 := hg.m
  have K := box2_at (w := W) (u := .int .i64 N) (v := .slice A G.length c) (t := 24) (B := W.heap.size + 1) (by omega)
  have B0 := below_alloc1 W (.cells #[.int .i64 N, .slice A G.length c] 24)
  obtain ⟨W0, hW0⟩ : ∃ W0, W.alloc (.cells #[.int .i64 N, .slice A G.length c] 24) = W0 := ⟨_, rfl⟩
  have hs0 : W0.heap.size = W.heap.size + 1 := by rw [← hW0]; simp
  rw [hW0] at K B0
  obtain ⟨c0, c1, _, _⟩ := K _ (Below.refl _ _)
  have hE0 := hE.below B0 (fun j hj _ => hj)
  have my := may_any N A c (G.map NE.ed) W.heap.size W0 hE0 (by omega) (by simp; omega)
  rw [may_of hg, List.length_map, hs0] at my
  have h1 : decide ((410 : Int) < (G.length : Int)) = false := decide_eq_false (by omega)
  have h1' : decide (410 < G.length) = false := decide_eq_false (by omega)
  have d2 : decide ((a : Int) ≥ (N : Int)) = false := decide_eq_false (by omega)
  have d2' : decide (N ≤ a) = false := decide_eq_false (by omega)
  have d2'' : decide (a ≥ N) = false := decide_eq_false (by omega)
  have d4 : decide ((b : Int) ≥ (N : Int)) = false := decide_eq_false (by omega)
  have d4' : decide (N ≤ b) = false := decide_eq_false (by omega)
  have d4'' : decide (b ≥ N) = false := decide_eq_false (by omega)
  have HB0 := Lib.hid B0
  have HE0 := Lib.hid hE0
  have HG := Lib.hid hg
  clear B0 hE hE0 hg
  go_enter Try.func7, Try.ntmps7
  go_wp2_with fail
  refine my.mono ?_
  rintro e W1 ⟨rfl, b1⟩
  obtain ⟨k0, k1, _, _⟩ := K _ b1
  have hs1 := b1.size
  have di := dist_any N a A c G W.heap.size W1 (HE0.out.below b1 (fun j hj _ => by omega)) (by omega) HG.out ha
  have B1 := Lib.hid b1
  clear b1 my c0 c1
  go_wp2_with fail
  refine di.mono ?_
  rintro e W2 ⟨d, gd, rfl, isd, rd, hgd, b2⟩
  have hs2 := b2.size
  have b02 := B1.out.trans (b2.mono (by omega))
  obtain ⟨j0, j1, _, _⟩ := K _ b02
  have rv := reverse_any N A c (G.map NE.ed) W.heap.size W2 (HE0.out.below b02 (fun j hj _ => by omega)) (by omega) (by simp; omega)
  rw [List.length_map] at rv
  have B02 := Lib.hid b02
  have RD := Lib.hid rd
  have ISD := Lib.hid isd
  clear di b2 b02 rd isd k0 k1 B1
  go_wp2_with fail
  refine rv.mono ?_
  rintro e W3 ⟨gr, rfl, rr, hgr, b3⟩
  have hs3 := b3.size
  rw [revG_ed, List.length_map] at rr
  have di2 := dist_any N b (some ⟨gr, 0, none⟩) G.length (revG G) W3.heap.size W3 (rr.rd.more (fun j _ hl => hl)) (Nat.le_refl _) (revG_v HG.out) hb
  rw [revG_len] at di2
  rw [List.length_map]
  have B3 := Lib.hid b3
  have RD3 := Lib.hid (RD.out.below' b3)
  clear rv b3 rr RD j0 j1
  go_wp2_with fail
  refine di2.mono ?_
  rintro e W4 ⟨dc, gc, rfl, isc, rc, hgc, b4⟩
  have hs4 := b4.size
  have e1 := (RD3.out.below' b4).nat_cell (u := b) (by rw [ISD.out.len]; exact hb)
  have e2 := rc.nat_cell (u := a) (by rw [isc.len]; exact ha)
  rw [ISD.out.rev isc ha hb] at e1
  obtain ⟨x, hx⟩ : ∃ x, gw dc a = x := ⟨_, rfl⟩
  rw [hx] at e1 e2
  have FB := Lib.hid (HB0.out.trans ((B02.out.mono (by omega)).trans ((B3.out.mono (by omega)).trans (b4.mono (by omega)))))
  have hai : (a : Int) < (N : Int) := by omega
  have hbi : (b : Int) < (N : Int) := by omega
  have al := alive_any
  clear di2 b4 rc isc hx K
  go_wp2_with fail
  refine wp_region_quiet_below (by kernel_rfl) (by kernel_rfl) ?_
  have z : ∀ dd os, _ := fun dd os => Calls.regrown_of (w := W4) (d := dd) (os := os) (al _)
  have y1 : ∀ dd os, (Sort.grow (redrawn W4 dd) os).cell? ⟨gd, b, none⟩ = some (.int .i64 (x : Int)) := fun dd os => cell_regrown e1 dd os
  have y2 : ∀ dd os, (Sort.grow (redrawn W4 dd) os).cell? ⟨gc, a, none⟩ = some (.int .i64 (x : Int)) := fun dd os => cell_regrown e2 dd os
  repeat (first | go_big_quiet_skip | go_big_quiet_step (with_reducible exact z _ _))
  refine wpQuiet_nil ?_
  intro W5 hw'
  obtain ⟨⟨dq, osq⟩, hw''⟩ := hw'
  have hbq : Below W4.heap.size W4 W5 := by rw [hw'']; exact below_regrown W4 dq osq
  have FB5 := Lib.hid (FB.out.trans (hbq.mono (by omega)))
  clear hw'' hbq z y1 y2 e1 e2
  go_wp2
  go_ret
  exact ⟨rfl, FB5.out⟩

theorem reverse_walk (N a b : Int) (A : Option Addr) (c : Nat) (E : List Ed) (W : World) (hE : Rd (· < W.heap.size) W A (eflat E)) :
    Calls Try.prog 7 #[gv N A E.length c, .int .i64 a, .int .i64 b] W fun e W' => e = .returned (.bool true) ∧ Below W.heap.size W W' := by
  by_cases h : E.length ≤ 410 ∧ may N E = true ∧ (0 ≤ a ∧ a < N) ∧ 0 ≤ b ∧ b < N
  · obtain ⟨_, h1, h2, h3⟩ := h
    obtain ⟨n, G, rfl, rfl, hg⟩ := may_nat h1
    obtain ⟨a, rfl⟩ : ∃ r : Nat, a = r := ⟨a.toNat, by omega⟩
    obtain ⟨b, rfl⟩ : ∃ r : Nat, b = r := ⟨b.toNat, by omega⟩
    have := reverse_good n a b A c G W hE hg (by omega) (by omega)
    rwa [List.length_map]
  · exact reverse_bad N a b A c E W hE h
end Go.Proofs.Ytkpmdfgjaodlaaa
