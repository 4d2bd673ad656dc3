/-
  Distances and hops, of the program and of the reference, in one form each. No statement is proved here; no conditions.
-/
import Derived.Test.YtkpmdfgjaodlaaaRHops
import Derived.Test.YtkpmdfgjaodlaaaShort
import Derived.Test.YtkpmdfgjaodlaaaSame
namespace Go.Proofs.Ytkpmdfgjaodlaaa
open Go.RowKit Go.Joins

/-- All edges, k rounds long. -/
theorem rx_round {N : Nat} {G : List NE} {root k : Nat} {d : List Nat} (hg : GV N G) (hr : root < N) (hk : k ≤ 64) (h : RX N G root k 0 d) : ∀ i, i ≤ G.length → ∃ d', RX N G root k i d'
  | 0, _ => ⟨d, h⟩
  | i + 1, hi => by
    obtain ⟨d', h'⟩ := rx_round hg hr hk h i (by omega)
    exact ⟨_, h'.step hg hr hk (by omega)⟩
theorem rx_all {N : Nat} {G : List NE} {root : Nat} (hg : GV N G) (hr : root < N) : ∃ d, IsD N G root d := by
  have : ∀ k, k ≤ N → ∃ d, RX N G root k 0 d := by
    intro k
    induction k with
    | zero => exact fun _ => ⟨_, RX.start hr⟩
    | succ k ih =>
      intro hk
      obtain ⟨d, h⟩ := ih (by omega)
      obtain ⟨d', h'⟩ := rx_round hg hr (by have := hg.n2; omega) h G.length (Nat.le_refl _)
      exact ⟨d', h'.next⟩
  obtain ⟨d, h⟩ := this N (Nat.le_refl _)
  exact ⟨d, h.done hg hr⟩
/-- A row of numbers and why not. -/
def DistR (l : List Nat) (er : Int) (w : World) (e : Ending) (w' : World) : Prop :=
  ∃ A1 c1, e = .returned (.tuple #[.slice A1 l.length c1, .int .i64 er]) ∧ Rd (· < w'.heap.size) w' A1 (nts l) ∧ Below w.heap.size w w'
theorem dist_u (N root : Int) (E : List Ed) (hl : E.length ≤ 410) : ∃ (l : List Nat) (er : Int), l.length ≤ 1000 ∧
    (∀ A c w, Rd (· < w.heap.size) w A (eflat E) → Calls Try.prog 10 #[gv N A E.length c, .int .i64 root] w fun e w' => DistR l er w e w') ∧
    (∀ A c w, Rd (· < w.heap.size) w A (eflat E) → Calls Try.prog 11 #[gv N A E.length c, .int .i64 root] w fun e w' => DistR l er w e w') := by
  by_cases h : may N E = true ∧ (0 ≤ root ∧ root < N)
  · obtain ⟨h1, h2, h3⟩ := h
    obtain ⟨n, G, rfl, rfl, hg⟩ := may_nat h1
    obtain ⟨r, rfl⟩ : ∃ r : Nat, root = r := ⟨root.toNat, by omega⟩
    have hr : r < n := by omega
    obtain ⟨d, hd⟩ : ∃ d, IsD n G r d := by
      have := rx_all (G := G) hg hr
      exact this
    refine ⟨d, 0, by rw [hd.len]; have := hg.n2; omega, fun A c w hE => ?_, fun A c w hE => ?_⟩
    · rw [List.length_map]
      refine (dist_any n r A c G w.heap.size w hE (Nat.le_refl _) hg hr).mono ?_
      rintro e w' ⟨d', gd, rfl, isd, rd, _, b⟩
      have := isd.unique hd
      subst this
      exact ⟨_, n, by rw [hd.len], rd.rd.more (fun j _ hl => hl), b⟩
    · rw [List.length_map]
      refine (rdist_any n r A c G w.heap.size w hE (Nat.le_refl _) hg hr).mono ?_
      rintro e w' ⟨d', gd, rfl, isd, rd, _, b⟩
      have := isd.unique hd
      subst this
      exact ⟨_, n, by rw [hd.len], rd.rd.more (fun j _ hl => hl), b⟩
  · have hbad : may N E = false ∨ ¬ (0 ≤ root ∧ root < N) := by
      cases hm : may N E with
      | false => exact .inl rfl
      | true => exact .inr fun x => h ⟨hm, x⟩
    refine ⟨[], 1, by simp, fun A c w hE => ?_, fun A c w hE => ?_⟩
    · refine (dist_bad N root A c E w.heap.size w hE (Nat.le_refl _) (by omega) hbad).mono ?_
      rintro e w' ⟨rfl, b⟩
      exact ⟨none, 0, rfl, Rd.nil _, b⟩
    · refine (rdist_bad N root A c E w.heap.size w hE (Nat.le_refl _) (by omega) hbad).mono ?_
      rintro e w' ⟨rfl, b⟩
      exact ⟨none, 0, rfl, Rd.nil _, b⟩
/-- A row of rows that is read. -/
def RdR (w : World) (A1 : Option Addr) (H : List (List Nat)) : Prop :=
  ∀ u, u < H.length → ∃ g, A1 = some ⟨g, 0, none⟩ ∧ g < w.heap.size ∧ ∃ A c, w.cell? ⟨g, u, none⟩ = some (.slice A (gl H u).length c) ∧ Rd (· < w.heap.size) w A (nts (gl H u))
theorem RdR.grow {w w' : World} {A1 : Option Addr} {H : List (List Nat)} (h : RdR w A1 H) (k : Below w.heap.size w w') : RdR w' A1 H := fun u hu => by
  obtain ⟨g, e, hl, A, c, h1, h2⟩ := h u hu
  exact ⟨g, e, Nat.lt_of_lt_of_le hl k.size, A, c, (World.cell?_of_block (k.block g hl)).trans h1, h2.grow k⟩
/-- Rows of numbers and why not. -/
def RowsR (H : List (List Nat)) (er : Int) (w : World) (e : Ending) (w' : World) : Prop :=
  ∃ A1 c1, e = .returned (.tuple #[.slice A1 H.length c1, .int .i64 er]) ∧ RdR w' A1 H ∧ Below w.heap.size w w'
theorem hops_u (N root : Int) (E : List Ed) (hl : E.length ≤ 410) : ∃ (H : List (List Nat)) (er : Int), H.length ≤ 64 ∧ (∀ u, u < H.length → (gl H u).length ≤ 1000) ∧
    (∀ A c w, Rd (· < w.heap.size) w A (eflat E) → Calls Try.prog 13 #[gv N A E.length c, .int .i64 root] w fun e w' => RowsR H er w e w') ∧
    (∀ A c w, Rd (· < w.heap.size) w A (eflat E) → Calls Try.prog 14 #[gv N A E.length c, .int .i64 root] w fun e w' => RowsR H er w e w') := by
  by_cases h : may N E = true ∧ (0 ≤ root ∧ root < N)
  · obtain ⟨h1, h2, h3⟩ := h
    obtain ⟨n, G, rfl, rfl, hg⟩ := may_nat h1
    obtain ⟨r, rfl⟩ : ∃ r : Nat, root = r := ⟨root.toNat, by omega⟩
    have hr : r < n := by omega
    obtain ⟨d, hd⟩ : ∃ d, IsD n G r d := by
      have := rx_all (G := G) hg hr
      exact this
    obtain ⟨H, hHl, hH⟩ : ∃ H : List (List Nat), H.length = n ∧ ∀ u, u < n → gl H u = hopF (useL G d r) G r (outs G G.length r).length u :=
      ⟨(List.range n).map fun u => hopF (useL G d r) G r (outs G G.length r).length u, by simp, fun u hu => by rw [gl_eq (by simpa using hu)]; simp⟩
    have hm := hg.m
    have hn2 := hg.n2
    refine ⟨H, 0, by omega, fun u hu => ?_, fun A c w hE => ?_, fun A c w hE => ?_⟩
    · rw [hH u (by omega)]
      have e1 := hopF_len (useL G d r) G r (outs G G.length r).length u
      have e2 := outs_len G G.length r
      omega
    · rw [List.length_map]
      refine (hops_any n r A c G w.heap.size w hE (Nat.le_refl _) hg hr).mono ?_
      rintro e w' ⟨d', H', gr, rfl, isd, hl', hh, rr, _, b⟩
      have := isd.unique hd
      subst this
      refine ⟨_, n, by rw [hHl], fun u hu => ?_, b⟩
      obtain ⟨A2, c2, z1, z2⟩ := rr.at_ (u := u) (by omega)
      rw [hh u (by omega), ← hH u (by omega)] at z1 z2
      exact ⟨gr, rfl, rr.lt, A2, c2, z1, z2.more (fun j _ hl => hl)⟩
    · rw [List.length_map]
      refine (rhops_any n r A c G w.heap.size w hE (Nat.le_refl _) hg hr).mono ?_
      rintro e w' ⟨d', H', gr, rfl, isd, hl', hh, rr, _, b⟩
      have := isd.unique hd
      subst this
      refine ⟨_, n, by rw [hHl], fun u hu => ?_, b⟩
      obtain ⟨A2, c2, z1, z2⟩ := rr.at_ (u := u) (by omega)
      rw [hh u (by omega), ← hH u (by omega)] at z1 z2
      exact ⟨gr, rfl, rr.lt, A2, c2, z1, z2.more (fun j _ hl => hl)⟩
  · have hbad : may N E = false ∨ ¬ (0 ≤ root ∧ root < N) := by
      cases hm : may N E with
      | false => exact .inl rfl
      | true => exact .inr fun x => h ⟨hm, x⟩
    refine ⟨[], 1, by simp, fun u hu => by simp at hu, fun A c w hE => ?_, fun A c w hE => ?_⟩
    · refine (hops_bad N root A c E w.heap.size w hE (Nat.le_refl _) (by omega) hbad).mono ?_
      rintro e w' ⟨rfl, b⟩
      exact ⟨none, 0, rfl, fun u hu => by simp at hu, b⟩
    · refine (rhops_bad N root A c E w.heap.size w hE (Nat.le_refl _) (by omega) hbad).mono ?_
      rintro e w' ⟨rfl, b⟩
      exact ⟨none, 0, rfl, fun u hu => by simp at hu, b⟩
/-- 'append' of all edges to an empty row. -/
theorem own_app {w : World} {g n0 : Nat} {A : Option Addr} {c : Nat} {E : List Ed} (hg : Rg 50 3 w g 0 []) (hE : Rd (· < n0) w A (eflat E)) (hl : E.length ≤ 410) :
    ∃ A' c' w', (Builtin.append_ #[22, 22] 22 #[.slice (some ⟨g, 0, none⟩) 0 0, .slice A E.length c]).run Try.prog w = .ok (.slice A' E.length c') w' ∧ Rd (fun j => (j = g ∨ w.heap.size ≤ j) ∧ j < w'.heap.size) w' A' (eflat E) ∧ Kp (fun j => j = g) w w' := by
  obtain ⟨ti, hi5, hz5, hsz5, hby5⟩ := info50
  by_cases he : E.length = 0
  · have e0 : E = [] := List.eq_nil_of_length_eq_zero he
    subst e0
    exact ⟨_, _, w, run_app0 (P := Try.prog) w 22 22 50 ti 3 Try.underlying22 hi5 g 0 0 A c (Nat.le_refl _), Rd.nil _, Kp.refl _ _⟩
  · obtain ⟨g2, c2, w2, r1, r2, r3, r4⟩ := run_appr (P := Try.prog) w 22 22 50 ti _ 3 24 Try.underlying22 hi5 hz5 hsz5 hby5 rfl (by omega) (by omega) (some ⟨g, 0, none⟩) g 0 0 [] ⟨rfl, .inr ⟨rfl, hg⟩⟩ (· < n0) A c E.length (eflat E) hE (eflat_length E) (eflat_one E) (by omega) (by omega)
    rw [Nat.zero_add] at r1
    refine ⟨_, c2, w2, r1, ?_, r3.mono (fun j hj => by injection hj with hj; injection hj with hj; exact hj.symm)⟩
    rw [List.nil_append] at r2
    refine r2.rd.more fun j hj hjl => ?_
    subst hj
    refine ⟨?_, hjl⟩
    rcases r4 with e | e
    · injection e with e; injection e with e; exact .inl e.symm
    · exact .inr (by omega)

set_option maxRecDepth 100000 in
theorem rows_u (A1 A2 : Option Addr) (c1 c2 : Nat) (H : List (List Nat)) (w : World) (h1 : RdR w A1 H) (h2 : RdR w A2 H) (hl : ∀ u, u < H.length → (gl H u).length ≤ 1000) (hN : H.length ≤ 64) :
    Calls Try.prog 16 #[.slice A1 H.length c1, .slice A2 H.length c2] w fun e w' => e = .returned (.bool true) ∧ Below w.heap.size w w' := by
  have R1 := Lib.hid h1
  have R2 := Lib.hid h2
  have HL := Lib.hid hl
  clear h1 h2 hl
  go_enter Try.func16, Try.ntmps16
  go_wp2_with fail
  go_loopg [5] H.length (fun gf v wx => ∃ k, v = .int .i64 ((k : Nat) : Int) ∧ Hid (gf + k = H.length) ∧ Hid (Below w.heap.size w wx))
  case atStart => exact ⟨0, rfl, Lib.hid (by omega), Lib.hid (Below.refl _ _)⟩
  case round =>
    obtain ⟨k, rfl, hk, hb⟩ := hrel
    have hk' := hk.out
    cases gk with
    | zero =>
      have lt0 : decide ((k : Int) < (H.length : Int)) = false := by simp; omega
      go_wp2
      go_ret
      exact ⟨rfl, hb.out⟩
    | succ gf =>
      have hkl : k < H.length := by omega
      have lt0 : (k : Int) < (H.length : Int) := by omega
      obtain ⟨g1, rfl, q1, B1, d1, e1, r1⟩ := R1.out k hkl
      obtain ⟨g2, rfl, q2, B2, d2, e2, r2⟩ := R2.out k hkl
      have bd := hb.out.size
      have z1 := (World.cell?_of_block (hb.out.block g1 q1)).trans e1
      have z2 := (World.cell?_of_block (hb.out.block g2 q2)).trans e2
      have hll := HL.out k hkl
      have hb2 : Below w.heap.size w wr.drew := ⟨hb.out.os, hb.out.tape, hb.out.output, hb.out.size, hb.out.block⟩
      have it := ints_any B1 B2 d1 d2 (gl H k) (· < w.heap.size) (· < w.heap.size) wr.drew (r1.below hb2 (fun j hj _ => hj)) (r2.below hb2 (fun j hj _ => hj)) (by omega)
      obtain ⟨n, hn⟩ : ∃ n, (gl H k).length = n := ⟨_, rfl⟩
      rw [hn] at z1 z2 it
      have Sof : Hid (∀ V : World, Below wr.heap.size wr V → V.cell? ⟨g1, k, none⟩ = some (.slice B1 n d1) ∧ V.cell? ⟨g2, k, none⟩ = some (.slice B2 n d2)) := Lib.hid (fun V bV => ⟨(World.cell?_of_block (bV.block g1 (by omega))).trans z1, (World.cell?_of_block (bV.block g2 (by omega))).trans z2⟩)
      have BD : Hid (Below wr.heap.size wr wr.drew) := Lib.hid ⟨rfl, rfl, rfl, Nat.le_refl _, fun _ _ => rfl⟩
      clear e1 e2 r1 r2 hn hb2
      go_wp2_with fail
      refine wp_region_held_drew (S := fun V => V.cell? ⟨g1, k, none⟩ = some (.slice B1 n d1) ∧ V.cell? ⟨g2, k, none⟩ = some (.slice B2 n d2)) (by kernel_rfl) (Sof.out _ BD.out) (fun hHeld => ?_)
      refine wpAnyH_take (i := 0) (v := ?_) rfl (by kernel_rfl) (by kernel_rfl) (by kernel_rfl) (fun _ _ _ h => h) (Or.inl ⟨by rfl, ?_⟩) (by assumption) ?_
      rotate_left
      · (intro w' hSw; (try dsimp only at hSw); go_simp; try with_reducible rfl)
      simp only [Act.put, List.getElem_toArray, List.getElem_cons_zero, List.setIfInBounds_toArray, List.set_cons_zero, List.set_cons_succ]
      refine wpAnyH_take (i := 1) (v := ?_) rfl (by kernel_rfl) (by kernel_rfl) (by kernel_rfl) (fun _ _ _ h => h) (Or.inl ⟨by rfl, ?_⟩) (by assumption) ?_
      rotate_left
      · (intro w' hSw; (try dsimp only at hSw); go_simp; try with_reducible rfl)
      simp only [Act.put, List.getElem_toArray, List.getElem_cons_zero, List.getElem_cons_succ, List.setIfInBounds_toArray, List.set_cons_zero, List.set_cons_succ]
      refine wpAnyH_take (i := 2) (v := ?_) rfl (by kernel_rfl) (by kernel_rfl) (by kernel_rfl) (fun _ _ _ h => h) (Or.inl ⟨by rfl, ?_⟩) (by assumption) ?_
      rotate_left
      · (intro w' hSw; (try dsimp only at hSw); go_simp; try with_reducible rfl)
      simp only [Act.put, List.getElem_toArray, List.getElem_cons_zero, List.getElem_cons_succ, List.setIfInBounds_toArray, List.set_cons_zero, List.set_cons_succ]
      refine wpAnyH_take (i := 3) (v := ?_) rfl (by kernel_rfl) (by kernel_rfl) (by kernel_rfl) (fun _ _ _ h => h) (Or.inl ⟨by rfl, ?_⟩) (by assumption) ?_
      rotate_left
      · (intro w' hSw; (try dsimp only at hSw); go_simp; try with_reducible rfl)
      simp only [Act.put, List.getElem_toArray, List.getElem_cons_zero, List.getElem_cons_succ, List.setIfInBounds_toArray, List.set_cons_zero, List.set_cons_succ]
      refine wpAnyH_take (i := 4) (v := ?_) rfl (by kernel_rfl) (by kernel_rfl) (by kernel_rfl) (fun _ _ _ h => h) (Or.inl ⟨by rfl, ?_⟩) (by assumption) ?_
      rotate_left
      · (intro w' hSw; (try dsimp only at hSw); go_simp; try with_reducible rfl)
      simp only [Act.put, List.getElem_toArray, List.getElem_cons_zero, List.getElem_cons_succ, List.setIfInBounds_toArray, List.set_cons_zero, List.set_cons_succ]
      refine wpAnyH_take (i := 5) (v := ?_) rfl (by kernel_rfl) (by kernel_rfl) (by kernel_rfl) (fun _ _ _ h => h) (Or.inl ⟨by rfl, ?_⟩) (by assumption) ?_
      rotate_left
      · (intro w' hSw; (try dsimp only at hSw); go_simp; try with_reducible rfl)
      simp only [Act.put, List.getElem_toArray, List.getElem_cons_zero, List.getElem_cons_succ, List.setIfInBounds_toArray, List.set_cons_zero, List.set_cons_succ]
      refine wpAnyH_take (i := 6) (v := ?_) rfl (by kernel_rfl) (by kernel_rfl) (by kernel_rfl) (fun _ _ _ h => h) (Or.inl ⟨by rfl, ?_⟩) (by assumption) ?_
      rotate_left
      · (intro w' hSw; (try dsimp only at hSw); go_simp; try with_reducible rfl)
      simp only [Act.put, List.getElem_toArray, List.getElem_cons_zero, List.getElem_cons_succ, List.setIfInBounds_toArray, List.set_cons_zero, List.set_cons_succ]
      refine wpAnyH_take (i := 7) (v := ?_) rfl (by kernel_rfl) (by kernel_rfl) (by kernel_rfl) (fun _ _ _ h => h) (Or.inl ⟨by rfl, ?_⟩) (by assumption) ?_
      rotate_left
      · (intro w' hSw; (try dsimp only at hSw); go_simp; try with_reducible rfl)
      simp only [Act.put, List.getElem_toArray, List.getElem_cons_zero, List.getElem_cons_succ, List.setIfInBounds_toArray, List.set_cons_zero, List.set_cons_succ]
      refine wpAnyH_ready (rs := [8]) (by kernel_rfl) (by simp) ?_
      refine AllReadyH.cons rfl (fun K hK => ?_) AllReadyH.nil
      go_simp
      go_at_call 15
      refine it.mono ?_
      rintro e V1 ⟨rfl, q⟩
      have HQ : Hid (Below wr.heap.size wr V1) := Lib.hid (BD.out.trans (q.mono (Nat.le_refl _)))
      refine hK.out _ _ (Sof.out _ HQ.out) (fun _ => ?_)
      clear hK K q it
      refine wpAnyH_take (i := 9) (v := ?_) rfl (by kernel_rfl) (by kernel_rfl) (by kernel_rfl) (fun _ _ _ h => h) (Or.inl ⟨by rfl, ?_⟩) (by assumption) ?_
      rotate_left
      · (intro w' hSw; (try dsimp only at hSw); go_simp; try with_reducible rfl)
      simp only [Act.put, List.getElem_toArray, List.getElem_cons_zero, List.getElem_cons_succ, List.setIfInBounds_toArray, List.set_cons_zero, List.set_cons_succ]
      refine wpAnyH_done (by kernel_rfl) ?_ _
      go_wp2
      go_roundg gf
      case measure => omega
      case rel => exact ⟨k + 1, by go_num, Lib.hid (by omega), Lib.hid (hb.out.trans (HQ.out.mono bd))⟩
end Go.Proofs.Ytkpmdfgjaodlaaa
