/-
  The walk of the law SpfHops. No statement is proved here; no conditions.
-/
import Derived.Test.YtkpmdfgjaodlaaaHopM
import Derived.Test.YtkpmdfgjaodlaaaShort
import Derived.Deep.RegionHeldLaw
namespace Go.Proofs.Ytkpmdfgjaodlaaa
open Go.RowKit Go.Joins

set_option maxRecDepth 100000 in
set_option maxHeartbeats 4000000 in
theorem hopslaw_bad (N root : Int) (A : Option Addr) (c : Nat) (E : List Ed) (W : World) (hE : Rd (· < W.heap.size) W A (eflat E)) (hbad : E.length ≤ 410 → may N E = false ∨ ¬ (0 ≤ root ∧ root < N)) :
    Calls Try.prog 6 #[gv N A E.length c, .int .i64 root] W fun e W' => e = .returned (.bool true) ∧ Below W.heap.size W W' := by
  have K := box2_at (w := W) (u := .int .i64 N) (v := .slice A E.length c) (t := 24) (B := W.heap.size + 1) (by omega)
  have B0 := below_alloc1 W (.cells #[.int .i64 N, .slice A E.length c] 24)
  obtain ⟨W0, hW0⟩ : ∃ W0, W.alloc (.cells #[.int .i64 N, .slice A E.length c] 24) = W0 := ⟨_, rfl⟩
  have hs0 : W0.heap.size = W.heap.size + 1 := by rw [← hW0]; simp
  rw [hW0] at K B0
  obtain ⟨c0, c1, _, _⟩ := K _ (Below.refl _ _)
  have HB0 := Lib.hid B0
  have HE0 := Lib.hid (hE.below B0 (fun j hj _ => hj))
  clear B0 hE
  by_cases hlen : E.length > 410
  · have h1 : (410 : Int) < (E.length : Int) := by omega
    go_enter Try.func6, Try.ntmps6
    go_wp2_with fail
    refine (alive_any _).mono ?_
    rintro e W1 ⟨rfl, h1⟩
    have B1 := Lib.hid (HB0.out.trans (h1.mono (by omega)))
    clear h1
    go_wp2
    go_ret
    exact ⟨rfl, B1.out⟩
  · have h1 : decide ((410 : Int) < (E.length : Int)) = false := decide_eq_false (by omega)
    have h1' : decide (410 < E.length) = false := decide_eq_false (by omega)
    have di := dist_bad N root A c E W.heap.size W0 HE0.out (by omega) (by omega) (hbad (by omega))
    rw [hs0] at di
    go_enter Try.func6, Try.ntmps6
    go_wp2_with fail
    refine di.mono ?_
    rintro e W1 ⟨rfl, b1⟩
    obtain ⟨k0, k1, _, _⟩ := K _ b1
    have hs1 := b1.size
    have ho := hops_bad N root A c E W.heap.size W1 (HE0.out.below b1 (fun j hj _ => by omega)) (by omega) (by omega) (hbad (by omega))
    have HB1 := Lib.hid b1
    clear di b1
    go_wp2_with fail
    refine ho.mono ?_
    rintro e W2 ⟨rfl, b2⟩
    have hs2 := b2.size
    have HB2 := Lib.hid (HB0.out.trans ((HB1.out.mono (by omega)).trans (b2.mono (by omega))))
    clear ho b2
    go_wp2_with fail
    refine (alive_any _).mono ?_
    rintro e W3 ⟨rfl, b3⟩
    have HB3 := Lib.hid (HB2.out.trans (b3.mono (by omega)))
    clear b3
    go_wp2
    go_ret
    exact ⟨rfl, HB3.out⟩

/-- What stays in this law. -/
structure HL (N : Nat) (G : List NE) (A : Option Addr) (c gd gr : Nat) (d : List Nat) (H : List (List Nat)) (W wx : World) : Prop where
  c0 : wx.cell? ⟨W.heap.size, 0, none⟩ = some (.int .i64 (N : Int))
  c1 : wx.cell? ⟨W.heap.size, 1, none⟩ = some (.slice A G.length c)
  ed : Rd (· < W.heap.size) wx A (nflat G)
  rd : Rg 3 1 wx gd N (nts d)
  rr : RR (W.heap.size ≤ ·) wx gr H
  bl : Below W.heap.size W wx
  sz : W.heap.size < wx.heap.size
theorem HL.below {N : Nat} {G : List NE} {A : Option Addr} {c gd gr : Nat} {d : List Nat} {H : List (List Nat)} {W wx wy : World} (h : HL N G A c gd gr d H W wx) (k : Below wx.heap.size wx wy) : HL N G A c gd gr d H W wy :=
  ⟨(World.cell?_of_block (k.block _ h.sz)).trans h.c0, (World.cell?_of_block (k.block _ h.sz)).trans h.c1, h.ed.keep k.size (fun j _ hl => k.block j hl), h.rd.below' k, h.rr.below' k, h.bl.trans (k.mono (by have := h.sz; omega)), Nat.lt_of_lt_of_le h.sz k.size⟩
theorem below_drewH {w : World} (n : Nat) : Below w.heap.size w (w.drewN n) := ⟨rfl, rfl, rfl, Nat.le_refl _, fun _ _ => rfl⟩

set_option maxRecDepth 100000 in
set_option maxHeartbeats 8000000 in
theorem hopslaw_good (N root : Nat) (A : Option Addr) (c : Nat) (G : List NE) (W : World) (hE : Rd (· < W.heap.size) W A (nflat G)) (hg : GV N G) (hr : root < N) :
    Calls Try.prog 6 #[gv N A G.length c, .int .i64 (root : Int)] W fun e W' => e = .returned (.bool true) ∧ Below W.heap.size W W' := by
  have hn2 := hg.n2
  have hm400 := hg.m
  have K := box2_at (w := W) (u := .int .i64 N) (v := .slice A G.length c) (t := 24) (B := W.heap.size + 1) (by omega)
  have B0 := below_alloc1 W (.cells #[.int .i64 N, .slice A G.length c] 24)
  obtain ⟨W0, hW0⟩ : ∃ W0, W.alloc (.cells #[.int .i64 N, .slice A G.length c] 24) = W0 := ⟨_, rfl⟩
  have hs0 : W0.heap.size = W.heap.size + 1 := by rw [← hW0]; simp
  rw [hW0] at K B0
  obtain ⟨c0, c1, _, _⟩ := K _ (Below.refl _ _)
  have hE0 := hE.below B0 (fun j hj _ => hj)
  have di := dist_any N root A c G W.heap.size W0 hE0 (by omega) hg hr
  have h1 : decide ((410 : Int) < (G.length : Int)) = false := decide_eq_false (by omega)
  have h1' : decide (410 < G.length) = false := decide_eq_false (by omega)
  have HB0 := Lib.hid B0
  have HE0 := Lib.hid hE0
  have HG := Lib.hid hg
  clear B0 hE hE0 hg
  go_enter Try.func6, Try.ntmps6
  go_wp2_with fail
  refine di.mono ?_
  rintro e W1 ⟨d, gd, rfl, isd, rd, hgd, b1⟩
  have hs1 := b1.size
  rw [hs0] at b1
  obtain ⟨k0, k1, _, _⟩ := K _ b1
  have ho := hops_any N root A c G W.heap.size W1 (HE0.out.below b1 (fun j hj _ => by omega)) (by omega) HG.out hr
  have ISD := Lib.hid isd
  have RD := Lib.hid rd
  have B1 := Lib.hid b1
  clear di isd rd b1 c0 c1
  go_wp2_with fail
  refine ho.mono ?_
  rintro e W2 ⟨d', H, gr, rfl, isd', hHl, hH, rr, hgr, b2⟩
  obtain rfl := ISD.out.unique isd'
  have hs2 := b2.size
  have b02 := B1.out.trans (b2.mono (by omega))
  obtain ⟨j0, j1, _, _⟩ := K _ b02
  have hl2 : HL N G A c gd gr d H W W2 := ⟨j0, j1, HE0.out.below b02 (fun j hj _ => by omega), RD.out.below' b2, rr.mono (fun j hj _ => by omega), HB0.out.trans (b02.mono (by omega)), by omega⟩
  have HL2 := Lib.hid hl2
  have HH := Lib.hid hH
  have HHL := Lib.hid hHl
  have K' := Lib.hid K
  clear ho isd' hHl hH rr b2 b02 hl2 k0 k1 RD B1 HE0 K h1 h1' hW0
  go_wp2_with fail
  go_loopg [9] N (fun gf v wx => ∃ k, v = .int .i64 ((k : Nat) : Int) ∧ Hid (gf + k = N) ∧ Hid (HL N G A c gd gr d H W wx))
  case atStart => exact ⟨0, rfl, Lib.hid (by omega), HL2⟩
  case round =>
    obtain ⟨v, rfl, hk, hs⟩ := hrel
    have hk' := hk.out
    have c0 := hs.out.c0
    have c1 := hs.out.c1
    clear HL2 j0 j1
    cases gk with
    | zero =>
      have lt0 : decide ((v : Int) < (N : Int)) = false := by simp; omega
      have lt1 : decide (v < N) = false := by simp; omega
      go_wp2_with fail
      refine (alive_any _).mono ?_
      rintro e W9 ⟨rfl, b9⟩
      have F := Lib.hid (hs.out.below b9).bl
      clear b9
      go_wp2
      go_ret
      exact ⟨rfl, F.out⟩
    | succ gf =>
      have hvl : v < N := by omega
      have lt0 : (v : Int) < (N : Int) := by omega
      obtain ⟨A1, cc1, e1, q1⟩ := hs.out.rr.at_ (u := v) (by rw [HHL.out]; exact hvl)
      have hiff := hop_iff ISD.out HG.out hvl
      rw [← HH.out v hvl] at hiff
      have hlen : (gl H v).length ≤ 400 := by
        rw [HH.out v hvl]
        have := hopF_len (useL G d root) G root (outs G G.length root).length v
        have := outs_len G G.length root
        omega
      obtain ⟨l, hl⟩ : ∃ l, gl H v = l := ⟨_, rfl⟩
      rw [hl] at e1 q1 hiff hlen
      have HLQ := Lib.hid hl
      have d1 := hs.out.rd.nat_cell (u := v) (by rw [ISD.out.len]; exact hvl)
      obtain ⟨dv, hdv⟩ : ∃ dv, gw d v = dv := ⟨_, rfl⟩
      rw [hdv] at d1 hiff
      have HDV := Lib.hid hdv
      have HIFF := Lib.hid hiff
      clear hdv hl hiff q1
      by_cases hvr : v = root
      · have l0 : l = [] := by
          by_cases e : l = []
          · exact e
          · exact absurd hvr (HIFF.out.1 e).1
        have ll : l.length = 0 := by rw [l0]; rfl
        have le0 : decide ((l.length : Int) > 0) = false := decide_eq_false (by omega)
        have le1 : decide (0 < l.length) = false := decide_eq_false (by omega)
        have vr1 : ((v : Int) != (root : Int)) = false := by simp; omega
        have vr2 : (v != root) = false := by simp; omega
        have LL := Lib.hid ll
        clear hvr l0 ll
        go_wp2_with fail
        go_quiet (fail)
        have hsd := Lib.hid (hs.out.below (below_drewH nq))
        clear hs c0 c1 e1 d1 vr1 vr2 le0 le1
        have c0 := hsd.out.c0
        have c1 := hsd.out.c1
        go_wp2_with fail
        go_loopg [10] l.length (fun gi vi wx => ∃ k, vi = .int .i64 ((k : Nat) : Int) ∧ Hid (gi + k = l.length) ∧ Hid (HL N G A c gd gr d H W wx))
        case atStart => exact ⟨0, rfl, Lib.hid (by omega), hsd⟩
        case round =>
          clear hsd c0 c1
          obtain ⟨k, rfl, hkk, hs⟩ := hrel
          have hkk' := hkk.out
          have c0 := hs.out.c0
          have c1 := hs.out.c1
          obtain ⟨A1, cc1, e1, q1⟩ := hs.out.rr.at_ (u := v) (by rw [HHL.out]; exact hvl)
          rw [HLQ.out] at e1 q1
          cases gk with
          | zero =>
            have ltk : decide ((k : Int) < (l.length : Int)) = false := by simp; omega
            clear q1
            go_wp2
            go_roundg gf
            case measure => omega
            case rel => exact ⟨v + 1, by go_num, Lib.hid (by omega), hs⟩
          | succ gi =>
            have hkl : k < l.length := by omega
            have ltk : (k : Int) < (l.length : Int) := by omega
            exact absurd hkl (by have := LL.out; omega)
      · have NVR := Lib.hid hvr
        have vr1 : ((v : Int) != (root : Int)) = true := by simp; omega
        have vr2 : (v != root) = true := by simp; omega
        clear hvr
        by_cases hdi : dv < inf
        · have lne : l ≠ [] := HIFF.out.2 ⟨NVR.out, hdi⟩
          have lp : 0 < l.length := List.length_pos_iff.2 lne
          have le0 : (l.length : Int) > 0 := by omega
          have dd : (dv : Int) < 1099511627776 := by unfold inf at hdi; omega
          clear lne hdi
          go_wp2_with fail
          go_quiet (fail)
          have hsd := Lib.hid (hs.out.below (below_drewH nq))
          clear hs c0 c1 e1 d1 vr1 vr2 le0 lp dd
          have c0 := hsd.out.c0
          have c1 := hsd.out.c1
          go_wp2_with fail
          go_loopg [10] l.length (fun gi vi wx => ∃ k, vi = .int .i64 ((k : Nat) : Int) ∧ Hid (gi + k = l.length) ∧ Hid (HL N G A c gd gr d H W wx))
          case atStart => exact ⟨0, rfl, Lib.hid (by omega), hsd⟩
          case round =>
            clear hsd c0 c1
            obtain ⟨k, rfl, hkk, hs⟩ := hrel
            have hkk' := hkk.out
            have c0 := hs.out.c0
            have c1 := hs.out.c1
            obtain ⟨A1, cc1, e1, q1⟩ := hs.out.rr.at_ (u := v) (by rw [HHL.out]; exact hvl)
            rw [HLQ.out] at e1 q1
            cases gk with
            | zero =>
              have ltk : decide ((k : Int) < (l.length : Int)) = false := by simp; omega
              clear q1
              go_wp2
              go_roundg gf
              case measure => omega
              case rel => exact ⟨v + 1, by go_num, Lib.hid (by omega), hs⟩
            | succ gi =>
              have hkl : k < l.length := by omega
              have ltk : (k : Int) < (l.length : Int) := by omega
              have hmem : gw l k ∈ hopF (useL G d root) G root (outs G G.length root).length v := by rw [← HH.out v hvl, HLQ.out, gw_eq hkl]; exact List.getElem_mem _
              obtain ⟨⟨hat, hatf⟩, hrc⟩ := mem_hopF.1 hmem
              have hasc : l.Pairwise (· < ·) := by rw [← HLQ.out, HH.out v hvl]; exact hop_asc _ _
              have hfar := fun far hh => hop_far ISD.out HG.out hvl hmem (far := far) hh
              obtain ⟨b, off, rfl, e2⟩ := q1.nat_at hkl
              obtain ⟨b3, off3, hA3, _, _, e3, e4, e5⟩ := hs.out.ed.nedge hat
              have htt := HG.out.t _ hat
              have hct := HG.out.c _ hat
              obtain ⟨pv, hpv⟩ : ∃ pv, gw l (k - 1) = pv := ⟨_, rfl⟩
              have q9 : 0 < k → ∃ cell, cell = some (Value.int .i64 (pv : Int)) ∧ wr.cell? ⟨b, off + (k - 1), none⟩ = cell := fun hk0 => by
                obtain ⟨b', off', eq, e2'⟩ := q1.nat_at (k := k - 1) (by omega)
                simp only [Option.some.injEq, Addr.mk.injEq] at eq
                obtain ⟨rfl, rfl, _⟩ := eq
                rw [hpv] at e2'
                exact ⟨_, rfl, e2'⟩
              have hlt9 : 0 < k → pv < gw l k := fun hk0 => by
                have := asc_gw hasc (k := k - 1) (by omega)
                rw [hpv, show k - 1 + 1 = k by omega] at this
                exact this
              obtain ⟨a, ha⟩ : ∃ a, gw l k = a := ⟨_, rfl⟩
              rw [ha] at e2 e3 e4 e5 htt hct hat hatf hfar hlt9
              rw [hatf] at e3
              obtain ⟨x, hx⟩ : ∃ x, gn G a = x := ⟨_, rfl⟩
              rw [hx] at e4 e5 htt hct hfar
              subst hA3
              have hai : (a : Int) < (G.length : Int) := by omega
              have had : decide ((a : Int) ≥ (G.length : Int)) = false := decide_eq_false (by omega)
              have had2 : decide (G.length ≤ a) = false := decide_eq_false (by omega)
              have had3 : decide (a ≥ G.length) = false := decide_eq_false (by omega)
              have di := dist_any N x.t (some ⟨b3, off3, none⟩) c G W.heap.size
              have HFAR := Lib.hid hfar
              have HED := Lib.hid hs.out.ed
              clear hmem hrc hasc hfar q1 hpv ha hatf hx
              rcases Nat.eq_zero_or_pos k with hk0 | hk0
              · have k0d : decide ((k : Int) > 0) = false := decide_eq_false (by omega)
                have k0e : decide (0 < k) = false := decide_eq_false (by omega)
                clear q9 hlt9 hk0
                go_wp2_with fail
                refine wp_region_held_drew (S := fun w' => w'.cell? ⟨W.heap.size, 0, none⟩ = some (.int .i64 (N : Int)) ∧ w'.cell? ⟨W.heap.size, 1, none⟩ = some (.slice (some ⟨b3, off3, none⟩) G.length c) ∧ w'.cell? ⟨b3, off3 + a * 3 + 1, none⟩ = some (.int .i64 (x.t : Int))) (by kernel_rfl) ⟨c0, c1, e4⟩ (fun hHeld => ?_)
                refine wpAnyH_take (i := 0) (v := ?_) rfl (by kernel_rfl) (by kernel_rfl) (by kernel_rfl) (fun _ _ _ h => h) (Or.inl ⟨by rfl, ?_⟩) (by assumption) ?_
                rotate_left
                · (intro w' hSw; (try dsimp only at hSw); go_simp; try with_reducible rfl)
                simp only [Act.put, List.setIfInBounds_toArray, List.set_cons_zero, List.set_cons_succ]
                refine wpAnyH_take (i := 1) (v := ?_) rfl (by kernel_rfl) (by kernel_rfl) (by kernel_rfl) (fun _ _ _ h => h) (Or.inl ⟨by rfl, ?_⟩) (by assumption) ?_
                rotate_left
                · (intro w' hSw; (try dsimp only at hSw); go_simp; try with_reducible rfl)
                simp only [Act.put, List.setIfInBounds_toArray, List.set_cons_zero, List.set_cons_succ]
                refine wpAnyH_take (i := 2) (v := ?_) rfl (by kernel_rfl) (by kernel_rfl) (by kernel_rfl) (fun _ _ _ h => h) (Or.inl ⟨by rfl, ?_⟩) (by assumption) ?_
                rotate_left
                · (intro w' hSw; (try dsimp only at hSw); go_simp; try with_reducible rfl)
                simp only [Act.put, List.setIfInBounds_toArray, List.set_cons_zero, List.set_cons_succ]
                refine wpAnyH_take (i := 3) (v := ?_) rfl (by kernel_rfl) (by kernel_rfl) (by kernel_rfl) (fun _ _ _ h => h) (Or.inl ⟨by rfl, ?_⟩) (by assumption) ?_
                rotate_left
                · (intro w' hSw; (try dsimp only at hSw); go_simp; try with_reducible rfl)
                simp only [Act.put, List.setIfInBounds_toArray, List.set_cons_zero, List.set_cons_succ]
                refine wpAnyH_take (i := 4) (v := ?_) rfl (by kernel_rfl) (by kernel_rfl) (by kernel_rfl) (fun _ _ _ h => h) (Or.inl ⟨by rfl, ?_⟩) (by assumption) ?_
                rotate_left
                · (intro w' hSw; (try dsimp only at hSw); go_simp; try with_reducible rfl)
                simp only [Act.put, List.setIfInBounds_toArray, List.set_cons_zero, List.set_cons_succ]
                refine wpAnyH_take (i := 5) (v := ?_) rfl (by kernel_rfl) (by kernel_rfl) (by kernel_rfl) (fun _ _ _ h => h) (Or.inl ⟨by rfl, ?_⟩) (by assumption) ?_
                rotate_left
                · (intro w' hSw; (try dsimp only at hSw); go_simp; try with_reducible rfl)
                simp only [Act.put, List.setIfInBounds_toArray, List.set_cons_zero, List.set_cons_succ]
                refine wpAnyH_take (i := 6) (v := ?_) rfl (by kernel_rfl) (by kernel_rfl) (by kernel_rfl) (fun _ _ _ h => h) (Or.inl ⟨by rfl, ?_⟩) (by assumption) ?_
                rotate_left
                · (intro w' hSw; (try dsimp only at hSw); go_simp; try with_reducible rfl)
                simp only [Act.put, List.setIfInBounds_toArray, List.set_cons_zero, List.set_cons_succ]
                refine wpAnyH_ready (rs := [7]) (by kernel_rfl) (by simp) ?_
                refine AllReadyH.cons rfl (fun K hK => ?_) AllReadyH.nil
                have dd1 := di wr.drew (show Rd (· < W.heap.size) wr.drew _ _ from HED.out) (by have := hs.out.sz; show W.heap.size ≤ wr.heap.size; omega) HG.out htt
                go_simp
                go_at_call 10
                refine dd1.mono ?_
                rintro e W5 ⟨far, gf5, rfl, isf, rf, hgf, b5⟩
                have hs5 := hs.out.below (show Below wr.heap.size wr W5 from ⟨b5.os, b5.tape, b5.output, b5.size, b5.block⟩)
                have p4 := (World.cell?_of_block (b5.block b3 (World.block_lt_of_cell? _ _ e4))).trans e4
                have p5 := (World.cell?_of_block (b5.block b3 (World.block_lt_of_cell? _ _ e5))).trans e5
                have p0 := hs5.c0
                have p1 := hs5.c1
                have p6 := rf.nat_cell (u := v) (by rw [isf.len]; exact hvl)
                have p7 := hs5.rd.nat_cell (u := v) (by rw [ISD.out.len]; exact hvl)
                have hsum := HFAR.out far isf
                rw [HDV.out] at p7 hsum
                obtain ⟨fv, hfv⟩ : ∃ fv, gw far v = fv := ⟨_, rfl⟩
                rw [hfv] at p6 hsum
                have hdb : dv ≤ inf := by rw [← HDV.out]; rcases ISD.out.at_ v hvl with z | ⟨z, _⟩ <;> (unfold inf at *; omega)
                have wlx : IntKind.i64.wrap ((x.c : Int) + (fv : Int)) = (dv : Int) := by rw [IntKind.wrap_i64]; unfold inf at hdb; omega
                have HS5 := Lib.hid hs5
                have vd1 : decide ((v : Int) ≥ (N : Int)) = false := decide_eq_false (by omega)
                have vd2 : decide (N ≤ v) = false := decide_eq_false (by omega)
                have vd3 : decide (v ≥ N) = false := decide_eq_false (by omega)
                refine hK.out _ _ ⟨p0, p1, p4⟩ (fun _ => ?_)
                clear hK K hs5 isf rf hgf b5 hsum hfv hdb dd1 e1 e2 e3 e4 e5 c0 c1 hs HED
                refine wpAnyH_take (i := 8) (v := ?_) rfl (by kernel_rfl) (by kernel_rfl) (by kernel_rfl) (fun _ _ _ h => h) (Or.inl ⟨by rfl, ?_⟩) (by assumption) ?_
                rotate_left
                · (intro w' hSw; (try dsimp only at hSw); go_simp; try with_reducible rfl)
                simp only [Act.put, List.setIfInBounds_toArray, List.set_cons_zero, List.set_cons_succ]
                refine wpAnyH_take (i := 9) (v := ?_) rfl (by kernel_rfl) (by kernel_rfl) (by kernel_rfl) (fun _ _ _ h => h) (Or.inl ⟨by rfl, ?_⟩) (by assumption) ?_
                rotate_left
                · (intro w' hSw; (try dsimp only at hSw); go_simp; try with_reducible rfl)
                simp only [Act.put, List.setIfInBounds_toArray, List.set_cons_zero, List.set_cons_succ]
                refine wpAnyH_take (i := 10) (v := ?_) rfl (by kernel_rfl) (by kernel_rfl) (by kernel_rfl) (fun _ _ _ h => h) (Or.inl ⟨by rfl, ?_⟩) (by assumption) ?_
                rotate_left
                · (intro w' hSw; (try dsimp only at hSw); go_simp; try with_reducible rfl)
                simp only [Act.put, List.setIfInBounds_toArray, List.set_cons_zero, List.set_cons_succ]
                refine wpAnyH_ready (rs := [11]) (by kernel_rfl) (by simp) ?_
                refine AllReadyH.cons rfl (fun K hK => ?_) AllReadyH.nil
                go_simp
                refine hK.out _ _ ⟨p0, p1, p4⟩ (fun _ => ?_)
                clear hK K
                refine wpAnyH_ready (rs := [12]) (by kernel_rfl) (by simp) ?_
                refine AllReadyH.cons rfl (fun K hK => ?_) AllReadyH.nil
                go_simp
                refine hK.out _ _ ⟨p0, p1, p4⟩ (fun _ => ?_)
                clear hK K
                refine wpAnyH_done (by kernel_rfl) ?_ _
                go_wp2_with fail
                go_quiet (fail)
                go_wp2
                go_roundg gi
                case measure => omega
                case rel => exact ⟨k + 1, by go_num, Lib.hid (by omega), Lib.hid (HS5.out.below (below_drewH _))⟩
              · obtain ⟨_, rfl, e9⟩ := q9 hk0
                have hlt := hlt9 hk0
                have k0d : (k : Int) > 0 := by omega
                have k0e : 0 < k := hk0
                have kw : wrap64 ((k : Int) - 1) = ((k - 1 : Nat) : Int) := by unfold wrap64; omega
                have kb1 : ((k - 1 : Nat) : Int) < (l.length : Int) := by omega
                have pd : decide ((a : Int) ≤ (pv : Int)) = false := decide_eq_false (by omega)
                have pd2 : decide (a ≤ pv) = false := decide_eq_false (by omega)
                clear q9 hlt9 hlt
                go_wp2_with fail
                refine wp_region_held_drew (S := fun w' => w'.cell? ⟨W.heap.size, 0, none⟩ = some (.int .i64 (N : Int)) ∧ w'.cell? ⟨W.heap.size, 1, none⟩ = some (.slice (some ⟨b3, off3, none⟩) G.length c) ∧ w'.cell? ⟨b3, off3 + a * 3 + 1, none⟩ = some (.int .i64 (x.t : Int))) (by kernel_rfl) ⟨c0, c1, e4⟩ (fun hHeld => ?_)
                refine wpAnyH_take (i := 0) (v := ?_) rfl (by kernel_rfl) (by kernel_rfl) (by kernel_rfl) (fun _ _ _ h => h) (Or.inl ⟨by rfl, ?_⟩) (by assumption) ?_
                rotate_left
                · (intro w' hSw; (try dsimp only at hSw); go_simp; try with_reducible rfl)
                simp only [Act.put, List.setIfInBounds_toArray, List.set_cons_zero, List.set_cons_succ]
                refine wpAnyH_take (i := 1) (v := ?_) rfl (by kernel_rfl) (by kernel_rfl) (by kernel_rfl) (fun _ _ _ h => h) (Or.inl ⟨by rfl, ?_⟩) (by assumption) ?_
                rotate_left
                · (intro w' hSw; (try dsimp only at hSw); go_simp; try with_reducible rfl)
                simp only [Act.put, List.setIfInBounds_toArray, List.set_cons_zero, List.set_cons_succ]
                refine wpAnyH_take (i := 2) (v := ?_) rfl (by kernel_rfl) (by kernel_rfl) (by kernel_rfl) (fun _ _ _ h => h) (Or.inl ⟨by rfl, ?_⟩) (by assumption) ?_
                rotate_left
                · (intro w' hSw; (try dsimp only at hSw); go_simp; try with_reducible rfl)
                simp only [Act.put, List.setIfInBounds_toArray, List.set_cons_zero, List.set_cons_succ]
                refine wpAnyH_take (i := 3) (v := ?_) rfl (by kernel_rfl) (by kernel_rfl) (by kernel_rfl) (fun _ _ _ h => h) (Or.inl ⟨by rfl, ?_⟩) (by assumption) ?_
                rotate_left
                · (intro w' hSw; (try dsimp only at hSw); go_simp; try with_reducible rfl)
                simp only [Act.put, List.setIfInBounds_toArray, List.set_cons_zero, List.set_cons_succ]
                refine wpAnyH_take (i := 4) (v := ?_) rfl (by kernel_rfl) (by kernel_rfl) (by kernel_rfl) (fun _ _ _ h => h) (Or.inl ⟨by rfl, ?_⟩) (by assumption) ?_
                rotate_left
                · (intro w' hSw; (try dsimp only at hSw); go_simp; try with_reducible rfl)
                simp only [Act.put, List.setIfInBounds_toArray, List.set_cons_zero, List.set_cons_succ]
                refine wpAnyH_take (i := 5) (v := ?_) rfl (by kernel_rfl) (by kernel_rfl) (by kernel_rfl) (fun _ _ _ h => h) (Or.inl ⟨by rfl, ?_⟩) (by assumption) ?_
                rotate_left
                · (intro w' hSw; (try dsimp only at hSw); go_simp; try with_reducible rfl)
                simp only [Act.put, List.setIfInBounds_toArray, List.set_cons_zero, List.set_cons_succ]
                refine wpAnyH_take (i := 6) (v := ?_) rfl (by kernel_rfl) (by kernel_rfl) (by kernel_rfl) (fun _ _ _ h => h) (Or.inl ⟨by rfl, ?_⟩) (by assumption) ?_
                rotate_left
                · (intro w' hSw; (try dsimp only at hSw); go_simp; try with_reducible rfl)
                simp only [Act.put, List.setIfInBounds_toArray, List.set_cons_zero, List.set_cons_succ]
                refine wpAnyH_ready (rs := [7]) (by kernel_rfl) (by simp) ?_
                refine AllReadyH.cons rfl (fun K hK => ?_) AllReadyH.nil
                have dd1 := di wr.drew (show Rd (· < W.heap.size) wr.drew _ _ from HED.out) (by have := hs.out.sz; show W.heap.size ≤ wr.heap.size; omega) HG.out htt
                go_simp
                go_at_call 10
                refine dd1.mono ?_
                rintro e W5 ⟨far, gf5, rfl, isf, rf, hgf, b5⟩
                have hs5 := hs.out.below (show Below wr.heap.size wr W5 from ⟨b5.os, b5.tape, b5.output, b5.size, b5.block⟩)
                have p4 := (World.cell?_of_block (b5.block b3 (World.block_lt_of_cell? _ _ e4))).trans e4
                have p5 := (World.cell?_of_block (b5.block b3 (World.block_lt_of_cell? _ _ e5))).trans e5
                have p0 := hs5.c0
                have p1 := hs5.c1
                have p6 := rf.nat_cell (u := v) (by rw [isf.len]; exact hvl)
                have p7 := hs5.rd.nat_cell (u := v) (by rw [ISD.out.len]; exact hvl)
                have hsum := HFAR.out far isf
                rw [HDV.out] at p7 hsum
                obtain ⟨fv, hfv⟩ : ∃ fv, gw far v = fv := ⟨_, rfl⟩
                rw [hfv] at p6 hsum
                have hdb : dv ≤ inf := by rw [← HDV.out]; rcases ISD.out.at_ v hvl with z | ⟨z, _⟩ <;> (unfold inf at *; omega)
                have wlx : IntKind.i64.wrap ((x.c : Int) + (fv : Int)) = (dv : Int) := by rw [IntKind.wrap_i64]; unfold inf at hdb; omega
                have HS5 := Lib.hid hs5
                have vd1 : decide ((v : Int) ≥ (N : Int)) = false := decide_eq_false (by omega)
                have vd2 : decide (N ≤ v) = false := decide_eq_false (by omega)
                have vd3 : decide (v ≥ N) = false := decide_eq_false (by omega)
                refine hK.out _ _ ⟨p0, p1, p4⟩ (fun _ => ?_)
                clear hK K hs5 isf rf hgf b5 hsum hfv hdb dd1 e1 e2 e3 e4 e5 c0 c1 hs HED
                refine wpAnyH_take (i := 8) (v := ?_) rfl (by kernel_rfl) (by kernel_rfl) (by kernel_rfl) (fun _ _ _ h => h) (Or.inl ⟨by rfl, ?_⟩) (by assumption) ?_
                rotate_left
                · (intro w' hSw; (try dsimp only at hSw); go_simp; try with_reducible rfl)
                simp only [Act.put, List.setIfInBounds_toArray, List.set_cons_zero, List.set_cons_succ]
                refine wpAnyH_take (i := 9) (v := ?_) rfl (by kernel_rfl) (by kernel_rfl) (by kernel_rfl) (fun _ _ _ h => h) (Or.inl ⟨by rfl, ?_⟩) (by assumption) ?_
                rotate_left
                · (intro w' hSw; (try dsimp only at hSw); go_simp; try with_reducible rfl)
                simp only [Act.put, List.setIfInBounds_toArray, List.set_cons_zero, List.set_cons_succ]
                refine wpAnyH_take (i := 10) (v := ?_) rfl (by kernel_rfl) (by kernel_rfl) (by kernel_rfl) (fun _ _ _ h => h) (Or.inl ⟨by rfl, ?_⟩) (by assumption) ?_
                rotate_left
                · (intro w' hSw; (try dsimp only at hSw); go_simp; try with_reducible rfl)
                simp only [Act.put, List.setIfInBounds_toArray, List.set_cons_zero, List.set_cons_succ]
                refine wpAnyH_ready (rs := [11]) (by kernel_rfl) (by simp) ?_
                refine AllReadyH.cons rfl (fun K hK => ?_) AllReadyH.nil
                go_simp
                refine hK.out _ _ ⟨p0, p1, p4⟩ (fun _ => ?_)
                clear hK K
                refine wpAnyH_ready (rs := [12]) (by kernel_rfl) (by simp) ?_
                refine AllReadyH.cons rfl (fun K hK => ?_) AllReadyH.nil
                go_simp
                refine hK.out _ _ ⟨p0, p1, p4⟩ (fun _ => ?_)
                clear hK K
                refine wpAnyH_done (by kernel_rfl) ?_ _
                go_wp2_with fail
                go_quiet (fail)
                go_wp2
                go_roundg gi
                case measure => omega
                case rel => exact ⟨k + 1, by go_num, Lib.hid (by omega), Lib.hid (HS5.out.below (below_drewH _))⟩
        · have l0 : l = [] := by
            by_cases e : l = []
            · exact e
            · exact absurd (HIFF.out.1 e).2 hdi
          have ll : l.length = 0 := by rw [l0]; rfl
          have le0 : decide ((l.length : Int) > 0) = false := decide_eq_false (by omega)
          have le1 : decide (0 < l.length) = false := decide_eq_false (by omega)
          have dd : decide ((dv : Int) < 1099511627776) = false := decide_eq_false (by unfold inf at hdi; omega)
          have LL := Lib.hid ll
          clear l0 hdi ll
          go_wp2_with fail
          go_quiet (fail)
          have hsd := Lib.hid (hs.out.below (below_drewH nq))
          clear hs c0 c1 e1 d1 vr1 vr2 le0 le1 dd
          have c0 := hsd.out.c0
          have c1 := hsd.out.c1
          go_wp2_with fail
          go_loopg [10] l.length (fun gi vi wx => ∃ k, vi = .int .i64 ((k : Nat) : Int) ∧ Hid (gi + k = l.length) ∧ Hid (HL N G A c gd gr d H W wx))
          case atStart => exact ⟨0, rfl, Lib.hid (by omega), hsd⟩
          case round =>
            clear hsd c0 c1
            obtain ⟨k, rfl, hkk, hs⟩ := hrel
            have hkk' := hkk.out
            have c0 := hs.out.c0
            have c1 := hs.out.c1
            obtain ⟨A1, cc1, e1, q1⟩ := hs.out.rr.at_ (u := v) (by rw [HHL.out]; exact hvl)
            rw [HLQ.out] at e1 q1
            cases gk with
            | zero =>
              have ltk : decide ((k : Int) < (l.length : Int)) = false := by simp; omega
              clear q1
              go_wp2
              go_roundg gf
              case measure => omega
              case rel => exact ⟨v + 1, by go_num, Lib.hid (by omega), hs⟩
            | succ gi =>
              have hkl : k < l.length := by omega
              have ltk : (k : Int) < (l.length : Int) := by omega
              exact absurd hkl (by have := LL.out; omega)

theorem hops_walk (N root : Int) (A : Option Addr) (c : Nat) (E : List Ed) (W : World) (hE : Rd (· < W.heap.size) W A (eflat E)) :
    Calls Try.prog 6 #[gv N A E.length c, .int .i64 root] W fun e W' => e = .returned (.bool true) ∧ Below W.heap.size W W' := by
  by_cases h : may N E = true ∧ 0 ≤ root ∧ root < N
  · obtain ⟨n, G, rfl, rfl, hg⟩ := may_nat h.1
    obtain ⟨r, rfl⟩ : ∃ r : Nat, root = r := ⟨root.toNat, by omega⟩
    have := hopslaw_good n r A c G W hE hg (by omega)
    rwa [List.length_map]
  · refine hopslaw_bad N root A c E W hE (fun _ => ?_)
    cases hm : may N E with
    | false => exact .inl rfl
    | true => exact .inr (fun hr => h ⟨hm, hr⟩)
end Go.Proofs.Ytkpmdfgjaodlaaa
