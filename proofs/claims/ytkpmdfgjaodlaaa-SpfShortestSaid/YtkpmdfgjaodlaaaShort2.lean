/-
  The walk of the law SpfShortest. No statement is proved here; no conditions.
-/
import Derived.Test.YtkpmdfgjaodlaaaShort
namespace Go.Proofs.Ytkpmdfgjaodlaaa
open Go.RowKit Go.Joins

set_option maxRecDepth 100000 in
set_option maxHeartbeats 4000000 in
theorem shortest_bad (N root : Int) (A : Option Addr) (c : Nat) (E : List Ed) (W : World) (hE : Rd (· < W.heap.size) W A (eflat E)) (hbad : E.length ≤ 410 → may N E = false ∨ ¬ (0 ≤ root ∧ root < N)) :
    Calls Try.prog 5 #[gv N A E.length c, .int .i64 root] W fun e W' => e = .returned (.bool true) ∧ Below W.heap.size W W' := by
  have K := box2_at (w := W) (u := .int .i64 N) (v := .slice A E.length c) (t := 24) (B := W.heap.size + 1) (by omega)
  have B0 := below_alloc1 W (.cells #[.int .i64 N, .slice A E.length c] 24)
  obtain ⟨W0, hW0⟩ : ∃ W0, W.alloc (.cells #[.int .i64 N, .slice A E.length c] 24) = W0 := ⟨_, rfl⟩
  have hs0 : W0.heap.size = W.heap.size + 1 := by rw [← hW0]; simp
  rw [hW0] at K B0
  obtain ⟨c0, c1, _, _⟩ := K _ (Below.refl _ _)
  have HB0 := Lib.hid B0
  have HE0 := Lib.hid (hE.below B0 (fun j hj _ => hj))
  clear B0 hE
  by_cases hlen : E.length > 410
  · have h1 : (410 : Int) < (E.length : Int) := by omega
    go_enter Try.func5, Try.ntmps5
    go_wp2_with fail
    refine (alive_any _).mono ?_
    rintro e W1 ⟨rfl, h1⟩
    have B1 := Lib.hid (HB0.out.trans (h1.mono (by omega)))
    go_wp2
    go_ret
    exact ⟨rfl, B1.out⟩
  · have h1 : decide ((410 : Int) < (E.length : Int)) = false := decide_eq_false (by omega)
    have h1' : decide (410 < E.length) = false := decide_eq_false (by omega)
    have di := dist_bad N root A c E W.heap.size W0 HE0.out (by omega) (by omega) (hbad (by omega))
    go_enter Try.func5, Try.ntmps5
    go_wp2_with fail
    refine di.mono ?_
    rintro e W1 ⟨rfl, b1⟩
    have b01 := (Below.refl (W.heap.size + 1) W0).trans (b1.mono (by omega))
    have HB1 := Lib.hid b01
    have hs1 := b01.size
    clear di b1 b01
    go_wp2_with fail
    refine (alive_any _).mono ?_
    rintro e W2 ⟨rfl, b2⟩
    have b02 := HB1.out.trans (b2.mono (by omega))
    obtain ⟨k0, k1, _, _⟩ := K _ b02
    have hs2 := b02.size
    have my := may_any N A c E W.heap.size W2 (HE0.out.below b02 (fun j hj _ => by omega)) (by omega) (by omega)
    have HB2 := Lib.hid b02
    clear b2 b02
    go_wp2_with fail
    refine my.mono ?_
    rintro e W3 ⟨rfl, b3⟩
    have b03 := HB2.out.trans (b3.mono (by omega))
    obtain ⟨j0, j1, _, _⟩ := K _ b03
    have HB3 := Lib.hid (HB0.out.trans (b03.mono (by omega)))
    clear my b3 b03
    cases hm : may N E with
    | false =>
      go_wp2
      go_ret
      exact ⟨rfl, HB3.out⟩
    | true =>
      have hr : ¬ (0 ≤ root ∧ root < N) := by
        rcases hbad (by omega) with e | e
        · rw [hm] at e; cases e
        · exact e
      by_cases h0 : root < 0
      · have h0' : decide (root < 0) = true := decide_eq_true h0
        go_wp2
        go_ret
        exact ⟨rfl, HB3.out⟩
      · have h0' : decide (root < 0) = false := decide_eq_false h0
        have h2' : decide (root ≥ N) = true := decide_eq_true (by omega)
        go_wp2
        go_ret
        exact ⟨rfl, HB3.out⟩

/-- What stays in this law. -/
structure SH (N : Nat) (G : List NE) (A : Option Addr) (c gd : Nat) (d : List Nat) (W wx : World) : Prop where
  c0 : wx.cell? ⟨W.heap.size, 0, none⟩ = some (.int .i64 (N : Int))
  c1 : wx.cell? ⟨W.heap.size, 1, none⟩ = some (.slice A G.length c)
  ed : Rd (· < W.heap.size) wx A (nflat G)
  rd : Rg 3 1 wx gd N (nts d)
  bl : Below W.heap.size W wx
  sz : W.heap.size < wx.heap.size
theorem SH.below {N : Nat} {G : List NE} {A : Option Addr} {c gd : Nat} {d : List Nat} {W wx wy : World} (h : SH N G A c gd d W wx) (k : Below wx.heap.size wx wy) : SH N G A c gd d W wy :=
  ⟨(World.cell?_of_block (k.block _ h.sz)).trans h.c0, (World.cell?_of_block (k.block _ h.sz)).trans h.c1, h.ed.keep k.size (fun j _ hl => k.block j hl), h.rd.below' k, h.bl.trans (k.mono (by have := h.sz; omega)), Nat.lt_of_lt_of_le h.sz k.size⟩
theorem below_drewN {w : World} (n : Nat) : Below w.heap.size w (w.drewN n) := ⟨rfl, rfl, rfl, Nat.le_refl _, fun _ _ => rfl⟩

set_option maxRecDepth 100000 in
set_option maxHeartbeats 8000000 in
theorem shortest_good (N root : Nat) (A : Option Addr) (c : Nat) (G : List NE) (W : World) (hE : Rd (· < W.heap.size) W A (nflat G)) (hg : GV N G) (hr : root < N) :
    Calls Try.prog 5 #[gv N A G.length c, .int .i64 (root : Int)] W fun e W' => e = .returned (.bool true) ∧ Below W.heap.size W W' := by
  have hn2 := hg.n2
  have hm400 := hg.m
  have K := box2_at (w := W) (u := .int .i64 N) (v := .slice A G.length c) (t := 24) (B := W.heap.size + 1) (by omega)
  have B0 := below_alloc1 W (.cells #[.int .i64 N, .slice A G.length c] 24)
  obtain ⟨W0, hW0⟩ : ∃ W0, W.alloc (.cells #[.int .i64 N, .slice A G.length c] 24) = W0 := ⟨_, rfl⟩
  have hs0 : W0.heap.size = W.heap.size + 1 := by rw [← hW0]; simp
  rw [hW0] at K B0
  obtain ⟨c0, c1, _, _⟩ := K _ (Below.refl _ _)
  have hE0 := hE.below B0 (fun j hj _ => hj)
  have di := dist_any N root A c G W.heap.size W0 hE0 (by omega) hg hr
  have h1 : decide ((410 : Int) < (G.length : Int)) = false := decide_eq_false (by omega)
  have h1' : decide (410 < G.length) = false := decide_eq_false (by omega)
  have HB0 := Lib.hid B0
  have HE0 := Lib.hid hE0
  have HG := Lib.hid hg
  clear B0 hE hE0 hg
  go_enter Try.func5, Try.ntmps5
  go_wp2_with fail
  refine di.mono ?_
  rintro e W1 ⟨d, gd, rfl, isd, rd, hgd, b1⟩
  have hs1 := b1.size
  have b01 := b1
  rw [hs0] at b01
  obtain ⟨k0, k1, _, _⟩ := K _ b01
  have sh : SH N G A c gd d W W1 := ⟨k0, k1, HE0.out.below b01 (fun j hj _ => by omega), rd, HB0.out.trans (b01.mono (by omega)), by omega⟩
  have e1 := rd.nat_cell (u := root) (by rw [isd.len]; exact hr)
  rw [isd.root] at e1
  have hri : (root : Int) < (N : Int) := by omega
  have hri' : decide ((root : Int) ≥ (N : Int)) = false := decide_eq_false (by omega)
  have hri2 : decide (root ≥ N) = false := decide_eq_false (by omega)
  have hri3 : decide (N ≤ root) = false := decide_eq_false (by omega)
  have my := may_any N A c (G.map NE.ed) W.heap.size W1 sh.ed (by omega) (by simp; omega)
  rw [may_of HG.out, List.length_map] at my
  have ISD := Lib.hid isd
  have HSH := Lib.hid sh
  clear di isd rd b1 b01 sh c0 c1 HE0 HB0 K h1 h1' hW0
  go_wp2_with fail
  refine my.mono ?_
  rintro e W2 ⟨rfl, b2⟩
  have SH2 := Lib.hid (HSH.out.below b2)
  clear my b2 k0 k1 e1 HSH
  go_wp2_with fail
  go_loopg [7] G.length (fun gf v wx => ∃ k, v = .int .i64 ((k : Nat) : Int) ∧ Hid (gf + k = G.length) ∧ Hid (SH N G A c gd d W wx))
  case atStart => exact ⟨0, rfl, Lib.hid (by omega), SH2⟩
  case round =>
    obtain ⟨k, rfl, hk, hs⟩ := hrel
    have hk' := hk.out
    have c0 := hs.out.c0
    have c1 := hs.out.c1
    clear SH2
    cases gk with
    | zero =>
      have lt0 : decide ((k : Int) < (G.length : Int)) = false := by simp; omega
      have lt0n : decide (k < G.length) = false := by simp; omega
      go_wp2_with fail
      go_loopg [9] N (fun gf v wx => ∃ k, v = .int .i64 ((k : Nat) : Int) ∧ Hid (gf + k = N) ∧ Hid (SH N G A c gd d W wx))
      case atStart => exact ⟨0, rfl, Lib.hid (by omega), hs⟩
      case round =>
        clear hk hk' lt0 lt0n c0 c1 hs
        obtain ⟨k, rfl, hk, hs⟩ := hrel
        have hk' := hk.out
        have c0 := hs.out.c0
        have c1 := hs.out.c1
        cases gk with
        | zero =>
          have lt0 : decide ((k : Int) < (N : Int)) = false := by simp; omega
          have lt1 : decide (k < N) = false := by simp; omega
          go_wp2_with fail
          refine (alive_any _).mono ?_
          rintro e W9 ⟨rfl, b9⟩
          have F := Lib.hid (hs.out.below b9).bl
          clear b9
          go_wp2
          go_ret
          exact ⟨rfl, F.out⟩
        | succ gf =>
          have hkl : k < N := by omega
          have lt0 : (k : Int) < (N : Int) := by omega
          have dk := hs.out.rd.nat_cell (u := k) (by rw [ISD.out.len]; exact hkl)
          have hkk : gw d k = inf ∨ gw d k ≤ 64 * 65535 := (ISD.out.at_ _ hkl).imp id (fun h => h.1)
          obtain ⟨dv, hdv⟩ : ∃ dv, gw d k = dv := ⟨_, rfl⟩
          rw [hdv] at dk hkk
          have HDV := Lib.hid hdv
          have HKK := Lib.hid hkk
          clear hdv hkk
          by_cases hkr : k = root
          · have kr1 : ((k : Int) == (root : Int)) = true := by simp; omega
            have kr2 : (k == root) = true := by simp; omega
            have kr3 : decide (k = root) = true := by simp; omega
            clear hkr
            go_wp2_with fail
            go_loopg [10, 11] G.length (fun gj vh vi wx => ∃ (hb : Bool) (j : Nat), vh = .bool hb ∧ vi = .int .i64 (j : Int) ∧ Hid (gj + j = G.length) ∧ Hid (SH N G A c gd d W wx) ∧ Hid (hb = true))
            case atStart => exact ⟨true, 0, rfl, rfl, Lib.hid (by omega), hs, Lib.hid (by rfl)⟩
            case round =>
              clear hs c0 c1 dk
              obtain ⟨hb, j, rfl, rfl, hj, hs, hi⟩ := hrel
              have hj' := hj.out
              have c0 := hs.out.c0
              have c1 := hs.out.c1
              cases gk with
              | zero =>
                have ltj : decide ((j : Int) < (G.length : Int)) = false := by simp; omega
                obtain rfl : hb = true := hi.out
                have dw0 : decide ((dv : Int) < 0) = false := decide_eq_false (by omega)
                have dw1 : decide ((dv : Int) > 1099511627776) = false := decide_eq_false (by have := HKK.out; unfold inf at this; omega)
                have dk2 := hs.out.rd.nat_cell (u := k) (by rw [ISD.out.len]; exact hkl)
                rw [HDV.out] at dk2
                have dc0 := hs.out.c0
                have dc1 := hs.out.c1
                go_wp2
                go_roundg gf
                case measure => omega
                case rel => exact ⟨k + 1, by go_num, Lib.hid (by omega), hs⟩
              | succ gj =>
                have hjl : j < G.length := by omega
                have ltj : (j : Int) < (G.length : Int) := by omega
                obtain ⟨b, off, hA, hbB, hbs, e0, e1, e2⟩ := hs.out.ed.nedge hjl
                have hf := HG.out.f j hjl
                have ht := HG.out.t j hjl
                have hc := HG.out.c j hjl
                have hub : gw d (gn G j).f = inf ∨ gw d (gn G j).f ≤ 64 * 65535 := (ISD.out.at_ _ hf).imp id (fun h => h.1)
                obtain ⟨x, hx⟩ : ∃ x, gn G j = x := ⟨_, rfl⟩
                rw [hx] at e0 e1 e2 hf ht hc hub
                subst hA
                obtain ⟨W4, hW4⟩ : ∃ W4, wr.alloc (.cells #[.int .i64 (x.f : Int), .int .i64 (x.t : Int), .int .i64 (x.c : Int)] 50) = W4 := ⟨_, rfl⟩
                have hs4 : W4.heap.size = wr.heap.size + 1 := by rw [← hW4]; simp
                have b4 : Below wr.heap.size wr W4 := by rw [← hW4]; exact below_alloc1 _ _
                have h50 : W4.heap[wr.heap.size]? = some (.cells #[.int .i64 (x.f : Int), .int .i64 (x.t : Int), .int .i64 (x.c : Int)] 50 (0, 0)) := by rw [← hW4]; exact Go.heap_alloc_new _ _
                have f0 : W4.cell? ⟨wr.heap.size, 0, none⟩ = some (.int .i64 (x.f : Int)) := (cell_of_row _ _ 0 _ _ _ h50).trans rfl
                have f1 : W4.cell? ⟨wr.heap.size, 1, none⟩ = some (.int .i64 (x.t : Int)) := (cell_of_row _ _ 1 _ _ _ h50).trans rfl
                have f2 : W4.cell? ⟨wr.heap.size, 2, none⟩ = some (.int .i64 (x.c : Int)) := (cell_of_row _ _ 2 _ _ _ h50).trans rfl
                have sh4 := hs.out.below b4
                have g0 := sh4.rd.nat_cell (u := x.f) (by rw [ISD.out.len]; exact hf)
                have g1 := sh4.rd.nat_cell (u := k) (by rw [ISD.out.len]; exact hkl)
                have hfi : (x.f : Int) < (N : Int) := by omega
                have hki : (k : Int) < (N : Int) := by omega
                have SH4 := Lib.hid sh4
                obtain ⟨p, hp⟩ : ∃ p, gw d x.f = p := ⟨_, rfl⟩
                obtain ⟨q, hq⟩ : ∃ q, gw d k = q := ⟨_, rfl⟩
                rw [hp] at g0 hub
                rw [hq] at g1
                have HX := Lib.hid hx
                have HP := Lib.hid hp
                have HQ := Lib.hid hq
                clear sh4 b4 h50 hs hx hp hq
                obtain rfl : hb = true := hi.out
                clear hub
                go_wp2_with fail
                go_quiet (fail)
                go_wp2
                go_roundg gj
                case measure => omega
                case rel =>
                  refine ⟨true, j + 1, rfl, by go_num, Lib.hid (by omega), Lib.hid (SH4.out.below (below_drewN _)), Lib.hid ?_⟩
                  rfl
          · have kr1 : ((k : Int) == (root : Int)) = false := by simp; omega
            have kr2 : (k == root) = false := by simp; omega
            have kr3 : decide (k = root) = false := by simp; omega
            have NR := Lib.hid hkr
            clear hkr
            by_cases hdi : dv = inf
            · have di1 : ((dv : Int) == 1099511627776) = true := by unfold inf at hdi; simp; omega
              clear hdi
              go_wp2_with fail
              go_loopg [10, 11] G.length (fun gj vh vi wx => ∃ (hb : Bool) (j : Nat), vh = .bool hb ∧ vi = .int .i64 (j : Int) ∧ Hid (gj + j = G.length) ∧ Hid (SH N G A c gd d W wx) ∧ Hid (hb = true))
              case atStart => exact ⟨true, 0, rfl, rfl, Lib.hid (by omega), hs, Lib.hid (by rfl)⟩
              case round =>
                clear hs c0 c1 dk
                obtain ⟨hb, j, rfl, rfl, hj, hs, hi⟩ := hrel
                have hj' := hj.out
                have c0 := hs.out.c0
                have c1 := hs.out.c1
                cases gk with
                | zero =>
                  have ltj : decide ((j : Int) < (G.length : Int)) = false := by simp; omega
                  obtain rfl : hb = true := hi.out
                  have dw0 : decide ((dv : Int) < 0) = false := decide_eq_false (by omega)
                  have dw1 : decide ((dv : Int) > 1099511627776) = false := decide_eq_false (by have := HKK.out; unfold inf at this; omega)
                  have dk2 := hs.out.rd.nat_cell (u := k) (by rw [ISD.out.len]; exact hkl)
                  rw [HDV.out] at dk2
                  have dc0 := hs.out.c0
                  have dc1 := hs.out.c1
                  go_wp2
                  go_roundg gf
                  case measure => omega
                  case rel => exact ⟨k + 1, by go_num, Lib.hid (by omega), hs⟩
                | succ gj =>
                  have hjl : j < G.length := by omega
                  have ltj : (j : Int) < (G.length : Int) := by omega
                  obtain ⟨b, off, hA, hbB, hbs, e0, e1, e2⟩ := hs.out.ed.nedge hjl
                  have hf := HG.out.f j hjl
                  have ht := HG.out.t j hjl
                  have hc := HG.out.c j hjl
                  have hub : gw d (gn G j).f = inf ∨ gw d (gn G j).f ≤ 64 * 65535 := (ISD.out.at_ _ hf).imp id (fun h => h.1)
                  obtain ⟨x, hx⟩ : ∃ x, gn G j = x := ⟨_, rfl⟩
                  rw [hx] at e0 e1 e2 hf ht hc hub
                  subst hA
                  obtain ⟨W4, hW4⟩ : ∃ W4, wr.alloc (.cells #[.int .i64 (x.f : Int), .int .i64 (x.t : Int), .int .i64 (x.c : Int)] 50) = W4 := ⟨_, rfl⟩
                  have hs4 : W4.heap.size = wr.heap.size + 1 := by rw [← hW4]; simp
                  have b4 : Below wr.heap.size wr W4 := by rw [← hW4]; exact below_alloc1 _ _
                  have h50 : W4.heap[wr.heap.size]? = some (.cells #[.int .i64 (x.f : Int), .int .i64 (x.t : Int), .int .i64 (x.c : Int)] 50 (0, 0)) := by rw [← hW4]; exact Go.heap_alloc_new _ _
                  have f0 : W4.cell? ⟨wr.heap.size, 0, none⟩ = some (.int .i64 (x.f : Int)) := (cell_of_row _ _ 0 _ _ _ h50).trans rfl
                  have f1 : W4.cell? ⟨wr.heap.size, 1, none⟩ = some (.int .i64 (x.t : Int)) := (cell_of_row _ _ 1 _ _ _ h50).trans rfl
                  have f2 : W4.cell? ⟨wr.heap.size, 2, none⟩ = some (.int .i64 (x.c : Int)) := (cell_of_row _ _ 2 _ _ _ h50).trans rfl
                  have sh4 := hs.out.below b4
                  have g0 := sh4.rd.nat_cell (u := x.f) (by rw [ISD.out.len]; exact hf)
                  have g1 := sh4.rd.nat_cell (u := k) (by rw [ISD.out.len]; exact hkl)
                  have hfi : (x.f : Int) < (N : Int) := by omega
                  have hki : (k : Int) < (N : Int) := by omega
                  have SH4 := Lib.hid sh4
                  obtain ⟨p, hp⟩ : ∃ p, gw d x.f = p := ⟨_, rfl⟩
                  obtain ⟨q, hq⟩ : ∃ q, gw d k = q := ⟨_, rfl⟩
                  rw [hp] at g0 hub
                  rw [hq] at g1
                  have HX := Lib.hid hx
                  have HP := Lib.hid hp
                  have HQ := Lib.hid hq
                  clear sh4 b4 h50 hs hx hp hq
                  obtain rfl : hb = true := hi.out
                  clear hub
                  go_wp2_with fail
                  go_quiet (fail)
                  go_wp2
                  go_roundg gj
                  case measure => omega
                  case rel =>
                    refine ⟨true, j + 1, rfl, by go_num, Lib.hid (by omega), Lib.hid (SH4.out.below (below_drewN _)), Lib.hid ?_⟩
                    rfl
            · have di1 : ((dv : Int) == 1099511627776) = false := by unfold inf at hdi; simp; omega
              have ND := Lib.hid hdi
              clear hdi
              go_wp2_with fail
              go_loopg [10, 11] G.length (fun gj vh vi wx => ∃ (hb : Bool) (j : Nat), vh = .bool hb ∧ vi = .int .i64 (j : Int) ∧ Hid (gj + j = G.length) ∧ Hid (SH N G A c gd d W wx) ∧ Hid ((∃ i, i < j ∧ (gn G i).t = k ∧ gw d (gn G i).f < inf ∧ gw d (gn G i).f + (gn G i).c = gw d k) → hb = true))
              case atStart => exact ⟨false, 0, rfl, rfl, Lib.hid (by omega), hs, Lib.hid (by rintro ⟨i, h, _⟩; omega)⟩
              case round =>
                clear hs c0 c1 dk
                obtain ⟨hb, j, rfl, rfl, hj, hs, hi⟩ := hrel
                have hj' := hj.out
                have c0 := hs.out.c0
                have c1 := hs.out.c1
                cases gk with
                | zero =>
                  have ltj : decide ((j : Int) < (G.length : Int)) = false := by simp; omega
                  obtain rfl : hb = true := hi.out (by
                    obtain ⟨i, y1, y2, y3, y4⟩ := ISD.out.tight HG.out hkl NR.out (by rw [HDV.out]; exact ND.out)
                    exact ⟨i, by omega, y2, y3, y4⟩)
                  have dw0 : decide ((dv : Int) < 0) = false := decide_eq_false (by omega)
                  have dw1 : decide ((dv : Int) > 1099511627776) = false := decide_eq_false (by have := HKK.out; unfold inf at this; omega)
                  have dk2 := hs.out.rd.nat_cell (u := k) (by rw [ISD.out.len]; exact hkl)
                  rw [HDV.out] at dk2
                  have dc0 := hs.out.c0
                  have dc1 := hs.out.c1
                  go_wp2
                  go_roundg gf
                  case measure => omega
                  case rel => exact ⟨k + 1, by go_num, Lib.hid (by omega), hs⟩
                | succ gj =>
                  have hjl : j < G.length := by omega
                  have ltj : (j : Int) < (G.length : Int) := by omega
                  obtain ⟨b, off, hA, hbB, hbs, e0, e1, e2⟩ := hs.out.ed.nedge hjl
                  have hf := HG.out.f j hjl
                  have ht := HG.out.t j hjl
                  have hc := HG.out.c j hjl
                  have hub : gw d (gn G j).f = inf ∨ gw d (gn G j).f ≤ 64 * 65535 := (ISD.out.at_ _ hf).imp id (fun h => h.1)
                  obtain ⟨x, hx⟩ : ∃ x, gn G j = x := ⟨_, rfl⟩
                  rw [hx] at e0 e1 e2 hf ht hc hub
                  subst hA
                  obtain ⟨W4, hW4⟩ : ∃ W4, wr.alloc (.cells #[.int .i64 (x.f : Int), .int .i64 (x.t : Int), .int .i64 (x.c : Int)] 50) = W4 := ⟨_, rfl⟩
                  have hs4 : W4.heap.size = wr.heap.size + 1 := by rw [← hW4]; simp
                  have b4 : Below wr.heap.size wr W4 := by rw [← hW4]; exact below_alloc1 _ _
                  have h50 : W4.heap[wr.heap.size]? = some (.cells #[.int .i64 (x.f : Int), .int .i64 (x.t : Int), .int .i64 (x.c : Int)] 50 (0, 0)) := by rw [← hW4]; exact Go.heap_alloc_new _ _
                  have f0 : W4.cell? ⟨wr.heap.size, 0, none⟩ = some (.int .i64 (x.f : Int)) := (cell_of_row _ _ 0 _ _ _ h50).trans rfl
                  have f1 : W4.cell? ⟨wr.heap.size, 1, none⟩ = some (.int .i64 (x.t : Int)) := (cell_of_row _ _ 1 _ _ _ h50).trans rfl
                  have f2 : W4.cell? ⟨wr.heap.size, 2, none⟩ = some (.int .i64 (x.c : Int)) := (cell_of_row _ _ 2 _ _ _ h50).trans rfl
                  have sh4 := hs.out.below b4
                  have g0 := sh4.rd.nat_cell (u := x.f) (by rw [ISD.out.len]; exact hf)
                  have g1 := sh4.rd.nat_cell (u := k) (by rw [ISD.out.len]; exact hkl)
                  have hfi : (x.f : Int) < (N : Int) := by omega
                  have hki : (k : Int) < (N : Int) := by omega
                  have SH4 := Lib.hid sh4
                  obtain ⟨p, hp⟩ : ∃ p, gw d x.f = p := ⟨_, rfl⟩
                  obtain ⟨q, hq⟩ : ∃ q, gw d k = q := ⟨_, rfl⟩
                  rw [hp] at g0 hub
                  rw [hq] at g1
                  have HX := Lib.hid hx
                  have HP := Lib.hid hp
                  have HQ := Lib.hid hq
                  clear sh4 b4 h50 hs hx hp hq
                  cases hb with
                  | true =>
                    clear hub
                    go_wp2_with fail
                    go_quiet (fail)
                    go_wp2
                    go_roundg gj
                    case measure => omega
                    case rel =>
                      refine ⟨true, j + 1, rfl, by go_num, Lib.hid (by omega), Lib.hid (SH4.out.below (below_drewN _)), Lib.hid ?_⟩
                      exact fun _ => rfl
                  | false =>
                    by_cases qt : x.t = k
                    · have qt1 : ((x.t : Int) == (k : Int)) = true := by simp; omega
                      have qt2 : (x.t == k) = true := by simp; omega
                      have qt3 : decide (x.t = k) = true := by simp; omega
                      have QT := Lib.hid qt
                      clear qt
                      rcases hub with hub | hub
                      · have a1 : decide ((p : Int) < 1099511627776) = false := by unfold inf at hub; simp; omega
                        have HUB := Lib.hid hub
                        clear hub
                        go_wp2_with fail
                        go_quiet (fail)
                        go_wp2
                        go_roundg gj
                        case measure => omega
                        case rel =>
                          refine ⟨false, j + 1, rfl, by go_num, Lib.hid (by omega), Lib.hid (SH4.out.below (below_drewN _)), Lib.hid ?_⟩
                          rintro ⟨i, z1, z2, z3, z4⟩
                          rcases Nat.lt_or_ge i j with z | z
                          · have := hi.out ⟨i, z, z2, z3, z4⟩
                            cases this
                          · have : i = j := by omega
                            subst this
                            rw [HX.out] at z2 z3 z4
                            rw [HP.out] at z3 z4
                            rw [HQ.out] at z4
                            exact absurd z3 (by have := HUB.out; omega)
                      · have a1 : (p : Int) < 1099511627776 := by omega
                        have wl : IntKind.i64.wrap ((p : Int) + (x.c : Int)) = ((p + x.c : Nat) : Int) := by rw [IntKind.wrap_i64]; omega
                        obtain ⟨s, hsum⟩ : ∃ s, p + x.c = s := ⟨_, rfl⟩
                        rw [hsum] at wl
                        have HS := Lib.hid hsum
                        clear hub hsum
                        by_cases qs : s = q
                        · have qs1 : ((s : Int) == (q : Int)) = true := by simp; omega
                          have qs2 : (s == q) = true := by simp; omega
                          have qs3 : decide (s = q) = true := by simp; omega
                          clear qs
                          go_wp2_with fail
                          go_quiet (fail)
                          go_wp2
                          go_roundg gj
                          case measure => omega
                          case rel =>
                            refine ⟨true, j + 1, rfl, by go_num, Lib.hid (by omega), Lib.hid (SH4.out.below (below_drewN _)), Lib.hid ?_⟩
                            exact fun _ => rfl
                        · have qs1 : ((s : Int) == (q : Int)) = false := by simp; omega
                          have qs2 : (s == q) = false := by simp; omega
                          have qs3 : decide (s = q) = false := by simp; omega
                          go_wp2_with fail
                          go_quiet (fail)
                          go_wp2
                          go_roundg gj
                          case measure => omega
                          case rel =>
                            refine ⟨false, j + 1, rfl, by go_num, Lib.hid (by omega), Lib.hid (SH4.out.below (below_drewN _)), Lib.hid ?_⟩
                            rintro ⟨i, z1, z2, z3, z4⟩
                            rcases Nat.lt_or_ge i j with z | z
                            · have := hi.out ⟨i, z, z2, z3, z4⟩
                              cases this
                            · have : i = j := by omega
                              subst this
                              rw [HX.out] at z2 z3 z4
                              rw [HP.out] at z3 z4
                              rw [HQ.out] at z4
                              exact absurd z4 (by have := HS.out; omega)
                    · have qt1 : ((x.t : Int) == (k : Int)) = false := by simp; omega
                      have qt2 : (x.t == k) = false := by simp; omega
                      have qt3 : decide (x.t = k) = false := by simp; omega
                      clear hub
                      go_wp2_with fail
                      go_quiet (fail)
                      go_wp2
                      go_roundg gj
                      case measure => omega
                      case rel =>
                        refine ⟨false, j + 1, rfl, by go_num, Lib.hid (by omega), Lib.hid (SH4.out.below (below_drewN _)), Lib.hid ?_⟩
                        rintro ⟨i, z1, z2, z3, z4⟩
                        rcases Nat.lt_or_ge i j with z | z
                        · have := hi.out ⟨i, z, z2, z3, z4⟩
                          cases this
                        · have : i = j := by omega
                          subst this
                          rw [HX.out] at z2 z3 z4
                          rw [HP.out] at z3 z4
                          rw [HQ.out] at z4
                          exact absurd z2 qt
    | succ gf =>
      have hkl : k < G.length := by omega
      have lt0 : (k : Int) < (G.length : Int) := by omega
      obtain ⟨b, off, hA, hbB, hbs, e0, e1, e2⟩ := hs.out.ed.nedge hkl
      have hf := HG.out.f k hkl
      have ht := HG.out.t k hkl
      have hc := HG.out.c k hkl
      have hed := ISD.out.edge HG.out hkl
      have hub : gw d (gn G k).f = inf ∨ gw d (gn G k).f ≤ 64 * 65535 := (ISD.out.at_ _ hf).imp id (fun h => h.1)
      obtain ⟨x, hx⟩ : ∃ x, gn G k = x := ⟨_, rfl⟩
      rw [hx] at e0 e1 e2 hf ht hc hed hub
      subst hA
      obtain ⟨W4, hW4⟩ : ∃ W4, wr.alloc (.cells #[.int .i64 (x.f : Int), .int .i64 (x.t : Int), .int .i64 (x.c : Int)] 50) = W4 := ⟨_, rfl⟩
      have hs4 : W4.heap.size = wr.heap.size + 1 := by rw [← hW4]; simp
      have b4 : Below wr.heap.size wr W4 := by rw [← hW4]; exact below_alloc1 _ _
      have h50 : W4.heap[wr.heap.size]? = some (.cells #[.int .i64 (x.f : Int), .int .i64 (x.t : Int), .int .i64 (x.c : Int)] 50 (0, 0)) := by rw [← hW4]; exact Go.heap_alloc_new _ _
      have f0 : W4.cell? ⟨wr.heap.size, 0, none⟩ = some (.int .i64 (x.f : Int)) := (cell_of_row _ _ 0 _ _ _ h50).trans rfl
      have f1 : W4.cell? ⟨wr.heap.size, 1, none⟩ = some (.int .i64 (x.t : Int)) := (cell_of_row _ _ 1 _ _ _ h50).trans rfl
      have f2 : W4.cell? ⟨wr.heap.size, 2, none⟩ = some (.int .i64 (x.c : Int)) := (cell_of_row _ _ 2 _ _ _ h50).trans rfl
      have sh4 := hs.out.below b4
      have g0 := sh4.rd.nat_cell (u := x.f) (by rw [ISD.out.len]; exact hf)
      have g1 := sh4.rd.nat_cell (u := x.t) (by rw [ISD.out.len]; exact ht)
      have hfi : (x.f : Int) < (N : Int) := by omega
      have hti : (x.t : Int) < (N : Int) := by omega
      have SH4 := Lib.hid sh4
      obtain ⟨p, hp⟩ : ∃ p, gw d x.f = p := ⟨_, rfl⟩
      obtain ⟨q, hq⟩ : ∃ q, gw d x.t = q := ⟨_, rfl⟩
      rw [hp] at g0 hed hub
      rw [hq] at g1 hed
      clear sh4 b4 h50 hs hx hp hq
      rcases hub with hub | hub
      · have a1 : decide ((p : Int) < 1099511627776) = false := by unfold inf at hub; simp; omega
        clear hub hed
        go_wp2_with fail
        go_quiet (fail)
        go_wp2
        go_roundg gf
        case measure => omega
        case rel => exact ⟨k + 1, by go_num, Lib.hid (by omega), Lib.hid (SH4.out.below (below_drewN _))⟩
      · have a1 : (p : Int) < 1099511627776 := by omega
        have hle := hed (by unfold inf; omega)
        have wl : IntKind.i64.wrap ((p : Int) + (x.c : Int)) = ((p + x.c : Nat) : Int) := by rw [IntKind.wrap_i64]; omega
        have a2 : decide ((q : Int) > ((p + x.c : Nat) : Int)) = false := decide_eq_false (by omega)
        have a3 : decide (q > p + x.c) = false := decide_eq_false (by omega)
        obtain ⟨s, hsum⟩ : ∃ s, p + x.c = s := ⟨_, rfl⟩
        rw [hsum] at wl a2 a3
        clear hub hed hle hsum
        go_wp2_with fail
        go_quiet (fail)
        go_wp2
        go_roundg gf
        case measure => omega
        case rel => exact ⟨k + 1, by go_num, Lib.hid (by omega), Lib.hid (SH4.out.below (below_drewN _))⟩
end Go.Proofs.Ytkpmdfgjaodlaaa
