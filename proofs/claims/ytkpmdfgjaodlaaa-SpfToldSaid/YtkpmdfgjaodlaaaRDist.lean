/-
  The contract of the reference's Dist. No statement is proved here; no conditions.
-/
import Derived.Test.YtkpmdfgjaodlaaaRDj
import Derived.Test.YtkpmdfgjaodlaaaRMay
import Derived.Test.YtkpmdfgjaodlaaaDist2
namespace Go.Proofs.Ytkpmdfgjaodlaaa
open Go.RowKit Go.Joins

set_option maxRecDepth 100000 in
theorem rdist_bad (N root : Int) (A : Option Addr) (c : Nat) (E : List Ed) (B : Nat) (w : World) (hE : Rd (· < B) w A (eflat E)) (hB : B ≤ w.heap.size) (hl : E.length ≤ 100000) (hbad : may N E = false ∨ ¬ (0 ≤ root ∧ root < N)) :
    Calls Try.prog 11 #[gv N A E.length c, .int .i64 root] w fun e w' => e = .returned (.tuple #[.slice none 0 0, .int .i64 1]) ∧ Below w.heap.size w w' := by
  have K := box2_at (w := w) (u := .int .i64 N) (v := .slice A E.length c) (t := 31) (B := w.heap.size + 1) (by omega)
  have B0 := below_alloc1 w (.cells #[.int .i64 N, .slice A E.length c] 31)
  obtain ⟨W0, hW0⟩ : ∃ W0, w.alloc (.cells #[.int .i64 N, .slice A E.length c] 31) = W0 := ⟨_, rfl⟩
  have hs0 : W0.heap.size = w.heap.size + 1 := by rw [← hW0]; simp
  rw [hW0] at K B0
  obtain ⟨c0, c1, _, _⟩ := K _ (Below.refl _ _)
  have my := rmay_any N A c E B W0 (hE.below B0 (fun j hj _ => by omega)) (by omega) hl
  rw [hs0] at my
  have HB0 := Lib.hid B0
  clear hE B0
  cases hm : may N E with
  | false =>
    rw [hm] at my
    go_enter Try.func11, Try.ntmps11
    go_wp2_with fail
    refine my.mono ?_
    rintro e W1 ⟨rfl, b1⟩
    have HB1 := Lib.hid b1
    clear b1 my
    go_wp2
    go_ret2
    exact ⟨rfl, HB0.out.trans (HB1.out.mono (by omega))⟩
  | true =>
    rw [hm] at my
    have hr : ¬ (0 ≤ root ∧ root < N) := by
      rcases hbad with e | e
      · rw [hm] at e; cases e
      · exact e
    by_cases q1 : root < 0
    · have a1 : decide (root < 0) = true := by simpa using q1
      go_enter Try.func11, Try.ntmps11
      go_wp2_with fail
      refine my.mono ?_
      rintro e W1 ⟨rfl, b1⟩
      have HB1 := Lib.hid b1
      clear b1 my
      go_wp2
      go_ret2
      exact ⟨rfl, HB0.out.trans (HB1.out.mono (by omega))⟩
    · have a1 : decide (root < 0) = false := by simpa using q1
      have a2 : decide (root ≥ N) = true := by simp; omega
      go_enter Try.func11, Try.ntmps11
      go_wp2_with fail
      refine my.mono ?_
      rintro e W1 ⟨rfl, b1⟩
      obtain ⟨k0, k1, _, _⟩ := K _ b1
      have HB1 := Lib.hid b1
      clear b1 my
      go_wp2
      go_ret2
      exact ⟨rfl, HB0.out.trans (HB1.out.mono (by omega))⟩

set_option maxRecDepth 100000 in
set_option maxHeartbeats 4000000 in
theorem rdist_any (N root : Nat) (A : Option Addr) (c : Nat) (G : List NE) (B : Nat) (w : World) (hE : Rd (· < B) w A (nflat G)) (hB : B ≤ w.heap.size) (hg : GV N G) (hr : root < N) :
    Calls Try.prog 11 #[gv N A G.length c, .int .i64 (root : Int)] w fun e w' => Disted w N G root e w' := by
  have hn2 := hg.n2
  have hm400 := hg.m
  have K := box2_at (w := w) (u := .int .i64 N) (v := .slice A G.length c) (t := 31) (B := w.heap.size + 1) (by omega)
  have B0 := below_alloc1 w (.cells #[.int .i64 N, .slice A G.length c] 31)
  obtain ⟨W0, hW0⟩ : ∃ W0, w.alloc (.cells #[.int .i64 N, .slice A G.length c] 31) = W0 := ⟨_, rfl⟩
  have hs0 : W0.heap.size = w.heap.size + 1 := by rw [← hW0]; simp
  rw [hW0] at K B0
  obtain ⟨c0, c1, _, _⟩ := K _ (Below.refl _ _)
  have hE0 := hE.below B0 (fun j hj _ => by omega)
  have my := rmay_any N A c (G.map NE.ed) B W0 hE0 (by omega) (by simp; omega)
  rw [hs0, may_of hg, List.length_map] at my
  have HB0 := Lib.hid B0
  have HE0 := Lib.hid hE0
  have HG := Lib.hid hg
  have a1 : decide ((root : Int) < 0) = false := by simp
  have a2 : decide ((root : Int) ≥ (N : Int)) = false := by simp; omega
  have a3 : decide (N ≤ root) = false := by simp; omega
  clear hE B0 hE0
  go_enter Try.func11, Try.ntmps11
  go_wp2_with fail
  refine my.mono ?_
  rintro e W1 ⟨rfl, b1⟩
  obtain ⟨k0, k1, _, _⟩ := K _ b1
  have hs1 := b1.size
  have HB1 := Lib.hid b1
  obtain ⟨ti, hi, hz, hsz, hby⟩ := info3
  obtain ⟨W2, hmk, r1, r2, hs2⟩ := run_mkr W1 26 3 ti _ 1 8 Try.underlying26 hi hz hsz hby N (by omega) (by omega)
  rw [Nat.mul_one, made_one _ rfl] at r1
  obtain ⟨gd, hgd⟩ : ∃ gd, W1.heap.size = gd := ⟨_, rfl⟩
  rw [hgd] at r1 hmk hs2
  have R1 : Hid (Rg 3 1 W2 gd N (nts (List.replicate 0 inf ++ List.replicate (N - 0) 0))) := Lib.hid (by simpa [nts] using r1)
  have b2 : Below (w.heap.size + 1) W0 W2 := b1.trans (r2.mono (by omega))
  have R2 := Lib.hid b2
  have hgd' : w.heap.size + 1 ≤ gd := by omega
  obtain ⟨k2, k3, _, _⟩ := K _ b2
  have HGD := Lib.hid hgd
  clear b1 my r1 r2 b2 hi hz hsz hby hs2 hgd c0 c1
  go_wp2_with fail
  clear k0 k1 k2 k3 hmk
  go_loopg [7] N (fun gf v wx => ∃ k, v = .int .i64 ((k : Nat) : Int) ∧ Hid (gf + k = N) ∧ Hid (Rg 3 1 wx gd N (nts (List.replicate k inf ++ List.replicate (N - k) 0))) ∧ Hid (Below (w.heap.size + 1) W0 wx))
  case atStart => exact ⟨0, rfl, Lib.hid (by omega), R1, R2⟩
  case round =>
    obtain ⟨k, rfl, hk, hr2, hb⟩ := hrel
    have hk' := hk.out
    obtain ⟨k0, k1, _, _⟩ := K _ hb.out
    clear R1 R2
    cases gk with
    | succ gf =>
      have hkl : k < N := by omega
      have lt0 : (k : Int) < (N : Int) := by omega
      have fz := hr2.out.frozen k
      have cl : wr.cell? ⟨gd, k, none⟩ = some (.int .i64 0) := hr2.out.cell (by
        rw [List.getElem?_map, List.getElem?_append_right (by simp), List.getElem?_replicate, if_pos (by simp; omega)]
        rfl)
      go_wp2
      go_roundg gf
      case measure => omega
      case rel =>
        refine ⟨k + 1, by go_num, Lib.hid (by omega), Lib.hid ?_, Lib.hid (hb.out.setCell (by simpa using hgd') _)⟩
        have := hr2.out.set k (.int .i64 (inf : Int))
        rwa [nts_set, rep_set k N hkl] at this
    | zero =>
      have e1 : k = N := by omega
      have lt0 : decide ((k : Int) < (N : Int)) = false := by simp; omega
      have lt1 : decide (k < N) = false := by simp; omega
      have hRep := hr2.out
      rw [e1, Nat.sub_self, List.replicate_zero, List.append_nil] at hRep
      have fz := hRep.frozen root
      have cl := hRep.nat_cell (u := root) (by simpa using hr)
      have hri : (root : Int) < (N : Int) := by omega
      have R3 := Lib.hid (hRep.nat_set root 0)
      have B3 := Lib.hid (hb.out.setCell (show w.heap.size + 1 ≤ (⟨gd, root, none⟩ : Addr).block by simpa using hgd') (.int .i64 ((0 : Nat) : Int)))
      obtain ⟨W3, hW3⟩ : ∃ W3, wr.setCell ⟨gd, root, none⟩ (.int .i64 ((0 : Nat) : Int)) = W3 := ⟨_, rfl⟩
      rw [hW3] at R3 B3
      have hW3' : wr.setCell ⟨gd, root, none⟩ (.int .i64 0) = W3 := hW3
      clear hRep hb hr2 hW3
      go_wp2_with fail
      clear hW3' cl fz lt0 lt1 e1 hk hk' k0 k1
      go_loopg [8] N (fun gf v wx => ∃ k d, v = .int .i64 ((k : Nat) : Int) ∧ Hid (gf + k = N) ∧ Hid (RX N G root k 0 d) ∧ Hid (Rg 3 1 wx gd N (nts d)) ∧ Hid (Below (w.heap.size + 1) W0 wx))
      case atStart => exact ⟨0, _, rfl, Lib.hid (by omega), Lib.hid (RX.start hr), R3, B3⟩
      case round =>
        obtain ⟨k, d, rfl, hk, hx, hd, hb⟩ := hrel
        have hk' := hk.out
        obtain ⟨k0, k1, _, _⟩ := K _ hb.out
        clear R3 B3
        cases gk with
        | zero =>
          have e1 : k = N := by omega
          have lt0 : decide ((k : Int) < (N : Int)) = false := by simp; omega
          have lt1 : decide (k < N) = false := by simp; omega
          go_wp2
          go_ret2
          have := hx.out
          rw [e1] at this
          exact ⟨d, gd, rfl, this.done HG.out hr, hd.out, by omega, HB0.out.trans (hb.out.mono (by omega))⟩
        | succ gf =>
          have hkl : k < N := by omega
          have lt0 : (k : Int) < (N : Int) := by omega
          clear hk
          go_wp2_with fail
          go_loopg [9] G.length (fun gj v wx => ∃ i d, v = .int .i64 ((i : Nat) : Int) ∧ Hid (gj + i = G.length) ∧ Hid (RX N G root k i d) ∧ Hid (Rg 3 1 wx gd N (nts d)) ∧ Hid (Below (w.heap.size + 1) W0 wx))
          case atStart => exact ⟨0, d, rfl, Lib.hid (by omega), hx, hd, hb⟩
          case round =>
            clear hx hd hb k0 k1
            obtain ⟨i, d, rfl, hk, hx, hd, hb⟩ := hrel
            have hi' := hk.out
            obtain ⟨k0, k1, _, _⟩ := K _ hb.out
            cases gk with
            | zero =>
              have e1 : i = G.length := by omega
              have lt0 : decide ((i : Int) < (G.length : Int)) = false := by simp; omega
              have lt1 : decide (i < G.length) = false := by simp; omega
              go_wp2
              go_roundg gf
              case measure => omega
              case rel => exact ⟨k + 1, d, by go_num, Lib.hid (by omega), Lib.hid (by have := hx.out; rw [e1] at this; exact this.next), hd, hb⟩
            | succ gj =>
              have hil : i < G.length := by omega
              have lti : (i : Int) < (G.length : Int) := by omega
              have hsz := hb.out.size
              have hEx := HE0.out.below hb.out (fun j hj _ => by omega)
              obtain ⟨b, off, hA, hbB, hbs, e0, e1, e2⟩ := hEx.nedge hil
              have hxs := hx.out.step HG.out hr (by omega) hil
              have xf := HG.out.f i hil
              have xt := HG.out.t i hil
              have xc := HG.out.c i hil
              have hlen := hx.out.len
              have hubf := hx.out.ub _ xf
              have hubt := hx.out.ub _ xt
              obtain ⟨x, hxx⟩ : ∃ x, gn G i = x := ⟨_, rfl⟩
              rw [hxx] at e0 e1 e2 hxs xf xt xc hubf hubt
              subst hA
              obtain ⟨W4, hW4⟩ : ∃ W4, wr.alloc (.cells #[.int .i64 (x.f : Int), .int .i64 (x.t : Int), .int .i64 (x.c : Int)] 50) = W4 := ⟨_, rfl⟩
              have hs4 : W4.heap.size = wr.heap.size + 1 := by rw [← hW4]; simp
              have b4 : Below wr.heap.size wr W4 := by rw [← hW4]; exact below_alloc1 _ _
              have h4 : W4.heap[wr.heap.size]? = some (.cells #[.int .i64 (x.f : Int), .int .i64 (x.t : Int), .int .i64 (x.c : Int)] 50 (0, 0)) := by rw [← hW4]; exact Go.heap_alloc_new _ _
              have f0 := (cell_of_row _ _ 0 _ _ _ h4)
              have f1 := (cell_of_row _ _ 1 _ _ _ h4)
              have f2 := (cell_of_row _ _ 2 _ _ _ h4)
              simp only [List.getElem?_toArray, List.getElem?_cons_zero, List.getElem?_cons_succ] at f0 f1 f2
              have hgl := hd.out.lt
              have hd4 := hd.out.below' b4
              have cf := hd4.nat_cell (u := x.f) (by omega)
              have ct := hd4.nat_cell (u := x.t) (by omega)
              have fz := hd4.frozen x.t
              have hfi : (x.f : Int) < (N : Int) := by omega
              have hti : (x.t : Int) < (N : Int) := by omega
              have b04 := hb.out.trans (b4.mono (by omega))
              obtain ⟨p, hp⟩ : ∃ p, gw d x.f = p := ⟨_, rfl⟩
              obtain ⟨q, hq⟩ : ∃ q, gw d x.t = q := ⟨_, rfl⟩
              have hrx : rx d x = if p < inf ∧ p + x.c < q then d.set x.t (p + x.c) else d := by rw [rx, hp, hq]
              rw [hp] at cf hubf
              rw [hq] at ct hubt
              have wl : IntKind.i64.wrap ((p : Int) + (x.c : Int)) = ((p + x.c : Nat) : Int) := by rw [IntKind.wrap_i64]; unfold inf at hubf; omega
              obtain ⟨lg, hlg⟩ : ∃ lg, p + x.c = lg := ⟨_, rfl⟩
              rw [hlg] at wl hrx
              have HNE : Hid (lg < q → x.f ≠ x.t) := Lib.hid (fun h e => by rw [e, hq] at hp; omega)
              have HXS := Lib.hid hxs
              have hfl : Hid (x.f < d.length) := Lib.hid (by omega)
              have htl : Hid (x.t < d.length) := Lib.hid (by omega)
              have hpp := Lib.hid hp
              have HD4 := Lib.hid hd4
              have B04 := Lib.hid b04
              have HRX := Lib.hid hrx
              have HLG := Lib.hid hlg
              clear hEx hxs hd4 b04 hrx hd hb hp hq b4 hxx h4 xc hlen hubf hubt hx hlg xf xt
              have S4 : W4.cell? ⟨wr.heap.size, 0, none⟩ = some (.int .i64 (x.f : Int)) ∧ W4.cell? ⟨wr.heap.size, 1, none⟩ = some (.int .i64 (x.t : Int)) ∧ W4.cell? ⟨wr.heap.size, 2, none⟩ = some (.int .i64 (x.c : Int)) ∧ W4.cell? ⟨gd, x.f, none⟩ = some (.int .i64 (p : Int)) := ⟨f0, f1, f2, cf⟩
              go_wp2_with fail
              by_cases q1 : p < inf
              · have a1 : decide ((p : Int) < 1099511627776) = true := by unfold inf at q1; simp; omega
                by_cases q2 : lg < q
                · have a2 : (lg : Int) < (q : Int) := by omega
                  have hne := HNE.out q2
                  have R5 : Hid (Rg 3 1 (W4.setCell ⟨gd, x.t, none⟩ (.int .i64 (lg : Int))) gd N (nts (rx d x))) := Lib.hid (by rw [HRX.out, if_pos ⟨q1, q2⟩]; exact HD4.out.nat_set x.t lg)
                  have B5 : Hid (Below (w.heap.size + 1) W0 (W4.setCell ⟨gd, x.t, none⟩ (.int .i64 (lg : Int)))) := Lib.hid (B04.out.setCell (show w.heap.size + 1 ≤ (⟨gd, x.t, none⟩ : Addr).block by simpa using hgd') _)
                  have k5 : Kp (fun j => j = gd) W4 (W4.setCell ⟨gd, x.t, none⟩ (.int .i64 (lg : Int))) := Kp.setCell W4 _ _ rfl
                  have t5 := k5.block wr.heap.size (by omega) (by omega)
                  have S5 : Hid ((W4.setCell ⟨gd, x.t, none⟩ (.int .i64 (lg : Int))).cell? ⟨wr.heap.size, 0, none⟩ = some (.int .i64 (x.f : Int)) ∧ (W4.setCell ⟨gd, x.t, none⟩ (.int .i64 (lg : Int))).cell? ⟨wr.heap.size, 1, none⟩ = some (.int .i64 (x.t : Int)) ∧ (W4.setCell ⟨gd, x.t, none⟩ (.int .i64 (lg : Int))).cell? ⟨wr.heap.size, 2, none⟩ = some (.int .i64 (x.c : Int)) ∧ (W4.setCell ⟨gd, x.t, none⟩ (.int .i64 (lg : Int))).cell? ⟨gd, x.f, none⟩ = some (.int .i64 (p : Int))) :=
                    Lib.hid ⟨(World.cell?_of_block t5).trans f0, (World.cell?_of_block t5).trans f1, (World.cell?_of_block t5).trans f2, by
                      have h := HD4.out.set x.t (.int .i64 (lg : Int))
                      have hl := hfl.out
                      have := (HD4.out.nat_set x.t lg).nat_cell (u := x.f) (by simpa using hl)
                      rwa [gw_set _ _ _ _ htl.out, if_neg hne, hpp.out] at this⟩
                  clear k5 t5
                  clear q1 hne HRX HNE
                  go_quiet (fail)
                  clear a1
                  go_wp2_with fail
                  refine wp_region_held_drew (S := fun V => V.cell? ⟨wr.heap.size, 0, none⟩ = some (.int .i64 (x.f : Int)) ∧ V.cell? ⟨wr.heap.size, 1, none⟩ = some (.int .i64 (x.t : Int)) ∧ V.cell? ⟨wr.heap.size, 2, none⟩ = some (.int .i64 (x.c : Int)) ∧ V.cell? ⟨gd, x.f, none⟩ = some (.int .i64 (p : Int))) (by kernel_rfl) S4 (fun hHeld => ?_)
                  refine wpAnyH_take (i := 0) (v := ?_) rfl (by kernel_rfl) (by kernel_rfl) (by kernel_rfl) (fun _ _ _ h => h) (Or.inl ⟨by rfl, ?_⟩) (by assumption) ?_
                  rotate_left
                  · (intro w' hSw; (try dsimp only at hSw); go_simp; try with_reducible rfl)
                  simp only [Act.put, List.getElem_toArray, List.getElem_cons_zero, List.setIfInBounds_toArray, List.set_cons_zero, List.set_cons_succ]
                  refine wpAnyH_take (i := 1) (v := ?_) rfl (by kernel_rfl) (by kernel_rfl) (by kernel_rfl) (fun _ _ _ h => h) (Or.inl ⟨by rfl, ?_⟩) (by assumption) ?_
                  rotate_left
                  · (intro w' hSw; (try dsimp only at hSw); go_simp; try with_reducible rfl)
                  simp only [Act.put, List.getElem_toArray, List.getElem_cons_zero, List.getElem_cons_succ, List.setIfInBounds_toArray, List.set_cons_zero, List.set_cons_succ]
                  refine wpAnyH_take (i := 2) (v := ?_) rfl (by kernel_rfl) (by kernel_rfl) (by kernel_rfl) (fun _ _ _ h => h) (Or.inl ⟨by rfl, ?_⟩) (by assumption) ?_
                  rotate_left
                  · (intro w' hSw; (try dsimp only at hSw); go_simp; try with_reducible rfl)
                  simp only [Act.put, List.getElem_toArray, List.getElem_cons_zero, List.getElem_cons_succ, List.setIfInBounds_toArray, List.set_cons_zero, List.set_cons_succ]
                  refine wpAnyH_take (i := 3) (v := ?_) rfl (by kernel_rfl) (by kernel_rfl) (by kernel_rfl) (fun _ _ _ h => h) (Or.inl ⟨by rfl, ?_⟩) (by assumption) ?_
                  rotate_left
                  · (intro w' hSw; (try dsimp only at hSw); go_simp; try with_reducible rfl)
                  simp only [Act.put, List.getElem_toArray, List.getElem_cons_zero, List.getElem_cons_succ, List.setIfInBounds_toArray, List.set_cons_zero, List.set_cons_succ]
                  refine wpAnyH_take (i := 4) (v := ?_) rfl (by kernel_rfl) (by kernel_rfl) (by kernel_rfl) (fun _ _ _ h => h) (Or.inl ⟨by rfl, ?_⟩) (by assumption) ?_
                  rotate_left
                  · (intro w' hSw; (try dsimp only at hSw); go_simp; try with_reducible rfl)
                  simp only [Act.put, List.getElem_toArray, List.getElem_cons_zero, List.getElem_cons_succ, List.setIfInBounds_toArray, List.set_cons_zero, List.set_cons_succ]
                  refine wpAnyH_take (i := 5) (v := ?_) rfl (by kernel_rfl) (by kernel_rfl) (by kernel_rfl) (fun _ _ _ h => h) (Or.inl ⟨by rfl, ?_⟩) (by assumption) ?_
                  rotate_left
                  · (intro w' hSw; (try dsimp only at hSw); go_simp; try with_reducible rfl)
                  simp only [Act.put, List.getElem_toArray, List.getElem_cons_zero, List.getElem_cons_succ, List.setIfInBounds_toArray, List.set_cons_zero, List.set_cons_succ]
                  refine wpAnyH_take (i := 6) (v := ?_) rfl (by kernel_rfl) (by kernel_rfl) (by kernel_rfl) (fun _ _ _ h => h) (Or.inl ⟨by rfl, ?_⟩) (by assumption) ?_
                  rotate_left
                  · (intro w' hSw; (try dsimp only at hSw); go_simp; try with_reducible rfl)
                  simp only [Act.put, List.getElem_toArray, List.getElem_cons_zero, List.getElem_cons_succ, List.setIfInBounds_toArray, List.set_cons_zero, List.set_cons_succ]
                  refine wpAnyH_take (i := 7) (v := ?_) rfl (by kernel_rfl) (by kernel_rfl) (by kernel_rfl) (fun _ _ _ h => h) (Or.inl ⟨by rfl, ?_⟩) (by assumption) ?_
                  rotate_left
                  · (intro w' hSw; (try dsimp only at hSw); go_simp; try with_reducible rfl)
                  simp only [Act.put, List.getElem_toArray, List.getElem_cons_zero, List.getElem_cons_succ, List.setIfInBounds_toArray, List.set_cons_zero, List.set_cons_succ]
                  refine wpAnyH_take (i := 8) (v := ?_) rfl (by kernel_rfl) (by kernel_rfl) (by kernel_rfl) (fun _ _ _ h => h) (Or.inl ⟨by rfl, ?_⟩) (by assumption) ?_
                  rotate_left
                  · (intro w' hSw; (try dsimp only at hSw); go_simp; try with_reducible rfl)
                  simp only [Act.put, List.getElem_toArray, List.getElem_cons_zero, List.getElem_cons_succ, List.setIfInBounds_toArray, List.set_cons_zero, List.set_cons_succ]
                  refine wpAnyH_take (i := 9) (v := ?_) rfl (by kernel_rfl) (by kernel_rfl) (by kernel_rfl) (fun _ _ _ h => h) (Or.inl ⟨by rfl, ?_⟩) (by assumption) ?_
                  rotate_left
                  · (intro w' hSw; (try dsimp only at hSw); go_simp; try with_reducible rfl)
                  simp only [Act.put, List.getElem_toArray, List.getElem_cons_zero, List.getElem_cons_succ, List.setIfInBounds_toArray, List.set_cons_zero, List.set_cons_succ]
                  refine wpAnyH_take (i := 10) (v := ?_) rfl (by kernel_rfl) (by kernel_rfl) (by kernel_rfl) (fun _ _ _ h => h) (Or.inl ⟨by rfl, ?_⟩) (by assumption) ?_
                  rotate_left
                  · (intro w' hSw; (try dsimp only at hSw); go_simp; try with_reducible rfl)
                  simp only [Act.put, List.getElem_toArray, List.getElem_cons_zero, List.getElem_cons_succ, List.setIfInBounds_toArray, List.set_cons_zero, List.set_cons_succ]
                  refine wpAnyH_take (i := 11) (v := ?_) rfl (by kernel_rfl) (by kernel_rfl) (by kernel_rfl) (fun _ _ _ h => h) (Or.inl ⟨by rfl, ?_⟩) (by assumption) ?_
                  rotate_left
                  · (intro w' hSw; (try dsimp only at hSw); go_simp; try with_reducible rfl)
                  simp only [Act.put, List.getElem_toArray, List.getElem_cons_zero, List.getElem_cons_succ, List.setIfInBounds_toArray, List.set_cons_zero, List.set_cons_succ]
                  refine wpAnyH_ready (rs := [12]) (by kernel_rfl) (by simp) ?_
                  refine AllReadyH.cons rfl (fun K hK => ?_) AllReadyH.nil
                  go_simp
                  refine hK.out _ _ S5.out (fun _ => ?_)
                  clear hK K
                  refine wpAnyH_done (by kernel_rfl) ?_ _
                  clear S4 S5
                  go_wp2
                  go_roundg gj
                  case measure => omega
                  case rel => exact ⟨i + 1, rx d x, by go_num, Lib.hid (by omega), HXS, Lib.hid R5.out, Lib.hid ⟨B5.out.os, B5.out.tape, B5.out.output, B5.out.size, B5.out.block⟩⟩
                · have a2 : decide ((lg : Int) < (q : Int)) = false := by simp; omega
                  have R5 : Hid (Rg 3 1 W4 gd N (nts (rx d x))) := Lib.hid (by rw [HRX.out, if_neg (fun e => q2 e.2)]; exact HD4.out)
                  have a2n : decide (lg < q) = false := by simpa using q2
                  clear q1 q2 HRX HNE S4
                  go_quiet (fail)
                  clear a1
                  go_wp2
                  go_roundg gj
                  case measure => omega
                  case rel => exact ⟨i + 1, rx d x, by go_num, Lib.hid (by omega), HXS, Lib.hid R5.out, Lib.hid ⟨B04.out.os, B04.out.tape, B04.out.output, B04.out.size, B04.out.block⟩⟩
              · have a1 : decide ((p : Int) < 1099511627776) = false := by unfold inf at q1; simp; omega
                have R5 : Hid (Rg 3 1 W4 gd N (nts (rx d x))) := Lib.hid (by rw [HRX.out, if_neg (fun e => q1 e.1)]; exact HD4.out)
                clear q1 HRX HNE S4
                go_quiet (fail)
                clear a1
                go_wp2
                go_roundg gj
                case measure => omega
                case rel => exact ⟨i + 1, rx d x, by go_num, Lib.hid (by omega), HXS, Lib.hid R5.out, Lib.hid ⟨B04.out.os, B04.out.tape, B04.out.output, B04.out.size, B04.out.block⟩⟩
end Go.Proofs.Ytkpmdfgjaodlaaa
