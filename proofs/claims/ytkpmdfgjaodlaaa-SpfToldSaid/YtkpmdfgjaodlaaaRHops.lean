/-
  The contract of the reference's Hops. No statement is proved here; no conditions.
-/
import Derived.Test.YtkpmdfgjaodlaaaRWr
namespace Go.Proofs.Ytkpmdfgjaodlaaa
open Go.RowKit Go.Joins

theorem Rd.nat_at2 {S : Nat → Prop} {w : World} {A : Option Addr} {l : List Nat} (h : Rd S w A (nts l)) {k : Nat} (hk : k < l.length) : ∃ b off, A = some ⟨b, off, none⟩ ∧ S b ∧ b < w.heap.size ∧ w.cell? ⟨b, off + k, none⟩ = some (.int .i64 (gw l k : Int)) := by
  obtain ⟨b, off, e, hS, hl, hc⟩ := h (by intro e; have := congrArg List.length e; simp at this; subst this; simp at hk)
  exact ⟨b, off, e, hS, hl, hc k _ (by rw [List.getElem?_map, List.getElem?_eq_getElem hk, gw_eq hk]; rfl)⟩
theorem set_gl {H : List (List Nat)} {t : Nat} (h : t < H.length) : H.set t (gl H t) = H := by
  rw [gl_eq h]
  exact List.set_getElem_self h
/-- Is an edge tight? -/
def tgL (G : List NE) (d : List Nat) : List Bool := (G.map NE.ed).map (tgt (ofN d))
theorem tgL_len (G : List NE) (d : List Nat) : (tgL G d).length = G.length := by simp [tgL]
theorem use_tg {G : List NE} {d : List Nat} {root i : Nat} (hi : i < G.length) : ub (useL G d root) i = (ub (tgL G d) i && decide ((gn G i).t ≠ root)) := by
  rw [ub, ub, List.getD, List.getD, List.getElem?_eq_getElem (by simpa [useL] using hi), List.getElem?_eq_getElem (by simpa [tgL] using hi), gn_eq hi]
  simp only [useL, tgL, List.getElem_map, onw, Option.getD_some]
  congr 1
  exact decide_eq_decide.2 (not_congr ⟨fun e => Int.ofNat.inj e, fun e => congrArg Nat.cast e⟩)
theorem use_root {G : List NE} {d : List Nat} {root : Nat} : ∀ j, j < G.length → ub (useL G d root) j = true → (gn G j).t ≠ root := fun j hj hu => by
  rw [use_tg hj, Bool.and_eq_true] at hu
  exact of_decide_eq_true hu.2

set_option maxRecDepth 100000 in
set_option maxHeartbeats 8000000 in
theorem rhops_any (N root : Nat) (A : Option Addr) (c : Nat) (G : List NE) (B : Nat) (w : World) (hE : Rd (· < B) w A (nflat G)) (hB : B ≤ w.heap.size) (hg : GV N G) (hr : root < N) :
    Calls Try.prog 14 #[gv N A G.length c, .int .i64 (root : Int)] w fun e w' => RHopsd w N G root e w' := by
  have hn2 := hg.n2
  have hm400 := hg.m
  obtain ⟨W0, hW0⟩ : ∃ W0, w.alloc (.cells #[.int .i64 N, .slice A G.length c] 31) = W0 := ⟨_, rfl⟩
  have hs0 : W0.heap.size = w.heap.size + 1 := by rw [← hW0]; simp
  have b0 : Below w.heap.size w W0 := by rw [← hW0]; exact below_alloc1 _ _
  have h0 : W0.heap[w.heap.size]? = some (.cells #[.int .i64 N, .slice A G.length c] 31 (0, 0)) := by rw [← hW0]; exact Go.heap_alloc_new _ _
  obtain ⟨c0, c1, _, _⟩ := blk2 h0
  have hE0 := hE.below b0 (fun j hj _ => by omega)
  have di := rdist_any N root A c G B W0 hE0 (by omega) hg hr
  have H0 := Lib.hid h0
  have HB0 := Lib.hid b0
  have HE0 := Lib.hid hE0
  have HG := Lib.hid hg
  clear hE b0 h0 hE0 hg
  go_enter Try.func14, Try.ntmps14
  go_wp2_with fail
  refine di.mono ?_
  rintro e W1 ⟨d, gd, rfl, isd, rd, hgd, b1⟩
  have hs1 := b1.size
  have hgl := rd.lt
  have h1 := (b1.block _ (by omega)).trans H0.out
  obtain ⟨k0, k1, _, _⟩ := blk2 h1
  have hE1 := HE0.out.below b1 (fun j hj _ => by omega)
  have eD : nts d = its (ofN d) := by simp [nts, its, ofN]
  have hdl : (ofN d).length = N := by rw [List.length_map]; exact isd.len
  have ti := rtight_any (N : Int) A c (G.map NE.ed) W1.heap.size (some ⟨gd, 0, none⟩) N (ofN d) W1 (hE1.more (fun j _ hl => hl)) (eD ▸ rd.rd.more (fun j _ hl => hl)) (Nat.le_refl _) (by simp; omega)
  rw [hdl, List.length_map] at ti
  have ISD := Lib.hid isd
  have B1 := Lib.hid b1
  have E1 := Lib.hid hE1
  have H1 := Lib.hid h1
  clear di isd rd b1 hE1 h1 c0 c1 H0 HE0 eD hdl
  go_wp2_with fail
  refine ti.mono ?_
  rintro e W2 ⟨gt, ct, rfl, r2, hgt, b2⟩
  rw [List.length_map, List.length_map]
  have hs2 := b2.size
  have hgtl := r2.lt
  have h2 := (b2.block _ (by omega)).trans H1.out
  clear k0 k1
  obtain ⟨k0, k1, _, _⟩ := blk2 h2
  have E2 := E1.out.below b2 (fun j hj _ => by omega)
  obtain ⟨tin, hi, hz, hsz, hby⟩ := info26
  obtain ⟨W3, hmk, r3, b3, hs3⟩ := run_mkr W2 33 26 tin _ 1 24 Try.underlying33 hi hz hsz hby N (by omega) (by omega)
  rw [Nat.mul_one, made_one _ rfl] at r3
  obtain ⟨gr, hgr⟩ : ∃ gr, W2.heap.size = gr := ⟨_, rfl⟩
  rw [hgr] at r3 hmk hs3
  have h3 := (b3.block _ (by omega)).trans h2
  have B03 : Below w.heap.size w W3 := HB0.out.trans ((B1.out.mono (by omega)).trans ((b2.mono (by omega)).trans (b3.mono (by omega))))
  have HH3 := Lib.hid h3
  have HE3 := Lib.hid (E2.below b3 (fun j hj _ => by omega))
  have HT3 : Hid (Rg 4 1 W3 gt ct (bls (tgL G d))) := Lib.hid (r2.below' b3)
  have HB3 := Lib.hid B03
  have HW3 : Hid (RW w.heap.size W3 gr (List.replicate N [])) := Lib.hid (RW.start r3)
  have gtr : gt < gr := by omega
  have wgr : w.heap.size + 2 ≤ gr := by omega
  have hs3' : W3.heap.size = gr + 1 := hs3
  have HG3 := Lib.hid hs3'
  obtain ⟨U, hU⟩ : ∃ U, useL G d root = U := ⟨_, rfl⟩
  obtain ⟨T, hT⟩ : ∃ T, tgL G d = T := ⟨_, rfl⟩
  have hUT : Hid (∀ i, i < G.length → ub U i = (ub T i && decide ((gn G i).t ≠ root))) := Lib.hid (fun i hi => by rw [← hU, ← hT]; exact use_tg hi)
  have hUR : Hid (∀ j, j < G.length → ub U j = true → (gn G j).t ≠ root) := Lib.hid (by rw [← hU]; exact use_root)
  have hTl : Hid (T.length = G.length) := Lib.hid (by rw [← hT]; exact tgL_len G d)
  rw [hT] at HT3
  have HU := Lib.hid hU
  clear hi hz hsz hby r2 r3 b2 b3 h2 h3 E2 B03 hs3 hs3' ti hU hT hgr hgtl H1 E1 B1 hgl hgd
  clear hs1 hs2
  go_wp2_with fail
  clear hmk k0 k1
  go_loopg [10] (N + 1) (fun gf v wx => ∃ k H, v = .int .i64 ((k : Nat) : Int) ∧ Hid (gf + k = N + 1) ∧ Hid (HX N G U root k 0 H) ∧ Hid (RW w.heap.size wx gr H) ∧ Hid (Kp (fun j => j = gr) W3 wx))
  case atStart => exact ⟨0, _, rfl, Lib.hid (by omega), Lib.hid HX.start, HW3, Lib.hid (Kp.refl _ _)⟩
  case round =>
    obtain ⟨k, H, rfl, hk, hx, hw, hp⟩ := hrel
    have hk' := hk.out
    clear HW3
    have h3 := (hp.out.block w.heap.size (by have := HG3.out; omega) (by omega)).trans HH3.out
    obtain ⟨k0, k1, _, _⟩ := blk2 h3
    clear h3
    cases gk with
    | zero =>
      have e1 : k = N + 1 := by omega
      have lt0 : decide ((k : Int) ≤ (N : Int)) = false := by simp; omega
      have lt1 : decide (k ≤ N) = false := by simp; omega
      go_wp2
      go_ret2
      have := hx.out
      rw [e1] at this
      exact ⟨d, H, gr, rfl, ISD.out, this.len, by rw [HU.out]; exact this.done HG.out, hw.out, by omega, HB3.out.trans (hp.out.below (fun j hj => by omega) (by have := HG3.out; omega))⟩
    | succ gf =>
      have hkl : k ≤ N := by omega
      have lt0 : (k : Int) ≤ (N : Int) := by omega
      go_wp2_with fail
      go_loopg [11] G.length (fun gj v wx => ∃ i H, v = .int .i64 ((i : Nat) : Int) ∧ Hid (gj + i = G.length) ∧ Hid (HX N G U root k i H) ∧ Hid (RW w.heap.size wx gr H) ∧ Hid (Kp (fun j => j = gr) W3 wx))
      case atStart => exact ⟨0, H, rfl, Lib.hid (by omega), hx, hw, hp⟩
      case round =>
        clear hx hw hp k0 k1
        obtain ⟨i, H, rfl, hi, hx, hw, hp⟩ := hrel
        have hi' := hi.out
        have h3 := (hp.out.block w.heap.size (by have := HG3.out; omega) (by omega)).trans HH3.out
        obtain ⟨k0, k1, _, _⟩ := blk2 h3
        clear h3
        cases gk with
        | zero =>
          have e1 : i = G.length := by omega
          have lt0 : decide ((i : Int) < (G.length : Int)) = false := by simp; omega
          have lt1 : decide (i < G.length) = false := by simp; omega
          go_wp2
          go_roundg gf
          case measure => omega
          case rel => exact ⟨k + 1, H, by go_num, Lib.hid (by omega), Lib.hid (by have := hx.out; rw [e1] at this; exact this.next), hw, hp⟩
        | succ gj =>
          have hil : i < G.length := by omega
          have lti : (i : Int) < (G.length : Int) := by omega
          have h3s := HG3.out
          have hps := hp.out.size
          have hEx := HE3.out.kp hp.out (fun j hj => by omega)
          obtain ⟨b, off, hA, hbB, hbs, e0, e1, e2⟩ := hEx.nedge hil
          have xf := HG.out.f i hil
          have xt := HG.out.t i hil
          have hUi := hUT.out i hil
          have hTi := HT3.out.kp hp.out (by omega)
          have hHl := hx.out.len
          obtain ⟨x, hxx⟩ : ∃ x, gn G i = x := ⟨_, rfl⟩
          rw [hxx] at e0 e1 e2 xf xt hUi
          subst hA
          obtain ⟨W4, hW4⟩ : ∃ W4, wr.alloc (.cells #[.int .i64 (x.f : Int), .int .i64 (x.t : Int), .int .i64 (x.c : Int)] 50) = W4 := ⟨_, rfl⟩
          have hs4 : W4.heap.size = wr.heap.size + 1 := by rw [← hW4]; simp
          have b4 : Below wr.heap.size wr W4 := by rw [← hW4]; exact below_alloc1 _ _
          have h4 : W4.heap[wr.heap.size]? = some (.cells #[.int .i64 (x.f : Int), .int .i64 (x.t : Int), .int .i64 (x.c : Int)] 50 (0, 0)) := by rw [← hW4]; exact Go.heap_alloc_new _ _
          have f0 := (cell_of_row _ _ 0 _ _ _ h4)
          have f1 := (cell_of_row _ _ 1 _ _ _ h4)
          simp only [List.getElem?_toArray, List.getElem?_cons_zero, List.getElem?_cons_succ] at f0 f1
          have hT4 := hTi.below' b4
          have ct4 : W4.cell? ⟨gt, i, none⟩ = some (.bool (ub T i)) := by
            have hlt : i < T.length := by rw [hTl.out]; exact hil
            have := hT4.bool_cell hlt
            rwa [ub, List.getD, List.getElem?_eq_getElem hlt]
          have hw4 := hw.out.below' b4
          have hp4 := hp.out.then_below b4 (Nat.le_refl _)
          have hfi : (x.f : Int) < (N : Int) := by omega
          have hti : (x.t : Int) < (N : Int) := by omega
          have hgw := hw.out.lt
          have HX4 := Lib.hid hxx
          have HW4 := Lib.hid hw4
          have HP4 := Lib.hid hp4
          have H4 := Lib.hid h4
          have HHl := Lib.hid hHl
          obtain ⟨xb, hxb⟩ : ∃ xb, wr.heap.size = xb := ⟨_, rfl⟩
          have xgr : gr < xb := by omega
          clear hEx hTi hT4 hxx hw4 hp4 h4 b4 hw hp h3s hps hHl
          rw [hxb] at f0 f1 H4 hs4
          cases ht : ub T i with
          | false =>
            rw [ht] at ct4 hUi
            have hUf : ub U i = false := by rw [hUi]; rfl
            have HUF := Lib.hid hUf
            clear hUi hUf
            go_wp2_with fail
            go_roundg gj
            case measure => omega
            case rel => exact ⟨i + 1, H, by go_num, Lib.hid (by omega), Lib.hid (hx.out.skip HUF.out), HW4, HP4⟩
          | true =>
            rw [ht] at ct4 hUi
            by_cases hq : x.t = root
            · have q1 : ((x.t : Int) == (root : Int)) = true := by simp; omega
              have q2 : (x.t == root) = true := by simpa using hq
              have q3 : decide (x.t = root) = true := by simpa using hq
              have hUf : ub U i = false := by rw [hUi]; simp [hq]
              have HUF := Lib.hid hUf
              clear hUi hUf hq
              go_wp2_with fail
              go_roundg gj
              case measure => omega
              case rel => exact ⟨i + 1, H, by go_num, Lib.hid (by omega), Lib.hid (hx.out.skip HUF.out), HW4, HP4⟩
            · have q1 : ((x.t : Int) == (root : Int)) = false := by simp; omega
              have q2 : (x.t == root) = false := by simpa using hq
              have q3 : decide (x.t = root) = false := by simpa using hq
              have hUt : ub U i = true := by rw [hUi]; simp [hq]
              have HUT2 := Lib.hid hUt
              have HQ := Lib.hid hq
              clear hUi hUt hq
              by_cases hf : x.f = root
              · have p1 : ((x.f : Int) == (root : Int)) = true := by simp; omega
                have p2 : (x.f == root) = true := by simpa using hf
                have p3 : decide (x.f = root) = true := by simpa using hf
                have HF := Lib.hid hf
                clear hf
                obtain ⟨A5, c5, z1, z2⟩ := HW4.out.at_ (u := x.t) (by rw [HHl.out]; exact xt)
                have hsm := hx.out.small HG.out x.t
                obtain ⟨l5, hl5⟩ : ∃ l5, gl H x.t = l5 := ⟨_, rfl⟩
                rw [hl5] at z1 z2 hsm
                have it := into_any A5 c5 l5 i W4.heap.size W4.drew (z2.more (fun j _ hl => hl)) (Nat.le_refl _) (by omega)
                have Sof : Hid (∀ V : World, V.heap[xb]? = W4.heap[xb]? → V.cell? ⟨xb, 0, none⟩ = some (.int .i64 (x.f : Int)) ∧ V.cell? ⟨xb, 1, none⟩ = some (.int .i64 (x.t : Int))) := Lib.hid (fun V hV => ⟨(World.cell?_of_block hV).trans f0, (World.cell?_of_block hV).trans f1⟩)
                have HL5 := Lib.hid hl5
                have Z2 := Lib.hid z2
                clear hl5 z2
                go_wp2_with fail
                refine wp_region_held_drew (S := fun V => V.cell? ⟨xb, 0, none⟩ = some (.int .i64 (x.f : Int)) ∧ V.cell? ⟨xb, 1, none⟩ = some (.int .i64 (x.t : Int))) (by kernel_rfl) (Sof.out _ rfl) (fun hHeld => ?_)
                refine wpAnyH_take (i := 0) (v := ?_) rfl (by kernel_rfl) (by kernel_rfl) (by kernel_rfl) (fun _ _ _ h => h) (Or.inl ⟨by rfl, ?_⟩) (by assumption) ?_
                rotate_left
                · (intro w' hSw; (try dsimp only at hSw); go_simp; try with_reducible rfl)
                simp only [Act.put, List.getElem_toArray, List.getElem_cons_zero, List.setIfInBounds_toArray, List.set_cons_zero, List.set_cons_succ]
                refine wpAnyH_take (i := 1) (v := ?_) rfl (by kernel_rfl) (by kernel_rfl) (by kernel_rfl) (fun _ _ _ h => h) (Or.inl ⟨by rfl, ?_⟩) (by assumption) ?_
                rotate_left
                · (intro w' hSw; (try dsimp only at hSw); go_simp; try with_reducible rfl)
                simp only [Act.put, List.getElem_toArray, List.getElem_cons_zero, List.getElem_cons_succ, List.setIfInBounds_toArray, List.set_cons_zero, List.set_cons_succ]
                refine wpAnyH_take (i := 2) (v := ?_) rfl (by kernel_rfl) (by kernel_rfl) (by kernel_rfl) (fun _ _ _ h => h) (Or.inl ⟨by rfl, ?_⟩) (by assumption) ?_
                rotate_left
                · (intro w' hSw; (try dsimp only at hSw); go_simp; try with_reducible rfl)
                simp only [Act.put, List.getElem_toArray, List.getElem_cons_zero, List.getElem_cons_succ, List.setIfInBounds_toArray, List.set_cons_zero, List.set_cons_succ]
                refine wpAnyH_take (i := 3) (v := ?_) rfl (by kernel_rfl) (by kernel_rfl) (by kernel_rfl) (fun _ _ _ h => h) (Or.inl ⟨by rfl, ?_⟩) (by assumption) ?_
                rotate_left
                · (intro w' hSw; (try dsimp only at hSw); go_simp; try with_reducible rfl)
                simp only [Act.put, List.getElem_toArray, List.getElem_cons_zero, List.getElem_cons_succ, List.setIfInBounds_toArray, List.set_cons_zero, List.set_cons_succ]
                refine wpAnyH_take (i := 4) (v := ?_) rfl (by kernel_rfl) (by kernel_rfl) (by kernel_rfl) (fun _ _ _ h => h) (Or.inl ⟨by rfl, ?_⟩) (by assumption) ?_
                rotate_left
                · (intro w' hSw; (try dsimp only at hSw); go_simp; try with_reducible rfl)
                simp only [Act.put, List.getElem_toArray, List.getElem_cons_zero, List.getElem_cons_succ, List.setIfInBounds_toArray, List.set_cons_zero, List.set_cons_succ]
                refine wpAnyH_take (i := 5) (v := ?_) rfl (by kernel_rfl) (by kernel_rfl) (by kernel_rfl) (fun _ _ _ h => h) (Or.inl ⟨by rfl, ?_⟩) (by assumption) ?_
                rotate_left
                · (intro w' hSw; (try dsimp only at hSw); go_simp; try with_reducible rfl)
                simp only [Act.put, List.getElem_toArray, List.getElem_cons_zero, List.getElem_cons_succ, List.setIfInBounds_toArray, List.set_cons_zero, List.set_cons_succ]
                refine wpAnyH_take (i := 6) (v := ?_) rfl (by kernel_rfl) (by kernel_rfl) (by kernel_rfl) (fun _ _ _ h => h) (Or.inl ⟨by rfl, ?_⟩) (by assumption) ?_
                rotate_left
                · (intro w' hSw; (try dsimp only at hSw); go_simp; try with_reducible rfl)
                simp only [Act.put, List.getElem_toArray, List.getElem_cons_zero, List.getElem_cons_succ, List.setIfInBounds_toArray, List.set_cons_zero, List.set_cons_succ]
                refine wpAnyH_take (i := 8) (v := ?_) rfl (by kernel_rfl) (by kernel_rfl) (by kernel_rfl) (fun _ _ _ h => h) (Or.inl ⟨by rfl, ?_⟩) (by assumption) ?_
                rotate_left
                · (intro w' hSw; (try dsimp only at hSw); go_simp; try with_reducible rfl)
                simp only [Act.put, List.getElem_toArray, List.getElem_cons_zero, List.getElem_cons_succ, List.setIfInBounds_toArray, List.set_cons_zero, List.set_cons_succ]
                refine wpAnyH_ready (rs := [7]) (by kernel_rfl) (by simp) ?_
                refine AllReadyH.cons rfl (fun K hK => ?_) AllReadyH.nil
                go_simp
                refine hK.out _ _ (Sof.out _ rfl) (fun _ => ?_)
                clear hK K
                refine wpAnyH_ready (rs := [9]) (by kernel_rfl) (by simp) ?_
                refine AllReadyH.cons rfl (fun K hK => ?_) AllReadyH.nil
                go_simp
                go_at_call 36
                refine it.mono ?_
                intro e V1 hin
                obtain ⟨A6, c6, rfl, b6, r6⟩ := hin.row (lo := w.heap.size) (gr := gr) Z2.out (show w.heap.size ≤ W4.heap.size by omega) (show gr < W4.heap.size by omega)
                have b6' : Below W4.heap.size W4 V1 := ⟨b6.os, b6.tape, b6.output, b6.size, b6.block⟩
                have w6 := HW4.out.below' b6'
                obtain ⟨A7, c7, y1, _⟩ := w6.at_ (u := x.t) (by rw [HHl.out]; exact xt)
                have y2 := w6.frozen x.t
                have w7 := w6.set (u := x.t) (by rw [HHl.out]; exact xt) A6 c6 _ r6
                have k7 : Kp (fun j => j = gr) W4 (V1.setCell ⟨gr, x.t, none⟩ (.slice A6 (into l5 i).length c6)) := (Kp.of_below b6' (Nat.le_refl _)).then_set _ _ rfl
                have W7 := Lib.hid w7
                have K7 := Lib.hid (HP4.out.trans k7 (fun j hj => .inl hj))
                have e6 := b6'.block xb (by omega)
                have e7 := k7.block xb (by omega) (by omega)
                have S6 := Lib.hid (Sof.out V1 e6)
                have S7 := Lib.hid (Sof.out _ e7)
                refine hK.out _ _ S6.out (fun _ => ?_)
                clear hK K it hin b6 b6' r6 w6 w7 k7 e6 e7 z1
                refine wpAnyH_take (i := 10) (v := ?_) rfl (by kernel_rfl) (by kernel_rfl) (by kernel_rfl) (fun _ _ _ h => h) (Or.inl ⟨by rfl, ?_⟩) (by assumption) ?_
                rotate_left
                · (intro w' hSw; (try dsimp only at hSw); go_simp; try with_reducible rfl)
                simp only [Act.put, List.getElem_toArray, List.getElem_cons_zero, List.getElem_cons_succ, List.setIfInBounds_toArray, List.set_cons_zero, List.set_cons_succ]
                refine wpAnyH_ready (rs := [11]) (by kernel_rfl) (by simp) ?_
                refine AllReadyH.cons rfl (fun K hK => ?_) AllReadyH.nil
                go_simp
                refine hK.out _ _ S7.out (fun _ => ?_)
                clear hK K
                refine wpAnyH_done (by kernel_rfl) ?_ _
                clear y1 y2 f0 f1 ct4
                go_wp2
                go_roundg gj
                case measure => omega
                case rel =>
                  refine ⟨i + 1, H.set x.t (into l5 i), by go_num, Lib.hid (by omega), Lib.hid ?_, W7, K7⟩
                  have := hx.out.first HG.out hil HUT2.out (by rw [HX4.out]; exact HF.out) hUR.out
                  rwa [HX4.out, HL5.out] at this
              · have p1 : ((x.f : Int) == (root : Int)) = false := by simp; omega
                have p2 : (x.f == root) = false := by simpa using hf
                have p3 : decide (x.f = root) = false := by simpa using hf
                have HF := Lib.hid hf
                clear hf
                have hxt : x.t < H.length := by rw [HHl.out]; exact xt
                have hxf : x.f < H.length := by rw [HHl.out]; exact xf
                have hst0 : RW w.heap.size W4 gr (H.set x.t (intoL (gl H x.t) ((gl H x.f).take 0))) := by
                  rw [List.take_zero, show intoL (gl H x.t) [] = gl H x.t from rfl, set_gl hxt]
                  exact HW4.out
                have hsmP := hx.out.small HG.out x.f
                have hsm2 : Hid (∀ m, (intoL (gl H x.t) ((gl H x.f).take m)).length ≤ 400) := Lib.hid (fun m => hx.out.small2 HG.out x.t x.f m)
                have hgh : Hid (∀ m, gl (H.set x.t (intoL (gl H x.t) ((gl H x.f).take m))) x.f = gl H x.f) := Lib.hid (fun m => gl_hand hxt m)
                have hgt : Hid (∀ r, gl (H.set x.t r) x.t = r) := Lib.hid (fun r => by rw [gl_set _ _ _ _ hxt, if_pos rfl])
                have HXN : Hid (HX N G U root k (i + 1) (H.set x.t (intoL (gl H x.t) (gl H x.f)))) := Lib.hid (by
                  have := hx.out.hand HG.out hil HUT2.out (by rw [HX4.out]; exact HF.out)
                  rwa [HX4.out] at this)
                obtain ⟨P, hP⟩ : ∃ P, gl H x.f = P := ⟨_, rfl⟩
                obtain ⟨Q, hQ⟩ : ∃ Q, gl H x.t = Q := ⟨_, rfl⟩
                rw [hP, hQ] at hst0 hsm2 hgh HXN
                rw [hP] at hsmP
                have HS0 := Lib.hid hst0
                have HXT := Lib.hid hxt
                have HXF := Lib.hid hxf
                have H4' : Hid (∀ V : World, Kp (fun j => j = gr) W4 V → V.cell? ⟨xb, 0, none⟩ = some (.int .i64 (x.f : Int)) ∧ V.cell? ⟨xb, 1, none⟩ = some (.int .i64 (x.t : Int))) := Lib.hid (fun V hV => by
                  have e := hV.block xb (by omega) (by omega)
                  exact ⟨(World.cell?_of_block e).trans f0, (World.cell?_of_block e).trans f1⟩)
                clear hst0 hP hQ hxt hxf
                go_wp2_with fail
                clear f0 f1 ct4 e0 e1 e2 k0 k1
                go_loopg [13] P.length (fun gq v wx => ∃ j, v = .int .i64 ((j : Nat) : Int) ∧ Hid (gq + j = P.length) ∧ Hid (RW w.heap.size wx gr (H.set x.t (intoL Q (P.take j)))) ∧ Hid (Kp (fun j => j = gr) W4 wx))
                case atStart => exact ⟨0, rfl, Lib.hid (by omega), HS0, Lib.hid (Kp.refl _ _)⟩
                case round =>
                  clear HS0 HW4
                  obtain ⟨j, rfl, hj, hw, hp⟩ := hrel
                  have hj' := hj.out
                  have hps := hp.out.size
                  obtain ⟨f0, f1⟩ := H4'.out _ hp.out
                  obtain ⟨Af, cf, z1, z2⟩ := hw.out.at_ (u := x.f) (by rw [List.length_set]; exact HXF.out)
                  rw [hgh.out] at z1 z2
                  cases gk with
                  | zero =>
                    have e1 : j = P.length := by omega
                    have lt0 : decide ((j : Int) < (P.length : Int)) = false := by simp; omega
                    have lt1 : decide (j < P.length) = false := by simp; omega
                    have W7 := hw.out
                    rw [e1, List.take_length] at W7
                    have HW7 := Lib.hid W7
                    clear W7 z2 e1
                    go_wp2
                    go_roundg gj
                    case measure => omega
                    case rel => exact ⟨i + 1, _, by go_num, Lib.hid (by omega), HXN, HW7, Lib.hid (HP4.out.trans hp.out (fun j hj => .inl hj))⟩
                  | succ gq =>
                    have hjl : j < P.length := by omega
                    have ltj : (j : Int) < (P.length : Int) := by omega
                    obtain ⟨bf, of, hAf, ⟨_, hbf⟩, hbl, za⟩ := z2.nat_at2 hjl
                    obtain ⟨a, ha⟩ : ∃ a, gw P j = a := ⟨_, rfl⟩
                    rw [ha] at za
                    have hPj : P.take (j + 1) = P.take j ++ [a] := by rw [List.take_succ_eq_append_getElem hjl, ← gw_eq hjl, ha]
                    subst hAf
                    obtain ⟨At, ct', y1, y2⟩ := hw.out.at_ (u := x.t) (by rw [List.length_set]; exact HXT.out)
                    rw [hgt.out] at y1 y2
                    have hsm := hsm2.out j
                    have hset : (H.set x.t (intoL Q (P.take j))).set x.t (into (intoL Q (P.take j)) a) = H.set x.t (intoL Q (P.take (j + 1))) := by rw [List.set_set, hPj, intoL_snoc]
                    obtain ⟨l5, hl5⟩ : ∃ l5, intoL Q (P.take j) = l5 := ⟨_, rfl⟩
                    rw [hl5] at y1 y2 hsm hset
                    have it := into_any At ct' l5 a wr.heap.size wr.drew (y2.more (fun j _ hl => hl)) (Nat.le_refl _) (by omega)
                    have Sof : Hid (∀ V : World, V.heap[xb]? = wr.heap[xb]? → V.heap[bf]? = wr.heap[bf]? → (V.cell? ⟨xb, 0, none⟩ = some (.int .i64 (x.f : Int)) ∧ V.cell? ⟨xb, 1, none⟩ = some (.int .i64 (x.t : Int))) ∧ V.cell? ⟨bf, of + j, none⟩ = some (.int .i64 (a : Int))) := Lib.hid (fun V hV hV2 => ⟨⟨(World.cell?_of_block hV).trans f0, (World.cell?_of_block hV).trans f1⟩, (World.cell?_of_block hV2).trans za⟩)
                    have HL5 := Lib.hid hl5
                    have Y2 := Lib.hid y2
                    have HSET := Lib.hid hset
                    clear hl5 y2 z2 hset hPj ha
                    go_wp2_with fail
                    refine wp_region_held_drew (S := fun V => (V.cell? ⟨xb, 0, none⟩ = some (.int .i64 (x.f : Int)) ∧ V.cell? ⟨xb, 1, none⟩ = some (.int .i64 (x.t : Int))) ∧ V.cell? ⟨bf, of + j, none⟩ = some (.int .i64 (a : Int))) (by kernel_rfl) (Sof.out _ rfl rfl) (fun hHeld => ?_)
                    refine wpAnyH_take (i := 0) (v := ?_) rfl (by kernel_rfl) (by kernel_rfl) (by kernel_rfl) (fun _ _ _ h => h) (Or.inl ⟨by rfl, ?_⟩) (by assumption) ?_
                    rotate_left
                    · (intro w' hSw; (try dsimp only at hSw); go_simp; try with_reducible rfl)
                    simp only [Act.put, List.getElem_toArray, List.getElem_cons_zero, List.setIfInBounds_toArray, List.set_cons_zero, List.set_cons_succ]
                    refine wpAnyH_take (i := 1) (v := ?_) rfl (by kernel_rfl) (by kernel_rfl) (by kernel_rfl) (fun _ _ _ h => h) (Or.inl ⟨by rfl, ?_⟩) (by assumption) ?_
                    rotate_left
                    · (intro w' hSw; (try dsimp only at hSw); go_simp; try with_reducible rfl)
                    simp only [Act.put, List.getElem_toArray, List.getElem_cons_zero, List.getElem_cons_succ, List.setIfInBounds_toArray, List.set_cons_zero, List.set_cons_succ]
                    refine wpAnyH_take (i := 2) (v := ?_) rfl (by kernel_rfl) (by kernel_rfl) (by kernel_rfl) (fun _ _ _ h => h) (Or.inl ⟨by rfl, ?_⟩) (by assumption) ?_
                    rotate_left
                    · (intro w' hSw; (try dsimp only at hSw); go_simp; try with_reducible rfl)
                    simp only [Act.put, List.getElem_toArray, List.getElem_cons_zero, List.getElem_cons_succ, List.setIfInBounds_toArray, List.set_cons_zero, List.set_cons_succ]
                    refine wpAnyH_take (i := 3) (v := ?_) rfl (by kernel_rfl) (by kernel_rfl) (by kernel_rfl) (fun _ _ _ h => h) (Or.inl ⟨by rfl, ?_⟩) (by assumption) ?_
                    rotate_left
                    · (intro w' hSw; (try dsimp only at hSw); go_simp; try with_reducible rfl)
                    simp only [Act.put, List.getElem_toArray, List.getElem_cons_zero, List.getElem_cons_succ, List.setIfInBounds_toArray, List.set_cons_zero, List.set_cons_succ]
                    refine wpAnyH_take (i := 4) (v := ?_) rfl (by kernel_rfl) (by kernel_rfl) (by kernel_rfl) (fun _ _ _ h => h) (Or.inl ⟨by rfl, ?_⟩) (by assumption) ?_
                    rotate_left
                    · (intro w' hSw; (try dsimp only at hSw); go_simp; try with_reducible rfl)
                    simp only [Act.put, List.getElem_toArray, List.getElem_cons_zero, List.getElem_cons_succ, List.setIfInBounds_toArray, List.set_cons_zero, List.set_cons_succ]
                    refine wpAnyH_take (i := 5) (v := ?_) rfl (by kernel_rfl) (by kernel_rfl) (by kernel_rfl) (fun _ _ _ h => h) (Or.inl ⟨by rfl, ?_⟩) (by assumption) ?_
                    rotate_left
                    · (intro w' hSw; (try dsimp only at hSw); go_simp; try with_reducible rfl)
                    simp only [Act.put, List.getElem_toArray, List.getElem_cons_zero, List.getElem_cons_succ, List.setIfInBounds_toArray, List.set_cons_zero, List.set_cons_succ]
                    refine wpAnyH_take (i := 6) (v := ?_) rfl (by kernel_rfl) (by kernel_rfl) (by kernel_rfl) (fun _ _ _ h => h) (Or.inl ⟨by rfl, ?_⟩) (by assumption) ?_
                    rotate_left
                    · (intro w' hSw; (try dsimp only at hSw); go_simp; try with_reducible rfl)
                    simp only [Act.put, List.getElem_toArray, List.getElem_cons_zero, List.getElem_cons_succ, List.setIfInBounds_toArray, List.set_cons_zero, List.set_cons_succ]
                    refine wpAnyH_take (i := 8) (v := ?_) rfl (by kernel_rfl) (by kernel_rfl) (by kernel_rfl) (fun _ _ _ h => h) (Or.inl ⟨by rfl, ?_⟩) (by assumption) ?_
                    rotate_left
                    · (intro w' hSw; (try dsimp only at hSw); go_simp; try with_reducible rfl)
                    simp only [Act.put, List.getElem_toArray, List.getElem_cons_zero, List.getElem_cons_succ, List.setIfInBounds_toArray, List.set_cons_zero, List.set_cons_succ]
                    refine wpAnyH_take (i := 9) (v := ?_) rfl (by kernel_rfl) (by kernel_rfl) (by kernel_rfl) (fun _ _ _ h => h) (Or.inl ⟨by rfl, ?_⟩) (by assumption) ?_
                    rotate_left
                    · (intro w' hSw; (try dsimp only at hSw); go_simp; try with_reducible rfl)
                    simp only [Act.put, List.getElem_toArray, List.getElem_cons_zero, List.getElem_cons_succ, List.setIfInBounds_toArray, List.set_cons_zero, List.set_cons_succ]
                    refine wpAnyH_take (i := 10) (v := ?_) rfl (by kernel_rfl) (by kernel_rfl) (by kernel_rfl) (fun _ _ _ h => h) (Or.inl ⟨by rfl, ?_⟩) (by assumption) ?_
                    rotate_left
                    · (intro w' hSw; (try dsimp only at hSw); go_simp; try with_reducible rfl)
                    simp only [Act.put, List.getElem_toArray, List.getElem_cons_zero, List.getElem_cons_succ, List.setIfInBounds_toArray, List.set_cons_zero, List.set_cons_succ]
                    refine wpAnyH_take (i := 11) (v := ?_) rfl (by kernel_rfl) (by kernel_rfl) (by kernel_rfl) (fun _ _ _ h => h) (Or.inl ⟨by rfl, ?_⟩) (by assumption) ?_
                    rotate_left
                    · (intro w' hSw; (try dsimp only at hSw); go_simp; try with_reducible rfl)
                    simp only [Act.put, List.getElem_toArray, List.getElem_cons_zero, List.getElem_cons_succ, List.setIfInBounds_toArray, List.set_cons_zero, List.set_cons_succ]
                    refine wpAnyH_take (i := 13) (v := ?_) rfl (by kernel_rfl) (by kernel_rfl) (by kernel_rfl) (fun _ _ _ h => h) (Or.inl ⟨by rfl, ?_⟩) (by assumption) ?_
                    rotate_left
                    · (intro w' hSw; (try dsimp only at hSw); go_simp; try with_reducible rfl)
                    simp only [Act.put, List.getElem_toArray, List.getElem_cons_zero, List.getElem_cons_succ, List.setIfInBounds_toArray, List.set_cons_zero, List.set_cons_succ]
                    refine wpAnyH_ready (rs := [7, 12]) (by kernel_rfl) (by simp) ?_
                    refine AllReadyH.cons rfl (fun K hK => ?_) (AllReadyH.cons rfl (fun K hK => ?_) AllReadyH.nil)
                    · go_simp
                      refine hK.out _ _ (Sof.out _ rfl rfl) (fun _ => ?_)
                      clear hK K
                      refine wpAnyH_ready (rs := [12]) (by kernel_rfl) (by simp) ?_
                      refine AllReadyH.cons rfl (fun K hK => ?_) AllReadyH.nil
                      go_simp
                      refine hK.out _ _ (Sof.out _ rfl rfl) (fun _ => ?_)
                      clear hK K
                      refine wpAnyH_take (i := 14) (v := ?_) rfl (by kernel_rfl) (by kernel_rfl) (by kernel_rfl) (fun _ _ _ h => h) (Or.inl ⟨by rfl, ?_⟩) (by assumption) ?_
                      rotate_left
                      · (intro w' hSw; (try dsimp only at hSw); go_simp; try with_reducible rfl)
                      simp only [Act.put, List.getElem_toArray, List.getElem_cons_zero, List.getElem_cons_succ, List.setIfInBounds_toArray, List.set_cons_zero, List.set_cons_succ]
                      refine wpAnyH_take (i := 15) (v := ?_) rfl (by kernel_rfl) (by kernel_rfl) (by kernel_rfl) (fun _ _ _ h => h) (Or.inl ⟨by rfl, ?_⟩) (by assumption) ?_
                      rotate_left
                      · (intro w' hSw; (try dsimp only at hSw); go_simp; try with_reducible rfl)
                      simp only [Act.put, List.getElem_toArray, List.getElem_cons_zero, List.getElem_cons_succ, List.setIfInBounds_toArray, List.set_cons_zero, List.set_cons_succ]
                      refine wpAnyH_ready (rs := [16]) (by kernel_rfl) (by simp) ?_
                      refine AllReadyH.cons rfl (fun K hK => ?_) AllReadyH.nil
                      go_simp
                      go_at_call 36
                      refine it.mono ?_
                      intro e V1 hin
                      obtain ⟨A6, c6, rfl, b6, r6⟩ := hin.row (lo := w.heap.size) (gr := gr) Y2.out (show w.heap.size ≤ wr.heap.size by omega) (show gr < wr.heap.size by omega)
                      have b6' : Below wr.heap.size wr V1 := ⟨b6.os, b6.tape, b6.output, b6.size, b6.block⟩
                      have w6 := hw.out.below' b6'
                      have hlt6 : x.t < (H.set x.t (intoL Q (P.take j))).length := by rw [List.length_set]; exact HXT.out
                      obtain ⟨A7, c7, v1, _⟩ := w6.at_ (u := x.t) hlt6
                      have v2 := w6.frozen x.t
                      have w7 := w6.set (u := x.t) hlt6 A6 c6 _ r6
                      rw [HL5.out, HSET.out] at w7
                      have k7 : Kp (fun j => j = gr) wr (V1.setCell ⟨gr, x.t, none⟩ (.slice A6 (into l5 a).length c6)) := (Kp.of_below b6' (Nat.le_refl _)).then_set _ _ rfl
                      have W7 := Lib.hid w7
                      have K7 := Lib.hid (hp.out.trans k7 (fun j hj => .inl hj))
                      have S6 := Lib.hid (Sof.out V1 (b6'.block xb (by omega)) (b6'.block bf hbl))
                      have S7 := Lib.hid (Sof.out _ (k7.block xb (by omega) (by omega)) (k7.block bf hbl hbf))
                      refine hK.out _ _ S6.out (fun _ => ?_)
                      clear hK K it hin b6 b6' r6 w6 w7 k7 z1 y1 hlt6
                      refine wpAnyH_take (i := 17) (v := ?_) rfl (by kernel_rfl) (by kernel_rfl) (by kernel_rfl) (fun _ _ _ h => h) (Or.inl ⟨by rfl, ?_⟩) (by assumption) ?_
                      rotate_left
                      · (intro w' hSw; (try dsimp only at hSw); go_simp; try with_reducible rfl)
                      simp only [Act.put, List.getElem_toArray, List.getElem_cons_zero, List.getElem_cons_succ, List.setIfInBounds_toArray, List.set_cons_zero, List.set_cons_succ]
                      refine wpAnyH_ready (rs := [18]) (by kernel_rfl) (by simp) ?_
                      refine AllReadyH.cons rfl (fun K hK => ?_) AllReadyH.nil
                      go_simp
                      refine hK.out _ _ S7.out (fun _ => ?_)
                      clear hK K
                      refine wpAnyH_done (by kernel_rfl) ?_ _
                      clear v1 v2 f0 f1 za
                      go_wp2
                      go_roundg gq
                      case measure => omega
                      case rel => exact ⟨j + 1, by go_num, Lib.hid (by omega), W7, K7⟩
                    · go_simp
                      refine hK.out _ _ (Sof.out _ rfl rfl) (fun _ => ?_)
                      clear hK K
                      refine wpAnyH_take (i := 14) (v := ?_) rfl (by kernel_rfl) (by kernel_rfl) (by kernel_rfl) (fun _ _ _ h => h) (Or.inl ⟨by rfl, ?_⟩) (by assumption) ?_
                      rotate_left
                      · (intro w' hSw; (try dsimp only at hSw); go_simp; try with_reducible rfl)
                      simp only [Act.put, List.getElem_toArray, List.getElem_cons_zero, List.getElem_cons_succ, List.setIfInBounds_toArray, List.set_cons_zero, List.set_cons_succ]
                      refine wpAnyH_take (i := 15) (v := ?_) rfl (by kernel_rfl) (by kernel_rfl) (by kernel_rfl) (fun _ _ _ h => h) (Or.inl ⟨by rfl, ?_⟩) (by assumption) ?_
                      rotate_left
                      · (intro w' hSw; (try dsimp only at hSw); go_simp; try with_reducible rfl)
                      simp only [Act.put, List.getElem_toArray, List.getElem_cons_zero, List.getElem_cons_succ, List.setIfInBounds_toArray, List.set_cons_zero, List.set_cons_succ]
                      refine wpAnyH_ready (rs := [7]) (by kernel_rfl) (by simp) ?_
                      refine AllReadyH.cons rfl (fun K hK => ?_) AllReadyH.nil
                      go_simp
                      refine hK.out _ _ (Sof.out _ rfl rfl) (fun _ => ?_)
                      clear hK K
                      refine wpAnyH_ready (rs := [16]) (by kernel_rfl) (by simp) ?_
                      refine AllReadyH.cons rfl (fun K hK => ?_) AllReadyH.nil
                      go_simp
                      go_at_call 36
                      refine it.mono ?_
                      intro e V1 hin
                      obtain ⟨A6, c6, rfl, b6, r6⟩ := hin.row (lo := w.heap.size) (gr := gr) Y2.out (show w.heap.size ≤ wr.heap.size by omega) (show gr < wr.heap.size by omega)
                      have b6' : Below wr.heap.size wr V1 := ⟨b6.os, b6.tape, b6.output, b6.size, b6.block⟩
                      have w6 := hw.out.below' b6'
                      have hlt6 : x.t < (H.set x.t (intoL Q (P.take j))).length := by rw [List.length_set]; exact HXT.out
                      obtain ⟨A7, c7, v1, _⟩ := w6.at_ (u := x.t) hlt6
                      have v2 := w6.frozen x.t
                      have w7 := w6.set (u := x.t) hlt6 A6 c6 _ r6
                      rw [HL5.out, HSET.out] at w7
                      have k7 : Kp (fun j => j = gr) wr (V1.setCell ⟨gr, x.t, none⟩ (.slice A6 (into l5 a).length c6)) := (Kp.of_below b6' (Nat.le_refl _)).then_set _ _ rfl
                      have W7 := Lib.hid w7
                      have K7 := Lib.hid (hp.out.trans k7 (fun j hj => .inl hj))
                      have S6 := Lib.hid (Sof.out V1 (b6'.block xb (by omega)) (b6'.block bf hbl))
                      have S7 := Lib.hid (Sof.out _ (k7.block xb (by omega) (by omega)) (k7.block bf hbl hbf))
                      refine hK.out _ _ S6.out (fun _ => ?_)
                      clear hK K it hin b6 b6' r6 w6 w7 k7 z1 y1 hlt6
                      refine wpAnyH_take (i := 17) (v := ?_) rfl (by kernel_rfl) (by kernel_rfl) (by kernel_rfl) (fun _ _ _ h => h) (Or.inl ⟨by rfl, ?_⟩) (by assumption) ?_
                      rotate_left
                      · (intro w' hSw; (try dsimp only at hSw); go_simp; try with_reducible rfl)
                      simp only [Act.put, List.getElem_toArray, List.getElem_cons_zero, List.getElem_cons_succ, List.setIfInBounds_toArray, List.set_cons_zero, List.set_cons_succ]
                      refine wpAnyH_ready (rs := [18]) (by kernel_rfl) (by simp) ?_
                      refine AllReadyH.cons rfl (fun K hK => ?_) AllReadyH.nil
                      go_simp
                      refine hK.out _ _ S7.out (fun _ => ?_)
                      clear hK K
                      refine wpAnyH_done (by kernel_rfl) ?_ _
                      clear v1 v2 f0 f1 za
                      go_wp2
                      go_roundg gq
                      case measure => omega
                      case rel => exact ⟨j + 1, by go_num, Lib.hid (by omega), W7, K7⟩
end Go.Proofs.Ytkpmdfgjaodlaaa
