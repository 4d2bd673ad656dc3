/-
  The contract of Dist. No statement is proved here; no conditions.
-/
import Derived.Test.YtkpmdfgjaodlaaaDist
namespace Go.Proofs.Ytkpmdfgjaodlaaa
open Go.RowKit Go.Joins

set_option maxRecDepth 100000 in
theorem dist_bad (N root : Int) (A : Option Addr) (c : Nat) (E : List Ed) (B : Nat) (w : World) (hE : Rd (· < B) w A (eflat E)) (hB : B ≤ w.heap.size) (hl : E.length ≤ 100000) (hbad : may N E = false ∨ ¬ (0 ≤ root ∧ root < N)) :
    Calls Try.prog 10 #[gv N A E.length c, .int .i64 root] w fun e w' => e = .returned (.tuple #[.slice none 0 0, .int .i64 1]) ∧ Below w.heap.size w w' := by
  have K := box2_at (w := w) (u := .int .i64 N) (v := .slice A E.length c) (t := 24) (B := w.heap.size + 1) (by omega)
  have B0 := below_alloc1 w (.cells #[.int .i64 N, .slice A E.length c] 24)
  obtain ⟨W0, hW0⟩ : ∃ W0, w.alloc (.cells #[.int .i64 N, .slice A E.length c] 24) = W0 := ⟨_, rfl⟩
  have hs0 : W0.heap.size = w.heap.size + 1 := by rw [← hW0]; simp
  rw [hW0] at K B0
  obtain ⟨c0, c1, _, _⟩ := K _ (Below.refl _ _)
  have my := may_any N A c E B W0 (hE.below B0 (fun j hj _ => by omega)) (by omega) hl
  rw [hs0] at my
  have HB0 := Lib.hid B0
  clear hE B0
  cases hm : may N E with
  | false =>
    rw [hm] at my
    go_enter Try.func10, Try.ntmps10
    go_wp2_with fail
    refine my.mono ?_
    rintro e W1 ⟨rfl, b1⟩
    have HB1 := Lib.hid b1
    clear b1 my
    go_wp2
    go_ret2
    exact ⟨rfl, HB0.out.trans (HB1.out.mono (by omega))⟩
  | true =>
    rw [hm] at my
    have hr : decide (0 ≤ root ∧ root < N) = false := by
      rcases hbad with e | e
      · rw [hm] at e; cases e
      · simpa using e
    go_enter Try.func10, Try.ntmps10
    go_wp2_with fail
    refine my.mono ?_
    rintro e W1 ⟨rfl, b1⟩
    obtain ⟨k0, k1, _, _⟩ := K _ b1
    have HB1 := Lib.hid b1
    have am := among_any root N W1
    rw [hr] at am
    clear b1 my
    go_wp2_with fail
    refine am.mono ?_
    rintro e W2 ⟨rfl, rfl⟩
    go_wp2
    go_ret2
    exact ⟨rfl, HB0.out.trans (HB1.out.mono (by omega))⟩

/-- What Dist leaves. -/
def Disted (w : World) (N : Nat) (G : List NE) (root : Nat) (e : Ending) (w' : World) : Prop :=
  ∃ d gd, e = .returned (.tuple #[.slice (some ⟨gd, 0, none⟩) N N, .int .i64 0]) ∧ IsD N G root d ∧ Rg 3 1 w' gd N (nts d) ∧ w.heap.size ≤ gd ∧ Below w.heap.size w w'
theorem may_of {N : Nat} {G : List NE} (hg : GV N G) : may N (G.map NE.ed) = true := by
  have h1 := hg.n1
  have h2 := hg.n2
  have h3 := hg.m
  simp only [may, Bool.and_eq_true, decide_eq_true_eq, List.length_map, List.all_eq_true]
  refine ⟨by omega, fun e he => ?_⟩
  obtain ⟨x, hx, rfl⟩ := List.mem_map.1 he
  obtain ⟨i, hi, rfl⟩ := List.getElem_of_mem hx
  have a1 := hg.f i hi
  have a2 := hg.t i hi
  have a3 := hg.c i hi
  rw [gn_eq hi] at a1 a2 a3
  rw [okE, decide_eq_true_eq]
  show 0 ≤ (G[i].f : Int) ∧ (G[i].f : Int) < (N : Int) ∧ 0 ≤ (G[i].t : Int) ∧ (G[i].t : Int) < (N : Int) ∧ 0 ≤ (G[i].c : Int) ∧ (G[i].c : Int) ≤ 65535
  omega

/-- Between two rounds. -/
def DLoop (N : Nat) (G : List NE) (root : Nat) (A : Option Addr) (c B b0 gd dc lo hi v hb qc : Nat) (w : World) (gf : Nat) (wx : World) : Prop :=
  ∃ d m g P R K, Fix N G A c B b0 gd dc lo hi v hb qc wx ∧ Rg 3 1 wx gd N (nts d) ∧ Hp wx hb g m ∧ hi ≤ g ∧ g ≠ qc ∧ DJ N G root P R K d m ∧ (∀ i, i < G.length → (gn G i).f ∈ P → i ∈ R) ∧ 2 * d.sum + m.length ≤ gf ∧ Below w.heap.size w wx

set_option maxRecDepth 100000 in
set_option maxHeartbeats 1000000 in
theorem dist_any (N root : Nat) (A : Option Addr) (c : Nat) (G : List NE) (B : Nat) (w : World) (hE : Rd (· < B) w A (nflat G)) (hB : B ≤ w.heap.size) (hg : GV N G) (hr : root < N) :
    Calls Try.prog 10 #[gv N A G.length c, .int .i64 (root : Int)] w fun e w' => Disted w N G root e w' := by
  have hn2 := hg.n2
  have hm400 := hg.m
  have K := box2_at (w := w) (u := .int .i64 N) (v := .slice A G.length c) (t := 24) (B := w.heap.size + 1) (by omega)
  have B0 := below_alloc1 w (.cells #[.int .i64 N, .slice A G.length c] 24)
  obtain ⟨W0, hW0⟩ : ∃ W0, w.alloc (.cells #[.int .i64 N, .slice A G.length c] 24) = W0 := ⟨_, rfl⟩
  have hs0 : W0.heap.size = w.heap.size + 1 := by rw [← hW0]; simp
  rw [hW0] at K B0
  obtain ⟨c0, c1, _, _⟩ := K _ (Below.refl _ _)
  have hE0 := hE.below B0 (fun j hj _ => by omega)
  have my := may_any N A c (G.map NE.ed) B W0 hE0 (by omega) (by simp; omega)
  rw [hs0, may_of hg, List.length_map] at my
  have HB0 := Lib.hid B0
  have HE0 := Lib.hid hE0
  have HG := Lib.hid hg
  clear hE B0 hE0
  go_enter Try.func10, Try.ntmps10
  go_wp2_with fail
  refine my.mono ?_
  rintro e W1 ⟨rfl, b1⟩
  obtain ⟨k0, k1, _, _⟩ := K _ b1
  have hs1 := b1.size
  have HB1 := Lib.hid b1
  have am := among_any root N W1
  rw [show decide (0 ≤ (root : Int) ∧ (root : Int) < (N : Int)) = true by simp; omega] at am
  have un := unreached_any N W1 (by omega)
  clear b1 my
  go_wp2_with (first | (go_at_call 26; refine am.mono ?_; rintro e Wq ⟨rfl, hq⟩; have hq' := hq.symm; subst hq'))
  refine un.mono ?_
  rintro e W2 ⟨rfl, r2, b2⟩
  have hs2 := b2.size
  have hlt2 := r2.lt
  obtain ⟨k2, k3, _, _⟩ := K _ (HB1.out.trans (b2.mono (by omega)))
  clear un am
  -- the cell of the distances, and the root's
  obtain ⟨gd, hgd⟩ : ∃ gd, W1.heap.size = gd := ⟨_, rfl⟩
  rw [hgd] at r2 hlt2 hs2 b2 ⊢
  obtain ⟨W3, hW3⟩ : ∃ W3, W2.alloc (.cells #[.slice (some ⟨gd, 0, none⟩) N N] 26) = W3 := ⟨_, rfl⟩
  have b3 : Below W2.heap.size W2 W3 := by rw [← hW3]; exact below_alloc1 _ _
  have hs3 : W3.heap.size = W2.heap.size + 1 := by rw [← hW3]; simp
  have d3 : W3.heap[W2.heap.size]? = some (.cells #[.slice (some ⟨gd, 0, none⟩) N N] 26 (0, 0)) := by rw [← hW3]; exact Go.heap_alloc_new _ _
  have c3 := (one_at d3).1
  have r3 := r2.below' b3
  have f3 := r3.frozen root
  have e3 := r3.nat_cell (u := root) (by simpa using hr)
  have hri : (root : Int) < (N : Int) := by omega
  have b03 : Below (w.heap.size + 1) W0 W3 := (HB1.out.trans (b2.mono (by omega))).trans (b3.mono (by omega))
  obtain ⟨W4, hW4⟩ : ∃ W4, W3.setCell ⟨gd, root, none⟩ (.int .i64 0) = W4 := ⟨_, rfl⟩
  have r4 : Rg 3 1 W4 gd N (nts ((List.replicate N inf).set root 0)) := by rw [← hW4]; exact r3.nat_set root 0
  have q4 : Kp (fun j => j = gd) W3 W4 := by rw [← hW4]; exact Kp.setCell W3 _ _ rfl
  have hs4 : W4.heap.size = W2.heap.size + 1 := by rw [← hW4]; simpa [World.setCell] using hs3
  have b04 : Below (w.heap.size + 1) W0 W4 := by rw [← hW4]; exact b03.setCell (show w.heap.size + 1 ≤ (⟨gd, root, none⟩ : Addr).block by simp; omega) _
  obtain ⟨k4, k5, _, _⟩ := K _ b04
  have vis := visitor_any N A c G B W4 ((HE0.out.below b04 (fun j hj _ => by omega))) (by omega) HG.out
  have d4 : W4.heap[W2.heap.size]? = some (.cells #[.slice (some ⟨gd, 0, none⟩) N N] 26 (0, 0)) := (q4.block _ (by omega) (by omega)).trans d3
  have HR4 := Lib.hid r4
  have HB04 := Lib.hid b04
  have HD4 := Lib.hid d4
  clear r4 b04 d3 d4 q4 r3 b3 b2 r2 b03
  go_wp2_with fail
  refine vis.mono ?_
  rintro e W5 ⟨v, rfl, v5, b5⟩
  have hs5 := b5.size
  clear vis c3 f3 e3 k0 k1 k2 k3 k4 k5 c0 c1
  -- the queue
  obtain ⟨W6, hW6⟩ : ∃ W6, W5.alloc (.cells #[.int .u64 0, .int .i64 (root : Int)] 60) = W6 := ⟨_, rfl⟩
  have hs6 : W6.heap.size = W5.heap.size + 1 := by rw [← hW6]; simp
  have b6 : Below W5.heap.size W5 W6 := by rw [← hW6]; exact below_alloc1 _ _
  have rw6 : Rw 60 W6 W5.heap.size 1 [itm 0 root] := by rw [← hW6]; exact Rw.lit W5 60 [itm 0 root] _ rfl (by unfold maxLen; simp)
  have nw := new_any _ _ 1 [itm 0 root] W6 rw6.bs (by simp)
  have hsrt : srt [itm 0 root] = [itm 0 root] := rfl
  rw [hsrt, hs6] at nw
  have HB6 := Lib.hid (b5.trans (b6.mono hs5))
  have HV5 := Lib.hid (v5.below' b6)
  clear b5 b6 v5 rw6 hsrt
  go_wp2_with fail
  refine nw.mono ?_
  rintro e W7 ⟨rfl, g0, n1, n2, n3⟩
  rw [hs6] at n1 n2 n3
  have hs7 := n3.size
  have hg0 := n1.glt
  have hhb := n1.lt
  clear nw
  obtain ⟨W8, hW8⟩ : ∃ W8, W7.alloc (.cells #[.pointer (some ⟨W5.heap.size + 1, 0, none⟩)] 56) = W8 := ⟨_, rfl⟩
  have hs8 : W8.heap.size = W7.heap.size + 1 := by rw [← hW8]; simp
  have b8 : Below W7.heap.size W7 W8 := by rw [← hW8]; exact below_alloc1 _ _
  have q8 : W8.heap[W7.heap.size]? = some (.cells #[.pointer (some ⟨W5.heap.size + 1, 0, none⟩)] 56 (0, 0)) := by rw [← hW8]; exact Go.heap_alloc_new _ _
  have h8 := n1.below b8 (Nat.le_refl _)
  have b48 : Below W4.heap.size W4 W8 := (HB6.out.trans (n3.mono (by omega))).trans (b8.mono (by omega))
  have b68 : Below W6.heap.size W6 W8 := (n3.mono (by omega)).trans (b8.mono (by omega))
  have b08 : Below (w.heap.size + 1) W0 W8 := HB04.out.trans (b48.mono (by omega))
  obtain ⟨x0, x1, _, _⟩ := K _ b08
  have FX : Fix N G A c B w.heap.size gd W2.heap.size W4.heap.size W5.heap.size v (W5.heap.size + 1) W7.heap.size W8 :=
    ⟨x0, x1, (one_at ((b48.block _ (by omega)).trans HD4.out)).1, (one_at q8).1, HV5.out.below' b68, HE0.out.below b08 (fun j hj _ => by omega), by omega, by omega, by omega, hB, by omega, by omega, by omega, by omega, by omega⟩
  have R8 := (HR4.out.below' b48)
  have HFX := Lib.hid FX
  have HR8 := Lib.hid R8
  have HH8 := Lib.hid h8
  have HB8 := Lib.hid (HB0.out.trans (b08.mono (by omega)))
  have hord : Hid (W4.heap.size ≤ W5.heap.size ∧ W5.heap.size ≤ g0 ∧ g0 ≠ W7.heap.size ∧ w.heap.size < gd) := Lib.hid (by omega)
  obtain ⟨dc, hdc⟩ : ∃ dc, W2.heap.size = dc := ⟨_, rfl⟩
  obtain ⟨lo, hlo⟩ : ∃ lo, W4.heap.size = lo := ⟨_, rfl⟩
  obtain ⟨hi, hhi⟩ : ∃ hi, W5.heap.size = hi := ⟨_, rfl⟩
  obtain ⟨qc, hqc⟩ : ∃ qc, W7.heap.size = qc := ⟨_, rfl⟩
  obtain ⟨hb, hhb'⟩ : ∃ hb, hi + 1 = hb := ⟨_, rfl⟩
  rw [hdc, hlo, hhi, hqc, hhb'] at HFX
  rw [hhi, hhb'] at HH8 hW8
  rw [hlo, hhi, hqc] at hord
  rw [hdc] at hs3 hs4
  clear FX R8 h8 b48 b68 b08 x0 x1 q8 b8 n1 n2 n3 HB04 HB6 HD4 HE0 HR4 HV5 K HB1 hs0 hs1 hs2 hs3 hs4 hs5 hs6 hs7 hs8 hg0 hhb hlt2 hgd hW0 hW3 hW4 hW6
  go_wp2_with fail
  go_loopg [10] (2 * ((List.replicate N inf).set root 0).sum + [itm 0 root].length) (fun gf _ wx => DLoop N G root A c B w.heap.size gd dc lo hi v hb qc w gf wx)
  case atStart =>
    obtain ⟨o1, o2, o3, o4⟩ := hord.out
    exact ⟨_, _, g0, [], [], 0, HFX.out, HR8.out, HH8.out, o2, o3, DJ.start hr, by simp, Nat.le_refl _, HB8.out⟩
  case round =>
    obtain ⟨d, m, g, P, R, K, fx, rd, hh, g1, g2, dj, hall, hgf, bw⟩ := hrel
    clear HFX HR8 HH8 HB8
    obtain ⟨o1, _, _, o4⟩ := hord.out
    have o6 := fx.o6
    have o7 := fx.o7
    have o3 := fx.o3
    have o4' := fx.o4
    have hasc := Lib.hid hh.asc
    have pp := pop_any hb g m wr hh (by have := dj.small; omega)
    have c4 := fx.c4
    have DJ0 := Lib.hid dj
    have HALL := Lib.hid hall
    have HGF := Lib.hid hgf
    have RD := Lib.hid rd
    have FX := Lib.hid fx
    have BW := Lib.hid bw
    have o5 := fx.o2
    have l3 := fx.l3
    clear dj hall hgf rd fx bw hh
    cases m with
    | nil =>
      rw [show hd ([] : List It) = (0, 0) from rfl, show some_ ([] : List It) = false from rfl] at pp
      go_wp2_with fail
      refine pp.mono ?_
      rintro e W1 ⟨rfl, _, q1⟩
      have fx1 := FX.out.kp q1 (fun j hj => by omega) o1
      have ba := below_alloc1 W1 (.cells #[.int .u64 0, .int .i64 0] 60)
      have c2 := (fx1.below ba o1).c2
      have R1 := Lib.hid ((RD.out.kp q1 (by omega)).below' ba)
      have B1 := Lib.hid (BW.out.trans ((q1.below (B := w.heap.size) (fun j hj => by omega) BW.out.size).trans (ba.mono (Nat.le_trans BW.out.size q1.size))))
      clear fx1 ba q1 pp
      go_wp2
      go_ret2
      exact ⟨d, gd, rfl, DJ0.out.done HG.out hr HALL.out, R1.out, by omega, B1.out⟩
    | cons x m =>
      obtain ⟨k, u, rfl, hu, hk, hdk, hskip, hvis⟩ := DJ0.out.pop hasc.out
      rw [show hd (itm k u :: m) = itm k u from rfl, show some_ (itm k u :: m) = true from rfl, show (itm k u :: m).tail = m from rfl] at pp
      go_wp2_with fail
      refine pp.mono ?_
      rintro e W1 ⟨rfl, q0, q1⟩
      have hs1 := q1.size
      have hglt := q0.glt
      obtain ⟨W2, hW2⟩ : ∃ W2, W1.alloc (.cells #[.int .u64 (k : Int), .int .i64 (u : Int)] 60) = W2 := ⟨_, rfl⟩
      have hs2 : W2.heap.size = W1.heap.size + 1 := by rw [← hW2]; simp
      have b2 : Below W1.heap.size W1 W2 := by rw [← hW2]; exact below_alloc1 _ _
      have x2 : W2.heap[W1.heap.size]? = some (.cells #[.int .u64 (k : Int), .int .i64 (u : Int)] 60 (0, 0)) := by rw [← hW2]; exact Go.heap_alloc_new _ _
      obtain ⟨x20, x21, _, _⟩ := blk2 x2
      have fx2 := (FX.out.kp q1 (fun j hj => by omega) o1).below b2 o1
      have c2 := fx2.c2
      have rd2 := (RD.out.kp q1 (by omega)).below' b2
      have hlen := DJ0.out.len
      have e2 := rd2.nat_cell (u := u) (by omega)
      have hui : (u : Int) < (N : Int) := by omega
      have B2 := Lib.hid (BW.out.trans ((q1.below (B := w.heap.size) (fun j hj => by omega) BW.out.size).trans (b2.mono (Nat.le_trans BW.out.size q1.size))))
      have H2 := Lib.hid (q0.below b2 (Nat.le_refl _))
      have FX2 := Lib.hid fx2
      have RD2 := Lib.hid rd2
      have wk : IntKind.i64.wrap (k : Int) = (k : Int) := by rw [IntKind.wrap_i64]; unfold inf at hk; omega
      clear fx2 rd2 q0 q1 b2 x2 pp RD FX BW
      have HSK := Lib.hid hskip
      have HVI := Lib.hid hvis
      clear hskip hvis
      by_cases hlt : gw d u < k
      · have gt0 : (k : Int) > (gw d u : Int) := by omega
        go_wp2_with fail
        go_quiet (fail)
        go_wp2_with fail
        have kd : Kp (fun _ => False) W2 (W2.drewN nq) := ⟨rfl, rfl, rfl, Nat.le_refl _, fun _ _ _ => rfl⟩
        have hgf := HGF.out
        simp only [List.length_cons] at hgf
        go_roundg (gk - 1)
        case measure => omega
        case rel =>
          exact ⟨d, m, g, P, R, k, FX2.out.kp kd (fun _ h => h.elim) o1, RD2.out.kp kd id, H2.out.kp kd id id, g1, g2, HSK.out hlt, HALL.out, by omega, B2.out.trans (kd.below (fun _ h => h.elim) B2.out.size)⟩
      · have gt0 : decide ((k : Int) > (gw d u : Int)) = false := by simp; omega
        go_wp2_with fail
        go_quiet (fail)
        have kd : Kp (fun _ => False) W2 (W2.drewN nq) := ⟨rfl, rfl, rfl, Nat.le_refl _, fun _ _ _ => rfl⟩
        obtain ⟨hvp, dj2⟩ := HVI.out (by omega)
        have hgf := HGF.out
        simp only [List.length_cons] at hgf
        have hlu : gl (outL N G G.length) u = outs G G.length u := gl_outL hu
        have hln := outs_len G G.length u
        have m0 : Mid N G root A c B w.heap.size gd dc lo hi v hb qc W1.heap.size u k P R (gk - 1) w (W2.drewN nq) 0 (W2.drewN nq) :=
          ⟨⟨d, m, g, RD2.out.kp kd id, H2.out.kp kd id id, g1, g2, by omega, by simpa using dj2, by omega, by omega⟩, FX2.out.kp kd (fun _ h => h.elim) o1, x21, by show _ < W2.heap.size; omega, Nat.le_refl _, fun _ _ _ => rfl, B2.out.trans (kd.below (fun _ h => h.elim) B2.out.size)⟩
        have vis := visit_any (fun j => lo ≤ j ∧ j < hi) v u (outL N G G.length) 31 (.pointer (some ⟨w.heap.size, 0, none⟩)) (.pointer (some ⟨dc, 0, none⟩)) (.pointer (some ⟨W1.heap.size, 0, none⟩)) (.pointer (some ⟨qc, 0, none⟩))
          (fun j wx => Mid N G root A c B w.heap.size gd dc lo hi v hb qc W1.heap.size u k P R (gk - 1) w (W2.drewN nq) j wx) (W2.drewN nq) (by rw [outL_length]; exact hu) enters31 (FX2.out.kp kd (fun _ h => h.elim) o1).vs (by rw [hlu]; omega) m0
          (fun j w' h => ⟨h.sz, h.kp⟩)
          (fun j w' hj h => by rw [hlu] at hj ⊢; exact mid_step HG.out hu hvp (fun i hi => (DJ0.out.rl i hi).2.1) o1 (by omega) (Nat.le_refl _) hj h)
        rw [hlu] at vis
        have DJ2 := Lib.hid dj2
        have hgk : Hid (1 ≤ gk) := Lib.hid (by omega)
        clear dj2 m0 kd hgf hlu hln
        go_wp2_with fail
        refine vis.mono ?_
        rintro e W3 ⟨rfl, mid⟩
        have MID := Lib.hid mid
        clear mid vis
        go_wp2
        go_roundg (gk - 1)
        case measure => have := hgk.out; omega
        case rel =>
          obtain ⟨⟨d', m', g', r1, r2, r3, r4, r5, r6, r7, r8⟩, fx, x1, xl, sz, kp, bl⟩ := MID.out
          rw [List.take_length] at r6
          refine ⟨d', m', g', _, _, _, fx, r1, r2, r3, r4, r6, fun i hi hp => ?_, r8, bl⟩
          rw [List.mem_append, List.mem_reverse, mem_outs]
          rcases List.mem_cons.1 hp with e | e
          · exact .inl ⟨hi, e⟩
          · exact .inr (HALL.out i hi e)
end Go.Proofs.Ytkpmdfgjaodlaaa
