/-
  The contract of Hops. No statement is proved here; no conditions.
-/
import Derived.Test.YtkpmdfgjaodlaaaHop1
import Derived.Laws.EntriesVeiled
namespace Go.Proofs.Ytkpmdfgjaodlaaa
open Go.RowKit Go.Joins

/-- Whole numbers. -/
abbrev ofN (d : List Nat) : List Int := d.map fun (n : Nat) => (n : Int)
/-- The edges that are tight and do not return to the root. -/
def useL (G : List NE) (d : List Nat) (root : Nat) : List Bool := (G.map NE.ed).map (onw (ofN d) (root : Int))
open Classical in
/-- The hops of node u, of the first k edges of the root. -/
noncomputable def hopF (U : List Bool) (G : List NE) (root k u : Nat) : List Nat := ((outs G G.length root).take k).filter fun i => decide (Rc U G i u)
theorem hopF_succ {U : List Bool} {G : List NE} {root k u : Nat} (hk : k < (outs G G.length root).length) (ns : List Nat) (h : ∀ u, u ∈ ns ↔ Rc U G (gw (outs G G.length root) k) u) :
    hopF U G root (k + 1) u = hopF U G root k u ++ (if u ∈ ns then [gw (outs G G.length root) k] else []) := by
  unfold hopF
  rw [List.take_succ_eq_append_getElem hk, List.filter_append, ← gw_eq hk]
  congr 1
  by_cases e : u ∈ ns
  · simp [(h u).1 e, e]
  · have e' : ¬ Rc U G (gw (outs G G.length root) k) u := fun x => e ((h u).2 x)
    simp [e', e]
theorem hopF_len (U : List Bool) (G : List NE) (root k u : Nat) : (hopF U G root k u).length ≤ k := by
  unfold hopF
  refine Nat.le_trans (List.length_filter_le _ _) ?_
  simp
  omega
/-- What Hops leaves. -/
def Hopsd (w : World) (N : Nat) (G : List NE) (root : Nat) (e : Ending) (w' : World) : Prop :=
  ∃ d H gr, e = .returned (.tuple #[.slice (some ⟨gr, 0, none⟩) N N, .int .i64 0]) ∧ IsD N G root d ∧ H.length = N ∧ (∀ u, u < N → gl H u = hopF (useL G d root) G root (outs G G.length root).length u) ∧ RR (w.heap.size ≤ ·) w' gr H ∧ w.heap.size ≤ gr ∧ Below w.heap.size w w'

set_option maxRecDepth 100000 in
theorem hops_bad (N root : Int) (A : Option Addr) (c : Nat) (E : List Ed) (B : Nat) (w : World) (hE : Rd (· < B) w A (eflat E)) (hB : B ≤ w.heap.size) (hl : E.length ≤ 100000) (hbad : may N E = false ∨ ¬ (0 ≤ root ∧ root < N)) :
    Calls Try.prog 13 #[gv N A E.length c, .int .i64 root] w fun e w' => e = .returned (.tuple #[.slice none 0 0, .int .i64 1]) ∧ Below w.heap.size w w' := by
  have B0 := below_alloc1 w (.cells #[.int .i64 N, .slice A E.length c] 24)
  obtain ⟨W0, hW0⟩ : ∃ W0, w.alloc (.cells #[.int .i64 N, .slice A E.length c] 24) = W0 := ⟨_, rfl⟩
  have hs0 : W0.heap.size = w.heap.size + 1 := by rw [← hW0]; simp
  have h0 : W0.heap[w.heap.size]? = some (.cells #[.int .i64 N, .slice A E.length c] 24 (0, 0)) := by rw [← hW0]; exact Go.heap_alloc_new _ _
  rw [hW0] at B0
  obtain ⟨c0, c1, _, _⟩ := blk2 h0
  have my := dist_bad N root A c E B W0 (hE.below B0 (fun j hj _ => by omega)) (by omega) hl hbad
  have HB0 := Lib.hid B0
  clear hE B0 h0
  go_enter Try.func13, Try.ntmps13
  go_wp2_with fail
  refine my.mono ?_
  rintro e W1 ⟨rfl, b1⟩
  have HB1 := Lib.hid b1
  clear b1 my
  go_wp2
  go_ret2
  exact ⟨rfl, HB0.out.trans (HB1.out.mono (by omega))⟩

set_option maxRecDepth 100000 in
set_option maxHeartbeats 1000000 in
theorem hops_any (N root : Nat) (A : Option Addr) (c : Nat) (G : List NE) (B : Nat) (w : World) (hE : Rd (· < B) w A (nflat G)) (hB : B ≤ w.heap.size) (hg : GV N G) (hr : root < N) :
    Calls Try.prog 13 #[gv N A G.length c, .int .i64 (root : Int)] w fun e w' => Hopsd w N G root e w' := by
  have hn2 := hg.n2
  have hm400 := hg.m
  obtain ⟨W0, hW0⟩ : ∃ W0, w.alloc (.cells #[.int .i64 N, .slice A G.length c] 24) = W0 := ⟨_, rfl⟩
  have hs0 : W0.heap.size = w.heap.size + 1 := by rw [← hW0]; simp
  have b0 : Below w.heap.size w W0 := by rw [← hW0]; exact below_alloc1 _ _
  have h0 : W0.heap[w.heap.size]? = some (.cells #[.int .i64 N, .slice A G.length c] 24 (0, 0)) := by rw [← hW0]; exact Go.heap_alloc_new _ _
  obtain ⟨c0, c1, _, _⟩ := blk2 h0
  have hE0 := hE.below b0 (fun j hj _ => by omega)
  have di := dist_any N root A c G B W0 hE0 (by omega) hg hr
  have H0 := Lib.hid h0
  have HB0 := Lib.hid b0
  have HE0 := Lib.hid hE0
  have HG := Lib.hid hg
  clear hE b0 h0 hE0 hg
  go_enter Try.func13, Try.ntmps13
  go_wp2_with fail
  refine di.mono ?_
  rintro e W1 ⟨d, gd, rfl, isd, rd, hgd, b1⟩
  have hs1 := b1.size
  have hgl := rd.lt
  have h1 := (b1.block _ (by omega)).trans H0.out
  obtain ⟨k0, k1, _, _⟩ := blk2 h1
  have hE1 := HE0.out.below b1 (fun j hj _ => by omega)
  have vi := visitor_any N A c G B W1 hE1 (by omega) HG.out
  have ISD := Lib.hid isd
  have RD := Lib.hid rd
  have B1 := Lib.hid b1
  have E1 := Lib.hid hE1
  have H1 := Lib.hid h1
  clear di isd rd b1 hE1 h1 c0 c1 H0 HE0
  go_wp2_with fail
  refine vi.mono ?_
  rintro e W2 ⟨v, rfl, v2, b2⟩
  have hs2 := b2.size
  clear vi k0 k1
  obtain ⟨W3, hW3⟩ : ∃ W3, W2.alloc (.cells #[.func (.func 38) #[] #[.pointer (some ⟨v, 0, none⟩)]] 54) = W3 := ⟨_, rfl⟩
  have hs3 : W3.heap.size = W2.heap.size + 1 := by rw [← hW3]; simp
  have b3 : Below W2.heap.size W2 W3 := by rw [← hW3]; exact below_alloc1 _ _
  have h3 : W3.heap[W2.heap.size]? = some (.cells #[.func (.func 38) #[] #[.pointer (some ⟨v, 0, none⟩)]] 54 (0, 0)) := by rw [← hW3]; exact Go.heap_alloc_new _ _
  have b13 : Below W1.heap.size W1 W3 := b2.trans (b3.mono hs2)
  have h03 := (b13.block _ (by omega)).trans H1.out
  obtain ⟨k0, k1, _, _⟩ := blk2 h03
  have E3 := E1.out.below b13 (fun j hj _ => by omega)
  have R3 := RD.out.below' b13
  have eD : nts d = its (ofN d) := by simp [nts, its, ofN]
  have hdl : (ofN d).length = N := by rw [List.length_map]; exact ISD.out.len
  have on := onward_any (N : Int) (root : Int) A c (G.map NE.ed) W3.heap.size (some ⟨gd, 0, none⟩) N (ofN d) W3 (E3.more (fun j _ hl => hl)) (eD ▸ R3.rd.more (fun j _ hl => hl)) (Nat.le_refl _) (by simp; omega)
  rw [hdl, List.length_map] at on
  have V3 := Lib.hid (v2.below' b3)
  have HE3 := Lib.hid E3
  have HH3 := Lib.hid h3
  have HH03 := Lib.hid h03
  have B13 := Lib.hid b13
  clear b2 b3 v2 E3 R3 h3 h03 b13 eD RD E1 H1
  go_wp2_with fail
  refine on.mono ?_
  rintro e W4 ⟨gu, rfl, r4, hgu, b4⟩
  rw [List.length_map, List.length_map] at r4 ⊢
  have hs4 := b4.size
  clear on
  obtain ⟨W5, hW5⟩ : ∃ W5, W4.alloc (.cells #[.slice (some ⟨gu, 0, none⟩) G.length G.length] 43) = W5 := ⟨_, rfl⟩
  have hs5 : W5.heap.size = W4.heap.size + 1 := by rw [← hW5]; simp
  have b5 : Below W4.heap.size W4 W5 := by rw [← hW5]; exact below_alloc1 _ _
  have h5 : W5.heap[W4.heap.size]? = some (.cells #[.slice (some ⟨gu, 0, none⟩) G.length G.length] 43 (0, 0)) := by rw [← hW5]; exact Go.heap_alloc_new _ _
  have b35 : Below W3.heap.size W3 W5 := b4.trans (b5.mono hs4)
  have h05 := (b35.block _ (by omega)).trans HH03.out
  obtain ⟨j0, j1, _, _⟩ := blk2 h05
  obtain ⟨i, hi, hz, hsz, hby⟩ := info26
  obtain ⟨W6, hmk, r6, b6, hs6⟩ := run_mkr W5 33 26 i _ 1 24 Try.underlying33 hi hz hsz hby N (by omega) (by omega)
  rw [Nat.mul_one, made_one _ rfl] at r6
  obtain ⟨W7, hW7⟩ : ∃ W7, W6.alloc (.cells #[.slice (some ⟨W5.heap.size, 0, none⟩) N N] 33) = W7 := ⟨_, rfl⟩
  have hs7 : W7.heap.size = W6.heap.size + 1 := by rw [← hW7]; simp
  have b7 : Below W6.heap.size W6 W7 := by rw [← hW7]; exact below_alloc1 _ _
  have h7 : W7.heap[W5.heap.size + 1]? = some (.cells #[.slice (some ⟨W5.heap.size, 0, none⟩) N N] 33 (0, 0)) := by rw [← hW7, ← hs6]; exact Go.heap_alloc_new _ _
  have b57 : Below W5.heap.size W5 W7 := b6.trans (b7.mono (by omega))
  have b37 : Below W3.heap.size W3 W7 := b35.trans (b57.mono (by omega))
  have hv3 := (b37.block _ (by omega)).trans HH3.out
  have hu7 := (b57.block _ (by omega)).trans h5
  have fh : FH N G (useL G d root) A (some ⟨gu, 0, none⟩) c G.length v w.heap.size W4.heap.size W2.heap.size W5.heap.size W7 := by
    refine ⟨(blk2 ((b37.block _ (by omega)).trans HH03.out)).1, (blk2 ((b37.block _ (by omega)).trans HH03.out)).2.1, (one_at hu7).1, (one_at hv3).1, h7, (HE3.out.below b37 (fun j hj _ => by omega)).more (fun j hj _ => by omega), ?_, ?_, by omega, by omega, by omega, by omega⟩
    · have := ((r4.below' b5).below' b57).rd
      have hgl4 := r4.lt
      exact this.more (fun j hj _ => by omega)
    · obtain ⟨gr, z1, z2, z3, z4, z5, z6⟩ := V3.out.below' b37
      exact ⟨gr, by omega, by omega, z3, z4, z5, fun u hu => by
        obtain ⟨A1, c1, y1, y2⟩ := z6 u hu
        exact ⟨A1, c1, y1, y2.more (fun j hj _ => by omega)⟩⟩
  have rr : RR (W5.heap.size ≤ ·) W7 W5.heap.size (List.replicate N []) := (RR.start r6).below' b7
  have hpos : W7.cell? ⟨W2.heap.size, 0, none⟩ = some (.func (.func 38) #[] #[.pointer (some ⟨v, 0, none⟩)]) := fh.cv
  have hlu : gl (outL N G G.length) root = outs G G.length root := gl_outL hr
  have hln := outs_len G G.length root
  have gl0 : ∀ u, gl (List.replicate N []) u = [] := fun u => by
    unfold gl List.getD
    rw [List.getElem?_replicate]
    split <;> rfl
  have vis := visit_any (· < W5.heap.size) v root (outL N G G.length) 34 (.pointer (some ⟨w.heap.size, 0, none⟩)) (.pointer (some ⟨W4.heap.size, 0, none⟩)) (.pointer (some ⟨W2.heap.size, 0, none⟩)) (.pointer (some ⟨W5.heap.size + 1, 0, none⟩))
    (fun k wx => FH N G (useL G d root) A (some ⟨gu, 0, none⟩) c G.length v w.heap.size W4.heap.size W2.heap.size W5.heap.size wx ∧ Below W5.heap.size W7 wx ∧ ∃ H, RR (W5.heap.size ≤ ·) wx W5.heap.size H ∧ H.length = N ∧ ∀ u, u < N → gl H u = hopF (useL G d root) G root k u) W7
    (by rw [outL_length]; exact hr) enters34 fh.vs (by rw [hlu]; omega)
    ⟨fh, Below.refl _ _, _, rr, by simp, fun u _ => by rw [gl0]; simp [hopF]⟩
    (fun k w' h => ⟨h.2.1.size, fun j hj _ => h.2.1.block j hj⟩)
    (fun k w' hk h => by
      rw [hlu] at hk ⊢
      obtain ⟨f1, f2, H, f3, f4, f5⟩ := h
      have hm1 : gw (outs G G.length root) k ∈ outs G G.length root := by rw [gw_eq hk]; exact List.getElem_mem _
      refine (hop1_any N G (useL G d root) A _ c _ v _ _ _ _ _ H w' HG.out (by simp [useL]) (mem_outs.1 hm1).1 f1 f3 f4 (fun u => ?_)).mono ?_
      · rcases Nat.lt_or_ge u N with e | e
        · rw [f5 u e]
          have := hopF_len (useL G d root) G root k u
          omega
        · unfold gl List.getD
          rw [List.getElem?_eq_none (by omega)]
          simp
      · rintro e w'' ⟨rfl, ns, g1, g2, g3, g4, g5, g6⟩
        refine ⟨rfl, g1, f2.trans g6, _, g2, by rw [addA_length]; exact f4, fun u hu => ?_⟩
        rw [gl_addA _ _ _ g3 (fun x hx => by rw [f4]; exact g4 x hx), hopF_succ hk ns g5, f5 u hu])
  rw [hlu] at vis
  have B37 := Lib.hid b37
  clear fh rr b37 b57 b35 b4 b5 b6 b7 h05 h5 h7 hv3 hu7 r4 r6 hi hz hsz hby gl0 hlu hln HH03 HH3 HE3 V3
  have HS5 := Lib.hid hs5
  clear hs5
  go_wp2_with fail
  refine vis.mono ?_
  rintro e W8 ⟨rfl, f1, f2, H, f3, f4, f5⟩
  obtain ⟨ch, _⟩ := one_at f1.ch
  have hs5 := HS5.out
  have F : Hid (Hopsd w N G root (.returned (.tuple #[.slice (some ⟨W5.heap.size, 0, none⟩) N N, .int .i64 0])) W8) := Lib.hid
    ⟨d, H, W5.heap.size, rfl, ISD.out, f4, f5, f3.mono (fun j hj _ => by omega), by omega, ((HB0.out.trans (B1.out.mono (by omega))).trans (B13.out.mono (by omega))).trans ((B37.out.mono (by omega)).trans (f2.mono (by omega)))⟩
  clear vis f1 f2 f3 f4 f5 hs5
  go_wp2
  go_ret2
  exact F.out
end Go.Proofs.Ytkpmdfgjaodlaaa
