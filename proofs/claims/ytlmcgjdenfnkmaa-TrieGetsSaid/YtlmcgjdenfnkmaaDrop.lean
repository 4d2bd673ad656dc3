/-
  Contracts of the trie's Drop. No statement is proved here; no conditions.
-/
import Derived.Test.YtlmcgjdenfnkmaaSet
import Derived.ChangeKeysEq
import Derived.Laws.Pointers
namespace Go.Proofs.Ytlmcgjdenfnkmaa
open Go.RowKit Go.Joins

theorem eq62 (p : Option Addr) (w : World) : (Op.equalIn 9999 62 (.pointer p) (.pointer none)).run Try.prog w = .ok p.isNone w := run_equalIn_pointer_nil w 9998 62 p (by kernel_rfl)
theorem eq61 (p q : Option Addr) (w : World) : (Op.equalIn 9999 61 (.agg #[.pointer p, .pointer q]) (.agg #[.pointer none, .pointer none])).run Try.prog w = .ok (p.isNone && q.isNone) w := by
  obtain ⟨i, hi, _, hs, _⟩ := info60
  have hc : Try.prog.cellsOf 60 = 1 := by kernel_rfl
  rw [run_equalIn_array w 9998 (n := 2) (e := 60) _ _ (by kernel_rfl) hi, hc]
  have e0 : ∀ p : Option Addr, (Op.equalIn 9998 60 (.pointer p) (.pointer none)).run Try.prog w = .ok p.isNone w := fun p => run_equalIn_pointer_nil (P := Try.prog) w 9997 60 p (by kernel_rfl)
  have q0 : ∀ (x y : Value), (part 60 #[x, y] 0).run Try.prog w = .ok x w := fun x y => by simp [part, typeInfo, sizeOf, hi, hs]
  have q1 : ∀ (x y : Value), (part 60 #[x, y] 1).run Try.prog w = .ok y w := fun x y => by simp [part, typeInfo, sizeOf, hi, hs]
  simp only [show List.range 2 = [0, 1] from rfl, Op.eqItems, Sem.run_bind, Nat.zero_mul, Nat.one_mul, q0, Result.andThen_ok, e0]
  cases p <;> cases q <;> simp [q1, e0]
theorem drop_nil (A : Nat) (N : Int) (w : World) (hA : A < 4294967296) : Calls Try.prog 10 #[.pointer none, pf A N] w fun e w' => e = .returned (.bool false) ∧ Below w.heap.size w w' := by
  have cg := fun W => get_nil A N W hA
  simp only [gtv] at cg
  go_enter Try.func10, Try.ntmps10
  go_wp2_with fail
  refine (cg _).mono ?_
  rintro e W1 ⟨rfl, hb1⟩
  go_wp2
  go_ret
  exact ⟨rfl, (below_alloc1 _ _).trans (hb1.mono (by simp))⟩
theorem drop_none (S : Nat → Prop) (tb A : Nat) (N : Int) (m : List En) (w : World) (h : Tz S w tb m) (hA : A < 4294967296) (hg : getm m A N = none) : Calls Try.prog 10 #[.pointer (some ⟨tb, 0, none⟩), pf A N] w fun e w' => e = .returned (.bool false) ∧ Below w.heap.size w w' := by
  obtain ⟨nd, en, h, hS⟩ := h
  have B0 := below_alloc1 w (.cells #[.int .u32 (A : Int), .int .i64 N] 25)
  have cg := get_any tb nd en m _ A N _ (h.below B0) hA
  rw [hg] at cg
  simp only [gtv] at cg
  go_enter Try.func10, Try.ntmps10
  go_wp2_with fail
  refine cg.mono ?_
  rintro e W1 ⟨rfl, hb1⟩
  go_wp2
  go_ret
  exact ⟨rfl, B0.trans (hb1.mono (by simp))⟩
/-- What holds while nodes are cut off. -/
structure Dl (w : World) (nd : Nat → Option Nat) (tb A n g c : Nat) (G : List Nat) (en' : Nat → Option Nat) (m' : List En) (i : Nat) (nd' : Nat → Option Nat) (wx : World) : Prop where
  tn : Tn wx tb nd' en' m' (m'.length : Int)
  way : ∀ j, j ≤ i → nd' (ky A j) = G[j]?
  row : Rg 60 1 wx g c (ps G)
  box : wx.heap[w.heap.size]? = some (.cells #[.int .u32 (A : Int), .int .i64 (n : Int)] 25 (0, 0))
  kp : Kp (Nk nd) w wx
  sub : ∀ j, Nk nd' j → Nk nd j
  len : G.length = n + 1
theorem nbo_row {w : World} {g k r c : Nat} {x y z : Value} {ct : Int} {cs : List Value} (h : w.heap[g]? = some (nbo k x y z ct)) (hr : Rg 60 1 w r c cs) : r ≠ g := by
  rintro rfl
  obtain ⟨cur, hr, _⟩ := hr
  rw [h] at hr
  unfold nbo at hr
  split at hr <;> simp at hr
theorem Dl.drew {w wx : World} {nd : Nat → Option Nat} {tb A n g c : Nat} {G : List Nat} {en' : Nat → Option Nat} {m' : List En} {i : Nat} {nd' : Nat → Option Nat} (h : Dl w nd tb A n g c G en' m' i nd' wx) : Dl w nd tb A n g c G en' m' i nd' wx.drew := ⟨h.tn.drew, h.way, h.row.drew, h.box, h.kp.drew, h.sub, h.len⟩
/-- A node is cut off. -/
theorem Dl.cut {w wx : World} {nd : Nat → Option Nat} {tb A n g c : Nat} {G : List Nat} {en' : Nat → Option Nat} {m' : List En} {i q : Nat} {nd' : Nat → Option Nat} (h : Dl w nd tb A n g c G en' m' (i + 1) nd' wx) (hA : A < 4294967296) (hi : i < 32) (hq : G[i]? = some q)
    (h0 : nd' (2 * ky A (i + 1)) = none) (h1 : nd' (2 * ky A (i + 1) + 1) = none) (h2 : en' (ky A (i + 1)) = none) :
    Dl w nd tb A n g c G en' m' i (upd nd' (ky A (i + 1)) none) (wx.setCell ⟨q, bt A (i : Int), none⟩ (.pointer none)) := by
  have ks := ky_succ (A := A) (n := i) hi
  have hqn : nd' (ky A i) = some q := (h.way i (by omega)).trans hq
  have hkp := ky_pos (A := A) (n := i) (by omega)
  have nq := h.tn.node _ _ hqn
  have kq : Kp (· = q) wx (wx.setCell ⟨q, bt A (i : Int), none⟩ (.pointer none)) := Kp.setCell _ _ _ rfl
  refine ⟨?_, fun j hj => ?_, h.row.kp kq (nbo_row nq h.row), (kq.block _ (lt_of_block h.box) (nbo_box nq h.box)).trans h.box, h.kp.trans kq (fun j hj => .inl (by rw [hj]; exact h.sub q ⟨_, hqn⟩)), ?_, h.len⟩
  · rw [ks] at h0 h1 h2 ⊢
    exact h.tn.prune hqn (bt_lt _ _) hkp h0 h1 h2
  · rw [upd_ne]
    · exact h.way j (by omega)
    · intro e
      have a1 := ky_ge (A := A) (n := i + 1) (by omega)
      have a2 : ky A j < 2 ^ (j + 1) := by
        exact ky_lt hA (by omega)
      have a3 := Nat.pow_le_pow_right (n := 2) (by omega) (show j + 1 ≤ i + 1 by omega)
      omega
  · rintro j ⟨k, hk⟩
    by_cases e : k = ky A (i + 1)
    · rw [e, upd_at] at hk
      cases hk
    · rw [upd_ne _ e] at hk
      exact h.sub j ⟨k, hk⟩
set_option maxRecDepth 100000 in
set_option maxHeartbeats 1000000 in
theorem drop_any (S : Nat → Prop) (tb A : Nat) (N : Int) (m : List En) (x : En) (w : World) (h : Tz S w tb m) (hA : A < 4294967296) (hx : getm m A N = some x) (hm : m.length ≤ 5000) :
    Calls Try.prog 10 #[.pointer (some ⟨tb, 0, none⟩), pf A N] w fun e w' => e = .returned (.bool true) ∧ Grew S w tb (dropm m A N) w' := by
  obtain ⟨nd, en, h, hS⟩ := h
  obtain ⟨hxm, hsp⟩ := (getm_some h.om).1 hx
  obtain ⟨rfl, rfl⟩ := sp_iff.1 hsp
  have hp := h.om.ok x hxm
  obtain ⟨h0, h1, _⟩ := (okp_iff _ _).1 hp
  have hdl := drop_len h.om hxm hsp
  obtain ⟨A, N, V⟩ := x
  simp only at *
  obtain ⟨n, rfl⟩ : ∃ n : Nat, N = n := ⟨N.toNat, by omega⟩
  have hn : n ≤ 32 := by omega
  have hkx : kx ⟨A, (n : Int), V⟩ = ky A n := by unfold kx; rw [cl_nat n hn]
  have hen := h.all _ hxm
  rw [hkx] at hen
  have hnd : nd (ky A n) ≠ none := fun e => hen (h.nonode e)
  have HS := Lib.hid hS
  have B0 := below_alloc1 w (.cells #[.int .u32 (A : Int), .int .i64 (n : Int)] 25)
  have P0 := Go.heap_alloc_new w (.cells #[.int .u32 (A : Int), .int .i64 (n : Int)] 25)
  obtain ⟨W0, hW0⟩ : ∃ W0, w.alloc (.cells #[.int .u32 (A : Int), .int .i64 (n : Int)] 25) = W0 := ⟨_, rfl⟩
  have hs0 : W0.heap.size = w.heap.size + 1 := by rw [← hW0]; simp
  rw [hW0] at P0 B0
  obtain ⟨c0, c1, _, _⟩ := blk2 P0
  have cg := get_any tb nd en m _ A (n : Int) W0 (h.below B0) hA
  rw [hx] at cg
  simp only [gtv] at cg
  clear hS h0 h1 hsp hx
  go_enter Try.func10, Try.ntmps10
  go_wp2_with fail
  refine cg.mono ?_
  rintro e W1 ⟨rfl, hb1⟩
  have b1 : Below w.heap.size w W1 := B0.trans (hb1.mono (by omega))
  have p1 := (hb1.block _ (lt_of_block P0)).trans P0
  clear c0 c1 cg
  obtain ⟨c0, c1, _, _⟩ := blk2 p1
  have cp := path_any tb nd en m _ A n W1 (h.below b1) hA hn hp
  go_wp2_with fail
  refine cp.mono ?_
  rintro e W2 ⟨g, c2, G, rfl, hr, hgw, hb2, hP⟩
  have hl : G.length = n + 1 := by
    rcases hP.2.2.2 with e1 | e1
    · exact e1
    · have h3 := hP.2.1
      by_cases e2 : G.length = n + 1
      · exact e2
      · exact absurd (h.dead e1 n (by omega) hn) hnd
  have b2 : Below w.heap.size w W2 := b1.trans (hb2.mono b1.size)
  have p2 := (hb2.block _ (lt_of_block p1)).trans p1
  have t2 := h.below b2
  obtain ⟨q, hq⟩ : ∃ q, G[n]? = some q := ⟨G[n]'(by omega), List.getElem?_eq_getElem (by omega)⟩
  have hqn : nd (ky A n) = some q := (hP.2.2.1 n (by omega)).trans hq
  have cq : W2.cell? ⟨g, n, none⟩ = some (.pointer (some ⟨q, 0, none⟩)) := hr.cell (by rw [List.getElem?_map, hq]; rfl)
  clear c0 c1 cp
  obtain ⟨c0, c1, _, _⟩ := blk2 p2
  obtain ⟨_, _, ce, _, _, cf⟩ := t2.cells hqn
  obtain ⟨f, hf⟩ : ∃ f, en (ky A n) = some f := by
    cases e : en (ky A n) with
    | none => exact absurd e hen
    | some f => exact ⟨f, rfl⟩
  rw [hf] at ce
  simp only [po, Option.map_some] at ce
  obtain ⟨W3, hW3⟩ : ∃ W3, W2.setCell ⟨q, 2, none⟩ (.pointer none) = W3 := ⟨_, rfl⟩
  have t3 : Tn W3 tb nd (upd en (ky A n) none) (dropm m A (n : Int)) (m.length : Int) := by
    rw [← hW3]
    have := t2.del hxm (g := q) (by rw [hkx]; exact hqn)
    rw [hkx] at this
    exact this
  have k3 : Kp (Nk nd) w W3 := by rw [← hW3]; exact (Kp.of_below b2 (Nat.le_refl _)).then_set _ _ ⟨_, hqn⟩
  have kk3 : Kp (· = q) W2 W3 := by rw [← hW3]; exact Kp.setCell _ _ _ rfl
  have nq := t2.node _ _ hqn
  have r3 := hr.kp kk3 (nbo_row nq hr)
  have p3 := (kk3.block _ (lt_of_block p2) (nbo_box nq p2)).trans p2
  obtain ⟨cc, ccf⟩ := t3.cnt
  obtain ⟨W4, hW4⟩ : ∃ W4, W3.setCell ⟨tb, 3, none⟩ (.int .i64 ((m.length : Int) - 1)) = W4 := ⟨_, rfl⟩
  have t4 : Tn W4 tb nd (upd en (ky A n) none) (dropm m A (n : Int)) ((dropm m A (n : Int)).length : Int) := by
    rw [← hW4]
    have := t3.setCount ((m.length : Int) - 1)
    rwa [show ((m.length : Int) - 1) = ((dropm m A (n : Int)).length : Int) by omega] at this ⊢
  have kk4 : Kp (· = tb) W3 W4 := by rw [← hW4]; exact Kp.setCell _ _ _ rfl
  have nt := t3.node _ _ t3.root
  have r4 := r3.kp kk4 (nbo_row nt r3)
  have p4 := (kk4.block _ (lt_of_block p3) (nbo_box nt p3)).trans p3
  have D0 : Hid (Dl w nd tb A n g c2 G (upd en (ky A n) none) (dropm m A (n : Int)) n nd W4) := Lib.hid ⟨t4, fun j hj => hP.2.2.1 j (by omega), r4, p4, k3.trans kk4 (fun j hj => .inl (by rw [hj]; exact ⟨1, h.root⟩)), fun _ h => h, hl⟩
  have HG := Lib.hid (show ∀ j, j ≤ n → ∃ y, G[j]? = some y from fun j hj => ⟨G[j]'(by omega), List.getElem?_eq_getElem (by omega)⟩)
  obtain ⟨d0, d1, _, _⟩ := blk2 p3
  obtain ⟨f0, f1, _, _⟩ := blk2 p4
  have hml : 1 ≤ m.length := by omega
  obtain ⟨ml, hmle⟩ : ∃ ml, m.length = ml := ⟨_, rfl⟩
  rw [hmle] at cc hW4 hml hm
  have FIN : Hid (∀ i nd' wx, Dl w nd tb A n g c2 G (upd en (ky A n) none) (dropm m A (n : Int)) i nd' wx → Grew S w tb (dropm m A (n : Int)) wx) := Lib.hid (fun i nd' wx hd => ⟨Bk nd' (upd en (ky A n) none), ⟨_, _, hd.tn, fun _ h => h⟩, hd.kp.mono (fun j hj => HS.out j (.inl hj)), fun j hj => by
    rcases hj with hj | ⟨k, hk⟩
    · exact .inl (HS.out j (.inl (hd.sub j hj)))
    · by_cases e : k = ky A n
      · rw [e, upd_at] at hk; cases hk
      · rw [upd_ne _ e] at hk
        exact .inl (HS.out j (.inr ⟨k, hk⟩))⟩)
  have hnl : (n : Int) < (G.length : Int) := by omega
  obtain ⟨ln, hln⟩ : ∃ ln, G.length = ln := ⟨_, rfl⟩
  rw [hln] at hnl ⊢
  have hln2 : ln = n + 1 := by omega
  have HLN := Lib.hid hln2
  clear t2 t3 t4 k3 kk3 kk4 nq nt r3 r4 p2 p3 p4 hr b1 b2 hb1 hb2 hP hl hln hq hqn hdl hkx hen hnd hmle P0 B0 p1 hs0 hf h hxm hp hln2 HS
  go_wp2_with fail
  go_loopg [8] n (fun gf v8 wx => ∃ (i : Nat) (nd' : Nat → Option Nat), v8 = .int .i64 (i : Int) ∧ Hid (gf = i ∧ i ≤ n) ∧ Hid (Dl w nd tb A n g c2 G (upd en (ky A n) none) (dropm m A (n : Int)) i nd' wx))
  case atStart => exact ⟨n, nd, rfl, Lib.hid ⟨rfl, Nat.le_refl _⟩, D0⟩
  case round =>
    obtain ⟨i, nd', rfl, hi, hd⟩ := hrel
    obtain ⟨hi1, hi2⟩ := hi.out
    clear D0 c0 c1 d0 d1 f0 f1 cc ccf ce cf cq hW3 hW4 hW0
    cases gk with
    | zero =>
      obtain rfl : i = 0 := by omega
      go_wp2
      go_ret
      exact ⟨rfl, FIN.out _ _ _ hd.out⟩
    | succ gf =>
      obtain rfl : i = gf + 1 := by omega
      obtain ⟨c0, c1, _, _⟩ := blk2 hd.out.box
      obtain ⟨y, hy⟩ := HG.out (gf + 1) hi2
      obtain ⟨z, hz⟩ := HG.out gf (by omega)
      have cy : wr.cell? ⟨g, gf + 1, none⟩ = some (.pointer (some ⟨y, 0, none⟩)) := hd.out.row.cell (by rw [List.getElem?_map, hy]; rfl)
      have cz : wr.cell? ⟨g, gf, none⟩ = some (.pointer (some ⟨z, 0, none⟩)) := hd.out.row.cell (by rw [List.getElem?_map, hz]; rfl)
      have hyn : nd' (ky A (gf + 1)) = some y := (hd.out.way _ (Nat.le_refl _)).trans hy
      have hzn : nd' (ky A gf) = some z := (hd.out.way _ (by omega)).trans hz
      obtain ⟨y0, y1, y2, _⟩ := hd.out.tn.cells hyn
      have hgl : (gf : Int) + 1 < (ln : Int) := by have := HLN.out; omega
      have hgl2 : ((gf + 1 : Nat) : Int) < (ln : Int) := by have := HLN.out; omega
      have hgl3 : (gf : Int) < (ln : Int) := by have := HLN.out; omega
      have hpos : decide (((gf + 1 : Nat) : Int) > 0) = true := by simp
      have HZ := Lib.hid hz
      clear hy hz hyn
      cases e0 : nd' (2 * ky A (gf + 1)) with
      | some v0 =>
        rw [e0] at y0
        simp only [po, Option.map_some] at y0
        clear e0
        have q61 := fun p1 => eq61 (some ⟨v0, 0, none⟩) p1 wr
        simp only [Option.isNone_some, Bool.false_and] at q61
        obtain ⟨p1, hp1⟩ : ∃ p1, (nd' (2 * ky A (gf + 1) + 1)).map (fun g => (⟨g, 0, none⟩ : Addr)) = p1 := ⟨_, rfl⟩
        simp only [po, hp1] at y1
        have q61' := q61 p1
        obtain ⟨p2, hp2⟩ : ∃ p2, (upd en (ky A n) none (ky A (gf + 1))).map (fun g => (⟨g, 0, none⟩ : Addr)) = p2 := ⟨_, rfl⟩
        simp only [po, hp2] at y2
        clear hp1 hp2 q61
        go_wp2
        go_ret
        exact ⟨rfl, FIN.out _ _ _ hd.out⟩
      | none =>
        rw [e0] at y0
        simp only [po, Option.map_none] at y0
        cases e1 : nd' (2 * ky A (gf + 1) + 1) with
        | some v1 =>
          rw [e1] at y1
          simp only [po, Option.map_some] at y1
          clear e0 e1
          have q61 := eq61 none (some ⟨v1, 0, none⟩) wr
          simp only [Option.isNone_none, Option.isNone_some, Bool.and_false] at q61
          obtain ⟨p2, hp2⟩ : ∃ p2, (upd en (ky A n) none (ky A (gf + 1))).map (fun g => (⟨g, 0, none⟩ : Addr)) = p2 := ⟨_, rfl⟩
          simp only [po, hp2] at y2
          clear hp2
          go_wp2
          go_ret
          exact ⟨rfl, FIN.out _ _ _ hd.out⟩
        | none =>
          rw [e1] at y1
          simp only [po, Option.map_none] at y1
          cases e2 : upd en (ky A n) none (ky A (gf + 1)) with
          | some v2 =>
            rw [e2] at y2
            simp only [po, Option.map_some] at y2
            clear e0 e1 e2
            have q61 := eq61 none none wr
            have q62 := eq62 (some ⟨v2, 0, none⟩) wr
            simp only [Option.isNone_none, Option.isNone_some, Bool.and_true] at q61 q62
            go_wp2
            go_ret
            exact ⟨rfl, FIN.out _ _ _ hd.out⟩
          | none =>
            rw [e2] at y2
            simp only [po, Option.map_none] at y2
            have hb := bt_lt A (gf : Int)
            obtain ⟨zc, zf⟩ := hd.out.tn.child hzn hb
            rw [← ky_succ (A := A) (n := gf) (by omega), (hd.out.way (gf + 1) (Nat.le_refl _))] at zc
            have hcut := hd.out.drew.cut hA (by omega) HZ.out e0 e1 e2
            have cb := fun W => bit_any A (gf : Int) W hA
            obtain ⟨y', hy'⟩ := HG.out (gf + 1) hi2
            rw [hy'] at zc
            simp only [po, Option.map_some] at zc
            obtain ⟨b, hbe⟩ : ∃ b, bt A (gf : Int) = b := ⟨_, rfl⟩
            rw [hbe] at hb zc zf hcut cb
            have HC := Lib.hid hcut
            have HBX := Lib.hid hd.out.box
            clear e0 e1 e2 hcut hbe hy' hzn
            have q61 := eq61 none none wr
            have q62 := eq62 none wr
            simp only [Option.isNone_none, Bool.and_true] at q61 q62
            go_upto_region 10 with fail
            have hb2 : (b : Int) < 2 := by omega
            have hwr : IntKind.i64.wrap (gf : Int) = (gf : Int) := by rw [IntKind.wrap_i64]; omega
            have zc' : wr.drew.cell? ⟨z, b, none⟩ = some (.pointer (some ⟨y', 0, none⟩)) := zc
            have zf' : wr.drew.frozen? ⟨z, b, none⟩ = false := zf
            have SF : Hid ((wr.drew.setCell ⟨z, b, none⟩ (.pointer none)).cell? ⟨g, gf, none⟩ = some (.pointer (some ⟨z, 0, none⟩)) ∧ (wr.drew.setCell ⟨z, b, none⟩ (.pointer none)).cell? ⟨w.heap.size, 0, none⟩ = some (.int .u32 (A : Int))) := Lib.hid ⟨HC.out.row.cell (by rw [List.getElem?_map, HZ.out]; rfl), (blk2 HC.out.box).1⟩
            refine wp_region_held_drew (S := fun V => V.cell? ⟨g, gf, none⟩ = some (.pointer (some ⟨z, 0, none⟩)) ∧ V.cell? ⟨w.heap.size, 0, none⟩ = some (.int .u32 (A : Int))) (by kernel_rfl) ⟨cz, c0⟩ (fun hHeld => ?_)
            refine wpAnyH_take (i := 0) (v := ?_) rfl (by kernel_rfl) (by kernel_rfl) (by kernel_rfl) (fun _ _ _ h => h) (Or.inl ⟨by rfl, ?_⟩) (by assumption) ?_
            rotate_left
            · (intro w' hSw; (try dsimp only at hSw); go_simp; try with_reducible rfl)
            simp only [Act.put, List.getElem_toArray, List.getElem_cons_zero, List.setIfInBounds_toArray, List.set_cons_zero, List.set_cons_succ]
            refine wpAnyH_take (i := 1) (v := ?_) rfl (by kernel_rfl) (by kernel_rfl) (by kernel_rfl) (fun _ _ _ h => h) (Or.inl ⟨by rfl, ?_⟩) (by assumption) ?_
            rotate_left
            · (intro w' hSw; (try dsimp only at hSw); go_simp; try with_reducible rfl)
            simp only [Act.put, List.getElem_toArray, List.getElem_cons_zero, List.getElem_cons_succ, List.setIfInBounds_toArray, List.set_cons_zero, List.set_cons_succ]
            refine wpAnyH_take (i := 2) (v := ?_) rfl (by kernel_rfl) (by kernel_rfl) (by kernel_rfl) (fun _ _ _ h => h) (Or.inl ⟨by rfl, ?_⟩) (by assumption) ?_
            rotate_left
            · (intro w' hSw; (try dsimp only at hSw); go_simp; try with_reducible rfl)
            simp only [Act.put, List.getElem_toArray, List.getElem_cons_zero, List.getElem_cons_succ, List.setIfInBounds_toArray, List.set_cons_zero, List.set_cons_succ]
            refine wpAnyH_take (i := 3) (v := ?_) rfl (by kernel_rfl) (by kernel_rfl) (by kernel_rfl) (fun _ _ _ h => h) (Or.inl ⟨by rfl, ?_⟩) (by assumption) ?_
            rotate_left
            · (intro w' hSw; (try dsimp only at hSw); go_simp; try with_reducible rfl)
            simp only [Act.put, List.getElem_toArray, List.getElem_cons_zero, List.getElem_cons_succ, List.setIfInBounds_toArray, List.set_cons_zero, List.set_cons_succ]
            refine wpAnyH_take (i := 4) (v := ?_) rfl (by kernel_rfl) (by kernel_rfl) (by kernel_rfl) (fun _ _ _ h => h) (Or.inl ⟨by rfl, ?_⟩) (by assumption) ?_
            rotate_left
            · (intro w' hSw; (try dsimp only at hSw); go_simp; try with_reducible rfl)
            simp only [Act.put, List.getElem_toArray, List.getElem_cons_zero, List.getElem_cons_succ, List.setIfInBounds_toArray, List.set_cons_zero, List.set_cons_succ]
            refine wpAnyH_take (i := 5) (v := ?_) rfl (by kernel_rfl) (by kernel_rfl) (by kernel_rfl) (fun _ _ _ h => h) (Or.inl ⟨by rfl, ?_⟩) (by assumption) ?_
            rotate_left
            · (intro w' hSw; (try dsimp only at hSw); go_simp; try with_reducible rfl)
            simp only [Act.put, List.getElem_toArray, List.getElem_cons_zero, List.getElem_cons_succ, List.setIfInBounds_toArray, List.set_cons_zero, List.set_cons_succ]
            refine wpAnyH_take (i := 6) (v := ?_) rfl (by kernel_rfl) (by kernel_rfl) (by kernel_rfl) (fun _ _ _ h => h) (Or.inl ⟨by rfl, ?_⟩) (by assumption) ?_
            rotate_left
            · (intro w' hSw; (try dsimp only at hSw); go_simp; try with_reducible rfl)
            simp only [Act.put, List.getElem_toArray, List.getElem_cons_zero, List.getElem_cons_succ, List.setIfInBounds_toArray, List.set_cons_zero, List.set_cons_succ]
            refine wpAnyH_take (i := 7) (v := ?_) rfl (by kernel_rfl) (by kernel_rfl) (by kernel_rfl) (fun _ _ _ h => h) (Or.inl ⟨by rfl, ?_⟩) (by assumption) ?_
            rotate_left
            · (intro w' hSw; (try dsimp only at hSw); go_simp; try with_reducible rfl)
            simp only [Act.put, List.getElem_toArray, List.getElem_cons_zero, List.getElem_cons_succ, List.setIfInBounds_toArray, List.set_cons_zero, List.set_cons_succ]
            refine wpAnyH_take (i := 8) (v := ?_) rfl (by kernel_rfl) (by kernel_rfl) (by kernel_rfl) (fun _ _ _ h => h) (Or.inl ⟨by rfl, ?_⟩) (by assumption) ?_
            rotate_left
            · (intro w' hSw; (try dsimp only at hSw); go_simp; try with_reducible rfl)
            simp only [Act.put, List.getElem_toArray, List.getElem_cons_zero, List.getElem_cons_succ, List.setIfInBounds_toArray, List.set_cons_zero, List.set_cons_succ]
            refine wpAnyH_take (i := 10) (v := ?_) rfl (by kernel_rfl) (by kernel_rfl) (by kernel_rfl) (fun _ _ _ h => h) (Or.inl ⟨by rfl, ?_⟩) (by assumption) ?_
            rotate_left
            · (intro w' hSw; (try dsimp only at hSw); go_simp; try with_reducible rfl)
            simp only [Act.put, List.getElem_toArray, List.getElem_cons_zero, List.getElem_cons_succ, List.setIfInBounds_toArray, List.set_cons_zero, List.set_cons_succ]
            refine wpAnyH_take (i := 11) (v := ?_) rfl (by kernel_rfl) (by kernel_rfl) (by kernel_rfl) (fun _ _ _ h => h) (Or.inl ⟨by rfl, ?_⟩) (by assumption) ?_
            rotate_left
            · (intro w' hSw; (try dsimp only at hSw); go_simp; try with_reducible rfl)
            simp only [Act.put, List.getElem_toArray, List.getElem_cons_zero, List.getElem_cons_succ, List.setIfInBounds_toArray, List.set_cons_zero, List.set_cons_succ]
            obtain ⟨X0, hX0⟩ : ∃ X0, wr.drew = X0 := ⟨_, rfl⟩
            rw [hX0] at zc' zf' SF HC hHeld ⊢
            refine wpAnyH_ready (rs := [9]) (by kernel_rfl) (by simp) ?_
            refine AllReadyH.cons rfl (fun K hK => ?_) AllReadyH.nil
            go_simp
            go_at_call 31
            refine (cb _).mono ?_
            rintro e X1 ⟨rfl, hX1⟩
            subst hX1
            refine hK.out _ _ hHeld (fun _ => ?_)
            clear hK K
            refine wpAnyH_take (i := 12) (v := ?_) rfl (by kernel_rfl) (by kernel_rfl) (by kernel_rfl) (fun _ _ _ h => h) (Or.inl ⟨by rfl, ?_⟩) (by assumption) ?_
            rotate_left
            · (intro w' hSw; (try dsimp only at hSw); go_simp; try with_reducible rfl)
            simp only [Act.put, List.getElem_toArray, List.getElem_cons_zero, List.getElem_cons_succ, List.setIfInBounds_toArray, List.set_cons_zero, List.set_cons_succ]
            refine wpAnyH_ready (rs := [13]) (by kernel_rfl) (by simp) ?_
            refine AllReadyH.cons rfl (fun K hK => ?_) AllReadyH.nil
            go_simp
            refine hK.out _ _ SF.out (fun _ => ?_)
            clear hK K
            refine wpAnyH_done (by kernel_rfl) ?_ _
            go_wp2
            go_roundg gf
            case measure => omega
            case rel => exact ⟨gf, _, by go_num, Lib.hid ⟨rfl, by omega⟩, HC⟩
end Go.Proofs.Ytlmcgjdenfnkmaa
