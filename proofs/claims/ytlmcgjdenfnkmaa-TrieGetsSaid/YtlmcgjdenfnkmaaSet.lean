/-
  Contracts of the trie's Set. No statement is proved here; no conditions.
-/
import Derived.Test.YtlmcgjdenfnkmaaGrow
namespace Go.Proofs.Ytlmcgjdenfnkmaa
open Go.RowKit Go.Joins

theorem set_nil (A : Nat) (N V : Int) (w : World) : Calls Try.prog 12 #[.pointer none, pf A N, .int .i64 V] w fun e w' => e = .returned (.int .i64 1) ∧ Below w.heap.size w w' := by
  go_enter Try.func12, Try.ntmps12
  go_wp2
  go_ret
  exact ⟨rfl, below_alloc1 _ _⟩
theorem set_bad (tb A : Nat) (N V : Int) (w : World) (hA : A < 4294967296) (hp : okp A N = false) : Calls Try.prog 12 #[.pointer (some ⟨tb, 0, none⟩), pf A N, .int .i64 V] w fun e w' => e = .returned (.int .i64 1) ∧ Below w.heap.size w w' := by
  have cm := fun W => may_any A N W hA
  rw [hp] at cm
  go_enter Try.func12, Try.ntmps12
  go_wp2_with fail
  refine (cm _).mono ?_
  rintro e W1 ⟨rfl, hb1⟩
  go_wp2
  go_ret
  exact ⟨rfl, (below_alloc1 _ _).trans (hb1.mono (by simp))⟩
/-- The entry is put at its node. -/
theorem set_fin {S : Nat → Prop} {w W : World} {tb g e : Nat} {nd nd' en : Nat → Option Nat} {m : List En} {x : En} (hS : ∀ j, Bk nd en j → S j) (ho : okp x.A x.N = true) (hx : x.A < 4294967296) (ht : Tn W tb nd' en m ((setm m x).length : Int)) (hg : nd' (kx x) = some g) (he : W.heap[e]? = some (ebo x)) (hew : w.heap.size ≤ e)
    (hk : Kp (Nk nd) w W) (hn : ∀ j, Nk nd' j → Nk nd j ∨ w.heap.size ≤ j) : Grew S w tb (setm m x) (W.setCell ⟨g, 2, none⟩ (.pointer (some ⟨e, 0, none⟩))) := by
  have t := ht.put ho hx hg he
  refine ⟨Bk nd' (upd en (kx x) (some e)), ⟨_, _, t, fun _ h => h⟩, ?_, fun j hj => ?_⟩
  · have h1 : Kp (· = g) W (W.setCell ⟨g, 2, none⟩ (.pointer (some ⟨e, 0, none⟩))) := Kp.setCell _ _ _ rfl
    refine (hk.trans h1 (fun j hj => ?_)).mono (fun j hj => hS j (.inl hj))
    rw [hj]
    exact hn g ⟨_, hg⟩
  · have hl := t.lt hj
    rcases hj with hj | ⟨k, hj⟩
    · rcases hn j hj with q | q
      · exact .inl (hS j (.inl q))
      · exact .inr ⟨q, hl⟩
    · by_cases ek : k = kx x
      · rw [ek, upd_at] at hj
        injection hj with hj
        exact .inr ⟨by omega, hl⟩
      · rw [upd_ne _ ek] at hj
        exact .inl (hS j (.inr ⟨k, hj⟩))
set_option maxRecDepth 100000 in
set_option maxHeartbeats 1000000 in
theorem set_any (S : Nat → Prop) (tb A : Nat) (N V : Int) (m : List En) (w : World) (h : Tz S w tb m) (hA : A < 4294967296) (hp : okp A N = true) (hm : m.length < 5000) :
    Calls Try.prog 12 #[.pointer (some ⟨tb, 0, none⟩), pf A N, .int .i64 V] w fun e w' => e = .returned (.int .i64 0) ∧ Grew S w tb (setm m ⟨A, N, V⟩) w' := by
  obtain ⟨nd, en, h, hS⟩ := h
  obtain ⟨h0, h1, _⟩ := (okp_iff _ _).1 hp
  obtain ⟨n, rfl⟩ : ∃ n : Nat, N = n := ⟨N.toNat, by omega⟩
  have hn : n ≤ 32 := by omega
  have hkx : kx ⟨A, (n : Int), V⟩ = ky A n := by unfold kx; rw [cl_nat n hn]
  have HP := Lib.hid hp
  have HS := Lib.hid hS
  have HKX := Lib.hid hkx
  have cm := fun W => may_any A (n : Int) W hA
  rw [hp] at cm
  clear h0 h1 hkx hS hp
  have B0 := below_alloc1 w (.cells #[.int .u32 (A : Int), .int .i64 (n : Int)] 25)
  have P0 := Go.heap_alloc_new w (.cells #[.int .u32 (A : Int), .int .i64 (n : Int)] 25)
  obtain ⟨W0, hW0⟩ : ∃ W0, w.alloc (.cells #[.int .u32 (A : Int), .int .i64 (n : Int)] 25) = W0 := ⟨_, rfl⟩
  have hs0 : W0.heap.size = w.heap.size + 1 := by rw [← hW0]; simp
  rw [hW0] at P0 B0
  obtain ⟨c0, c1, _, _⟩ := blk2 P0
  go_enter Try.func12, Try.ntmps12
  go_wp2_with fail
  refine (cm _).mono ?_
  rintro e W1 ⟨rfl, hb1⟩
  have b1 : Below w.heap.size w W1 := B0.trans (hb1.mono (by omega))
  have p1 := (hb1.block _ (lt_of_block P0)).trans P0
  clear c0 c1 cm
  obtain ⟨c0, c1, _, _⟩ := blk2 p1
  have cg := get_any tb nd en m (m.length : Int) A (n : Int) W1 (h.below b1) hA
  have hlen := setm_len h.om ⟨A, (n : Int), V⟩
  simp only at hlen
  cases hg : getm m A (n : Int) with
  | none =>
    rw [hg] at cg hlen
    simp only [gtv] at cg
    simp only [if_pos] at hlen
    go_wp2_with fail
    refine cg.mono ?_
    rintro e W2 ⟨rfl, hb2⟩
    have b2 : Below w.heap.size w W2 := b1.trans (hb2.mono b1.size)
    have p2 := (hb2.block _ (lt_of_block p1)).trans p1
    have t2 := h.below b2
    clear c0 c1 cg
    obtain ⟨cc, cf⟩ := t2.cnt
    obtain ⟨W3, hW3⟩ : ∃ W3, W2.setCell ⟨tb, 3, none⟩ (.int .i64 ((m.length : Int) + 1)) = W3 := ⟨_, rfl⟩
    have t3 : Tn W3 tb nd en m ((setm m ⟨A, (n : Int), V⟩).length : Int) := by
      rw [← hW3, hlen]
      exact t2.setCount _
    have k3 : Kp (Nk nd) w W3 := by
      rw [← hW3]
      exact (Kp.of_below b2 (Nat.le_refl _)).then_set _ _ ⟨1, h.root⟩
    have p3 : W3.heap[w.heap.size]? = some (.cells #[.int .u32 (A : Int), .int .i64 (n : Int)] 25 (0, 0)) := by
      rw [← hW3, heap_setCell_other _ _ _ _ (nbo_box (t2.node 1 tb t2.root) p2)]
      exact p2
    have hl1 : decide ((m.length : Int) ≥ 5000) = false := by simp; omega
    have hl2 : decide (m.length ≥ 5000) = false := by simp; omega
    have T3 := Lib.hid t3
    have K3 := Lib.hid k3
    have P3 := Lib.hid p3
    clear t3 k3 p3 b1 b2 p1 p2 P0 B0 hb1 hb2 t2 hlen hg hs0
    obtain ⟨ml, hml⟩ : ∃ ml, m.length = ml := ⟨_, rfl⟩
    rw [hml] at cc hl1 hl2 hW3 hm
    clear hml
    have hw1 : ((ml : Int) + 1 : Int) ≤ 5000 := by omega
    go_upto_region 8 with fail
    obtain ⟨d0, d1, _, _⟩ := blk2 (w := W3.drew) P3.out
    have T4 : Hid (Tn W3.drew tb nd en m ((setm m ⟨A, (n : Int), V⟩).length : Int)) := Lib.hid T3.out.drew
    have K4 : Hid (Kp (Nk nd) w W3.drew) := Lib.hid K3.out.drew
    have P4 : Hid (W3.drew.heap[w.heap.size]? = some (.cells #[.int .u32 (A : Int), .int .i64 (n : Int)] 25 (0, 0))) := P3
    have Sof : Hid (∀ V : World, V.heap[w.heap.size]? = some (.cells #[.int .u32 (A : Int), .int .i64 (n : Int)] 25 (0, 0)) → V.cell? ⟨w.heap.size, 0, none⟩ = some (.int .u32 (A : Int)) ∧ V.cell? ⟨w.heap.size, 1, none⟩ = some (.int .i64 (n : Int))) := Lib.hid (fun V hV => ⟨(blk2 hV).1, (blk2 hV).2.1⟩)
    refine wp_region_held_drew (S := fun V => V.cell? ⟨w.heap.size, 0, none⟩ = some (.int .u32 (A : Int)) ∧ V.cell? ⟨w.heap.size, 1, none⟩ = some (.int .i64 (n : Int))) (by kernel_rfl) ⟨d0, d1⟩ (fun hHeld => ?_)
    clear T3 K3 P3
    refine wpAnyH_take (i := 0) (v := ?_) rfl (by kernel_rfl) (by kernel_rfl) (by kernel_rfl) (fun _ _ _ h => h) (Or.inl ⟨by rfl, ?_⟩) (by assumption) ?_
    rotate_left
    · (intro w' hSw; (try dsimp only at hSw); go_simp; try with_reducible rfl)
    simp only [Act.put, List.getElem_toArray, List.getElem_cons_zero, List.setIfInBounds_toArray, List.set_cons_zero, List.set_cons_succ]
    refine wpAnyH_take (i := 1) (v := ?_) rfl (by kernel_rfl) (by kernel_rfl) (by kernel_rfl) (fun _ _ _ h => h) (Or.inl ⟨by rfl, ?_⟩) (by assumption) ?_
    rotate_left
    · (intro w' hSw; (try dsimp only at hSw); go_simp; try with_reducible rfl)
    simp only [Act.put, List.getElem_toArray, List.getElem_cons_zero, List.getElem_cons_succ, List.setIfInBounds_toArray, List.set_cons_zero, List.set_cons_succ]
    refine wpAnyH_take (i := 3) (v := ?_) rfl (by kernel_rfl) (by kernel_rfl) (by kernel_rfl) (fun _ _ _ h => h) (Or.inl ⟨by rfl, ?_⟩) (by assumption) ?_
    rotate_left
    · (intro w' hSw; (try dsimp only at hSw); go_simp; try with_reducible rfl)
    simp only [Act.put, List.getElem_toArray, List.getElem_cons_zero, List.getElem_cons_succ, List.setIfInBounds_toArray, List.set_cons_zero, List.set_cons_succ]
    refine wpAnyH_take (i := 4) (v := ?_) rfl (by kernel_rfl) (by kernel_rfl) (by kernel_rfl) (fun _ _ _ h => h) (Or.inl ⟨by rfl, ?_⟩) (by assumption) ?_
    rotate_left
    · (intro w' hSw; (try dsimp only at hSw); go_simp; try with_reducible rfl)
    simp only [Act.put, List.getElem_toArray, List.getElem_cons_zero, List.getElem_cons_succ, List.setIfInBounds_toArray, List.set_cons_zero, List.set_cons_succ]
    refine wpAnyH_take (i := 5) (v := ?_) rfl (by kernel_rfl) (by kernel_rfl) (by kernel_rfl) (fun _ _ _ h => h) (Or.inl ⟨by rfl, ?_⟩) (by assumption) ?_
    rotate_left
    · (intro w' hSw; (try dsimp only at hSw); go_simp; try with_reducible rfl)
    simp only [Act.put, List.getElem_toArray, List.getElem_cons_zero, List.getElem_cons_succ, List.setIfInBounds_toArray, List.set_cons_zero, List.set_cons_succ]
    obtain ⟨X0, hX0⟩ : ∃ X0, W3.drew = X0 := ⟨_, rfl⟩
    rw [hX0] at T4 K4 P4 ⊢
    clear hX0 hHeld d0 d1
    refine wpAnyH_ready (rs := [2, 6]) (by kernel_rfl) (by simp) ?_
    refine AllReadyH.cons rfl (fun K hK => ?_) (AllReadyH.cons rfl (fun K hK => ?_) AllReadyH.nil)
    · go_simp
      go_at_call 33
      refine (grow_any tb nd en m _ A n X0 T4.out hA hn).mono ?_
      rintro e X1 ⟨nd', g, rfl, t1, g1, k1, n1⟩
      have hx0 := K4.out.size
      have px1 := (k1.block _ (lt_of_block P4.out) (fun hq => by
        obtain ⟨kk, hq⟩ := hq
        exact nbo_box (T4.out.node _ _ hq) P4.out rfl)).trans P4.out
      refine hK.out _ _ (Sof.out _ px1) (fun _ => ?_)
      clear hK K
      have KF : Hid (Kp (Nk nd) w X1) := Lib.hid (K4.out.trans k1 (fun _ h => .inl h))
      have NF : Hid (∀ j, Nk nd' j → Nk nd j ∨ w.heap.size ≤ j) := Lib.hid (fun j hj => by rcases n1 j hj with q | q; exact .inl q; right; omega)
      have TF0 := Lib.hid t1
      have GF := Lib.hid g1
      have PX1 := Lib.hid px1
      have hx1 := k1.size
      clear t1 g1 k1 n1 px1 T4 K4 P4
      refine wpAnyH_ready (rs := [6]) (by kernel_rfl) (by simp) ?_
      refine AllReadyH.cons rfl (fun K hK => ?_) AllReadyH.nil
      go_simp
      obtain ⟨X2, hX2⟩ : ∃ V', X1.alloc (.cells #[.int .u32 (A : Int), .int .i64 (n : Int), .int .i64 V] 39) = V' := ⟨_, rfl⟩
      obtain ⟨eb, heb⟩ : ∃ eb, X1.heap.size = eb := ⟨_, rfl⟩
      have b2 : Below X1.heap.size X1 X2 := by rw [← hX2]; exact below_alloc1 _ _
      have EF : Hid (X2.heap[eb]? = some (ebo ⟨A, (n : Int), V⟩)) := Lib.hid (by rw [← hX2, ← heb]; exact Go.heap_alloc_new _ _)
      have PF : Hid (X2.heap[w.heap.size]? = some (.cells #[.int .u32 (A : Int), .int .i64 (n : Int)] 25 (0, 0))) := Lib.hid ((b2.block _ (lt_of_block PX1.out)).trans PX1.out)
      have TF := Lib.hid (TF0.out.below b2)
      have hew := Lib.hid (show w.heap.size ≤ eb by have := KF.out.size; omega)
      have KF2 : Hid (Kp (Nk nd) w X2) := Lib.hid (KF.out.then_below b2 (Nat.le_refl _))
      clear KF b2 TF0 PX1 hx0 hx1
      have KF := KF2
      clear KF2
      rw [hX2, heb]
      refine hK.out _ _ (Sof.out _ PF.out) (fun _ => ?_)
      clear hK K hX2 heb
      obtain ⟨_, _, q2, _, _, f2⟩ := (show Tn X2 tb nd' en m _ from TF.out).cells GF.out
      have FIN := Lib.hid (set_fin (x := ⟨A, (n : Int), V⟩) HS.out HP.out hA TF.out (by rw [HKX.out]; exact GF.out) EF.out hew.out KF.out NF.out)
      refine wpAnyH_take (i := 7) (v := ?_) rfl (by kernel_rfl) (by kernel_rfl) (by kernel_rfl) (fun _ _ _ h => h) (Or.inl ⟨by rfl, ?_⟩) (by assumption) ?_
      rotate_left
      · (intro w' hSw; (try dsimp only at hSw); go_simp; try with_reducible rfl)
      simp only [Act.put, List.getElem_toArray, List.getElem_cons_zero, List.getElem_cons_succ, List.setIfInBounds_toArray, List.set_cons_zero, List.set_cons_succ]
      refine wpAnyH_take (i := 8) (v := ?_) rfl (by kernel_rfl) (by kernel_rfl) (by kernel_rfl) (fun _ _ _ h => h) (Or.inl ⟨by rfl, ?_⟩) (by assumption) ?_
      rotate_left
      · (intro w' hSw; (try dsimp only at hSw); go_simp; try with_reducible rfl)
      simp only [Act.put, List.getElem_toArray, List.getElem_cons_zero, List.getElem_cons_succ, List.setIfInBounds_toArray, List.set_cons_zero, List.set_cons_succ]
      refine wpAnyH_ready (rs := [9]) (by kernel_rfl) (by simp) ?_
      refine AllReadyH.cons rfl (fun K hK => ?_) AllReadyH.nil
      have pfin : (X2.setCell ⟨g, 2, none⟩ (.pointer (some ⟨eb, 0, none⟩))).heap[w.heap.size]? = some (.cells #[.int .u32 (A : Int), .int .i64 (n : Int)] 25 (0, 0)) := by
        rw [heap_setCell_other _ _ _ _ (nbo_box (TF.out.node _ _ GF.out) PF.out)]
        exact PF.out
      have SF := Lib.hid (Sof.out _ pfin)
      clear pfin
      go_simp
      refine hK.out _ _ SF.out (fun _ => ?_)
      clear hK K
      refine wpAnyH_done (by kernel_rfl) ?_ _
      go_wp2
      go_ret
      exact ⟨rfl, FIN.out⟩
    · go_simp
      obtain ⟨X1, hX1⟩ : ∃ V', X0.alloc (.cells #[.int .u32 (A : Int), .int .i64 (n : Int), .int .i64 V] 39) = V' := ⟨_, rfl⟩
      obtain ⟨eb, heb⟩ : ∃ eb, X0.heap.size = eb := ⟨_, rfl⟩
      have b1 : Below X0.heap.size X0 X1 := by rw [← hX1]; exact below_alloc1 _ _
      have E1 : Hid (X1.heap[eb]? = some (ebo ⟨A, (n : Int), V⟩)) := Lib.hid (by rw [← hX1, ← heb]; exact Go.heap_alloc_new _ _)
      have P1 : Hid (X1.heap[w.heap.size]? = some (.cells #[.int .u32 (A : Int), .int .i64 (n : Int)] 25 (0, 0))) := Lib.hid ((b1.block _ (lt_of_block P4.out)).trans P4.out)
      have T1 := Lib.hid (T4.out.below b1)
      have hew := Lib.hid (show w.heap.size ≤ eb by have := K4.out.size; omega)
      have K1 : Hid (Kp (Nk nd) w X1) := Lib.hid (K4.out.then_below b1 (Nat.le_refl _))
      clear b1 T4 K4 P4
      rw [hX1, heb]
      refine hK.out _ _ (Sof.out _ P1.out) (fun _ => ?_)
      clear hK K hX1 heb
      refine wpAnyH_ready (rs := [2]) (by kernel_rfl) (by simp) ?_
      refine AllReadyH.cons rfl (fun K hK => ?_) AllReadyH.nil
      go_simp
      go_at_call 33
      refine (grow_any tb nd en m _ A n X1 T1.out hA hn).mono ?_
      rintro e X2 ⟨nd', g, rfl, t1, g1, k1, n1⟩
      have hx0 := K1.out.size
      have px1 := (k1.block _ (lt_of_block P1.out) (fun hq => by
        obtain ⟨kk, hq⟩ := hq
        exact nbo_box (T1.out.node _ _ hq) P1.out rfl)).trans P1.out
      have ex1 := (k1.block _ (lt_of_block E1.out) (fun hq => by
        obtain ⟨kk, hq⟩ := hq
        exact nbo_ebo (T1.out.node _ _ hq) E1.out rfl)).trans E1.out
      refine hK.out _ _ (Sof.out _ px1) (fun _ => ?_)
      clear hK K
      have KF : Hid (Kp (Nk nd) w X2) := Lib.hid (K1.out.trans k1 (fun _ h => .inl h))
      have NF : Hid (∀ j, Nk nd' j → Nk nd j ∨ w.heap.size ≤ j) := Lib.hid (fun j hj => by rcases n1 j hj with q | q; exact .inl q; right; omega)
      have TF := Lib.hid t1
      have GF := Lib.hid g1
      have PF := Lib.hid px1
      have EF := Lib.hid ex1
      clear t1 g1 k1 n1 px1 ex1 T1 K1 P1 E1 hx0
      obtain ⟨_, _, q2, _, _, f2⟩ := (show Tn X2 tb nd' en m _ from TF.out).cells GF.out
      have FIN := Lib.hid (set_fin (x := ⟨A, (n : Int), V⟩) HS.out HP.out hA TF.out (by rw [HKX.out]; exact GF.out) EF.out hew.out KF.out NF.out)
      refine wpAnyH_take (i := 7) (v := ?_) rfl (by kernel_rfl) (by kernel_rfl) (by kernel_rfl) (fun _ _ _ h => h) (Or.inl ⟨by rfl, ?_⟩) (by assumption) ?_
      rotate_left
      · (intro w' hSw; (try dsimp only at hSw); go_simp; try with_reducible rfl)
      simp only [Act.put, List.getElem_toArray, List.getElem_cons_zero, List.getElem_cons_succ, List.setIfInBounds_toArray, List.set_cons_zero, List.set_cons_succ]
      refine wpAnyH_take (i := 8) (v := ?_) rfl (by kernel_rfl) (by kernel_rfl) (by kernel_rfl) (fun _ _ _ h => h) (Or.inl ⟨by rfl, ?_⟩) (by assumption) ?_
      rotate_left
      · (intro w' hSw; (try dsimp only at hSw); go_simp; try with_reducible rfl)
      simp only [Act.put, List.getElem_toArray, List.getElem_cons_zero, List.getElem_cons_succ, List.setIfInBounds_toArray, List.set_cons_zero, List.set_cons_succ]
      refine wpAnyH_ready (rs := [9]) (by kernel_rfl) (by simp) ?_
      refine AllReadyH.cons rfl (fun K hK => ?_) AllReadyH.nil
      have pfin : (X2.setCell ⟨g, 2, none⟩ (.pointer (some ⟨eb, 0, none⟩))).heap[w.heap.size]? = some (.cells #[.int .u32 (A : Int), .int .i64 (n : Int)] 25 (0, 0)) := by
        rw [heap_setCell_other _ _ _ _ (nbo_box (TF.out.node _ _ GF.out) PF.out)]
        exact PF.out
      have SF := Lib.hid (Sof.out _ pfin)
      clear pfin
      go_simp
      refine hK.out _ _ SF.out (fun _ => ?_)
      clear hK K
      refine wpAnyH_done (by kernel_rfl) ?_ _
      go_wp2
      go_ret
      exact ⟨rfl, FIN.out⟩
  | some y =>
    rw [hg] at cg hlen
    simp only [gtv] at cg
    simp only [reduceCtorEq, if_false] at hlen
    go_wp2_with fail
    refine cg.mono ?_
    rintro e W3 ⟨rfl, hb2⟩
    have b2 : Below w.heap.size w W3 := b1.trans (hb2.mono b1.size)
    have p2 := (hb2.block _ (lt_of_block p1)).trans p1
    have T3 : Hid (Tn W3 tb nd en m ((setm m ⟨A, (n : Int), V⟩).length : Int)) := Lib.hid (by rw [hlen]; exact h.below b2)
    have K3 : Hid (Kp (Nk nd) w W3) := Lib.hid (Kp.of_below b2 (Nat.le_refl _))
    have P3 := Lib.hid p2
    clear c0 c1 cg b1 b2 p1 p2 P0 B0 hb1 hb2 hlen hg hs0
    go_upto_region 8 with fail
    obtain ⟨d0, d1, _, _⟩ := blk2 (w := W3.drew) P3.out
    have T4 : Hid (Tn W3.drew tb nd en m ((setm m ⟨A, (n : Int), V⟩).length : Int)) := Lib.hid T3.out.drew
    have K4 : Hid (Kp (Nk nd) w W3.drew) := Lib.hid K3.out.drew
    have P4 : Hid (W3.drew.heap[w.heap.size]? = some (.cells #[.int .u32 (A : Int), .int .i64 (n : Int)] 25 (0, 0))) := P3
    have Sof : Hid (∀ V : World, V.heap[w.heap.size]? = some (.cells #[.int .u32 (A : Int), .int .i64 (n : Int)] 25 (0, 0)) → V.cell? ⟨w.heap.size, 0, none⟩ = some (.int .u32 (A : Int)) ∧ V.cell? ⟨w.heap.size, 1, none⟩ = some (.int .i64 (n : Int))) := Lib.hid (fun V hV => ⟨(blk2 hV).1, (blk2 hV).2.1⟩)
    refine wp_region_held_drew (S := fun V => V.cell? ⟨w.heap.size, 0, none⟩ = some (.int .u32 (A : Int)) ∧ V.cell? ⟨w.heap.size, 1, none⟩ = some (.int .i64 (n : Int))) (by kernel_rfl) ⟨d0, d1⟩ (fun hHeld => ?_)
    clear T3 K3 P3
    refine wpAnyH_take (i := 0) (v := ?_) rfl (by kernel_rfl) (by kernel_rfl) (by kernel_rfl) (fun _ _ _ h => h) (Or.inl ⟨by rfl, ?_⟩) (by assumption) ?_
    rotate_left
    · (intro w' hSw; (try dsimp only at hSw); go_simp; try with_reducible rfl)
    simp only [Act.put, List.getElem_toArray, List.getElem_cons_zero, List.setIfInBounds_toArray, List.set_cons_zero, List.set_cons_succ]
    refine wpAnyH_take (i := 1) (v := ?_) rfl (by kernel_rfl) (by kernel_rfl) (by kernel_rfl) (fun _ _ _ h => h) (Or.inl ⟨by rfl, ?_⟩) (by assumption) ?_
    rotate_left
    · (intro w' hSw; (try dsimp only at hSw); go_simp; try with_reducible rfl)
    simp only [Act.put, List.getElem_toArray, List.getElem_cons_zero, List.getElem_cons_succ, List.setIfInBounds_toArray, List.set_cons_zero, List.set_cons_succ]
    refine wpAnyH_take (i := 3) (v := ?_) rfl (by kernel_rfl) (by kernel_rfl) (by kernel_rfl) (fun _ _ _ h => h) (Or.inl ⟨by rfl, ?_⟩) (by assumption) ?_
    rotate_left
    · (intro w' hSw; (try dsimp only at hSw); go_simp; try with_reducible rfl)
    simp only [Act.put, List.getElem_toArray, List.getElem_cons_zero, List.getElem_cons_succ, List.setIfInBounds_toArray, List.set_cons_zero, List.set_cons_succ]
    refine wpAnyH_take (i := 4) (v := ?_) rfl (by kernel_rfl) (by kernel_rfl) (by kernel_rfl) (fun _ _ _ h => h) (Or.inl ⟨by rfl, ?_⟩) (by assumption) ?_
    rotate_left
    · (intro w' hSw; (try dsimp only at hSw); go_simp; try with_reducible rfl)
    simp only [Act.put, List.getElem_toArray, List.getElem_cons_zero, List.getElem_cons_succ, List.setIfInBounds_toArray, List.set_cons_zero, List.set_cons_succ]
    refine wpAnyH_take (i := 5) (v := ?_) rfl (by kernel_rfl) (by kernel_rfl) (by kernel_rfl) (fun _ _ _ h => h) (Or.inl ⟨by rfl, ?_⟩) (by assumption) ?_
    rotate_left
    · (intro w' hSw; (try dsimp only at hSw); go_simp; try with_reducible rfl)
    simp only [Act.put, List.getElem_toArray, List.getElem_cons_zero, List.getElem_cons_succ, List.setIfInBounds_toArray, List.set_cons_zero, List.set_cons_succ]
    obtain ⟨X0, hX0⟩ : ∃ X0, W3.drew = X0 := ⟨_, rfl⟩
    rw [hX0] at T4 K4 P4 ⊢
    clear hX0 hHeld d0 d1
    refine wpAnyH_ready (rs := [2, 6]) (by kernel_rfl) (by simp) ?_
    refine AllReadyH.cons rfl (fun K hK => ?_) (AllReadyH.cons rfl (fun K hK => ?_) AllReadyH.nil)
    · go_simp
      go_at_call 33
      refine (grow_any tb nd en m _ A n X0 T4.out hA hn).mono ?_
      rintro e X1 ⟨nd', g, rfl, t1, g1, k1, n1⟩
      have hx0 := K4.out.size
      have px1 := (k1.block _ (lt_of_block P4.out) (fun hq => by
        obtain ⟨kk, hq⟩ := hq
        exact nbo_box (T4.out.node _ _ hq) P4.out rfl)).trans P4.out
      refine hK.out _ _ (Sof.out _ px1) (fun _ => ?_)
      clear hK K
      have KF : Hid (Kp (Nk nd) w X1) := Lib.hid (K4.out.trans k1 (fun _ h => .inl h))
      have NF : Hid (∀ j, Nk nd' j → Nk nd j ∨ w.heap.size ≤ j) := Lib.hid (fun j hj => by rcases n1 j hj with q | q; exact .inl q; right; omega)
      have TF0 := Lib.hid t1
      have GF := Lib.hid g1
      have PX1 := Lib.hid px1
      have hx1 := k1.size
      clear t1 g1 k1 n1 px1 T4 K4 P4
      refine wpAnyH_ready (rs := [6]) (by kernel_rfl) (by simp) ?_
      refine AllReadyH.cons rfl (fun K hK => ?_) AllReadyH.nil
      go_simp
      obtain ⟨X2, hX2⟩ : ∃ V', X1.alloc (.cells #[.int .u32 (A : Int), .int .i64 (n : Int), .int .i64 V] 39) = V' := ⟨_, rfl⟩
      obtain ⟨eb, heb⟩ : ∃ eb, X1.heap.size = eb := ⟨_, rfl⟩
      have b2 : Below X1.heap.size X1 X2 := by rw [← hX2]; exact below_alloc1 _ _
      have EF : Hid (X2.heap[eb]? = some (ebo ⟨A, (n : Int), V⟩)) := Lib.hid (by rw [← hX2, ← heb]; exact Go.heap_alloc_new _ _)
      have PF : Hid (X2.heap[w.heap.size]? = some (.cells #[.int .u32 (A : Int), .int .i64 (n : Int)] 25 (0, 0))) := Lib.hid ((b2.block _ (lt_of_block PX1.out)).trans PX1.out)
      have TF := Lib.hid (TF0.out.below b2)
      have hew := Lib.hid (show w.heap.size ≤ eb by have := KF.out.size; omega)
      have KF2 : Hid (Kp (Nk nd) w X2) := Lib.hid (KF.out.then_below b2 (Nat.le_refl _))
      clear KF b2 TF0 PX1 hx0 hx1
      have KF := KF2
      clear KF2
      rw [hX2, heb]
      refine hK.out _ _ (Sof.out _ PF.out) (fun _ => ?_)
      clear hK K hX2 heb
      obtain ⟨_, _, q2, _, _, f2⟩ := (show Tn X2 tb nd' en m _ from TF.out).cells GF.out
      have FIN := Lib.hid (set_fin (x := ⟨A, (n : Int), V⟩) HS.out HP.out hA TF.out (by rw [HKX.out]; exact GF.out) EF.out hew.out KF.out NF.out)
      refine wpAnyH_take (i := 7) (v := ?_) rfl (by kernel_rfl) (by kernel_rfl) (by kernel_rfl) (fun _ _ _ h => h) (Or.inl ⟨by rfl, ?_⟩) (by assumption) ?_
      rotate_left
      · (intro w' hSw; (try dsimp only at hSw); go_simp; try with_reducible rfl)
      simp only [Act.put, List.getElem_toArray, List.getElem_cons_zero, List.getElem_cons_succ, List.setIfInBounds_toArray, List.set_cons_zero, List.set_cons_succ]
      refine wpAnyH_take (i := 8) (v := ?_) rfl (by kernel_rfl) (by kernel_rfl) (by kernel_rfl) (fun _ _ _ h => h) (Or.inl ⟨by rfl, ?_⟩) (by assumption) ?_
      rotate_left
      · (intro w' hSw; (try dsimp only at hSw); go_simp; try with_reducible rfl)
      simp only [Act.put, List.getElem_toArray, List.getElem_cons_zero, List.getElem_cons_succ, List.setIfInBounds_toArray, List.set_cons_zero, List.set_cons_succ]
      refine wpAnyH_ready (rs := [9]) (by kernel_rfl) (by simp) ?_
      refine AllReadyH.cons rfl (fun K hK => ?_) AllReadyH.nil
      have pfin : (X2.setCell ⟨g, 2, none⟩ (.pointer (some ⟨eb, 0, none⟩))).heap[w.heap.size]? = some (.cells #[.int .u32 (A : Int), .int .i64 (n : Int)] 25 (0, 0)) := by
        rw [heap_setCell_other _ _ _ _ (nbo_box (TF.out.node _ _ GF.out) PF.out)]
        exact PF.out
      have SF := Lib.hid (Sof.out _ pfin)
      clear pfin
      go_simp
      refine hK.out _ _ SF.out (fun _ => ?_)
      clear hK K
      refine wpAnyH_done (by kernel_rfl) ?_ _
      go_wp2
      go_ret
      exact ⟨rfl, FIN.out⟩
    · go_simp
      obtain ⟨X1, hX1⟩ : ∃ V', X0.alloc (.cells #[.int .u32 (A : Int), .int .i64 (n : Int), .int .i64 V] 39) = V' := ⟨_, rfl⟩
      obtain ⟨eb, heb⟩ : ∃ eb, X0.heap.size = eb := ⟨_, rfl⟩
      have b1 : Below X0.heap.size X0 X1 := by rw [← hX1]; exact below_alloc1 _ _
      have E1 : Hid (X1.heap[eb]? = some (ebo ⟨A, (n : Int), V⟩)) := Lib.hid (by rw [← hX1, ← heb]; exact Go.heap_alloc_new _ _)
      have P1 : Hid (X1.heap[w.heap.size]? = some (.cells #[.int .u32 (A : Int), .int .i64 (n : Int)] 25 (0, 0))) := Lib.hid ((b1.block _ (lt_of_block P4.out)).trans P4.out)
      have T1 := Lib.hid (T4.out.below b1)
      have hew := Lib.hid (show w.heap.size ≤ eb by have := K4.out.size; omega)
      have K1 : Hid (Kp (Nk nd) w X1) := Lib.hid (K4.out.then_below b1 (Nat.le_refl _))
      clear b1 T4 K4 P4
      rw [hX1, heb]
      refine hK.out _ _ (Sof.out _ P1.out) (fun _ => ?_)
      clear hK K hX1 heb
      refine wpAnyH_ready (rs := [2]) (by kernel_rfl) (by simp) ?_
      refine AllReadyH.cons rfl (fun K hK => ?_) AllReadyH.nil
      go_simp
      go_at_call 33
      refine (grow_any tb nd en m _ A n X1 T1.out hA hn).mono ?_
      rintro e X2 ⟨nd', g, rfl, t1, g1, k1, n1⟩
      have hx0 := K1.out.size
      have px1 := (k1.block _ (lt_of_block P1.out) (fun hq => by
        obtain ⟨kk, hq⟩ := hq
        exact nbo_box (T1.out.node _ _ hq) P1.out rfl)).trans P1.out
      have ex1 := (k1.block _ (lt_of_block E1.out) (fun hq => by
        obtain ⟨kk, hq⟩ := hq
        exact nbo_ebo (T1.out.node _ _ hq) E1.out rfl)).trans E1.out
      refine hK.out _ _ (Sof.out _ px1) (fun _ => ?_)
      clear hK K
      have KF : Hid (Kp (Nk nd) w X2) := Lib.hid (K1.out.trans k1 (fun _ h => .inl h))
      have NF : Hid (∀ j, Nk nd' j → Nk nd j ∨ w.heap.size ≤ j) := Lib.hid (fun j hj => by rcases n1 j hj with q | q; exact .inl q; right; omega)
      have TF := Lib.hid t1
      have GF := Lib.hid g1
      have PF := Lib.hid px1
      have EF := Lib.hid ex1
      clear t1 g1 k1 n1 px1 ex1 T1 K1 P1 E1 hx0
      obtain ⟨_, _, q2, _, _, f2⟩ := (show Tn X2 tb nd' en m _ from TF.out).cells GF.out
      have FIN := Lib.hid (set_fin (x := ⟨A, (n : Int), V⟩) HS.out HP.out hA TF.out (by rw [HKX.out]; exact GF.out) EF.out hew.out KF.out NF.out)
      refine wpAnyH_take (i := 7) (v := ?_) rfl (by kernel_rfl) (by kernel_rfl) (by kernel_rfl) (fun _ _ _ h => h) (Or.inl ⟨by rfl, ?_⟩) (by assumption) ?_
      rotate_left
      · (intro w' hSw; (try dsimp only at hSw); go_simp; try with_reducible rfl)
      simp only [Act.put, List.getElem_toArray, List.getElem_cons_zero, List.getElem_cons_succ, List.setIfInBounds_toArray, List.set_cons_zero, List.set_cons_succ]
      refine wpAnyH_take (i := 8) (v := ?_) rfl (by kernel_rfl) (by kernel_rfl) (by kernel_rfl) (fun _ _ _ h => h) (Or.inl ⟨by rfl, ?_⟩) (by assumption) ?_
      rotate_left
      · (intro w' hSw; (try dsimp only at hSw); go_simp; try with_reducible rfl)
      simp only [Act.put, List.getElem_toArray, List.getElem_cons_zero, List.getElem_cons_succ, List.setIfInBounds_toArray, List.set_cons_zero, List.set_cons_succ]
      refine wpAnyH_ready (rs := [9]) (by kernel_rfl) (by simp) ?_
      refine AllReadyH.cons rfl (fun K hK => ?_) AllReadyH.nil
      have pfin : (X2.setCell ⟨g, 2, none⟩ (.pointer (some ⟨eb, 0, none⟩))).heap[w.heap.size]? = some (.cells #[.int .u32 (A : Int), .int .i64 (n : Int)] 25 (0, 0)) := by
        rw [heap_setCell_other _ _ _ _ (nbo_box (TF.out.node _ _ GF.out) PF.out)]
        exact PF.out
      have SF := Lib.hid (Sof.out _ pfin)
      clear pfin
      go_simp
      refine hK.out _ _ SF.out (fun _ => ?_)
      clear hK K
      refine wpAnyH_done (by kernel_rfl) ?_ _
      go_wp2
      go_ret
      exact ⟨rfl, FIN.out⟩
end Go.Proofs.Ytlmcgjdenfnkmaa
