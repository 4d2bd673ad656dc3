/-
  Contracts of the trie's Below and Walk. No statement is proved here; no conditions.
-/
import Derived.Test.YtlmcgjdenfnkmaaVis
namespace Go.Proofs.Ytlmcgjdenfnkmaa
open Go.RowKit Go.Joins

set_option maxRecDepth 100000 in
set_option maxHeartbeats 1000000 in
theorem below_core (tv pn : Value) (A : Nat) (N : Int) (R : List En) (w : World)
    (hat : ∀ W, Below w.heap.size w W → Calls Try.prog 35 #[tv, pf A N] W fun e w' => e = .returned pn ∧ Below W.heap.size W w')
    (hvis : ∀ W, Below w.heap.size w W → w.heap.size + 3 ≤ W.heap.size → Vt (w.heap.size + 3) (w.heap.size + 1) (w.heap.size + 2) W [] → Calls Try.prog 34 #[pn, .pointer (some ⟨w.heap.size + 1, 0, none⟩), .pointer (some ⟨w.heap.size + 2, 0, none⟩)] W fun e w' => Vis (w.heap.size + 3) (w.heap.size + 1) (w.heap.size + 2) W R e w') :
    Calls Try.prog 20 #[tv, pf A N] w fun e w' => Got w R e w' := by
  obtain ⟨W0, hW0⟩ : ∃ W0, w.alloc (.cells #[.int .u32 (A : Int), .int .i64 N] 25) = W0 := ⟨_, rfl⟩
  have s0 : W0.heap.size = w.heap.size + 1 := by rw [← hW0]; simp
  have b0 : Below w.heap.size w W0 := by rw [← hW0]; exact below_alloc1 _ _
  have p0 : W0.heap[w.heap.size]? = some (.cells #[.int .u32 (A : Int), .int .i64 N] 25 (0, 0)) := by rw [← hW0]; exact Go.heap_alloc_new _ _
  obtain ⟨W1, hW1⟩ : ∃ W1, W0.alloc (.cells #[.slice none 0 0] 28) = W1 := ⟨_, rfl⟩
  have s1 : W1.heap.size = w.heap.size + 2 := by rw [← hW1]; simp [s0]
  have b1 : Below W0.heap.size W0 W1 := by rw [← hW1]; exact below_alloc1 _ _
  have o1 : W1.heap[w.heap.size + 1]? = some (.cells #[.slice none 0 0] 28 (0, 0)) := by rw [← hW1, ← s0]; exact Go.heap_alloc_new _ _
  obtain ⟨W2, hW2⟩ : ∃ W2, W1.alloc (.cells #[.nilFunc] 71) = W2 := ⟨_, rfl⟩
  have s2 : W2.heap.size = w.heap.size + 3 := by rw [← hW2]; simp [s1]
  have b2 : Below W1.heap.size W1 W2 := by rw [← hW2]; exact below_alloc1 _ _
  have v2 : W2.heap[w.heap.size + 2]? = some (.cells #[.nilFunc] 71 (0, 0)) := by rw [← hW2, ← s1]; exact Go.heap_alloc_new _ _
  obtain ⟨vc, vf⟩ := one_at v2
  obtain ⟨W3, hW3⟩ : ∃ W3, W2.setCell ⟨w.heap.size + 2, 0, none⟩ (fnv (w.heap.size + 1) (w.heap.size + 2)) = W3 := ⟨_, rfl⟩
  have k3 : Kp (· = w.heap.size + 2) W2 W3 := by rw [← hW3]; exact Kp.setCell _ _ _ rfl
  have v3 : W3.heap[w.heap.size + 2]? = some (.cells #[fnv (w.heap.size + 1) (w.heap.size + 2)] 71 (0, 0)) := by
    rw [← hW3, heap_setCell_same _ _ 0 _ _ _ v2]
    rfl
  have o3 : W3.heap[w.heap.size + 1]? = some (.cells #[.slice none 0 0] 28 (0, 0)) := (k3.block _ (by omega) (by omega)).trans ((b2.block _ (by omega)).trans o1)
  have p3 : W3.heap[w.heap.size]? = some (.cells #[.int .u32 (A : Int), .int .i64 N] 25 (0, 0)) := (k3.block _ (by omega) (by omega)).trans ((b2.block _ (by omega)).trans ((b1.block _ (by omega)).trans p0))
  have bb3 : Below w.heap.size w W3 := b0.trans ((b1.mono (by omega)).trans ((b2.mono (by omega)).trans (k3.below (fun j hj => by omega) (by omega))))
  have s3 : w.heap.size + 3 ≤ W3.heap.size := by have := k3.size; omega
  have V3 : Hid (Vt (w.heap.size + 3) (w.heap.size + 1) (w.heap.size + 2) W3.drew []) := Lib.hid ⟨none, 0, o3, v3, .inl ⟨rfl, rfl, rfl⟩⟩
  have BB3 : Hid (Below w.heap.size w W3.drew) := Lib.hid (bb3.trans (below_draws _ W3 1))
  have S3 : Hid (w.heap.size + 3 ≤ W3.drew.heap.size) := Lib.hid s3
  have P3 : Hid (W3.drew.heap[w.heap.size]? = some (.cells #[.int .u32 (A : Int), .int .i64 N] 25 (0, 0))) := Lib.hid p3
  obtain ⟨d0, d1, _, _⟩ := blk2 (w := W3.drew) P3.out
  obtain ⟨d2, _⟩ := one_at (w := W3.drew) v3
  have HAT := Lib.hid hat
  have HVIS := Lib.hid hvis
  have Sof : Hid (∀ V : World, V.heap[w.heap.size]? = some (.cells #[.int .u32 (A : Int), .int .i64 N] 25 (0, 0)) → V.heap[w.heap.size + 2]? = some (.cells #[fnv (w.heap.size + 1) (w.heap.size + 2)] 71 (0, 0)) → V.cell? ⟨w.heap.size, 0, none⟩ = some (.int .u32 (A : Int)) ∧ V.cell? ⟨w.heap.size, 1, none⟩ = some (.int .i64 N) ∧ V.cell? ⟨w.heap.size + 2, 0, none⟩ = some (fnv (w.heap.size + 1) (w.heap.size + 2))) := Lib.hid (fun V h1 h2 => ⟨(blk2 h1).1, (blk2 h1).2.1, (one_at h2).1⟩)
  clear p0 o1 b0 b1 b2 v2 k3 v3 o3 p3 bb3 s3 hat hvis
  go_enter Try.func20, Try.ntmps20
  go_upto_region 4 with fail
  clear hW0 hW1 hW2 hW3 vc vf
  refine wp_region_held_drew (S := fun V => V.cell? ⟨w.heap.size, 0, none⟩ = some (.int .u32 (A : Int)) ∧ V.cell? ⟨w.heap.size, 1, none⟩ = some (.int .i64 N) ∧ V.cell? ⟨w.heap.size + 2, 0, none⟩ = some (fnv (w.heap.size + 1) (w.heap.size + 2))) (by kernel_rfl) ⟨d0, d1, d2⟩ (fun hHeld => ?_)
  refine wpAnyH_take (i := 0) (v := ?_) rfl (by kernel_rfl) (by kernel_rfl) (by kernel_rfl) (fun _ _ _ h => h) (Or.inl ⟨by rfl, ?_⟩) (by assumption) ?_
  rotate_left
  · (intro w' hSw; (try dsimp only at hSw); go_simp; try with_reducible rfl)
  simp only [Act.put, List.getElem_toArray, List.getElem_cons_zero, List.setIfInBounds_toArray, List.set_cons_zero, List.set_cons_succ]
  refine wpAnyH_take (i := 1) (v := ?_) rfl (by kernel_rfl) (by kernel_rfl) (by kernel_rfl) (fun _ _ _ h => h) (Or.inl ⟨by rfl, ?_⟩) (by assumption) ?_
  rotate_left
  · (intro w' hSw; (try dsimp only at hSw); go_simp; try with_reducible rfl)
  simp only [Act.put, List.getElem_toArray, List.getElem_cons_zero, List.getElem_cons_succ, List.setIfInBounds_toArray, List.set_cons_zero, List.set_cons_succ]
  refine wpAnyH_take (i := 2) (v := ?_) rfl (by kernel_rfl) (by kernel_rfl) (by kernel_rfl) (fun _ _ _ h => h) (Or.inl ⟨by rfl, ?_⟩) (by assumption) ?_
  rotate_left
  · (intro w' hSw; (try dsimp only at hSw); go_simp; try with_reducible rfl)
  simp only [Act.put, List.getElem_toArray, List.getElem_cons_zero, List.getElem_cons_succ, List.setIfInBounds_toArray, List.set_cons_zero, List.set_cons_succ]
  obtain ⟨X0, hX0⟩ : ∃ X, W3.drew = X := ⟨_, rfl⟩
  rw [hX0] at V3 BB3 S3 P3 ⊢
  clear hX0 hHeld d0 d1 d2
  refine wpAnyH_ready (rs := [3]) (by kernel_rfl) (by simp) ?_
  refine AllReadyH.cons rfl (fun K hK => ?_) AllReadyH.nil
  go_simp
  go_at_call 35
  refine (HAT.out _ BB3.out).mono ?_
  rintro e X1 ⟨rfl, hb1⟩
  have BB4 : Hid (Below w.heap.size w X1) := Lib.hid (BB3.out.trans (hb1.mono (by have := S3.out; omega)))
  have S4 : Hid (w.heap.size + 3 ≤ X1.heap.size) := Lib.hid (by have := S3.out; have := hb1.size; omega)
  have V4 : Hid (Vt (w.heap.size + 3) (w.heap.size + 1) (w.heap.size + 2) X1 []) := Lib.hid (by
    obtain ⟨A', c', h1, h2, h3⟩ := V3.out
    exact ⟨A', c', (hb1.block _ (lt_of_block h1)).trans h1, (hb1.block _ (lt_of_block h2)).trans h2, h3.below hb1⟩)
  have P4 : Hid (X1.heap[w.heap.size]? = some (.cells #[.int .u32 (A : Int), .int .i64 N] 25 (0, 0))) := Lib.hid ((hb1.block _ (lt_of_block P3.out)).trans P3.out)
  have SF := Lib.hid (Sof.out X1 P4.out (by obtain ⟨_, _, _, h2, _⟩ := V4.out; exact h2))
  clear hb1 V3 BB3 S3 P3
  refine hK.out _ _ SF.out (fun _ => ?_)
  clear hK K SF
  have cv := HVIS.out X1 BB4.out S4.out V4.out
  have hf1 := enters34 #[pn, .pointer (some ⟨w.heap.size + 1, 0, none⟩), .pointer (some ⟨w.heap.size + 2, 0, none⟩)] X1
  refine wpAnyH_ready (rs := [4]) (by kernel_rfl) (by simp) ?_
  refine AllReadyH.cons rfl (fun K hK => ?_) AllReadyH.nil
  go_simp
  refine cv.mono ?_
  rintro e X2 ⟨rfl, ⟨A', c', h1, h2, h3⟩, k2⟩
  have p5 := (k2.block _ (lt_of_block P4.out) (by omega)).trans P4.out
  have SF := Lib.hid (Sof.out X2 p5 h2)
  have FIN : Hid (Got w R (.returned (.slice A' R.length c')) X2) := Lib.hid ⟨A', c', rfl, h3.more (fun j hj _ => by show w.heap.size ≤ j; omega), BB4.out.trans (k2.below (fun j hj => by omega) BB4.out.size)⟩
  refine hK.out _ _ SF.out (fun _ => ?_)
  clear hK K SF cv hf1 p5 V4 BB4 S4 P4 h2 h3 k2
  refine wpAnyH_done (by kernel_rfl) ?_ _
  obtain ⟨h1, _⟩ := one_at h1
  go_wp2
  go_ret
  exact FIN.out
theorem below_nil (A : Nat) (N : Int) (w : World) (hA : A < 4294967296) : Calls Try.prog 20 #[.pointer none, pf A N] w fun e w' => Got w [] e w' :=
  below_core _ _ A N [] w (fun W _ => at_nil A N W hA) (fun W _ _ hv => vis_nil _ _ _ [] W hv)
theorem below_any (S : Nat → Prop) (tb A : Nat) (N : Int) (m : List En) (w : World) (h : Tz S w tb m) (hA : A < 4294967296) (hm : m.length ≤ 5000) :
    Calls Try.prog 20 #[.pointer (some ⟨tb, 0, none⟩), pf A N] w fun e w' => Got w (m.filter fun x => covp A N x.A x.N) e w' := by
  obtain ⟨nd, en, h, _⟩ := h
  cases hp : okp A N with
  | false =>
    rw [below_bad m hp]
    exact below_core _ _ A N [] w (fun W _ => at_bad tb A N W hA hp) (fun W _ _ hv => vis_nil _ _ _ [] W hv)
  | true =>
    rw [h.om.below hA hp]
    obtain ⟨h0, h1, _⟩ := (okp_iff _ _).1 hp
    obtain ⟨n, rfl⟩ : ∃ n : Nat, N = n := ⟨N.toNat, by omega⟩
    have hn : n ≤ 32 := by omega
    rw [cl_nat n hn]
    refine below_core _ _ A (n : Int) _ w (fun W hb => at_any tb nd en m _ A n W (h.below hb) hA hn hp) (fun W hb hs hv => ?_)
    have := vis_any (w.heap.size + 3) tb (w.heap.size + 1) (w.heap.size + 2) nd en m _ (by omega) (by omega) (by omega) (fun j hj => by have := h.lt hj; omega) (33 - n) n (ky A n) [] W (by omega) (ky_ge hn) (ky_lt hA hn) hs (h.below hb) hv (by have := List.length_filter_le (und n (ky A n)) m; simp; omega)
    simpa using this
theorem walk_nil (w : World) : Calls Try.prog 19 #[.pointer none] w fun e w' => Got w [] e w' := by
  have cb := fun W => below_nil 0 0 W (by omega)
  go_enter Try.func19, Try.ntmps19
  go_wp2_with fail
  refine (cb _).mono ?_
  rintro e W1 ⟨A, c, rfl, h1, h2⟩
  go_wp2
  go_ret
  exact ⟨A, c, rfl, h1, h2⟩
theorem walk_any (S : Nat → Prop) (tb : Nat) (m : List En) (w : World) (h : Tz S w tb m) (hm : m.length ≤ 5000) :
    Calls Try.prog 19 #[.pointer (some ⟨tb, 0, none⟩)] w fun e w' => Got w m e w' := by
  have cb := below_any S tb 0 0 m w h (by omega) hm
  have e0 : (m.filter fun x => covp 0 0 x.A x.N) = m := by
    rw [h.om.below (by omega) rfl, show cl 0 = 0 from rfl, ky_zero (by omega)]
    exact und_zero h.om
  rw [e0] at cb
  go_enter Try.func19, Try.ntmps19
  go_wp2_with fail
  refine cb.mono ?_
  rintro e W1 ⟨A, c, rfl, h1, h2⟩
  go_wp2
  go_ret
  exact ⟨A, c, rfl, h1, h2⟩
end Go.Proofs.Ytlmcgjdenfnkmaa
