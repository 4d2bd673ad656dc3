/-
  The contract of head's Encode. No statement is proved here; no conditions.
-/
import Derived.Test.YtfhickgdmcmodaaLo
namespace Go.Proofs.Ytfhickgdmcmodaa
open Go.RowKit Go.Joins

theorem inet_bd (l : List Int) (hy : Byt l) : 0 ≤ inet l ∧ inet l ≤ 65535 := by
  have hb := isum_bd l hy 0
  have := fold_bd _ hb.1
  unfold inet; omega
theorem byt_au {p : Pk} (ok : Okp p) : Byt (au p) := ok.h
theorem lay_byt (p : Pk) (s : Int) (ok : Okp p) : Byt (lay p s) :=
  (be_byt _ _).append ((be_byt _ _).append ((be_byt _ _).append ((be_byt _ _).append ((be_byt _ _).append ((be_byt _ _).append ((be_byt _ _).append (ok.h.append ok.b)))))))
theorem ck_bd (l : List Int) (hy : Byt l) : 0 ≤ ck l ∧ ck l < 65536 := by
  have := inet_bd _ ((hy.take 12).append ((byt_lit [0, 0] (by decide)).append (((hy.drop 14).take 2).append (hy.drop 24))))
  unfold ck; omega
/-- The encoding of a packet that may be. -/
def enc (p : Pk) : List Int := lay p (ck (lay p 0))
def encE (p : Pk) : Int := if mayp p = true then 0 else 1
def encL (p : Pk) : List Int := if mayp p = true then enc p else []
theorem enc_length (p : Pk) : (enc p).length = 24 + p.b.length := lay_length _ _
theorem enc_byt (p : Pk) (ok : Okp p) : Byt (enc p) := lay_byt _ _ ok
theorem encL_byt (p : Pk) (ok : Okp p) : Byt (encL p) := by
  unfold encL
  split
  · exact enc_byt p ok
  · intro x hx; cases hx
theorem encL_le (p : Pk) : (encL p).length ≤ 1500 := by
  unfold encL
  split
  · rename_i h
    have := (mayp_iff p).1 h
    rw [enc_length]; omega
  · simp
set_option maxRecDepth 100000 in
set_option maxHeartbeats 1000000 in
theorem encode_any (p : Pk) (A : Option Addr) (c : Nat) (w : World) (ok : Okp p) (hb : Bt w A p.b) :
    Calls Try.prog 8 #[pv' p A c] w fun e w' => ∃ A' c', e = .returned (.tuple #[.slice A' (encL p).length c', .int .i64 (encE p)]) ∧ Own .u8 5 w' w.heap.size A' c' (encL p) ∧ Below w.heap.size w w' := by
  obtain ⟨n, hn⟩ : ∃ n, p.b.length = n := ⟨_, rfl⟩
  have HN := Lib.hid hn
  have CM : ∀ V, Calls Try.prog 11 #[.agg #[.int .i64 p.t, .int .u32 p.r, .int .u32 p.a, .int .i64 p.u, .int .u8 p.h0, .int .u8 p.h1, .int .u8 p.h2, .int .u8 p.h3, .int .u8 p.h4, .int .u8 p.h5, .int .u8 p.h6, .int .u8 p.h7, .slice A n c]] V fun e w' => e = .returned (.bool (mayp p)) ∧ Below V.heap.size V w' := fun V => by
    have := may_any p A c V
    unfold pv' at this
    rwa [hn] at this
  unfold pv'
  rw [hn]
  obtain ⟨W0, hW0⟩ : ∃ W0, w.alloc (.cells #[.int .i64 p.t, .int .u32 p.r, .int .u32 p.a, .int .i64 p.u, .int .u8 p.h0, .int .u8 p.h1, .int .u8 p.h2, .int .u8 p.h3, .int .u8 p.h4, .int .u8 p.h5, .int .u8 p.h6, .int .u8 p.h7, .slice A n c] 26) = W0 := ⟨_, rfl⟩
  have b0 : Below w.heap.size w W0 := by rw [← hW0]; exact below_alloc1 _ _
  have s0 : W0.heap.size = w.heap.size + 1 := by rw [← hW0]; simp
  have KX : Hid (∀ V, Below W0.heap.size W0 V → V.cell? ⟨w.heap.size, 0, none⟩ = some (.int .i64 p.t) ∧ V.cell? ⟨w.heap.size, 1, none⟩ = some (.int .u32 p.r) ∧ V.cell? ⟨w.heap.size, 2, none⟩ = some (.int .u32 p.a) ∧ V.cell? ⟨w.heap.size, 3, none⟩ = some (.int .i64 p.u) ∧ V.cell? ⟨w.heap.size, 4, none⟩ = some (.int .u8 p.h0) ∧ V.cell? ⟨w.heap.size, 5, none⟩ = some (.int .u8 p.h1) ∧ V.cell? ⟨w.heap.size, 6, none⟩ = some (.int .u8 p.h2) ∧ V.cell? ⟨w.heap.size, 7, none⟩ = some (.int .u8 p.h3) ∧ V.cell? ⟨w.heap.size, 8, none⟩ = some (.int .u8 p.h4) ∧ V.cell? ⟨w.heap.size, 9, none⟩ = some (.int .u8 p.h5) ∧ V.cell? ⟨w.heap.size, 10, none⟩ = some (.int .u8 p.h6) ∧ V.cell? ⟨w.heap.size, 11, none⟩ = some (.int .u8 p.h7) ∧ V.cell? ⟨w.heap.size, 12, none⟩ = some (.slice A n c)) := Lib.hid (fun V hV => kb_new hW0 hV)
  have q0 := hb.step b0
  have HB : Hid (Below w.heap.size w W0) := Lib.hid b0
  clear b0 hb
  by_cases hm : mayp p = true
  · have e1 : encE p = 0 := by simp [encE, hm]
    have e2 : encL p = enc p := by simp [encL, hm]
    rw [e1, e2, enc_length, hn]
    clear e1 e2
    have CL : ∀ V s, Below W0.heap.size W0 V → 0 ≤ s → s < 65536 → Calls Try.prog 18 #[.agg #[.int .i64 p.t, .int .u32 p.r, .int .u32 p.a, .int .i64 p.u, .int .u8 p.h0, .int .u8 p.h1, .int .u8 p.h2, .int .u8 p.h3, .int .u8 p.h4, .int .u8 p.h5, .int .u8 p.h6, .int .u8 p.h7, .slice A n c], .int .i64 s] V fun e w' => ∃ A' c', e = .returned (.slice A' (24 + n) c') ∧ Own .u8 5 w' V.heap.size A' c' (lay p s) ∧ Below V.heap.size V w' := fun V s hV h0 h1 => by
      have := layout_any p A c s V ok hm (q0.step hV) h0 h1
      unfold pv' at this
      rwa [hn] at this
    have hl : (lay p 0).length = 24 + n := by rw [lay_length, hn]
    have hy := lay_byt p 0 ok
    have hk := ck_bd _ hy
    have hn2 : n ≤ 1476 := by have := (mayp_iff p).1 hm; omega
    obtain ⟨L, hL⟩ : ∃ L, lay p 0 = L := ⟨_, rfl⟩
    have HE : Hid (enc p = lay p (ck L)) := Lib.hid (by rw [← hL]; rfl)
    rw [hL] at hl hy hk
    obtain ⟨N, hN⟩ : ∃ N, ck L = N := ⟨_, rfl⟩
    have HK := Lib.hid hN
    rw [hN] at hk
    have cl0 : ∀ V, Below W0.heap.size W0 V → Calls Try.prog 18 #[.agg #[.int .i64 p.t, .int .u32 p.r, .int .u32 p.a, .int .i64 p.u, .int .u8 p.h0, .int .u8 p.h1, .int .u8 p.h2, .int .u8 p.h3, .int .u8 p.h4, .int .u8 p.h5, .int .u8 p.h6, .int .u8 p.h7, .slice A n c], .int .i64 0] V fun e w' => ∃ A' c', e = .returned (.slice A' (24 + n) c') ∧ Own .u8 5 w' V.heap.size A' c' L ∧ Below V.heap.size V w' := fun V hV => by
      have := CL V 0 hV (by omega) (by omega)
      rwa [hL] at this
    have cck : ∀ V A' c', Own .u8 5 V V.heap.size A' c' L ∨ Bt V A' L ∧ 24 + n ≤ c' → True := fun _ _ _ _ => trivial
    clear hL hN cck
    obtain ⟨k0, k1, k2, k3, k4, k5, k6, k7, k8, k9, k10, k11, k12⟩ := KX.out _ (Below.refl _ _)
    go_enter Try.func8, Try.ntmps8
    go_wp2_with fail
    refine (CM _).mono ?_
    rintro e X0 ⟨rfl, t0⟩
    rw [hm]
    clear k0 k1 k2 k3 k4 k5 k6 k7 k8 k9 k10 k11 k12
    go_wp2_with fail
    refine wp_region_held_drew (S := fun V => V.cell? ⟨w.heap.size, 0, none⟩ = some (.int .i64 p.t) ∧ V.cell? ⟨w.heap.size, 1, none⟩ = some (.int .u32 p.r) ∧ V.cell? ⟨w.heap.size, 2, none⟩ = some (.int .u32 p.a) ∧ V.cell? ⟨w.heap.size, 3, none⟩ = some (.int .i64 p.u) ∧ V.cell? ⟨w.heap.size, 4, none⟩ = some (.int .u8 p.h0) ∧ V.cell? ⟨w.heap.size, 5, none⟩ = some (.int .u8 p.h1) ∧ V.cell? ⟨w.heap.size, 6, none⟩ = some (.int .u8 p.h2) ∧ V.cell? ⟨w.heap.size, 7, none⟩ = some (.int .u8 p.h3) ∧ V.cell? ⟨w.heap.size, 8, none⟩ = some (.int .u8 p.h4) ∧ V.cell? ⟨w.heap.size, 9, none⟩ = some (.int .u8 p.h5) ∧ V.cell? ⟨w.heap.size, 10, none⟩ = some (.int .u8 p.h6) ∧ V.cell? ⟨w.heap.size, 11, none⟩ = some (.int .u8 p.h7) ∧ V.cell? ⟨w.heap.size, 12, none⟩ = some (.slice A n c)) (by kernel_rfl) (KX.out _ t0.drew) (fun hHeld => ?_)
    refine wpAnyH_take (i := 0) (v := ?_) rfl (by kernel_rfl) (by kernel_rfl) (by kernel_rfl) (fun _ _ _ h => h) (Or.inl ⟨by rfl, ?_⟩) (by assumption) ?_
    rotate_left
    · (intro w' hSw; (try dsimp only at hSw); go_simp; try with_reducible rfl)
    simp only [Act.put, List.getElem_toArray, List.getElem_cons_zero, List.setIfInBounds_toArray, List.set_cons_zero, List.set_cons_succ]
    refine wpAnyH_take (i := 1) (v := ?_) rfl (by kernel_rfl) (by kernel_rfl) (by kernel_rfl) (fun _ _ _ h => h) (Or.inl ⟨by rfl, ?_⟩) (by assumption) ?_
    rotate_left
    · (intro w' hSw; (try dsimp only at hSw); go_simp; try with_reducible rfl)
    simp only [Act.put, List.getElem_toArray, List.getElem_cons_zero, List.getElem_cons_succ, List.setIfInBounds_toArray, List.set_cons_zero, List.set_cons_succ]
    replace t0 : Below W0.heap.size W0 X0.drew := t0.drew
    generalize hX0 : X0.drew = X1 at t0 ⊢
    clear hX0 hHeld
    refine wpAnyH_ready (rs := [2]) (by kernel_rfl) (by simp) ?_
    refine AllReadyH.cons rfl (fun K hK => ?_) AllReadyH.nil
    go_simp
    go_at_call 18
    refine (cl0 _ t0).mono ?_
    rintro e X2 ⟨A2, c2, rfl, o2, u2⟩
    have t2 : Below W0.heap.size W0 X2 := t0.trans (u2.mono t0.size)
    refine hK.out _ _ (KX.out _ t2) (fun _ => ?_)
    clear hK K
    have cc := check_any A2 c2 L X2 o2.bs hy (by omega) o2.cap_le (by omega)
    rw [hl, HK.out] at cc
    refine wpAnyH_ready (rs := [3]) (by kernel_rfl) (by simp) ?_
    refine AllReadyH.cons rfl (fun K hK => ?_) AllReadyH.nil
    go_simp
    go_at_call 19
    refine (cc).mono ?_
    rintro e X3 ⟨rfl, u3⟩
    have t3 : Below W0.heap.size W0 X3 := t2.trans (u3.mono t2.size)
    refine hK.out _ _ (KX.out _ t3) (fun _ => ?_)
    clear hK K
    refine wpAnyH_ready (rs := [4]) (by kernel_rfl) (by simp) ?_
    refine AllReadyH.cons rfl (fun K hK => ?_) AllReadyH.nil
    go_simp
    go_at_call 18
    refine (CL _ N t3 hk.1 hk.2).mono ?_
    rintro e X4 ⟨A4, c4, rfl, o4, u4⟩
    have t4 : Below W0.heap.size W0 X4 := t3.trans (u4.mono t3.size)
    refine hK.out _ _ (KX.out _ t4) (fun _ => ?_)
    clear hK K
    refine wpAnyH_ready (rs := [5]) (by kernel_rfl) (by simp) ?_
    refine AllReadyH.cons rfl (fun K hK => ?_) AllReadyH.nil
    go_simp
    refine hK.out _ _ (KX.out _ t4) (fun _ => ?_)
    clear hK K
    refine wpAnyH_ready (rs := [6]) (by kernel_rfl) (by simp) ?_
    refine AllReadyH.cons rfl (fun K hK => ?_) AllReadyH.nil
    go_simp
    refine hK.out _ _ (KX.out _ t4) (fun _ => ?_)
    clear hK K
    refine wpAnyH_done (by kernel_rfl) ?_ _
    go_wp2
    go_ret2
    have t5 : Below w.heap.size w X4 := HB.out.trans (t4.mono HB.out.size)
    have t6 : w.heap.size ≤ X3.heap.size := Nat.le_trans HB.out.size t3.size
    rw [HE.out, HK.out]
    exact ⟨A4, c4, rfl, o4.lower t6, t5⟩
  · have e1 : encE p = 1 := by simp [encE, hm]
    have e2 : encL p = [] := by simp [encL, hm]
    rw [e1, e2]
    have hm2 : mayp p = false := by simpa using hm
    clear e1 e2 hm
    obtain ⟨k0, k1, k2, k3, k4, k5, k6, k7, k8, k9, k10, k11, k12⟩ := KX.out _ (Below.refl _ _)
    go_enter Try.func8, Try.ntmps8
    go_wp2_with fail
    refine (CM _).mono ?_
    rintro e X0 ⟨rfl, t0⟩
    rw [hm2]
    go_wp2
    go_ret2
    exact ⟨none, 0, rfl, Own.nil _ _, HB.out.trans (t0.mono HB.out.size)⟩
end Go.Proofs.Ytfhickgdmcmodaa
