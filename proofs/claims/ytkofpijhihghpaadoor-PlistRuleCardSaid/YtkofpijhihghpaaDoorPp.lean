/-
  The contract of the program's Parse. No statement is proved here; no conditions.
-/
import Derived.Test.YtkofpijhihghpaaDoorSpn
namespace Go.Proofs.YtkofpijhihghpaaDoor
open Go.RowKit Go.Joins

/-- A struct of six cells, stored. -/
theorem put6 {W : World} {b : Nat} {t : TypeId} {a0 a1 a2 a3 a4 a5 : Value} (h : W.heap[b]? = some (.cells #[a0, a1, a2, a3, a4, a5] t)) (v0 v1 v2 v3 v4 v5 : Value) :
    ((((((W.setCell ⟨b, 0, none⟩ (v0)).setCell ⟨b, 1, none⟩ (v1)).setCell ⟨b, 2, none⟩ (v2)).setCell ⟨b, 3, none⟩ (v3)).setCell ⟨b, 4, none⟩ (v4)).setCell ⟨b, 5, none⟩ (v5)).heap[b]? = some (.cells #[v0, v1, v2, v3, v4, v5] t) := by
  have h0 := block_setCell (i := 0) h v0
  have h1 := block_setCell (i := 1) h0 v1
  have h2 := block_setCell (i := 2) h1 v2
  have h3 := block_setCell (i := 3) h2 v3
  have h4 := block_setCell (i := 4) h3 v4
  have h5 := block_setCell (i := 5) h4 v5
  simpa using h5
theorem put6_below {w W : World} {B b : Nat} (h : Below B w W) (hb : B ≤ b) (v0 v1 v2 v3 v4 v5 : Value) : Below B w ((((((W.setCell ⟨b, 0, none⟩ (v0)).setCell ⟨b, 1, none⟩ (v1)).setCell ⟨b, 2, none⟩ (v2)).setCell ⟨b, 3, none⟩ (v3)).setCell ⟨b, 4, none⟩ (v4)).setCell ⟨b, 5, none⟩ (v5)) :=
  Below.setCell (Below.setCell (Below.setCell (Below.setCell (Below.setCell (Below.setCell h (p := ⟨b, 0, none⟩) hb v0) (p := ⟨b, 1, none⟩) hb v1) (p := ⟨b, 2, none⟩) hb v2) (p := ⟨b, 3, none⟩) hb v3) (p := ⟨b, 4, none⟩) hb v4) (p := ⟨b, 5, none⟩) hb v5
theorem frozen6 {W : World} {b : Nat} {t : TypeId} {cs : Array Value} (h : W.heap[b]? = some (.cells cs t)) (i : Nat) : W.frozen? ⟨b, i, none⟩ = false := by simp [World.frozen?, h]
theorem opt_le (nm : List UInt8) (r : List (List UInt8)) : (opt nm r).2.length ≤ r.length := by
  rcases opt_inv nm r with ⟨_, h⟩ | ⟨_, h⟩
  · rw [h]; exact Nat.le_refl _
  · have := congrArg List.length h; simp at this; omega
theorem opt_words (nm : List UInt8) (r : List (List UInt8)) : ∀ x ∈ (opt nm r).2, x ∈ r := fun x hx => by
  rcases opt_inv nm r with ⟨_, h⟩ | ⟨_, h⟩
  · rw [h] at hx; exact hx
  · rw [h]; simp [hx]
theorem lt_block {W : World} {b : Nat} {o : Obj} (h : W.heap[b]? = some o) : b < W.heap.size := lt_of_block h

set_option maxRecDepth 100000 in
set_option maxHeartbeats 4000000 in
theorem pparse_any (l : List UInt8) (w : World) (hl : l.length ≤ 1000) : Calls Tryd.prog 8 #[.string (st l)] w fun e w' => e = .returned (.tuple #[rv (pw (wds l)).1, .int .i64 (pw (wds l)).2]) ∧ Below w.heap.size w w' := by
  rw [← pw_spl]
  obtain ⟨W0, hW0⟩ : ∃ W0, w.alloc (.cells #[.int .i64 0, .bool false, .int .u32 0, .int .i64 0, .int .i64 0, .int .i64 0] 26) = W0 := ⟨_, rfl⟩
  have b0 : Below w.heap.size w W0 := by rw [← hW0]; exact below_alloc1 _ _
  have S0 : Hid (W0.heap.size = w.heap.size + 1) := Lib.hid (by rw [← hW0]; simp)
  have p0 : W0.heap[w.heap.size]? = some (.cells #[.int .i64 0, .bool false, .int .u32 0, .int .i64 0, .int .i64 0, .int .i64 0] 26) := by rw [← hW0]; exact alloc_at _ _ _ rfl
  have cS := split_any l W0 hl
  have hwl : ∀ a ∈ spl (min 8 (l.length + 1) - 1) l, a.length ≤ 1000 := fun a ha => Nat.le_trans (spl_word _ _ a ha) hl
  have hln := spl_len (min 8 (l.length + 1) - 1) l
  have hln2 : (spl (min 8 (l.length + 1) - 1) l).length ≤ 8 := by omega
  clear hln
  generalize spl (min 8 (l.length + 1) - 1) l = ws at *
  have HB0 := Lib.hid b0
  have HP0 := Lib.hid p0
  obtain ⟨R, hR⟩ : ∃ R, pw ws = R := ⟨_, rfl⟩
  rw [hR]
  have HR := Lib.hid hR
  clear b0 p0 hR
  obtain ⟨n, hn⟩ : ∃ n, ws.length = n := ⟨_, rfl⟩
  rw [hn] at cS hln2
  have HN := Lib.hid hn
  go_enter Tryd.func8, Tryd.ntmps8
  go_wp2_with fail
  refine cS.mono ?_
  rintro e W1 ⟨c1, rfl, hs1, hb1⟩
  have HB1 : Hid (Below w.heap.size w W1) := Lib.hid (HB0.out.trans (hb1.mono HB0.out.size))
  have HP1 : Hid (W1.heap[w.heap.size]? = some (.cells #[.int .i64 0, .bool false, .int .u32 0, .int .i64 0, .int .i64 0, .int .i64 0] 26)) := Lib.hid ((hb1.block w.heap.size (by have := S0.out; omega)).trans HP0.out)
  have HS1 := Lib.hid hs1
  have z1 := hb1.size
  clear hW0 cS hb1 hs1
  by_cases h3 : n < 3
  · have h3' : (n : Int) < 3 := by omega
    have PW : Hid (R = (ru0, 3)) := Lib.hid (by
      rw [← HR.out]
      match ws, hn with
      | [], _ => rfl
      | [_], _ => rfl
      | [_, _], _ => rfl
      | _ :: _ :: _ :: _, hn => simp at hn; omega)
    have p1 := HP1.out
    obtain ⟨o0, o1, o2, o3, o4, o5⟩ := rb_at p1
    have f0 := unfrozen_of_block p1 0
    have f1 := unfrozen_of_block p1 1
    have f2 := unfrozen_of_block p1 2
    have f3 := unfrozen_of_block p1 3
    have f4 := unfrozen_of_block p1 4
    have f5 := unfrozen_of_block p1 5
    have rr := put6 p1 (.int .i64 0) (.bool false) (.int .u32 0) (.int .i64 0) (.int .i64 0) (.int .i64 0)
    obtain ⟨r0, r1, r2, r3, r4, r5⟩ := rb_at rr
    have HBS := Lib.hid (put6_below HB1.out (Nat.le_refl w.heap.size) (.int .i64 0) (.bool false) (.int .u32 0) (.int .i64 0) (.int .i64 0) (.int .i64 0))
    clear rr p1 HR HP1 HP0 HS1 hwl HN hn
    go_wp2
    refine bodyPost_ret (v := .tuple #[.agg #[.int .i64 0, .bool false, .int .u32 0, .int .i64 0, .int .i64 0, .int .i64 0], .int .i64 3]) (by simp [results, Tryd.results8, go_sem, r0, r1, r2, r3, r4, r5]) rfl ⟨?_, HBS.out⟩
    (rw [PW.out]; try rfl)
  · match ws, hn, HS1, hwl, HN, HR with
    | [], hn, _, _, _, _ => simp at hn; omega
    | [_], hn, _, _, _, _ => simp at hn; omega
    | [_, _], hn, _, _, _, _ => simp at hn; omega
    | a :: b :: c :: r, hn, HS1, hwl, HN, HR =>
      have h3' : ¬ ((n : Int) < 3) := by omega
      obtain ⟨b1', off1', hA1, w0⟩ := HS1.out.at (k := 0) (by simp)
      obtain ⟨b2', off2', hA2, w1⟩ := HS1.out.at (k := 1) (by simp)
      obtain ⟨b3', off3', hA3, w2⟩ := HS1.out.at (k := 2) (by simp)
      simp only [Option.some.injEq, Addr.mk.injEq] at hA1 hA2 hA3
      obtain ⟨rfl, rfl, _⟩ := hA1
      obtain ⟨rfl, rfl, _⟩ := hA2
      obtain ⟨rfl, rfl, _⟩ := hA3
      rw [show gws (a :: b :: c :: r) 0 = a from rfl] at w0
      rw [show gws (a :: b :: c :: r) 1 = b from rfl] at w1
      rw [show gws (a :: b :: c :: r) 2 = c from rfl] at w2
      simp only [Nat.add_zero, Nat.zero_add] at w0 w1 w2
      have hal := hwl a (by simp)
      have hbl := hwl b (by simp)
      have hcl := hwl c (by simp)
      have hrl : ∀ x ∈ r, x.length ≤ 1000 := fun x hx => hwl x (by simp [hx])
      have hrn : r.length + 3 = n := by simpa using hn
      have cP := fun W => parse_any c W (by omega)
      have cA := fun W => pnum_any a W (by omega)
      have hna := num_le a
      have HRD : Hid (∀ V, Below W1.heap.size W1 V → V.cell? ⟨W0.heap.size, 0, none⟩ = some (.string (st a)) ∧ V.cell? ⟨W0.heap.size, 1, none⟩ = some (.string (st b))) := Lib.hid (fun V hV =>
        ⟨(World.cell?_of_block (hV.block W0.heap.size (World.block_lt_of_cell? _ _ w0))).trans w0, (World.cell?_of_block (hV.block W0.heap.size (World.block_lt_of_cell? _ _ w1))).trans w1⟩)
      obtain ⟨pA, hpA⟩ : ∃ v, (prs 4 0 c).1 = v := ⟨_, rfl⟩
      obtain ⟨pN, hpN⟩ : ∃ v, (prs 4 0 c).2.1 = v := ⟨_, rfl⟩
      obtain ⟨pE, hpE⟩ : ∃ v, (prs 4 0 c).2.2 = v := ⟨_, rfl⟩
      obtain ⟨nA, hnA⟩ : ∃ v, num a = v := ⟨_, rfl⟩
      obtain ⟨PB, hPB⟩ : ∃ v, (b == tPermit) = v := ⟨_, rfl⟩
      obtain ⟨DB, hDB⟩ : ∃ v, (b == tDeny) = v := ⟨_, rfl⟩
      have hPB2 : decide (b = tPermit) = PB := by rw [← hPB, Bool.eq_iff_iff]; simp
      have hDB2 : decide (b = tDeny) = DB := by rw [← hDB, Bool.eq_iff_iff]; simp
      have hpr : prs 4 0 c = (pA, pN, pE) := by rw [← hpA, ← hpN, ← hpE]
      have hpAb : pE = 0 → pA < 4294967296 := fun h => by rw [← hpA]; exact (txt_prs c (by rw [hpE]; exact h)).2
      rw [hpr] at cP
      rw [hnA] at cA hna
      have PWE : Hid (R = if (decide (nA = 0) || !(PB || DB) || decide (pE = 3) || decide ((opt tLe (opt tGe r).2).2 ≠ [])) then (ru0, 3) else if decide (pE ≠ 0) || !okr ⟨(nA : Int), PB, pA, (pN : Int), ((opt tGe r).1 : Int), ((opt tLe (opt tGe r).2).1 : Int)⟩ then (ru0, 1) else (⟨(nA : Int), PB, pA, (pN : Int), ((opt tGe r).1 : Int), ((opt tLe (opt tGe r).2).1 : Int)⟩, 0)) := Lib.hid (by
        rw [← HR.out]
        simp only [pw, pbad, pru, hnA, hPB2, hDB2, hpA, hpN, hpE])
      have HPB := Lib.hid hPB
      have HDB := Lib.hid hDB
      have HPA := Lib.hid hpAb
      clear hpA hpN hpE hnA hPB hDB hPB2 hDB2 hpr hpAb HR hwl hn HN
      have hlt2 : (2 : Int) < (n : Int) := by omega
      go_wp2_with fail
      refine (cP _).mono ?_
      rintro e W2 ⟨rfl, hb2⟩
      obtain ⟨W3, hW3⟩ : ∃ W3, W2.alloc (.cells #[.int .u32 (pA : Int), .int .i64 (pN : Int)] 24) = W3 := ⟨_, rfl⟩
      have b3 : Below W2.heap.size W2 W3 := by rw [← hW3]; exact below_alloc1 _ _
      have hb3 : Below W1.heap.size W1 W3 := hb2.trans (b3.mono hb2.size)
      have KQ : Hid (∀ V, Below W3.heap.size W3 V → V.cell? ⟨W2.heap.size, 0, none⟩ = some (.int .u32 (pA : Int)) ∧ V.cell? ⟨W2.heap.size, 1, none⟩ = some (.int .i64 (pN : Int))) := Lib.hid (fun V hV => pb_new hW3 hV)
      have HS : Hid (∀ V, Below W3.heap.size W3 V → (V.cell? ⟨W0.heap.size, 0, none⟩ = some (.string (st a)) ∧ V.cell? ⟨W0.heap.size, 1, none⟩ = some (.string (st b))) ∧ V.cell? ⟨W2.heap.size, 0, none⟩ = some (.int .u32 (pA : Int)) ∧ V.cell? ⟨W2.heap.size, 1, none⟩ = some (.int .i64 (pN : Int))) := Lib.hid (fun V hV => ⟨HRD.out V (hb3.trans (hV.mono hb3.size)), KQ.out V hV⟩)
      have z3 : w.heap.size + 1 ≤ W3.heap.size := by have := hb3.size; have := S0.out; omega
      have HB3 : Hid (Below w.heap.size w W3) := Lib.hid (HB1.out.trans (hb3.mono HB1.out.size))
      have HP3 : Hid (W3.heap[w.heap.size]? = some (.cells #[.int .i64 0, .bool false, .int .u32 0, .int .i64 0, .int .i64 0, .int .i64 0] 26)) := Lib.hid ((hb3.block w.heap.size (by have := S0.out; omega)).trans HP1.out)
      have HS3 := Lib.hid (HS1.out.step hb3)
      obtain ⟨m2, hm2⟩ : ∃ m, W2.heap.size = m := ⟨_, rfl⟩
      rw [hm2] at HS KQ
      clear cP w0 w1 w2 b3 hb2 hb3 HRD HS1 HP1 HB1 KQ
      go_upto_region 5 with fail
      clear hW3
      (try rw [hm2])
      clear hm2
      go_cut [7] (fun v7 wx => ∃ bx, v7 = .pointer (some ⟨bx, 0, none⟩) ∧ Hid (W3.heap.size ≤ bx) ∧ Hid (wx.heap[bx]? = some (.cells #[.int .i64 (nA : Int), .bool PB, .int .u32 (pA : Int), .int .i64 (pN : Int), .int .i64 0, .int .i64 0] 26)) ∧ Hid (Below W3.heap.size W3 wx))
      case first =>
        obtain ⟨⟨g0, g1⟩, g2, g3⟩ := HS.out W3 (Below.refl _ _)
        have hPB := HPB.out
        have lt0 : 0 < n := by omega
        have lt1 : (1 : Int) < (n : Int) := by omega
        refine wp_region_held_drew (S := fun V => (V.cell? ⟨W0.heap.size, 0, none⟩ = some (.string (st a)) ∧ V.cell? ⟨W0.heap.size, 1, none⟩ = some (.string (st b))) ∧ V.cell? ⟨m2, 0, none⟩ = some (.int .u32 (pA : Int)) ∧ V.cell? ⟨m2, 1, none⟩ = some (.int .i64 (pN : Int))) (by kernel_rfl) ⟨⟨g0, g1⟩, g2, g3⟩ (fun hHeld => ?_)
        refine wpAnyH_take (i := 0) (v := ?_) rfl (by kernel_rfl) (by kernel_rfl) (by kernel_rfl) (fun _ _ _ h => h) (Or.inl ⟨by rfl, ?_⟩) (by assumption) ?_
        rotate_left
        · (intro w' hSw; (try dsimp only at hSw); go_simp; try with_reducible rfl)
        simp only [Act.put, List.getElem_toArray, List.getElem_cons_zero, List.setIfInBounds_toArray, List.set_cons_zero, List.set_cons_succ]
        refine wpAnyH_take (i := 1) (v := ?_) rfl (by kernel_rfl) (by kernel_rfl) (by kernel_rfl) (fun _ _ _ h => h) (Or.inl ⟨by rfl, ?_⟩) (by assumption) ?_
        rotate_left
        · (intro w' hSw; (try dsimp only at hSw); go_simp; try with_reducible rfl)
        simp only [Act.put, List.getElem_toArray, List.getElem_cons_zero, List.getElem_cons_succ, List.setIfInBounds_toArray, List.set_cons_zero, List.set_cons_succ]
        refine wpAnyH_take (i := 2) (v := ?_) rfl (by kernel_rfl) (by kernel_rfl) (by kernel_rfl) (fun _ _ _ h => h) (Or.inl ⟨by rfl, ?_⟩) (by assumption) ?_
        rotate_left
        · (intro w' hSw; (try dsimp only at hSw); go_simp; try with_reducible rfl)
        simp only [Act.put, List.getElem_toArray, List.getElem_cons_zero, List.getElem_cons_succ, List.setIfInBounds_toArray, List.set_cons_zero, List.set_cons_succ]
        refine wpAnyH_take (i := 4) (v := ?_) rfl (by kernel_rfl) (by kernel_rfl) (by kernel_rfl) (fun _ _ _ h => h) (Or.inl ⟨by rfl, ?_⟩) (by assumption) ?_
        rotate_left
        · (intro w' hSw; (try dsimp only at hSw); go_simp; try with_reducible rfl)
        simp only [Act.put, List.getElem_toArray, List.getElem_cons_zero, List.getElem_cons_succ, List.setIfInBounds_toArray, List.set_cons_zero, List.set_cons_succ]
        refine wpAnyH_take (i := 5) (v := ?_) rfl (by kernel_rfl) (by kernel_rfl) (by kernel_rfl) (fun _ _ _ h => h) (Or.inl ⟨by rfl, ?_⟩) (by assumption) ?_
        rotate_left
        · (intro w' hSw; (try dsimp only at hSw); go_simp; try with_reducible rfl)
        simp only [Act.put, List.getElem_toArray, List.getElem_cons_zero, List.getElem_cons_succ, List.setIfInBounds_toArray, List.set_cons_zero, List.set_cons_succ]
        refine wpAnyH_take (i := 6) (v := ?_) rfl (by kernel_rfl) (by kernel_rfl) (by kernel_rfl) (fun _ _ _ h => h) (Or.inl ⟨by rfl, ?_⟩) (by assumption) ?_
        rotate_left
        · (intro w' hSw; (try dsimp only at hSw); go_simp; try with_reducible rfl)
        simp only [Act.put, List.getElem_toArray, List.getElem_cons_zero, List.getElem_cons_succ, List.setIfInBounds_toArray, List.set_cons_zero, List.set_cons_succ]
        refine wpAnyH_take (i := 7) (v := .bool PB) rfl (by kernel_rfl) (by kernel_rfl) (by kernel_rfl) (fun _ _ _ h => h) (Or.inl ⟨by rfl, ?_⟩) (by assumption) ?_
        · (intro w' hSw; (try dsimp only at hSw); go_simp; (try rw [hPB]))
        simp only [Act.put, List.getElem_toArray, List.getElem_cons_zero, List.getElem_cons_succ, List.setIfInBounds_toArray, List.set_cons_zero, List.set_cons_succ]
        refine wpAnyH_take (i := 8) (v := ?_) rfl (by kernel_rfl) (by kernel_rfl) (by kernel_rfl) (fun _ _ _ h => h) (Or.inl ⟨by rfl, ?_⟩) (by assumption) ?_
        rotate_left
        · (intro w' hSw; (try dsimp only at hSw); go_simp; try with_reducible rfl)
        simp only [Act.put, List.getElem_toArray, List.getElem_cons_zero, List.getElem_cons_succ, List.setIfInBounds_toArray, List.set_cons_zero, List.set_cons_succ]
        have t0 : Below W3.heap.size W3 W3.drew := below_draws _ W3 1
        generalize hX0 : W3.drew = X0 at t0 ⊢
        clear hX0 hHeld g0 g1 g2 g3
        refine wpAnyH_ready (rs := [3, 10]) (by kernel_rfl) (by simp) ?_
        refine AllReadyH.cons rfl (fun K hK => ?_) (AllReadyH.cons rfl (fun K hK => ?_) AllReadyH.nil)
        · go_simp
          go_at_call 32
          refine (cA _).mono ?_
          rintro e X1 ⟨rfl, hbc⟩
          have tX1 : Below W3.heap.size W3 X1 := t0.trans (hbc.mono t0.size)
          refine hK.out _ _ (HS.out _ tX1) (fun _ => ?_)
          clear hK K hbc
          refine wpAnyH_take (i := 9) (v := ?_) rfl (by kernel_rfl) (by kernel_rfl) (by kernel_rfl) (fun _ _ _ h => h) (Or.inl ⟨by rfl, ?_⟩) (by assumption) ?_
          rotate_left
          · (intro w' hSw; (try dsimp only at hSw); go_simp; try with_reducible rfl)
          simp only [Act.put, List.getElem_toArray, List.getElem_cons_zero, List.getElem_cons_succ, List.setIfInBounds_toArray, List.set_cons_zero, List.set_cons_succ]
          refine wpAnyH_ready (rs := [10]) (by kernel_rfl) (by simp) ?_
          refine AllReadyH.cons rfl (fun K hK => ?_) AllReadyH.nil
          go_simp
          obtain ⟨X2, hX2⟩ : ∃ V, X1.alloc (.cells #[.int .i64 0, .bool false, .int .u32 0, .int .i64 0, .int .i64 0, .int .i64 0] 26) = V := ⟨_, rfl⟩
          have qX2 : X2.heap[X1.heap.size]? = some (.cells #[.int .i64 0, .bool false, .int .u32 0, .int .i64 0, .int .i64 0, .int .i64 0] 26) := by rw [← hX2]; exact alloc_at _ _ _ rfl
          have bbX2 : Below X1.heap.size X1 X2 := by rw [← hX2]; exact below_alloc1 _ _
          have tX2 : Below W3.heap.size W3 X2 := tX1.trans (bbX2.mono tX1.size)
          have lebx := tX1.size
          obtain ⟨bx, hbx⟩ : ∃ m, X1.heap.size = m := ⟨_, rfl⟩
          rw [hX2, hbx]
          rw [hbx] at qX2 lebx
          refine hK.out _ _ (HS.out _ tX2) (fun _ => ?_)
          clear hK K hX2
          refine wpAnyH_ready (rs := [11]) (by kernel_rfl) (by simp) ?_
          refine AllReadyH.cons rfl (fun K hK => ?_) AllReadyH.nil
          obtain ⟨o0, o1, o2, o3, o4, o5⟩ := rb_at qX2
          have f0 := unfrozen_of_block qX2 0
          have f1 := unfrozen_of_block qX2 1
          have f2 := unfrozen_of_block qX2 2
          have f3 := unfrozen_of_block qX2 3
          have f4 := unfrozen_of_block qX2 4
          have f5 := unfrozen_of_block qX2 5
          have rr := Lib.hid (put6 qX2 (.int .i64 (nA : Int)) (.bool PB) (.int .u32 (pA : Int)) (.int .i64 (pN : Int)) (.int .i64 0) (.int .i64 0))
          have BS := Lib.hid (put6_below tX2 lebx (.int .i64 (nA : Int)) (.bool PB) (.int .u32 (pA : Int)) (.int .i64 (pN : Int)) (.int .i64 0) (.int .i64 0))
          have SF := Lib.hid (HS.out _ BS.out)
          go_simp
          refine hK.out _ _ SF.out (fun _ => ?_)
          clear hK K
          refine wpAnyH_done (by kernel_rfl) ?_ _
          clear o0 o1 o2 o3 o4 o5 f0 f1 f2 f3 f4 f5
          generalize ((((((X2.setCell ⟨bx, 0, none⟩ (.int .i64 (nA : Int))).setCell ⟨bx, 1, none⟩ (.bool PB)).setCell ⟨bx, 2, none⟩ (.int .u32 (pA : Int))).setCell ⟨bx, 3, none⟩ (.int .i64 (pN : Int))).setCell ⟨bx, 4, none⟩ (.int .i64 0)).setCell ⟨bx, 5, none⟩ (.int .i64 0)) = W8 at *
          go_wp2_with fail
          go_meet
          case rel => exact ⟨bx, rfl, Lib.hid lebx, rr, BS⟩
        · go_simp
          obtain ⟨X1, hX1⟩ : ∃ V, X0.alloc (.cells #[.int .i64 0, .bool false, .int .u32 0, .int .i64 0, .int .i64 0, .int .i64 0] 26) = V := ⟨_, rfl⟩
          have qX1 : X1.heap[X0.heap.size]? = some (.cells #[.int .i64 0, .bool false, .int .u32 0, .int .i64 0, .int .i64 0, .int .i64 0] 26) := by rw [← hX1]; exact alloc_at _ _ _ rfl
          have bbX1 : Below X0.heap.size X0 X1 := by rw [← hX1]; exact below_alloc1 _ _
          have tX1 : Below W3.heap.size W3 X1 := t0.trans (bbX1.mono t0.size)
          have lebx := t0.size
          obtain ⟨bx, hbx⟩ : ∃ m, X0.heap.size = m := ⟨_, rfl⟩
          rw [hX1, hbx]
          rw [hbx] at qX1 lebx
          refine hK.out _ _ (HS.out _ tX1) (fun _ => ?_)
          clear hK K hX1
          refine wpAnyH_ready (rs := [3]) (by kernel_rfl) (by simp) ?_
          refine AllReadyH.cons rfl (fun K hK => ?_) AllReadyH.nil
          go_simp
          go_at_call 32
          refine (cA _).mono ?_
          rintro e X2 ⟨rfl, hbc⟩
          have tX2 : Below W3.heap.size W3 X2 := tX1.trans (hbc.mono tX1.size)
          have qX2 := (hbc.block bx (lt_of_block qX1)).trans qX1
          refine hK.out _ _ (HS.out _ tX2) (fun _ => ?_)
          clear hK K hbc
          refine wpAnyH_take (i := 9) (v := ?_) rfl (by kernel_rfl) (by kernel_rfl) (by kernel_rfl) (fun _ _ _ h => h) (Or.inl ⟨by rfl, ?_⟩) (by assumption) ?_
          rotate_left
          · (intro w' hSw; (try dsimp only at hSw); go_simp; try with_reducible rfl)
          simp only [Act.put, List.getElem_toArray, List.getElem_cons_zero, List.getElem_cons_succ, List.setIfInBounds_toArray, List.set_cons_zero, List.set_cons_succ]
          refine wpAnyH_ready (rs := [11]) (by kernel_rfl) (by simp) ?_
          refine AllReadyH.cons rfl (fun K hK => ?_) AllReadyH.nil
          obtain ⟨o0, o1, o2, o3, o4, o5⟩ := rb_at qX2
          have f0 := unfrozen_of_block qX2 0
          have f1 := unfrozen_of_block qX2 1
          have f2 := unfrozen_of_block qX2 2
          have f3 := unfrozen_of_block qX2 3
          have f4 := unfrozen_of_block qX2 4
          have f5 := unfrozen_of_block qX2 5
          have rr := Lib.hid (put6 qX2 (.int .i64 (nA : Int)) (.bool PB) (.int .u32 (pA : Int)) (.int .i64 (pN : Int)) (.int .i64 0) (.int .i64 0))
          have BS := Lib.hid (put6_below tX2 lebx (.int .i64 (nA : Int)) (.bool PB) (.int .u32 (pA : Int)) (.int .i64 (pN : Int)) (.int .i64 0) (.int .i64 0))
          have SF := Lib.hid (HS.out _ BS.out)
          go_simp
          refine hK.out _ _ SF.out (fun _ => ?_)
          clear hK K
          refine wpAnyH_done (by kernel_rfl) ?_ _
          clear o0 o1 o2 o3 o4 o5 f0 f1 f2 f3 f4 f5
          generalize ((((((X2.setCell ⟨bx, 0, none⟩ (.int .i64 (nA : Int))).setCell ⟨bx, 1, none⟩ (.bool PB)).setCell ⟨bx, 2, none⟩ (.int .u32 (pA : Int))).setCell ⟨bx, 3, none⟩ (.int .i64 (pN : Int))).setCell ⟨bx, 4, none⟩ (.int .i64 0)).setCell ⟨bx, 5, none⟩ (.int .i64 0)) = W8 at *
          go_wp2_with fail
          go_meet
          case rel => exact ⟨bx, rfl, Lib.hid lebx, rr, BS⟩
      case rest =>
        obtain ⟨bx, rfl, hbx, hxb, hbw⟩ := hcut
        clear HS
        have HRB : Hid (∀ V, Below W3.heap.size W3 V → V.heap[w.heap.size]? = some (.cells #[.int .i64 0, .bool false, .int .u32 0, .int .i64 0, .int .i64 0, .int .i64 0] 26)) := Lib.hid (fun V hV => (hV.block w.heap.size (by omega)).trans HP3.out)
        obtain ⟨A3, hA3⟩ : ∃ A, (if c1 = 3 then some (⟨W0.heap.size, 0, none⟩ : Addr) else some ⟨W0.heap.size, 3, none⟩) = A := ⟨_, rfl⟩
        have HSR : Hid (∀ V, Below W3.heap.size W3 V → Ss V A3 (c1 - 3) r) := Lib.hid (fun V hV => by
          have hd := (HS3.out.step hV).drop 3
          rw [← hA3]
          split
          · have hr0 : r = [] := List.eq_nil_of_length_eq_zero (by have := HS3.out.cap; simp at this; omega)
            subst hr0
            exact ⟨Rd.nil _, hd.cap, hd.max⟩
          · exact hd)
        have hcp := HS3.out.cap
        have hcm := HS3.out.max
        simp only [List.length_cons] at hcp
        obtain ⟨_, k1, _, _, _, _⟩ := rb_at hxb.out
        obtain ⟨b2', off2', hA2, w1⟩ := (HS3.out.step hbw.out).at (k := 1) (by simp)
        simp only [Option.some.injEq, Addr.mk.injEq] at hA2
        obtain ⟨rfl, rfl, _⟩ := hA2
        rw [show gws (a :: b :: c :: r) 1 = b from rfl, Nat.zero_add] at w1
        have lt1 : (1 : Int) < (n : Int) := by omega
        go_upto_region 6 with fail
        go_cut [8] (fun v wx => v = .bool (PB || DB) ∧ wx = wc)
        case first =>
          cases PB with
          | true =>
            go_wp2_with fail
            go_meet
            case rel => exact ⟨rfl, rfl⟩
          | false =>
            have hDB := HDB.out
            go_wp2_with fail
            go_meet
            case rel => exact ⟨rfl, rfl⟩
        case rest =>
          obtain ⟨rfl, hwc⟩ := hcut
          subst hwc
          clear k1 w1
          have h33 : (3 : Int) ≤ (n : Int) := by omega
          have h34 : 3 ≤ n := by omega
          go_upto_region 7 with fail
          go_cut [9] (fun v wx => v = .slice A3 (n - 3) (c1 - 3) ∧ wx = wc)
          case first =>
            by_cases hq : c1 = 3
            · rw [if_pos hq] at hA3
              subst hA3 hq
              go_wp2_with fail
              go_meet
              case rel => exact ⟨rfl, rfl⟩
            · rw [if_neg hq] at hA3
              subst hA3
              go_wp2_with fail
              go_meet
              case rel => exact ⟨rfl, rfl⟩
          case rest =>
            obtain ⟨rfl, hwc⟩ := hcut
            subst hwc
            clear hA3
            have co1 := option_any A3 (c1 - 3) r tGe wc (HSR.out wc hbw.out) (by omega) hrl (by decide)
            rw [show r.length = n - 3 by omega] at co1
            have ho1 := opt_le tGe r
            have hw1 := opt_words tGe r
            obtain ⟨O1, hO1⟩ : ∃ O, opt tGe r = O := ⟨_, rfl⟩
            rw [hO1] at co1 PWE ho1 hw1
            clear hO1
            obtain ⟨v1, r1⟩ := O1
            simp only at co1 PWE ho1 hw1
            go_wp2_with fail
            refine co1.mono ?_
            rintro e W5 ⟨A4, c4, rfl, ss4, hb5⟩
            have t5 := hbw.out.trans (hb5.mono hbw.out.size)
            have x5 := (hb5.block bx (lt_of_block hxb.out)).trans hxb.out
            obtain ⟨_, _, _, _, o4, _⟩ := rb_at x5
            have f4 := unfrozen_of_block x5 4
            have x6 := block_setCell (i := 4) x5 (.int .i64 (v1 : Int))
            have t6 : Below W3.heap.size W3 (W5.setCell ⟨bx, 4, none⟩ (.int .i64 (v1 : Int))) := Below.setCell t5 (p := ⟨bx, 4, none⟩) hbx.out _
            have HS4 : Hid (∀ V, Below W3.heap.size W3 V → Ss V A4 c4 r1) := Lib.hid (fun V hV => ss4 V (HSR.out V hV))
            obtain ⟨W6, hW6⟩ : ∃ W, W5.setCell ⟨bx, 4, none⟩ (.int .i64 (v1 : Int)) = W := ⟨_, rfl⟩
            rw [hW6] at x6 t6
            have X6 : Hid (W6.heap[bx]? = some (.cells #[.int .i64 (nA : Int), .bool PB, .int .u32 (pA : Int), .int .i64 (pN : Int), .int .i64 (v1 : Int), .int .i64 0] 26)) := Lib.hid (by simpa using x6)
            have T6 := Lib.hid t6
            have co2 := option_any A4 c4 r1 tLe W6 (HS4.out W6 t6) (by omega) (fun x hx => hrl x (hw1 x hx)) (by decide)
            have ho2 := opt_le tLe r1
            obtain ⟨n4, hn4⟩ : ∃ n4, r1.length = n4 := ⟨_, rfl⟩
            rw [hn4] at co2 ho1 ho2 ⊢
            obtain ⟨O2, hO2⟩ : ∃ O, opt tLe r1 = O := ⟨_, rfl⟩
            rw [hO2] at co2 PWE ho2
            clear hO2 hn4
            obtain ⟨v2, r2⟩ := O2
            simp only at co2 PWE ho2
            clear co1 x5 x6 t5 t6 ss4 HSR hbw hxb hb5 hw1
            go_wp2_with fail
            refine co2.mono ?_
            rintro e W7 ⟨A5, c5, rfl, ss5, hb7⟩
            clear hW6 o4 f4
            have t7 := T6.out.trans (hb7.mono T6.out.size)
            have x7 := (hb7.block bx (lt_of_block X6.out)).trans X6.out
            obtain ⟨_, _, _, _, _, o5⟩ := rb_at x7
            have f5 := unfrozen_of_block x7 5
            have x8 := block_setCell (i := 5) x7 (.int .i64 (v2 : Int))
            have t8 : Below W3.heap.size W3 (W7.setCell ⟨bx, 5, none⟩ (.int .i64 (v2 : Int))) := Below.setCell t7 (p := ⟨bx, 5, none⟩) hbx.out _
            obtain ⟨W8, hW8⟩ : ∃ W, W7.setCell ⟨bx, 5, none⟩ (.int .i64 (v2 : Int)) = W := ⟨_, rfl⟩
            rw [hW8] at x8 t8
            have X8 : Hid (W8.heap[bx]? = some (.cells #[.int .i64 (nA : Int), .bool PB, .int .u32 (pA : Int), .int .i64 (pN : Int), .int .i64 (v1 : Int), .int .i64 (v2 : Int)] 26)) := Lib.hid (by simpa using x8)
            have T8 := Lib.hid t8
            have P8 := HRB.out W8 t8
            have HW8 : Hid (Below w.heap.size w W8) := Lib.hid (HB3.out.trans (t8.mono (by omega)))
            obtain ⟨n5, hn5⟩ : ∃ n5, r2.length = n5 := ⟨_, rfl⟩
            rw [hn5]
            have HN5 := Lib.hid hn5
            obtain ⟨k0, k1, k2, k3, k4, k5⟩ := rb_at X8.out
            clear x7 x8 t7 t8 ss5 hb7 T6 X6 co2 HS4 hn5 cA
            go_upto_region 10 with fail
            clear hW8 o5 f5
            by_cases q1 : nA = 0
            · have n1 : ((nA : Int) == 0) = true := by simp; omega
              have PW : Hid (R = (ru0, 3)) := Lib.hid (by rw [PWE.out, decide_eq_true q1]; simp)
              obtain ⟨o0, o1, o2, o3, o4, o5⟩ := rb_at P8
              have f0 := unfrozen_of_block P8 0
              have f1 := unfrozen_of_block P8 1
              have f2 := unfrozen_of_block P8 2
              have f3 := unfrozen_of_block P8 3
              have f4 := unfrozen_of_block P8 4
              have f5 := unfrozen_of_block P8 5
              have rr := put6 P8 (.int .i64 0) (.bool false) (.int .u32 0) (.int .i64 0) (.int .i64 0) (.int .i64 0)
              obtain ⟨r0, r1, r2, r3, r4, r5⟩ := rb_at rr
              have HBS := Lib.hid (put6_below HW8.out (Nat.le_refl w.heap.size) (.int .i64 0) (.bool false) (.int .u32 0) (.int .i64 0) (.int .i64 0) (.int .i64 0))
              clear rr P8 HP3 HP0 HS3 HRB X8 T8 HB3 HB0 HPB HDB HPA PWE
              go_wp2
              refine bodyPost_ret (v := .tuple #[.agg #[.int .i64 0, .bool false, .int .u32 0, .int .i64 0, .int .i64 0, .int .i64 0], .int .i64 3]) (by simp [results, Tryd.results8, go_sem, r0, r1, r2, r3, r4, r5]) rfl ⟨?_, HBS.out⟩
              (rw [PW.out]; try rfl)
            · have n1 : ((nA : Int) == 0) = false := by simp; omega
              cases hv : (PB || DB) with
              | false =>
                have PW : Hid (R = (ru0, 3)) := Lib.hid (by rw [PWE.out, decide_eq_false q1, hv]; simp)
                obtain ⟨o0, o1, o2, o3, o4, o5⟩ := rb_at P8
                have f0 := unfrozen_of_block P8 0
                have f1 := unfrozen_of_block P8 1
                have f2 := unfrozen_of_block P8 2
                have f3 := unfrozen_of_block P8 3
                have f4 := unfrozen_of_block P8 4
                have f5 := unfrozen_of_block P8 5
                have rr := put6 P8 (.int .i64 0) (.bool false) (.int .u32 0) (.int .i64 0) (.int .i64 0) (.int .i64 0)
                obtain ⟨r0, r1, r2, r3, r4, r5⟩ := rb_at rr
                have HBS := Lib.hid (put6_below HW8.out (Nat.le_refl w.heap.size) (.int .i64 0) (.bool false) (.int .u32 0) (.int .i64 0) (.int .i64 0) (.int .i64 0))
                clear rr P8 HP3 HP0 HS3 HRB X8 T8 HB3 HB0 HPB HDB HPA PWE
                go_wp2
                refine bodyPost_ret (v := .tuple #[.agg #[.int .i64 0, .bool false, .int .u32 0, .int .i64 0, .int .i64 0, .int .i64 0], .int .i64 3]) (by simp [results, Tryd.results8, go_sem, r0, r1, r2, r3, r4, r5]) rfl ⟨?_, HBS.out⟩
                (rw [PW.out]; try rfl)
              | true =>
                by_cases q2 : pE = 3
                · have n2 : (pE == 3) = true := by simpa using q2
                  have PW : Hid (R = (ru0, 3)) := Lib.hid (by rw [PWE.out, decide_eq_false q1, hv, decide_eq_true q2]; simp)
                  obtain ⟨o0, o1, o2, o3, o4, o5⟩ := rb_at P8
                  have f0 := unfrozen_of_block P8 0
                  have f1 := unfrozen_of_block P8 1
                  have f2 := unfrozen_of_block P8 2
                  have f3 := unfrozen_of_block P8 3
                  have f4 := unfrozen_of_block P8 4
                  have f5 := unfrozen_of_block P8 5
                  have rr := put6 P8 (.int .i64 0) (.bool false) (.int .u32 0) (.int .i64 0) (.int .i64 0) (.int .i64 0)
                  obtain ⟨r0, r1, r2, r3, r4, r5⟩ := rb_at rr
                  have HBS := Lib.hid (put6_below HW8.out (Nat.le_refl w.heap.size) (.int .i64 0) (.bool false) (.int .u32 0) (.int .i64 0) (.int .i64 0) (.int .i64 0))
                  clear rr P8 HP3 HP0 HS3 HRB X8 T8 HB3 HB0 HPB HDB HPA PWE
                  go_wp2
                  refine bodyPost_ret (v := .tuple #[.agg #[.int .i64 0, .bool false, .int .u32 0, .int .i64 0, .int .i64 0, .int .i64 0], .int .i64 3]) (by simp [results, Tryd.results8, go_sem, r0, r1, r2, r3, r4, r5]) rfl ⟨?_, HBS.out⟩
                  (rw [PW.out]; try rfl)
                · have n2 : (pE == 3) = false := by simpa using q2
                  by_cases q3 : n5 = 0
                  · have n3 : ¬ ((n5 : Int) > 0) := by omega
                    have n3b : decide (0 < n5) = false := by simp; omega
                    have hr2 : r2 = [] := List.eq_nil_of_length_eq_zero (by rw [HN5.out]; exact q3)
                    have PW2 : Hid (R = if decide (pE ≠ 0) || !okr ⟨(nA : Int), PB, pA, (pN : Int), (v1 : Int), (v2 : Int)⟩ then (ru0, 1) else (⟨(nA : Int), PB, pA, (pN : Int), (v1 : Int), (v2 : Int)⟩, 0)) := Lib.hid (by rw [PWE.out, decide_eq_false q1, hv, decide_eq_false q2, hr2]; rfl)
                    clear PWE hr2
                    by_cases q4 : pE = 0
                    · have n4 : (pE != 0) = false := by simpa using q4
                      have cM := fun W => pmay_any ⟨(nA : Int), PB, pA, (pN : Int), (v1 : Int), (v2 : Int)⟩ W (HPA.out q4)
                      cases hk : okr ⟨(nA : Int), PB, pA, (pN : Int), (v1 : Int), (v2 : Int)⟩ with
                      | false =>
                        rw [hk] at cM
                        have PW : Hid (R = (ru0, 1)) := Lib.hid (by rw [PW2.out, hk, q4]; rfl)
                        clear PW2 hk
                        go_wp2_with fail
                        refine (cM _).mono ?_
                        rintro e W9 ⟨rfl, hb9⟩
                        have t9 := T8.out.trans (hb9.mono T8.out.size)
                        have P9 := HRB.out W9 t9
                        have HW9 : Hid (Below w.heap.size w W9) := Lib.hid (HB3.out.trans (t9.mono (by omega)))
                        have x9 := (hb9.block bx (lt_of_block X8.out)).trans X8.out
                        clear k0 k1 k2 k3 k4 k5
                        obtain ⟨k0, k1, k2, k3, k4, k5⟩ := rb_at x9
                        clear hb9 t9 x9 cM
                        obtain ⟨o0, o1, o2, o3, o4, o5⟩ := rb_at P9
                        have f0 := unfrozen_of_block P9 0
                        have f1 := unfrozen_of_block P9 1
                        have f2 := unfrozen_of_block P9 2
                        have f3 := unfrozen_of_block P9 3
                        have f4 := unfrozen_of_block P9 4
                        have f5 := unfrozen_of_block P9 5
                        have rr := put6 P9 (.int .i64 0) (.bool false) (.int .u32 0) (.int .i64 0) (.int .i64 0) (.int .i64 0)
                        obtain ⟨r0, r1, r2, r3, r4, r5⟩ := rb_at rr
                        have HBS := Lib.hid (put6_below HW9.out (Nat.le_refl w.heap.size) (.int .i64 0) (.bool false) (.int .u32 0) (.int .i64 0) (.int .i64 0) (.int .i64 0))
                        clear rr P9 HP3 HP0 HS3 HRB X8 T8 HB3 HB0 HPB HDB HPA
                        go_wp2
                        refine bodyPost_ret (v := .tuple #[.agg #[.int .i64 0, .bool false, .int .u32 0, .int .i64 0, .int .i64 0, .int .i64 0], .int .i64 1]) (by simp [results, Tryd.results8, go_sem, r0, r1, r2, r3, r4, r5]) rfl ⟨?_, HBS.out⟩
                        (rw [PW.out]; try rfl)
                      | true =>
                        rw [hk] at cM
                        have PW : Hid (R = (⟨(nA : Int), PB, pA, (pN : Int), (v1 : Int), (v2 : Int)⟩, 0)) := Lib.hid (by rw [PW2.out, hk, q4]; rfl)
                        clear PW2 hk
                        go_wp2_with fail
                        refine (cM _).mono ?_
                        rintro e W9 ⟨rfl, hb9⟩
                        have t9 := T8.out.trans (hb9.mono T8.out.size)
                        have P9 := HRB.out W9 t9
                        have HW9 : Hid (Below w.heap.size w W9) := Lib.hid (HB3.out.trans (t9.mono (by omega)))
                        have x9 := (hb9.block bx (lt_of_block X8.out)).trans X8.out
                        clear k0 k1 k2 k3 k4 k5
                        obtain ⟨k0, k1, k2, k3, k4, k5⟩ := rb_at x9
                        clear hb9 t9 x9 cM
                        obtain ⟨o0, o1, o2, o3, o4, o5⟩ := rb_at P9
                        have f0 := unfrozen_of_block P9 0
                        have f1 := unfrozen_of_block P9 1
                        have f2 := unfrozen_of_block P9 2
                        have f3 := unfrozen_of_block P9 3
                        have f4 := unfrozen_of_block P9 4
                        have f5 := unfrozen_of_block P9 5
                        have rr := put6 P9 (.int .i64 (nA : Int)) (.bool PB) (.int .u32 (pA : Int)) (.int .i64 (pN : Int)) (.int .i64 (v1 : Int)) (.int .i64 (v2 : Int))
                        obtain ⟨r0, r1, r2, r3, r4, r5⟩ := rb_at rr
                        have HBS := Lib.hid (put6_below HW9.out (Nat.le_refl w.heap.size) (.int .i64 (nA : Int)) (.bool PB) (.int .u32 (pA : Int)) (.int .i64 (pN : Int)) (.int .i64 (v1 : Int)) (.int .i64 (v2 : Int)))
                        clear rr P9 HP3 HP0 HS3 HRB X8 T8 HB3 HB0 HPB HDB HPA
                        go_wp2
                        refine bodyPost_ret (v := .tuple #[.agg #[.int .i64 (nA : Int), .bool PB, .int .u32 (pA : Int), .int .i64 (pN : Int), .int .i64 (v1 : Int), .int .i64 (v2 : Int)], .int .i64 0]) (by simp [results, Tryd.results8, go_sem, r0, r1, r2, r3, r4, r5]) rfl ⟨?_, HBS.out⟩
                        (rw [PW.out]; try rfl)
                    · have n4 : (pE != 0) = true := by simpa using q4
                      have PW : Hid (R = (ru0, 1)) := Lib.hid (by rw [PW2.out, decide_eq_true (show pE ≠ 0 from q4)]; rfl)
                      obtain ⟨o0, o1, o2, o3, o4, o5⟩ := rb_at P8
                      have f0 := unfrozen_of_block P8 0
                      have f1 := unfrozen_of_block P8 1
                      have f2 := unfrozen_of_block P8 2
                      have f3 := unfrozen_of_block P8 3
                      have f4 := unfrozen_of_block P8 4
                      have f5 := unfrozen_of_block P8 5
                      have rr := put6 P8 (.int .i64 0) (.bool false) (.int .u32 0) (.int .i64 0) (.int .i64 0) (.int .i64 0)
                      obtain ⟨r0, r1, r2, r3, r4, r5⟩ := rb_at rr
                      have HBS := Lib.hid (put6_below HW8.out (Nat.le_refl w.heap.size) (.int .i64 0) (.bool false) (.int .u32 0) (.int .i64 0) (.int .i64 0) (.int .i64 0))
                      clear rr P8 HP3 HP0 HS3 HRB X8 T8 HB3 HB0 HPB HDB HPA PW2
                      go_wp2
                      refine bodyPost_ret (v := .tuple #[.agg #[.int .i64 0, .bool false, .int .u32 0, .int .i64 0, .int .i64 0, .int .i64 0], .int .i64 1]) (by simp [results, Tryd.results8, go_sem, r0, r1, r2, r3, r4, r5]) rfl ⟨?_, HBS.out⟩
                      (rw [PW.out]; try rfl)
                  · have n3 : (n5 : Int) > 0 := by omega
                    have n3a : 0 < n5 := by omega
                    have n3b : decide (0 < n5) = true := by simp; omega
                    have n3c : decide ((0 : Int) < (n5 : Int)) = true := by simp; omega
                    have hr2 : r2 ≠ [] := fun h => q3 (by rw [← HN5.out, h]; rfl)
                    have PW : Hid (R = (ru0, 3)) := Lib.hid (by rw [PWE.out, decide_eq_false q1, hv, decide_eq_false q2, decide_eq_true hr2]; rfl)
                    obtain ⟨o0, o1, o2, o3, o4, o5⟩ := rb_at P8
                    have f0 := unfrozen_of_block P8 0
                    have f1 := unfrozen_of_block P8 1
                    have f2 := unfrozen_of_block P8 2
                    have f3 := unfrozen_of_block P8 3
                    have f4 := unfrozen_of_block P8 4
                    have f5 := unfrozen_of_block P8 5
                    have rr := put6 P8 (.int .i64 0) (.bool false) (.int .u32 0) (.int .i64 0) (.int .i64 0) (.int .i64 0)
                    obtain ⟨r0, r1, r2, r3, r4, r5⟩ := rb_at rr
                    have HBS := Lib.hid (put6_below HW8.out (Nat.le_refl w.heap.size) (.int .i64 0) (.bool false) (.int .u32 0) (.int .i64 0) (.int .i64 0) (.int .i64 0))
                    clear rr P8 HP3 HP0 HS3 HRB X8 T8 HB3 HB0 HPB HDB HPA PWE hr2 q3
                    go_wp2
                    refine bodyPost_ret (v := .tuple #[.agg #[.int .i64 0, .bool false, .int .u32 0, .int .i64 0, .int .i64 0, .int .i64 0], .int .i64 3]) (by simp [results, Tryd.results8, go_sem, r0, r1, r2, r3, r4, r5]) rfl ⟨?_, HBS.out⟩
                    (rw [PW.out]; try rfl)
end Go.Proofs.YtkofpijhihghpaaDoor
