/-
  Contracts of the trie's Below and Walk, and of the function that visits nodes. No statement is proved here; no conditions.
-/
import Derived.Test.YtlmcgjdenfnkmaaAbove
namespace Go.Proofs.Ytlmcgjdenfnkmaa
open Go.RowKit Go.Joins

/-- The function that visits nodes, with its two variables. -/
abbrev fnv (ob vb : Nat) : Value := .func (.func 34) #[] #[.pointer (some ⟨ob, 0, none⟩), .pointer (some ⟨vb, 0, none⟩)]
/-- The two variables, while nodes are visited. -/
def Vt (B ob vb : Nat) (w : World) (L : List En) : Prop := ∃ A c', w.heap[ob]? = some (.cells #[.slice A L.length c'] 28 (0, 0)) ∧ w.heap[vb]? = some (.cells #[fnv ob vb] 71 (0, 0)) ∧ Orw (B ≤ ·) w A c' L
theorem one_at {w : World} {v : Nat} {x : Value} {t : TypeId} (h : w.heap[v]? = some (.cells #[x] t (0, 0))) : w.cell? ⟨v, 0, none⟩ = some x ∧ w.frozen? ⟨v, 0, none⟩ = false := ⟨(cell_of_row w v 0 _ _ _ h).trans rfl, by simp [World.frozen?, h]⟩
theorem enters34 (args : Array Value) (w' : World) : (callFunc 34 args).run Try.prog w' = .ok (.enter 34 args) w' := by simp [callFunc, Try.func34, Try.f34, mark]
/-- What the visit leaves. -/
def Vis (B ob vb : Nat) (w : World) (L : List En) (e : Ending) (w' : World) : Prop := e = .returned (.tuple #[]) ∧ Vt B ob vb w' L ∧ Kp (fun j => j = ob ∨ B ≤ j) w w'
theorem Tn.empty {w : World} {tb : Nat} {nd en : Nat → Option Nat} {m : List En} {c : Int} (h : Tn w tb nd en m c) {n k : Nat} (hk : nd k = none) : m.filter (und n k) = [] := by
  rw [List.filter_eq_nil_iff]
  intro x hx hu
  simp only [und, decide_eq_true_eq] at hu
  exact h.under hx hu.1 (by rw [hu.2]; exact hk)
theorem vis_nil (B ob vb : Nat) (L : List En) (w : World) (hv : Vt B ob vb w L) : Calls Try.prog 34 #[.pointer none, .pointer (some ⟨ob, 0, none⟩), .pointer (some ⟨vb, 0, none⟩)] w fun e w' => Vis B ob vb w L e w' := by
  go_enter Try.func34, Try.ntmps34
  go_wp2
  go_end0
  exact ⟨rfl, hv, Kp.refl _ _⟩
/-- One entry more in the variable. -/
theorem Vt.app {B ob vb : Nat} {w : World} {L : List En} (hv : Vt B ob vb w L) (hob : ob < B) (hvb : vb < B) (hne : ob ≠ vb) (hB : B ≤ w.heap.size) (hl : L.length ≤ 100000) (x : En) (n0 : Nat) (hn0 : w.heap.size = n0) :
    ∃ A c' g2 c2 w2, w.heap[ob]? = some (.cells #[.slice A L.length c'] 28 (0, 0)) ∧ (Builtin.append_ #[28, 28] 28 #[.slice A L.length c', .slice (some ⟨n0, 0, none⟩) 1 1]).run Try.prog (w.alloc (.cells #[.int .u32 (x.A : Int), .int .i64 x.N, .int .i64 x.V] 39)) = .ok (.slice (some ⟨g2, 0, none⟩) (L.length + 1) c2) w2 ∧ w2.heap[ob]? = some (.cells #[.slice A L.length c'] 28 (0, 0)) ∧ w2.heap[vb]? = some (.cells #[fnv ob vb] 71 (0, 0)) ∧ Kp (fun j => j = ob ∨ B ≤ j) w w2 ∧ Vt B ob vb (w2.setCell ⟨ob, 0, none⟩ (.slice (some ⟨g2, 0, none⟩) (L.length + 1) c2)) (L ++ [x]) ∧ Kp (fun j => j = ob ∨ B ≤ j) w (w2.setCell ⟨ob, 0, none⟩ (.slice (some ⟨g2, 0, none⟩) (L.length + 1) c2)) := by
  obtain ⟨A, c', h1, h2, h3⟩ := hv
  obtain ⟨g2, c2, w2, r1, r2, r3, r4⟩ := en_app h3 rfl hl x n0 hn0
  have o2 := (r4.block ob (by omega) (by omega)).trans h1
  have v2 := (r4.block vb (by omega) (by omega)).trans h2
  have k2 : Kp (fun j => j = ob ∨ B ≤ j) w w2 := r4.mono (fun j hj => .inr hj)
  have hg2 : B ≤ g2 := by
    rcases r3 with q | q
    · exact q
    · omega
  have k3 : Kp (fun j => j = ob ∨ B ≤ j) w2 (w2.setCell ⟨ob, 0, none⟩ (.slice (some ⟨g2, 0, none⟩) (L.length + 1) c2)) := Kp.setCell _ _ _ (.inl rfl)
  refine ⟨A, c', g2, c2, w2, h1, r1, o2, v2, k2, ⟨some ⟨g2, 0, none⟩, c2, ?_, ?_, .inr ⟨g2, hg2, rfl, ?_⟩⟩, k2.trans k3 (fun _ h => .inl h)⟩
  · rw [heap_setCell_same w2 ob 0 _ _ _ o2, List.length_append]
    rfl
  · rw [heap_setCell_other _ _ _ _ (Ne.symm hne)]
    exact v2
  · exact r2.keep (heap_setCell_other _ _ _ _ (by show g2 ≠ ob; omega))
set_option maxRecDepth 100000 in
set_option maxHeartbeats 1000000 in
theorem vis_any (B tb ob vb : Nat) (nd en : Nat → Option Nat) (m : List En) (c : Int) (hob : ob < B) (hvb : vb < B) (hne : ob ≠ vb) (hlt : ∀ j, Bk nd en j → j < B ∧ j ≠ ob) (d : Nat) : ∀ (n k : Nat) (L : List En) (w : World), n + d = 33 → 2 ^ n ≤ k → k < 2 ^ (n + 1) → B ≤ w.heap.size → Tn w tb nd en m c → Vt B ob vb w L → L.length + (m.filter (und n k)).length ≤ 100000 →
    Calls Try.prog 34 #[po (nd k), .pointer (some ⟨ob, 0, none⟩), .pointer (some ⟨vb, 0, none⟩)] w fun e w' => Vis B ob vb w (L ++ m.filter (und n k)) e w' := by
  induction d with
  | zero =>
    intro n k L w hn hk1 hk2 hB ht hv hl
    have hnk : nd k = none := by
      cases e : nd k with
      | none => rfl
      | some g =>
        have := (ht.pos k g e).2
        rw [show n = 33 by omega] at hk1
        omega
    rw [ht.empty hnk, hnk, List.append_nil]
    exact vis_nil B ob vb L w hv
  | succ d ih =>
    intro n k L w hn hk1 hk2 hB ht hv hl
    cases hnk : nd k with
    | none =>
      rw [ht.empty hnk, List.append_nil]
      exact vis_nil B ob vb L w hv
    | some g =>
      have hk0 := (ht.pos k g hnk).1
      have p1 : 2 ^ (n + 1) ≤ 2 * k := by rw [Nat.pow_succ]; omega
      have p2 : 2 * k + 1 < 2 ^ (n + 1 + 1) := by rw [Nat.pow_succ 2 (n + 1)]; omega
      have hsp := ht.om.under n k
      have ih0 := fun L w => ih (n + 1) (2 * k) L w (by omega) p1 (by omega)
      have ih1 := fun L w => ih (n + 1) (2 * k + 1) L w (by omega) (by omega) p2
      have hlt3 : L.length + (m.filter (top n k)).length + (m.filter (und (n + 1) (2 * k))).length + (m.filter (und (n + 1) (2 * k + 1))).length ≤ 100000 := by
        rw [hsp, List.length_append, List.length_append] at hl
        omega
      rw [hsp]
      have TK : Hid (∀ W, Kp (fun j => j = ob ∨ B ≤ j) w W → Tn W tb nd en m c) := Lib.hid (fun W hW => ht.kp hW (fun j hj => by have := hlt j hj; omega))
      have HV := Lib.hid hv
      have IH0 := Lib.hid ih0
      have IH1 := Lib.hid ih1
      obtain ⟨_, _, ce, _⟩ := ht.cells hnk
      have HNK := Lib.hid hnk
      have CH : Hid (∀ W, Kp (fun j => j = ob ∨ B ≤ j) w W → W.cell? ⟨g, 0, none⟩ = some (po (nd (2 * k))) ∧ W.cell? ⟨g, 1, none⟩ = some (po (nd (2 * k + 1)))) := Lib.hid (fun W hW => ⟨((TK.out W hW).cells HNK.out).1, ((TK.out W hW).cells HNK.out).2.1⟩)
      obtain ⟨T, hT⟩ : ∃ T, m.filter (top n k) = T := ⟨_, rfl⟩
      obtain ⟨U0, hU0⟩ : ∃ U0, m.filter (und (n + 1) (2 * k)) = U0 := ⟨_, rfl⟩
      obtain ⟨U1, hU1⟩ : ∃ U1, m.filter (und (n + 1) (2 * k + 1)) = U1 := ⟨_, rfl⟩
      rw [hT, hU0, hU1] at hlt3
      have HT := Lib.hid hT
      rw [hT, hU0, hU1]
      rw [hU0] at IH0
      rw [hU1] at IH1
      clear ih ih0 ih1 hsp hv hnk hl hT hU0 hU1 p1 p2
      simp only [po, Option.map_some]
      cases hek : en k with
      | none =>
        have hT0 : T = [] := by
          rw [← HT.out]
          refine top_none fun x hx e => ?_
          exact ht.all x hx (by rw [e]; exact hek)
        subst hT0
        rw [hek] at ce
        simp only [po, Option.map_none] at ce
        have K1 : Hid (Kp (fun j => j = ob ∨ B ≤ j) w w) := Lib.hid (Kp.refl _ _)
        have V1 : Hid (Vt B ob vb w (L ++ [])) := Lib.hid (by rw [List.append_nil]; exact HV.out)
        clear ht hek HV
        go_enter Try.func34, Try.ntmps34
        go_upto_region 3 with fail
        clear ce
        obtain ⟨A3, c3, o3, v3, _⟩ := V1.out
        obtain ⟨vc3, _⟩ := one_at v3
        have gc3 := (CH.out _ K1.out).1
        obtain ⟨pn3, hpn3⟩ : ∃ p, po (nd (2 * k)) = p := ⟨_, rfl⟩
        rw [hpn3] at gc3
        refine wp_region_held_drew (S := fun V => V.cell? ⟨vb, 0, none⟩ = some (fnv ob vb) ∧ V.cell? ⟨g, 0, none⟩ = some pn3) (by kernel_rfl) ⟨vc3, gc3⟩ (fun hHeld => ?_)
        refine wpAnyH_take (i := 0) (v := ?_) rfl (by kernel_rfl) (by kernel_rfl) (by kernel_rfl) (fun _ _ _ h => h) (Or.inl ⟨by rfl, ?_⟩) (by assumption) ?_
        rotate_left
        · (intro w' hSw; (try dsimp only at hSw); go_simp; try with_reducible rfl)
        simp only [Act.put, List.getElem_toArray, List.getElem_cons_zero, List.setIfInBounds_toArray, List.set_cons_zero, List.set_cons_succ]
        refine wpAnyH_take (i := 1) (v := ?_) rfl (by kernel_rfl) (by kernel_rfl) (by kernel_rfl) (fun _ _ _ h => h) (Or.inl ⟨by rfl, ?_⟩) (by assumption) ?_
        rotate_left
        · (intro w' hSw; (try dsimp only at hSw); go_simp; try with_reducible rfl)
        simp only [Act.put, List.getElem_toArray, List.getElem_cons_zero, List.getElem_cons_succ, List.setIfInBounds_toArray, List.set_cons_zero, List.set_cons_succ]
        refine wpAnyH_take (i := 2) (v := ?_) rfl (by kernel_rfl) (by kernel_rfl) (by kernel_rfl) (fun _ _ _ h => h) (Or.inl ⟨by rfl, ?_⟩) (by assumption) ?_
        rotate_left
        · (intro w' hSw; (try dsimp only at hSw); go_simp; try with_reducible rfl)
        simp only [Act.put, List.getElem_toArray, List.getElem_cons_zero, List.getElem_cons_succ, List.setIfInBounds_toArray, List.set_cons_zero, List.set_cons_succ]
        refine wpAnyH_take (i := 3) (v := ?_) rfl (by kernel_rfl) (by kernel_rfl) (by kernel_rfl) (fun _ _ _ h => h) (Or.inl ⟨by rfl, ?_⟩) (by assumption) ?_
        rotate_left
        · (intro w' hSw; (try dsimp only at hSw); go_simp; try with_reducible rfl)
        simp only [Act.put, List.getElem_toArray, List.getElem_cons_zero, List.getElem_cons_succ, List.setIfInBounds_toArray, List.set_cons_zero, List.set_cons_succ]
        refine wpAnyH_take (i := 4) (v := ?_) rfl (by kernel_rfl) (by kernel_rfl) (by kernel_rfl) (fun _ _ _ h => h) (Or.inl ⟨by rfl, ?_⟩) (by assumption) ?_
        rotate_left
        · (intro w' hSw; (try dsimp only at hSw); go_simp; try with_reducible rfl)
        simp only [Act.put, List.getElem_toArray, List.getElem_cons_zero, List.getElem_cons_succ, List.setIfInBounds_toArray, List.set_cons_zero, List.set_cons_succ]
        refine wpAnyH_take (i := 5) (v := ?_) rfl (by kernel_rfl) (by kernel_rfl) (by kernel_rfl) (fun _ _ _ h => h) (Or.inl ⟨by rfl, ?_⟩) (by assumption) ?_
        rotate_left
        · (intro w' hSw; (try dsimp only at hSw); go_simp; try with_reducible rfl)
        simp only [Act.put, List.getElem_toArray, List.getElem_cons_zero, List.getElem_cons_succ, List.setIfInBounds_toArray, List.set_cons_zero, List.set_cons_succ]
        have K3d : Hid (Kp (fun j => j = ob ∨ B ≤ j) w w.drew) := Lib.hid K1.out.drew
        have V3d : Hid (Vt B ob vb w.drew (L ++ [])) := Lib.hid V1.out
        obtain ⟨X3, hX3⟩ : ∃ X, w.drew = X := ⟨_, rfl⟩
        rw [hX3] at K3d V3d hHeld ⊢
        have cv := IH0.out (L ++ []) X3 (by have := K3d.out.size; omega) (TK.out _ K3d.out) V3d.out (by simp; omega)
        rw [hpn3] at cv
        have hf1 := enters34 #[pn3, .pointer (some ⟨ob, 0, none⟩), .pointer (some ⟨vb, 0, none⟩)] X3
        clear hX3 o3 v3 vc3 gc3
        refine wpAnyH_ready (rs := [6]) (by kernel_rfl) (by simp) ?_
        refine AllReadyH.cons rfl (fun K hK => ?_) AllReadyH.nil
        go_simp
        refine cv.mono ?_
        rintro e Y3 ⟨rfl, vy, ky⟩
        have AK : Hid (Kp (fun j => j = ob ∨ B ≤ j) w Y3) := Lib.hid (K3d.out.trans ky (fun _ h => .inl h))
        have AV := Lib.hid vy
        have SF : Hid (Y3.cell? ⟨vb, 0, none⟩ = some (fnv ob vb) ∧ Y3.cell? ⟨g, 0, none⟩ = some pn3) := Lib.hid (by
          obtain ⟨_, _, _, v', _⟩ := vy
          exact ⟨(one_at v').1, by rw [← hpn3]; exact (CH.out _ AK.out).1⟩)
        clear vy ky cv hf1 K3d V3d
        refine hK.out _ _ SF.out (fun _ => ?_)
        clear hK K SF hpn3 hHeld
        refine wpAnyH_done (by kernel_rfl) ?_ _
        go_upto_region 4 with fail
        obtain ⟨A4, c4, o4, v4, _⟩ := AV.out
        obtain ⟨vc4, _⟩ := one_at v4
        have gc4 := (CH.out _ AK.out).2
        obtain ⟨pn4, hpn4⟩ : ∃ p, po (nd (2 * k + 1)) = p := ⟨_, rfl⟩
        rw [hpn4] at gc4
        refine wp_region_held_drew (S := fun V => V.cell? ⟨vb, 0, none⟩ = some (fnv ob vb) ∧ V.cell? ⟨g, 1, none⟩ = some pn4) (by kernel_rfl) ⟨vc4, gc4⟩ (fun hHeld => ?_)
        refine wpAnyH_take (i := 0) (v := ?_) rfl (by kernel_rfl) (by kernel_rfl) (by kernel_rfl) (fun _ _ _ h => h) (Or.inl ⟨by rfl, ?_⟩) (by assumption) ?_
        rotate_left
        · (intro w' hSw; (try dsimp only at hSw); go_simp; try with_reducible rfl)
        simp only [Act.put, List.getElem_toArray, List.getElem_cons_zero, List.setIfInBounds_toArray, List.set_cons_zero, List.set_cons_succ]
        refine wpAnyH_take (i := 1) (v := ?_) rfl (by kernel_rfl) (by kernel_rfl) (by kernel_rfl) (fun _ _ _ h => h) (Or.inl ⟨by rfl, ?_⟩) (by assumption) ?_
        rotate_left
        · (intro w' hSw; (try dsimp only at hSw); go_simp; try with_reducible rfl)
        simp only [Act.put, List.getElem_toArray, List.getElem_cons_zero, List.getElem_cons_succ, List.setIfInBounds_toArray, List.set_cons_zero, List.set_cons_succ]
        refine wpAnyH_take (i := 2) (v := ?_) rfl (by kernel_rfl) (by kernel_rfl) (by kernel_rfl) (fun _ _ _ h => h) (Or.inl ⟨by rfl, ?_⟩) (by assumption) ?_
        rotate_left
        · (intro w' hSw; (try dsimp only at hSw); go_simp; try with_reducible rfl)
        simp only [Act.put, List.getElem_toArray, List.getElem_cons_zero, List.getElem_cons_succ, List.setIfInBounds_toArray, List.set_cons_zero, List.set_cons_succ]
        refine wpAnyH_take (i := 3) (v := ?_) rfl (by kernel_rfl) (by kernel_rfl) (by kernel_rfl) (fun _ _ _ h => h) (Or.inl ⟨by rfl, ?_⟩) (by assumption) ?_
        rotate_left
        · (intro w' hSw; (try dsimp only at hSw); go_simp; try with_reducible rfl)
        simp only [Act.put, List.getElem_toArray, List.getElem_cons_zero, List.getElem_cons_succ, List.setIfInBounds_toArray, List.set_cons_zero, List.set_cons_succ]
        refine wpAnyH_take (i := 4) (v := ?_) rfl (by kernel_rfl) (by kernel_rfl) (by kernel_rfl) (fun _ _ _ h => h) (Or.inl ⟨by rfl, ?_⟩) (by assumption) ?_
        rotate_left
        · (intro w' hSw; (try dsimp only at hSw); go_simp; try with_reducible rfl)
        simp only [Act.put, List.getElem_toArray, List.getElem_cons_zero, List.getElem_cons_succ, List.setIfInBounds_toArray, List.set_cons_zero, List.set_cons_succ]
        refine wpAnyH_take (i := 5) (v := ?_) rfl (by kernel_rfl) (by kernel_rfl) (by kernel_rfl) (fun _ _ _ h => h) (Or.inl ⟨by rfl, ?_⟩) (by assumption) ?_
        rotate_left
        · (intro w' hSw; (try dsimp only at hSw); go_simp; try with_reducible rfl)
        simp only [Act.put, List.getElem_toArray, List.getElem_cons_zero, List.getElem_cons_succ, List.setIfInBounds_toArray, List.set_cons_zero, List.set_cons_succ]
        have K4d : Hid (Kp (fun j => j = ob ∨ B ≤ j) w Y3.drew) := Lib.hid AK.out.drew
        have V4d : Hid (Vt B ob vb Y3.drew (L ++ [] ++ U0)) := Lib.hid AV.out
        obtain ⟨X4, hX4⟩ : ∃ X, Y3.drew = X := ⟨_, rfl⟩
        rw [hX4] at K4d V4d hHeld ⊢
        have cv := IH1.out (L ++ [] ++ U0) X4 (by have := K4d.out.size; omega) (TK.out _ K4d.out) V4d.out (by simp; omega)
        rw [hpn4] at cv
        have hf1 := enters34 #[pn4, .pointer (some ⟨ob, 0, none⟩), .pointer (some ⟨vb, 0, none⟩)] X4
        clear hX4 o4 v4 vc4 gc4
        refine wpAnyH_ready (rs := [6]) (by kernel_rfl) (by simp) ?_
        refine AllReadyH.cons rfl (fun K hK => ?_) AllReadyH.nil
        go_simp
        refine cv.mono ?_
        rintro e Y4 ⟨rfl, vy, ky⟩
        have BK : Hid (Kp (fun j => j = ob ∨ B ≤ j) w Y4) := Lib.hid (K4d.out.trans ky (fun _ h => .inl h))
        have BV := Lib.hid vy
        have SF : Hid (Y4.cell? ⟨vb, 0, none⟩ = some (fnv ob vb) ∧ Y4.cell? ⟨g, 1, none⟩ = some pn4) := Lib.hid (by
          obtain ⟨_, _, _, v', _⟩ := vy
          exact ⟨(one_at v').1, by rw [← hpn4]; exact (CH.out _ BK.out).2⟩)
        clear vy ky cv hf1 K4d V4d
        refine hK.out _ _ SF.out (fun _ => ?_)
        clear hK K SF hpn4 hHeld
        refine wpAnyH_done (by kernel_rfl) ?_ _
        go_wp2
        go_end0
        exact ⟨rfl, by have := BV.out; simpa [List.append_assoc] using this, BK.out⟩
      | some f =>
        obtain ⟨x, hxm, hkx, _, hbk⟩ := ht.entry hek
        have hT1 : T = [x] := by
          rw [← HT.out]
          exact ht.om.top_one hxm (kx_lvl (ht.om.lt x hxm) hk1 hk2 hkx)
        subst hT1
        simp only [List.length_cons, List.length_nil] at hlt3
        rw [hek] at ce
        simp only [po, Option.map_some] at ce
        have hbf := hlt f (.inr ⟨k, hek⟩)
        have hbg := hlt g (.inl ⟨k, HNK.out⟩)
        have HBK := Lib.hid hbk
        go_enter Try.func34, Try.ntmps34
        go_upto_region 2 with fail
        have Sof : Hid (∀ W, Kp (fun j => j = ob ∨ B ≤ j) w W → W.cell? ⟨g, 2, none⟩ = some (.pointer (some ⟨f, 0, none⟩)) ∧ W.cell? ⟨f, 0, none⟩ = some (.int .u32 (x.A : Int)) ∧ W.cell? ⟨f, 1, none⟩ = some (.int .i64 x.N) ∧ W.cell? ⟨f, 2, none⟩ = some (.int .i64 x.V)) := Lib.hid (fun W hW => by
          have q := ((TK.out W hW).cells HNK.out).2.2.1
          rw [hek] at q
          obtain ⟨z0, z1, z2⟩ := ebo_cell ((hW.block f (lt_of_block HBK.out) (by omega)).trans HBK.out)
          exact ⟨q, z0, z1, z2⟩)
        have KD : Hid (Kp (fun j => j = ob ∨ B ≤ j) w w.drew) := Lib.hid (Kp.refl _ _).drew
        have VD : Vt B ob vb w.drew L := HV.out
        have hll : L.length ≤ 100000 := by omega
        refine wp_region_held_drew (S := fun V => V.cell? ⟨g, 2, none⟩ = some (.pointer (some ⟨f, 0, none⟩)) ∧ V.cell? ⟨f, 0, none⟩ = some (.int .u32 (x.A : Int)) ∧ V.cell? ⟨f, 1, none⟩ = some (.int .i64 x.N) ∧ V.cell? ⟨f, 2, none⟩ = some (.int .i64 x.V)) (by kernel_rfl) (Sof.out _ KD.out) (fun hHeld => ?_)
        refine wpAnyH_take (i := 1) (v := ?_) rfl (by kernel_rfl) (by kernel_rfl) (by kernel_rfl) (fun _ _ _ h => h) (Or.inl ⟨by rfl, ?_⟩) (by assumption) ?_
        rotate_left
        · (intro w' hSw; (try dsimp only at hSw); go_simp; try with_reducible rfl)
        simp only [Act.put, List.getElem_toArray, List.getElem_cons_zero, List.getElem_cons_succ, List.setIfInBounds_toArray, List.set_cons_zero, List.set_cons_succ]
        refine wpAnyH_take (i := 2) (v := ?_) rfl (by kernel_rfl) (by kernel_rfl) (by kernel_rfl) (fun _ _ _ h => h) (Or.inl ⟨by rfl, ?_⟩) (by assumption) ?_
        rotate_left
        · (intro w' hSw; (try dsimp only at hSw); go_simp; try with_reducible rfl)
        simp only [Act.put, List.getElem_toArray, List.getElem_cons_zero, List.getElem_cons_succ, List.setIfInBounds_toArray, List.set_cons_zero, List.set_cons_succ]
        refine wpAnyH_take (i := 3) (v := ?_) rfl (by kernel_rfl) (by kernel_rfl) (by kernel_rfl) (fun _ _ _ h => h) (Or.inl ⟨by rfl, ?_⟩) (by assumption) ?_
        rotate_left
        · (intro w' hSw; (try dsimp only at hSw); go_simp; try with_reducible rfl)
        simp only [Act.put, List.getElem_toArray, List.getElem_cons_zero, List.getElem_cons_succ, List.setIfInBounds_toArray, List.set_cons_zero, List.set_cons_succ]
        refine wpAnyH_take (i := 4) (v := ?_) rfl (by kernel_rfl) (by kernel_rfl) (by kernel_rfl) (fun _ _ _ h => h) (Or.inl ⟨by rfl, ?_⟩) (by assumption) ?_
        rotate_left
        · (intro w' hSw; (try dsimp only at hSw); go_simp; try with_reducible rfl)
        simp only [Act.put, List.getElem_toArray, List.getElem_cons_zero, List.getElem_cons_succ, List.setIfInBounds_toArray, List.set_cons_zero, List.set_cons_succ]
        refine wpAnyH_take (i := 5) (v := ?_) rfl (by kernel_rfl) (by kernel_rfl) (by kernel_rfl) (fun _ _ _ h => h) (Or.inl ⟨by rfl, ?_⟩) (by assumption) ?_
        rotate_left
        · (intro w' hSw; (try dsimp only at hSw); go_simp; try with_reducible rfl)
        simp only [Act.put, List.getElem_toArray, List.getElem_cons_zero, List.getElem_cons_succ, List.setIfInBounds_toArray, List.set_cons_zero, List.set_cons_succ]
        refine wpAnyH_take (i := 6) (v := ?_) rfl (by kernel_rfl) (by kernel_rfl) (by kernel_rfl) (fun _ _ _ h => h) (Or.inl ⟨by rfl, ?_⟩) (by assumption) ?_
        rotate_left
        · (intro w' hSw; (try dsimp only at hSw); go_simp; try with_reducible rfl)
        simp only [Act.put, List.getElem_toArray, List.getElem_cons_zero, List.getElem_cons_succ, List.setIfInBounds_toArray, List.set_cons_zero, List.set_cons_succ]
        obtain ⟨X0, hX0⟩ : ∃ X, w.drew = X := ⟨_, rfl⟩
        rw [hX0] at KD VD hHeld ⊢
        have hsx : B ≤ X0.heap.size := by have := KD.out.size; omega
        obtain ⟨A1, c1, g2, c2, X2, h1, r1, o2, v2, k2, v3, k3⟩ := VD.app hob hvb hne hsx hll x X0.heap.size rfl
        obtain ⟨X1, hX1⟩ : ∃ X, X0.alloc (.cells #[.int .u32 (x.A : Int), .int .i64 x.N, .int .i64 x.V] 39) = X := ⟨_, rfl⟩
        rw [hX1] at r1
        have b1 : Below X0.heap.size X0 X1 := by rw [← hX1]; exact below_alloc1 _ _
        have KX1 : Hid (Kp (fun j => j = ob ∨ B ≤ j) w X1) := Lib.hid (KD.out.then_below b1 (Nat.le_refl _))
        have KX2 : Hid (Kp (fun j => j = ob ∨ B ≤ j) w X2) := Lib.hid (KD.out.trans k2 (fun _ h => .inl h))
        have h11 := (b1.block _ (lt_of_block h1)).trans h1
        obtain ⟨q0, _⟩ := one_at h1
        obtain ⟨q1, _⟩ := one_at h11
        obtain ⟨q2, q2f⟩ := one_at o2
        obtain ⟨ll, hll2⟩ : ∃ ll, L.length = ll := ⟨_, rfl⟩
        rw [hll2] at r1 q0 q1 q2 v3 k3
        obtain ⟨X3, hX3⟩ : ∃ X, X2.setCell ⟨ob, 0, none⟩ (.slice (some ⟨g2, 0, none⟩) (ll + 1) c2) = X := ⟨_, rfl⟩
        rw [hX3] at v3 k3
        have K1 : Hid (Kp (fun j => j = ob ∨ B ≤ j) w X3) := Lib.hid (KD.out.trans k3 (fun _ h => .inl h))
        have V1 := Lib.hid v3
        have S1 := Lib.hid (Sof.out _ KX1.out)
        have S2 := Lib.hid (Sof.out _ KX2.out)
        have S3 := Lib.hid (Sof.out _ K1.out)
        clear h1 o2 v2 k2 v3 k3 h11 b1 hll hll2 VD hX0 HV ht hek KX1 KX2 ce
        refine wpAnyH_ready (rs := [0, 7]) (by kernel_rfl) (by simp) ?_
        refine AllReadyH.cons rfl (fun K hK => ?_) (AllReadyH.cons rfl (fun K hK => ?_) AllReadyH.nil)
        · go_simp
          refine hK.out _ _ hHeld (fun _ => ?_)
          clear hK K
          refine wpAnyH_ready (rs := [7]) (by kernel_rfl) (by simp) ?_
          refine AllReadyH.cons rfl (fun K hK => ?_) AllReadyH.nil
          go_simp
          refine hK.out _ _ S1.out (fun _ => ?_)
          clear hK K
          refine wpAnyH_ready (rs := [8]) (by kernel_rfl) (by simp) ?_
          refine AllReadyH.cons rfl (fun K hK => ?_) AllReadyH.nil
          refine step_runb _ rfl (.tmp 11) (.tmp 18) 28 rfl rfl rfl r1 ?_
          refine hK.out _ _ S2.out (fun _ => ?_)
          clear hK K
          refine wpAnyH_ready (rs := [9]) (by kernel_rfl) (by simp) ?_
          refine AllReadyH.cons rfl (fun K hK => ?_) AllReadyH.nil
          go_simp
          refine hK.out _ _ S3.out (fun _ => ?_)
          clear hK K hX1 hX3 r1 q0 q1 q2 q2f S1 S2 S3 hHeld
          refine wpAnyH_done (by kernel_rfl) ?_ _
          go_upto_region 3 with fail
          obtain ⟨A3, c3, o3, v3, _⟩ := V1.out
          obtain ⟨vc3, _⟩ := one_at v3
          have gc3 := (CH.out _ K1.out).1
          obtain ⟨pn3, hpn3⟩ : ∃ p, po (nd (2 * k)) = p := ⟨_, rfl⟩
          rw [hpn3] at gc3
          refine wp_region_held_drew (S := fun V => V.cell? ⟨vb, 0, none⟩ = some (fnv ob vb) ∧ V.cell? ⟨g, 0, none⟩ = some pn3) (by kernel_rfl) ⟨vc3, gc3⟩ (fun hHeld => ?_)
          refine wpAnyH_take (i := 0) (v := ?_) rfl (by kernel_rfl) (by kernel_rfl) (by kernel_rfl) (fun _ _ _ h => h) (Or.inl ⟨by rfl, ?_⟩) (by assumption) ?_
          rotate_left
          · (intro w' hSw; (try dsimp only at hSw); go_simp; try with_reducible rfl)
          simp only [Act.put, List.getElem_toArray, List.getElem_cons_zero, List.setIfInBounds_toArray, List.set_cons_zero, List.set_cons_succ]
          refine wpAnyH_take (i := 1) (v := ?_) rfl (by kernel_rfl) (by kernel_rfl) (by kernel_rfl) (fun _ _ _ h => h) (Or.inl ⟨by rfl, ?_⟩) (by assumption) ?_
          rotate_left
          · (intro w' hSw; (try dsimp only at hSw); go_simp; try with_reducible rfl)
          simp only [Act.put, List.getElem_toArray, List.getElem_cons_zero, List.getElem_cons_succ, List.setIfInBounds_toArray, List.set_cons_zero, List.set_cons_succ]
          refine wpAnyH_take (i := 2) (v := ?_) rfl (by kernel_rfl) (by kernel_rfl) (by kernel_rfl) (fun _ _ _ h => h) (Or.inl ⟨by rfl, ?_⟩) (by assumption) ?_
          rotate_left
          · (intro w' hSw; (try dsimp only at hSw); go_simp; try with_reducible rfl)
          simp only [Act.put, List.getElem_toArray, List.getElem_cons_zero, List.getElem_cons_succ, List.setIfInBounds_toArray, List.set_cons_zero, List.set_cons_succ]
          refine wpAnyH_take (i := 3) (v := ?_) rfl (by kernel_rfl) (by kernel_rfl) (by kernel_rfl) (fun _ _ _ h => h) (Or.inl ⟨by rfl, ?_⟩) (by assumption) ?_
          rotate_left
          · (intro w' hSw; (try dsimp only at hSw); go_simp; try with_reducible rfl)
          simp only [Act.put, List.getElem_toArray, List.getElem_cons_zero, List.getElem_cons_succ, List.setIfInBounds_toArray, List.set_cons_zero, List.set_cons_succ]
          refine wpAnyH_take (i := 4) (v := ?_) rfl (by kernel_rfl) (by kernel_rfl) (by kernel_rfl) (fun _ _ _ h => h) (Or.inl ⟨by rfl, ?_⟩) (by assumption) ?_
          rotate_left
          · (intro w' hSw; (try dsimp only at hSw); go_simp; try with_reducible rfl)
          simp only [Act.put, List.getElem_toArray, List.getElem_cons_zero, List.getElem_cons_succ, List.setIfInBounds_toArray, List.set_cons_zero, List.set_cons_succ]
          refine wpAnyH_take (i := 5) (v := ?_) rfl (by kernel_rfl) (by kernel_rfl) (by kernel_rfl) (fun _ _ _ h => h) (Or.inl ⟨by rfl, ?_⟩) (by assumption) ?_
          rotate_left
          · (intro w' hSw; (try dsimp only at hSw); go_simp; try with_reducible rfl)
          simp only [Act.put, List.getElem_toArray, List.getElem_cons_zero, List.getElem_cons_succ, List.setIfInBounds_toArray, List.set_cons_zero, List.set_cons_succ]
          have K3d : Hid (Kp (fun j => j = ob ∨ B ≤ j) w X3.drew) := Lib.hid K1.out.drew
          have V3d : Hid (Vt B ob vb X3.drew (L ++ [x])) := Lib.hid V1.out
          obtain ⟨X3, hX3⟩ : ∃ X, X3.drew = X := ⟨_, rfl⟩
          rw [hX3] at K3d V3d hHeld ⊢
          have cv := IH0.out (L ++ [x]) X3 (by have := K3d.out.size; omega) (TK.out _ K3d.out) V3d.out (by simp; omega)
          rw [hpn3] at cv
          have hf1 := enters34 #[pn3, .pointer (some ⟨ob, 0, none⟩), .pointer (some ⟨vb, 0, none⟩)] X3
          clear hX3 o3 v3 vc3 gc3
          refine wpAnyH_ready (rs := [6]) (by kernel_rfl) (by simp) ?_
          refine AllReadyH.cons rfl (fun K hK => ?_) AllReadyH.nil
          go_simp
          refine cv.mono ?_
          rintro e Y3 ⟨rfl, vy, ky⟩
          have AK : Hid (Kp (fun j => j = ob ∨ B ≤ j) w Y3) := Lib.hid (K3d.out.trans ky (fun _ h => .inl h))
          have AV := Lib.hid vy
          have SF : Hid (Y3.cell? ⟨vb, 0, none⟩ = some (fnv ob vb) ∧ Y3.cell? ⟨g, 0, none⟩ = some pn3) := Lib.hid (by
            obtain ⟨_, _, _, v', _⟩ := vy
            exact ⟨(one_at v').1, by rw [← hpn3]; exact (CH.out _ AK.out).1⟩)
          clear vy ky cv hf1 K3d V3d
          refine hK.out _ _ SF.out (fun _ => ?_)
          clear hK K SF hpn3 hHeld
          refine wpAnyH_done (by kernel_rfl) ?_ _
          go_upto_region 4 with fail
          obtain ⟨A4, c4, o4, v4, _⟩ := AV.out
          obtain ⟨vc4, _⟩ := one_at v4
          have gc4 := (CH.out _ AK.out).2
          obtain ⟨pn4, hpn4⟩ : ∃ p, po (nd (2 * k + 1)) = p := ⟨_, rfl⟩
          rw [hpn4] at gc4
          refine wp_region_held_drew (S := fun V => V.cell? ⟨vb, 0, none⟩ = some (fnv ob vb) ∧ V.cell? ⟨g, 1, none⟩ = some pn4) (by kernel_rfl) ⟨vc4, gc4⟩ (fun hHeld => ?_)
          refine wpAnyH_take (i := 0) (v := ?_) rfl (by kernel_rfl) (by kernel_rfl) (by kernel_rfl) (fun _ _ _ h => h) (Or.inl ⟨by rfl, ?_⟩) (by assumption) ?_
          rotate_left
          · (intro w' hSw; (try dsimp only at hSw); go_simp; try with_reducible rfl)
          simp only [Act.put, List.getElem_toArray, List.getElem_cons_zero, List.setIfInBounds_toArray, List.set_cons_zero, List.set_cons_succ]
          refine wpAnyH_take (i := 1) (v := ?_) rfl (by kernel_rfl) (by kernel_rfl) (by kernel_rfl) (fun _ _ _ h => h) (Or.inl ⟨by rfl, ?_⟩) (by assumption) ?_
          rotate_left
          · (intro w' hSw; (try dsimp only at hSw); go_simp; try with_reducible rfl)
          simp only [Act.put, List.getElem_toArray, List.getElem_cons_zero, List.getElem_cons_succ, List.setIfInBounds_toArray, List.set_cons_zero, List.set_cons_succ]
          refine wpAnyH_take (i := 2) (v := ?_) rfl (by kernel_rfl) (by kernel_rfl) (by kernel_rfl) (fun _ _ _ h => h) (Or.inl ⟨by rfl, ?_⟩) (by assumption) ?_
          rotate_left
          · (intro w' hSw; (try dsimp only at hSw); go_simp; try with_reducible rfl)
          simp only [Act.put, List.getElem_toArray, List.getElem_cons_zero, List.getElem_cons_succ, List.setIfInBounds_toArray, List.set_cons_zero, List.set_cons_succ]
          refine wpAnyH_take (i := 3) (v := ?_) rfl (by kernel_rfl) (by kernel_rfl) (by kernel_rfl) (fun _ _ _ h => h) (Or.inl ⟨by rfl, ?_⟩) (by assumption) ?_
          rotate_left
          · (intro w' hSw; (try dsimp only at hSw); go_simp; try with_reducible rfl)
          simp only [Act.put, List.getElem_toArray, List.getElem_cons_zero, List.getElem_cons_succ, List.setIfInBounds_toArray, List.set_cons_zero, List.set_cons_succ]
          refine wpAnyH_take (i := 4) (v := ?_) rfl (by kernel_rfl) (by kernel_rfl) (by kernel_rfl) (fun _ _ _ h => h) (Or.inl ⟨by rfl, ?_⟩) (by assumption) ?_
          rotate_left
          · (intro w' hSw; (try dsimp only at hSw); go_simp; try with_reducible rfl)
          simp only [Act.put, List.getElem_toArray, List.getElem_cons_zero, List.getElem_cons_succ, List.setIfInBounds_toArray, List.set_cons_zero, List.set_cons_succ]
          refine wpAnyH_take (i := 5) (v := ?_) rfl (by kernel_rfl) (by kernel_rfl) (by kernel_rfl) (fun _ _ _ h => h) (Or.inl ⟨by rfl, ?_⟩) (by assumption) ?_
          rotate_left
          · (intro w' hSw; (try dsimp only at hSw); go_simp; try with_reducible rfl)
          simp only [Act.put, List.getElem_toArray, List.getElem_cons_zero, List.getElem_cons_succ, List.setIfInBounds_toArray, List.set_cons_zero, List.set_cons_succ]
          have K4d : Hid (Kp (fun j => j = ob ∨ B ≤ j) w Y3.drew) := Lib.hid AK.out.drew
          have V4d : Hid (Vt B ob vb Y3.drew (L ++ [x] ++ U0)) := Lib.hid AV.out
          obtain ⟨X4, hX4⟩ : ∃ X, Y3.drew = X := ⟨_, rfl⟩
          rw [hX4] at K4d V4d hHeld ⊢
          have cv := IH1.out (L ++ [x] ++ U0) X4 (by have := K4d.out.size; omega) (TK.out _ K4d.out) V4d.out (by simp; omega)
          rw [hpn4] at cv
          have hf1 := enters34 #[pn4, .pointer (some ⟨ob, 0, none⟩), .pointer (some ⟨vb, 0, none⟩)] X4
          clear hX4 o4 v4 vc4 gc4
          refine wpAnyH_ready (rs := [6]) (by kernel_rfl) (by simp) ?_
          refine AllReadyH.cons rfl (fun K hK => ?_) AllReadyH.nil
          go_simp
          refine cv.mono ?_
          rintro e Y4 ⟨rfl, vy, ky⟩
          have BK : Hid (Kp (fun j => j = ob ∨ B ≤ j) w Y4) := Lib.hid (K4d.out.trans ky (fun _ h => .inl h))
          have BV := Lib.hid vy
          have SF : Hid (Y4.cell? ⟨vb, 0, none⟩ = some (fnv ob vb) ∧ Y4.cell? ⟨g, 1, none⟩ = some pn4) := Lib.hid (by
            obtain ⟨_, _, _, v', _⟩ := vy
            exact ⟨(one_at v').1, by rw [← hpn4]; exact (CH.out _ BK.out).2⟩)
          clear vy ky cv hf1 K4d V4d
          refine hK.out _ _ SF.out (fun _ => ?_)
          clear hK K SF hpn4 hHeld
          refine wpAnyH_done (by kernel_rfl) ?_ _
          go_wp2
          go_end0
          exact ⟨rfl, by have := BV.out; simpa [List.append_assoc] using this, BK.out⟩
        · go_simp
          refine hK.out _ _ S1.out (fun _ => ?_)
          clear hK K
          refine wpAnyH_ready (rs := [0]) (by kernel_rfl) (by simp) ?_
          refine AllReadyH.cons rfl (fun K hK => ?_) AllReadyH.nil
          go_simp
          refine hK.out _ _ S1.out (fun _ => ?_)
          clear hK K
          refine wpAnyH_ready (rs := [8]) (by kernel_rfl) (by simp) ?_
          refine AllReadyH.cons rfl (fun K hK => ?_) AllReadyH.nil
          refine step_runb _ rfl (.tmp 11) (.tmp 18) 28 rfl rfl rfl r1 ?_
          refine hK.out _ _ S2.out (fun _ => ?_)
          clear hK K
          refine wpAnyH_ready (rs := [9]) (by kernel_rfl) (by simp) ?_
          refine AllReadyH.cons rfl (fun K hK => ?_) AllReadyH.nil
          go_simp
          refine hK.out _ _ S3.out (fun _ => ?_)
          clear hK K hX1 hX3 r1 q0 q1 q2 q2f S1 S2 S3 hHeld
          refine wpAnyH_done (by kernel_rfl) ?_ _
          go_upto_region 3 with fail
          obtain ⟨A3, c3, o3, v3, _⟩ := V1.out
          obtain ⟨vc3, _⟩ := one_at v3
          have gc3 := (CH.out _ K1.out).1
          obtain ⟨pn3, hpn3⟩ : ∃ p, po (nd (2 * k)) = p := ⟨_, rfl⟩
          rw [hpn3] at gc3
          refine wp_region_held_drew (S := fun V => V.cell? ⟨vb, 0, none⟩ = some (fnv ob vb) ∧ V.cell? ⟨g, 0, none⟩ = some pn3) (by kernel_rfl) ⟨vc3, gc3⟩ (fun hHeld => ?_)
          refine wpAnyH_take (i := 0) (v := ?_) rfl (by kernel_rfl) (by kernel_rfl) (by kernel_rfl) (fun _ _ _ h => h) (Or.inl ⟨by rfl, ?_⟩) (by assumption) ?_
          rotate_left
          · (intro w' hSw; (try dsimp only at hSw); go_simp; try with_reducible rfl)
          simp only [Act.put, List.getElem_toArray, List.getElem_cons_zero, List.setIfInBounds_toArray, List.set_cons_zero, List.set_cons_succ]
          refine wpAnyH_take (i := 1) (v := ?_) rfl (by kernel_rfl) (by kernel_rfl) (by kernel_rfl) (fun _ _ _ h => h) (Or.inl ⟨by rfl, ?_⟩) (by assumption) ?_
          rotate_left
          · (intro w' hSw; (try dsimp only at hSw); go_simp; try with_reducible rfl)
          simp only [Act.put, List.getElem_toArray, List.getElem_cons_zero, List.getElem_cons_succ, List.setIfInBounds_toArray, List.set_cons_zero, List.set_cons_succ]
          refine wpAnyH_take (i := 2) (v := ?_) rfl (by kernel_rfl) (by kernel_rfl) (by kernel_rfl) (fun _ _ _ h => h) (Or.inl ⟨by rfl, ?_⟩) (by assumption) ?_
          rotate_left
          · (intro w' hSw; (try dsimp only at hSw); go_simp; try with_reducible rfl)
          simp only [Act.put, List.getElem_toArray, List.getElem_cons_zero, List.getElem_cons_succ, List.setIfInBounds_toArray, List.set_cons_zero, List.set_cons_succ]
          refine wpAnyH_take (i := 3) (v := ?_) rfl (by kernel_rfl) (by kernel_rfl) (by kernel_rfl) (fun _ _ _ h => h) (Or.inl ⟨by rfl, ?_⟩) (by assumption) ?_
          rotate_left
          · (intro w' hSw; (try dsimp only at hSw); go_simp; try with_reducible rfl)
          simp only [Act.put, List.getElem_toArray, List.getElem_cons_zero, List.getElem_cons_succ, List.setIfInBounds_toArray, List.set_cons_zero, List.set_cons_succ]
          refine wpAnyH_take (i := 4) (v := ?_) rfl (by kernel_rfl) (by kernel_rfl) (by kernel_rfl) (fun _ _ _ h => h) (Or.inl ⟨by rfl, ?_⟩) (by assumption) ?_
          rotate_left
          · (intro w' hSw; (try dsimp only at hSw); go_simp; try with_reducible rfl)
          simp only [Act.put, List.getElem_toArray, List.getElem_cons_zero, List.getElem_cons_succ, List.setIfInBounds_toArray, List.set_cons_zero, List.set_cons_succ]
          refine wpAnyH_take (i := 5) (v := ?_) rfl (by kernel_rfl) (by kernel_rfl) (by kernel_rfl) (fun _ _ _ h => h) (Or.inl ⟨by rfl, ?_⟩) (by assumption) ?_
          rotate_left
          · (intro w' hSw; (try dsimp only at hSw); go_simp; try with_reducible rfl)
          simp only [Act.put, List.getElem_toArray, List.getElem_cons_zero, List.getElem_cons_succ, List.setIfInBounds_toArray, List.set_cons_zero, List.set_cons_succ]
          have K3d : Hid (Kp (fun j => j = ob ∨ B ≤ j) w X3.drew) := Lib.hid K1.out.drew
          have V3d : Hid (Vt B ob vb X3.drew (L ++ [x])) := Lib.hid V1.out
          obtain ⟨X3, hX3⟩ : ∃ X, X3.drew = X := ⟨_, rfl⟩
          rw [hX3] at K3d V3d hHeld ⊢
          have cv := IH0.out (L ++ [x]) X3 (by have := K3d.out.size; omega) (TK.out _ K3d.out) V3d.out (by simp; omega)
          rw [hpn3] at cv
          have hf1 := enters34 #[pn3, .pointer (some ⟨ob, 0, none⟩), .pointer (some ⟨vb, 0, none⟩)] X3
          clear hX3 o3 v3 vc3 gc3
          refine wpAnyH_ready (rs := [6]) (by kernel_rfl) (by simp) ?_
          refine AllReadyH.cons rfl (fun K hK => ?_) AllReadyH.nil
          go_simp
          refine cv.mono ?_
          rintro e Y3 ⟨rfl, vy, ky⟩
          have AK : Hid (Kp (fun j => j = ob ∨ B ≤ j) w Y3) := Lib.hid (K3d.out.trans ky (fun _ h => .inl h))
          have AV := Lib.hid vy
          have SF : Hid (Y3.cell? ⟨vb, 0, none⟩ = some (fnv ob vb) ∧ Y3.cell? ⟨g, 0, none⟩ = some pn3) := Lib.hid (by
            obtain ⟨_, _, _, v', _⟩ := vy
            exact ⟨(one_at v').1, by rw [← hpn3]; exact (CH.out _ AK.out).1⟩)
          clear vy ky cv hf1 K3d V3d
          refine hK.out _ _ SF.out (fun _ => ?_)
          clear hK K SF hpn3 hHeld
          refine wpAnyH_done (by kernel_rfl) ?_ _
          go_upto_region 4 with fail
          obtain ⟨A4, c4, o4, v4, _⟩ := AV.out
          obtain ⟨vc4, _⟩ := one_at v4
          have gc4 := (CH.out _ AK.out).2
          obtain ⟨pn4, hpn4⟩ : ∃ p, po (nd (2 * k + 1)) = p := ⟨_, rfl⟩
          rw [hpn4] at gc4
          refine wp_region_held_drew (S := fun V => V.cell? ⟨vb, 0, none⟩ = some (fnv ob vb) ∧ V.cell? ⟨g, 1, none⟩ = some pn4) (by kernel_rfl) ⟨vc4, gc4⟩ (fun hHeld => ?_)
          refine wpAnyH_take (i := 0) (v := ?_) rfl (by kernel_rfl) (by kernel_rfl) (by kernel_rfl) (fun _ _ _ h => h) (Or.inl ⟨by rfl, ?_⟩) (by assumption) ?_
          rotate_left
          · (intro w' hSw; (try dsimp only at hSw); go_simp; try with_reducible rfl)
          simp only [Act.put, List.getElem_toArray, List.getElem_cons_zero, List.setIfInBounds_toArray, List.set_cons_zero, List.set_cons_succ]
          refine wpAnyH_take (i := 1) (v := ?_) rfl (by kernel_rfl) (by kernel_rfl) (by kernel_rfl) (fun _ _ _ h => h) (Or.inl ⟨by rfl, ?_⟩) (by assumption) ?_
          rotate_left
          · (intro w' hSw; (try dsimp only at hSw); go_simp; try with_reducible rfl)
          simp only [Act.put, List.getElem_toArray, List.getElem_cons_zero, List.getElem_cons_succ, List.setIfInBounds_toArray, List.set_cons_zero, List.set_cons_succ]
          refine wpAnyH_take (i := 2) (v := ?_) rfl (by kernel_rfl) (by kernel_rfl) (by kernel_rfl) (fun _ _ _ h => h) (Or.inl ⟨by rfl, ?_⟩) (by assumption) ?_
          rotate_left
          · (intro w' hSw; (try dsimp only at hSw); go_simp; try with_reducible rfl)
          simp only [Act.put, List.getElem_toArray, List.getElem_cons_zero, List.getElem_cons_succ, List.setIfInBounds_toArray, List.set_cons_zero, List.set_cons_succ]
          refine wpAnyH_take (i := 3) (v := ?_) rfl (by kernel_rfl) (by kernel_rfl) (by kernel_rfl) (fun _ _ _ h => h) (Or.inl ⟨by rfl, ?_⟩) (by assumption) ?_
          rotate_left
          · (intro w' hSw; (try dsimp only at hSw); go_simp; try with_reducible rfl)
          simp only [Act.put, List.getElem_toArray, List.getElem_cons_zero, List.getElem_cons_succ, List.setIfInBounds_toArray, List.set_cons_zero, List.set_cons_succ]
          refine wpAnyH_take (i := 4) (v := ?_) rfl (by kernel_rfl) (by kernel_rfl) (by kernel_rfl) (fun _ _ _ h => h) (Or.inl ⟨by rfl, ?_⟩) (by assumption) ?_
          rotate_left
          · (intro w' hSw; (try dsimp only at hSw); go_simp; try with_reducible rfl)
          simp only [Act.put, List.getElem_toArray, List.getElem_cons_zero, List.getElem_cons_succ, List.setIfInBounds_toArray, List.set_cons_zero, List.set_cons_succ]
          refine wpAnyH_take (i := 5) (v := ?_) rfl (by kernel_rfl) (by kernel_rfl) (by kernel_rfl) (fun _ _ _ h => h) (Or.inl ⟨by rfl, ?_⟩) (by assumption) ?_
          rotate_left
          · (intro w' hSw; (try dsimp only at hSw); go_simp; try with_reducible rfl)
          simp only [Act.put, List.getElem_toArray, List.getElem_cons_zero, List.getElem_cons_succ, List.setIfInBounds_toArray, List.set_cons_zero, List.set_cons_succ]
          have K4d : Hid (Kp (fun j => j = ob ∨ B ≤ j) w Y3.drew) := Lib.hid AK.out.drew
          have V4d : Hid (Vt B ob vb Y3.drew (L ++ [x] ++ U0)) := Lib.hid AV.out
          obtain ⟨X4, hX4⟩ : ∃ X, Y3.drew = X := ⟨_, rfl⟩
          rw [hX4] at K4d V4d hHeld ⊢
          have cv := IH1.out (L ++ [x] ++ U0) X4 (by have := K4d.out.size; omega) (TK.out _ K4d.out) V4d.out (by simp; omega)
          rw [hpn4] at cv
          have hf1 := enters34 #[pn4, .pointer (some ⟨ob, 0, none⟩), .pointer (some ⟨vb, 0, none⟩)] X4
          clear hX4 o4 v4 vc4 gc4
          refine wpAnyH_ready (rs := [6]) (by kernel_rfl) (by simp) ?_
          refine AllReadyH.cons rfl (fun K hK => ?_) AllReadyH.nil
          go_simp
          refine cv.mono ?_
          rintro e Y4 ⟨rfl, vy, ky⟩
          have BK : Hid (Kp (fun j => j = ob ∨ B ≤ j) w Y4) := Lib.hid (K4d.out.trans ky (fun _ h => .inl h))
          have BV := Lib.hid vy
          have SF : Hid (Y4.cell? ⟨vb, 0, none⟩ = some (fnv ob vb) ∧ Y4.cell? ⟨g, 1, none⟩ = some pn4) := Lib.hid (by
            obtain ⟨_, _, _, v', _⟩ := vy
            exact ⟨(one_at v').1, by rw [← hpn4]; exact (CH.out _ BK.out).2⟩)
          clear vy ky cv hf1 K4d V4d
          refine hK.out _ _ SF.out (fun _ => ?_)
          clear hK K SF hpn4 hHeld
          refine wpAnyH_done (by kernel_rfl) ?_ _
          go_wp2
          go_end0
          exact ⟨rfl, by have := BV.out; simpa [List.append_assoc] using this, BK.out⟩
end Go.Proofs.Ytlmcgjdenfnkmaa
