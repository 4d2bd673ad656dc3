/-
  The contract of the function with which Hops visits an edge of the root. No statement is proved here; no conditions.
-/
import Derived.Test.YtkpmdfgjaodlaaaBehind
namespace Go.Proofs.Ytkpmdfgjaodlaaa
open Go.RowKit Go.Joins

/-- A hop more for each of these nodes. -/
def addA (H : List (List Nat)) (first : Nat) (ns : List Nat) : List (List Nat) := ns.foldl (fun H u => H.set u (gl H u ++ [first])) H
theorem addA_length (first : Nat) (ns : List Nat) : ∀ H : List (List Nat), (addA H first ns).length = H.length := by
  induction ns with
  | nil => exact fun _ => rfl
  | cons u ns ih => exact fun H => (ih _).trans (by simp)
theorem addA_snoc (H : List (List Nat)) (first : Nat) (ns : List Nat) (u : Nat) : addA H first (ns ++ [u]) = (addA H first ns).set u (gl (addA H first ns) u ++ [first]) := by simp [addA, List.foldl_append]
theorem gl_addA (first : Nat) (ns : List Nat) : ∀ (H : List (List Nat)), ns.Nodup → (∀ v ∈ ns, v < H.length) → ∀ u, gl (addA H first ns) u = gl H u ++ (if u ∈ ns then [first] else []) := by
  induction ns with
  | nil => intro H _ _ u; simp [addA]
  | cons v ns ih =>
    intro H hn hl u
    obtain ⟨h1, h2⟩ := List.nodup_cons.1 hn
    have := ih (H.set v (gl H v ++ [first])) h2 (fun x hx => by simpa using hl x (by simp [hx])) u
    rw [show addA H first (v :: ns) = addA (H.set v (gl H v ++ [first])) first ns from rfl, this, gl_set _ _ _ _ (hl v (by simp))]
    by_cases e : u = v
    · subst e; simp [h1]
    · simp [e]
/-- What stays while hops are sought. -/
structure FH (N : Nat) (G : List NE) (U : List Bool) (A AU : Option Addr) (c cU v b0 uc vc lo : Nat) (wx : World) : Prop where
  c0 : wx.cell? ⟨b0, 0, none⟩ = some (.int .i64 (N : Int))
  c1 : wx.cell? ⟨b0, 1, none⟩ = some (.slice A G.length c)
  cu : wx.cell? ⟨uc, 0, none⟩ = some (.slice AU G.length cU)
  cv : wx.cell? ⟨vc, 0, none⟩ = some (.func (.func 38) #[] #[.pointer (some ⟨v, 0, none⟩)])
  ch : wx.heap[lo + 1]? = some (.cells #[.slice (some ⟨lo, 0, none⟩) N N] 33 (0, 0))
  ed : Rd (· < lo) wx A (nflat G)
  us : Rd (· < lo) wx AU (bls U)
  vs : Vs (· < lo) wx v (outL N G G.length)
  sz : lo + 2 ≤ wx.heap.size
  l0 : b0 < lo
  l1 : uc < lo
  l2 : vc < lo
theorem FH.keep {N : Nat} {G : List NE} {U : List Bool} {A AU : Option Addr} {c cU v b0 uc vc lo : Nat} {wx W : World} (h : FH N G U A AU c cU v b0 uc vc lo wx) (hs : wx.heap.size ≤ W.heap.size) (hk : ∀ j, j < lo → W.heap[j]? = wx.heap[j]?) (hc : W.heap[lo + 1]? = wx.heap[lo + 1]?) : FH N G U A AU c cU v b0 uc vc lo W :=
  ⟨(World.cell?_of_block (hk b0 h.l0)).trans h.c0, (World.cell?_of_block (hk b0 h.l0)).trans h.c1, (World.cell?_of_block (hk uc h.l1)).trans h.cu, (World.cell?_of_block (hk vc h.l2)).trans h.cv, hc.trans h.ch, h.ed.keep hs (fun j hj _ => hk j hj), h.us.keep hs (fun j hj _ => hk j hj), h.vs.keep hs (fun j hj _ => hk j hj), Nat.le_trans h.sz hs, h.l0, h.l1, h.l2⟩
/-- What an edge of the root leaves. -/
def Hopped (N : Nat) (G : List NE) (U : List Bool) (A AU : Option Addr) (c cU v b0 uc vc lo first : Nat) (H : List (List Nat)) (wx w' : World) : Prop :=
  ∃ ns, FH N G U A AU c cU v b0 uc vc lo w' ∧ RR (lo ≤ ·) w' lo (addA H first ns) ∧ ns.Nodup ∧ (∀ u ∈ ns, u < N) ∧ (∀ u, u ∈ ns ↔ Rc U G first u) ∧ Below lo wx w'
/-- Between two nodes. -/
def HLoop (N : Nat) (G : List NE) (U : List Bool) (A AU : Option Addr) (c cU v b0 uc vc lo first : Nat) (H : List (List Nat)) (ns : List Nat) (nb : Nat) (wx W1 : World) (k : Nat) (wy : World) : Prop :=
  FH N G U A AU c cU v b0 uc vc lo wy ∧ RR (fun j => lo ≤ j ∧ j ≠ nb) wy lo (addA H first (ns.take k)) ∧ Below lo wx wy ∧ W1.heap.size ≤ wy.heap.size ∧ wy.heap[nb]? = W1.heap[nb]?

set_option maxRecDepth 100000 in
set_option maxHeartbeats 1000000 in
theorem hop1_any (N : Nat) (G : List NE) (U : List Bool) (A AU : Option Addr) (c cU v b0 uc vc lo first : Nat) (H : List (List Nat)) (wx : World) (hg : GV N G) (hU : U.length = G.length) (hf : first < G.length) (h : FH N G U A AU c cU v b0 uc vc lo wx) (hr : RR (lo ≤ ·) wx lo H) (hH : H.length = N) (hHl : ∀ u, (gl H u).length ≤ 1000) :
    Calls Try.prog 34 #[.int .i64 (first : Int), .pointer (some ⟨b0, 0, none⟩), .pointer (some ⟨uc, 0, none⟩), .pointer (some ⟨vc, 0, none⟩), .pointer (some ⟨lo + 1, 0, none⟩)] wx fun e w' =>
      e = .returned (.tuple #[]) ∧ Hopped N G U A AU c cU v b0 uc vc lo first H wx w' := by
  have hn2 := hg.n2
  have c0 := h.c0
  have c1 := h.c1
  have cu := h.cu
  have cv := h.cv
  have hsz := h.sz
  have be := behind_any N G U A AU c cU v first wx hg hU hf (h.ed.more (fun j _ hl => hl)) (h.us.more (fun j _ hl => hl)) (by
    obtain ⟨gr, z1, z2, z3, z4, z5, z6⟩ := h.vs
    exact ⟨gr, z3, z4, z3, z4, z5, fun u hu => by
      obtain ⟨A1, c1, y1, y2⟩ := z6 u hu
      exact ⟨A1, c1, y1, y2.more (fun j _ hl => hl)⟩⟩)
  have HF := Lib.hid h
  have HRR := Lib.hid hr
  clear h hr
  go_enter Try.func34, Try.ntmps34
  go_wp2_with fail
  refine be.mono ?_
  rintro e W1 ⟨ns, A', c', rfl, r1, nd, nlt, nrc, b1⟩
  have hs1 := b1.size
  have hnl : ns.length ≤ N := nodup_le N ns nd nlt
  obtain ⟨nb, q1, q2, q3⟩ : ∃ nb, (nb < lo ∨ wx.heap.size ≤ nb) ∧ nb < W1.heap.size ∧ (ns ≠ [] → ∃ off, A' = some ⟨nb, off, none⟩ ∧ ∀ k, k < ns.length → W1.cell? ⟨nb, off + k, none⟩ = some (.int .i64 (gw ns k : Int))) := by
    by_cases e : ns = []
    · exact ⟨b0, .inl HF.out.l0, by have := HF.out.l0; omega, fun h => absurd e h⟩
    · obtain ⟨b, off, rfl, z1, z2, z3⟩ := r1 (by simpa using e)
      exact ⟨b, .inr z1, z2, fun _ => ⟨off, rfl, fun k hk => z3 k _ (by rw [List.getElem?_map, List.getElem?_eq_getElem hk, gw_eq hk]; rfl)⟩⟩
  have L1 : Hid (HLoop N G U A AU c cU v b0 uc vc lo first H ns nb wx W1 0 W1) := Lib.hid
    ⟨HF.out.keep hs1 (fun j hj => b1.block j (by omega)) (b1.block _ (by omega)), (HRR.out.mono (fun j hj hl => (⟨hj, by omega⟩ : lo ≤ j ∧ j ≠ nb))).below' b1, b1.mono (by omega), Nat.le_refl _, rfl⟩
  have ND := Lib.hid nd
  have NLT := Lib.hid nlt
  have NRC := Lib.hid nrc
  have Q3 := Lib.hid q3
  clear be r1 nd nlt nrc q3 c0 c1 cu cv b1 HF HRR
  go_wp2_with fail
  go_loopg [14] ns.length (fun gf v' wy => ∃ k, v' = .int .i64 ((k : Nat) : Int) ∧ Hid (gf + k = ns.length) ∧ Hid (HLoop N G U A AU c cU v b0 uc vc lo first H ns nb wx W1 k wy))
  case atStart => exact ⟨0, rfl, Lib.hid (by omega), L1⟩
  case round =>
    obtain ⟨k, rfl, hk, hl⟩ := hrel
    clear L1
    have hk' := hk.out
    cases gk with
    | zero =>
      have e1 : k = ns.length := by omega
      have lt0 : decide ((k : Int) < (ns.length : Int)) = false := by simp; omega
      go_wp2
      go_end0
      obtain ⟨a1, a2, a3, a4, a5⟩ := hl.out
      rw [e1, List.take_length] at a2
      exact ⟨rfl, ns, a1, a2.mono (fun j hj _ => hj.1), ND.out, NLT.out, NRC.out, a3⟩
    | succ gf =>
      have hkl : k < ns.length := by omega
      have lt0 : (k : Int) < (ns.length : Int) := by omega
      obtain ⟨off, hA, hcells⟩ := Q3.out (by rintro rfl; simp at hkl)
      obtain ⟨a1, a2, a3, a4, a5⟩ := hl.out
      have e0 := (World.cell?_of_block a5).trans (hcells k hkl)
      obtain ⟨x, hx⟩ : ∃ x, gw ns k = x := ⟨_, rfl⟩
      rw [hx] at e0
      subst hA
      have hmem : x ∈ ns := by rw [← hx, gw_eq hkl]; exact List.getElem_mem _
      have hxN := NLT.out x hmem
      obtain ⟨cc, _⟩ := one_at a1.ch
      have hsy := a1.sz
      have hgl : (gl (addA H first (ns.take k)) x).length ≤ 100000 := by
        rw [gl_addA first _ H (ND.out.sublist (List.take_sublist _ _)) (fun u hu => by rw [hH]; exact NLT.out u (List.mem_of_mem_take hu))]
        have := hHl x
        split <;> simp <;> omega
      have hHk : (addA H first (ns.take k)).length = N := by rw [addA_length]; exact hH
      obtain ⟨Hk, hHk'⟩ : ∃ Hk, addA H first (ns.take k) = Hk := ⟨_, rfl⟩
      rw [hHk'] at a2 hgl hHk
      obtain ⟨A5, c5, p1, p1a, g6, c6, W6, r1, r2, r3, r5, r6, r7⟩ := a2.appd (u := x) (by omega) first hgl (fun j hj => ⟨by omega, by omega⟩) wr.heap.size rfl
      obtain ⟨t0, t1, t2⟩ := r7 _ _ a1.ch (by omega) (.inl (by simp))
      have S4 : wr.drew.cell? ⟨lo + 1, 0, none⟩ = some (.slice (some ⟨lo, 0, none⟩) N N) := cc
      have S5 := (one_at t0).1
      have S6 := (one_at t1).1
      have S7 := (one_at t2).1
      have hxi : (x : Int) < (N : Int) := by omega
      have ADD : Hid (addA H first (ns.take (k + 1)) = Hk.set x (gl Hk x ++ [first])) := Lib.hid (by rw [List.take_succ_eq_append_getElem hkl, addA_snoc, hHk', ← gw_eq hkl, hx])
      have hsm := (r6 lo (by omega) (Nat.le_refl _) (fun j hj => hj.1))
      have NX : Hid (HLoop N G U A AU c cU v b0 uc vc lo first H ns nb wx W1 (k + 1) (W6.setCell ⟨lo, x, none⟩ (.slice (some ⟨g6, 0, none⟩) ((gl Hk x).length + 1) c6))) := Lib.hid (by
        have hnbk : (W6.setCell ⟨lo, x, none⟩ (.slice (some ⟨g6, 0, none⟩) ((gl Hk x).length + 1) c6)).heap[nb]? = wr.heap[nb]? := by
          cases ho : wr.heap[nb]? with
          | none => rw [Array.getElem?_eq_none_iff] at ho; omega
          | some o => exact (r7 nb o ho (by omega) (.inr (fun q => q.2 rfl))).2.2
        exact ⟨a1.keep hsm.size (fun j hj => hsm.block j hj) (t2.trans a1.ch.symm), by rw [ADD.out]; exact r5, a3.trans hsm, Nat.le_trans a4 hsm.size, hnbk.trans a5⟩)
      clear a1 a2 a3 a4 a5 r5 r6 r7 t0 t1 t2 hl hsm ADD hHk' hgl hcells hx hmem
      go_wp2_with fail
      refine wp_region_held_drew (S := fun w' => w'.cell? ⟨lo + 1, 0, none⟩ = some (.slice (some ⟨lo, 0, none⟩) N N)) (by kernel_rfl) S4 (fun hHeld => ?_)
      refine wpAnyH_take (i := 0) (v := ?_) rfl (by kernel_rfl) (by kernel_rfl) (by kernel_rfl) (fun _ _ _ h => h) (Or.inl ⟨by rfl, ?_⟩) (by assumption) ?_
      rotate_left
      · (intro w' hSw; (try dsimp only at hSw); go_simp; try with_reducible rfl)
      simp only [Act.put, List.setIfInBounds_toArray]
      refine wpAnyH_take (i := 1) (v := ?_) rfl (by kernel_rfl) (by kernel_rfl) (by kernel_rfl) (fun _ _ _ h => h) (Or.inl ⟨by rfl, ?_⟩) (by assumption) ?_
      rotate_left
      · (intro w' hSw; (try dsimp only at hSw); go_simp; try with_reducible rfl)
      simp only [Act.put]
      refine wpAnyH_take (i := 2) (v := ?_) rfl (by kernel_rfl) (by kernel_rfl) (by kernel_rfl) (fun _ _ _ h => h) (Or.inl ⟨by rfl, ?_⟩) (by assumption) ?_
      rotate_left
      · (intro w' hSw; (try dsimp only at hSw); go_simp; try with_reducible rfl)
      simp only [Act.put]
      refine wpAnyH_take (i := 3) (v := ?_) rfl (by kernel_rfl) (by kernel_rfl) (by kernel_rfl) (fun _ _ _ h => h) (Or.inl ⟨by rfl, ?_⟩) (by assumption) ?_
      rotate_left
      · (intro w' hSw; (try dsimp only at hSw); go_simp; try with_reducible rfl)
      simp only [Act.put]
      refine wpAnyH_take (i := 4) (v := ?_) rfl (by kernel_rfl) (by kernel_rfl) (by kernel_rfl) (fun _ _ _ h => h) (Or.inl ⟨by rfl, ?_⟩) (by assumption) ?_
      rotate_left
      · (intro w' hSw; (try dsimp only at hSw); go_simp; try with_reducible rfl)
      simp only [Act.put]
      refine wpAnyH_take (i := 6) (v := ?_) rfl (by kernel_rfl) (by kernel_rfl) (by kernel_rfl) (fun _ _ _ h => h) (Or.inl ⟨by rfl, ?_⟩) (by assumption) ?_
      rotate_left
      · (intro w' hSw; (try dsimp only at hSw); go_simp; try with_reducible rfl)
      simp only [Act.put]
      refine wpAnyH_ready (rs := [5, 7]) (by kernel_rfl) (by simp) ?_
      refine AllReadyH.cons rfl (fun K hK => ?_) (AllReadyH.cons rfl (fun K hK => ?_) AllReadyH.nil)
      · go_simp
        refine hK.out _ _ S4 (fun _ => ?_)
        clear hK K
        refine wpAnyH_ready (rs := [7]) (by kernel_rfl) (by simp) ?_
        refine AllReadyH.cons rfl (fun K hK => ?_) AllReadyH.nil
        go_simp
        refine hK.out _ _ S5 (fun _ => ?_)
        clear hK K
        refine wpAnyH_ready (rs := [8]) (by kernel_rfl) (by simp) ?_
        refine AllReadyH.cons rfl (fun K hK => ?_) AllReadyH.nil
        refine step_runb _ rfl (.tmp 23) (.tmp 25) 26 rfl rfl rfl r1 ?_
        refine hK.out _ _ S6 (fun _ => ?_)
        clear hK K
        refine wpAnyH_ready (rs := [9]) (by kernel_rfl) (by simp) ?_
        refine AllReadyH.cons rfl (fun K hK => ?_) AllReadyH.nil
        go_simp
        refine hK.out _ _ S6 (fun _ => ?_)
        clear hK K
        refine wpAnyH_ready (rs := [10]) (by kernel_rfl) (by simp) ?_
        refine AllReadyH.cons rfl (fun K hK => ?_) AllReadyH.nil
        go_simp
        refine hK.out _ _ S7 (fun _ => ?_)
        clear hK K
        refine wpAnyH_done (by kernel_rfl) ?_ _
        generalize W6.setCell ⟨lo, x, none⟩ (.slice (some ⟨g6, 0, none⟩) ((gl Hk x).length + 1) c6) = W7 at *
        clear S4 S5 S6 S7 r1 r2 r3 p1 p1a
        go_wp2
        go_roundg gf
        case measure => omega
        case rel => exact ⟨k + 1, by go_num, Lib.hid (by omega), NX⟩
      · go_simp
        refine hK.out _ _ S5 (fun _ => ?_)
        clear hK K
        refine wpAnyH_ready (rs := [5]) (by kernel_rfl) (by simp) ?_
        refine AllReadyH.cons rfl (fun K hK => ?_) AllReadyH.nil
        go_simp
        refine hK.out _ _ S5 (fun _ => ?_)
        clear hK K
        refine wpAnyH_ready (rs := [8]) (by kernel_rfl) (by simp) ?_
        refine AllReadyH.cons rfl (fun K hK => ?_) AllReadyH.nil
        refine step_runb _ rfl (.tmp 23) (.tmp 25) 26 rfl rfl rfl r1 ?_
        refine hK.out _ _ S6 (fun _ => ?_)
        clear hK K
        refine wpAnyH_ready (rs := [9]) (by kernel_rfl) (by simp) ?_
        refine AllReadyH.cons rfl (fun K hK => ?_) AllReadyH.nil
        go_simp
        refine hK.out _ _ S6 (fun _ => ?_)
        clear hK K
        refine wpAnyH_ready (rs := [10]) (by kernel_rfl) (by simp) ?_
        refine AllReadyH.cons rfl (fun K hK => ?_) AllReadyH.nil
        go_simp
        refine hK.out _ _ S7 (fun _ => ?_)
        clear hK K
        refine wpAnyH_done (by kernel_rfl) ?_ _
        generalize W6.setCell ⟨lo, x, none⟩ (.slice (some ⟨g6, 0, none⟩) ((gl Hk x).length + 1) c6) = W7 at *
        clear S4 S5 S6 S7 r1 r2 r3 p1 p1a
        go_wp2
        go_roundg gf
        case measure => omega
        case rel => exact ⟨k + 1, by go_num, Lib.hid (by omega), NX⟩
end Go.Proofs.Ytkpmdfgjaodlaaa
