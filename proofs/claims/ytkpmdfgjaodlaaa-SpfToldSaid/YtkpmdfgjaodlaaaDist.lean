/-
  The contract of Dist. No statement is proved here; no conditions.
-/
import Derived.Test.YtkpmdfgjaodlaaaRelax
namespace Go.Proofs.Ytkpmdfgjaodlaaa
open Go.RowKit Go.Joins

/-- What stays while distances are sought: the places are told by their blocks. -/
structure Fix (N : Nat) (G : List NE) (A : Option Addr) (c B b0 gd dc lo hi v hb qc : Nat) (W : World) : Prop where
  c0 : W.cell? ⟨b0, 0, none⟩ = some (.int .i64 (N : Int))
  c1 : W.cell? ⟨b0, 1, none⟩ = some (.slice A G.length c)
  c2 : W.cell? ⟨dc, 0, none⟩ = some (.slice (some ⟨gd, 0, none⟩) N N)
  c4 : W.cell? ⟨qc, 0, none⟩ = some (.pointer (some ⟨hb, 0, none⟩))
  vs : Vs (fun j => lo ≤ j ∧ j < hi) W v (outL N G G.length)
  ed : Rd (· < B) W A (nflat G)
  l1 : b0 < W.heap.size
  l2 : dc < W.heap.size
  l3 : qc < W.heap.size
  o1 : B ≤ b0
  o2 : b0 < gd
  o3 : gd < dc
  o4 : dc < lo
  o6 : hi ≤ hb
  o7 : hb < qc
theorem Fix.kp {N : Nat} {G : List NE} {A : Option Addr} {c B b0 gd dc lo hi v hb qc : Nat} {W W' : World} {T : Nat → Prop} (h : Fix N G A c B b0 gd dc lo hi v hb qc W) (k : Kp T W W') (hT : ∀ j, T j → j = gd ∨ (hi ≤ j ∧ j ≠ qc)) (hlh : lo ≤ hi) : Fix N G A c B b0 gd dc lo hi v hb qc W' := by
  have o1 := h.o1
  have o2 := h.o2
  have o3 := h.o3
  have o4 := h.o4
  have o6 := h.o6
  have o7 := h.o7
  have hk : ∀ j, (j < hi ∧ j ≠ gd) ∨ j = qc → j < W.heap.size → W'.heap[j]? = W.heap[j]? := fun j hj hl => k.block j hl (fun ht => by have := hT j ht; omega)
  refine ⟨(World.cell?_of_block (hk b0 (by omega) h.l1)).trans h.c0, (World.cell?_of_block (hk b0 (by omega) h.l1)).trans h.c1, (World.cell?_of_block (hk dc (by omega) h.l2)).trans h.c2, (World.cell?_of_block (hk qc (by omega) h.l3)).trans h.c4, h.vs.keep k.size (fun j hj hl => hk j (by omega) hl), h.ed.keep k.size (fun j hj hl => hk j (by omega) hl), ?_, ?_, ?_, o1, o2, o3, o4, o6, o7⟩
  · have := k.size; have := h.l1; omega
  · have := k.size; have := h.l2; omega
  · have := k.size; have := h.l3; omega
theorem Fix.below {N : Nat} {G : List NE} {A : Option Addr} {c B b0 gd dc lo hi v hb qc : Nat} {W W' : World} (h : Fix N G A c B b0 gd dc lo hi v hb qc W) (k : Below W.heap.size W W') (hlh : lo ≤ hi) : Fix N G A c B b0 gd dc lo hi v hb qc W' := h.kp (Kp.of_below (S := fun _ => False) k (Nat.le_refl _)) (fun _ h => h.elim) hlh

theorem mem_outs {G : List NE} {u i : Nat} : i ∈ outs G G.length u ↔ i < G.length ∧ (gn G i).f = u := by simp [outs]
theorem outs_nodup (G : List NE) (k u : Nat) : (outs G k u).Nodup := List.Pairwise.filter _ List.nodup_range
/-- One edge more. -/
theorem dj_step {N : Nat} {G : List NE} {root : Nat} {P R : List Nat} {K : Nat} {d : List Nat} {m : List It} {v i : Nat} (h : DJ N G root (v :: P) R K d m) (hg : GV N G) (hi : i < G.length) (hf : (gn G i).f = v) (hv : gw d v = K) (hr : i ∉ R) :
    DJ N G root (v :: P) (i :: R) K (rxd d (gn G i).t (gw d v + (gn G i).c)) (rxm d m (gn G i).t (gw d v + (gn G i).c)) ∧ gw (rxd d (gn G i).t (gw d v + (gn G i).c)) v = K ∧
      2 * (rxd d (gn G i).t (gw d v + (gn G i).c)).sum + (rxm d m (gn G i).t (gw d v + (gn G i).c)).length ≤ 2 * d.sum + m.length := by
  subst hf
  have ht := hg.t i hi
  by_cases hlt : gw d (gn G i).f + (gn G i).c < gw d (gn G i).t
  · rw [rxd, rxm, if_pos hlt, if_pos hlt]
    refine ⟨h.relax hg hi (by simp) hv hr hlt, ?_, ?_⟩
    · rw [gw_set _ _ _ _ (by rw [h.len]; exact ht), if_neg (fun e => by rw [← e] at hlt; omega)]
      exact hv
    · rw [ins_length]
      have := sum_set d (gn G i).t (gw d (gn G i).f + (gn G i).c) (by rw [h.len]; exact ht)
      omega
  · rw [rxd, rxm, if_neg hlt, if_neg hlt]
    exact ⟨h.stay hi (by simp) hr (by omega), hv, Nat.le_refl _⟩
/-- Between two edges of node v. -/
structure Mid (N : Nat) (G : List NE) (root : Nat) (A : Option Addr) (c B b0 gd dc lo hi vv hb qc xb v K : Nat) (P R : List Nat) (bd : Nat) (w W : World) (k : Nat) (wx : World) : Prop where
  rel : ∃ d m g, Rg 3 1 wx gd N (nts d) ∧ Hp wx hb g m ∧ hi ≤ g ∧ g ≠ qc ∧ g ≠ xb ∧ DJ N G root (v :: P) (((outs G G.length v).take k).reverse ++ R) K d m ∧ gw d v = K ∧ 2 * d.sum + m.length ≤ bd
  fx : Fix N G A c B b0 gd dc lo hi vv hb qc wx
  x1 : wx.cell? ⟨xb, 1, none⟩ = some (.int .i64 (v : Int))
  xl : xb < wx.heap.size
  sz : W.heap.size ≤ wx.heap.size
  kp : ∀ j, (lo ≤ j ∧ j < hi) → j < W.heap.size → wx.heap[j]? = W.heap[j]?
  bl : Below w.heap.size w wx
theorem mid_step {N : Nat} {G : List NE} {root : Nat} {A : Option Addr} {c B b0 gd dc lo hi vv hb qc xb v K : Nat} {P R : List Nat} {bd : Nat} {w W : World} {k : Nat} {wx : World} (hg : GV N G) (hv : v < N) (hvp : v ∉ P) (hRP : ∀ i ∈ R, (gn G i).f ∈ P) (hlh : lo ≤ hi) (hxb : qc < xb) (hwb : w.heap.size ≤ b0) (hk : k < (outs G G.length v).length)
    (h : Mid N G root A c B b0 gd dc lo hi vv hb qc xb v K P R bd w W k wx) : Calls Try.prog 31 #[.int .i64 (gw (outs G G.length v) k : Int), .pointer (some ⟨b0, 0, none⟩), .pointer (some ⟨dc, 0, none⟩), .pointer (some ⟨xb, 0, none⟩), .pointer (some ⟨qc, 0, none⟩)] wx fun e w'' => e = .returned (.tuple #[]) ∧ Mid N G root A c B b0 gd dc lo hi vv hb qc xb v K P R bd w W (k + 1) w'' := by
  obtain ⟨⟨d, m, g, r1, r2, r3, r4, r5, r6, r7, r8⟩, fx, x1, xl, sz, kp, bl⟩ := h
  have o2 := fx.o2
  have o3 := fx.o3
  have o4 := fx.o4
  have o6 := fx.o6
  have o7 := fx.o7
  have hmem : gw (outs G G.length v) k ∈ outs G G.length v := by rw [gw_eq hk]; exact List.getElem_mem _
  obtain ⟨hi1, hf⟩ := mem_outs.1 hmem
  have hn2 := hg.n2
  have hm := hg.m
  refine (relax_any N G d m b0 dc xb qc gd hb g v _ G.length c A (· < B) wx fx.c1 rfl fx.ed fx.c2 x1 fx.c4 r1 r6.len r2 (by omega) (by omega) (by omega) (by omega) (by have := r6.small; omega) hi1 hv (hg.t _ hi1) (hg.c _ hi1) (r6.ub v hv) hg.n2 hg.m).mono ?_
  rintro e w'' ⟨rfl, g', q1, q2, q3, q4⟩
  refine ⟨rfl, ?_⟩
  have l3 := fx.l3
  have hT : ∀ j, (j = gd ∨ j = hb ∨ j = g) → j = gd ∨ (hi ≤ j ∧ j ≠ qc) := fun j hj => by omega
  have hnot : gw (outs G G.length v) k ∉ ((outs G G.length v).take k).reverse ++ R := by
    intro hx
    rcases List.mem_append.1 hx with hx | hx
    · rw [List.mem_reverse, gw_eq hk] at hx
      have hnd := outs_nodup G G.length v
      obtain ⟨j, hj, e⟩ := List.getElem_of_mem hx
      rw [List.getElem_take] at e
      have := (List.getElem_inj (h₀ := by simp at hj; omega) (h₁ := hk) hnd).1 e
      simp at hj
      omega
    · exact hvp (hf ▸ hRP _ hx)
  obtain ⟨s1, s2, s3⟩ := dj_step r6 hg hi1 hf r7 hnot
  refine ⟨⟨_, _, g', q1, q2, by omega, by omega, by omega, ?_, s2, Nat.le_trans s3 r8⟩, fx.kp q4 hT hlh, ?_, by have := q4.size; omega, by have := q4.size; omega, fun j hj hl => ?_, bl.trans (q4.below (fun j hj => by omega) bl.size)⟩
  · have : ((outs G G.length v).take (k + 1)).reverse = gw (outs G G.length v) k :: ((outs G G.length v).take k).reverse := by
      rw [List.take_succ_eq_append_getElem hk, List.reverse_append, gw_eq hk]
      rfl
    rw [this]
    exact s1
  · exact (World.cell?_of_block (q4.block xb xl (by omega))).trans x1
  · exact (q4.block j (by omega) (by omega)).trans (kp j hj hl)
end Go.Proofs.Ytkpmdfgjaodlaaa
