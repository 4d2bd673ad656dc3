/-
  The walk of the law SpfShortest. No statement is proved here; no conditions.
-/
import Derived.Test.YtkpmdfgjaodlaaaAlive
namespace Go.Proofs.Ytkpmdfgjaodlaaa
open Go.RowKit Go.Joins

/-- A graph that may be has whole numbers. -/
theorem may_nat {N : Int} {E : List Ed} (h : may N E = true) : ∃ (n : Nat) (G : List NE), N = n ∧ E = G.map NE.ed ∧ GV n G := by
  simp only [may, Bool.and_eq_true, decide_eq_true_eq, List.all_eq_true] at h
  obtain ⟨⟨h1, h2, h3⟩, h4⟩ := h
  have hok : ∀ e ∈ E, 0 ≤ e.f ∧ e.f < N ∧ 0 ≤ e.t ∧ e.t < N ∧ 0 ≤ e.c ∧ e.c ≤ 65535 := fun e he => by
    have := h4 e he
    rwa [okE, decide_eq_true_eq] at this
  obtain ⟨G, hG⟩ : ∃ G : List NE, E = G.map NE.ed := by
    clear h3 h4
    induction E with
    | nil => exact ⟨[], rfl⟩
    | cons e E ih =>
      obtain ⟨G, rfl⟩ := ih (fun x hx => hok x (by simp [hx]))
      have := hok e (by simp)
      refine ⟨⟨e.f.toNat, e.t.toNat, e.c.toNat⟩ :: G, ?_⟩
      obtain ⟨f, t, c⟩ := e
      simp only [List.map_cons, NE.ed, List.cons.injEq, and_true, Ed.mk.injEq]
      simp only at this
      omega
  subst hG
  have hN : ((N.toNat : Nat) : Int) = N := by omega
  have hi : ∀ i, i < G.length → (gn G i).f < N.toNat ∧ (gn G i).t < N.toNat ∧ (gn G i).c ≤ 65535 := fun i hi => by
    have := hok (gn G i).ed (List.mem_map.2 ⟨gn G i, by rw [gn_eq hi]; exact List.getElem_mem _, rfl⟩)
    simp only [NE.ed] at this
    omega
  exact ⟨N.toNat, G, hN.symm, rfl, by omega, by omega, by simpa using h3, fun i h => (hi i h).1, fun i h => (hi i h).2.1, fun i h => (hi i h).2.2⟩
/-- Each node with a distance but the root has a tight edge. -/
theorem IsD.tight {N : Nat} {G : List NE} {root : Nat} {d : List Nat} (h : IsD N G root d) (hg : GV N G) {v : Nat} (hv : v < N) (hr : v ≠ root) (hd : gw d v ≠ inf) : ∃ i, i < G.length ∧ (gn G i).t = v ∧ gw d (gn G i).f < inf ∧ gw d (gn G i).f + (gn G i).c = gw d v := by
  rcases h.at_ v hv with e | ⟨h1, n, hn⟩
  · exact absurd e hd
  · generalize hl : gw d v = l at hn
    cases hn with
    | nil => exact absurd rfl hr
    | snoc i k hi hf =>
      rename_i b l' n'
      subst hf
      have h2 := h.lo _ _ _ k
      have h3 := h.edge hg hi (by unfold inf; omega)
      exact ⟨i, hi, rfl, by unfold inf; omega, by omega⟩
end Go.Proofs.Ytkpmdfgjaodlaaa
