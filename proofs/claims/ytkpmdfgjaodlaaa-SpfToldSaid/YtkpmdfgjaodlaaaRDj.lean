/-
  Distances by going through all edges as many times as there are nodes. No statement is proved here; no conditions.
-/
import Derived.Test.YtkpmdfgjaodlaaaRelax
namespace Go.Proofs.Ytkpmdfgjaodlaaa

/-- One edge is followed. -/
def rx (d : List Nat) (x : NE) : List Nat := if gw d x.f < inf ∧ gw d x.f + x.c < gw d x.t then d.set x.t (gw d x.f + x.c) else d
/-- Behind k rounds and i edges. -/
structure RX (N : Nat) (G : List NE) (root k i : Nat) (d : List Nat) : Prop where
  len : d.length = N
  rt : gw d root = 0
  ub : ∀ v, v < N → gw d v ≤ inf
  wk : ∀ v, v < N → gw d v < inf → ∃ n, Wk G root v (gw d v) n
  lo : ∀ v l n, Wk G root v l n → n ≤ k → gw d v ≤ l
  ed : ∀ j, j < i → ∀ l n, Wk G root (gn G j).f l n → n ≤ k → gw d (gn G j).t ≤ l + (gn G j).c
theorem RX.start {N : Nat} {G : List NE} {root : Nat} (hr : root < N) : RX N G root 0 0 ((List.replicate N inf).set root 0) := by
  have hg : ∀ v, gw ((List.replicate N inf).set root 0) v = if v = root then 0 else gw (List.replicate N inf) v := fun v => gw_set _ _ _ _ (by simpa using hr)
  have hrep : ∀ v, v < N → gw (List.replicate N inf) v = inf := fun v hv => by rw [gw_eq (by simpa using hv)]; simp
  refine ⟨by simp, by simp [hg], fun v hv => ?_, fun v hv h => ?_, fun v l n h hn => ?_, fun j hj => absurd hj (by omega)⟩
  · rw [hg]
    split
    · exact Nat.zero_le _
    · rw [hrep v hv]; exact Nat.le_refl _
  · rw [hg] at h ⊢
    by_cases e : v = root
    · subst e; rw [if_pos rfl]; exact ⟨0, .nil⟩
    · rw [if_neg e, hrep v hv] at h
      exact absurd h (Nat.lt_irrefl _)
  · cases h with
    | nil => simp [hg]
    | snoc i h hi hf => omega
theorem RX.next {N : Nat} {G : List NE} {root k : Nat} {d : List Nat} (h : RX N G root k G.length d) : RX N G root (k + 1) 0 d := by
  refine ⟨h.len, h.rt, h.ub, h.wk, fun v l n hw hn => ?_, fun j hj => absurd hj (by omega)⟩
  cases hw with
  | nil => rw [h.rt]; exact Nat.le_refl _
  | snoc i hw hi hf => exact h.ed i hi _ _ (by rw [hf]; exact hw) (by omega)
theorem rx_len (d : List Nat) (x : NE) : (rx d x).length = d.length := by unfold rx; split <;> simp
theorem rx_le {d : List Nat} {x : NE} (ht : x.t < d.length) (v : Nat) : gw (rx d x) v ≤ gw d v := by
  unfold rx
  split
  · next h =>
    rw [gw_set _ _ _ _ ht]
    split
    · next e => subst e; omega
    · exact Nat.le_refl _
  · exact Nat.le_refl _
theorem RX.step {N : Nat} {G : List NE} {root k i : Nat} {d : List Nat} (h : RX N G root k i d) (hg : GV N G) (_hr : root < N) (hk : k ≤ 64) (hi : i < G.length) : RX N G root k (i + 1) (rx d (gn G i)) := by
  have ht := hg.t i hi
  have hf := hg.f i hi
  have hl := h.len
  have le := rx_le (d := d) (x := gn G i) (by omega)
  refine ⟨(rx_len d _).trans hl, ?_, fun v hv => Nat.le_trans (le v) (h.ub v hv), fun v hv hlt => ?_, fun v l n hw hn => Nat.le_trans (le v) (h.lo v l n hw hn), fun j hj l n hw hn => ?_⟩
  · have := le root
    have := h.rt
    omega
  · unfold rx at hlt ⊢
    split
    · next e =>
      rw [if_pos e] at hlt
      rw [gw_set _ _ _ _ (by omega)] at hlt ⊢
      split
      · next e1 =>
        obtain ⟨n, hn⟩ := h.wk _ hf e.1
        exact ⟨n + 1, by rw [e1]; exact hn.snoc i hi rfl⟩
      · next e1 => rw [if_neg e1] at hlt; exact h.wk v hv hlt
    · next e => rw [if_neg e] at hlt; exact h.wk v hv hlt
  · by_cases e : j < i
    · exact Nat.le_trans (le _) (h.ed j e l n hw hn)
    · have e1 : j = i := by omega
      subst e1
      have h1 := h.lo _ l n hw hn
      have h2 := hw.len hg
      have h3 : n * 65535 ≤ 64 * 65535 := Nat.mul_le_mul_right _ (by omega)
      have h4 : gw d (gn G j).f < inf := by unfold inf; omega
      unfold rx
      split
      · rw [gw_set _ _ _ _ (by omega), if_pos rfl]; omega
      · next e2 =>
        have : ¬ (gw d (gn G j).f + (gn G j).c < gw d (gn G j).t) := fun e3 => e2 ⟨h4, e3⟩
        omega
theorem RX.done {N : Nat} {G : List NE} {root : Nat} {d : List Nat} (h : RX N G root N 0 d) (hg : GV N G) (hr : root < N) : IsD N G root d := by
  refine IsD.of hg hr h.len h.rt h.ub h.wk fun i hi hlt => ?_
  obtain ⟨n, hn⟩ := h.wk _ (hg.f i hi) hlt
  obtain ⟨l', n', q1, q2, q3⟩ := hn.short hr hg.t
  have := h.lo _ _ _ (q3.snoc i hi rfl) (by omega)
  omega
end Go.Proofs.Ytkpmdfgjaodlaaa
