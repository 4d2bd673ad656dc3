/-
  Plain lemmas on prefixes: nesting, and what two have in common. No statement is proved here; no conditions.
-/
import Derived.Test.YtmcjpibahnlmbaaNum
namespace Go.Proofs.Ytmcjpibahnlmbaa

theorem okp_iff (A : Nat) (N : Int) : okp A N = true ↔ 0 ≤ N ∧ N ≤ 32 ∧ A % wd (cl N) = 0 := by
  simp only [okp, lenOk, Bool.and_eq_true, decide_eq_true_eq, and_assoc]
theorem hasp_iff (A : Nat) (N : Int) (a : Nat) : hasp A N a = true ↔ okp A N = true ∧ a / wd (cl N) = A / wd (cl N) := by
  simp only [hasp, Bool.and_eq_true, decide_eq_true_eq]
theorem covp_iff (A : Nat) (N : Int) (B : Nat) (M : Int) : covp A N B M = true ↔ okp B M = true ∧ N ≤ M ∧ okp A N = true ∧ B / wd (cl N) = A / wd (cl N) := by
  simp only [covp, Bool.and_eq_true, decide_eq_true_eq, hasp_iff, and_assoc]
theorem cl_mono {N M : Int} (h : N ≤ M) : cl N ≤ cl M := by unfold cl; omega
/-- Two that have an address in common are nested. -/
theorem nest {A B a : Nat} {N M : Int} (h1 : hasp A N a = true) (h2 : hasp B M a = true) : covp A N B M = true ∨ covp B M A N = true := by
  obtain ⟨p1, p2⟩ := (hasp_iff _ _ _).1 h1
  obtain ⟨q1, q2⟩ := (hasp_iff _ _ _).1 h2
  rcases Int.le_total N M with h | h
  · left
    exact (covp_iff _ _ _ _).2 ⟨q1, h, p1, (div_less q2.symm (cl_mono h)).trans p2⟩
  · right
    exact (covp_iff _ _ _ _).2 ⟨p1, h, q1, (div_less p2.symm (cl_mono h)).trans q2⟩
/-- What is in the covered one is in the covering one. -/
theorem cov_has {A B a : Nat} {N M : Int} (h1 : covp A N B M = true) (h2 : hasp B M a = true) : hasp A N a = true := by
  obtain ⟨_, p2, p3, p4⟩ := (covp_iff _ _ _ _).1 h1
  obtain ⟨_, q2⟩ := (hasp_iff _ _ _).1 h2
  exact (hasp_iff _ _ _).2 ⟨p3, (div_less q2 (cl_mono p2)).trans p4⟩
/-- A cut to n bits is valid. -/
theorem okp_cut (A n : Nat) (h : n ≤ 32) : okp (A / wd n * wd n) (n : Int) = true := by
  rw [okp_iff, cl_nat n h]
  exact ⟨by omega, by omega, tr_mod A n⟩
theorem cov_cut {A n B : Nat} {M : Int} (h : n ≤ 32) (hB : okp B M = true) : covp (A / wd n * wd n) (n : Int) B M = true ↔ n ≤ cl M ∧ A / wd n = B / wd n := by
  rw [covp_iff, cl_nat n h, tr_div]
  have := (okp_iff B M).1 hB
  have h2 : ((n : Int) ≤ M) ↔ n ≤ cl M := by unfold cl; omega
  rw [h2]
  exact ⟨fun ⟨_, b, _, d⟩ => ⟨b, d.symm⟩, fun ⟨b, d⟩ => ⟨hB, b, okp_cut A n h, d.symm⟩⟩
theorem com_eq {A B : Nat} {N M : Int} (hp : okp A N = true) (hq : okp B M = true) : comA A N B M = A / wd (cn A N B M) * wd (cn A N B M) ∧ comN A N B M = cn A N B M := by
  unfold comA comN
  rw [if_pos (by simp [hp, hq]), if_pos (by simp [hp, hq])]
  exact ⟨rfl, rfl⟩
theorem com_covers {A B : Nat} {N M : Int} (hA : A < 4294967296) (hB : B < 4294967296) (hp : okp A N = true) (hq : okp B M = true) : covp (comA A N B M) (comN A N B M : Int) A N = true ∧ covp (comA A N B M) (comN A N B M : Int) B M = true := by
  obtain ⟨e1, e2⟩ := com_eq hp hq
  have h := (le_cn (N := N) (M := M) hA hB (cn_le A B N M)).1 (Nat.le_refl _)
  rw [e1, e2, cov_cut (cn_le A B N M) hp, cov_cut (cn_le A B N M) hq]
  exact ⟨⟨h.1, rfl⟩, h.2.1, h.2.2⟩
/-- No longer one covers both. -/
theorem com_longest {A B : Nat} {N M : Int} (hA : A < 4294967296) (hB : B < 4294967296) (hp : okp A N = true) (hq : okp B M = true) (n : Nat) (h : n ≤ 32) (hn : cn A N B M < n) : ¬ (covp (A / wd n * wd n) (n : Int) A N = true ∧ covp (A / wd n * wd n) (n : Int) B M = true) := by
  rw [cov_cut h hp, cov_cut h hq]
  rintro ⟨⟨h1, _⟩, h2, h3⟩
  have := (le_cn (N := N) (M := M) hA hB h).2 ⟨h1, h2, h3⟩
  omega
theorem cov_com {A B : Nat} {N M : Int} (hA : A < 4294967296) (hB : B < 4294967296) (hp : okp A N = true) (hq : okp B M = true) : covp A N B M = true ↔ comA A N B M = A ∧ (comN A N B M : Int) = N := by
  obtain ⟨e1, e2⟩ := com_eq hp hq
  obtain ⟨h0, h1, h2⟩ := (okp_iff A N).1 hp
  obtain ⟨m0, m1, m2⟩ := (okp_iff B M).1 hq
  have hc := cl_in h0 h1
  have hm := cl_in m0 m1
  have hle := (le_cn (A := A) (B := B) (N := N) (M := M) hA hB (cl_le N))
  have h3 := (le_cn (N := N) (M := M) hA hB (cn_le A B N M)).1 (Nat.le_refl _)
  rw [covp_iff, e1, e2]
  constructor
  · rintro ⟨_, a, _, b⟩
    have h4 := hle.2 ⟨Nat.le_refl _, cl_mono a, b.symm⟩
    have h5 : cn A N B M = cl N := by omega
    rw [h5]
    exact ⟨tr_eq h2, hc⟩
  · rintro ⟨_, b⟩
    have h5 : cn A N B M = cl N := by omega
    have h6 := hle.1 (by omega)
    exact ⟨hq, by omega, hp, h6.2.2.symm⟩
end Go.Proofs.Ytmcjpibahnlmbaa
