/-
  Plain lemmas: a list without its idle rules; a rule behind all others that permits all. No statement is proved here; no conditions.
-/
import Derived.Test.YtkofpijhihghpaaDoorFst
namespace Go.Proofs.YtkofpijhihghpaaDoor

theorem gr_asc {l : List Ru} (h : Ls l) {i j : Nat} (hij : i < j) (hj : j < l.length) : (gr l i).s < (gr l j).s := by
  rw [gr_eq (by omega), gr_eq hj]
  exact List.pairwise_iff_getElem.1 h.asc i j (by omega) hj hij
theorem gr_inj {l : List Ru} (h : Ls l) {i j : Nat} (hi : i < l.length) (hj : j < l.length) (e : (gr l i).s = (gr l j).s) : i = j := by
  rcases Nat.lt_trichotomy i j with q | q | q
  · have := gr_asc h q hj; omega
  · exact q
  · have := gr_asc h q hi; omega
theorem idk_mem {l : List Ru} : ∀ {k : Nat} {d : Int}, d ∈ idk l k → ∃ i, i < k ∧ (l.take i).any (fun y => hds y (gr l i)) = true ∧ d = (gr l i).s := by
  intro k
  induction k with
  | zero => intro d h; simp [idk] at h
  | succ k ih =>
    intro d h
    unfold idk at h
    split at h
    · rename_i hh
      rcases List.mem_append.1 h with q | q
      · obtain ⟨i, a, b, c⟩ := ih q
        exact ⟨i, by omega, b, c⟩
      · exact ⟨k, by omega, hh, by simpa using q⟩
    · obtain ⟨i, a, b, c⟩ := ih h
      exact ⟨i, by omega, b, c⟩
theorem idk_asc {l : List Ru} (h : Ls l) : ∀ {k : Nat}, k ≤ l.length → (idk l k).Pairwise (· < ·) := by
  intro k
  induction k with
  | zero => intro _; exact List.Pairwise.nil
  | succ k ih =>
    intro hk
    unfold idk
    split
    · rw [List.pairwise_append]
      refine ⟨ih (by omega), List.pairwise_singleton _ _, fun a ha b hb => ?_⟩
      obtain ⟨i, a1, _, a3⟩ := idk_mem ha
      rw [List.mem_singleton.1 hb, a3]
      exact gr_asc h a1 (by omega)
    · exact ih (by omega)
/-- The list without those of these numbers. -/
def kp (l : List Ru) (D : List Int) : List Ru := l.filter fun x => !decide (x.s ∈ D)
theorem kp_nil (l : List Ru) : kp l [] = l := by simp [kp]
theorem kp_snoc (l : List Ru) (D : List Int) (d : Int) : kp l (D ++ [d]) = drl (kp l D) d := by
  unfold kp drl
  rw [List.filter_filter]
  congr 1
  funext x
  by_cases h1 : x.s ∈ D <;> by_cases h2 : x.s = d <;> simp [h1, h2]
theorem kp_has {l : List Ru} {D : List Int} {d : Int} (h1 : ∃ x ∈ l, x.s = d) (h2 : d ∉ D) : hasq (kp l D) d = true := by
  obtain ⟨x, hx, e⟩ := h1
  exact (hasq_iff _ _).2 ⟨x, by simp [kp, hx, e, h2], e⟩
theorem kp_ls {l : List Ru} (h : Ls l) (D : List Int) : Ls (kp l D) := h.sub List.filter_sublist
theorem drl_len1 {l : List Ru} (h : Ls l) {s : Int} (hs : hasq l s = true) : (drl l s).length + 1 = l.length := by
  have h1 := has_fsi2 l s
  rw [hs] at h1
  have h2 := fsi_le (fun y => decide (y.s = s)) l
  have h3 : fsi (fun y => decide (y.s = s)) l ≠ l.length := by
    intro e
    rw [e] at h1
    simp at h1
  rw [drl_fsi h s, List.length_append, List.length_take, List.length_drop]
  omega
/-- Idle rules change nothing. -/
theorem evl_idle {l : List Ru} (h : Ls l) (B : Nat) (M : Int) : evl (kp l (idk l l.length)) B M = evl l B M := by
  have e : (kp l (idk l l.length)).find? (fun x => mns x B M) = l.find? (fun x => mns x B M) := by
    unfold kp
    rw [List.find?_filter, find_fsi, find_fsi]
    obtain ⟨R, hR⟩ : ∃ R, fsi (fun x => mns x B M) l = R := ⟨_, rfl⟩
    have hle := fsi_le (fun x => mns x B M) l
    rw [hR] at hle ⊢
    have hno : ∀ i, i < R → mns (gr l i) B M = false := fun i hi => by
      have := fsi_not (p := fun x => mns x B M) (l := l) (k := i) (by rw [hR]; exact hi) (by omega)
      rw [gr_eq (by omega)]
      exact this
    rcases Nat.lt_or_ge R l.length with q | q
    · have hyes : mns (gr l R) B M = true := by
        have h2 := fsi_hit (p := fun x => mns x B M) (l := l) (by rw [hR]; exact q)
        simp only [hR] at h2
        rw [gr_eq q]
        exact h2
      have hout : (gr l R).s ∉ idk l l.length := by
        intro hm
        obtain ⟨i, a1, a2, a3⟩ := idk_mem hm
        obtain rfl := gr_inj h q a1 a3
        obtain ⟨y, y1, y2⟩ := List.any_eq_true.1 a2
        obtain ⟨j, hj, e⟩ := List.mem_iff_getElem.1 y1
        simp only [List.length_take] at hj
        have hyl : y ∈ l := List.mem_of_mem_take y1
        have h3 := hds_mns y2 (h.ok y hyl) hyes
        have h4 := hno j (by omega)
        rw [gr_eq (by omega)] at h4
        rw [List.getElem_take] at e
        rw [e, h3] at h4
        cases h4
      rw [fsi_at (pr := fun a => decide ((!decide (a.s ∈ idk l l.length)) = true ∧ mns a B M = true)) (k := R) q (fun i hi => by simp [hno i hi]) (by simp [hout, hyes])]
    · have e1 : R = l.length := by omega
      rw [fsi_end (pr := fun a => decide ((!decide (a.s ∈ idk l l.length)) = true ∧ mns a B M = true)) (fun i hi => by simp [hno i (by omega)]), e1]
  unfold evl
  rw [e]
/-- The rule that permits all. -/
def rAll : Ru := ⟨65535, true, 0, 0, 0, 32⟩
theorem evl_all {l : List Ru} (h : Ls l) {B : Nat} {M : Int} (hm : okp B M = true) (hB : B < 4294967296) (hn : hasq l 65535 = false) : evl (inl rAll l) B M = if (evl l B M).2 = 0 then (true, 65535) else evl l B M := by
  have hi : inl rAll l = l ++ [rAll] := by
    unfold inl
    have : fsi (fun y => decide (rAll.s ≤ y.s)) l = l.length := fsi_end fun i hi => by
      have hmem : gr l i ∈ l := by rw [gr_eq hi]; exact List.getElem_mem _
      have h1 := ((okr_iff _).1 (h.ok _ hmem)).1
      have h2 : (gr l i).s ≠ 65535 := fun e => by
        have := (hasq_iff l 65535).2 ⟨_, hmem, e⟩
        rw [hn] at this
        cases this
      rw [decide_eq_false_iff_not]
      show ¬ (65535 ≤ (gr l i).s)
      omega
    rw [this, List.take_length, List.drop_length]
  have hr : mns rAll B M = true := by
    obtain ⟨m0, m1, _⟩ := (okp_iff _ _).1 hm
    refine (mns_iff _ _ _).2 ⟨by decide +kernel, (covp_iff _ _ _ _).2 ⟨hm, m0, by decide +kernel, ?_⟩, m0, m1⟩
    show B / wd (cl 0) = 0 / wd (cl 0)
    rw [show cl 0 = 0 from rfl, div_wd0 hB]
    rfl
  rw [hi]
  unfold evl
  rw [List.find?_append]
  cases hf : l.find? (fun x => mns x B M) with
  | none =>
    simp only [Option.none_or, List.find?_cons, hr]
    rfl
  | some x =>
    have h1 := ((okr_iff _).1 (h.ok x (List.mem_of_find?_eq_some hf))).1
    simp
    omega
end Go.Proofs.YtkofpijhihghpaaDoor
