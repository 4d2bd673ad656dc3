/-
  Rows of rows that the call itself has made, and 'rows[u] = append(rows[u], x)'. No statement is proved here; no conditions.
-/
import Derived.Test.YtkpmdfgjaodlaaaLeaf
namespace Go.Proofs.Ytkpmdfgjaodlaaa
open Go.RowKit Go.Joins

/-- Row u. -/
def gl (L : List (List Nat)) (u : Nat) : List Nat := L.getD u []
theorem gl_eq {L : List (List Nat)} {u : Nat} (h : u < L.length) : gl L u = L[u] := by simp [gl, List.getD, h]
theorem gl_set (L : List (List Nat)) (u v : Nat) (x : List Nat) (h : u < L.length) : gl (L.set u x) v = if v = u then x else gl L v := by
  unfold gl List.getD
  rw [List.getElem?_set]
  by_cases e : u = v
  · subst e; simp [h]
  · rw [if_neg e, if_neg (fun x => e x.symm)]
/-- The slice that stands in place u. -/
def sv (L : List (List Nat)) (bl cp : Nat → Nat) (u : Nat) : Value := if gl L u = [] then .slice none 0 0 else .slice (some ⟨bl u, 0, none⟩) (gl L u).length (cp u)
/-- Block gr is a row of slices, each nil or with a row of its own, in a block of Q. -/
def RR (Q : Nat → Prop) (w : World) (gr : Nat) (L : List (List Nat)) : Prop :=
  ∃ bl cp : Nat → Nat, Rg 26 1 w gr L.length ((List.range L.length).map (sv L bl cp)) ∧ ∀ u, u < L.length → gl L u ≠ [] → Q (bl u) ∧ Rg 3 1 w (bl u) (cp u) (nts (gl L u)) ∧ ∀ v, v < L.length → gl L v ≠ [] → v ≠ u → bl v ≠ bl u
theorem RR.keep {Q : Nat → Prop} {w w' : World} {gr : Nat} {L : List (List Nat)} (h : RR Q w gr L) (hk : ∀ j, (j = gr ∨ Q j) → j < w.heap.size → w'.heap[j]? = w.heap[j]?) : RR Q w' gr L := by
  obtain ⟨bl, cp, h2, h3⟩ := h
  exact ⟨bl, cp, h2.keep (hk _ (.inl rfl) h2.lt), fun u hu hne => ⟨(h3 u hu hne).1, (h3 u hu hne).2.1.keep (hk _ (.inr (h3 u hu hne).1) (h3 u hu hne).2.1.lt), (h3 u hu hne).2.2⟩⟩
theorem RR.mono {Q Q' : Nat → Prop} {w : World} {gr : Nat} {L : List (List Nat)} (h : RR Q w gr L) (hQ : ∀ j, Q j → j < w.heap.size → Q' j) : RR Q' w gr L := by
  obtain ⟨bl, cp, h2, h3⟩ := h
  exact ⟨bl, cp, h2, fun u hu hne => ⟨hQ _ (h3 u hu hne).1 (h3 u hu hne).2.1.lt, (h3 u hu hne).2⟩⟩
theorem RR.below' {Q : Nat → Prop} {w w' : World} {gr : Nat} {L : List (List Nat)} (h : RR Q w gr L) (k : Below w.heap.size w w') : RR Q w' gr L := h.keep fun j _ hl => k.block j hl
theorem RR.alloc {Q : Nat → Prop} {w : World} {gr : Nat} {L : List (List Nat)} (h : RR Q w gr L) (o : Obj) : RR Q (w.alloc o) gr L := h.below' (below_alloc1 w o)
theorem RR.lt {Q : Nat → Prop} {w : World} {gr : Nat} {L : List (List Nat)} (h : RR Q w gr L) : gr < w.heap.size := by obtain ⟨bl, cp, h2, _⟩ := h; exact h2.lt
/-- Row u is read. -/
theorem RR.at_ {Q : Nat → Prop} {w : World} {gr : Nat} {L : List (List Nat)} (h : RR Q w gr L) {u : Nat} (hu : u < L.length) : ∃ A c, w.cell? ⟨gr, u, none⟩ = some (.slice A (gl L u).length c) ∧ Rd Q w A (nts (gl L u)) := by
  obtain ⟨bl, cp, h2, h3⟩ := h
  have hc : w.cell? ⟨gr, u, none⟩ = some (sv L bl cp u) := h2.cell (by simp [hu])
  by_cases e : gl L u = []
  · refine ⟨none, 0, ?_, ?_⟩
    · rw [hc, sv, if_pos e, e]; rfl
    · rw [e]; exact Rd.nil _
  · refine ⟨some ⟨bl u, 0, none⟩, cp u, ?_, ?_⟩
    · rw [hc, sv, if_neg e]
    · exact (h3 u hu e).2.1.rd.more (fun j hj _ => by subst hj; exact (h3 u hu e).1)
theorem RR.start {Q : Nat → Prop} {w : World} {gr N : Nat} (h : Rg 26 1 w gr N (List.replicate N (.slice none 0 0))) : RR Q w gr (List.replicate N []) := by
  have hg : ∀ u, gl (List.replicate N []) u = [] := fun u => by
    unfold gl List.getD
    rw [List.getElem?_replicate]
    split <;> rfl
  refine ⟨fun _ => 0, fun _ => 0, ?_, fun u _ hne => absurd (hg u) hne⟩
  simp only [List.length_replicate]
  have : (List.range N).map (sv (List.replicate N []) (fun _ => 0) (fun _ => 0)) = List.replicate N (.slice none 0 0) := by
    apply List.ext_getElem
    · simp
    · intro i h1 h2
      simp [sv, hg]
  rw [this]
  exact h
theorem RR.app {Q : Nat → Prop} {w : World} {gr : Nat} {L : List (List Nat)} (h : RR Q w gr L) {u : Nat} (hu : u < L.length) (x : Nat) (hlen : (gl L u).length ≤ 100000) (hQ : ∀ j, w.heap.size ≤ j → Q j) :
    ∃ A c, w.cell? ⟨gr, u, none⟩ = some (.slice A (gl L u).length c) ∧ ∀ ty, ∃ g' c' w2, (Builtin.append_ #[26, 26] ty #[.slice A (gl L u).length c, .slice (some ⟨w.heap.size, 0, none⟩) 1 1]).run Try.prog (w.alloc (.cells #[.int .i64 (x : Int)] 3)) = .ok (.slice (some ⟨g', 0, none⟩) ((gl L u).length + 1) c') w2 ∧
      w2.cell? ⟨gr, u, none⟩ = some (.slice A (gl L u).length c) ∧ w2.frozen? ⟨gr, u, none⟩ = false ∧
      RR Q (w2.setCell ⟨gr, u, none⟩ (.slice (some ⟨g', 0, none⟩) ((gl L u).length + 1) c')) gr (L.set u (gl L u ++ [x])) ∧ (∀ lo, lo ≤ w.heap.size → lo ≤ gr → (∀ j, Q j → lo ≤ j) → Below lo w (w2.setCell ⟨gr, u, none⟩ (.slice (some ⟨g', 0, none⟩) ((gl L u).length + 1) c'))) ∧
      ∀ j o, w.heap[j]? = some o → j ≠ gr → ((∀ cur, o ≠ .cells cur 3 (0, 0)) ∨ ¬ Q j) → w2.heap[j]? = some o ∧ (w2.setCell ⟨gr, u, none⟩ (.slice (some ⟨g', 0, none⟩) ((gl L u).length + 1) c')).heap[j]? = some o := by
  obtain ⟨bl, cp, h2, h3⟩ := h
  have hc : w.cell? ⟨gr, u, none⟩ = some (sv L bl cp u) := h2.cell (by simp [hu])
  obtain ⟨i, hi, hz, hsz, hby⟩ := info3
  have hglt := h2.lt
  obtain ⟨A, c, hA, how⟩ : ∃ A c, sv L bl cp u = .slice A (gl L u).length c ∧ Ow 3 1 (w.alloc (.cells #[.int .i64 (x : Int)] 3)) A (bl u) c (gl L u).length (nts (gl L u)) := by
    by_cases e : gl L u = []
    · exact ⟨none, 0, by rw [sv, if_pos e, e]; rfl, by simp, .inl ⟨rfl, rfl, by rw [e]; rfl⟩⟩
    · exact ⟨_, _, by rw [sv, if_neg e], by simp, .inr ⟨rfl, (h3 u hu e).2.1.alloc _⟩⟩
  refine ⟨A, c, hc.trans (congrArg some hA), fun ty => ?_⟩
  have hsrc : Rd (· = w.heap.size) (w.alloc (.cells #[.int .i64 (x : Int)] 3)) (some ⟨w.heap.size, 0, none⟩) (nts [x]) := (Rg.lit w 3 1 1 _ (nts [x]) rfl (by simp) (by unfold maxLen; omega)).rd
  obtain ⟨g', c', w2, r1, r2, r3, r4⟩ := run_appr (P := Try.prog) _ 26 ty 3 i _ 1 8 Try.underlying26 hi hz hsz hby rfl (by omega) (by omega) A (bl u) c (gl L u).length _ how (· = w.heap.size) _ 1 1 _ hsrc (by simp) (nts_one [x]) (by omega) (by omega)
  have hAb : ∀ j, A = some ⟨j, 0, none⟩ → gl L u ≠ [] ∧ j = bl u := by
    intro j hj
    by_cases e : gl L u = []
    · rw [sv, if_pos e] at hA
      injection hA with a1 _ _
      rw [← a1] at hj
      cases hj
    · rw [sv, if_neg e] at hA
      injection hA with a1 _ _
      rw [← a1] at hj
      simp at hj
      exact ⟨e, hj.symm⟩
  have hne : ∀ j, A = some ⟨j, 0, none⟩ → j ≠ gr := by
    intro j hj
    obtain ⟨e, rfl⟩ := hAb j hj
    exact (h3 u hu e).2.1.ne_type h2 (by decide)
  have hk : ∀ j, j < w.heap.size → A ≠ some ⟨j, 0, none⟩ → w2.heap[j]? = w.heap[j]? := fun j hj hn => (r3.block j (by simp; omega) hn).trans (Below.heap_alloc w _ j hj)
  have hgr : w2.heap[gr]? = w.heap[gr]? := hk gr hglt (fun e => hne gr e rfl)
  have h2' := h2.keep hgr
  have hB2 : ∀ lo, lo ≤ w.heap.size → lo ≤ gr → (∀ j, Q j → lo ≤ j) → Below lo w (w2.setCell ⟨gr, u, none⟩ (.slice (some ⟨g', 0, none⟩) ((gl L u).length + 1) c')) := fun lo hlo hgr hq => by
    refine (((Below.refl lo w).alloc hlo _).trans (r3.below (fun j hj => ?_) (by simp; omega))).setCell (by simpa using hgr) _
    obtain ⟨e, rfl⟩ := hAb j hj
    exact hq _ (h3 u hu e).1
  have hT : ∀ j o, w.heap[j]? = some o → j ≠ gr → ((∀ cur, o ≠ .cells cur 3 (0, 0)) ∨ ¬ Q j) → w2.heap[j]? = some o ∧ (w2.setCell ⟨gr, u, none⟩ (.slice (some ⟨g', 0, none⟩) ((gl L u).length + 1) c')).heap[j]? = some o := by
    intro j o ho hj hcur
    have h4 : w2.heap[j]? = some o := (hk j (lt_of_block ho) (fun e => by
      obtain ⟨e1, rfl⟩ := hAb j e
      rcases hcur with hcur | hcur
      · obtain ⟨cur, hcu, _⟩ := (h3 u hu e1).2.1
        exact hcur cur (by rw [hcu] at ho; exact (Option.some.inj ho).symm)
      · exact hcur (h3 u hu e1).1)).trans ho
    exact ⟨h4, (Below.heap_setCell _ _ _ _ (fun e => hj e)).trans h4⟩
  refine ⟨g', c', w2, r1, (h2'.cell (i := u) (by simp [hu])).trans (congrArg some hA), h2'.frozen u, ?_, hB2, hT⟩
  have hg' : g' ≠ gr := by
    rcases r4 with e | e
    · exact hne g' e
    · simp at e; omega
  have hg'lo : Q g' := by
    rcases r4 with e | e
    · obtain ⟨e1, rfl⟩ := hAb g' e; exact (h3 u hu e1).1
    · simp at e; exact hQ _ (by omega)
  refine ⟨fun v => if v = u then g' else bl v, fun v => if v = u then c' else cp v, ?_, ?_⟩
  · have := h2'.set u (.slice (some ⟨g', 0, none⟩) ((gl L u).length + 1) c')
    rw [List.length_set]
    have e2 : ((List.range L.length).map (sv L bl cp)).set u (.slice (some ⟨g', 0, none⟩) ((gl L u).length + 1) c') = (List.range L.length).map (sv (L.set u (gl L u ++ [x])) (fun v => if v = u then g' else bl v) (fun v => if v = u then c' else cp v)) := by
      apply List.ext_getElem
      · simp
      · intro j j1 j2
        simp only [List.getElem_set, List.getElem_map, List.getElem_range, sv, gl_set _ _ _ _ hu]
        by_cases e : u = j
        · subst e; simp
        · have e' : ¬ j = u := fun x => e x.symm
          simp only [if_neg e, if_neg e']
    rw [← e2]
    exact this
  · intro v hv hvne
    rw [List.length_set] at hv
    rw [gl_set _ _ _ _ hu] at hvne ⊢
    have hcell : ∀ j, j ≠ gr → (w2.setCell ⟨gr, u, none⟩ (.slice (some ⟨g', 0, none⟩) ((gl L u).length + 1) c')).heap[j]? = w2.heap[j]? := fun j hj => Below.heap_setCell _ _ _ _ (fun e => hj e)
    by_cases e : v = u
    · subst e
      simp only [if_true]
      refine ⟨hg'lo, ?_, fun v' hv' hne' hvv => ?_⟩
      · refine Rg.keep ?_ (hcell _ hg')
        rw [nts, List.map_append]
        exact r2
      · rw [List.length_set] at hv'
        rw [gl_set _ _ _ _ hu, if_neg hvv] at hne'
        simp only [if_neg hvv]
        intro e
        rcases r4 with a | a
        · obtain ⟨e1, e2⟩ := hAb _ a
          exact (h3 v hu e1).2.2 v' hv' hne' hvv (by rw [e, e2])
        · have := (h3 v' hv' hne').2.1.lt
          simp at a
          omega
    · simp only [if_neg e] at hvne ⊢
      obtain ⟨q1, q2, q3⟩ := h3 v hv hvne
      have hvb : A ≠ some ⟨bl v, 0, none⟩ := fun a => by
        obtain ⟨e1, e2⟩ := hAb _ a
        exact (h3 u hu e1).2.2 v hv hvne e e2
      refine ⟨q1, (q2.keep (hk _ q2.lt hvb)).keep (hcell _ (q2.ne_type h2 (by decide))), fun v' hv' hne' hvv => ?_⟩
      rw [List.length_set] at hv'
      rw [gl_set _ _ _ _ hu] at hne'
      by_cases e3 : v' = u
      · simp only [if_pos e3]
        intro e4
        rcases r4 with a | a
        · exact hvb (e4 ▸ a)
        · have := q2.lt
          simp at a
          omega
      · simp only [if_neg e3] at hne' ⊢
        exact q3 v' hv' hne' hvv
/-- The same behind a draw, with what a region that draws reads in between. -/
theorem RR.appd {Q : Nat → Prop} {w : World} {gr : Nat} {L : List (List Nat)} (h : RR Q w gr L) {u : Nat} (hu : u < L.length) (x : Nat) (hlen : (gl L u).length ≤ 100000) (hQ : ∀ j, w.heap.size ≤ j → Q j) (n0 : Nat) (hn0 : w.heap.size = n0) :
    ∃ A c, w.cell? ⟨gr, u, none⟩ = some (.slice A (gl L u).length c) ∧ (w.alloc (.cells #[.int .i64 (x : Int)] 3)).drew.cell? ⟨gr, u, none⟩ = some (.slice A (gl L u).length c) ∧ ∃ g' c' w2, (Builtin.append_ #[26, 26] 26 #[.slice A (gl L u).length c, .slice (some ⟨n0, 0, none⟩) 1 1]).run Try.prog (w.alloc (.cells #[.int .i64 (x : Int)] 3)).drew = .ok (.slice (some ⟨g', 0, none⟩) ((gl L u).length + 1) c') w2 ∧
      w2.cell? ⟨gr, u, none⟩ = some (.slice A (gl L u).length c) ∧ w2.frozen? ⟨gr, u, none⟩ = false ∧
      RR Q (w2.setCell ⟨gr, u, none⟩ (.slice (some ⟨g', 0, none⟩) ((gl L u).length + 1) c')) gr (L.set u (gl L u ++ [x])) ∧ (∀ lo, lo ≤ w.heap.size → lo ≤ gr → (∀ j, Q j → lo ≤ j) → Below lo w (w2.setCell ⟨gr, u, none⟩ (.slice (some ⟨g', 0, none⟩) ((gl L u).length + 1) c'))) ∧
      ∀ j o, w.heap[j]? = some o → j ≠ gr → ((∀ cur, o ≠ .cells cur 3 (0, 0)) ∨ ¬ Q j) → (w.alloc (.cells #[.int .i64 (x : Int)] 3)).drew.heap[j]? = some o ∧ w2.heap[j]? = some o ∧ (w2.setCell ⟨gr, u, none⟩ (.slice (some ⟨g', 0, none⟩) ((gl L u).length + 1) c')).heap[j]? = some o := by
  obtain ⟨A, c, q1, q2⟩ := RR.app (w := w.drew) h hu x hlen hQ
  obtain ⟨g', c', w2, r1, r2, r3, r5, r6, r7⟩ := q2 26
  have hd : ∀ lo, Below lo w w.drew := fun lo => ⟨rfl, rfl, rfl, Nat.le_refl _, fun _ _ => rfl⟩
  have hal : ∀ j o, w.heap[j]? = some o → (w.alloc (.cells #[.int .i64 (x : Int)] 3)).drew.heap[j]? = some o := fun j o ho => (Below.heap_alloc w _ j (lt_of_block ho)).trans ho
  subst hn0
  exact ⟨A, c, q1, (World.cell?_of_block (Below.heap_alloc w _ gr h.lt)).trans q1, g', c', w2, r1, r2, r3, r5, fun lo a b c => (hd lo).trans (r6 lo a b c), fun j o ho hj hc => ⟨hal j o ho, r7 j o ho hj hc⟩⟩
end Go.Proofs.Ytkpmdfgjaodlaaa
