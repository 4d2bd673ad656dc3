/-
  Who is elected, in words: first, and steady. No statement is proved here; no conditions.
-/
import Derived.Test.YtpfppacmldjioaaAl2
import Derived.Test.YtpfppacmldjioaaRE
namespace Go.Proofs.Ytpfppacmldjioaa
open Go.RowKit Go.Joins

/-! ### First -/
/-- Somebody has a priority above 0. -/
def an (L : List Ca) : Bool := L.any fun x => decide (0 < x.p)
theorem hs_an {L : List Ca} {o : Int} (h : hs L o = true) : an L = true := by
  obtain ⟨x, hx, h1⟩ := List.any_eq_true.1 h
  refine List.any_eq_true.2 ⟨x, hx, ?_⟩
  simp only [Bool.and_eq_true] at h1
  exact h1.2
theorem hi_hs {f : Ca → Bool} {L : List Ca} (h : hi f L ≠ 0) : hs L (hi f L) = true := by
  rcases hbs_mem f L with q | ⟨q1, q2, _⟩
  · exact absurd (by rw [hi, q]; rfl) h
  · exact List.any_eq_true.2 ⟨_, q1, by simp [hi, q2]⟩
theorem rB_hs {L : List Ca} (h : rB L ≠ 0) : hs L (rB L) = true := by
  rw [rB_eq] at h ⊢
  split at h
  · rename_i q; rw [if_pos q]; exact hi_hs h
  · rename_i q; rw [if_neg q]; exact hi_hs h
theorem rD_hs {L : List Ca} (h : rD L ≠ 0) : hs L (rD L) = true := by
  unfold rD at h ⊢
  split at h
  · rename_i q; rw [if_pos q]; exact rB_hs h
  · rename_i q; rw [if_neg q]; exact hi_hs h
theorem hi_an {f : Ca → Bool} {L : List Ca} (hi0 : ∀ x ∈ L, x.i ≠ 0) {x : Ca} (hx : x ∈ L) (hp : 0 < x.p) (hf : f x = true) : hi f L ≠ 0 := fun q => by
  have := (hi_zero f L hi0).1 q x hx hp
  rw [hf] at this
  cases this
theorem rD_an {L : List Ca} (hi0 : ∀ x ∈ L, x.i ≠ 0) : (rD L != 0) = an L := by
  cases ha : an L
  · by_cases h : rD L = 0
    · simp [h]
    · rw [hs_an (rD_hs h)] at ha; cases ha
  · obtain ⟨x, hx, hp⟩ := List.any_eq_true.1 ha
    have hp' : 0 < x.p := by simpa using hp
    have : rD L ≠ 0 := by
      unfold rD
      cases hd : sDR x
      · have h3 : hi f3 L ≠ 0 := hi_an hi0 hx hp' (by simp [f3, hd])
        have hB : rB L ≠ 0 := by
          rw [rB_eq]
          split
          · exact h3
          · assumption
        split
        · exact hB
        · assumption
      · have h1 := hi_an hi0 hx hp' hd
        rw [if_neg h1]; exact h1
    simpa using this
theorem spk_an {L : List Ca} (hm : mayl L = true) : (spk L != 0) = an L := by
  rw [spk, if_pos hm]
  have hi0 := (may_gd hm).1.i0
  cases ha : an L
  · by_cases h : hi (fun _ => true) L = 0
    · simp [h]
    · rw [hs_an (hi_hs h)] at ha; cases ha
  · obtain ⟨x, hx, hp⟩ := List.any_eq_true.1 ha
    have := hi_an hi0 hx (by simpa using hp) (f := fun _ => true) rfl
    simpa using this
/-- What an election doesn't change. -/
def ip (x : Ca) : Int × Int := (x.i, x.p)
theorem set2_ip {L : List Ca} {k : Nat} (hk : k < L.length) (d b : Int) : (set2 L k d b).map ip = L.map ip := by
  rw [set2, List.map_set]
  have : ip ⟨(cg L k).i, (cg L k).p, d, b⟩ = (L.map ip)[k]'(by simpa using hk) := by simp [ip, cg_eq hk]
  rw [this, List.set_getElem_self]
theorem sec_ip (L : List Ca) (o : Int) : (sec L o).map ip = L.map ip := by
  unfold sec
  split
  · rename_i h
    have hk : plc L o < L.length := by
      simp only [goes, Bool.and_eq_true, decide_eq_true_eq] at h
      exact h.1
    exact set2_ip hk _ _
  · rfl
theorem hs_ip (L : List Ca) (o : Int) : hs L o = (L.map ip).any fun x => decide (x.1 = o) && decide (0 < x.2) := by
  rw [List.any_map]; rfl
theorem an_ip (L : List Ca) : an L = (L.map ip).any fun x => decide (0 < x.2) := by
  rw [List.any_map]; rfl
theorem sec_gd {L : List Ca} (h : Gd L) (o : Int) : Gd (sec L o) := by
  unfold sec
  split
  · rename_i q
    have hk : plc L o < L.length := by
      simp only [goes, Bool.and_eq_true, decide_eq_true_eq] at q
      exact q.1
    exact gd_set2 h hk _ _
  · exact h
/-- First: who is elected has a priority above 0; nobody is just if nobody has one. -/
structure Fst (L : List Ca) (o : Int) : Prop where
  d : tD L ≠ 0 → hs L (tD L) = true
  b : tB L ≠ 0 → hs L (tB L) = true
  x : eD L o ≠ 0 → hs L (eD L o) = true
  y : eB L o ≠ 0 → hs L (eB L o) = true
  td : (tD L != 0) = an L
  ed : (eD L o != 0) = an L
  sp : (spk L != 0) = an L
theorem first_all {L : List Ca} (o : Int) (hm : mayl L = true) : Fst L o := by
  have hg := (may_gd hm).1
  have e1 : tD L = rD L := by rw [tD, if_pos hm]
  have e2 : tB L = rB L := by rw [tB, if_pos hm]
  have e3 : eD L o = rD (sec L o) := by rw [eD, if_pos hm]
  have e4 : eB L o = rB (sec L o) := by rw [eB, if_pos hm]
  have hh : ∀ v, hs (sec L o) v = hs L v := fun v => by rw [hs_ip, hs_ip, sec_ip]
  have ha : an (sec L o) = an L := by rw [an_ip, an_ip, sec_ip]
  refine ⟨?_, ?_, ?_, ?_, ?_, ?_, spk_an hm⟩
  · rw [e1]; exact rD_hs
  · rw [e2]; exact rB_hs
  · rw [e3, ← hh]; exact rD_hs
  · rw [e4, ← hh]; exact rB_hs
  · rw [e1]; exact rD_an hg.i0
  · rw [e3, ← ha]; exact rD_an (sec_gd hg o).i0
/-! ### Steady -/
theorem hi_only {f : Ca → Bool} {M : List Ca} {v : Int} (hi0 : ∀ x ∈ M, x.i ≠ 0) (h : ∀ x ∈ M, f x = true → x.i = v) {y : Ca} (hy : y ∈ M) (hp : 0 < y.p) (hf : f y = true) : hi f M = v := by
  rcases hbs_mem f M with q | ⟨q1, _, q3⟩
  · exact absurd (by rw [hi, q]; rfl) (hi_an hi0 hy hp hf)
  · exact h _ q1 q3
/-- All say these two, but for newcomers, which say nothing and are neither. -/
structure Stb (M : List Ca) (d b : Int) : Prop where
  i0 : ∀ x ∈ M, x.i ≠ 0
  ne : d ≠ b
  say : ∀ x ∈ M, (x.d = d ∧ x.b = b) ∨ (x.d = 0 ∧ x.b = 0 ∧ x.i ≠ d ∧ x.i ≠ b)
  hd : ∃ y ∈ M, 0 < y.p ∧ y.i = d ∧ y.d = d ∧ y.b = b
  hb : ∃ y ∈ M, 0 < y.p ∧ y.i = b ∧ y.d = d ∧ y.b = b
theorem Stb.rd {M : List Ca} {d b : Int} (h : Stb M d b) : rD M = d := by
  obtain ⟨y, hy, hp, h1, h2, _⟩ := h.hd
  have e : hi sDR M = d := hi_only h.i0 (fun x hx hf => by
    have hf' : x.d = x.i := by simpa [sDR] using hf
    rcases h.say x hx with ⟨q, _⟩ | ⟨q, _⟩
    · omega
    · exact absurd (by omega) (h.i0 x hx)) hy hp (by simp [sDR, h1, h2])
  rw [rD, e, if_neg]
  rw [← h1]; exact h.i0 y hy
theorem Stb.rb {M : List Ca} {d b : Int} (h : Stb M d b) : rB M = b := by
  obtain ⟨y, hy, hp, h1, h2, h3⟩ := h.hb
  have hne := h.ne
  have e : hi f2 M = b := hi_only h.i0 (fun x hx hf => by
    have hf' : x.b = x.i := by
      simp only [f2, sBR, Bool.and_eq_true, decide_eq_true_eq] at hf
      exact hf.2
    rcases h.say x hx with ⟨_, q⟩ | ⟨_, q, _⟩
    · omega
    · exact absurd (by omega) (h.i0 x hx)) hy hp (by simp [f2, sDR, sBR, h1, h2, h3, hne])
  rw [rB_eq, e, if_neg]
  rw [← h1]; exact h.i0 y hy
theorem Stb.chg {M : List Ca} {d b : Int} (h : Stb M d b) {x : Ca} (hx : x ∈ M) : chg x d b = false := by
  rcases h.say x hx with ⟨h1, h2⟩ | ⟨h1, h2, h3, h4⟩
  · simp [Proofs.Ytpfppacmldjioaa.chg, sDR, sBR, h1, h2, eq_comm]
  · have := h.i0 x hx
    simp [Proofs.Ytpfppacmldjioaa.chg, sDR, sBR, h1, h2, h3, h4, Ne.symm this]
theorem Stb.sec {M : List Ca} {d b : Int} (h : Stb M d b) (o : Int) : sec M o = M := by
  rw [Proofs.Ytpfppacmldjioaa.sec, if_neg]
  intro q
  simp only [goes, Bool.and_eq_true, decide_eq_true_eq] at q
  rw [h.rd, h.rb, h.chg (cg_mem q.1)] at q
  exact absurd q.2 (by simp)
theorem Stb.e {M : List Ca} {d b : Int} (h : Stb M d b) (hm : mayl M = true) (o : Int) : eD M o = d ∧ eB M o = b := by
  rw [eD, eB, if_pos hm, if_pos hm, h.sec, h.rd, h.rb]
  exact ⟨rfl, rfl⟩
theorem Stb.t {M : List Ca} {d b : Int} (h : Stb M d b) (hm : mayl M = true) : tD M = d ∧ tB M = b := by
  rw [tD, tB, if_pos hm, if_pos hm, h.rd, h.rb]
  exact ⟨rfl, rfl⟩
/-- Steady: what the law asks. -/
structure Sty (L : List Ca) (c : Ca) (d b : Int) : Prop where
  km : mayl (L.map (stn d b)) = true
  td : tD (L.map (stn d b)) = d
  tb : tB (L.map (stn d b)) = b
  nd : tD (L.map (stn d b) ++ [stn 0 0 c]) = d
  nb : tB (L.map (stn d b) ++ [stn 0 0 c]) = b
  ed : eD (L.map (stn d b) ++ [stn 0 0 c]) c.i = d
  eb : eB (L.map (stn d b) ++ [stn 0 0 c]) c.i = b
  sl : stl (L.map (stn d b)) = L.map (stn d b)
theorem steady_all {L : List Ca} {c : Ca} {d b : Int} (hne : d ≠ b) (h1 : hs L d = true) (h2 : hs L b = true) (hm : mayl (L.map (stn d b) ++ [stn 0 0 c]) = true) : Sty L c d b := by
  obtain ⟨hg, hl⟩ := may_gd hm
  have hgk : Gd (L.map (stn d b)) := by
    refine ⟨?_, ?_⟩
    · have := hg.ok
      rw [List.all_append, Bool.and_eq_true] at this
      exact this.1
    · have := hg.nd
      rw [List.map_append, List.nodup_append] at this
      exact this.1
  have hmk : mayl (L.map (stn d b)) = true := hgk.may (by
    rw [List.length_append] at hl
    omega)
  have ex : ∀ v, hs L v = true → ∃ y ∈ L.map (stn d b), 0 < y.p ∧ y.i = v ∧ y.d = d ∧ y.b = b := fun v hv => by
    obtain ⟨x, hx, h⟩ := List.any_eq_true.1 hv
    simp only [Bool.and_eq_true, decide_eq_true_eq] at h
    exact ⟨stn d b x, List.mem_map_of_mem hx, h.2, h.1, rfl, rfl⟩
  have sk : Stb (L.map (stn d b)) d b := by
    refine ⟨hgk.i0, hne, fun x hx => ?_, ex d h1, ex b h2⟩
    obtain ⟨y, _, rfl⟩ := List.mem_map.1 hx
    exact .inl ⟨rfl, rfl⟩
  have hno : ∀ v, hs L v = true → c.i ≠ v := fun v hv q => by
    obtain ⟨y, hy, _, hi, _⟩ := ex v hv
    have := hg.nd
    rw [List.map_append, List.nodup_append] at this
    exact this.2.2 y.i (List.mem_map_of_mem hy) (stn 0 0 c).i (by simp) (by rw [hi]; exact q.symm)
  have sn : Stb (L.map (stn d b) ++ [stn 0 0 c]) d b := by
    refine ⟨hg.i0, hne, fun x hx => ?_, ?_, ?_⟩
    · rcases List.mem_append.1 hx with q | q
      · exact sk.say x q
      · rw [List.mem_singleton] at q
        subst q
        exact .inr ⟨rfl, rfl, hno d h1, hno b h2⟩
    · obtain ⟨y, hy, h⟩ := ex d h1
      exact ⟨y, List.mem_append_left _ hy, h⟩
    · obtain ⟨y, hy, h⟩ := ex b h2
      exact ⟨y, List.mem_append_left _ hy, h⟩
  refine ⟨hmk, (sk.t hmk).1, (sk.t hmk).2, (sn.t hm).1, (sn.t hm).2, (sn.e hm _).1, (sn.e hm _).2, ?_⟩
  rw [stl_yes hmk, List.map_map]
  refine List.map_congr_left fun x _ => ?_
  simp only [Function.comp, new, stn]
  rw [(sk.e hmk _).1, (sk.e hmk _).2]
end Go.Proofs.Ytpfppacmldjioaa
