/-
  The contract of head's fault. No statement is proved here; no conditions.
-/
import Derived.Test.YtfhickgdmcmodaaEn
namespace Go.Proofs.Ytfhickgdmcmodaa
open Go.RowKit Go.Joins

/-- k bytes from place i on. -/
def sub (l : List Int) (i k : Nat) : List Int := (l.drop i).take k
/-- Why these bytes are no packet; 0 if they are one. -/
def flt (l : List Int) : Int :=
  if l.length < 24 then 2 else if l.getD 0 0 ≠ 2 then 10 else if 1500 < l.length then 5
  else if mayT (l.getD 1 0) = false ∨ num (sub l 2 2) ≠ (l.length : Int) then 3
  else if num (sub l 12 2) ≠ ck l then 4 else if 1 < num (sub l 14 2) then 11 else 0
theorem sub_byt {l : List Int} (hy : Byt l) (i k : Nat) : Byt (sub l i k) := (hy.drop i).take k
theorem sub_len {l : List Int} {i k : Nat} (h : i + k ≤ l.length) : (sub l i k).length = k := by simp [sub]; omega
theorem num_two {l : List Int} (hy : Byt l) (h : l.length = 2) : 0 ≤ num l ∧ num l < 65536 := by
  have := num_bd l hy
  rw [h] at this
  simpa using this
theorem num_four {l : List Int} (hy : Byt l) (h : l.length = 4) : 0 ≤ num l ∧ num l < 4294967296 := by
  have := num_bd l hy
  rw [h] at this
  simpa using this
/-- A piece of bytes that are read. -/
theorem Bs.sub {k : IntKind} {w : World} {B b off : Nat} {l : List Int} (h : Bs k w B (some ⟨b, off, none⟩) l) (i j : Nat) : Bs k w B (some ⟨b, off + i, none⟩) (sub l i j) :=
  (h.drop i (some ⟨b, off + i, none⟩) (fun _ => by simp [addr_add])).take j
set_option maxRecDepth 100000 in
set_option maxHeartbeats 1000000 in
theorem fault_any (A : Option Addr) (c : Nat) (l : List Int) (w : World) (hb : Bt w A l) (hy : Byt l) (hc : l.length ≤ c) (hl : l.length ≤ 5000) :
    Calls Try.prog 23 #[.slice A l.length c] w fun e w' => e = .returned (.int .i64 (flt l)) ∧ Below w.heap.size w w' := by
  obtain ⟨n, hn⟩ : ∃ n, l.length = n := ⟨_, rfl⟩
  have HF : Hid (flt l = if n < 24 then 2 else if l.getD 0 0 ≠ 2 then 10 else if 1500 < n then 5 else if mayT (l.getD 1 0) = false ∨ num (sub l 2 2) ≠ (n : Int) then 3 else if num (sub l 12 2) ≠ ck l then 4 else if 1 < num (sub l 14 2) then 11 else 0) := Lib.hid (by rw [← hn]; rfl)
  by_cases c1 : n < 24
  · have e : flt l = 2 := by rw [HF.out, if_pos c1]
    rw [e, hn]
    have c1' : (n : Int) < 24 := by omega
    clear e HF
    go_enter Try.func23, Try.ntmps23
    go_wp2
    go_ret
    exact ⟨rfl, Below.refl _ _⟩
  have n24 : 24 ≤ n := by omega
  have n24' : ¬ ((n : Int) < 24) := by omega
  obtain ⟨b, off, rfl, hlt, -⟩ := hb (by rintro rfl; simp at hn; omega)
  have g0 : w.cell? ⟨b, off, none⟩ = some (.int .u8 (l.getD 0 0)) := by
    obtain ⟨b', off', e, _, h⟩ := hb.at_ (i := 0) (by omega)
    simp only [Option.some.injEq, Addr.mk.injEq] at e
    obtain ⟨rfl, rfl, _⟩ := e
    exact h
  have g1 : w.cell? ⟨b, off + 1, none⟩ = some (.int .u8 (l.getD 1 0)) := by
    obtain ⟨b', off', e, _, h⟩ := hb.at_ (i := 1) (by omega)
    simp only [Option.some.injEq, Addr.mk.injEq] at e
    obtain ⟨rfl, rfl, _⟩ := e
    exact h
  have y0 : 0 ≤ l.getD 0 0 ∧ l.getD 0 0 < 256 := by
    have := hy l[0] (List.getElem_mem (by omega))
    simpa [List.getD, show 0 < l.length by omega] using this
  have y1 : 0 ≤ l.getD 1 0 ∧ l.getD 1 0 < 256 := by
    have := hy l[1] (List.getElem_mem (by omega))
    simpa [List.getD, show 1 < l.length by omega] using this
  have q2 : Bt w _ (sub l 2 2) := hb.sub 2 2
  have q12 : Bt w _ (sub l 12 2) := hb.sub 12 2
  have q14 : Bt w _ (sub l 14 2) := hb.sub 14 2
  have l2 : (sub l 2 2).length = 2 := sub_len (by omega)
  have l12 : (sub l 12 2).length = 2 := sub_len (by omega)
  have l14 : (sub l 14 2).length = 2 := sub_len (by omega)
  have z2 := sub_byt hy 2 2
  have z12 := sub_byt hy 12 2
  have z14 := sub_byt hy 14 2
  have v2 := num_two z2 l2
  have v12 := num_two z12 l12
  have v14 := num_two z14 l14
  have hk := ck_bd l hy
  have CK : ∀ V, Below w.heap.size w V → Calls Try.prog 19 #[.slice (some ⟨b, off, none⟩) n c] V fun e w' => e = .returned (.int .i64 (ck l)) ∧ Below V.heap.size V w' := fun V hV => by
    have := check_any (some ⟨b, off, none⟩) c l V (hb.step hV) hy (by omega) hc hl
    rwa [hn] at this
  rw [hn] at hc hl ⊢
  generalize l.getD 0 0 = x0 at *
  generalize l.getD 1 0 = x1 at *
  generalize sub l 2 2 = L2 at *
  generalize sub l 12 2 = L12 at *
  generalize sub l 14 2 = L14 at *
  generalize ck l = K0 at *
  have HFL : Hid (flt l = if x0 ≠ 2 then 10 else if 1500 < n then 5 else if mayT x1 = false ∨ num L2 ≠ (n : Int) then 3 else if num L12 ≠ K0 then 4 else if 1 < num L14 then 11 else 0) := Lib.hid (by rw [HF.out, if_neg c1])
  have h14c : ¬ (c = 14) := by omega
  have h12c : ¬ (c = 12) := by omega
  have h2c : ¬ (c = 2) := by omega
  have p4 : (4 : Int) ≤ (c : Int) := by omega
  have p14 : (14 : Int) ≤ (c : Int) := by omega
  have p16 : (16 : Int) ≤ (c : Int) := by omega
  have i0 : (0 : Int) < (n : Int) := by omega
  have i1 : (1 : Int) < (n : Int) := by omega
  clear HF hb hy hn c1
  by_cases c2 : x0 = 2
  case neg =>
    have e : flt l = 10 := by rw [HFL.out, if_pos c2]
    rw [e]
    have c3 : (x0 == 2) = false := by simpa using c2
    clear e HFL
    go_enter Try.func23, Try.ntmps23
    go_wp2
    go_ret
    exact ⟨rfl, Below.refl _ _⟩
  subst c2
  by_cases c3 : 1500 < n
  · have e : flt l = 5 := by rw [HFL.out, if_neg (by simp), if_pos c3]
    rw [e]
    have c4 : (n : Int) > 1500 := by omega
    clear e HFL
    go_enter Try.func23, Try.ntmps23
    go_wp2
    go_ret
    exact ⟨rfl, Below.refl _ _⟩
  have c4 : ¬ ((n : Int) > 1500) := by omega
  have HFL2 : Hid (flt l = if mayT x1 = false ∨ num L2 ≠ (n : Int) then 3 else if num L12 ≠ K0 then 4 else if 1 < num L14 then 11 else 0) := Lib.hid (by rw [HFL.out, if_neg (by simp), if_neg c3])
  clear HFL c3
  cases hT : mayT x1
  · have e : flt l = 3 := by rw [HFL2.out, if_pos (.inl hT)]
    rw [e]
    have HT := Lib.hid hT
    clear e HFL2 hT
    go_enter Try.func23, Try.ntmps23
    go_wp2_with fail
    refine (mayT_any _ _).mono ?_
    rintro e w1 ⟨rfl, rfl⟩
    rw [HT.out]
    go_wp2
    go_ret
    exact ⟨rfl, Below.refl _ _⟩
  have HT := Lib.hid hT
  by_cases c5 : num L2 = (n : Int)
  case neg =>
    have e : flt l = 3 := by rw [HFL2.out, if_pos (.inr c5)]
    rw [e]
    have c6 : (num L2 == (n : Int)) = false := by simpa using c5
    clear e HFL2 hT
    go_enter Try.func23, Try.ntmps23
    go_wp2_with fail
    refine (mayT_any _ _).mono ?_
    rintro e w1 ⟨rfl, rfl⟩
    rw [HT.out]
    go_wp2_with fail
    refine (number_any _ 2 _ L2 _ q2 z2 l2 (by omega) (by decide) (by decide)).mono ?_
    rintro e w1 ⟨rfl, t1⟩
    go_wp2
    go_ret
    exact ⟨rfl, t1⟩
  have H5 := Lib.hid c5
  have HFL3 : Hid (flt l = if num L12 ≠ K0 then 4 else if 1 < num L14 then 11 else 0) := Lib.hid (by rw [HFL2.out, if_neg (fun h => h.elim (fun h => by rw [hT] at h; cases h) (fun h => h c5))])
  clear HFL2 hT c5 v2
  by_cases c6 : num L12 = K0
  case neg =>
    have e : flt l = 4 := by rw [HFL3.out, if_pos c6]
    rw [e]
    have c7 : (num L12 == K0) = false := by simpa using c6
    clear e HFL3
    go_enter Try.func23, Try.ntmps23
    go_wp2_with fail
    refine (mayT_any _ _).mono ?_
    rintro e w1 ⟨rfl, rfl⟩
    rw [HT.out]
    go_wp2_with fail
    refine (number_any _ 2 _ L2 _ q2 z2 l2 (by omega) (by decide) (by decide)).mono ?_
    rintro e w1 ⟨rfl, t1⟩
    rw [H5.out]
    go_wp2_with fail
    refine (number_any _ 2 _ L12 _ (q12.step t1) z12 l12 (by omega) (by decide) (by decide)).mono ?_
    rintro e w2 ⟨rfl, t2⟩
    replace t2 := t1.trans (t2.mono t1.size)
    go_wp2_with fail
    refine (CK _ t2).mono ?_
    rintro e w3 ⟨rfl, t3⟩
    replace t3 := t2.trans (t3.mono t2.size)
    go_wp2
    go_ret
    exact ⟨rfl, t3⟩
  have H6 := Lib.hid c6
  have HFL4 : Hid (flt l = if 1 < num L14 then 11 else 0) := Lib.hid (by rw [HFL3.out, if_neg (by simpa using c6)])
  clear HFL3 c6 v12
  by_cases c8 : 1 < num L14
  · have e : flt l = 11 := by rw [HFL4.out, if_pos c8]
    rw [e]
    have c9 : num L14 > 1 := c8
    clear e HFL4
    go_enter Try.func23, Try.ntmps23
    go_wp2_with fail
    refine (mayT_any _ _).mono ?_
    rintro e w1 ⟨rfl, rfl⟩
    rw [HT.out]
    go_wp2_with fail
    refine (number_any _ 2 _ L2 _ q2 z2 l2 (by omega) (by decide) (by decide)).mono ?_
    rintro e w1 ⟨rfl, t1⟩
    rw [H5.out]
    go_wp2_with fail
    refine (number_any _ 2 _ L12 _ (q12.step t1) z12 l12 (by omega) (by decide) (by decide)).mono ?_
    rintro e w2 ⟨rfl, t2⟩
    replace t2 := t1.trans (t2.mono t1.size)
    rw [H6.out]
    go_wp2_with fail
    refine (CK _ t2).mono ?_
    rintro e w3 ⟨rfl, t3⟩
    replace t3 := t2.trans (t3.mono t2.size)
    go_wp2_with fail
    refine (number_any _ 2 _ L14 _ (q14.step t3) z14 l14 (by omega) (by decide) (by decide)).mono ?_
    rintro e w4 ⟨rfl, t4⟩
    replace t4 := t3.trans (t4.mono t3.size)
    go_wp2
    go_ret
    exact ⟨rfl, t4⟩
  · have e : flt l = 0 := by rw [HFL4.out, if_neg c8]
    rw [e]
    have c9 : ¬ (num L14 > 1) := c8
    clear e HFL4
    go_enter Try.func23, Try.ntmps23
    go_wp2_with fail
    refine (mayT_any _ _).mono ?_
    rintro e w1 ⟨rfl, rfl⟩
    rw [HT.out]
    go_wp2_with fail
    refine (number_any _ 2 _ L2 _ q2 z2 l2 (by omega) (by decide) (by decide)).mono ?_
    rintro e w1 ⟨rfl, t1⟩
    rw [H5.out]
    go_wp2_with fail
    refine (number_any _ 2 _ L12 _ (q12.step t1) z12 l12 (by omega) (by decide) (by decide)).mono ?_
    rintro e w2 ⟨rfl, t2⟩
    replace t2 := t1.trans (t2.mono t1.size)
    rw [H6.out]
    go_wp2_with fail
    refine (CK _ t2).mono ?_
    rintro e w3 ⟨rfl, t3⟩
    replace t3 := t2.trans (t3.mono t2.size)
    go_wp2_with fail
    refine (number_any _ 2 _ L14 _ (q14.step t3) z14 l14 (by omega) (by decide) (by decide)).mono ?_
    rintro e w4 ⟨rfl, t4⟩
    replace t4 := t3.trans (t4.mono t3.size)
    go_wp2
    go_ret
    exact ⟨rfl, t4⟩
end Go.Proofs.Ytfhickgdmcmodaa
