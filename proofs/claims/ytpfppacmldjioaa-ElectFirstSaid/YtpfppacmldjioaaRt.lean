/-
  The highest one in words; the reference's top. No statement is proved here; no conditions.
-/
import Derived.Test.YtpfppacmldjioaaMp
import Derived.StillTailTactics
namespace Go.Proofs.Ytpfppacmldjioaa
open Go.RowKit Go.Joins

theorem abv_irr (x : Ca) : abv x x = false := by simp [abv]
theorem hstep_ge (f : Ca → Bool) (y x : Ca) (z : Ca) (h : abv z y = false) : abv z (hstep f y x) = false := by
  rw [hstep]
  split
  · next q =>
    have q2 := q.2.2
    simp only [abv, Bool.or_eq_true, Bool.and_eq_true, decide_eq_true_eq, Bool.or_eq_false_iff, Bool.and_eq_false_iff, decide_eq_false_iff_not] at *
    omega
  · exact h
theorem fold_ge (f : Ca → Bool) (z : Ca) : ∀ (L : List Ca) (y : Ca), abv z y = false → abv z (L.foldl (hstep f) y) = false
  | [], _, h => h
  | x :: L, y, h => fold_ge f z L _ (hstep_ge f y x z h)
theorem fold_max (f : Ca → Bool) : ∀ (L : List Ca) (y : Ca), ∀ z ∈ L, 0 < z.p → f z = true → abv z (L.foldl (hstep f) y) = false
  | [], _, z, h, _, _ => by simp at h
  | x :: L, y, z, h, hp, hf => by
    rcases List.mem_cons.1 h with rfl | h
    · refine fold_ge f z L _ ?_
      rw [hstep]
      split
      · exact abv_irr z
      · next q =>
        cases e : abv z y
        · rfl
        · exact absurd ⟨hp, hf, e⟩ q
    · exact fold_max f L _ z h hp hf
theorem fold_mem (f : Ca → Bool) : ∀ (L : List Ca) (y : Ca), L.foldl (hstep f) y = y ∨ (L.foldl (hstep f) y ∈ L ∧ 0 < (L.foldl (hstep f) y).p ∧ f (L.foldl (hstep f) y) = true)
  | [], _ => .inl rfl
  | x :: L, y => by
    rcases fold_mem f L (hstep f y x) with h | ⟨h1, h2, h3⟩
    · rw [List.foldl_cons, h]
      rw [hstep]
      split
      · next q => exact .inr ⟨by simp, q.1, q.2.1⟩
      · exact .inl rfl
    · exact .inr ⟨List.mem_cons_of_mem _ h1, h2, h3⟩
theorem hbs_max (f : Ca → Bool) (L : List Ca) (z : Ca) (h : z ∈ L) (hp : 0 < z.p) (hf : f z = true) : abv z (hbs f L) = false := fold_max f L _ z h hp hf
theorem hbs_mem (f : Ca → Bool) (L : List Ca) : hbs f L = zca ∨ (hbs f L ∈ L ∧ 0 < (hbs f L).p ∧ f (hbs f L) = true) := fold_mem f L _
theorem hbs_p (f : Ca → Bool) (L : List Ca) : 0 ≤ (hbs f L).p := by
  rcases hbs_mem f L with h | ⟨_, h, _⟩
  · rw [h]; decide
  · omega
/-- None fits just if the answer is 0, where the IDs are not. -/
theorem hi_zero (f : Ca → Bool) (L : List Ca) (hi0 : ∀ x ∈ L, x.i ≠ 0) : hi f L = 0 ↔ ∀ x ∈ L, 0 < x.p → f x = false := by
  constructor
  · intro h x hx hp
    cases e : f x
    · rfl
    · have h1 := hbs_max f L x hx hp e
      rcases hbs_mem f L with h2 | ⟨h2, _, _⟩
      · rw [h2] at h1
        have : abv x zca = true := by simp [abv, zca, hp]
        rw [this] at h1; cases h1
      · exact absurd h (hi0 _ h2)
  · intro h
    rcases hbs_mem f L with h2 | ⟨h2, h3, h4⟩
    · rw [hi, h2]; rfl
    · rw [h _ h2 h3] at h4; cases h4
/-- The candidates that count and for which f is true. -/
def lst (f : Ca → Bool) (L : List Ca) : List Ca := L.filter fun c => decide (c.p ≠ 0) && f c
theorem lst_app (f : Ca → Bool) (L : List Ca) (x : Ca) : lst f (L ++ [x]) = lst f L ++ if x.p ≠ 0 ∧ f x = true then [x] else [] := by
  rw [lst, List.filter_append]
  congr 1
  by_cases h : x.p ≠ 0 ∧ f x = true
  · rw [if_pos h]; simp [h.1, h.2]
  · rw [if_neg h, List.filter_cons_of_neg (by simpa using h), List.filter_nil]
theorem fold_lst (f : Ca → Bool) : ∀ (L : List Ca) (y : Ca), (∀ x ∈ L, 0 ≤ x.p) → L.foldl (hstep f) y = (lst f L).foldl (hstep fun _ => true) y
  | [], _, _ => rfl
  | x :: L, y, h => by
    have ih := fold_lst f L (hstep f y x) (fun z hz => h z (List.mem_cons_of_mem _ hz))
    have hx := h x (by simp)
    rw [List.foldl_cons, ih]
    by_cases e : x.p ≠ 0 ∧ f x = true
    · have : lst f (x :: L) = x :: lst f L := by rw [lst, List.filter_cons_of_pos (by simpa using e)]; rfl
      rw [this, List.foldl_cons]
      congr 1
      simp only [hstep, e.2]
    · have : lst f (x :: L) = lst f L := by rw [lst, List.filter_cons_of_neg (by simpa using e)]; rfl
      rw [this]
      congr 1
      rw [hstep, if_neg]
      rintro ⟨q1, q2, _⟩
      exact e ⟨by omega, q2⟩
theorem hi_lst (f : Ca → Bool) (L : List Ca) (h : ∀ x ∈ L, 0 ≤ x.p) : hi f L = hi (fun _ => true) (lst f L) := by
  rw [hi, hbs, fold_lst f L _ h]; rfl
theorem lst_nil (f : Ca → Bool) (L : List Ca) (h : ∀ x ∈ L, 0 ≤ x.p) (hi0 : ∀ x ∈ L, x.i ≠ 0) : (lst f L).length = 0 ↔ hi f L = 0 := by
  rw [hi_zero f L hi0, List.length_eq_zero_iff, lst, List.filter_eq_nil_iff]
  constructor
  · intro q x hx hp
    cases e : f x
    · rfl
    · exact absurd (show (decide (x.p ≠ 0) && f x) = true by rw [e]; simp; omega) (q x hx)
  · intro q x hx he
    simp only [Bool.and_eq_true, decide_eq_true_eq] at he
    have := q x hx (by have := h x hx; omega)
    rw [this] at he; cases he.2
theorem okc_p {x : Ca} (h : okc x = true) : x.i ≠ 0 ∧ 0 ≤ x.p ∧ x.p ≤ 255 := by simpa [okc] using h
theorem Gd.p {L : List Ca} (h : Gd L) : ∀ x ∈ L, 0 ≤ x.p := fun x hx => (okc_p (List.all_eq_true.1 h.ok x hx)).2.1
theorem Gd.i0 {L : List Ca} (h : Gd L) : ∀ x ∈ L, x.i ≠ 0 := fun x hx => (okc_p (List.all_eq_true.1 h.ok x hx)).1
theorem lst_p {f : Ca → Bool} {L : List Ca} (h : ∀ x ∈ L, 0 ≤ x.p) : ∀ x ∈ lst f L, 0 ≤ x.p := fun x hx => h x (List.mem_filter.1 hx).1
abbrev bcr (y : Ca) : Obj := .cells #[.int .u32 y.i, .int .i64 y.p, .int .u32 y.d, .int .u32 y.b] 45
set_option maxRecDepth 100000 in
set_option maxHeartbeats 4000000 in
theorem rtop_any (A0 : Option Addr) (n c : Nat) (L : List Ca) (w : World) (hn : L.length = n) (hl : Cr w A0 L) (hll : n ≤ 10000) (hp : ∀ x ∈ L, 0 ≤ x.p) :
    Calls Try.prog 29 #[.slice A0 n c] w fun e w' => e = .returned (.int .u32 (hi (fun _ => true) L)) ∧ Below w.heap.size w w' := by
  obtain ⟨W0, hW0⟩ : ∃ V, w.alloc (.cells #[Value.int .u32 0, .int .i64 0, .int .u32 0, .int .u32 0] 45) = V := ⟨_, rfl⟩
  have bW0 : Below w.heap.size w W0 := by rw [← hW0]; exact below_alloc1 _ _
  have G00 : Bk W0 w.heap.size (bcr zca) := Bk.mk hW0
  obtain ⟨z0, z1, z2, z3, g0, g1, g2, g3, hlt⟩ := kz4_at G00
  have G0 : Hid (Bk (st4 W0 w.heap.size (.int .u32 0) (.int .i64 0) (.int .u32 0) (.int .u32 0)) w.heap.size (bcr zca)) := Lib.hid (kz4_set G00 _ _ _ _)
  have HB0 : Hid (Below w.heap.size w (st4 W0 w.heap.size (.int .u32 0) (.int .i64 0) (.int .u32 0) (.int .u32 0))) := Lib.hid (below_st4 bW0 (Nat.le_refl _) _ _ _ _)
  dsimp only [zca] at z0 z1 z2 z3
  have HL := Lib.hid hl
  have HN := Lib.hid hn
  have HP := Lib.hid hp
  obtain ⟨H, hH⟩ : ∃ H : List Ca → Ca, hbs (fun _ => true) = H := ⟨_, rfl⟩
  have HE : Hid (hi (fun _ => true) L = (H (L.take n)).i) := Lib.hid (by rw [← hn, List.take_length, ← hH]; rfl)
  have HS : Hid (∀ k, k < L.length → H (L.take (k + 1)) = hstep (fun _ => true) (H (L.take k)) (cg L k)) := Lib.hid (fun k hk => by rw [← hH]; exact hbs_take hk)
  have HZ0 : Hid (H (L.take 0) = zca) := Lib.hid (by rw [← hH]; rfl)
  have HPP : Hid (∀ k, 0 ≤ (H (L.take k)).p) := Lib.hid (fun k => by rw [← hH]; exact hbs_p _ _)
  rw [HE.out]
  clear hl hn hp HE bW0 G00 hH
  go_enter Try.func29, Try.ntmps29
  go_wp2_with fail
  clear z0 z1 z2 z3 g0 g1 g2 g3 hlt
  go_loopg [4] n (fun gf v wx => ∃ (k : Nat), v = .int .i64 (k : Int) ∧ Hid (gf + k = n) ∧ Hid (Bk wx w.heap.size (bcr (H (L.take k)))) ∧ Hid (Below w.heap.size w wx))
  case atStart => exact ⟨0, rfl, Lib.hid (by omega), by rw [HZ0.out]; exact G0, HB0⟩
  case round =>
    obtain ⟨k, rfl, hk, hG, hb⟩ := hrel
    have hk' := hk.out
    cases gk with
    | zero =>
      have e1 : k = n := by omega
      have lt0 : decide ((k : Int) < (n : Int)) = false := by simp; omega
      have lt1 : decide (k < n) = false := by simp; omega
      subst e1
      obtain ⟨y, hy⟩ : ∃ y, H (L.take k) = y := ⟨_, rfl⟩
      rw [hy] at hG
      have HY := Lib.hid hy
      clear hy
      obtain ⟨y0, y1, y2, y3, f0, f1, f2, f3, hlt⟩ := kz4_at hG.out
      go_wp2
      go_ret
      exact ⟨ret_int (by rw [HY.out]), hb.out⟩
    | succ gf =>
      have hkl : k < L.length := by rw [HN.out]; omega
      have lt0 : (k : Int) < (n : Int) := by omega
      have hw1 : (k : Int) + 1 ≤ 10000 := by omega
      obtain ⟨b, off, hA, _, e0, e1, e2, e3⟩ := crd_at (HL.out.step hb.out) hkl
      have HT := Lib.hid (HS.out k hkl)
      have hxp := HP.out _ (cg_mem hkl)
      have hyp := HPP.out k
      obtain ⟨x, hx⟩ : ∃ x, cg L k = x := ⟨_, rfl⟩
      rw [hx] at e0 e1 e2 e3 HT hxp
      subst hA
      generalize H (L.take k) = y at *
      obtain ⟨W1, hW1⟩ : ∃ V, wr.alloc (.cells #[.int .u32 x.i, .int .i64 x.p, .int .u32 x.d, .int .u32 x.b] 45) = V := ⟨_, rfl⟩
      have bW1 : Below wr.heap.size wr W1 := by rw [← hW1]; exact below_alloc1 _ _
      have sW1 : W1.heap.size = wr.heap.size + 1 := by rw [← hW1]; simp
      have KX : Hid (∀ V, Below W1.heap.size W1 V → V.cell? ⟨wr.heap.size, 0, none⟩ = some (.int .u32 x.i) ∧ V.cell? ⟨wr.heap.size, 1, none⟩ = some (.int .i64 x.p) ∧ V.cell? ⟨wr.heap.size, 2, none⟩ = some (.int .u32 x.d) ∧ V.cell? ⟨wr.heap.size, 3, none⟩ = some (.int .u32 x.b)) := Lib.hid (fun V hV => kb4_new hW1 hV)
      have HB1 : Hid (Below w.heap.size w W1) := Lib.hid (hb.out.trans (bW1.mono hb.out.size))
      have G1 : Hid (Bk W1 w.heap.size (bcr y)) := Lib.hid (Bk.step hG.out bW1)
      obtain ⟨k0, k1, k2, k3⟩ := KX.out _ (Below.refl _ _)
      have hlw : w.heap.size < wr.heap.size := hG.out.lt
      obtain ⟨y0, y1, y2, y3, f0, f1, f2, f3, hlt⟩ := kz4_at G1.out
      have G4 : Hid (Bk (st4 W1 w.heap.size (.int .u32 x.i) (.int .i64 x.p) (.int .u32 x.d) (.int .u32 x.b)) w.heap.size (bcr x)) := Lib.hid (kz4_set G1.out _ _ _ _)
      have HB4 : Hid (Below w.heap.size w (st4 W1 w.heap.size (.int .u32 x.i) (.int .i64 x.p) (.int .u32 x.d) (.int .u32 x.b))) := Lib.hid (below_st4 HB1.out (Nat.le_refl _) _ _ _ _)
      clear hx sW1 bW1 hG KX
      rcases Int.lt_trichotomy x.p y.p with h | h | h
      · have c1 : decide (x.p > y.p) = false := by simp; omega
        have c2 : (x.p == y.p) = false := by simp; omega
        have CL := h
        have HZ : Hid (H (L.take (k + 1)) = y) := Lib.hid (by rw [HT.out, hstep, if_neg (fun q => by have := q.2.2; simp [abv] at this; omega)])
        clear HT hxp hyp CL h
        go_wp2_with fail
        go_roundg gf
        case measure => omega
        case rel => exact ⟨k + 1, by go_num, Lib.hid (by omega), by rw [HZ.out]; exact G1, HB1⟩
      · have c1 : decide (x.p > y.p) = false := by simp; omega
        have c2 : (x.p == y.p) = true := by simp; omega
        by_cases h0 : 0 < x.p
        · have c3 : decide (x.p > 0) = true := by simpa using h0
          by_cases h3 : x.i > y.i
          · have c4 : decide (x.i > y.i) = true := by simpa using h3
            have CL := h
            have HZ : Hid (H (L.take (k + 1)) = x) := Lib.hid (by rw [HT.out, hstep, if_pos ⟨by omega, rfl, by simp [abv]; omega⟩])
            clear HT hxp hyp CL h
            go_wp2_with fail
            go_roundg gf
            case measure => omega
            case rel => exact ⟨k + 1, by go_num, Lib.hid (by omega), by rw [HZ.out]; exact G4, HB4⟩
          · have c4 : decide (x.i > y.i) = false := by simpa using h3
            have CL := h
            have HZ : Hid (H (L.take (k + 1)) = y) := Lib.hid (by rw [HT.out, hstep, if_neg (fun q => by have := q.2.2; simp [abv] at this; omega)])
            clear HT hxp hyp CL h
            go_wp2_with fail
            go_roundg gf
            case measure => omega
            case rel => exact ⟨k + 1, by go_num, Lib.hid (by omega), by rw [HZ.out]; exact G1, HB1⟩
        · have c3 : decide (x.p > 0) = false := by simpa using h0
          have CL := h
          have HZ : Hid (H (L.take (k + 1)) = y) := Lib.hid (by rw [HT.out, hstep, if_neg (fun q => by have := q.1; omega)])
          clear HT hxp hyp CL h
          go_wp2_with fail
          go_roundg gf
          case measure => omega
          case rel => exact ⟨k + 1, by go_num, Lib.hid (by omega), by rw [HZ.out]; exact G1, HB1⟩
      · have c1 : decide (x.p > y.p) = true := by simp; omega
        have CL := h
        have HZ : Hid (H (L.take (k + 1)) = x) := Lib.hid (by rw [HT.out, hstep, if_pos ⟨by omega, rfl, by simp [abv]; omega⟩])
        clear HT hxp hyp CL h
        go_wp2_with fail
        go_roundg gf
        case measure => omega
        case rel => exact ⟨k + 1, by go_num, Lib.hid (by omega), by rw [HZ.out]; exact G4, HB4⟩
end Go.Proofs.Ytpfppacmldjioaa
