/-
  Contracts of the reference's Covers, Less, Common. No statement is proved here.
-/
import Derived.Test.YtmiaphgjcajbhaaDoorRefA
import Derived.Test.YtmiaphgjcajbhaaDoorBlocks
namespace Go.Proofs.YtmiaphgjcajbhaaDoor
open Go.RowKit Go.Joins

theorem rcovers_any (A : Nat) (N : Int) (B : Nat) (M : Int) (w : World) (hA : A < 4294967296) (hB : B < 4294967296) : Calls Tryd.prog 25 #[pf A N, pf B M] w fun e w' => e = .returned (.bool (covp A N B M)) ∧ Below w.heap.size w w' := by
  have cp := fun W => rmay_any A N W hA
  have cq := fun W => rmay_any B M W hB
  have ch := fun W => rhas_any A N B W hA hB
  have K := box2_at w A N B M
  have hbB : Below w.heap.size w (box2 w A N B M) := below_alloc2 _ _ _
  obtain ⟨k0, k1, k2, k3⟩ := K _ (Below.refl _ _)
  have hbW := Below.refl (box2 w A N B M).heap.size (box2 w A N B M)
  cases h0 : okp A N with
  | false =>
    rw [show covp A N B M = false by simp [covp, hasp, h0]]
    rw [h0] at cp
    go_enter Tryd.func25, Tryd.ntmps25
    go_wp2_with fail
    change Calls _ _ _ (box2 w A N B M) _
    generalize box2 w A N B M = W0 at *
    refine (cp _).mono ?_
    rintro e W1 ⟨rfl, hb⟩
    go_wp2
    go_ret
    exact ⟨rfl, hbB.trans (hb.mono hbB.size)⟩
  | true =>
    rw [h0] at cp
    cases h1 : okp B M with
    | false =>
      rw [show covp A N B M = false by simp [covp, h1]]
      rw [h1] at cq
      go_enter Tryd.func25, Tryd.ntmps25
      go_wp2_with fail
      change Calls _ _ _ (box2 w A N B M) _
      generalize box2 w A N B M = W0 at *
      refine (cp _).mono ?_
      rintro e W1 ⟨rfl, hb1⟩
      replace hbW := hbW.trans (hb1.mono hbW.size)
      clear hb1 k0 k1 k2 k3
      obtain ⟨k0, k1, k2, k3⟩ := K _ hbW
      go_wp2_with fail
      refine (cq _).mono ?_
      rintro e W2 ⟨rfl, hb2⟩
      replace hbW := hbW.trans (hb2.mono hbW.size)
      go_wp2
      go_ret
      exact ⟨rfl, hbB.trans (hbW.mono hbB.size)⟩
    | true =>
      rw [h1] at cq
      by_cases h2 : N ≤ M
      · rw [show covp A N B M = hasp A N B by simp [covp, h1, h2]]
        go_enter Tryd.func25, Tryd.ntmps25
        go_wp2_with fail
        change Calls _ _ _ (box2 w A N B M) _
        generalize box2 w A N B M = W0 at *
        refine (cp _).mono ?_
        rintro e W1 ⟨rfl, hb1⟩
        replace hbW := hbW.trans (hb1.mono hbW.size)
        clear hb1 k0 k1 k2 k3
        obtain ⟨k0, k1, k2, k3⟩ := K _ hbW
        go_wp2_with fail
        refine (cq _).mono ?_
        rintro e W2 ⟨rfl, hb2⟩
        replace hbW := hbW.trans (hb2.mono hbW.size)
        clear hb2 k0 k1 k2 k3
        obtain ⟨k0, k1, k2, k3⟩ := K _ hbW
        go_wp2_with fail
        refine (ch _).mono ?_
        rintro e W3 ⟨rfl, hb3⟩
        replace hbW := hbW.trans (hb3.mono hbW.size)
        go_wp2
        go_ret
        exact ⟨rfl, hbB.trans (hbW.mono hbB.size)⟩
      · rw [show covp A N B M = false by simp [covp, h2]]
        have h3 : decide (N ≤ M) = false := decide_eq_false h2
        go_enter Tryd.func25, Tryd.ntmps25
        go_wp2_with fail
        change Calls _ _ _ (box2 w A N B M) _
        generalize box2 w A N B M = W0 at *
        refine (cp _).mono ?_
        rintro e W1 ⟨rfl, hb1⟩
        replace hbW := hbW.trans (hb1.mono hbW.size)
        clear hb1 k0 k1 k2 k3
        obtain ⟨k0, k1, k2, k3⟩ := K _ hbW
        go_wp2_with fail
        refine (cq _).mono ?_
        rintro e W2 ⟨rfl, hb2⟩
        replace hbW := hbW.trans (hb2.mono hbW.size)
        clear hb2 k0 k1 k2 k3
        obtain ⟨k0, k1, k2, k3⟩ := K _ hbW
        go_wp2
        go_ret
        exact ⟨rfl, hbB.trans (hbW.mono hbB.size)⟩
theorem rless_any (A B : Nat) (N M : Int) (w : World) : Calls Tryd.prog 29 #[pf A N, pf B M] w fun e w' => e = .returned (.bool (lessp A N B M)) ∧ Below w.heap.size w w' := by
  by_cases h : A < B
  · have e : lessp A N B M = true := by simp only [lessp, decide_eq_true_eq]; omega
    rw [e]
    go_enter Tryd.func29, Tryd.ntmps29
    go_wp2
    go_ret
    exact ⟨rfl, below_alloc2 _ _ _⟩
  · have h1 : decide (A < B) = false := decide_eq_false h
    by_cases h2 : A = B
    · subst h2
      have e : lessp A N A M = decide (N < M) := by simp [lessp]
      rw [e]
      go_enter Tryd.func29, Tryd.ntmps29
      go_wp2
      go_ret
      exact ⟨rfl, below_alloc2 _ _ _⟩
    · have e : lessp A N B M = false := by simp only [lessp, decide_eq_false_iff_not]; omega
      have h3 : ((A : Int) == (B : Int)) = false := by rw [beq_dec]; exact decide_eq_false h2
      rw [e]
      go_enter Tryd.func29, Tryd.ntmps29
      go_wp2
      go_ret
      exact ⟨rfl, below_alloc2 _ _ _⟩
abbrev pc (A : Nat) (N : Int) : Obj := .cells #[.int .u32 (A : Int), .int .i64 N] 24
theorem pc_at {W : World} {b A : Nat} {N : Int} (h : W.heap[b]? = some (pc A N)) : W.cell? ⟨b, 0, none⟩ = some (.int .u32 (A : Int)) ∧ W.cell? ⟨b, 1, none⟩ = some (.int .i64 N) ∧ W.frozen? ⟨b, 0, none⟩ = false ∧ W.frozen? ⟨b, 1, none⟩ = false ∧ b < W.heap.size := by
  refine ⟨(cell_of_block h 0).trans rfl, (cell_of_block h 1).trans rfl, unfrozen_of_block h 0, unfrozen_of_block h 1, ?_⟩
  rcases Nat.lt_or_ge b W.heap.size with h' | h'
  · exact h'
  · rw [Array.getElem?_eq_none h'] at h; cases h
theorem pc_set {W : World} {b A B : Nat} {N M : Int} (h : W.heap[b]? = some (pc A N)) : ((W.setCell ⟨b, 0, none⟩ (.int .u32 (B : Int))).setCell ⟨b, 1, none⟩ (.int .i64 M)).heap[b]? = some (pc B M) := by
  rw [block_setCell (i := 1) (block_setCell (i := 0) h (.int .u32 (B : Int))) (.int .i64 M)]
  rfl
theorem far_set {W : World} {b k : Nat} {u v : Value} (h : k ≠ b) : ((W.setCell ⟨b, 0, none⟩ u).setCell ⟨b, 1, none⟩ v).heap[k]? = W.heap[k]? := by
  rw [Below.heap_setCell _ _ _ _ h, Below.heap_setCell _ _ _ _ h]
theorem below_set {W W' : World} {B b : Nat} {u v : Value} (h : Below B W W') (hb : B ≤ b) : Below B W ((W'.setCell ⟨b, 0, none⟩ u).setCell ⟨b, 1, none⟩ v) := Below.setCell (Below.setCell h (p := ⟨b, 0, none⟩) hb u) (p := ⟨b, 1, none⟩) hb v
theorem rcommon_any (A : Nat) (N : Int) (B : Nat) (M : Int) (w : World) (hA : A < 4294967296) (hB : B < 4294967296) (h0 : okp A N = true) (h1 : okp B M = true) : Calls Tryd.prog 27 #[pf A N, pf B M] w fun e w' => e = .returned (pf (comA A N B M) (comN A N B M : Int)) ∧ Below w.heap.size w w' := by
  obtain ⟨e1, e2⟩ := com_eq h0 h1
  have cp := fun W => rmay_any A N W hA
  have cq := fun W => rmay_any B M W hB
  rw [h0] at cp
  rw [h1] at cq
  have hcn := cn_le A B N M
  have sN := fun n (h : n ≤ 32) => (le_cn (A := A) (B := B) (N := N) (M := M) hA hB h)
  have d1 := fun n (h : n ≤ 32) => cov_cut (A := A) (n := n) h h0
  have d2 := fun n (h : n ≤ 32) => cov_cut (A := A) (n := n) h h1
  have HN := Lib.hid sN
  have H1 := Lib.hid d1
  have H2 := Lib.hid d2
  clear sN d1 d2
  rw [e1, e2]
  clear e1 e2
  generalize hZ : cn A N B M = Z at *
  clear hZ
  have j2 := alloc_at ((w.alloc (pc A N)).alloc (pc B M)) (pc 0 0) (w.heap.size + 1 + 1) (by simp)
  have j1 := (alloc_lt ((w.alloc (pc A N)).alloc (pc B M)) (pc 0 0) (w.heap.size + 1) (by simp)).trans (alloc_at (w.alloc (pc A N)) (pc B M) _ (by simp))
  have j0 := (alloc_lt ((w.alloc (pc A N)).alloc (pc B M)) (pc 0 0) w.heap.size (by simp; omega)).trans ((alloc_lt (w.alloc (pc A N)) (pc B M) w.heap.size (by simp)).trans (alloc_at w (pc A N) _ rfl))
  have hbW := below_alloc3 w (pc A N) (pc B M) (pc 0 0)
  go_enter Tryd.func27, Tryd.ntmps27
  go_wp2_with fail
  change Calls _ _ _ (((w.alloc (pc A N)).alloc (pc B M)).alloc (pc 0 0)) _
  generalize ((w.alloc (pc A N)).alloc (pc B M)).alloc (pc 0 0) = W0 at *
  have hsz := (pc_at j2).2.2.2.2
  refine (cp _).mono ?_
  rintro e W1 ⟨rfl, hb1⟩
  have j0 := (hb1.block _ (by omega)).trans j0
  have j1 := (hb1.block _ (by omega)).trans j1
  have j2 := (hb1.block _ hsz).trans j2
  replace hbW := hbW.trans (hb1.mono hbW.size)
  have hsz := (pc_at j2).2.2.2.2
  clear hb1
  obtain ⟨k0, k1, _, _, _⟩ := pc_at j1
  go_wp2_with fail
  refine (cq _).mono ?_
  rintro e W2 ⟨rfl, hb2⟩
  have j0 := (hb2.block _ (by omega)).trans j0
  have j1 := (hb2.block _ (by omega)).trans j1
  have j2 := (hb2.block _ hsz).trans j2
  replace hbW := hbW.trans (hb2.mono hbW.size)
  have hsz := (pc_at j2).2.2.2.2
  clear hb2 k0 k1 cp cq
  have j0 := (alloc_lt W2 (pc 0 0) _ (by omega)).trans j0
  have j1 := (alloc_lt W2 (pc 0 0) _ (by omega)).trans j1
  have j2 := (alloc_lt W2 (pc 0 0) _ hsz).trans j2
  have j3 := alloc_at W2 (pc 0 0) _ rfl
  replace hbW := hbW.trans ((below_alloc1 W2 (pc 0 0)).mono hbW.size)
  go_wp2
  go_loopg [6] 33 (fun gf v6 wx => ∃ n : Nat, v6 = .int .i64 (n : Int) ∧ Hid (n + gf = 33) ∧ wx.heap[w.heap.size]? = some (pc A N) ∧ wx.heap[w.heap.size + 1]? = some (pc B M) ∧ wx.heap[w.heap.size + 1 + 1]? = some (pc 0 0) ∧
    wx.heap[W2.heap.size]? = some (pc (A / wd (min (n - 1) Z) * wd (min (n - 1) Z)) (min (n - 1) Z : Nat)) ∧ Below w.heap.size w wx)
  case atStart =>
    refine ⟨0, rfl, Lib.hid rfl, j0, j1, j2, ?_, hbW⟩
    rw [show min (0 - 1) Z = 0 by omega, div_wd0 hA, Nat.zero_mul]
    exact j3
  case round =>
    clear j0 j1 j2 j3 hbW
    obtain ⟨n, rfl, hn, j0, j1, j2, j3, hbW⟩ := hrel
    have hb3 := (pc_at j3).2.2.2.2
    by_cases hlt : n ≤ 32
    · have hlt' : (n : Int) ≤ 32 := by omega
      have cO := fun W => rof_any A (n : Int) W hA
      rw [if_pos (by simp [lenOk]; omega), cl_nat n hlt] at cO
      have hT := tr_lt n hA
      have c1 := fun W => rcovers_any (A / wd n * wd n) (n : Int) A N W hT hA
      have c2 := fun W => rcovers_any (A / wd n * wd n) (n : Int) B M W hT hB
      have q1 := H1.out n hlt
      have q2 := H2.out n hlt
      have qN := HN.out n hlt
      have HT := Lib.hid (rfl : A / wd n * wd n = A / wd n * wd n)
      obtain ⟨k0, _, _, _, _⟩ := pc_at j0
      cases s1 : covp (A / wd n * wd n) (n : Int) A N <;> cases s2 : covp (A / wd n * wd n) (n : Int) B M
      · have hz : Z < n := by
          rcases Nat.lt_or_ge Z n with h | h
          · exact h
          · exfalso
            obtain ⟨a1, a2, a3⟩ := qN.1 h
            rw [s1] at q1
            have := q1.2 ⟨a1, trivial⟩
            cases this
        rw [s1] at c1
        generalize hT' : A / wd n * wd n = T at *
        have HT' := Lib.hid hT'
        clear hT' HT s1 s2 q1 q2 qN
        go_wp2_with fail
        refine (cO _).mono ?_
        rintro e W3 ⟨rfl, hb3'⟩
        have j0 := (hb3'.block _ (by omega)).trans j0
        have j1 := (hb3'.block _ (by omega)).trans j1
        have j2 := (hb3'.block _ (by omega)).trans j2
        have j3 := (hb3'.block _ hb3).trans j3
        replace hbW := hbW.trans (hb3'.mono hbW.size)
        have hb3 := (pc_at j3).2.2.2.2
        clear hb3' k0
        have j0 := (alloc_lt W3 (pc T n) _ (by omega)).trans j0
        have j1 := (alloc_lt W3 (pc T n) _ (by omega)).trans j1
        have j2 := (alloc_lt W3 (pc T n) _ (by omega)).trans j2
        have j3 := (alloc_lt W3 (pc T n) _ hb3).trans j3
        have j4 := alloc_at W3 (pc T n) _ rfl
        replace hbW := hbW.trans ((below_alloc1 W3 (pc T n)).mono hbW.size)
        have hb3 := (pc_at j3).2.2.2.2
        have hb4 := (pc_at j4).2.2.2.2
        obtain ⟨k0, k1, _, _, _⟩ := pc_at j0
        obtain ⟨k4, k5, _, _, _⟩ := pc_at j4
        go_wp2_with fail
        generalize W3.alloc (pc T n) = W4 at *
        refine (c1 _).mono ?_
        rintro e W5 ⟨rfl, hbc⟩
        have j0 := (hbc.block _ (by omega)).trans j0
        have j1 := (hbc.block _ (by omega)).trans j1
        have j2 := (hbc.block _ (by omega)).trans j2
        have j3 := (hbc.block _ hb3).trans j3
        have j4 := (hbc.block _ hb4).trans j4
        replace hbW := hbW.trans (hbc.mono hbW.size)
        have hb3 := (pc_at j3).2.2.2.2
        have hb4 := (pc_at j4).2.2.2.2
        clear hbc k0 k1 k4 k5
        obtain ⟨k0, k1, _, _, _⟩ := pc_at j1
        obtain ⟨k4, k5, _, _, _⟩ := pc_at j4
        go_wp2
        go_roundg (gk - 1)
        case measure => have := hn.out; omega
        case rel => exact ⟨n + 1, val_int (by omega), Lib.hid (by have := hn.out; omega), j0, j1, j2, by rw [show min (n + 1 - 1) Z = min (n - 1) Z by omega]; exact j3, hbW⟩
      · have hz : Z < n := by
          rcases Nat.lt_or_ge Z n with h | h
          · exact h
          · exfalso
            obtain ⟨a1, a2, a3⟩ := qN.1 h
            rw [s1] at q1
            have := q1.2 ⟨a1, trivial⟩
            cases this
        rw [s1] at c1
        generalize hT' : A / wd n * wd n = T at *
        have HT' := Lib.hid hT'
        clear hT' HT s1 s2 q1 q2 qN
        go_wp2_with fail
        refine (cO _).mono ?_
        rintro e W3 ⟨rfl, hb3'⟩
        have j0 := (hb3'.block _ (by omega)).trans j0
        have j1 := (hb3'.block _ (by omega)).trans j1
        have j2 := (hb3'.block _ (by omega)).trans j2
        have j3 := (hb3'.block _ hb3).trans j3
        replace hbW := hbW.trans (hb3'.mono hbW.size)
        have hb3 := (pc_at j3).2.2.2.2
        clear hb3' k0
        have j0 := (alloc_lt W3 (pc T n) _ (by omega)).trans j0
        have j1 := (alloc_lt W3 (pc T n) _ (by omega)).trans j1
        have j2 := (alloc_lt W3 (pc T n) _ (by omega)).trans j2
        have j3 := (alloc_lt W3 (pc T n) _ hb3).trans j3
        have j4 := alloc_at W3 (pc T n) _ rfl
        replace hbW := hbW.trans ((below_alloc1 W3 (pc T n)).mono hbW.size)
        have hb3 := (pc_at j3).2.2.2.2
        have hb4 := (pc_at j4).2.2.2.2
        obtain ⟨k0, k1, _, _, _⟩ := pc_at j0
        obtain ⟨k4, k5, _, _, _⟩ := pc_at j4
        go_wp2_with fail
        generalize W3.alloc (pc T n) = W4 at *
        refine (c1 _).mono ?_
        rintro e W5 ⟨rfl, hbc⟩
        have j0 := (hbc.block _ (by omega)).trans j0
        have j1 := (hbc.block _ (by omega)).trans j1
        have j2 := (hbc.block _ (by omega)).trans j2
        have j3 := (hbc.block _ hb3).trans j3
        have j4 := (hbc.block _ hb4).trans j4
        replace hbW := hbW.trans (hbc.mono hbW.size)
        have hb3 := (pc_at j3).2.2.2.2
        have hb4 := (pc_at j4).2.2.2.2
        clear hbc k0 k1 k4 k5
        obtain ⟨k0, k1, _, _, _⟩ := pc_at j1
        obtain ⟨k4, k5, _, _, _⟩ := pc_at j4
        go_wp2
        go_roundg (gk - 1)
        case measure => have := hn.out; omega
        case rel => exact ⟨n + 1, val_int (by omega), Lib.hid (by have := hn.out; omega), j0, j1, j2, by rw [show min (n + 1 - 1) Z = min (n - 1) Z by omega]; exact j3, hbW⟩
      · have hz : Z < n := by
          rcases Nat.lt_or_ge Z n with h | h
          · exact h
          · exfalso
            obtain ⟨a1, a2, a3⟩ := qN.1 h
            rw [s2] at q2
            have := q2.2 ⟨a2, a3⟩
            cases this
        rw [s1] at c1
        rw [s2] at c2
        generalize hT' : A / wd n * wd n = T at *
        have HT' := Lib.hid hT'
        clear hT' HT s1 s2 q1 q2 qN
        go_wp2_with fail
        refine (cO _).mono ?_
        rintro e W3 ⟨rfl, hb3'⟩
        have j0 := (hb3'.block _ (by omega)).trans j0
        have j1 := (hb3'.block _ (by omega)).trans j1
        have j2 := (hb3'.block _ (by omega)).trans j2
        have j3 := (hb3'.block _ hb3).trans j3
        replace hbW := hbW.trans (hb3'.mono hbW.size)
        have hb3 := (pc_at j3).2.2.2.2
        clear hb3' k0
        have j0 := (alloc_lt W3 (pc T n) _ (by omega)).trans j0
        have j1 := (alloc_lt W3 (pc T n) _ (by omega)).trans j1
        have j2 := (alloc_lt W3 (pc T n) _ (by omega)).trans j2
        have j3 := (alloc_lt W3 (pc T n) _ hb3).trans j3
        have j4 := alloc_at W3 (pc T n) _ rfl
        replace hbW := hbW.trans ((below_alloc1 W3 (pc T n)).mono hbW.size)
        have hb3 := (pc_at j3).2.2.2.2
        have hb4 := (pc_at j4).2.2.2.2
        obtain ⟨k0, k1, _, _, _⟩ := pc_at j0
        obtain ⟨k4, k5, _, _, _⟩ := pc_at j4
        go_wp2_with fail
        generalize W3.alloc (pc T n) = W4 at *
        refine (c1 _).mono ?_
        rintro e W5 ⟨rfl, hbc⟩
        have j0 := (hbc.block _ (by omega)).trans j0
        have j1 := (hbc.block _ (by omega)).trans j1
        have j2 := (hbc.block _ (by omega)).trans j2
        have j3 := (hbc.block _ hb3).trans j3
        have j4 := (hbc.block _ hb4).trans j4
        replace hbW := hbW.trans (hbc.mono hbW.size)
        have hb3 := (pc_at j3).2.2.2.2
        have hb4 := (pc_at j4).2.2.2.2
        clear hbc k0 k1 k4 k5
        obtain ⟨k0, k1, _, _, _⟩ := pc_at j1
        obtain ⟨k4, k5, _, _, _⟩ := pc_at j4
        go_wp2_with fail
        refine (c2 _).mono ?_
        rintro e W6 ⟨rfl, hbc⟩
        have j0 := (hbc.block _ (by omega)).trans j0
        have j1 := (hbc.block _ (by omega)).trans j1
        have j2 := (hbc.block _ (by omega)).trans j2
        have j3 := (hbc.block _ hb3).trans j3
        have j4 := (hbc.block _ hb4).trans j4
        replace hbW := hbW.trans (hbc.mono hbW.size)
        have hb3 := (pc_at j3).2.2.2.2
        have hb4 := (pc_at j4).2.2.2.2
        clear hbc k0 k1 k4 k5
        obtain ⟨k0, k1, _, _, _⟩ := pc_at j1
        obtain ⟨k4, k5, _, _, _⟩ := pc_at j4
        go_wp2
        go_roundg (gk - 1)
        case measure => have := hn.out; omega
        case rel => exact ⟨n + 1, val_int (by omega), Lib.hid (by have := hn.out; omega), j0, j1, j2, by rw [show min (n + 1 - 1) Z = min (n - 1) Z by omega]; exact j3, hbW⟩
      · have hz : n ≤ Z := qN.2 ⟨(q1.1 s1).1, q2.1 s2⟩
        rw [s1] at c1
        rw [s2] at c2
        generalize hT' : A / wd n * wd n = T at *
        have HT' := Lib.hid hT'
        clear hT' HT s1 s2 q1 q2 qN
        go_wp2_with fail
        refine (cO _).mono ?_
        rintro e W3 ⟨rfl, hb3'⟩
        have j0 := (hb3'.block _ (by omega)).trans j0
        have j1 := (hb3'.block _ (by omega)).trans j1
        have j2 := (hb3'.block _ (by omega)).trans j2
        have j3 := (hb3'.block _ hb3).trans j3
        replace hbW := hbW.trans (hb3'.mono hbW.size)
        have hb3 := (pc_at j3).2.2.2.2
        clear hb3' k0
        have j0 := (alloc_lt W3 (pc T n) _ (by omega)).trans j0
        have j1 := (alloc_lt W3 (pc T n) _ (by omega)).trans j1
        have j2 := (alloc_lt W3 (pc T n) _ (by omega)).trans j2
        have j3 := (alloc_lt W3 (pc T n) _ hb3).trans j3
        have j4 := alloc_at W3 (pc T n) _ rfl
        replace hbW := hbW.trans ((below_alloc1 W3 (pc T n)).mono hbW.size)
        have hb3 := (pc_at j3).2.2.2.2
        have hb4 := (pc_at j4).2.2.2.2
        obtain ⟨k0, k1, _, _, _⟩ := pc_at j0
        obtain ⟨k4, k5, _, _, _⟩ := pc_at j4
        go_wp2_with fail
        generalize W3.alloc (pc T n) = W4 at *
        refine (c1 _).mono ?_
        rintro e W5 ⟨rfl, hbc⟩
        have j0 := (hbc.block _ (by omega)).trans j0
        have j1 := (hbc.block _ (by omega)).trans j1
        have j2 := (hbc.block _ (by omega)).trans j2
        have j3 := (hbc.block _ hb3).trans j3
        have j4 := (hbc.block _ hb4).trans j4
        replace hbW := hbW.trans (hbc.mono hbW.size)
        have hb3 := (pc_at j3).2.2.2.2
        have hb4 := (pc_at j4).2.2.2.2
        clear hbc k0 k1 k4 k5
        obtain ⟨k0, k1, _, _, _⟩ := pc_at j1
        obtain ⟨k4, k5, _, _, _⟩ := pc_at j4
        go_wp2_with fail
        refine (c2 _).mono ?_
        rintro e W6 ⟨rfl, hbc⟩
        have j0 := (hbc.block _ (by omega)).trans j0
        have j1 := (hbc.block _ (by omega)).trans j1
        have j2 := (hbc.block _ (by omega)).trans j2
        have j3 := (hbc.block _ hb3).trans j3
        have j4 := (hbc.block _ hb4).trans j4
        replace hbW := hbW.trans (hbc.mono hbW.size)
        have hb3 := (pc_at j3).2.2.2.2
        have hb4 := (pc_at j4).2.2.2.2
        clear hbc k0 k1 k4 k5
        obtain ⟨k0, k1, _, _, _⟩ := pc_at j1
        obtain ⟨k4, k5, _, _, _⟩ := pc_at j4
        obtain ⟨_, _, f0, f1, _⟩ := pc_at j3
        obtain ⟨m0, m1, _, _, _⟩ := pc_at j3
        have js := pc_set (B := T) (M := (n : Int)) j3
        have ja := (far_set (W := W6) (b := W2.heap.size) (u := .int .u32 (T : Int)) (v := .int .i64 (n : Int)) (show w.heap.size ≠ W2.heap.size by omega)).trans j0
        have jb := (far_set (W := W6) (b := W2.heap.size) (u := .int .u32 (T : Int)) (v := .int .i64 (n : Int)) (show w.heap.size + 1 ≠ W2.heap.size by omega)).trans j1
        have jc := (far_set (W := W6) (b := W2.heap.size) (u := .int .u32 (T : Int)) (v := .int .i64 (n : Int)) (show w.heap.size + 1 + 1 ≠ W2.heap.size by omega)).trans j2
        have hbs := below_set (b := W2.heap.size) (u := .int .u32 (T : Int)) (v := .int .i64 (n : Int)) hbW (by omega)
        clear j0 j1 j2 j3 j4 hbW
        go_wp2
        go_roundg (gk - 1)
        case measure => have := hn.out; omega
        case rel => exact ⟨n + 1, val_int (by omega), Lib.hid (by have := hn.out; omega), ja, jb, jc, by rw [show min (n + 1 - 1) Z = n by omega, HT'.out]; exact js, hbs⟩
    · obtain rfl : n = 33 := by have := hn.out; omega
      rw [show min (33 - 1) Z = Z by omega] at j3
      generalize hT' : A / wd Z * wd Z = T at *
      have HT' := Lib.hid hT'
      obtain ⟨m0, m1, _, _, _⟩ := pc_at j3
      obtain ⟨n0, n1, f0, f1, _⟩ := pc_at j2
      have js := pc_set (B := T) (M := (Z : Int)) j2
      obtain ⟨r0, r1, _, _, _⟩ := pc_at js
      have hbs := below_set (b := w.heap.size + 1 + 1) (u := .int .u32 (T : Int)) (v := .int .i64 (Z : Int)) hbW (by omega)
      clear j0 j1 j2 j3 js hbW hT'
      go_wp2
      rw [HT'.out]
      refine bodyPost_ret (v := pf T Z) (by simp [results, Tryd.results27, go_sem, r0, r1]) rfl ⟨rfl, ?_⟩
      exact hbs
theorem rcommon_bad (A : Nat) (N : Int) (B : Nat) (M : Int) (w : World) (hA : A < 4294967296) (hB : B < 4294967296) (h : (okp A N && okp B M) = false) : Calls Tryd.prog 27 #[pf A N, pf B M] w fun e w' => e = .returned (pf (comA A N B M) (comN A N B M : Int)) ∧ Below w.heap.size w w' := by
  have e0 : comA A N B M = 0 := by rw [comA, if_neg (by simp [h])]
  have e1 : comN A N B M = 0 := by rw [comN, if_neg (by simp [h])]
  rw [e0, e1]
  clear e0 e1
  have cp := fun W => rmay_any A N W hA
  have cq := fun W => rmay_any B M W hB
  have j2 := alloc_at ((w.alloc (pc A N)).alloc (pc B M)) (pc 0 0) (w.heap.size + 1 + 1) (by simp)
  have j1 := (alloc_lt ((w.alloc (pc A N)).alloc (pc B M)) (pc 0 0) (w.heap.size + 1) (by simp)).trans (alloc_at (w.alloc (pc A N)) (pc B M) _ (by simp))
  have hbW := below_alloc3 w (pc A N) (pc B M) (pc 0 0)
  cases h0 : okp A N with
  | false =>
    rw [h0] at cp
    go_enter Tryd.func27, Tryd.ntmps27
    go_wp2_with fail
    change Calls _ _ _ (((w.alloc (pc A N)).alloc (pc B M)).alloc (pc 0 0)) _
    generalize ((w.alloc (pc A N)).alloc (pc B M)).alloc (pc 0 0) = W0 at *
    have hsz := (pc_at j2).2.2.2.2
    refine (cp _).mono ?_
    rintro e W2 ⟨rfl, hb1⟩
    have j2 := (hb1.block _ hsz).trans j2
    replace hbW := hbW.trans (hb1.mono hbW.size)
    clear hb1
    obtain ⟨n0, n1, f0, f1, _⟩ := pc_at j2
    have js := pc_set (B := 0) (M := 0) j2
    obtain ⟨q0, q1, _, _, _⟩ := pc_at js
    have r0 : ((W2.setCell ⟨w.heap.size + 1 + 1, 0, none⟩ (.int .u32 0)).setCell ⟨w.heap.size + 1 + 1, 1, none⟩ (.int .i64 0)).cell? ⟨w.heap.size + 1 + 1, 0, none⟩ = some (.int .u32 0) := q0
    have r1 : ((W2.setCell ⟨w.heap.size + 1 + 1, 0, none⟩ (.int .u32 0)).setCell ⟨w.heap.size + 1 + 1, 1, none⟩ (.int .i64 0)).cell? ⟨w.heap.size + 1 + 1, 1, none⟩ = some (.int .i64 0) := q1
    have hbs := below_set (b := w.heap.size + 1 + 1) (u := .int .u32 0) (v := .int .i64 0) hbW (by omega)
    clear j1 j2 js hbW q0 q1
    go_wp2
    refine bodyPost_ret (v := pf 0 0) (by simp [results, Tryd.results27, go_sem, r0, r1]) rfl ⟨rfl, ?_⟩
    exact hbs
  | true =>
    have h1 : okp B M = false := by simpa [h0] using h
    rw [h0] at cp
    rw [h1] at cq
    go_enter Tryd.func27, Tryd.ntmps27
    go_wp2_with fail
    change Calls _ _ _ (((w.alloc (pc A N)).alloc (pc B M)).alloc (pc 0 0)) _
    generalize ((w.alloc (pc A N)).alloc (pc B M)).alloc (pc 0 0) = W0 at *
    have hsz := (pc_at j2).2.2.2.2
    refine (cp _).mono ?_
    rintro e W1 ⟨rfl, hb1⟩
    have j1 := (hb1.block _ (by omega)).trans j1
    have j2 := (hb1.block _ hsz).trans j2
    replace hbW := hbW.trans (hb1.mono hbW.size)
    have hsz := (pc_at j2).2.2.2.2
    clear hb1
    obtain ⟨k0, k1, _, _, _⟩ := pc_at j1
    go_wp2_with fail
    refine (cq _).mono ?_
    rintro e W2 ⟨rfl, hb2⟩
    have j2 := (hb2.block _ hsz).trans j2
    replace hbW := hbW.trans (hb2.mono hbW.size)
    clear hb2 k0 k1
    obtain ⟨n0, n1, f0, f1, _⟩ := pc_at j2
    have js := pc_set (B := 0) (M := 0) j2
    obtain ⟨q0, q1, _, _, _⟩ := pc_at js
    have r0 : ((W2.setCell ⟨w.heap.size + 1 + 1, 0, none⟩ (.int .u32 0)).setCell ⟨w.heap.size + 1 + 1, 1, none⟩ (.int .i64 0)).cell? ⟨w.heap.size + 1 + 1, 0, none⟩ = some (.int .u32 0) := q0
    have r1 : ((W2.setCell ⟨w.heap.size + 1 + 1, 0, none⟩ (.int .u32 0)).setCell ⟨w.heap.size + 1 + 1, 1, none⟩ (.int .i64 0)).cell? ⟨w.heap.size + 1 + 1, 1, none⟩ = some (.int .i64 0) := q1
    have hbs := below_set (b := w.heap.size + 1 + 1) (u := .int .u32 0) (v := .int .i64 0) hbW (by omega)
    clear j1 j2 js hbW q0 q1
    go_wp2
    refine bodyPost_ret (v := pf 0 0) (by simp [results, Tryd.results27, go_sem, r0, r1]) rfl ⟨rfl, ?_⟩
    exact hbs
theorem rcommon_all (A : Nat) (N : Int) (B : Nat) (M : Int) (w : World) (hA : A < 4294967296) (hB : B < 4294967296) : Calls Tryd.prog 27 #[pf A N, pf B M] w fun e w' => e = .returned (pf (comA A N B M) (comN A N B M : Int)) ∧ Below w.heap.size w w' := by
  cases h : (okp A N && okp B M) with
  | true =>
    simp only [Bool.and_eq_true] at h
    exact rcommon_any A N B M w hA hB h.1 h.2
  | false => exact rcommon_bad A N B M w hA hB h
end Go.Proofs.YtmiaphgjcajbhaaDoor
