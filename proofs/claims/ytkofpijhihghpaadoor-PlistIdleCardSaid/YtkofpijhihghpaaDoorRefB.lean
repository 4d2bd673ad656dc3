/-
  Contracts of the reference's Covers, Less, Common. No statement is proved here.
-/
import Derived.Test.YtkofpijhihghpaaDoorRefA
import Derived.Deep.DeepCutAuto
namespace Go.Proofs.YtkofpijhihghpaaDoor
open Go.RowKit Go.Joins

abbrev box2 (w : World) (A : Nat) (N : Int) (B : Nat) (M : Int) : World :=
  (w.alloc (.cells #[.int .u32 (A : Int), .int .i64 N] 24)).alloc (.cells #[.int .u32 (B : Int), .int .i64 M] 24)
theorem box2_at (w : World) (A : Nat) (N : Int) (B : Nat) (M : Int) (W : World) (h : Below (box2 w A N B M).heap.size (box2 w A N B M) W) :
    W.cell? ⟨w.heap.size, 0, none⟩ = some (.int .u32 (A : Int)) ∧ W.cell? ⟨w.heap.size, 1, none⟩ = some (.int .i64 N) ∧
    W.cell? ⟨w.heap.size + 1, 0, none⟩ = some (.int .u32 (B : Int)) ∧ W.cell? ⟨w.heap.size + 1, 1, none⟩ = some (.int .i64 M) := by
  have k0 := (h.block w.heap.size (by simp; omega)).trans ((alloc_lt _ _ _ (by simp)).trans (alloc_at _ _ _ rfl))
  have k1 := (h.block (w.heap.size + 1) (by simp)).trans (alloc_at _ _ _ (by simp))
  exact ⟨(cell_of_block k0 0).trans rfl, (cell_of_block k0 1).trans rfl, (cell_of_block k1 0).trans rfl, (cell_of_block k1 1).trans rfl⟩
theorem rcovers_any (A : Nat) (N : Int) (B : Nat) (M : Int) (w : World) (hA : A < 4294967296) (hB : B < 4294967296) : Calls Tryd.prog 41 #[pf A N, pf B M] w fun e w' => e = .returned (.bool (covp A N B M)) ∧ Below w.heap.size w w' := by
  have cp := fun W => rmay_any A N W hA
  have cq := fun W => rmay_any B M W hB
  have ch := fun W => rhas_any A N B W hA hB
  have K := box2_at w A N B M
  have hbB : Below w.heap.size w (box2 w A N B M) := below_alloc2 _ _ _
  obtain ⟨k0, k1, k2, k3⟩ := K _ (Below.refl _ _)
  have hbW := Below.refl (box2 w A N B M).heap.size (box2 w A N B M)
  cases h0 : okp A N with
  | false =>
    rw [show covp A N B M = false by simp [covp, hasp, h0]]
    rw [h0] at cp
    go_enter Tryd.func41, Tryd.ntmps41
    go_wp2_with fail
    change Calls _ _ _ (box2 w A N B M) _
    generalize box2 w A N B M = W0 at *
    refine (cp _).mono ?_
    rintro e W1 ⟨rfl, hb⟩
    go_wp2
    go_ret
    exact ⟨rfl, hbB.trans (hb.mono hbB.size)⟩
  | true =>
    rw [h0] at cp
    cases h1 : okp B M with
    | false =>
      rw [show covp A N B M = false by simp [covp, h1]]
      rw [h1] at cq
      go_enter Tryd.func41, Tryd.ntmps41
      go_wp2_with fail
      change Calls _ _ _ (box2 w A N B M) _
      generalize box2 w A N B M = W0 at *
      refine (cp _).mono ?_
      rintro e W1 ⟨rfl, hb1⟩
      replace hbW := hbW.trans (hb1.mono hbW.size)
      clear hb1 k0 k1 k2 k3
      obtain ⟨k0, k1, k2, k3⟩ := K _ hbW
      go_wp2_with fail
      refine (cq _).mono ?_
      rintro e W2 ⟨rfl, hb2⟩
      replace hbW := hbW.trans (hb2.mono hbW.size)
      go_wp2
      go_ret
      exact ⟨rfl, hbB.trans (hbW.mono hbB.size)⟩
    | true =>
      rw [h1] at cq
      by_cases h2 : N ≤ M
      · rw [show covp A N B M = hasp A N B by simp [covp, h1, h2]]
        go_enter Tryd.func41, Tryd.ntmps41
        go_wp2_with fail
        change Calls _ _ _ (box2 w A N B M) _
        generalize box2 w A N B M = W0 at *
        refine (cp _).mono ?_
        rintro e W1 ⟨rfl, hb1⟩
        replace hbW := hbW.trans (hb1.mono hbW.size)
        clear hb1 k0 k1 k2 k3
        obtain ⟨k0, k1, k2, k3⟩ := K _ hbW
        go_wp2_with fail
        refine (cq _).mono ?_
        rintro e W2 ⟨rfl, hb2⟩
        replace hbW := hbW.trans (hb2.mono hbW.size)
        clear hb2 k0 k1 k2 k3
        obtain ⟨k0, k1, k2, k3⟩ := K _ hbW
        go_wp2_with fail
        refine (ch _).mono ?_
        rintro e W3 ⟨rfl, hb3⟩
        replace hbW := hbW.trans (hb3.mono hbW.size)
        go_wp2
        go_ret
        exact ⟨rfl, hbB.trans (hbW.mono hbB.size)⟩
      · rw [show covp A N B M = false by simp [covp, h2]]
        have h3 : decide (N ≤ M) = false := decide_eq_false h2
        go_enter Tryd.func41, Tryd.ntmps41
        go_wp2_with fail
        change Calls _ _ _ (box2 w A N B M) _
        generalize box2 w A N B M = W0 at *
        refine (cp _).mono ?_
        rintro e W1 ⟨rfl, hb1⟩
        replace hbW := hbW.trans (hb1.mono hbW.size)
        clear hb1 k0 k1 k2 k3
        obtain ⟨k0, k1, k2, k3⟩ := K _ hbW
        go_wp2_with fail
        refine (cq _).mono ?_
        rintro e W2 ⟨rfl, hb2⟩
        replace hbW := hbW.trans (hb2.mono hbW.size)
        clear hb2 k0 k1 k2 k3
        obtain ⟨k0, k1, k2, k3⟩ := K _ hbW
        go_wp2
        go_ret
        exact ⟨rfl, hbB.trans (hbW.mono hbB.size)⟩
abbrev pc (A : Nat) (N : Int) : Obj := .cells #[.int .u32 (A : Int), .int .i64 N] 24
theorem pc_at {W : World} {b A : Nat} {N : Int} (h : W.heap[b]? = some (pc A N)) : W.cell? ⟨b, 0, none⟩ = some (.int .u32 (A : Int)) ∧ W.cell? ⟨b, 1, none⟩ = some (.int .i64 N) ∧ W.frozen? ⟨b, 0, none⟩ = false ∧ W.frozen? ⟨b, 1, none⟩ = false ∧ b < W.heap.size := by
  refine ⟨(cell_of_block h 0).trans rfl, (cell_of_block h 1).trans rfl, unfrozen_of_block h 0, unfrozen_of_block h 1, ?_⟩
  rcases Nat.lt_or_ge b W.heap.size with h' | h'
  · exact h'
  · rw [Array.getElem?_eq_none h'] at h; cases h
theorem pc_set {W : World} {b A B : Nat} {N M : Int} (h : W.heap[b]? = some (pc A N)) : ((W.setCell ⟨b, 0, none⟩ (.int .u32 (B : Int))).setCell ⟨b, 1, none⟩ (.int .i64 M)).heap[b]? = some (pc B M) := by
  rw [block_setCell (i := 1) (block_setCell (i := 0) h (.int .u32 (B : Int))) (.int .i64 M)]
  rfl
theorem far_set {W : World} {b k : Nat} {u v : Value} (h : k ≠ b) : ((W.setCell ⟨b, 0, none⟩ u).setCell ⟨b, 1, none⟩ v).heap[k]? = W.heap[k]? := by
  rw [Below.heap_setCell _ _ _ _ h, Below.heap_setCell _ _ _ _ h]
theorem below_set {W W' : World} {B b : Nat} {u v : Value} (h : Below B W W') (hb : B ≤ b) : Below B W ((W'.setCell ⟨b, 0, none⟩ u).setCell ⟨b, 1, none⟩ v) := Below.setCell (Below.setCell h (p := ⟨b, 0, none⟩) hb u) (p := ⟨b, 1, none⟩) hb v
end Go.Proofs.YtkofpijhihghpaaDoor
