/-
  The contract of the laws' live question; slices of bytes that came in. No statement is proved here.
-/
import Derived.Test.YtgdjckijbakmaaaPlace
import Derived.OpenShut
namespace Go.Proofs.Ytgdjckijbakmaaa
open Go.RowKit

/-- A slice of integers that came in, as this proof reads it. -/
theorem row_bs {k : IntKind} {w : World} {a : Option Addr} {len cap : Nat} {zs : List Int}
    (h : (a = none ∧ len = 0 ∧ cap = 0 ∧ zs = []) ∨ ∃ x, a = some x ∧ len ≤ cap ∧ cap ≤ maxLen ∧ zs.length = cap ∧ (∀ i, i < zs.length → w.cell? (x.add i) = some (.int k (zs.getD i 0))) ∧ ∀ n ∈ zs, (Lit.int k n).wf = true) :
    ∃ l, len = l.length ∧ l.length ≤ cap ∧ cap ≤ maxLen ∧ Bs k w w.heap.size a l ∧ ∀ n ∈ l, (Lit.int k n).wf = true := by
  rcases h with ⟨rfl, rfl, rfl, rfl⟩ | ⟨x, rfl, h1, h2, h3, h4, h5⟩
  · exact ⟨[], rfl, Nat.le_refl _, by unfold maxLen; omega, Bs.nil _, by simp⟩
  · refine ⟨zs.take len, by simp; omega, by simp; omega, h2, fun hl => ?_, fun n hn => h5 n (List.mem_of_mem_take hn)⟩
    have hpos : 0 < zs.length ∧ 0 < len := by
      have := List.length_pos_iff.2 hl
      rw [List.length_take] at this
      omega
    obtain ⟨b, off, spot⟩ := x
    have hc := h4 0 hpos.1
    have hspot : spot = none := by simpa [Addr.add] using World.cell?_spot hc
    subst hspot
    have hc0 : w.cell? ⟨b, off, none⟩ = some (.int k (zs.getD 0 0)) := by simpa [Addr.add] using hc
    refine ⟨b, off, rfl, World.block_lt_of_cell? w ⟨b, off, none⟩ hc0, fun i hi => ?_⟩
    rw [List.length_take] at hi
    have := h4 i (by omega)
    rw [addr_add] at this
    rw [this]
    simp [List.getD, show i < len by omega]
theorem byt_of {l : List Int} (h : ∀ n ∈ l, (Lit.int .u8 n).wf = true) : Byt l := fun x hx => by have := bounds_u8 (h x hx); omega

theorem alive_pair (A : Option Addr) (w : World) (hb : Bs .u8 w w.heap.size A [1, 2]) : Calls Try.prog 9 #[.slice A 2 2] w fun e w' => e = .returned (.tuple #[.int .i64 3, .int .i64 4]) ∧ w = w' := by
  have h := pair_any A 2 [1, 2] _ w hb (by intro x hx; simp at hx; omega) (by decide)
  have e1 : p0 [1, 2] = 3 := by decide
  have e2 : p1 [1, 2] = 4 := by decide
  rw [e1, e2] at h
  exact h
theorem alive_place (A : Option Addr) (w : World) : Calls Try.prog 16 #[.slice A 1 1, .int .i64 0] w fun e w' => e = .returned (.tuple #[.slice none 0 0, .int .i64 1]) ∧ w = w' :=
  place_no A 1 [1] 0 w (by decide) (by decide)
theorem alive_inet (A : Option Addr) (w : World) (hb : Bs .u8 w w.heap.size A [1, 2, 3, 4]) : Calls Try.prog 12 #[.slice A 4 4] w fun e w' => e = .returned (.int .i64 64505) ∧ w = w' := by
  have h := inet_any A 4 [1, 2, 3, 4] _ w hb (by intro x hx; simp at hx; omega) (by decide)
  have e1 : inet [1, 2, 3, 4] = 64505 := by decide
  rw [e1] at h
  exact h
theorem alive_any (w : World) : Calls Try.prog 8 #[] w fun e w' => e = .returned (.bool true) ∧ Below w.heap.size w w' := by
  have hx := (Own.lit (k := .u8) (e := 5) w 0 (Nat.zero_le _) [1, 2] (by simp [maxLen])).bs
  go_enter Try.func8, Try.ntmps8
  go_wp2_with fail
  refine (alive_pair _ _ (by simpa using hx)).mono ?_
  rintro e w1 ⟨rfl, rfl⟩
  have hB1 : Below w.heap.size w _ := (Below.refl _ w).alloc (Nat.le_refl _) (.cells #[.int .u8 1, .int .u8 2] 5)
  generalize w.alloc (.cells #[.int .u8 1, .int .u8 2] 5) = w1 at hB1 ⊢
  clear hx
  go_wp2_with fail
  refine (alive_place _ _).mono ?_
  rintro e w2 ⟨rfl, rfl⟩
  have hB2 : Below w.heap.size w _ := hB1.alloc hB1.size (.cells #[.int .u8 1] 5)
  generalize w1.alloc (.cells #[.int .u8 1] 5) = w2 at hB2 ⊢
  have hx := (Own.lit (k := .u8) (e := 5) w2 0 (Nat.zero_le _) [1, 2, 3, 4] (by simp [maxLen])).bs
  go_wp2_with fail
  refine (alive_inet _ _ (by simpa using hx)).mono ?_
  rintro e w3 ⟨rfl, rfl⟩
  clear hx
  go_wp2
  go_ret
  exact ⟨rfl, hB2.alloc hB2.size _⟩
end Go.Proofs.Ytgdjckijbakmaaa
