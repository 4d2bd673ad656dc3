/-
  Rows that the call itself makes: one element more, a whole slice more. No statement is proved here; no conditions.
-/
import Derived.Test.YtmcjpibahnlmbaaEvl
import Derived.Lib.AppendZerosOnto
import Derived.Deep.Slices
import Derived.Lib.SliceRun
namespace Go.Proofs.Ytmcjpibahnlmbaa
open Go.RowKit Go.Joins

theorem info26 : ∃ i, Try.prog.info? 75 = some i ∧ i.zero = some (.agg #[.int .i64 0, .bool false, .int .u32 0, .int .i64 0, .int .i64 0, .int .i64 0]) ∧ i.size = 6 ∧ i.bytes = 48 := info_of (by kernel_rfl)
theorem info34 : ∃ i, Try.prog.info? 73 = some i ∧ i.zero = some (.agg #[.int .i64 0, .bool false, .int .u32 0, .int .i64 0, .int .i64 0, .int .i64 0]) ∧ i.size = 6 ∧ i.bytes = 48 := info_of (by kernel_rfl)
theorem info3 : ∃ i, Try.prog.info? 3 = some i ∧ i.zero = some (.int .i64 0) ∧ i.size = 1 ∧ i.bytes = 8 := info_of (by kernel_rfl)
theorem info9 : ∃ i, Try.prog.info? 9 = some i ∧ i.zero = some (.string ByteArray.empty) ∧ i.size = 1 ∧ i.bytes = 16 := info_of (by kernel_rfl)
/-- A slice: nil, or a row of the call's own in a block of S. -/
def Ob (e : TypeId) (sz : Nat) (S : Nat → Prop) (w : World) (A : Option Addr) (c : Nat) (cs : List Value) : Prop := (A = none ∧ c = 0 ∧ cs = []) ∨ ∃ g, S g ∧ A = some ⟨g, 0, none⟩ ∧ Rg e sz w g c cs
section
variable {S T : Nat → Prop} {w w' : World} {A : Option Addr} {c : Nat} {cs : List Value} {e : TypeId} {sz : Nat}
theorem Ob.keep (h : Ob e sz S w A c cs) (hk : ∀ j, S j → j < w.heap.size → w'.heap[j]? = w.heap[j]?) : Ob e sz S w' A c cs := by
  rcases h with h | ⟨g, h1, h2, h3⟩
  · exact .inl h
  · exact .inr ⟨g, h1, h2, h3.keep (hk g h1 h3.lt)⟩
theorem Ob.below (h : Ob e sz S w A c cs) (hb : Below w.heap.size w w') : Ob e sz S w' A c cs := h.keep fun j _ hj => hb.block j hj
theorem Ob.drew (h : Ob e sz S w A c cs) (n : Nat) : Ob e sz S (w.drewN n) A c cs := h
theorem Ob.more (h : Ob e sz S w A c cs) (hS : ∀ j, S j → j < w.heap.size → T j) : Ob e sz T w A c cs := by
  rcases h with h | ⟨g, h1, h2, h3⟩
  · exact .inl h
  · exact .inr ⟨g, hS g h1 h3.lt, h2, h3⟩
theorem Ob.rd (h : Ob e sz S w A c cs) : Rd (fun _ => True) w A cs := by
  rcases h with ⟨_, _, rfl⟩ | ⟨g, h1, rfl, h3⟩
  · exact Rd.nil _
  · exact h3.rd.more fun j hj _ => trivial
theorem Ob.ow (h : Ob e sz S w A c cs) {n : Nat} (hn : cs.length = n * sz) (hsz : 0 < sz) : ∃ g, Ow e sz w A g c n cs ∧ ∀ j, A = some ⟨j, 0, none⟩ → S j := by
  rcases h with ⟨rfl, rfl, rfl⟩ | ⟨g, h1, rfl, h3⟩
  · have : n = 0 := by
      rcases Nat.eq_zero_or_pos n with q | q
      · exact q
      · have := Nat.mul_pos q hsz
        simp at hn
        omega
    exact ⟨0, ⟨hn, .inl ⟨rfl, rfl, this⟩⟩, fun j hj => by cases hj⟩
  · exact ⟨g, ⟨hn, .inr ⟨rfl, h3⟩⟩, fun j hj => by injection hj with hj; injection hj with hj; exact hj ▸ h1⟩
end
/-- 'append' of a slice of at least one element. -/
theorem app_gen {P : Program} {S T : Nat → Prop} {w : World} {A : Option Addr} {c n : Nat} {cs : List Value} {e t : TypeId} {sz by_ : Nat} {z : Value} {i : TypeInfo} (ht : P.underlying t = some (.slice e)) (hi : P.info? e = some i) (hz : i.zero = some z) (hsize : i.size = sz) (hby : i.bytes = by_) (hzs : z.cells.size = sz) (hsz : 0 < sz) (hb100 : by_ ≤ 200)
    (h : Ob e sz S w A c cs) (hn : cs.length = n * sz) (A2 : Option Addr) (c2 n2 : Nat) (cs2 : List Value) (hr : Rd T w A2 cs2) (hl2 : cs2.length = n2 * sz) (h1 : ∀ u ∈ cs2, u.oneCell' = true) (hn2 : 0 < n2) (hb : n + n2 ≤ 1000000) :
    ∃ g' c' w', (Builtin.append_ #[t, t] t #[.slice A n c, .slice A2 n2 c2]).run P w = .ok (.slice (some ⟨g', 0, none⟩) (n + n2) c') w' ∧ Rg e sz w' g' c' (cs ++ cs2) ∧ Kp S w w' ∧ (S g' ∨ g' = w.heap.size) := by
  obtain ⟨g, ow, hS⟩ := h.ow hn hsz
  obtain ⟨g', c', w', r1, r2, r3, r4⟩ := run_appr (P := P) w t t e i z sz by_ ht hi hz hsize hby hzs hsz hb100 A g c n cs ow T A2 c2 n2 cs2 hr hl2 h1 hn2 hb
  refine ⟨g', c', w', r1, r2, r3.mono hS, ?_⟩
  rcases r4 with q | q
  · exact .inl (hS _ q)
  · exact .inr q
/-- 'append' of nothing. -/
theorem app_zero {P : Program} (w : World) (t ty e : TypeId) (i : TypeInfo) (ht : P.underlying t = some (.slice e)) (hi : P.info? e = some i) (A : Option Addr) (c n : Nat) (A2 : Option Addr) (c2 : Nat) (hc : n ≤ c) (hA : A = none → c = 0) :
    (Builtin.append_ #[t, t] ty #[.slice A n c, .slice A2 0 c2]).run P w = .ok (.slice A n c) w := by
  cases A with
  | none =>
    obtain rfl := hA rfl
    obtain rfl : n = 0 := by omega
    cases A2 <;> simp [Builtin.append_, run_underlying ht, sizeOf, typeInfo, hi, Builtin.lenOf, Builtin.firstCells, run_load0]
  | some a => cases A2 <;> simp [Builtin.append_, run_underlying ht, sizeOf, typeInfo, hi, Builtin.lenOf, Builtin.firstCells, run_load0, storeCells, hc]
/-- One element more, out of a new block. -/
theorem app_one {P : Program} {S : Nat → Prop} {w : World} {A : Option Addr} {c n : Nat} {cs : List Value} {e t : TypeId} {sz by_ : Nat} {z : Value} {i : TypeInfo} (ht : P.underlying t = some (.slice e)) (hi : P.info? e = some i) (hz : i.zero = some z) (hsize : i.size = sz) (hby : i.bytes = by_) (hzs : z.cells.size = sz) (hsz : 0 < sz) (hb100 : by_ ≤ 200)
    (h : Ob e sz S w A c cs) (hn : cs.length = n * sz) (xs : List Value) (hl2 : xs.length = sz) (h1 : ∀ u ∈ xs, u.oneCell' = true) (hb : n ≤ 100000) (n0 : Nat) (hn0 : w.heap.size = n0) :
    ∃ g' c' w', (Builtin.append_ #[t, t] t #[.slice A n c, .slice (some ⟨n0, 0, none⟩) 1 1]).run P (w.alloc (.cells xs.toArray e)) = .ok (.slice (some ⟨g', 0, none⟩) (n + 1) c') w' ∧ Rg e sz w' g' c' (cs ++ xs) ∧ Kp S w w' ∧ (S g' ∨ n0 < g') := by
  subst hn0
  obtain ⟨W5, hW5⟩ : ∃ W5, w.alloc (.cells xs.toArray e) = W5 := ⟨_, rfl⟩
  have hs5 : W5.heap.size = w.heap.size + 1 := by rw [← hW5]; simp
  have b5 : Below w.heap.size w W5 := by rw [← hW5]; exact below_alloc1 _ _
  have src : Rd (· = w.heap.size) W5 (some ⟨w.heap.size, 0, none⟩) xs := by
    rw [← hW5]
    exact (Rg.lit w e sz 1 _ xs rfl (by omega) (by unfold maxLen; omega)).rd
  obtain ⟨g', c', w', r1, r2, r3, r4⟩ := app_gen (P := P) ht hi hz hsize hby hzs hsz hb100 (h.below b5) hn _ 1 1 xs src (by omega) h1 (by omega) (by omega)
  rw [hW5]
  refine ⟨g', c', w', r1, r2, (Kp.of_below (S := S) b5 (Nat.le_refl _)).trans r3 fun _ h => .inl h, ?_⟩
  rcases r4 with q | q
  · exact .inl q
  · exact .inr (by omega)
theorem Ob.next {e : TypeId} {sz : Nat} {w' : World} {g c n0 B : Nat} {cs : List Value} (h : Rg e sz w' g c cs) (hg : B ≤ g ∨ n0 < g) (hn : B ≤ n0) : Ob e sz (B ≤ ·) w' (some ⟨g, 0, none⟩) c cs := .inr ⟨g, by rcases hg with q | q; exact q; show B ≤ g; omega, rfl, h⟩

/-- Room for n elements. -/
theorem zc6_size (k : Nat) : (Builtin.zeroCells (Value.agg #[.int .i64 0, .bool false, .int .u32 0, .int .i64 0, .int .i64 0, .int .i64 0]).cells k).size = k * 6 := by
  simp [Builtin.zeroCells, Value.cells]
end Go.Proofs.Ytmcjpibahnlmbaa
