/-
  One pointer more, one entry more in a row. No statement is proved here; no conditions.
-/
import Derived.Test.YtlmcgjdenfnkmaaTn
import Derived.Deep.LoopGhost
import Derived.Deep.RegionHeldLaw
import Derived.Deep.DeepCutAuto
import Derived.Laws.StructEq
import Derived.Laws.EntriesVeiled
import Derived.Deep.Slices
import Derived.Lib.SliceRun
namespace Go.Proofs.Ytlmcgjdenfnkmaa
open Go.RowKit Go.Joins

theorem info60 : ∃ i, Try.prog.info? 60 = some i ∧ i.zero = some (.pointer none) ∧ i.size = 1 ∧ i.bytes = 8 := info_of (by kernel_rfl)
theorem info39 : ∃ i, Try.prog.info? 39 = some i ∧ i.zero = some (.agg #[.int .u32 0, .int .i64 0, .int .i64 0]) ∧ i.size = 3 ∧ i.bytes = 24 := info_of (by kernel_rfl)
/-- Pointers as cells. -/
abbrev ps (G : List Nat) : List Value := G.map fun j => po (some j)
theorem ps_one (G : List Nat) : ∀ u ∈ ps G, u.oneCell' = true := by
  intro u hu
  obtain ⟨x, _, rfl⟩ := List.mem_map.1 hu
  rfl
theorem ptr_app {w : World} {g c n : Nat} {l : List Nat} (h : Rg 60 1 w g c (ps l)) (hn : l.length = n) (hl : n ≤ 100000) (v n0 : Nat) (hn0 : w.heap.size = n0) :
    ∃ g2 c2 w2, (Builtin.append_ #[67, 67] 67 #[.slice (some ⟨g, 0, none⟩) n c, .slice (some ⟨n0, 0, none⟩) 1 1]).run Try.prog (w.alloc (.cells #[po (some v)] 60)) = .ok (.slice (some ⟨g2, 0, none⟩) (n + 1) c2) w2 ∧ Rg 60 1 w2 g2 c2 (ps (l ++ [v])) ∧ (g2 = g ∨ n0 < g2) ∧ (∀ B, B ≤ g → Below B w w2) := by
  subst hn hn0
  obtain ⟨W5, hW5⟩ : ∃ W5, w.alloc (.cells #[po (some v)] 60) = W5 := ⟨_, rfl⟩
  have hs5 : W5.heap.size = w.heap.size + 1 := by rw [← hW5]; simp
  have b5 : Below w.heap.size w W5 := by rw [← hW5]; exact below_alloc1 _ _
  have src : Rd (· = w.heap.size) W5 (some ⟨w.heap.size, 0, none⟩) (ps [v]) := by
    rw [← hW5]
    exact (Rg.lit w 60 1 1 _ (ps [v]) rfl (by simp) (by unfold maxLen; omega)).rd
  have hg := h.lt
  obtain ⟨ti, hi5, hz5, hsz5, hby5⟩ := info60
  obtain ⟨g2, c2, W6, r1, r2, r3, r4⟩ := run_appr (P := Try.prog) W5 67 67 60 ti _ 1 8 Try.underlying67 hi5 hz5 hsz5 hby5 rfl (by omega) (by omega) (some ⟨g, 0, none⟩) g c l.length (ps l) ⟨by simp, .inr ⟨rfl, h.below' b5⟩⟩ _ _ 1 1 _ src (by simp) (ps_one [v]) (by omega) (by omega)
  rw [hW5]
  refine ⟨g2, c2, W6, r1, by rw [show ps (l ++ [v]) = ps l ++ ps [v] from List.map_append]; exact r2, ?_, fun B hB => (b5.mono (by omega)).trans (r3.below (fun j hj => by injection hj with hj; injection hj with hj; omega) (by omega))⟩
  rcases r4 with e | e
  · injection e with e; injection e with e; omega
  · omega
/-- A slice of entries: nil, or a row of the call's own in a block of S. -/
def Orw (S : Nat → Prop) (w : World) (A : Option Addr) (c : Nat) (L : List En) : Prop := (A = none ∧ c = 0 ∧ L = []) ∨ ∃ g, S g ∧ A = some ⟨g, 0, none⟩ ∧ Rg 39 3 w g c (eflat L)
section
variable {S T : Nat → Prop} {w w' : World} {A : Option Addr} {c : Nat} {L : List En}
theorem Orw.keep (h : Orw S w A c L) (hk : ∀ j, S j → j < w.heap.size → w'.heap[j]? = w.heap[j]?) : Orw S w' A c L := by
  rcases h with h | ⟨g, h1, h2, h3⟩
  · exact .inl h
  · exact .inr ⟨g, h1, h2, h3.keep (hk g h1 h3.lt)⟩
theorem Orw.below (h : Orw S w A c L) (hb : Below w.heap.size w w') : Orw S w' A c L := h.keep fun j _ hj => hb.block j hj
theorem Orw.kp (h : Orw S w A c L) (hb : Kp T w w') (hS : ∀ j, S j → ¬ T j) : Orw S w' A c L := h.keep fun j h1 hj => hb.block j hj (hS j h1)
theorem Orw.more (h : Orw S w A c L) (hS : ∀ j, S j → j < w.heap.size → T j) : Orw T w A c L := by
  rcases h with h | ⟨g, h1, h2, h3⟩
  · exact .inl h
  · exact .inr ⟨g, hS g h1 h3.lt, h2, h3⟩
theorem Orw.rd (h : Orw S w A c L) : Rd S w A (eflat L) := by
  rcases h with ⟨_, _, rfl⟩ | ⟨g, h1, rfl, h3⟩
  · exact Rd.nil _
  · exact h3.rd.more fun j hj _ => hj ▸ h1
end
/-- One entry more. -/
theorem en_app {S : Nat → Prop} {w : World} {A : Option Addr} {c n : Nat} {L : List En} (h : Orw S w A c L) (hn : L.length = n) (hl : n ≤ 100000) (x : En) (n0 : Nat) (hn0 : w.heap.size = n0) :
    ∃ g2 c2 w2, (Builtin.append_ #[28, 28] 28 #[.slice A n c, .slice (some ⟨n0, 0, none⟩) 1 1]).run Try.prog (w.alloc (.cells #[.int .u32 (x.A : Int), .int .i64 x.N, .int .i64 x.V] 39)) = .ok (.slice (some ⟨g2, 0, none⟩) (n + 1) c2) w2 ∧ Rg 39 3 w2 g2 c2 (eflat (L ++ [x])) ∧ (S g2 ∨ n0 < g2) ∧ Kp S w w2 := by
  subst hn hn0
  obtain ⟨W5, hW5⟩ : ∃ W5, w.alloc (.cells #[.int .u32 (x.A : Int), .int .i64 x.N, .int .i64 x.V] 39) = W5 := ⟨_, rfl⟩
  have hs5 : W5.heap.size = w.heap.size + 1 := by rw [← hW5]; simp
  have b5 : Below w.heap.size w W5 := by rw [← hW5]; exact below_alloc1 _ _
  have src : Rd (· = w.heap.size) W5 (some ⟨w.heap.size, 0, none⟩) (eflat [x]) := by
    rw [← hW5]
    exact (Rg.lit w 39 3 1 _ (eflat [x]) rfl (by simp [eflat]) (by unfold maxLen; omega)).rd
  have own : ∃ g, Ow 39 3 W5 A g c L.length (eflat L) ∧ ∀ j, A = some ⟨j, 0, none⟩ → S j := by
    rcases h.below b5 with ⟨rfl, rfl, rfl⟩ | ⟨g, h1, rfl, h3⟩
    · exact ⟨0, ⟨rfl, .inl ⟨rfl, rfl, rfl⟩⟩, fun j hj => by cases hj⟩
    · exact ⟨g, ⟨eflat_length _, .inr ⟨rfl, h3⟩⟩, fun j hj => by injection hj with hj; injection hj with hj; exact hj ▸ h1⟩
  obtain ⟨g, ow, hS⟩ := own
  obtain ⟨ti, hi5, hz5, hsz5, hby5⟩ := info39
  obtain ⟨g2, c2, W6, r1, r2, r3, r4⟩ := run_appr (P := Try.prog) W5 28 28 39 ti _ 3 24 Try.underlying28 hi5 hz5 hsz5 hby5 rfl (by omega) (by omega) A g c L.length (eflat L) ow _ _ 1 1 _ src (by simp [eflat]) (eflat_one [x]) (by omega) (by omega)
  rw [hW5]
  refine ⟨g2, c2, W6, r1, by rw [eflat_append]; exact r2, ?_, (Kp.of_below (S := S) b5 (Nat.le_refl _)).trans (r3.mono hS) fun _ h => .inl h⟩
  rcases r4 with e | e
  · exact .inl (hS _ e)
  · exact .inr (by omega)
end Go.Proofs.Ytlmcgjdenfnkmaa
