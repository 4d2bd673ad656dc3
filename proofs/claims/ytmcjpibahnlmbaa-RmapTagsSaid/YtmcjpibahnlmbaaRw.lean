/-
  Rows of rules that grow by one. No statement is proved here; no conditions.
-/
import Derived.Test.YtmcjpibahnlmbaaApp
import Derived.Test.YtmcjpibahnlmbaaRg
import Derived.Laws.StructEq
namespace Go.Proofs.Ytmcjpibahnlmbaa
open Go.RowKit Go.Joins

/-- One rule more. -/
theorem ru_app {S : Nat → Prop} {w : World} {A : Option Addr} {c n : Nat} {L : List Ru} (h : Ob 73 6 S w A c (rflat L)) (hn : L.length = n) (hl : n ≤ 100000) (x : Ru) (n0 : Nat) (hn0 : w.heap.size = n0) :
    ∃ g' c' w', (Builtin.append_ #[39, 39] 39 #[.slice A n c, .slice (some ⟨n0, 0, none⟩) 1 1]).run Try.prog (w.alloc (.cells #[.int .i64 x.s, .bool x.p, .int .u32 (x.A : Int), .int .i64 x.N, .int .i64 x.g, .int .i64 x.l] 73)) = .ok (.slice (some ⟨g', 0, none⟩) (n + 1) c') w' ∧ Rg 73 6 w' g' c' (rflat (L ++ [x])) ∧ Kp S w w' ∧ (S g' ∨ n0 < g') := by
  obtain ⟨ti, hi5, hz5, hsz5, hby5⟩ := info34
  have := app_one (P := Try.prog) Try.underlying39 hi5 hz5 hsz5 hby5 rfl (by omega) (by omega) h (n := n) (by rw [rflat_length, hn]) (rflat [x]) rfl (rflat_one _) (by omega) n0 hn0
  rw [rflat_append]
  exact this
theorem Ob.lit0 (w : World) (e : TypeId) (sz : Nat) : Ob e sz (w.heap.size ≤ ·) (w.alloc (.cells #[] e)) (some ⟨w.heap.size, 0, none⟩) 0 [] := .inr ⟨w.heap.size, Nat.le_refl _, rfl, Rg.lit w e sz 0 #[] [] rfl (by simp) (by unfold maxLen; omega)⟩
theorem take_next {l : List Ru} {k : Nat} (h : k < l.length) : l.take (k + 1) = l.take k ++ [gr l k] := by rw [List.take_succ_eq_append_getElem h, gr_eq h]
end Go.Proofs.Ytmcjpibahnlmbaa
