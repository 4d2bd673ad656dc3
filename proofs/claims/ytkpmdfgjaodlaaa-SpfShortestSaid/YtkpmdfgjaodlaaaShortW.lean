/-
  The walk of the law SpfShortest, for every graph. No statement is proved here; no conditions.
-/
import Derived.Test.YtkpmdfgjaodlaaaShort2
namespace Go.Proofs.Ytkpmdfgjaodlaaa
open Go.RowKit Go.Joins

theorem shortest_walk (N root : Int) (A : Option Addr) (c : Nat) (E : List Ed) (W : World) (hE : Rd (· < W.heap.size) W A (eflat E)) :
    Calls Try.prog 5 #[gv N A E.length c, .int .i64 root] W fun e W' => e = .returned (.bool true) ∧ Below W.heap.size W W' := by
  by_cases h : may N E = true ∧ 0 ≤ root ∧ root < N
  · obtain ⟨n, G, rfl, rfl, hg⟩ := may_nat h.1
    obtain ⟨r, rfl⟩ : ∃ r : Nat, root = r := ⟨root.toNat, by omega⟩
    have := shortest_good n r A c G W hE hg (by omega)
    rwa [List.length_map]
  · refine shortest_bad N root A c E W hE (fun _ => ?_)
    cases hm : may N E with
    | false => exact .inl rfl
    | true => exact .inr (fun hr => h ⟨hm, hr⟩)
end Go.Proofs.Ytkpmdfgjaodlaaa
