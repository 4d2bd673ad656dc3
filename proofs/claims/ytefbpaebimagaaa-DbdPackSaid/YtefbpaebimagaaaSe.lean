/-
  Contracts of lsa's Seal. No statement is proved here; no conditions.
-/
import Derived.Test.YtefbpaebimagaaaOl
namespace Go.Proofs.Ytefbpaebimagaaa
open Go.RowKit Go.Joins

/-- A header with this sum and length. -/
def sl (h : Hd) (s n : Int) : Hd := ⟨h.a, h.o, h.t, h.i, h.v, h.q, s, n⟩
/-- The sum that makes it intact. -/
def sck (h : Hd) (l : List Int) (n : Nat) : Int := num (sub (placed (smd (sl h 0 (20 + (n : Int))) l) 14) 14 2)
theorem sl_ok {h : Hd} (ok : Okd h) (s n : Int) : Okd (sl h s n) := ⟨ok.i, ok.v, ok.q⟩
theorem smd_length (h : Hd) (l : List Int) : (smd h l).length = 18 + l.length := by
  simp [smd, ehd_length]
  omega
theorem smd_byt (h : Hd) {l : List Int} (hy : Byt l) : Byt (smd h l) := ((ehd_byt h).append hy).drop 2
theorem placed_byt {l : List Int} (hy : Byt l) (a : Nat) : Byt (placed l a) := two_byt hy a _ _ (by have := placeX_bd l a; omega) (by have := placeY_bd l a; omega)
end Go.Proofs.Ytefbpaebimagaaa
