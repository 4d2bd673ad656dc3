/-
  Contracts of rows, MayAll, Eval, Then and Filter of the reference, at maps made by rows. No statement is proved here; no conditions.
-/
import Derived.Test.YtmcjpibahnlmbaaSm
import Derived.Test.YtmcjpibahnlmbaaTi
import Derived.Test.YtmcjpibahnlmbaaRq
namespace Go.Proofs.Ytmcjpibahnlmbaa
open Go.RowKit Go.Joins

/-- A map that says the same is read at A. -/
def Cs (w : World) (A : Option Addr) (m : List Cl) : Prop := ∃ l : List Cl, l.length = m.length ∧ cps l = cps m ∧ Cr w A l
theorem Cs.step {w w' : World} {A : Option Addr} {m : List Cl} (h : Cs w A m) (k : Below w.heap.size w w') : Cs w' A m := by
  obtain ⟨l, h1, h2, h3⟩ := h
  exact ⟨l, h1, h2, h3.step k⟩
theorem rows_cs (A0 : Option Addr) (c : Nat) (m : List Cl) (w : World) (hm : Cr w A0 m) (hl : m.length ≤ 20) :
    Calls Try.prog 11 #[.slice A0 m.length c] w fun e w' => ∃ A2 c2, e = .returned (.slice A2 m.length c2) ∧ Cs w' A2 m ∧ Below w.heap.size w w' := by
  refine (rows_any A0 c m w hm (by omega)).mono ?_
  rintro e w' ⟨A', c', l', rfl, h1, h2, h3⟩
  have hl' : l'.length = m.length := by rw [← cps_len, h1, cps_len]
  exact ⟨A', c', by rw [hl'], ⟨l', hl', h1, h2⟩, h3⟩
theorem Cs.may {w : World} {A : Option Addr} {m : List Cl} (h : Cs w A m) (c : Nat) (hl : m.length ≤ 20) :
    Calls Try.prog 10 #[.slice A m.length c] w fun e w' => e = .returned (.bool (mayc none (cps m))) ∧ Below w.heap.size w w' := by
  obtain ⟨l, h1, h2, h3⟩ := h
  have := rmayAll8_any A c l w h3 (by omega)
  rw [h1, h2] at this
  exact this
theorem Cs.eval {w : World} {A : Option Addr} {m : List Cl} (h : Cs w A m) (c : Nat) (hl : m.length ≤ 20) (hk : Oks (cps m)) (t : Rt) (ht : okt t = true) (hB : t.A < 4294967296) :
    Calls Try.prog 22 #[.slice A m.length c, tv t] w fun e w' => e = .returned (.tuple #[tv (evm (cps m) t).1, .bool (evm (cps m) t).2.1, .int .i64 (evm (cps m) t).2.2]) ∧ Below w.heap.size w w' := by
  obtain ⟨l, h1, h2, h3⟩ := h
  have := reval8_any A c l t w h3 (by omega) (by rw [h2]; exact hk) ht hB
  rw [h1, h2] at this
  exact this
theorem Cs.then {w : World} {A A1 : Option Addr} {m n : List Cl} (h : Cs w A m) (h' : Cs w A1 n) (c d : Nat) (hl : m.length ≤ 20) (hl' : n.length ≤ 20) (hk : Oks (cps m)) (hk' : Oks (cps n)) (t : Rt) (ht : okt t = true) (hB : t.A < 4294967296) :
    Calls Try.prog 24 #[.slice A m.length c, .slice A1 n.length d, tv t] w fun e w' => e = .returned (.tuple #[tv (thn (cps m) (cps n) t).1, .bool (thn (cps m) (cps n) t).2]) ∧ Below w.heap.size w w' := by
  obtain ⟨l, h1, h2, h3⟩ := h
  obtain ⟨l', h1', h2', h3'⟩ := h'
  have := rthen_any A A1 c d l l' t w h3 h3' (by omega) (by omega) (by rw [h2]; exact hk) (by rw [h2']; exact hk') ht hB
  rw [h1, h2, h1', h2'] at this
  exact this
theorem Cs.filter {w : World} {A A1 : Option Addr} {m : List Cl} (h : Cs w A m) (c d : Nat) (hl : m.length ≤ 20) (hk : Oks (cps m)) (l : List Rt) (hr : Tt w A1 l) (hll : l.length ≤ 10000) (ht : ∀ t ∈ l, okt t = true ∧ t.A < 4294967296) :
    Calls Try.prog 26 #[.slice A m.length c, .slice A1 l.length d] w fun e w' => ∃ A' c', e = .returned (.slice A' (flt (cps m) l).length c') ∧ Tt w' A' (flt (cps m) l) ∧ Below w.heap.size w w' := by
  obtain ⟨k, h1, h2, h3⟩ := h
  have := rfilter_any A A1 c d k l w h3 hr (by omega) hll (by rw [h2]; exact hk) ht
  rw [h1, h2] at this
  exact this
end Go.Proofs.Ytmcjpibahnlmbaa
