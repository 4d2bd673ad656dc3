/-
  The law AddrParse walked: it returns true, for every text.
-/
import Derived.Test.YtmiaphgjcajbhaaDoorRefE
namespace Go.Proofs.YtmiaphgjcajbhaaDoor
open Go.RowKit Go.Joins

theorem fin_le (a : Nat) (l : List UInt8) : (fin a l).2.1 ≤ 32 := by
  unfold fin
  split
  · rename_i h
    split
    · exact ((numOk_iff _ _).1 h).2.2.2
    · exact Nat.zero_le _
  · exact Nat.zero_le _
theorem prs_le (j : Nat) : ∀ (a : Nat) (l : List UInt8), (prs j a l).2.1 ≤ 32 := by
  induction j with
  | zero => intro a l; exact fin_le a l
  | succ j ih =>
    intro a l
    simp only [prs]
    split
    · exact Nat.zero_le _
    · exact ih _ _
theorem parse_long (l : List UInt8) (w : World) (hl : 60 < l.length) (ht : Tab w) : Calls Tryd.prog 5 #[.string (st l)] w fun e w' => e = .returned (.bool true) ∧ Below w.heap.size w w' := by
  have hS : (st l).size = l.length := st_size l
  have hl' : 60 < (l.length : Int) := by omega
  go_enter Tryd.func5, Tryd.ntmps5
  go_wp2_with fail
  refine (alive_any _ ht).mono ?_
  rintro e W1 ⟨rfl, hb1⟩
  go_wp2
  go_ret
  exact ⟨rfl, hb1⟩
theorem parse_short (l : List UInt8) (w : World) (hl : l.length ≤ 60) (ht : Tab w) : Calls Tryd.prog 5 #[.string (st l)] w fun e w' => e = .returned (.bool true) ∧ Below w.heap.size w w' := by
  have hS : (st l).size = l.length := st_size l
  have hl' : decide (60 < (l.length : Int)) = false := decide_eq_false (by omega)
  have cP := fun W => parse_any l W (by omega)
  have cR := fun W => rparse_any l W (by omega)
  have hq := txt_prs l
  have hle := prs_le 4 0 l
  generalize prs 4 0 l = X at *
  obtain ⟨A, N, E⟩ := X
  simp only at hq hle
  change ∀ W, Calls Tryd.prog 30 #[.string (st l)] W fun e w' => e = .returned (.tuple #[pf A (N : Int), .int .i64 E]) ∧ Below W.heap.size W w' at cP
  change ∀ W, Calls Tryd.prog 31 #[.string (st l)] W fun e w' => e = .returned (.tuple #[pf A (N : Int), .int .i64 E]) ∧ Below W.heap.size W w' at cR
  by_cases hE : E = 0
  · obtain ⟨h1, h2⟩ := hq hE
    have cT := fun W hW => text_any A (N : Int) W h2 (by omega) (by omega) hW
    rw [h1] at cT
    subst hE
    clear hq h1 hle
    have hbb : (st l == st l) = true := by
      show (l.toArray == l.toArray) = true
      simp
    generalize st l = S at *
    go_enter Tryd.func5, Tryd.ntmps5
    go_wp2_with fail
    refine (cP _).mono ?_
    rintro e W1 ⟨rfl, hb1⟩
    have hbW := hb1
    clear hb1
    have j1 := alloc_at W1 (pc A N) _ rfl
    have hbW := hbW.trans ((below_alloc1 W1 (pc A N)).mono hbW.size)
    have hs1 := (pc_at j1).2.2.2.2
    go_wp2_with fail
    change Calls _ _ _ (W1.alloc (pc A N)) _
    generalize W1.alloc (pc A N) = W2 at *
    refine (cR _).mono ?_
    rintro e W3 ⟨rfl, hb3⟩
    have j1 := (hb3.block _ hs1).trans j1
    have hbW := hbW.trans (hb3.mono hbW.size)
    have hs1 := (pc_at j1).2.2.2.2
    clear hb3
    have j1 := (alloc_lt W3 (pc A N) _ hs1).trans j1
    have j2 := alloc_at W3 (pc A N) _ rfl
    have hbW := hbW.trans ((below_alloc1 W3 (pc A N)).mono hbW.size)
    have hs1 := (pc_at j1).2.2.2.2
    have hs2 := (pc_at j2).2.2.2.2
    go_wp2_with fail
    change Calls _ _ _ (W3.alloc (pc A N)) _
    generalize W3.alloc (pc A N) = W4 at *
    refine (alive_any _ (ht.grown hbW)).mono ?_
    rintro e W5 ⟨rfl, hb5⟩
    have j1 := (hb5.block _ hs1).trans j1
    have j2 := (hb5.block _ hs2).trans j2
    have hbW := hbW.trans (hb5.mono hbW.size)
    clear hb5
    obtain ⟨k0, k1, _, _, _⟩ := pc_at j1
    obtain ⟨k2, k3, _, _, _⟩ := pc_at j2
    go_wp2_with fail
    refine (cT _ (ht.grown hbW)).mono ?_
    rintro e W6 ⟨rfl, hb6⟩
    have hbW := hbW.trans (hb6.mono hbW.size)
    go_wp2
    go_ret
    exact ⟨rfl, hbW⟩
  · have hE1 : (E != 0) = true := by simpa using hE
    clear hq hle
    generalize st l = S at *
    go_enter Tryd.func5, Tryd.ntmps5
    go_wp2_with fail
    refine (cP _).mono ?_
    rintro e W1 ⟨rfl, hb1⟩
    have hbW := hb1
    clear hb1
    have j1 := alloc_at W1 (pc A N) _ rfl
    have hbW := hbW.trans ((below_alloc1 W1 (pc A N)).mono hbW.size)
    have hs1 := (pc_at j1).2.2.2.2
    go_wp2_with fail
    change Calls _ _ _ (W1.alloc (pc A N)) _
    generalize W1.alloc (pc A N) = W2 at *
    refine (cR _).mono ?_
    rintro e W3 ⟨rfl, hb3⟩
    have j1 := (hb3.block _ hs1).trans j1
    have hbW := hbW.trans (hb3.mono hbW.size)
    have hs1 := (pc_at j1).2.2.2.2
    clear hb3
    have j1 := (alloc_lt W3 (pc A N) _ hs1).trans j1
    have j2 := alloc_at W3 (pc A N) _ rfl
    have hbW := hbW.trans ((below_alloc1 W3 (pc A N)).mono hbW.size)
    have hs1 := (pc_at j1).2.2.2.2
    have hs2 := (pc_at j2).2.2.2.2
    go_wp2_with fail
    change Calls _ _ _ (W3.alloc (pc A N)) _
    generalize W3.alloc (pc A N) = W4 at *
    refine (alive_any _ (ht.grown hbW)).mono ?_
    rintro e W5 ⟨rfl, hb5⟩
    have j1 := (hb5.block _ hs1).trans j1
    have j2 := (hb5.block _ hs2).trans j2
    have hbW := hbW.trans (hb5.mono hbW.size)
    clear hb5
    obtain ⟨k0, k1, _, _, _⟩ := pc_at j1
    obtain ⟨k2, k3, _, _, _⟩ := pc_at j2
    go_wp2
    go_ret
    exact ⟨rfl, hbW⟩
theorem parse_walk (s : ByteArray) (w : World) (ht : Tab w) : Calls Tryd.prog 5 #[.string s] w fun e w' => e = .returned (.bool true) ∧ Below w.heap.size w w' := by
  rw [st_of s]
  by_cases h : 60 < s.data.toList.length
  · exact parse_long _ w h ht
  · exact parse_short _ w (by omega) ht
end Go.Proofs.YtmiaphgjcajbhaaDoor
