/-
  The walk of the law TrieGets. No statement is proved here; no conditions.
-/
import Derived.Test.YtlmcgjdenfnkmaaLaid
namespace Go.Proofs.Ytlmcgjdenfnkmaa
open Go.RowKit Go.Joins

set_option maxRecDepth 100000 in
set_option maxHeartbeats 1000000 in
theorem gets_walk (A0 : Option Addr) (c : Nat) (s : List Ac) (A : Nat) (N : Int) (w : World) (hs : Sc (· < w.heap.size) w A0 s) (hA : A < 4294967296) :
    Calls Try.prog 4 #[.slice A0 s.length c, pf A N] w fun e w' => e = .returned (.bool true) ∧ Below w.heap.size w w' := by
  have K := box_at (w := w) (u := .int .u32 (A : Int)) (v := .int .i64 N) (t := 25) (B := w.heap.size + 1) (by omega)
  have B0 := below_alloc1 w (.cells #[.int .u32 (A : Int), .int .i64 N] 25)
  obtain ⟨W0, hW0⟩ : ∃ W0, w.alloc (.cells #[.int .u32 (A : Int), .int .i64 N] 25) = W0 := ⟨_, rfl⟩
  have hs0 : W0.heap.size = w.heap.size + 1 := by rw [← hW0]; simp
  rw [hW0] at K B0
  have hs1 : Sc (· < W0.heap.size) W0 A0 s := by
    intro hne
    obtain ⟨b, off, h1, h2, h3, h4⟩ := hs.below B0 (fun _ h => h) hne
    exact ⟨b, off, h1, h3, h3, h4⟩
  have cl := laid_any A0 c s W0 hs1
  clear hs hs1
  go_enter Try.func4, Try.ntmps4
  go_wp2_with fail
  refine cl.mono ?_
  rintro e W1 ⟨tb, A1, c1, S, M, rfl, hMe, hMl, hL⟩
  clear hMe
  obtain ⟨nd, en, tn, _⟩ := hL.tz
  have cg := get_any tb nd en M _ A N W1 tn hA
  clear cl
  obtain ⟨p0, p1, _, _⟩ := K W1 (hL.bel.mono (by omega))
  obtain ⟨o, ho⟩ : ∃ o, getm M A N = o := ⟨_, rfl⟩
  rw [ho] at cg
  have HL := Lib.hid hL
  have HO := Lib.hid ho
  clear hL tn ho
  cases o with
  | none =>
    simp only [gtv] at cg
    go_wp2_with fail
    refine cg.mono ?_
    rintro e W2 ⟨rfl, hb2⟩
    have HL2 := Lib.hid (HL.out.below hb2)
    have cr := rget_any _ A1 c1 M A N W2 HL2.out.row (by omega)
    rw [HO.out] at cr
    simp only [gtv] at cr
    clear p0 p1 cg hb2 HL
    obtain ⟨p0, p1, _, _⟩ := K W2 (HL2.out.bel.mono (by omega))
    go_wp2_with fail
    refine cr.mono ?_
    rintro e W3 ⟨rfl, hb3⟩
    have HL3 := Lib.hid (HL2.out.below hb3)
    clear cr hb3 HL2 p0 p1
    go_wp2_with fail
    refine (alive_any _).mono ?_
    rintro e W4 ⟨rfl, hb4⟩
    have HL4 := Lib.hid (HL3.out.below hb4)
    have cw := walk_any S tb M W4 HL4.out.tz (by omega)
    clear hb4 HL3
    go_wp2_with fail
    refine cw.mono ?_
    rintro e W5 ⟨A5, c5, rfl, ho5, hb5⟩
    have HL5 := Lib.hid (HL4.out.below hb5)
    have cs := same_any _ _ A5 A1 c5 c1 M M W5 ho5.rd HL5.out.row (by omega)
    rw [decide_eq_true rfl] at cs
    clear cw ho5 hb5 HL4
    go_wp2_with fail
    refine cs.mono ?_
    rintro e W6 ⟨rfl, hb6⟩
    have bb : Below w.heap.size w W6 := B0.trans ((HL5.out.below hb6).bel.mono B0.size)
    clear cs hb6 HL5
    go_wp2
    go_ret
    exact ⟨rfl, bb⟩
  | some x =>
    simp only [gtv] at cg
    go_wp2_with fail
    refine cg.mono ?_
    rintro e W2 ⟨rfl, hb2⟩
    have HL2 := Lib.hid (HL.out.below hb2)
    have cr := rget_any _ A1 c1 M A N W2 HL2.out.row (by omega)
    rw [HO.out] at cr
    simp only [gtv] at cr
    clear p0 p1 cg hb2 HL
    obtain ⟨p0, p1, _, _⟩ := K W2 (HL2.out.bel.mono (by omega))
    go_wp2_with fail
    refine cr.mono ?_
    rintro e W3 ⟨rfl, hb3⟩
    have HL3 := Lib.hid (HL2.out.below hb3)
    clear cr hb3 HL2 p0 p1
    go_wp2_with fail
    refine (alive_any _).mono ?_
    rintro e W4 ⟨rfl, hb4⟩
    have HL4 := Lib.hid (HL3.out.below hb4)
    have cw := walk_any S tb M W4 HL4.out.tz (by omega)
    clear hb4 HL3
    go_wp2_with fail
    refine cw.mono ?_
    rintro e W5 ⟨A5, c5, rfl, ho5, hb5⟩
    have HL5 := Lib.hid (HL4.out.below hb5)
    have cs := same_any _ _ A5 A1 c5 c1 M M W5 ho5.rd HL5.out.row (by omega)
    rw [decide_eq_true rfl] at cs
    clear cw ho5 hb5 HL4
    go_wp2_with fail
    refine cs.mono ?_
    rintro e W6 ⟨rfl, hb6⟩
    have bb : Below w.heap.size w W6 := B0.trans ((HL5.out.below hb6).bel.mono B0.size)
    clear cs hb6 HL5
    go_wp2
    go_ret
    exact ⟨rfl, bb⟩
end Go.Proofs.Ytlmcgjdenfnkmaa
