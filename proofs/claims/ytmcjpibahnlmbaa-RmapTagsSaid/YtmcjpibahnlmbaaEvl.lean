/-
  Contracts of the closures that look for a rule, and of the program's Eval. No statement is proved here; no conditions.
-/
import Derived.Test.YtmcjpibahnlmbaaFst
namespace Go.Proofs.Ytmcjpibahnlmbaa
open Go.RowKit Go.Joins

theorem enters51 (args : Array Value) (w' : World) : (callFunc 55 args).run Try.prog w' = .ok (.enter 55 args) w' := by simp [callFunc, Try.func55, Try.f55, mark]
theorem cmn_any (x : Ru) (B : Nat) (M : Int) (b : Nat) (w : World) (hA : x.A < 4294967296) (hB : B < 4294967296) (h : w.cell? ⟨b, 0, none⟩ = some (.int .u32 (B : Int))) (h2 : w.cell? ⟨b, 1, none⟩ = some (.int .i64 M)) :
    Calls Try.prog 55 #[rv x, .pointer (some ⟨b, 0, none⟩)] w fun e w' => e = .returned (.bool (mns x B M)) ∧ Below w.heap.size w w' := by
  have hlt : b < w.heap.size := World.block_lt_of_cell? _ _ h
  have h' : (w.alloc (.cells #[.int .i64 x.s, .bool x.p, .int .u32 (x.A : Int), .int .i64 x.N, .int .i64 x.g, .int .i64 x.l] 75)).cell? ⟨b, 0, none⟩ = some (.int .u32 (B : Int)) := by
    rw [World.cell?_of_block (alloc_lt _ _ _ hlt)]; exact h
  have h2' : (w.alloc (.cells #[.int .i64 x.s, .bool x.p, .int .u32 (x.A : Int), .int .i64 x.N, .int .i64 x.g, .int .i64 x.l] 75)).cell? ⟨b, 1, none⟩ = some (.int .i64 M) := by
    exact (World.cell?_of_block (alloc_lt _ _ b hlt)).trans h2
  have hb := below_alloc1 w (.cells #[.int .i64 x.s, .bool x.p, .int .u32 (x.A : Int), .int .i64 x.N, .int .i64 x.g, .int .i64 x.l] 75)
  go_enter Try.func55, Try.ntmps55
  go_wp2_with fail
  refine (means_any x B M _ hA hB).mono ?_
  rintro e W1 ⟨rfl, hb1⟩
  go_wp2
  go_ret
  exact ⟨rfl, hb.trans (hb1.mono hb.size)⟩
/-- What passes, by the place of the first. -/
theorem evl_fsi (l : List Ru) (B : Nat) (M : Int) : evl l B M = if fsi (fun x => mns x B M) l < l.length then ((gr l (fsi (fun x => mns x B M) l)).p, (gr l (fsi (fun x => mns x B M) l)).s) else (false, 0) := by
  unfold evl
  rw [find_fsi]
  split
  · rename_i x hx
    obtain ⟨h1, h2⟩ := List.getElem?_eq_some_iff.1 hx
    rw [if_pos h1, gr_eq h1, h2]
  · rename_i hx
    rw [if_neg]
    have := List.getElem?_eq_none_iff.1 hx
    omega
set_option maxRecDepth 100000 in
theorem eval_any (A0 : Option Addr) (c : Nat) (l : List Ru) (B : Nat) (M : Int) (w : World) (hl : Rr w A0 l) (hll : l.length ≤ 10000) (hA : ∀ x ∈ l, x.A < 4294967296) (hB : B < 4294967296) :
    Calls Try.prog 47 #[.slice A0 l.length c, pf B M] w fun e w' => e = .returned (.tuple #[.bool (evl l B M).1, .int .i64 (evl l B M).2]) ∧ Below w.heap.size w w' := by
  obtain ⟨W0, hW0⟩ : ∃ W0, w.alloc (.cells #[.int .u32 (B : Int), .int .i64 M] 25) = W0 := ⟨_, rfl⟩
  have b0 : Below w.heap.size w W0 := by rw [← hW0]; exact below_alloc1 _ _
  have cf := first_any A0 c l 55 (.pointer (some ⟨w.heap.size, 0, none⟩)) (fun x => mns x B M) W0 (hl.step b0) hll enters51 (fun V x hx hV => by
    obtain ⟨h1, h2⟩ := pb_new hW0 hV
    exact cmn_any x B M w.heap.size V (hA x hx) hB h1 h2)
  have he := evl_fsi l B M
  have hle := fsi_le (fun x => mns x B M) l
  obtain ⟨R, hR⟩ : ∃ R, fsi (fun x => mns x B M) l = R := ⟨_, rfl⟩
  obtain ⟨ln, hln⟩ : ∃ ln, l.length = ln := ⟨_, rfl⟩
  obtain ⟨E, hE⟩ : ∃ E, evl l B M = E := ⟨_, rfl⟩
  rw [hR, hln, hE] at he
  rw [hR] at cf hle
  rw [hln] at cf hle hll
  rw [hE]
  rw [hln]
  have HE := Lib.hid he
  have HL := Lib.hid hl
  have HLN := Lib.hid hln
  have HB0 := Lib.hid b0
  clear he hR hE hl hln b0 hA
  go_enter Try.func47, Try.ntmps47
  go_wp2_with fail
  refine cf.mono ?_
  rintro e W1 ⟨rfl, hb1⟩
  clear cf
  have HB1 := Lib.hid (HB0.out.trans (hb1.mono HB0.out.size))
  clear hb1 hW0
  by_cases hq : R = ln
  · have n1 : ((R : Int) == (ln : Int)) = true := by simp; omega
    have n2 : (R == ln) = true := by simpa using hq
    have n3 : decide (R = ln) = true := by simpa using hq
    have e1 : Hid (E = (false, 0)) := Lib.hid (by rw [HE.out, if_neg (by omega)])
    clear HE
    go_wp2
    go_ret2
    rw [e1.out]
    exact ⟨rfl, HB1.out⟩
  · have n1 : ((R : Int) == (ln : Int)) = false := by simp; omega
    have n2 : (R == ln) = false := by simpa using hq
    have n3 : decide (R = ln) = false := by simpa using hq
    have hlt : R < ln := by omega
    have hlt2 : (R : Int) < (ln : Int) := by omega
    obtain ⟨b, off, hA, _, e0, e1, _⟩ := (HL.out.step HB1.out).at (i := R) (by rw [HLN.out]; exact hlt)
    have e9 : Hid (E = ((gr l R).p, (gr l R).s)) := Lib.hid (by rw [HE.out, if_pos hlt])
    subst hA
    clear HE hq
    go_wp2_with fail
    go_quiet (fail)
    go_wp2
    go_ret2
    rw [e9.out]
    exact ⟨rfl, HB1.out.trans (below_draws _ _ _)⟩
end Go.Proofs.Ytmcjpibahnlmbaa
