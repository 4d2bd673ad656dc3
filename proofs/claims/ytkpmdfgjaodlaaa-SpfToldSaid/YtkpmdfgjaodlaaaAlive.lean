/-
  The contract of alive. No statement is proved here; no conditions.
-/
import Derived.Test.YtkpmdfgjaodlaaaHops
namespace Go.Proofs.Ytkpmdfgjaodlaaa
open Go.RowKit Go.Joins

def GA : List NE := [⟨0, 1, 1⟩, ⟨0, 1, 1⟩]
theorem ga_v : GV 2 GA := by
  refine ⟨by omega, by omega, by decide, ?_, ?_, ?_⟩ <;> intro i hi <;> (have : i = 0 ∨ i = 1 := by simp [GA] at hi; omega) <;> rcases this with rfl | rfl <;> decide
theorem ga_d {d : List Nat} (h : IsD 2 GA 0 d) : d = [0, 1] := by
  have h0 := h.root
  have h1 : gw d 1 ≤ 1 := h.lo 1 1 1 (Wk.one (G := GA) (i := 0) (by decide))
  have h2 : 1 ≤ gw d 1 := by
    rcases h.at_ 1 (by omega) with e | ⟨_, n, hn⟩
    · rw [e]; decide
    · cases hl : gw d 1 with
      | succ k => omega
      | zero =>
        rw [hl] at hn
        generalize hv : 1 = v at hn
        generalize hz : 0 = z at hn
        cases hn with
        | nil => omega
        | snoc i h hi hf =>
          have : i = 0 ∨ i = 1 := by simp [GA] at hi; omega
          rcases this with rfl | rfl <;> (simp [GA, gn] at hz)
  refine list_gw h.len rfl fun v hv => ?_
  have : v = 0 ∨ v = 1 := by omega
  rcases this with rfl | rfl
  · rw [h0]; rfl
  · rw [show gw [0, 1] 1 = 1 from rfl]; omega
theorem ga_o : outs GA GA.length 0 = [0, 1] := by decide
theorem ga_u : useL GA [0, 1] 0 = [true, true] := by simp [useL, GA, onw, tgt, gz, NE.ed, wrap64]
theorem ga_h : hopF [true, true] GA 0 2 1 = [0, 1] := by
  have e : ∀ i, i < 2 → Rc [true, true] GA i 1 := fun i hi => by
    have : i = 0 ∨ i = 1 := by omega
    rcases this with rfl | rfl
    · exact Rc.start (G := GA) rfl
    · exact Rc.start (G := GA) (first := 1) rfl
  unfold hopF
  rw [ga_o]
  simp [e 0 (by omega), e 1 (by omega)]

set_option maxRecDepth 100000 in
set_option maxHeartbeats 1000000 in
theorem alive_any (w : World) : Calls Try.prog 9 #[] w fun e w' => e = .returned (.bool true) ∧ Below w.heap.size w w' := by
  obtain ⟨W0, hW0⟩ : ∃ W0, w.alloc (.cells #[.int .i64 0, .int .i64 1, .int .i64 1, .int .i64 0, .int .i64 1, .int .i64 1] 50) = W0 := ⟨_, rfl⟩
  have hs0 : W0.heap.size = w.heap.size + 1 := by rw [← hW0]; simp
  have b0 : Below w.heap.size w W0 := by rw [← hW0]; exact below_alloc1 _ _
  have r0 : Rg 50 3 W0 w.heap.size 2 (nflat GA) := by rw [← hW0]; exact Rg.lit w 50 3 2 _ _ rfl rfl (by unfold maxLen; omega)
  obtain ⟨W1, hW1⟩ : ∃ W1, W0.alloc (.cells #[.int .i64 2, .slice (some ⟨w.heap.size, 0, none⟩) 2 2] 24) = W1 := ⟨_, rfl⟩
  have hs1 : W1.heap.size = w.heap.size + 2 := by rw [← hW1]; simp [hs0]
  have b1 : Below W0.heap.size W0 W1 := by rw [← hW1]; exact below_alloc1 _ _
  have h1 : W1.heap[w.heap.size + 1]? = some (.cells #[.int .i64 2, .slice (some ⟨w.heap.size, 0, none⟩) 2 2] 24 (0, 0)) := by rw [← hW1, ← hs0]; exact Go.heap_alloc_new _ _
  obtain ⟨c0, c1, _, _⟩ := blk2 h1
  have hE1 : Rd (· < W1.heap.size) W1 (some ⟨w.heap.size, 0, none⟩) (nflat GA) := (r0.below' b1).rd.more (fun j _ hl => hl)
  have di := dist_any 2 0 (some ⟨w.heap.size, 0, none⟩) 2 GA _ W1 hE1 (Nat.le_refl _) ga_v (by omega)
  have HE := Lib.hid hE1
  have HH := Lib.hid h1
  have HB := Lib.hid (b0.trans (b1.mono (by omega)))
  clear r0 b0 b1 h1 hE1
  go_enter Try.func9, Try.ntmps9
  go_wp2_with fail
  refine di.mono ?_
  rintro e W2 ⟨d, gd, rfl, isd, rd, hgd, b2⟩
  obtain rfl := ga_d isd
  have hs2 := b2.size
  have h2 := (b2.block _ (by omega)).trans HH.out
  obtain ⟨k0, k1, _, _⟩ := blk2 h2
  have ho := hops_any 2 0 (some ⟨w.heap.size, 0, none⟩) 2 GA W1.heap.size W2 (HE.out.below b2 (fun j hj _ => hj)) hs2 ga_v (by omega)
  have RD := Lib.hid rd
  have B2 := Lib.hid b2
  clear di isd rd b2 h2 c0 c1 HH HE
  go_wp2_with fail
  refine ho.mono ?_
  rintro e W3 ⟨d', H, gr, rfl, isd, hl, hh, rr, hgr, b3⟩
  obtain rfl := ga_d isd
  have hs3 := b3.size
  have hh1 := hh 1 (by omega)
  rw [ga_u, ga_o, show ([0, 1] : List Nat).length = 2 from rfl, ga_h] at hh1
  obtain ⟨A5, c5, q1, q2⟩ := rr.at_ (u := 1) (by omega)
  rw [hh1] at q1 q2
  obtain ⟨b, off, rfl, e1⟩ := q2.nat_at (k := 1) (by simp)
  have d1 := (RD.out.below' b3).nat_cell (u := 1) (by simp)
  rw [show gw [0, 1] 1 = 1 from rfl] at e1 d1
  have B3 := Lib.hid (HB.out.trans ((B2.out.mono (by omega)).trans (b3.mono (by omega))))
  clear ho isd hl hh rr b3 q2 RD hh1 k0 k1
  go_wp2
  go_ret
  exact ⟨rfl, B3.out⟩
end Go.Proofs.Ytkpmdfgjaodlaaa
