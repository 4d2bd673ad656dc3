/-
  Contracts of plain and Same, and what Mutual and Reverse do twice. No statement is proved here; no conditions.
-/
import Derived.Test.YtkpmdfgjaodlaaaMut
namespace Go.Proofs.Ytkpmdfgjaodlaaa
open Go.RowKit Go.Joins

theorem rev_rev (E : List Ed) : (E.map Ed.rev).map Ed.rev = E := by
  rw [List.map_map]
  exact (List.map_congr_left (fun x _ => rfl)).trans (List.map_id' E)
theorem mem_mutE {E : List Ed} {x : Ed} : x ∈ mutE E ↔ x ∈ E ∧ ∃ y ∈ E, y.f = x.t ∧ y.t = x.f := by rw [mutE, List.mem_filter, back_iff]
theorem mut_mut (E : List Ed) : mutE (mutE E) = mutE E := by
  refine List.filter_eq_self.2 fun x hx => ?_
  rw [back_iff]
  obtain ⟨h1, y, h2, h3, h4⟩ := mem_mutE.1 hx
  exact ⟨y, mem_mutE.2 ⟨h2, x, h1, h4.symm, h3.symm⟩, h3, h4⟩
theorem mut_rev (E : List Ed) : mutE ((mutE E).map Ed.rev) = (mutE E).map Ed.rev := by
  refine List.filter_eq_self.2 fun x hx => ?_
  rw [back_iff]
  obtain ⟨z, hz, rfl⟩ := List.mem_map.1 hx
  obtain ⟨h1, y, h2, h3, h4⟩ := mem_mutE.1 hz
  exact ⟨y.rev, List.mem_map.2 ⟨y, mem_mutE.2 ⟨h2, z, h1, h4.symm, h3.symm⟩, rfl⟩, h4, h3⟩
theorem mut_len (E : List Ed) : (mutE E).length ≤ E.length := List.length_filter_le _ _
theorem Ow.rd3 {w : World} {e : TypeId} {A : Option Addr} {g c n : Nat} {cs : List Value} (h : Ow e 3 w A g c n cs) : Rd (· < w.heap.size) w A cs := by
  rcases h with ⟨h1, ⟨rfl, rfl, rfl⟩ | ⟨rfl, r⟩⟩
  · have : cs = [] := List.eq_nil_of_length_eq_zero (by omega)
    subst this
    exact Rd.nil _
  · exact r.rd.more (fun j _ hl => hl)
theorem Rd.grow {w w' : World} {A : Option Addr} {cs : List Value} (h : Rd (· < w.heap.size) w A cs) (k : Below w.heap.size w w') : Rd (· < w'.heap.size) w' A cs := (h.keep k.size (fun j hj _ => k.block j hj)).more (fun j _ hl => hl)

set_option maxRecDepth 100000 in
theorem plain_any (N : Int) (A : Option Addr) (n c : Nat) (w : World) : Calls Try.prog 12 #[gv N A n c] w fun e w' => e = .returned (gv N A n c) ∧ Below w.heap.size w w' := by
  obtain ⟨W0, hW0⟩ : ∃ W0, w.alloc (.cells #[.int .i64 N, .slice A n c] 24) = W0 := ⟨_, rfl⟩
  have hs0 : W0.heap.size = w.heap.size + 1 := by rw [← hW0]; simp
  have b0 : Below w.heap.size w W0 := by rw [← hW0]; exact below_alloc1 _ _
  have h0 : W0.heap[w.heap.size]? = some (.cells #[.int .i64 N, .slice A n c] 24 (0, 0)) := by rw [← hW0]; exact Go.heap_alloc_new _ _
  obtain ⟨W1, hW1⟩ : ∃ W1, W0.alloc (.cells #[.int .i64 0, .slice none 0 0] 31) = W1 := ⟨_, rfl⟩
  have hs1 : W1.heap.size = w.heap.size + 2 := by rw [← hW1]; simp [hs0]
  have b1 : Below W0.heap.size W0 W1 := by rw [← hW1]; exact below_alloc1 _ _
  have h1 : W1.heap[w.heap.size + 1]? = some (.cells #[.int .i64 0, .slice none 0 0] 31 (0, 0)) := by rw [← hW1, ← hs0]; exact Go.heap_alloc_new _ _
  obtain ⟨c0, c1, _, _⟩ := blk2 ((b1.block _ (by omega)).trans h0)
  obtain ⟨q0, q1, q2, q3⟩ := blk2 h1
  have fin := blk2_set (.int .i64 N) (.slice A n c) h1
  obtain ⟨r0, r1, _, _⟩ := blk2 fin
  have kf : Kp (fun j => j = w.heap.size + 1) W1 ((W1.setCell ⟨w.heap.size + 1, 0, none⟩ (.int .i64 N)).setCell ⟨w.heap.size + 1, 1, none⟩ (.slice A n c)) := (Kp.setCell (S := fun j => j = w.heap.size + 1) W1 ⟨w.heap.size + 1, 0, none⟩ (.int .i64 N) rfl).then_set ⟨w.heap.size + 1, 1, none⟩ _ rfl
  have F := Lib.hid ((b0.trans (b1.mono (by omega))).trans (kf.below (B := w.heap.size) (fun j hj => by omega) (by omega)))
  clear b0 b1 h0 h1 fin kf
  go_enter Try.func12, Try.ntmps12
  go_wp2
  refine bodyPost_ret (v := gv N A n c) (by simp [results, Try.results12, go_sem, r0, r1]) rfl ⟨rfl, F.out⟩

set_option maxRecDepth 100000 in
set_option maxHeartbeats 1000000 in
theorem same_any (N : Int) (A1 A2 : Option Addr) (c1 c2 : Nat) (E : List Ed) (w : World) (h1 : Rd (· < w.heap.size) w A1 (eflat E)) (h2 : Rd (· < w.heap.size) w A2 (eflat E)) (hl : E.length ≤ 100000) :
    Calls Try.prog 19 #[gv N A1 E.length c1, gv N A2 E.length c2] w fun e w' => e = .returned (.bool true) ∧ Below w.heap.size w w' := by
  obtain ⟨W0, hW0⟩ : ∃ W0, w.alloc (.cells #[.int .i64 N, .slice A1 E.length c1] 31) = W0 := ⟨_, rfl⟩
  have hs0 : W0.heap.size = w.heap.size + 1 := by rw [← hW0]; simp
  have b0 : Below w.heap.size w W0 := by rw [← hW0]; exact below_alloc1 _ _
  have g0 : W0.heap[w.heap.size]? = some (.cells #[.int .i64 N, .slice A1 E.length c1] 31 (0, 0)) := by rw [← hW0]; exact Go.heap_alloc_new _ _
  obtain ⟨W1, hW1⟩ : ∃ W1, W0.alloc (.cells #[.int .i64 N, .slice A2 E.length c2] 31) = W1 := ⟨_, rfl⟩
  have hs1 : W1.heap.size = w.heap.size + 2 := by rw [← hW1]; simp [hs0]
  have b1 : Below W0.heap.size W0 W1 := by rw [← hW1]; exact below_alloc1 _ _
  have g1 : W1.heap[w.heap.size + 1]? = some (.cells #[.int .i64 N, .slice A2 E.length c2] 31 (0, 0)) := by rw [← hW1, ← hs0]; exact Go.heap_alloc_new _ _
  obtain ⟨x0, x1, _, _⟩ := blk2 ((b1.block _ (by omega)).trans g0)
  obtain ⟨y0, y1, _, _⟩ := blk2 g1
  have b01 : Below w.heap.size w W1 := b0.trans (b1.mono (by omega))
  have R1 := Lib.hid (h1.below b01 (fun j hj _ => hj))
  have R2 := Lib.hid (h2.below b01 (fun j hj _ => hj))
  have B1 := Lib.hid b01
  clear h1 h2 b0 b1 g0 g1 b01
  go_enter Try.func19, Try.ntmps19
  go_wp2_with fail
  go_loopg [5] E.length (fun gf v wx => ∃ k, v = .int .i64 ((k : Nat) : Int) ∧ Hid (gf + k = E.length) ∧ ∃ nd, wx = W1.drewN nd)
  case atStart => exact ⟨0, rfl, Lib.hid (by omega), 0, rfl⟩
  case round =>
    obtain ⟨k, rfl, hk, nd, rfl⟩ := hrel
    have hk' := hk.out
    cases gk with
    | zero =>
      have lt0 : decide ((k : Int) < (E.length : Int)) = false := by simp; omega
      go_wp2
      go_ret
      exact ⟨rfl, B1.out.os, B1.out.tape, B1.out.output, B1.out.size, B1.out.block⟩
    | succ gf =>
      have hkl : k < E.length := by omega
      have lt0 : (k : Int) < (E.length : Int) := by omega
      obtain ⟨b, off, hA, _, _, e0, e1, e2⟩ := R1.out.edge hkl
      obtain ⟨b', off', hA', _, _, f0, f1, f2⟩ := R2.out.edge hkl
      obtain ⟨x, hx⟩ : ∃ x, ge E k = x := ⟨_, rfl⟩
      rw [hx] at e0 e1 e2 f0 f1 f2
      subst hA hA'
      clear hx
      go_wp2_with fail
      go_quiet (fail)
      go_wp2
      go_roundg gf
      case measure => omega
      case rel => exact ⟨k + 1, by go_num, Lib.hid (by omega), _, rfl⟩
end Go.Proofs.Ytkpmdfgjaodlaaa
