/-
  The contract of the reference's Find. No statement is proved here; no conditions.
-/
import Derived.Test.YtlmcgjdenfnkmaaRef3
namespace Go.Proofs.Ytlmcgjdenfnkmaa
open Go.RowKit Go.Joins

/-- No entry. -/
abbrev zen : En := ⟨0, 0, 0⟩
theorem mem_take_succ {l : List En} {k : Nat} (hk : k < l.length) {y : En} : y ∈ l.take (k + 1) ↔ y ∈ l.take k ∨ y = ge l k := by
  rw [List.take_succ_eq_append_getElem hk, List.mem_append, ge_eq hk]
  simp
theorem fnd_no {l : List En} {k a : Nat} {o : Option En} (hk : k < l.length) (h : FndR (l.take k) a o) (hx : hasp (ge l k).A (ge l k).N a = false) : FndR (l.take (k + 1)) a o := by
  cases o with
  | none =>
    intro y hy
    rcases (mem_take_succ hk).1 hy with q | q
    · exact h y q
    · rw [q]; exact hx
  | some z =>
    refine ⟨(mem_take_succ hk).2 (.inl h.1), h.2.1, fun y hy hh => ?_⟩
    rcases (mem_take_succ hk).1 hy with q | q
    · exact h.2.2 y q hh
    · rw [q, hx] at hh; cases hh
theorem fnd_first {l : List En} {k a : Nat} (hk : k < l.length) (h : FndR (l.take k) a none) (hx : hasp (ge l k).A (ge l k).N a = true) : FndR (l.take (k + 1)) a (some (ge l k)) := by
  refine ⟨(mem_take_succ hk).2 (.inr rfl), hx, fun y hy hh => ?_⟩
  rcases (mem_take_succ hk).1 hy with q | q
  · rw [h y q] at hh; cases hh
  · rw [q]; exact Int.le_refl _
theorem fnd_more {l : List En} {k a : Nat} {z : En} (hk : k < l.length) (h : FndR (l.take k) a (some z)) (hx : hasp (ge l k).A (ge l k).N a = true) (hn : z.N < (ge l k).N) : FndR (l.take (k + 1)) a (some (ge l k)) := by
  refine ⟨(mem_take_succ hk).2 (.inr rfl), hx, fun y hy hh => ?_⟩
  rcases (mem_take_succ hk).1 hy with q | q
  · have := h.2.2 y q hh; omega
  · rw [q]; exact Int.le_refl _
theorem fnd_less {l : List En} {k a : Nat} {z : En} (hk : k < l.length) (h : FndR (l.take k) a (some z)) (hn : (ge l k).N ≤ z.N) : FndR (l.take (k + 1)) a (some z) := by
  refine ⟨(mem_take_succ hk).2 (.inl h.1), h.2.1, fun y hy hh => ?_⟩
  rcases (mem_take_succ hk).1 hy with q | q
  · exact h.2.2 y q hh
  · rw [q]; exact hn
/-- What holds in the loop of Find. -/
structure Fl (w : World) (o : Option En) (wx : World) : Prop where
  best : wx.heap[w.heap.size + 1]? = some (ebo (o.getD zen))
  res : wx.heap[w.heap.size]? = some (ebo zen)
  bel : Below w.heap.size w wx
theorem Fl.below {w wx wy : World} {o : Option En} (h : Fl w o wx) (hb : Below wx.heap.size wx wy) : Fl w o wy := ⟨(hb.block _ (lt_of_block h.best)).trans h.best, (hb.block _ (lt_of_block h.res)).trans h.res, h.bel.trans (hb.mono h.bel.size)⟩
theorem Fl.put {w wx : World} {o : Option En} (h : Fl w o wx) (x : En) : Fl w (some x) (((wx.setCell ⟨w.heap.size + 1, 0, none⟩ (.int .u32 (x.A : Int))).setCell ⟨w.heap.size + 1, 1, none⟩ (.int .i64 x.N)).setCell ⟨w.heap.size + 1, 2, none⟩ (.int .i64 x.V)) := by
  have k : Kp (· = w.heap.size + 1) wx (((wx.setCell ⟨w.heap.size + 1, 0, none⟩ (.int .u32 (x.A : Int))).setCell ⟨w.heap.size + 1, 1, none⟩ (.int .i64 x.N)).setCell ⟨w.heap.size + 1, 2, none⟩ (.int .i64 x.V)) := ((Kp.setCell (S := (· = w.heap.size + 1)) wx ⟨w.heap.size + 1, 0, none⟩ _ rfl).then_set ⟨w.heap.size + 1, 1, none⟩ _ rfl).then_set ⟨w.heap.size + 1, 2, none⟩ _ rfl
  exact ⟨blk3_set _ _ _ h.best, (k.block _ (lt_of_block h.res) (by omega)).trans h.res, h.bel.trans (k.below (fun j hj => by omega) h.bel.size)⟩
/-- What the reference's Find leaves. -/
def RFound (w : World) (l : List En) (a : Nat) (e : Ending) (w' : World) : Prop := ∃ o, FndR l a o ∧ e = .returned (fdv o) ∧ Below w.heap.size w w'
set_option maxRecDepth 100000 in
set_option maxHeartbeats 2000000 in
theorem rfind_any (S : Nat → Prop) (A0 : Option Addr) (c : Nat) (l : List En) (a : Nat) (w : World) (hl : Rd S w A0 (eflat l)) (hll : l.length ≤ 10000) (ha : a < 4294967296) (hx : ∀ x ∈ l, x.A < 4294967296) :
    Calls Try.prog 15 #[.slice A0 l.length c, .int .u32 (a : Int)] w fun e w' => RFound w l a e w' := by
  obtain ⟨W0, hW0⟩ : ∃ W0, w.alloc (.cells #[.int .u32 0, .int .i64 0, .int .i64 0] 39) = W0 := ⟨_, rfl⟩
  have s0 : W0.heap.size = w.heap.size + 1 := by rw [← hW0]; simp
  have b0 : Below w.heap.size w W0 := by rw [← hW0]; exact below_alloc1 _ _
  have z0 : W0.heap[w.heap.size]? = some (.cells #[.int .u32 0, .int .i64 0, .int .i64 0] 39 (0, 0)) := by rw [← hW0]; exact Go.heap_alloc_new _ _
  obtain ⟨W1, hW1⟩ : ∃ W1, W0.alloc (.cells #[.int .u32 0, .int .i64 0, .int .i64 0] 39) = W1 := ⟨_, rfl⟩
  have b1 : Below W0.heap.size W0 W1 := by rw [← hW1]; exact below_alloc1 _ _
  have z1 : W1.heap[w.heap.size + 1]? = some (.cells #[.int .u32 0, .int .i64 0, .int .i64 0] 39 (0, 0)) := by rw [← hW1, ← s0]; exact Go.heap_alloc_new _ _
  have F1 : Fl w none W1 := ⟨z1, (b1.block _ (by omega)).trans z0, b0.trans (b1.mono (by omega))⟩
  obtain ⟨y0, y1, y2, f0, f1, f2⟩ := blk3 z1
  have F2 : Fl w none (((W1.setCell ⟨w.heap.size + 1, 0, none⟩ (.int .u32 0)).setCell ⟨w.heap.size + 1, 1, none⟩ (.int .i64 0)).setCell ⟨w.heap.size + 1, 2, none⟩ (.int .i64 0)) := by
    have := F1.put zen
    exact ⟨this.best, this.res, this.bel⟩
  have HF2 := Lib.hid F2
  have HL := Lib.hid hl
  have HX := Lib.hid hx
  obtain ⟨ln, hln⟩ : ∃ ln, l.length = ln := ⟨_, rfl⟩
  rw [hln] at hll ⊢
  have HLN := Lib.hid hln
  clear hln hl hx b0 z0 b1 z1 F1 F2
  go_enter Try.func15, Try.ntmps15
  go_wp2_with fail
  clear hW0 hW1
  go_loopg [7, 8] ln (fun gf v7 v8 wx => ∃ (k : Nat) (o : Option En), v7 = .bool o.isSome ∧ v8 = .int .i64 (k : Int) ∧ Hid (gf + k = ln) ∧ Hid (FndR (l.take k) a o) ∧ Hid (Fl w o wx))
  case atStart => exact ⟨0, none, rfl, rfl, Lib.hid (by omega), Lib.hid (by intro y hy; simp at hy), HF2⟩
  case round =>
    obtain ⟨k, o, rfl, rfl, hk, hL, hf⟩ := hrel
    have hk' := hk.out
    clear HF2 y0 y1 y2 f0 f1 f2
    cases gk with
    | zero =>
      have e1 : k = ln := by omega
      have lt0 : decide ((k : Int) < (ln : Int)) = false := by simp; omega
      have lt1 : decide (k < ln) = false := by simp; omega
      have HE : Hid (FndR l a o) := Lib.hid (by have := hL.out; rwa [e1, ← HLN.out, List.take_length] at this)
      obtain ⟨q0, q1, q2⟩ := ebo_cell hf.out.best
      obtain ⟨r0, r1, r2, g0, g1, g2⟩ := blk3 hf.out.res
      obtain ⟨x, hx⟩ : ∃ x, o.getD zen = x := ⟨_, rfl⟩
      rw [hx] at q0 q1 q2
      have fin := blk3_set (.int .u32 (x.A : Int)) (.int .i64 x.N) (.int .i64 x.V) hf.out.res
      obtain ⟨t0, t1, t2, _⟩ := blk3 fin
      have HXX := Lib.hid hx
      have bb := hf.out.bel
      clear e1 hL fin hx hf
      go_wp2
      refine bodyPost_ret (v := .tuple #[ev x, .bool o.isSome]) (by simp [results, Try.results15, go_sem, t0, t1, t2]) rfl ⟨o, HE.out, ?_, ?_⟩
      · cases o with
        | none =>
          have := HXX.out
          subst this
          rfl
        | some z =>
          have := HXX.out
          subst this
          rfl
      · exact Below.setCell (Below.setCell (Below.setCell bb (by simp) _) (by simp) _) (by simp) _
    | succ gf =>
      have hkl : k < l.length := by rw [HLN.out]; omega
      have lt0 : (k : Int) < (ln : Int) := by omega
      have hb := hf.out.bel
      obtain ⟨b, off, hA0, _, _, e0, e1, e2⟩ := (HL.out.keep hb.size (fun j _ hj => hb.block j hj)).entry hkl
      have hxA := HX.out _ (ge_mem hkl)
      have s1 := fun hh => fnd_no (o := o) (a := a) hkl hL.out hh
      have s2 := fun h hh => fnd_first (a := a) hkl h hh
      have s3 := fun z h hh hn => fnd_more (a := a) (z := z) hkl h hh hn
      have s4 := fun z h hn => fnd_less (a := a) (z := z) hkl h hn
      obtain ⟨x, hx⟩ : ∃ x, ge l k = x := ⟨_, rfl⟩
      rw [hx] at e0 e1 e2 hxA s1 s2 s3 s4
      subst hA0
      have hw1 : (k : Int) + 1 ≤ 10000 := by omega
      have cc := fun W => rhas_any x.A x.N a W hxA ha
      have bs := ebo_cell hf.out.best
      clear hkl hx
      cases hc : hasp x.A x.N a with
      | false =>
        rw [hc] at cc
        have HN := Lib.hid (s1 hc)
        clear s1 s2 s3 s4 hc bs hL
        have g0 := cell_regrown e0
        have g1 := cell_regrown e1
        have x1 : ∀ d os, _ := fun d os => Calls.regrown_of (w := wr) (d := d) (os := os) (cc _)
        go_wp2_with fail
        refine wp_region_quiet_below (by kernel_rfl) (by kernel_rfl) ?_
        iterate 6 (go_big_quiet_step (fail))
        go_big_quiet_step (with_reducible exact x1 _ _)
        iterate 16 (go_big_quiet_step (fail))
        refine wpQuiet_nil ?_
        intro wq hw'
        obtain ⟨⟨dq, osq⟩, hw''⟩ := hw'
        have hbW := below_regrown wr dq osq
        rw [← hw''] at hbW
        have hfq := hf.out.below hbW
        have e0' := (hbW.cell (p := ⟨b, off + k * 3, none⟩) (World.block_lt_of_cell? _ _ e0)).trans e0
        have e1' := (hbW.cell (p := ⟨b, off + k * 3 + 1, none⟩) (World.block_lt_of_cell? _ _ e1)).trans e1
        have e2' := (hbW.cell (p := ⟨b, off + k * 3 + 2, none⟩) (World.block_lt_of_cell? _ _ e2)).trans e2
        clear hw'' g0 g1 x1 e0 e1 e2 hbW hf hb cc
        have HFQ := Lib.hid hfq
        clear hfq
        go_wp2
        go_roundg gf
        case measure => omega
        case rel => exact ⟨k + 1, o, rfl, by go_num, Lib.hid (by omega), HN, HFQ⟩
      | true =>
        rw [hc] at cc
        cases o with
        | none =>
          have HN := Lib.hid (s2 hL.out hc)
          clear s1 s2 s3 s4 hc bs hL
          simp only [Option.isSome_none]
          have g0 := cell_regrown e0
          have g1 := cell_regrown e1
          have x1 : ∀ d os, _ := fun d os => Calls.regrown_of (w := wr) (d := d) (os := os) (cc _)
          go_wp2_with fail
          refine wp_region_quiet_below (by kernel_rfl) (by kernel_rfl) ?_
          iterate 6 (go_big_quiet_step (fail))
          go_big_quiet_step (with_reducible exact x1 _ _)
          iterate 16 (go_big_quiet_step (fail))
          refine wpQuiet_nil ?_
          intro wq hw'
          obtain ⟨⟨dq, osq⟩, hw''⟩ := hw'
          have hbW := below_regrown wr dq osq
          rw [← hw''] at hbW
          have hfq := hf.out.below hbW
          have e0' := (hbW.cell (p := ⟨b, off + k * 3, none⟩) (World.block_lt_of_cell? _ _ e0)).trans e0
          have e1' := (hbW.cell (p := ⟨b, off + k * 3 + 1, none⟩) (World.block_lt_of_cell? _ _ e1)).trans e1
          have e2' := (hbW.cell (p := ⟨b, off + k * 3 + 2, none⟩) (World.block_lt_of_cell? _ _ e2)).trans e2
          clear hw'' g0 g1 x1 e0 e1 e2 hbW hf hb cc
          have HFQ := Lib.hid (hfq.put x)
          obtain ⟨t0, t1, t2, u0, u1, u2⟩ := blk3 hfq.best
          clear hfq
          go_wp2
          go_roundg gf
          case measure => omega
          case rel => exact ⟨k + 1, some x, rfl, by go_num, Lib.hid (by omega), HN, HFQ⟩
        | some z =>
          obtain ⟨b0, b1, b2⟩ := bs
          simp only [Option.getD_some] at b0 b1 b2
          simp only [Option.isSome_some]
          by_cases hz : z.N < x.N
          · have n1 : decide (x.N > z.N) = true := by simpa using hz
            have HN := Lib.hid (s3 z hL.out hc hz)
            clear s1 s2 s3 s4 hc hL hz
            have g0 := cell_regrown e0
            have g1 := cell_regrown e1
            have g2 := cell_regrown b1
            have x1 : ∀ d os, _ := fun d os => Calls.regrown_of (w := wr) (d := d) (os := os) (cc _)
            go_wp2_with fail
            refine wp_region_quiet_below (by kernel_rfl) (by kernel_rfl) ?_
            iterate 6 (go_big_quiet_step (fail))
            go_big_quiet_step (with_reducible exact x1 _ _)
            iterate 16 (go_big_quiet_step (fail))
            refine wpQuiet_nil ?_
            intro wq hw'
            obtain ⟨⟨dq, osq⟩, hw''⟩ := hw'
            have hbW := below_regrown wr dq osq
            rw [← hw''] at hbW
            have hfq := hf.out.below hbW
            have e0' := (hbW.cell (p := ⟨b, off + k * 3, none⟩) (World.block_lt_of_cell? _ _ e0)).trans e0
            have e1' := (hbW.cell (p := ⟨b, off + k * 3 + 1, none⟩) (World.block_lt_of_cell? _ _ e1)).trans e1
            have e2' := (hbW.cell (p := ⟨b, off + k * 3 + 2, none⟩) (World.block_lt_of_cell? _ _ e2)).trans e2
            clear hw'' g0 g1 x1 e0 e1 e2 hbW hf hb cc g2 b0 b1 b2
            have HFQ := Lib.hid (hfq.put x)
            obtain ⟨t0, t1, t2, u0, u1, u2⟩ := blk3 hfq.best
            clear hfq
            go_wp2
            go_roundg gf
            case measure => omega
            case rel => exact ⟨k + 1, some x, rfl, by go_num, Lib.hid (by omega), HN, HFQ⟩
          · have n1 : decide (x.N > z.N) = false := by simpa using hz
            have HN := Lib.hid (s4 z hL.out (by omega))
            clear s1 s2 s3 s4 hc hL hz
            have g0 := cell_regrown e0
            have g1 := cell_regrown e1
            have g2 := cell_regrown b1
            have x1 : ∀ d os, _ := fun d os => Calls.regrown_of (w := wr) (d := d) (os := os) (cc _)
            go_wp2_with fail
            refine wp_region_quiet_below (by kernel_rfl) (by kernel_rfl) ?_
            iterate 6 (go_big_quiet_step (fail))
            go_big_quiet_step (with_reducible exact x1 _ _)
            iterate 16 (go_big_quiet_step (fail))
            refine wpQuiet_nil ?_
            intro wq hw'
            obtain ⟨⟨dq, osq⟩, hw''⟩ := hw'
            have hbW := below_regrown wr dq osq
            rw [← hw''] at hbW
            have hfq := hf.out.below hbW
            have e0' := (hbW.cell (p := ⟨b, off + k * 3, none⟩) (World.block_lt_of_cell? _ _ e0)).trans e0
            have e1' := (hbW.cell (p := ⟨b, off + k * 3 + 1, none⟩) (World.block_lt_of_cell? _ _ e1)).trans e1
            have e2' := (hbW.cell (p := ⟨b, off + k * 3 + 2, none⟩) (World.block_lt_of_cell? _ _ e2)).trans e2
            clear hw'' g0 g1 x1 e0 e1 e2 hbW hf hb cc g2 b0 b1 b2
            have HFQ := Lib.hid hfq
            clear hfq
            go_wp2
            go_roundg gf
            case measure => omega
            case rel => exact ⟨k + 1, some z, rfl, by go_num, Lib.hid (by omega), HN, HFQ⟩
end Go.Proofs.Ytlmcgjdenfnkmaa
