/-
  Contracts of the document's Push and Sorted. No statement is proved here; no conditions.
-/
import Derived.Test.YtghflhcpinimcaaRef
import Derived.Deep.DeepCutAuto
namespace Go.Proofs.Ytghflhcpinimcaa
open Go.RowKit Go.Joins

/-- What is still to be laid behind. -/
def rest (p : Bool) (x : It) (l : List It) (k : Nat) : List It := if p then l.drop k else ins x (l.drop k)
theorem drop_gt (l : List It) (k : Nat) (h : k < l.length) : l.drop k = gt l k :: l.drop (k + 1) := by rw [gt_eq h, List.drop_eq_getElem_cons h]
theorem rest_put (x : It) (l : List It) (k : Nat) (h : k < l.length) : rest true x l k = gt l k :: rest true x l (k + 1) := by simp only [rest, if_true]; exact drop_gt l k h
theorem rest_lt (x : It) (l : List It) (k : Nat) (h : k < l.length) (hlt : lt x (gt l k) = true) : rest false x l k = x :: gt l k :: rest true x l (k + 1) := by
  simp only [rest, if_true, Bool.false_eq_true, if_false]
  rw [drop_gt l k h, ins, if_pos hlt]
theorem rest_ge (x : It) (l : List It) (k : Nat) (h : k < l.length) (hlt : lt x (gt l k) = false) : rest false x l k = gt l k :: rest false x l (k + 1) := by
  simp only [rest, Bool.false_eq_true, if_false]
  rw [drop_gt l k h, ins, if_neg (by simp [hlt])]
theorem rest_end (x : It) (l : List It) (k : Nat) (h : ¬ k < l.length) : rest true x l k = [] ∧ rest false x l k = [x] := by
  simp only [rest, if_true, Bool.false_eq_true, if_false]
  rw [List.drop_eq_nil_of_le (by omega)]
  exact ⟨rfl, rfl⟩

set_option maxHeartbeats 1000000 in
set_option maxRecDepth 100000 in
theorem rpush_any (S : Nat → Prop) (A : Option Addr) (c : Nat) (l : List It) (x : It) (w : World) (hl : Bs S w A l) (hn : l.length ≤ 100000) : Calls Try.prog 15 #[.slice A l.length c, iv x] w fun e w' => Made 37 w (ins x l) e w' := by
  obtain ⟨i, hi, hz, hsz, hby⟩ := info_two info37
  have HL := Lib.hid (hl.more (T := (· < w.heap.size)) (fun j _ h => h))
  have hx0 := Go.heap_alloc_new w (.cells #[.int .u64 x.1, .int .i64 x.2] 37)
  have e1 : (w.alloc (.cells #[.int .u64 x.1, .int .i64 x.2] 37)).heap.size = w.heap.size + 1 := by simp
  have r0 := Rw.lit (w.alloc (.cells #[.int .u64 x.1, .int .i64 x.2] 37)) 37 [] #[] rfl (by simp)
  rw [e1] at r0
  have R0 := Lib.hid r0
  have X0 := Lib.hid (blk_alloc (o' := .cells #[] 37) hx0)
  have hM : Hid (ins x l = [] ++ rest false x l 0) := Lib.hid (by simp [rest])
  clear hl hx0 e1 r0
  generalize hMM : ins x l = M at *
  clear hMM
  go_enter Try.func15, Try.ntmps15
  go_wp2_with fail
  go_loopg [5, 6, 7] l.length (fun gf vo vp vi wx => ∃ (k g cc : Nat) (o : List It) (p : Bool), vi = .int .i64 (k : Int) ∧ vo = .slice (some ⟨g, 0, none⟩) o.length cc ∧ vp = .bool p ∧ Hid (k + gf = l.length) ∧ Hid (M = o ++ rest p x l k) ∧ Hid (o.length ≤ 2 * k) ∧ Hid (Rw 37 wx g cc o) ∧ Hid (w.heap.size + 1 ≤ g) ∧ Hid (wx.heap[w.heap.size]? = some (.cells #[.int .u64 x.1, .int .i64 x.2] 37 (0, 0))) ∧ Hid (Below w.heap.size w wx))
  case atStart => exact ⟨0, w.heap.size + 1, 0, [], false, rfl, rfl, rfl, Lib.hid (by omega), hM, Lib.hid (by simp), R0, Lib.hid (Nat.le_refl _), X0, Lib.hid (below_alloc2 _ _ _)⟩
  case round =>
    obtain ⟨k, g, cc, o, p, rfl, rfl, rfl, hk, hm, hol, hR, hg, hX, hB⟩ := hrel
    clear R0 X0 hM
    have bx := hX.out
    have bxlt := lt_of_block bx
    by_cases hkl : k < l.length
    · have d1 : (k : Int) < (l.length : Int) := by omega
      cases p with
      | true =>
        have HLx := HL.out.below hB.out (fun j h _ => h)
        obtain ⟨b, off, rfl, hb, hlt0, c1, c2⟩ := HLx.at_ hkl
        have k0 := cell_regrown (blk2 bx).1
        have k1 := cell_regrown (blk2 bx).2.1
        have k2 := cell_regrown c1
        have k3 := cell_regrown c2
        have z : ∀ dd os, Calls Try.prog 20 #[iv x, iv (gt l k)] (Sort.grow (redrawn wr dd) os) fun e w'' => e = .returned (.bool (lt x (gt l k))) ∧ ∃ p : Regrown, w'' = Sort.grow (redrawn wr p.d) p.os := fun dd os => Calls.regrown_of (ahead_any _ _ _)
        clear HLx
        have hm2 := hm.out
        rw [rest_put x l k hkl] at hm2
        have HM := Lib.hid hm2
        clear hm2
        go_wp2_with fail
        refine wp_region_quiet_below (by kernel_rfl) (by kernel_rfl) ?_
        repeat (first | go_big_quiet_skip | go_big_quiet_step (with_reducible exact z _ _))
        refine wpQuiet_nil ?_
        intro _ hw'
        obtain ⟨⟨dq, osq⟩, hw''⟩ := hw'
        have hbq : Below wr.heap.size wr (Sort.grow (redrawn wr dq) osq) := below_regrown wr dq osq
        subst hw''
        generalize Sort.grow (redrawn wr dq) osq = W1 at *
        clear k0 k1 k2 k3 z c1 c2
        have hR1 := hR.out.below hbq hR.out.lt
        have BW1 := hB.out.trans (hbq.mono hB.out.size)
        have bx1 := (hbq.block _ bxlt).trans bx
        clear bx
        have bx := bx1
        have bxlt1 := lt_of_block bx1
        obtain ⟨xc1, xc2, -, -⟩ := blk2 bx1
        have HL1 := HL.out.below BW1 (fun j h _ => h)
        obtain ⟨b', off', hbo, -, -, c1, c2⟩ := HL1.at_ hkl
        injection hbo with hbo
        injection hbo with hbo1 hbo2 hbo3
        subst hbo1 hbo2
        clear hbo3
        clear HL1
        have hA5 := (hR1).kp (Kp.refl (fun _ => False) W1 |>.alloc (.cells #[.int .u64 (gt l k).1, .int .i64 (gt l k).2] 37)) (fun h => h)
        have hl5 := Rw.lit W1 37 [gt l k] #[.int .u64 (gt l k).1, .int .i64 (gt l k).2] rfl (by simp [maxLen])
        go_wp2_with (at_builtin; refine wpList_app _ rfl (.tmp 29) (.tmp 34) 27 rfl 37 i _ Try.underlying27 hi hz hsz hby rfl g cc o rfl hA5 _ _ 1 _ [gt l k] rfl rfl hl5.bs (by have := hol.out; have := hk.out; simp; omega) ?_; intro l5 g5 c5 w5 hL5 hR5 hK5 hG5)
        have B5 : Below w.heap.size w w5 := ((BW1).trans ((below_alloc1 W1 _).mono (BW1).size)).trans (hK5.below (fun j hj => by have := hg.out; omega) (by have := (BW1).size; simp; omega))
        have G5 : w.heap.size + 1 ≤ g5 := by
          rcases hG5 with e | e
          · have := hg.out; omega
          · have hbl := lt_of_block bx; simp at e; omega
        have X5 : w5.heap[w.heap.size]? = some (.cells #[.int .u64 x.1, .int .i64 x.2] 37 (0, 0)) := (hK5.block w.heap.size (by have hbl := lt_of_block bx; simp; omega) (by have := hg.out; omega)).trans (blk_alloc bx)
        have R5 := Lib.hid hR5
        have M5 : Hid (M = l5 ++ rest true x l (k + 1)) := Lib.hid (by rw [hL5.out]; simpa using HM.out)
        have O5 : Hid (l5.length ≤ 2 * (k + 1)) := Lib.hid (by rw [hL5.out]; have := hol.out; simp; omega)
        have B5' := Lib.hid B5
        have G5' := Lib.hid G5
        have X5' := Lib.hid X5
        clear B5 G5 X5 hL5 hR5 hK5 hG5 hA5 hl5
        go_wp2
        go_roundg (gk - 1)
        case measure => have := hk.out; omega
        case rel => exact ⟨k + 1, g5, c5, l5, true, by go_num, rfl, rfl, Lib.hid (by have := hk.out; omega), M5, O5, R5, G5', X5', B5'⟩
      | false =>
        have HLx := HL.out.below hB.out (fun j h _ => h)
        obtain ⟨b, off, rfl, hb, hlt0, c1, c2⟩ := HLx.at_ hkl
        have k0 := cell_regrown (blk2 bx).1
        have k1 := cell_regrown (blk2 bx).2.1
        have k2 := cell_regrown c1
        have k3 := cell_regrown c2
        have z : ∀ dd os, Calls Try.prog 20 #[iv x, iv (gt l k)] (Sort.grow (redrawn wr dd) os) fun e w'' => e = .returned (.bool (lt x (gt l k))) ∧ ∃ p : Regrown, w'' = Sort.grow (redrawn wr p.d) p.os := fun dd os => Calls.regrown_of (ahead_any _ _ _)
        clear HLx

        by_cases hlt : lt x (gt l k) = true
        · skip
          rw [hlt] at z
          have hm2 := hm.out
          rw [rest_lt x l k hkl hlt] at hm2
          have HM := Lib.hid hm2
          clear hm2 hlt
          go_wp2_with fail
          refine wp_region_quiet_below (by kernel_rfl) (by kernel_rfl) ?_
          repeat (first | go_big_quiet_skip | go_big_quiet_step (with_reducible exact z _ _))
          refine wpQuiet_nil ?_
          intro _ hw'
          obtain ⟨⟨dq, osq⟩, hw''⟩ := hw'
          have hbq : Below wr.heap.size wr (Sort.grow (redrawn wr dq) osq) := below_regrown wr dq osq
          subst hw''
          generalize Sort.grow (redrawn wr dq) osq = W1 at *
          clear k0 k1 k2 k3 z c1 c2
          have hR1 := hR.out.below hbq hR.out.lt
          have BW1 := hB.out.trans (hbq.mono hB.out.size)
          have bx1 := (hbq.block _ bxlt).trans bx
          clear bx
          have bx := bx1
          have bxlt1 := lt_of_block bx1
          obtain ⟨xc1, xc2, -, -⟩ := blk2 bx1
          have HL1 := HL.out.below BW1 (fun j h _ => h)
          clear HL1
          have hA4 := (hR1).kp (Kp.refl (fun _ => False) W1 |>.alloc (.cells #[.int .u64 (x).1, .int .i64 (x).2] 37)) (fun h => h)
          have hl4 := Rw.lit W1 37 [x] #[.int .u64 (x).1, .int .i64 (x).2] rfl (by simp [maxLen])
          go_upto_region 9 with (at_builtin; refine wpList_app _ rfl (.tmp 25) (.tmp 27) 27 rfl 37 i _ Try.underlying27 hi hz hsz hby rfl g cc o rfl hA4 _ _ 1 _ [x] rfl rfl hl4.bs (by have := hol.out; have := hk.out; simp; omega) ?_; intro l4 g4 c4 w4 hL4 hR4 hK4 hG4)
          have B4 : Below w.heap.size w w4 := ((BW1).trans ((below_alloc1 W1 _).mono (BW1).size)).trans (hK4.below (fun j hj => by have := hg.out; omega) (by have := (BW1).size; simp; omega))
          have G4 : w.heap.size + 1 ≤ g4 := by
            rcases hG4 with e | e
            · have := hg.out; omega
            · have hbl := lt_of_block bx; simp at e; omega
          have X4 : w4.heap[w.heap.size]? = some (.cells #[.int .u64 x.1, .int .i64 x.2] 37 (0, 0)) := (hK4.block w.heap.size (by have hbl := lt_of_block bx; simp; omega) (by have := hg.out; omega)).trans (blk_alloc bx)
          have R4 := Lib.hid hR4
          have HL4 := HL.out.below B4 (fun j h _ => h)
          clear bx
          have bx := X4
          obtain ⟨b', off', hbo, -, -, c1, c2⟩ := HL4.at_ hkl
          injection hbo with hbo
          injection hbo with hbo1 hbo2 hbo3
          subst hbo1 hbo2
          clear hbo3
          clear HL4
          have hA5 := (hR4).kp (Kp.refl (fun _ => False) w4 |>.alloc (.cells #[.int .u64 (gt l k).1, .int .i64 (gt l k).2] 37)) (fun h => h)
          have hl5 := Rw.lit w4 37 [gt l k] #[.int .u64 (gt l k).1, .int .i64 (gt l k).2] rfl (by simp [maxLen])
          go_wp2_with (at_builtin; refine wpList_app _ rfl (.tmp 29) (.tmp 34) 27 rfl 37 i _ Try.underlying27 hi hz hsz hby rfl g4 c4 l4 rfl hA5 _ _ 1 _ [gt l k] rfl rfl hl5.bs (by have := hol.out; have := hk.out; rw [hL4.out]; simp; omega) ?_; intro l5 g5 c5 w5 hL5 hR5 hK5 hG5)
          have B5 : Below w.heap.size w w5 := ((B4).trans ((below_alloc1 w4 _).mono (B4).size)).trans (hK5.below (fun j hj => by have := G4; omega) (by have := (B4).size; simp; omega))
          have G5 : w.heap.size + 1 ≤ g5 := by
            rcases hG5 with e | e
            · have := G4; omega
            · have hbl := lt_of_block bx; simp at e; omega
          have X5 : w5.heap[w.heap.size]? = some (.cells #[.int .u64 x.1, .int .i64 x.2] 37 (0, 0)) := (hK5.block w.heap.size (by have hbl := lt_of_block bx; simp; omega) (by have := G4; omega)).trans (blk_alloc bx)
          have R5 := Lib.hid hR5
          have M5 : Hid (M = l5 ++ rest true x l (k + 1)) := Lib.hid (by rw [hL5.out, hL4.out]; simpa using HM.out)
          have O5 : Hid (l5.length ≤ 2 * (k + 1)) := Lib.hid (by rw [hL5.out]; rw [hL4.out]; have := hol.out; simp; omega)
          have B5' := Lib.hid B5
          have G5' := Lib.hid G5
          have X5' := Lib.hid X5
          clear B5 G5 X5 hL5 hR5 hK5 hG5 hA5 hl5
          go_wp2
          go_roundg (gk - 1)
          case measure => have := hk.out; omega
          case rel => exact ⟨k + 1, g5, c5, l5, true, by go_num, rfl, rfl, Lib.hid (by have := hk.out; omega), M5, O5, R5, G5', X5', B5'⟩
        · rw [Bool.not_eq_true] at hlt
          rw [hlt] at z
          have hm2 := hm.out
          rw [rest_ge x l k hkl hlt] at hm2
          have HM := Lib.hid hm2
          clear hm2 hlt
          go_wp2_with fail
          refine wp_region_quiet_below (by kernel_rfl) (by kernel_rfl) ?_
          repeat (first | go_big_quiet_skip | go_big_quiet_step (with_reducible exact z _ _))
          refine wpQuiet_nil ?_
          intro _ hw'
          obtain ⟨⟨dq, osq⟩, hw''⟩ := hw'
          have hbq : Below wr.heap.size wr (Sort.grow (redrawn wr dq) osq) := below_regrown wr dq osq
          subst hw''
          generalize Sort.grow (redrawn wr dq) osq = W1 at *
          clear k0 k1 k2 k3 z c1 c2
          have hR1 := hR.out.below hbq hR.out.lt
          have BW1 := hB.out.trans (hbq.mono hB.out.size)
          have bx1 := (hbq.block _ bxlt).trans bx
          clear bx
          have bx := bx1
          have bxlt1 := lt_of_block bx1
          obtain ⟨xc1, xc2, -, -⟩ := blk2 bx1
          have HL1 := HL.out.below BW1 (fun j h _ => h)
          obtain ⟨b', off', hbo, -, -, c1, c2⟩ := HL1.at_ hkl
          injection hbo with hbo
          injection hbo with hbo1 hbo2 hbo3
          subst hbo1 hbo2
          clear hbo3
          clear HL1
          have hA5 := (hR1).kp (Kp.refl (fun _ => False) W1 |>.alloc (.cells #[.int .u64 (gt l k).1, .int .i64 (gt l k).2] 37)) (fun h => h)
          have hl5 := Rw.lit W1 37 [gt l k] #[.int .u64 (gt l k).1, .int .i64 (gt l k).2] rfl (by simp [maxLen])
          go_wp2_with (at_builtin; refine wpList_app _ rfl (.tmp 29) (.tmp 34) 27 rfl 37 i _ Try.underlying27 hi hz hsz hby rfl g cc o rfl hA5 _ _ 1 _ [gt l k] rfl rfl hl5.bs (by have := hol.out; have := hk.out; simp; omega) ?_; intro l5 g5 c5 w5 hL5 hR5 hK5 hG5)
          have B5 : Below w.heap.size w w5 := ((BW1).trans ((below_alloc1 W1 _).mono (BW1).size)).trans (hK5.below (fun j hj => by have := hg.out; omega) (by have := (BW1).size; simp; omega))
          have G5 : w.heap.size + 1 ≤ g5 := by
            rcases hG5 with e | e
            · have := hg.out; omega
            · have hbl := lt_of_block bx; simp at e; omega
          have X5 : w5.heap[w.heap.size]? = some (.cells #[.int .u64 x.1, .int .i64 x.2] 37 (0, 0)) := (hK5.block w.heap.size (by have hbl := lt_of_block bx; simp; omega) (by have := hg.out; omega)).trans (blk_alloc bx)
          have R5 := Lib.hid hR5
          have M5 : Hid (M = l5 ++ rest false x l (k + 1)) := Lib.hid (by rw [hL5.out]; simpa using HM.out)
          have O5 : Hid (l5.length ≤ 2 * (k + 1)) := Lib.hid (by rw [hL5.out]; have := hol.out; simp; omega)
          have B5' := Lib.hid B5
          have G5' := Lib.hid G5
          have X5' := Lib.hid X5
          clear B5 G5 X5 hL5 hR5 hK5 hG5 hA5 hl5
          go_wp2
          go_roundg (gk - 1)
          case measure => have := hk.out; omega
          case rel => exact ⟨k + 1, g5, c5, l5, false, by go_num, rfl, rfl, Lib.hid (by have := hk.out; omega), M5, O5, R5, G5', X5', B5'⟩
    · have d1 : decide ((k : Int) < (l.length : Int)) = false := decide_eq_false (by omega)
      have d2 : decide (k < l.length) = false := decide_eq_false hkl
      cases p with
      | true =>
        have hm2 := hm.out
        rw [(rest_end x l k hkl).1, List.append_nil] at hm2
        subst hm2
        go_wp2
        go_ret
        exact ⟨g, cc, rfl, hR.out, by have := hg.out; omega, hB.out⟩
      | false =>
        have hm2 := hm.out
        rw [(rest_end x l k hkl).2] at hm2
        have HM := Lib.hid hm2
        clear hm2
        obtain ⟨xc1, xc2, -, -⟩ := blk2 bx
        have BW1 := hB.out
        have hR1 := hR.out
        have hA5 := (hR1).kp (Kp.refl (fun _ => False) wr |>.alloc (.cells #[.int .u64 (x).1, .int .i64 (x).2] 37)) (fun h => h)
        have hl5 := Rw.lit wr 37 [x] #[.int .u64 (x).1, .int .i64 (x).2] rfl (by simp [maxLen])
        go_wp2_with (at_builtin; refine wpList_app _ rfl (.tmp 38) (.tmp 40) 27 rfl 37 i _ Try.underlying27 hi hz hsz hby rfl g cc o rfl hA5 _ _ 1 _ [x] rfl rfl hl5.bs (by have := hol.out; have := hk.out; simp; omega) ?_; intro l5 g5 c5 w5 hL5 hR5 hK5 hG5)
        have B5 : Below w.heap.size w w5 := ((BW1).trans ((below_alloc1 wr _).mono (BW1).size)).trans (hK5.below (fun j hj => by have := hg.out; omega) (by have := (BW1).size; simp; omega))
        have G5 : w.heap.size + 1 ≤ g5 := by
          rcases hG5 with e | e
          · have := hg.out; omega
          · have hbl := lt_of_block bx; simp at e; omega
        have X5 : w5.heap[w.heap.size]? = some (.cells #[.int .u64 x.1, .int .i64 x.2] 37 (0, 0)) := (hK5.block w.heap.size (by have hbl := lt_of_block bx; simp; omega) (by have := hg.out; omega)).trans (blk_alloc bx)
        have R5 := Lib.hid hR5
        have hl5 : l5 = M := by rw [hL5.out, HM.out]
        subst hl5
        clear X5 hR1 BW1 hA5 hL5 hR5 hK5 hG5 bx xc1 xc2
        go_wp2
        go_ret
        exact ⟨g5, c5, rfl, R5.out, by omega, B5⟩
end Go.Proofs.Ytghflhcpinimcaa
