/-
  Contracts of the program's number and option. No statement is proved here; no conditions.
-/
import Derived.Test.YtkofpijhihghpaaDoorWre
import Derived.Test.YtkofpijhihghpaaDoorRw
namespace Go.Proofs.YtkofpijhihghpaaDoor
open Go.RowKit Go.Joins

theorem num_bad {l : List UInt8} (h : nok l = false) : num l = 0 := by unfold num; rw [h]; rfl
theorem nok_no {l : List UInt8} {k : Nat} (hk : k < l.length) (h : isD l[k] = false) : nok l = false := by
  rw [Bool.eq_false_iff]
  intro h1
  have := ((nok_iff l).1 h1).2.2.2 l[k] (List.getElem_mem hk)
  rw [h] at this
  cases this
set_option maxRecDepth 100000 in
set_option maxHeartbeats 1000000 in
theorem pnum_any (l : List UInt8) (w : World) (hl : l.length ≤ 4611686018427387904) : Calls Tryd.prog 32 #[.string (st l)] w fun e w' => e = .returned (.int .i64 (num l : Int)) ∧ Below w.heap.size w w' := by
  obtain ⟨V, hV⟩ : ∃ V, num l = V := ⟨_, rfl⟩
  rw [hV]
  have HV := Lib.hid hV
  clear hV
  by_cases h0 : l = []
  · subst h0
    have e1 : V = 0 := by rw [← HV.out]; rfl
    subst e1
    go_enter Tryd.func32, Tryd.ntmps32
    go_wp2
    go_ret
    exact ⟨rfl, Below.refl _ _⟩
  have hE : l.isEmpty = false := by simpa using h0
  have hk0 : 0 < l.length := List.length_pos_iff.2 h0
  by_cases h5 : 5 < l.length
  · have h5' : (l.length : Int) > 5 := by omega
    have e1 : V = 0 := by
      rw [← HV.out]
      apply num_bad
      rw [Bool.eq_false_iff]
      intro h
      have := ((nok_iff l).1 h).2.1
      omega
    subst e1
    go_enter Tryd.func32, Tryd.ntmps32
    go_wp2
    go_ret
    exact ⟨rfl, Below.refl _ _⟩
  have h5' : ¬ ((l.length : Int) > 5) := by omega
  by_cases h6 : l[0].toNat = 48
  · have h7 : ((((st l)[0]'(by rw [st_size]; exact hk0)).toNat : Int) == 48) = true := by
      rw [st_get, h6]; rfl
    have e1 : V = 0 := by
      rw [← HV.out]
      apply num_bad
      rw [Bool.eq_false_iff]
      intro h
      apply ((nok_iff l).1 h).2.2.1
      rw [List.getElem?_eq_getElem hk0]
      congr 1
      exact UInt8.toNat_inj.1 h6
    subst e1
    go_enter Tryd.func32, Tryd.ntmps32
    go_wp2
    go_ret
    exact ⟨rfl, Below.refl _ _⟩
  have h7 : ((((st l)[0]'(by rw [st_size]; exact hk0)).toNat : Int) == 48) = false := by
    rw [st_get]
    simp
    omega
  have h6' : l[0]? ≠ some 48 := by
    rw [List.getElem?_eq_getElem hk0]
    intro h
    apply h6
    rw [Option.some.inj h]
    rfl
  have H6 := Lib.hid h6'
  have H5 : Hid (l.length ≤ 5) := Lib.hid (by omega)
  have H0 := Lib.hid h0
  clear h6 h6'
  go_enter Tryd.func32, Tryd.ntmps32
  go_wp2
  go_loopg [3] l.length (fun gf v wx => ∃ pos : Nat, v = .int .i64 (val (l.take pos) : Int) ∧ wx.heap[w.heap.size]? = some (.stringIter (st l) pos) ∧ Below w.heap.size w wx ∧ Hid (∀ (k : Nat) (h : k < l.length), k < pos → isD l[k] = true) ∧ Hid (val (l.take pos) + 1 ≤ 10 ^ pos) ∧ Hid (gf + pos = l.length))
  case atStart => exact ⟨0, by simp [val], World.iter_heap w (st l) 0, (Below.refl _ w).alloc (Nat.le_refl _) _, Lib.hid (fun k h h2 => by omega), Lib.hid (by simp [val]), Lib.hid (by omega)⟩
  case round =>
    obtain ⟨pos, hv, hit, hbw, hD, hle, hfu⟩ := hrel
    have hfu' := hfu.out
    have hpl : pos ≤ 5 := by have := H5.out; omega
    have hp10 : (10 : Nat) ^ pos ≤ 100000 := Nat.le_trans (Nat.pow_le_pow_right (by omega) hpl) (by decide)
    by_cases hps : pos < l.length
    · have hps' : pos < (st l).size := by rw [st_size]; exact hps
      by_cases ha : l[pos].toNat < 128
      · have hnx : ∀ ty, (Instr.next (.pointer (some ⟨w.heap.size, 0, none⟩)) true ty).run Tryd.prog wr = _ := fun ty => Lib.run_next_ascii_at wr w.heap.size (st l) pos ty hit hps' (by rw [st_get]; exact ha)
        rw [st_get] at hnx
        have hit2 := Lib.iterAt_heap wr w.heap.size (st l) pos (pos + 1) hit
        have hbw2 := Lib.below_iterAt hbw (k := w.heap.size) (Nat.le_refl _) (st l) (pos + 1)
        have ht := val_take l pos hps
        subst hv
        generalize wr.iterAt w.heap.size (st l) (pos + 1) = W at *
        cases hd : isD l[pos] with
        | true =>
          have hd2 := isD_bd hd
          have hle' := hle.out
          have HD2 : Hid (∀ (k : Nat) (h : k < l.length), k < pos + 1 → isD l[k] = true) := Lib.hid (fun k h h2 => by
            rcases Nat.lt_or_ge k pos with q | q
            · exact hD.out k h q
            · obtain rfl : k = pos := by omega
              exact hd)
          have HLE : Hid (val (l.take (pos + 1)) + 1 ≤ 10 ^ (pos + 1)) := Lib.hid (by rw [ht, Nat.pow_succ]; omega)
          have hv5 : val (l.take pos) ≤ 100000 := by omega
          have HT := Lib.hid ht
          clear hd ht hit hbw hD hle hp10 hle'
          generalize HV1 : val (l.take (pos + 1)) = v1 at *
          have HV2 := Lib.hid HV1
          clear HV1
          generalize val (l.take pos) = v0 at *
          generalize l[pos].toNat = d at *
          obtain ⟨gf, rfl⟩ : ∃ gf, gk = gf + 1 := ⟨gk - 1, by omega⟩
          have HFU : Hid (gf + (pos + 1) = l.length) := Lib.hid (by omega)
          clear hfu hfu'
          go_wp2
          go_roundg gf
          case measure => omega
          case rel => exact ⟨pos + 1, by rw [HV2.out, HT.out]; exact val_int (by omega), hit2, hbw2, HD2, by rw [HV2.out]; exact HLE, HFU⟩
        | false =>
          have e1 : V = 0 := by rw [← HV.out]; exact num_bad (nok_no hps hd)
          subst e1
          have hd2 : l[pos].toNat < 48 ∨ 57 < l[pos].toNat := by
            simp only [isD, decide_eq_false_iff_not] at hd
            omega
          have hv5 : val (l.take pos) ≤ 100000 := by have := hle.out; omega
          clear hd ht hit hbw hD hle hp10
          generalize val (l.take pos) = v0 at *
          generalize l[pos].toNat = d at *
          clear hfu hfu'
          rcases hd2 with q | q
          · have q1 : (d : Int) < 48 := by omega
            go_wp2
            go_ret
            exact ⟨rfl, hbw2⟩
          · have q1 : ¬ ((d : Int) < 48) := by omega
            have q2 : (d : Int) > 57 := by omega
            go_wp2
            go_ret
            exact ⟨rfl, hbw2⟩
      · have hnx : ∀ ty, (Instr.next (.pointer (some ⟨w.heap.size, 0, none⟩)) true ty).run Tryd.prog wr = _ := fun ty => Lib.run_next_any_at wr w.heap.size (st l) pos ty hit hps'
        have hdc := (decode_high (st l) pos hps' (by rw [st_get]; omega)).1
        have hbw2 := Lib.below_iterAt hbw (k := w.heap.size) (Nat.le_refl _) (st l) (pos + (Utf8.decode (st l) pos).2)
        have e1 : V = 0 := by
          rw [← HV.out]
          refine num_bad (nok_no hps ?_)
          simp only [isD, decide_eq_false_iff_not]
          omega
        subst e1 hv
        generalize wr.iterAt w.heap.size (st l) (pos + (Utf8.decode (st l) pos).2) = W at *
        generalize (Utf8.decode (st l) pos).1 = d at *
        generalize val (l.take pos) = v0 at *
        clear hit hbw hD hle hp10 hfu hfu' ha
        have q1 : ¬ ((d : Int) < 48) := by omega
        have q2 : (d : Int) > 57 := by omega
        go_wp2
        go_ret
        exact ⟨rfl, hbw2⟩
    · have hps' : ¬ pos < (st l).size := by rw [st_size]; exact hps
      have hnx : ∀ ty, (Instr.next (.pointer (some ⟨w.heap.size, 0, none⟩)) true ty).run Tryd.prog wr = _ := fun ty => Lib.run_next_end_at wr w.heap.size (st l) pos ty hit hps'
      have e : l.take pos = l := List.take_of_length_le (by omega)
      rw [e] at hv
      have e1 : Hid (V = val l) := Lib.hid (by
        rw [← HV.out, num, if_pos]
        refine (nok_iff l).2 ⟨H0.out, H5.out, H6.out, fun c hc => ?_⟩
        obtain ⟨k, hk, rfl⟩ := List.getElem_of_mem hc
        exact hD.out k hk (by omega))
      subst hv
      clear hit hD hle hp10 hfu hfu' e
      go_wp2
      go_ret
      exact ⟨by rw [e1.out]; rfl, hbw⟩
end Go.Proofs.YtkofpijhihghpaaDoor
