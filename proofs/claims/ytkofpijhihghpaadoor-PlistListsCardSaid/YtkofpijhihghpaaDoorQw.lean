/-
  The contract of the reference's Words. No statement is proved here; no conditions.
-/
import Derived.Test.YtkofpijhihghpaaDoorQt
import Derived.StillTailTactics
import Derived.Laws.Strings2
namespace Go.Proofs.YtkofpijhihghpaaDoor
open Go.RowKit Go.Joins

/-- Words as cells. -/
abbrev strs (ws : List (List UInt8)) : List Value := ws.map fun a => .string (st a)
theorem strs_one (ws : List (List UInt8)) : ∀ u ∈ strs ws, u.oneCell' = true := by
  intro u hu
  obtain ⟨x, _, rfl⟩ := List.mem_map.1 hu
  rfl
/-- A beginning ahead of the first word. -/
def att (cur : List UInt8) : List (List UInt8) → List (List UInt8)
  | [] => [cur]
  | a :: r => (cur ++ a) :: r
theorem att_nil (l : List UInt8) : att [] (wds l) = wds l := by
  cases h : wds l with
  | nil => exact absurd h (wds_ne l)
  | cons a r => rfl
theorem att_blank (cur l : List UInt8) : att cur (wds (32 :: l)) = cur :: wds l := by simp [wds, att]
theorem att_other (cur : List UInt8) {c : UInt8} (hc : c ≠ 32) (l : List UInt8) : att cur (wds (c :: l)) = att (cur ++ [c]) (wds l) := by
  rw [show wds (c :: l) = if c = 32 then [] :: wds l else match wds l with | a :: r => (c :: a) :: r | [] => [[c]] from rfl, if_neg hc]
  cases h : wds l with
  | nil => exact absurd h (wds_ne l)
  | cons a r => simp [att]
theorem str_app {S : Nat → Prop} {w : World} {A : Option Addr} {c n : Nat} {L : List (List UInt8)} (h : Ob 9 1 S w A c (strs L)) (hn : L.length = n) (hl : n ≤ 100000) (n0 : Nat) (hn0 : w.heap.size = n0) :
    ∃ g' c' w', (Builtin.append_ #[62, 62] 62 #[.slice A n c, .slice (some ⟨n0, 0, none⟩) 1 1]).run Tryd.prog (w.alloc (.cells #[.string (st [])] 9)) = .ok (.slice (some ⟨g', 0, none⟩) (n + 1) c') w' ∧ Rg 9 1 w' g' c' (strs (L ++ [[]])) ∧ Kp S w w' ∧ (S g' ∨ n0 < g') := by
  obtain ⟨ti, hi5, hz5, hsz5, hby5⟩ := info9
  have := app_one (P := Tryd.prog) Tryd.underlying62 hi5 hz5 hsz5 hby5 rfl (by omega) (by omega) h (n := n) (by simp [hn]) (strs [[]]) rfl (strs_one _) (by omega) n0 hn0
  rw [show strs (L ++ [[]]) = strs L ++ strs [[]] from List.map_append]
  exact this
theorem st_ext (l : List UInt8) (k : Nat) (h : k < l.length) : (st l).extract k (k + 1) = st [l[k]] := by
  apply ByteArray.ext
  simp [List.take_one, h]
set_option maxRecDepth 100000 in
set_option maxHeartbeats 1000000 in
theorem words_any (l : List UInt8) (w : World) (hl : l.length ≤ 1000) : Calls Tryd.prog 44 #[.string (st l)] w fun e w' => ∃ A' c', e = .returned (.slice A' (wds l).length c') ∧ Rd (fun _ => True) w' A' (strs (wds l)) ∧ (wds l).length ≤ c' ∧ c' ≤ 9223372036854775807 ∧ Below w.heap.size w w' := by
  obtain ⟨W0, hW0⟩ : ∃ W0, w.alloc (.cells #[.string (st [])] 9) = W0 := ⟨_, rfl⟩
  have R0 : Hid (Rg 9 1 W0 w.heap.size 1 (strs ([] ++ [[]]))) := Lib.hid (by rw [← hW0]; exact Rg.lit w 9 1 1 _ _ rfl rfl (by unfold maxLen; omega))
  have B0 : Hid (Below w.heap.size w W0) := Lib.hid (by rw [← hW0]; exact below_alloc1 _ _)
  go_enter Tryd.func44, Tryd.ntmps44
  go_wp2_with fail
  clear hW0
  go_loopg [3, 4] l.length (fun gf v3 v4 wx => ∃ (k m g c : Nat) (ws : List (List UInt8)) (cur : List UInt8), v3 = .slice (some ⟨g, 0, none⟩) (m + 1) c ∧ v4 = .int .i64 (k : Int) ∧ Hid (gf + k = l.length) ∧ Hid (ws.length = m) ∧ Hid (m ≤ k) ∧ Hid (cur.length ≤ k) ∧ Hid (w.heap.size ≤ g) ∧ Hid (wds l = ws ++ att cur (wds (l.drop k))) ∧ Hid (Rg 9 1 wx g c (strs (ws ++ [cur]))) ∧ Hid (Below w.heap.size w wx))
  case atStart => exact ⟨0, 0, w.heap.size, 1, [], [], rfl, rfl, Lib.hid (by omega), Lib.hid rfl, Lib.hid (by omega), Lib.hid (by simp), Lib.hid (Nat.le_refl _), Lib.hid (by rw [List.drop_zero, att_nil]; rfl), R0, B0⟩
  case round =>
    obtain ⟨k, m, g, c, ws, cur, rfl, rfl, hk, hm, hmk, hck, hg, hw, hr, hb⟩ := hrel
    have hk' := hk.out
    have hmk' := hmk.out
    have hck' := hck.out
    clear R0 B0
    cases gk with
    | zero =>
      have e1 : k = l.length := by omega
      have lt0 : decide ((k : Int) < (l.length : Int)) = false := by simp; omega
      have lt1 : decide (k < l.length) = false := by simp; omega
      have E : Hid (wds l = ws ++ [cur]) := Lib.hid (by rw [hw.out, e1, List.drop_length]; simp [wds, att])
      clear hw
      go_wp2
      go_ret
      have h1 := hr.out.cap
      have h2 := hr.out.max
      unfold maxLen at h2
      rw [E.out]
      refine ⟨_, c, ?_, hr.out.rd.more (fun _ _ _ => trivial), ?_, by omega, hb.out⟩
      · rw [List.length_append, hm.out]; rfl
      · simpa using h1
    | succ gf =>
      have hkl : k < l.length := by omega
      have lt0 : (k : Int) < (l.length : Int) := by omega
      have hw1 : (k : Int) + 1 ≤ 10000 := by omega
      have hix := idx_st wr l k hkl
      have hd := List.drop_eq_getElem_cons hkl
      by_cases hq : l[k] = 32
      · have q1 : ((l[k].toNat : Int) == 32) = true := by rw [hq]; rfl
        have E : Hid (wds l = (ws ++ [cur]) ++ att [] (wds (l.drop (k + 1)))) := Lib.hid (by rw [hw.out, hd, hq, att_blank, att_nil]; simp)
        obtain ⟨n0, hn0⟩ : ∃ m, wr.heap.size = m := ⟨_, rfl⟩
        have hsz := hb.out.size
        obtain ⟨g', c2, W3, r1, r2, r3, r4⟩ := str_app (S := (w.heap.size ≤ ·)) (.inr ⟨g, hg.out, rfl, hr.out⟩) (n := m + 1) (by simp [hm.out]) (by omega) n0 hn0
        have HB3 : Hid (Below w.heap.size w W3) := Lib.hid (hb.out.trans (r3.below (fun _ h => h) hsz))
        have HG3 : Hid (w.heap.size ≤ g') := Lib.hid (by rcases r4 with q | q; exact q; omega)
        have HR3 := Lib.hid r2
        clear r2 r3 r4 hw hd hq hb hr hg
        generalize l[k].toNat = d at *
        go_wp2_with (at_builtin; refine wpList_runb _ rfl (.tmp 16) (.tmp 17) 62 rfl rfl rfl r1 ?_)
        go_wp2
        go_roundg gf
        case measure => omega
        case rel => exact ⟨k + 1, m + 1, g', c2, ws ++ [cur], [], by go_num, by go_num, Lib.hid (by omega), Lib.hid (by simp [hm.out]), Lib.hid (by omega), Lib.hid (by simp), HG3, E, HR3, HB3⟩
      · have q1 : ((l[k].toNat : Int) == 32) = false := by
          rw [Bool.eq_false_iff]
          intro h
          apply hq
          apply UInt8.toNat_inj.1
          have h2 : (32 : UInt8).toNat = 32 := rfl
          rw [h2]
          simp only [beq_iff_eq] at h
          omega
        have E : Hid (wds l = ws ++ att (cur ++ [l[k]]) (wds (l.drop (k + 1)))) := Lib.hid (by rw [hw.out, hd, att_other cur hq])
        have hsl : ∀ W, (Instr.slice 9 (.string (st l)) (some (.int .i64 (k : Int))) (some (.int .i64 ((k : Int) + 1))) none).run Tryd.prog W = .ok (.string (st [l[k]])) W := fun W => by
          rw [run_slice_string W 9 (st l) .i64 .i64 (k : Int) ((k : Int) + 1) Tryd.underlying9 (by omega) (by omega) (by rw [st_size]; omega), show ((k : Int)).toNat = k by omega, show ((k : Int) + 1).toNat = k + 1 by omega, st_ext l k hkl]
        have hse : (strs (ws ++ [cur])).set m (.string (st (cur ++ [l[k]]))) = strs (ws ++ [cur ++ [l[k]]]) := by rw [← hm.out]; simp
        have hlk : (cur ++ [l[k]]).length ≤ k + 1 := by simp; omega
        have hwm : IntKind.i64.wrap (m : Int) = (m : Int) := by simp [IntKind.wrap, IntKind.bits, IntKind.signed]; omega
        have hwk : IntKind.i64.wrap ((k : Int) + 1) = (k : Int) + 1 := by simp [IntKind.wrap, IntKind.bits, IntKind.signed]; omega
        have hadd : st cur ++ st [l[k]] = st (cur ++ [l[k]]) := st_append _ _
        have hsum : (st cur).size + (st [l[k]]).size ≤ 9223372036854775807 := by rw [st_size, st_size]; simp; omega
        have hso : ∀ W, (Op.stringOp .add (st cur) (st [l[k]])).run Tryd.prog W = .ok (.string (st (cur ++ [l[k]]))) W := fun W => by
          rw [run_string_add_sum W (st cur) (st [l[k]]) hsum, hadd]
        have hcell : wr.cell? ⟨g, m, none⟩ = some (.string (st cur)) := hr.out.cell (by rw [← hm.out]; simp)
        have hmm : m < m + 1 := by omega
        have hmm2 : (m : Int) < (m : Int) + 1 := by omega
        have hkk : (k : Int) + 1 ≤ (l.length : Int) := by omega
        have HSE := Lib.hid hse
        have HLK := Lib.hid hlk
        clear hw hd hq hse hadd hsum hlk
        go_wp2_with fail
        go_still_tail 17, (by kernel_rfl)
        change wpList _ _ _ _ _ wr.drew
        have r0 := hr.out.drew
        have b0 : Below w.heap.size w wr.drew := hb.out.trans (below_draws _ wr 1)
        have hcell' : wr.drew.cell? ⟨g, m, none⟩ = some (.string (st cur)) := hcell
        generalize wr.drew = wq at *
        have hfz := r0.frozen m
        have hset := r0.set m (.string (st (cur ++ [l[k]])))
        rw [HSE.out] at hset
        have HB3 : Hid (Below w.heap.size w (wq.setCell ⟨g, m, none⟩ (.string (st (cur ++ [l[k]]))))) := Lib.hid (Below.setCell b0 (p := ⟨g, m, none⟩) hg.out _)
        have HR3 := Lib.hid hset
        clear hset r0 b0 hcell hso hsl hix hb hr
        go_wp2
        go_roundg gf
        case measure => omega
        case rel => exact ⟨k + 1, m, g, c, ws, cur ++ [l[k]], rfl, by go_num, Lib.hid (by omega), hm, Lib.hid (by omega), HLK, hg, E, HR3, HB3⟩
end Go.Proofs.YtkofpijhihghpaaDoor
