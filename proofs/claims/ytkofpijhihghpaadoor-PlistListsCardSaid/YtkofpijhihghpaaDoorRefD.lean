/-
  Contract of the reference's number. No statement is proved here.
-/
import Derived.Test.YtkofpijhihghpaaDoorPrs
namespace Go.Proofs.YtkofpijhihghpaaDoor
open Go.RowKit Go.Joins

theorem tw_stop {α : Type} (p : α → Bool) (l : List α) (h : (l.takeWhile p).length < l.length) : p (l[(l.takeWhile p).length]'h) = false := by
  induction l with
  | nil => simp at h
  | cons a l ih =>
    by_cases ha : p a = true
    · have e : (a :: l).takeWhile p = a :: l.takeWhile p := by rw [List.takeWhile_cons, if_pos ha]
      have h2 : (l.takeWhile p).length < l.length := by rw [e] at h; simpa using h
      have := ih h2
      have e2 : (List.takeWhile p (a :: l)).length = (l.takeWhile p).length + 1 := by rw [e]; rfl
      simp only [e2, List.getElem_cons_succ]
      exact this
    · have e : (a :: l).takeWhile p = [] := by rw [List.takeWhile_cons, if_neg ha]
      simp only [e, List.length_nil, List.getElem_cons_zero]
      simpa using ha
theorem dgs_le (l : List UInt8) : (dgs l).length ≤ 4 ∧ (dgs l).length ≤ l.length := by
  unfold dgs
  rw [List.length_take]
  have := (List.takeWhile_prefix (l := l) isD).length_le
  omega
theorem dgs_get (l : List UInt8) (k : Nat) (h : k < (dgs l).length) : (dgs l)[k] = l[k]'(by have := (dgs_le l).2; omega) := by
  have e := dgs_take l
  have h2 : (dgs l)[k]? = l[k]? := by
    rw [← e, List.getElem?_take]
    rw [if_pos h]
  have hl : k < l.length := by have := (dgs_le l).2; omega
  rw [List.getElem?_eq_getElem h, List.getElem?_eq_getElem hl] at h2
  exact Option.some.inj h2
theorem dgs_in (l : List UInt8) (k : Nat) (h : k < (dgs l).length) : ∃ hl : k < l.length, isD l[k] = true := by
  have hl : k < l.length := by have := (dgs_le l).2; omega
  refine ⟨hl, ?_⟩
  have := dgs_all l _ (List.getElem_mem h)
  rwa [dgs_get l k h] at this
theorem dgs_out (l : List UInt8) (hl : (dgs l).length < l.length) (h4 : (dgs l).length < 4) : isD (l[(dgs l).length]'hl) = false := by
  have e : (dgs l).length = (l.takeWhile isD).length := by
    unfold dgs at h4 ⊢
    rw [List.length_take] at h4 ⊢
    omega
  have := tw_stop isD l (by omega)
  simp only [e]
  exact this
theorem idx_st (W : World) (l : List UInt8) (k : Nat) (h : k < l.length) : (Instr.index 9 (.string (st l)) (.int .i64 (k : Int))).run Tryd.prog W = .ok (.int .u8 (l[k].toNat : Int)) W := by
  rw [run_index_string W 9 (st l) .i64 _ Tryd.underlying9, dif_pos ⟨by omega, by rw [st_size]; omega⟩]
  have e : ((k : Int)).toNat = k := by omega
  simp only [e]
  rw [st_get]
/-- What the reference's number tells: the number and how many digits it has. -/
def rk (most : Nat) (l : List UInt8) : Nat := if numOk most (dgs l) = true then (dgs l).length else 0
set_option maxHeartbeats 4000000 in
theorem rnumber_any (l : List UInt8) (most : Nat) (w : World) (hl : l.length ≤ 4611686018427387904) (__hm : most < 100000) : Calls Tryd.prog 65 #[.string (st l), .int .i64 (most : Int)] w fun e w' => e = .returned (.tuple #[.int .i64 (nv most (dgs l) : Int), .int .i64 (rk most l : Int)]) ∧ w' = w := by
  generalize hV : nv most (dgs l) = V
  generalize hR : rk most l = R
  have HV := Lib.hid hV
  have HR := Lib.hid hR
  clear hV hR
  obtain ⟨h4, hdl⟩ := dgs_le l
  go_enter Tryd.func65, Tryd.ntmps65
  go_wp2
  go_loop [6, 7] (fun v6 v7 => ∃ k : Nat, v7 = .int .i64 (k : Int) ∧ v6 = .int .i64 (val (l.take k) : Int) ∧ k ≤ (dgs l).length ∧ val (l.take k) < 10 ^ k) (fun _ v7 => (4 - intOf v7).toNat)
  case atStart => exact ⟨0, rfl, by simp [val], by omega, by simp [val]⟩
  case round =>
    obtain ⟨k, rfl, rfl, hk, hvb⟩ := hrel
    have hS : (st l).size = l.length := st_size l
    by_cases hlt : k < (dgs l).length
    · obtain ⟨hkl, hd⟩ := dgs_in l k hlt
      have hb := isD_bd hd
      have hi : ∀ W, _ := fun W => idx_st W l k hkl
      have hvt := val_take l k hkl
      have hp : 10 ^ k ≤ 10 ^ 3 := Nat.pow_le_pow_right (by omega) (by omega)
      have hpk : 10 ^ (k + 1) = 10 ^ k * 10 := Nat.pow_succ 10 k
      generalize l[k].toNat = c at *
      generalize hv1 : val (l.take (k + 1)) = v1 at *
      have HV1 := Lib.hid hv1
      generalize val (l.take k) = v0 at *
      have hv0 : v0 < 1000 := by omega
      have HT := Lib.hid hvt
      have HP := Lib.hid hpk
      have hvb' := Lib.hid hvb
      generalize hQ : 10 ^ k = Q at *
      clear hv1 hvt hpk hp hvb hQ
      have k1 : (k : Int) < (l.length : Int) := by omega
      have k2 : (k : Int) < 4 := by omega
      have k3 : 48 ≤ (c : Int) := by omega
      have k4 : (c : Int) ≤ 57 := by omega
      go_wp2
      go_round
      case rel =>
        have h1 := HT.out
        have h2 := HP.out
        have h3 := hvb'.out
        exact ⟨k + 1, val_int (by omega), by rw [HV1.out]; exact val_int (by omega), by omega, by rw [HV1.out, h2]; omega⟩
      case measure => simp [intOf]; omega
    · obtain rfl : k = (dgs l).length := by omega
      have hex : decide ((dgs l).length < l.length) = false ∨ (∃ c : Nat, ((dgs l).length : Int) < (l.length : Int) ∧ (∀ W, (Instr.index 9 (.string (st l)) (.int .i64 ((dgs l).length : Int))).run Tryd.prog W = .ok (.int .u8 (c : Int)) W) ∧
          (decide (48 ≤ (c : Int)) = false ∨ (48 ≤ (c : Int) ∧ decide ((c : Int) ≤ 57) = false) ∨ (48 ≤ (c : Int) ∧ (c : Int) ≤ 57 ∧ decide (((dgs l).length : Int) < 4) = false))) := by
        by_cases hx : (dgs l).length < l.length
        · right
          refine ⟨(l[(dgs l).length]'hx).toNat, by omega, fun W => idx_st W l _ hx, ?_⟩
          by_cases hd : (dgs l).length < 4
          · have := dgs_out l hx hd
            simp only [isD, decide_eq_false_iff_not] at this
            by_cases h48 : 48 ≤ (l[(dgs l).length]'hx).toNat
            · exact .inr (.inl ⟨by omega, decide_eq_false (by omega)⟩)
            · exact .inl (decide_eq_false (by omega))
          · by_cases h48 : 48 ≤ (l[(dgs l).length]'hx).toNat
            · by_cases h57 : (l[(dgs l).length]'hx).toNat ≤ 57
              · exact .inr (.inr ⟨by omega, by omega, decide_eq_false (by omega)⟩)
              · exact .inr (.inl ⟨by omega, decide_eq_false (by omega)⟩)
            · exact .inl (decide_eq_false (by omega))
        · exact .inl (decide_eq_false (by omega))
      have hfin : ((((dgs l).length : Int) == 0) = true ∧ V = 0 ∧ R = 0) ∨ (((((dgs l).length : Int) == 0) = false) ∧
          ((1 < ((dgs l).length : Int) ∧ ∃ c0 : Nat, (∀ W, (Instr.index 9 (.string (st l)) (.int .i64 0)).run Tryd.prog W = .ok (.int .u8 (c0 : Int)) W) ∧
            (((c0 : Int) == 48) = true ∧ V = 0 ∧ R = 0 ∨ ((c0 : Int) == 48) = false ∧ ((most : Int) < (val (dgs l) : Int) ∧ V = 0 ∧ R = 0 ∨ decide (most < val (dgs l)) = false ∧ V = val (dgs l) ∧ R = (dgs l).length))) ∨
           (decide (1 < ((dgs l).length : Int)) = false ∧ ((most : Int) < (val (dgs l) : Int) ∧ V = 0 ∧ R = 0 ∨ decide (most < val (dgs l)) = false ∧ V = val (dgs l) ∧ R = (dgs l).length)))) := by
        have hno : numOk most (dgs l) = false → V = 0 ∧ R = 0 := fun h => ⟨by rw [← HV.out]; exact nv_false h, by rw [← HR.out, rk, if_neg (by simp [h])]⟩
        have hok : numOk most (dgs l) = true → V = val (dgs l) ∧ R = (dgs l).length := fun h => ⟨by rw [← HV.out, nv, if_pos h], by rw [← HR.out, rk, if_pos h]⟩
        have hiff := numOk_iff most (dgs l)
        by_cases h0 : (dgs l).length = 0
        · left
          refine ⟨by simp only [beq_iff_eq]; omega, hno ?_⟩
          rw [Bool.eq_false_iff]
          intro h
          exact (hiff.1 h).1 (List.eq_nil_of_length_eq_zero h0)
        · right
          have hne : dgs l ≠ [] := fun h => h0 (by rw [h]; rfl)
          refine ⟨by rw [Bool.eq_false_iff]; intro h; simp only [beq_iff_eq] at h; omega, ?_⟩
          have hz : (dgs l)[0]? = some (l[0]'(by omega)) := by rw [List.getElem?_eq_getElem (by omega), dgs_get l 0 (by omega)]
          by_cases h1 : 1 < (dgs l).length
          · left
            refine ⟨by omega, (l[0]'(by omega)).toNat, fun W => idx_st W l 0 (by omega), ?_⟩
            by_cases h48 : (l[0]'(by omega)).toNat = 48
            · left
              refine ⟨by rw [h48]; rfl, hno ?_⟩
              rw [Bool.eq_false_iff]
              intro h
              refine (hiff.1 h).2.2.1 ⟨h1, ?_⟩
              rw [hz]
              congr 1
              exact UInt8.toNat_inj.1 h48
            · right
              refine ⟨by rw [Bool.eq_false_iff]; intro h; simp only [beq_iff_eq] at h; omega, ?_⟩
              by_cases hv : most < val (dgs l)
              · left
                refine ⟨by omega, hno ?_⟩
                rw [Bool.eq_false_iff]; intro h; have := (hiff.1 h).2.2.2; omega
              · right
                refine ⟨decide_eq_false (by omega), hok (hiff.2 ⟨hne, dgs_all l, ?_, by omega⟩)⟩
                rintro ⟨_, h⟩
                rw [hz] at h
                have := Option.some.inj h
                rw [this] at h48
                exact h48 rfl
          · right
            refine ⟨decide_eq_false (by omega), ?_⟩
            by_cases hv : most < val (dgs l)
            · left
              refine ⟨by omega, hno ?_⟩
              rw [Bool.eq_false_iff]; intro h; have := (hiff.1 h).2.2.2; omega
            · right
              exact ⟨decide_eq_false (by omega), hok (hiff.2 ⟨hne, dgs_all l, fun h => h1 h.1, by omega⟩)⟩
      rw [dgs_take] at *
      clear HV HR hvb hlt hk
      generalize val (dgs l) = n at *
      generalize (dgs l).length = d at *
      rcases hfin with ⟨f1, rfl, rfl⟩ | ⟨f1, (⟨f2, c0, f3, (⟨f4, rfl, rfl⟩ | ⟨f4, (⟨f5, rfl, rfl⟩ | ⟨f5, rfl, rfl⟩)⟩)⟩ | ⟨f2, (⟨f5, rfl, rfl⟩ | ⟨f5, rfl, rfl⟩)⟩)⟩
      all_goals rcases hex with e1 | ⟨c, e1, e2, (e3 | ⟨e3, e4⟩ | ⟨e3, e4, e5⟩)⟩
      all_goals go_wp2
      all_goals go_ret2
      all_goals exact ⟨rfl, rfl⟩
end Go.Proofs.YtkofpijhihghpaaDoor
