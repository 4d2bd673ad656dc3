/-
  Contracts of strings.Cut at a separator of one byte, and of addr.number. No statement is proved here.
-/
import Derived.Test.YtkofpijhihghpaaDoorLeaf
import Derived.Test.YtkofpijhihghpaaDoorTxt
import Derived.Lib.OthersKept
import Derived.Deep.LoopGhost
namespace Go.Proofs.YtkofpijhihghpaaDoor
open Go.RowKit Go.Joins

def cutA (c : UInt8) (l : List UInt8) : List UInt8 := l.takeWhile (· != c)
def cutB (c : UInt8) (l : List UInt8) : List UInt8 := (l.dropWhile (· != c)).tail
def cutF (c : UInt8) (l : List UInt8) : Bool := decide (c ∈ l)
theorem index_in (c : UInt8) (l : List UInt8) (h : c ∈ l) : Lib.indexByte l c = ((cutA c l).length : Int) := by
  unfold cutA
  induction l with
  | nil => simp at h
  | cons a l ih =>
    unfold Lib.indexByte
    by_cases e : a = c
    · subst e; simp
    · have h2 : c ∈ l := by
        rcases List.mem_cons.1 h with h | h
        · exact absurd h.symm e
        · exact h
      have := ih h2
      rw [this]
      simp [e]
theorem index_out (c : UInt8) (l : List UInt8) (h : c ∉ l) : Lib.indexByte l c = -1 ∧ cutA c l = l ∧ cutB c l = [] := by
  unfold cutA cutB
  induction l with
  | nil => simp [Lib.indexByte]
  | cons a l ih =>
    have e : a ≠ c := fun e => h (by simp [e])
    obtain ⟨h1, h2, h3⟩ := ih (fun hh => h (by simp [hh]))
    unfold Lib.indexByte
    simp [e, h1, h2, h3]
theorem cut_in (c : UInt8) (l : List UInt8) (h : c ∈ l) : l = cutA c l ++ c :: cutB c l := by
  obtain ⟨R, h1, h2⟩ := split_mem c l h
  unfold cutA cutB
  rw [h2]; exact h1
theorem st_ext1 (X Y : List UInt8) (n : Nat) (h : n = X.length) : (st (X ++ Y)).extract 0 n = st X := by
  subst h
  apply ByteArray.ext
  simp
theorem st_ext2 (X Y : List UInt8) (n m : Nat) (h : n = X.length) (hm : m = (X ++ Y).length) : (st (X ++ Y)).extract n m = st Y := by
  subst h hm
  apply ByteArray.ext
  simp
theorem cut2_any (l : List UInt8) (c : UInt8) (w : World) (hl : l.length ≤ 4611686018427387904) : Calls Tryd.prog 70 #[.string (st l), .string (st [c])] w fun e w' => e = .returned (.tuple #[.string (st (cutA c l)), .string (st (cutB c l)), .bool (cutF c l)]) ∧ Below w.heap.size w w' := by
  have hi : ∀ W, Calls Tryd.prog 77 #[.string (st l), .string (st [c])] W fun e w' => e = .returned (.int .i64 (Lib.indexByte l c)) ∧ w' = W := fun W => Tryd.stringslite_Index_one (st l) c W
  by_cases h : c ∈ l
  · have e := cut_in c l h
    rw [index_in c l h] at hi
    have hF : cutF c l = true := decide_eq_true h
    rw [hF]
    have hlen : l.length = (cutA c l).length + 1 + (cutB c l).length := by
      have := congrArg List.length e
      simp at this; omega
    generalize cutA c l = X at *
    generalize cutB c l = Y at *
    have hsz : (st l).size = X.length + 1 + Y.length := by rw [st_size, hlen]
    have x1 : (st l).extract 0 X.length = st X := by rw [e]; exact st_ext1 X (c :: Y) _ rfl
    have x2 : (st l).extract (X.length + 1) (X.length + 1 + Y.length) = st Y := by
      rw [e, show X ++ c :: Y = (X ++ [c]) ++ Y by simp]
      exact st_ext2 (X ++ [c]) Y _ _ (by simp) (by simp; omega)
    have s1 : (st [c]).size = 1 := rfl
    generalize X.length = n at *
    generalize Y.length = m at *
    generalize st l = S at *
    generalize st [c] = C at *
    go_enter Tryd.func70, Tryd.ntmps70
    go_wp2_with fail
    refine (hi _).mono ?_
    rintro e w1 ⟨rfl, rfl⟩
    clear hi
    go_wp2_with fail
    go_quiet (fail)
    go_wp2
    go_ret3
    exact ⟨rfl, below_draws _ _ _⟩
  · obtain ⟨h1, h2, h3⟩ := index_out c l h
    rw [h1] at hi
    rw [h2, h3, show cutF c l = false from decide_eq_false h]
    go_enter Tryd.func70, Tryd.ntmps70
    go_wp2_with fail
    refine (hi _).mono ?_
    rintro e w1 ⟨rfl, rfl⟩
    go_wp2
    go_ret3
    exact ⟨rfl, Below.refl _ _⟩
theorem cut_any (l : List UInt8) (c : UInt8) (w : World) (hl : l.length ≤ 4611686018427387904) : Calls Tryd.prog 55 #[.string (st l), .string (st [c])] w fun e w' => e = .returned (.tuple #[.string (st (cutA c l)), .string (st (cutB c l)), .bool (cutF c l)]) ∧ Below w.heap.size w w' := by
  go_enter Tryd.func55, Tryd.ntmps55
  go_wp2_with fail
  refine (cut2_any l c _ hl).mono ?_
  rintro e w1 ⟨rfl, hb⟩
  go_wp2
  go_ret3
  exact ⟨rfl, hb⟩
theorem closure_at (w : World) : PredAt Tryd.prog 72 #[] encR foreign w := fun W r _ => by
  unfold FnGives
  by_cases h : r < 48
  · have e : foreign r = true := by simp [foreign, h]
    rw [e]
    have h1 : (r : Int) < 48 := by omega
    go_enter Tryd.func72, Tryd.ntmps72
    go_wp2
    go_ret
    exact ⟨rfl, 0, rfl⟩
  · have e : foreign r = decide (57 < r) := by simp [foreign, h]
    rw [e]
    have h1 : decide ((r : Int) < 48) = false := decide_eq_false (by omega)
    go_enter Tryd.func72, Tryd.ntmps72
    go_wp2
    go_ret
    exact ⟨ret_bool (decide_eq_decide.2 (by omega)), 0, rfl⟩
/-- What addr.number tells. -/
def nv (most : Nat) (l : List UInt8) : Nat := if numOk most l = true then val l else 0
theorem contains_any (l : List UInt8) (w : World) : Calls Tryd.prog 71 #[.string (st l), .func (.func 72) #[] #[]] w fun e w' => e = .returned (.bool (!(l.all isD))) ∧ Below w.heap.size w w' := by
  have := Tryd.strings_ContainsFunc 72 #[] (enters_of Tryd.func72 (by kernel_rfl) rfl) foreign (st l) w (closure_at w)
  rwa [foreign_iff] at this
theorem nv_false {most : Nat} {l : List UInt8} (h : numOk most l = false) : nv most l = 0 := by unfold nv; rw [h]; rfl
theorem number_any (l : List UInt8) (most : Nat) (w : World) (hl : l.length ≤ 4611686018427387904) (hm : most < 100000) : Calls Tryd.prog 56 #[.string (st l), .int .i64 (most : Int)] w fun e w' => e = .returned (.tuple #[.int .i64 (nv most l : Int), .bool (numOk most l)]) ∧ Below w.heap.size w w' := by
  by_cases h0 : l = []
  · subst h0
    go_enter Tryd.func56, Tryd.ntmps56
    go_wp2_with fail
    refine (contains_any [] _).mono ?_
    rintro e w1 ⟨rfl, hb⟩
    go_wp2
    go_ret2
    exact ⟨rfl, hb⟩
  have hE : l.isEmpty = false := by simpa using h0
  by_cases h1 : l.all isD = true
  · have hD : ∀ (k : Nat) (h : k < l.length), 48 ≤ l[k].toNat ∧ l[k].toNat ≤ 57 := fun k h => isD_bd (List.all_eq_true.1 h1 _ (List.getElem_mem h))
    have hk0 : 0 < l.length := List.length_pos_iff.2 h0
    by_cases h2 : 1 < l.length ∧ l[0]? = some 48
    · have hn : numOk most l = false := by
        rw [Bool.eq_false_iff]; intro h; exact ((numOk_iff _ _).1 h).2.2.1 h2
      rw [nv_false hn, hn]
      have h3 : 1 < (l.length : Int) := by omega
      have h4 : ((((st l)[0]'(by rw [st_size]; exact hk0)).toNat : Int) == 48) = true := by
        rw [st_get]
        have := h2.2
        rw [List.getElem?_eq_getElem hk0] at this
        rw [Option.some.inj this]; rfl
      go_enter Tryd.func56, Tryd.ntmps56
      go_wp2_with fail
      refine (contains_any l _).mono ?_
      rintro e w1 ⟨rfl, hb⟩
      rw [h1]
      clear hD h2 hn
      go_wp2
      go_ret2
      exact ⟨rfl, hb⟩
    · have hok : val l ≤ most → numOk most l = true ∧ nv most l = val l := fun h => by
        have : numOk most l = true := (numOk_iff _ _).2 ⟨h0, List.all_eq_true.1 h1, h2, h⟩
        exact ⟨this, if_pos this⟩
      have hno : most < val l → numOk most l = false ∧ nv most l = 0 := fun h => by
        have : numOk most l = false := by rw [Bool.eq_false_iff]; intro h; have := ((numOk_iff _ _).1 h).2.2.2; omega
        exact ⟨this, nv_false this⟩
      have hcase : (∃ _ : 1 < (l.length : Int), ((((st l)[0]'(by rw [st_size]; exact hk0)).toNat : Int) == 48) = false) ∨ decide (1 < (l.length : Int)) = false := by
        by_cases h3 : 1 < l.length
        · left
          refine ⟨by omega, ?_⟩
          rw [st_get, Bool.eq_false_iff]
          intro h4
          apply h2
          refine ⟨h3, ?_⟩
          rw [List.getElem?_eq_getElem hk0]
          congr 1
          apply UInt8.toNat_inj.1
          show _ = 48
          simp only [beq_iff_eq] at h4
          omega
        · right; exact decide_eq_false (by omega)
      clear h2
      generalize hV : nv most l = V at *
      generalize numOk most l = O at *
      clear hV
      go_enter Tryd.func56, Tryd.ntmps56
      go_wp2_with fail
      refine (contains_any l _).mono ?_
      rintro e w1 ⟨rfl, hb⟩
      rw [h1]
      have HD := Lib.hid hD
      have HO := Lib.hid hok
      have HN := Lib.hid hno
      clear hD hok hno h1
      rcases hcase with ⟨h3, h4⟩ | h3
      all_goals go_wp2
      all_goals go_loopg [7] l.length (fun gf v wx => ∃ pos : Nat, v = .int .i64 (val (l.take pos) : Int) ∧ wx.heap[w1.heap.size]? = some (.stringIter (st l) pos) ∧ Below w1.heap.size w1 wx ∧ val (l.take pos) ≤ most ∧ l.length = pos + gf)
      all_goals first
        | exact ⟨0, by simp [val], World.iter_heap w1 (st l) 0, (Below.refl _ w1).alloc (Nat.le_refl _) _, by simp [val], by omega⟩
        | skip
      all_goals obtain ⟨pos, hv, hit, hbw, hle, hfu⟩ := hrel
      all_goals by_cases hps : pos < l.length
      · have hps' : pos < (st l).size := by rw [st_size]; exact hps
        have hd := HD.out pos hps
        have ht := val_take l pos hps
        have ht2 := val_take_le l (pos + 1)
        have hnx : ∀ ty, (Instr.next (.pointer (some ⟨w1.heap.size, 0, none⟩)) true ty).run Tryd.prog wr = _ := fun ty => Lib.run_next_ascii_at wr w1.heap.size (st l) pos ty hit hps' (by rw [st_get]; omega)
        rw [st_get] at hnx
        have hit2 := Lib.iterAt_heap wr w1.heap.size (st l) pos (pos + 1) hit
        have hbw2 := Lib.below_iterAt hbw (k := w1.heap.size) (Nat.le_refl _) (st l) (pos + 1)
        subst hv
        generalize wr.iterAt w1.heap.size (st l) (pos + 1) = W at *
        generalize HV : val (l.take (pos + 1)) = v1 at *
        have HV1 := Lib.hid HV
        generalize val (l.take pos) = v0 at *
        generalize l[pos].toNat = d at *
        clear hit HD HV
        by_cases hx : (most : Int) < (v0 : Int) * 10 + ((d : Int) - 48)
        · obtain ⟨rfl, rfl⟩ := HN.out (by omega)
          clear HO HN ht ht2 HV1
          go_wp2
          go_ret2
          exact ⟨rfl, hb.trans (hbw2.mono hb.size)⟩
        · clear HO HN
          have HF := Lib.hid hfu
          clear hfu
          go_wp2
          go_roundg (gk - 1)
          case measure => have := HF.out; omega
          case rel => exact ⟨pos + 1, by rw [HV1.out]; exact val_int (by omega), hit2, hbw2, by rw [HV1.out]; omega, by have := HF.out; omega⟩
      · have hps' : ¬ pos < (st l).size := by rw [st_size]; exact hps
        have hnx : ∀ ty, (Instr.next (.pointer (some ⟨w1.heap.size, 0, none⟩)) true ty).run Tryd.prog wr = _ := fun ty => Lib.run_next_end_at wr w1.heap.size (st l) pos ty hit hps'
        have e : l.take pos = l := List.take_of_length_le (by omega)
        rw [e] at hv hle
        subst hv
        obtain ⟨rfl, rfl⟩ := HO.out hle
        clear hit HD HO HN
        go_wp2
        go_ret2
        exact ⟨rfl, hb.trans (hbw.mono hb.size)⟩
      · have hps' : pos < (st l).size := by rw [st_size]; exact hps
        have hd := HD.out pos hps
        have ht := val_take l pos hps
        have ht2 := val_take_le l (pos + 1)
        have hnx : ∀ ty, (Instr.next (.pointer (some ⟨w1.heap.size, 0, none⟩)) true ty).run Tryd.prog wr = _ := fun ty => Lib.run_next_ascii_at wr w1.heap.size (st l) pos ty hit hps' (by rw [st_get]; omega)
        rw [st_get] at hnx
        have hit2 := Lib.iterAt_heap wr w1.heap.size (st l) pos (pos + 1) hit
        have hbw2 := Lib.below_iterAt hbw (k := w1.heap.size) (Nat.le_refl _) (st l) (pos + 1)
        subst hv
        generalize wr.iterAt w1.heap.size (st l) (pos + 1) = W at *
        generalize HV : val (l.take (pos + 1)) = v1 at *
        have HV1 := Lib.hid HV
        generalize val (l.take pos) = v0 at *
        generalize l[pos].toNat = d at *
        clear hit HD HV
        by_cases hx : (most : Int) < (v0 : Int) * 10 + ((d : Int) - 48)
        · obtain ⟨rfl, rfl⟩ := HN.out (by omega)
          clear HO HN ht ht2 HV1
          go_wp2
          go_ret2
          exact ⟨rfl, hb.trans (hbw2.mono hb.size)⟩
        · clear HO HN
          have HF := Lib.hid hfu
          clear hfu
          go_wp2
          go_roundg (gk - 1)
          case measure => have := HF.out; omega
          case rel => exact ⟨pos + 1, by rw [HV1.out]; exact val_int (by omega), hit2, hbw2, by rw [HV1.out]; omega, by have := HF.out; omega⟩
      · have hps' : ¬ pos < (st l).size := by rw [st_size]; exact hps
        have hnx : ∀ ty, (Instr.next (.pointer (some ⟨w1.heap.size, 0, none⟩)) true ty).run Tryd.prog wr = _ := fun ty => Lib.run_next_end_at wr w1.heap.size (st l) pos ty hit hps'
        have e : l.take pos = l := List.take_of_length_le (by omega)
        rw [e] at hv hle
        subst hv
        obtain ⟨rfl, rfl⟩ := HO.out hle
        clear hit HD HO HN
        go_wp2
        go_ret2
        exact ⟨rfl, hb.trans (hbw.mono hb.size)⟩
  · rw [Bool.not_eq_true] at h1
    have hn : numOk most l = false := by
      rw [Bool.eq_false_iff]; intro h
      have := List.all_eq_true.2 ((numOk_iff _ _).1 h).2.1
      rw [h1] at this; exact absurd this (by decide)
    rw [nv_false hn, hn]
    go_enter Tryd.func56, Tryd.ntmps56
    go_wp2_with fail
    refine (contains_any l _).mono ?_
    rintro e w1 ⟨rfl, hb⟩
    rw [h1]
    go_wp2
    go_ret2
    exact ⟨rfl, hb⟩
end Go.Proofs.YtkofpijhihghpaaDoor
