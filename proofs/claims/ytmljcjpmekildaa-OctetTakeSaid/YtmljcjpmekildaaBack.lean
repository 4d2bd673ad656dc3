/-
  The walk of the law OctetBack: for every bytes, number and width the law returns true and writes nothing that was there before. No conditions.
-/
import Derived.Test.YtmljcjpmekildaaAlive
import Derived.OpenShut
namespace Go.Proofs.Ytmljcjpmekildaa
open Go.RowKit

/-- A slice of integers that came in, as this proof reads it. -/
theorem row_bs {k : IntKind} {w : World} {a : Option Addr} {len cap : Nat} {zs : List Int}
    (h : (a = none ∧ len = 0 ∧ cap = 0 ∧ zs = []) ∨ ∃ x, a = some x ∧ len ≤ cap ∧ cap ≤ maxLen ∧ zs.length = cap ∧ (∀ i, i < zs.length → w.cell? (x.add i) = some (.int k (zs.getD i 0))) ∧ ∀ n ∈ zs, (Lit.int k n).wf = true) :
    ∃ l, len = l.length ∧ l.length ≤ cap ∧ cap ≤ maxLen ∧ Bs k w w.heap.size a l ∧ ∀ n ∈ l, (Lit.int k n).wf = true := by
  rcases h with ⟨rfl, rfl, rfl, rfl⟩ | ⟨x, rfl, h1, h2, h3, h4, h5⟩
  · exact ⟨[], rfl, Nat.le_refl _, by unfold maxLen; omega, Bs.nil _, by simp⟩
  · refine ⟨zs.take len, by simp; omega, by simp; omega, h2, fun hl => ?_, fun n hn => h5 n (List.mem_of_mem_take hn)⟩
    have hpos : 0 < zs.length ∧ 0 < len := by
      have := List.length_pos_iff.2 hl
      rw [List.length_take] at this
      omega
    obtain ⟨b, off, spot⟩ := x
    have hc := h4 0 hpos.1
    have hspot : spot = none := by simpa [Addr.add] using World.cell?_spot hc
    subst hspot
    have hc0 : w.cell? ⟨b, off, none⟩ = some (.int k (zs.getD 0 0)) := by simpa [Addr.add] using hc
    refine ⟨b, off, rfl, World.block_lt_of_cell? w ⟨b, off, none⟩ hc0, fun i hi => ?_⟩
    rw [List.length_take] at hi
    have := h4 i (by omega)
    rw [addr_add] at this
    rw [this]
    simp [List.getD, show i < len by omega]
theorem byt_of {l : List Int} (h : ∀ n ∈ l, (Lit.int .u8 n).wf = true) : Byt l := fun x hx => by have := bounds_u8 (h x hx); omega
theorem wrd_of {l : List Int} (h : ∀ n ∈ l, (Lit.int .u32 n).wf = true) : Wrd l := fun x hx => by have := bounds_u32 (h x hx); omega

theorem put_arg (n m : Int) (w : World) (h3 : 0 ≤ n) (h4 : n < 4294967296) (hm : m < 1 ∨ 4 < m) :
    Calls Try.prog 9 #[.slice none 0 0, .int .u32 n, .int .i64 m] w fun e w' => ∃ A' c', e = .returned (.tuple #[.slice A' 0 c', .int .i64 1]) ∧ Below w.heap.size w w' := by
  have h := put_any none 0 [] 0 n m w (Bs.nil _) (Nat.zero_le _) (by simp) h3 h4
  have e1 : putE n m = 1 := by simp [putE, hm]
  have e2 : putL [] n m = [] := by simp [putL, e1]
  rw [e1, e2] at h
  exact h.mono fun e w' ⟨A', c', h1, _, h3⟩ => ⟨A', c', h1, h3⟩
theorem put_large (n m : Int) (w : World) (h3 : 0 ≤ n) (h4 : n < 4294967296) (hm : ¬ (m < 1 ∨ 4 < m)) (hf : 256 ^ m.toNat ≤ n) :
    Calls Try.prog 9 #[.slice none 0 0, .int .u32 n, .int .i64 m] w fun e w' => ∃ A' c', e = .returned (.tuple #[.slice A' 0 c', .int .i64 5]) ∧ Below w.heap.size w w' := by
  have h := put_any none 0 [] 0 n m w (Bs.nil _) (Nat.zero_le _) (by simp) h3 h4
  have e1 : putE n m = 5 := by simp [putE, hm, hf]
  have e2 : putL [] n m = [] := by simp [putL, e1]
  rw [e1, e2] at h
  exact h.mono fun e w' ⟨A', c', h1, _, h3⟩ => ⟨A', c', h1, h3⟩
theorem put_ok (n m : Int) (w : World) (h3 : 0 ≤ n) (h4 : n < 4294967296) (hm : ¬ (m < 1 ∨ 4 < m)) (hf : n < 256 ^ m.toNat) :
    Calls Try.prog 9 #[.slice none 0 0, .int .u32 n, .int .i64 m] w fun e w' => ∃ A' c' X, Hid (X = be n m.toNat) ∧ e = .returned (.tuple #[.slice A' X.length c', .int .i64 0]) ∧ Own .u8 5 w' w.heap.size A' c' X ∧ Below w.heap.size w w' := by
  have h := put_any none 0 [] 0 n m w (Bs.nil _) (Nat.zero_le _) (by simp) h3 h4
  have e1 : putE n m = 0 := by simp [putE, hm]; omega
  have e2 : putL [] n m = be n m.toNat := by simp [putL, e1]
  rw [e1, e2] at h
  exact h.mono fun e w' ⟨A', c', h1, h2, h3⟩ => ⟨A', c', _, rfl, h1, h2, h3⟩

theorem take_back (A : Option Addr) (c : Nat) (L X l : List Int) (B : Nat) (n m : Int) (w : World) (hX : X = be n m.toNat) (hL : L = X ++ l) (h1 : 1 ≤ m) (h2 : m ≤ 4) (h3 : 0 ≤ n) (hf : n < 256 ^ m.toNat) (hb : Bs .u8 w B A L) (hy : Byt l) (hc : L.length ≤ c) (hB : B ≤ w.heap.size) (hl : L.length ≤ 100000) :
    Calls Try.prog 11 #[.slice A L.length c, .int .i64 m] w fun e w' => ∃ A' c', e = .returned (.tuple #[.int .u32 n, .slice A' l.length c', .int .i64 0]) ∧ Own .u8 5 w' w.heap.size A' c' l ∧ Below w.heap.size w w' := by
  have hyL : Byt L := by rw [hL, hX]; exact (be_byt _ _).append hy
  have h := take_any A c L B m w hb hyL hc hB hl
  have hxl : X.length = m.toNat := by rw [hX, be_length]
  have e1 : takeE L m = 0 := by
    have : ¬ (L.length : Int) < m := by rw [hL, List.length_append]; omega
    simp [takeE, this]; omega
  have e2 : takeL L m = l := by simp only [takeL, e1, if_true]; rw [hL, ← hxl]; simp
  have e3 : takeN L m = n := by
    have : L.take m.toNat = X := by rw [hL, ← hxl]; simp
    simp only [takeN, e1, this, if_true]
    rw [hX]; exact num_be n m.toNat h3 (by omega)
  rw [e1, e2, e3] at h
  exact h
theorem rows_back (A : Option Addr) (c : Nat) (X : List Int) (B : Nat) (n m : Int) (w : World) (hX : X = be n m.toNat) (h1 : 1 ≤ m) (h2 : m ≤ 4) (h3 : 0 ≤ n) (hf : n < 256 ^ m.toNat) (hb : Bs .u8 w B A X) (hc : X.length ≤ c) (hB : B ≤ w.heap.size) :
    Calls Try.prog 17 #[.slice A X.length c, .int .i64 m] w fun e w' => ∃ A' c', e = .returned (.tuple #[.slice A' 1 c', .int .i64 0]) ∧ Own .u32 23 w' w.heap.size A' c' [n] ∧ Below w.heap.size w w' := by
  have hxl : X.length = m.toNat := by rw [hX, be_length]
  have h := rows_any A c X B m w hb (by rw [hX]; exact be_byt _ _) hc hB (by omega)
  have e1 : rowsE X m = 0 := by
    have : ((X.length : Int) % m != 0) = false := by
      rw [hxl, Int.toNat_of_nonneg (by omega)]; simp
    unfold rowsE; rw [if_neg (by omega), this]; rfl
  have e2 : rowsL X m = [n] := by
    have h1' : X.length / m.toNat = 1 := by rw [hxl]; exact Nat.div_self (by omega)
    simp only [rowsL, e1, if_true, h1', nums]
    simp only [Nat.zero_mul, List.drop_zero, List.nil_append]
    rw [List.take_of_length_le (by omega), hX, num_be n m.toNat h3 (by omega)]
  rw [e1, e2] at h
  exact h

set_option maxHeartbeats 2000000 in
theorem back_walk (A : Option Addr) (c : Nat) (l : List Int) (n m : Int) (w : World) (hb : Bs .u8 w w.heap.size A l) (hy : Byt l) (h3 : 0 ≤ n) (h4 : n < 4294967296) :
    Calls Try.prog 6 #[.slice A l.length c, .int .u32 n, .int .i64 m] w fun e w' => e = .returned (.bool true) ∧ Below w.heap.size w w' := by
  by_cases hl : 300 < l.length
  · go_enter Try.func6, Try.ntmps6
    go_wp2_with (go_at_call 8; refine (alive_any _).mono ?_; rintro e w' ⟨rfl, hB⟩)
    go_ret
    exact ⟨rfl, hB⟩
  have hl' : l.length ≤ 300 := by omega
  by_cases hm : m < 1 ∨ 4 < m
  · have HM := Lib.hid hm
    rcases hm with hm | hm
    · go_enter Try.func6, Try.ntmps6
      go_wp2_with (first | (go_at_call 9; refine (put_arg _ _ _ h3 h4 HM.out).mono ?_; rintro e w1 ⟨A1, c1, rfl, hB1⟩) | (go_at_call 8; refine (alive_any _).mono ?_; rintro e w' ⟨rfl, hB⟩))
      go_ret
      exact ⟨rfl, hB1.trans (hB.mono hB1.size)⟩
    · have hm1 : ¬ m < 1 := by omega
      go_enter Try.func6, Try.ntmps6
      go_wp2_with (first | (go_at_call 9; refine (put_arg _ _ _ h3 h4 HM.out).mono ?_; rintro e w1 ⟨A1, c1, rfl, hB1⟩) | (go_at_call 8; refine (alive_any _).mono ?_; rintro e w' ⟨rfl, hB⟩))
      go_ret
      exact ⟨rfl, hB1.trans (hB.mono hB1.size)⟩
  have HM := Lib.hid hm
  have h1 : 1 ≤ m := by omega
  have h2 : m ≤ 4 := by omega
  by_cases hf : 256 ^ m.toNat ≤ n
  · have HF := Lib.hid hf
    have hg1 : decide (m < 1) = false := by simp; omega
    have hg4 : decide (4 < m) = false := by simp; omega
    clear hm hf
    go_enter Try.func6, Try.ntmps6
    go_wp2_with (first | (go_at_call 9; refine (put_large _ _ _ h3 h4 HM.out HF.out).mono ?_; rintro e w1 ⟨A1, c1, rfl, hB1⟩) | (go_at_call 8; refine (alive_any _).mono ?_; rintro e w' ⟨rfl, hB⟩))
    go_ret
    exact ⟨rfl, hB1.trans (hB.mono hB1.size)⟩
  have hf' : n < 256 ^ m.toNat := by omega
  have HF := Lib.hid hf'
  clear hm hf hf'
  obtain ⟨i0, hi, hz0, hz1, hz2⟩ := info_parts info5
  go_enter Try.func6, Try.ntmps6
  go_wp2_with fail
  refine (put_ok _ _ _ h3 h4 HM.out HF.out).mono ?_
  rintro e w1 ⟨A1, c1, X, hX, rfl, hO1, hB1⟩
  have hxl : X.length ≤ 4 := by rw [hX.out, be_length]; omega
  have hs1 := hB1.size
  go_wp2_with (first | (at_builtin; refine wpList_app _ rfl (.tmp 44) (.tmp 45) 22 rfl w1.heap.size 5 .u8 i0 _ 1 Try.underlying22 hi hz0 hz1 hz2 rfl _ _ [] rfl (Own.empty w1 w1.heap.size (Nat.le_refl _) .u8 5) _ _ _ X rfl (hO1.alloc _).bs ?_ ?_ ?_ ?_; (simp [maxLen] <;> omega); (simp <;> omega); (simp <;> omega); intro l3 A3 c3 w3 hl3 ho3 hb3; have hl3l : l3.length ≤ 4 := (by rw [hl3.out, List.nil_append]; exact hxl); have hb13 : Below w1.heap.size w1 w3 := ((Below.refl _ w1).alloc (Nat.le_refl _) _).trans hb3; have hs3 := hb13.size) | (at_builtin; refine wpList_app _ rfl (.tmp 46) (.tmp 47) 22 rfl w1.heap.size 5 .u8 i0 _ 1 Try.underlying22 hi hz0 hz1 hz2 rfl _ _ l3 rfl ho3 _ _ _ l rfl (hb.below (hB1.trans (hb13.mono hs1))) ?_ ?_ ?_ ?_; (simp [maxLen] <;> omega); (simp <;> omega); exact hs3; intro l4 A4 c4 w4 hl4 ho4 hb4; have hs4 := hb4.size))
  have hl4l : l4.length ≤ 304 := by rw [hl4.out, List.length_append]; omega
  have hb14 : Below w1.heap.size w1 w4 := hb13.trans hb4
  refine (take_back _ _ l4 X l w4.heap.size n m w4 hX.out ?_ h1 h2 h3 HF.out ho4.bs hy ho4.cap_le (Nat.le_refl _) (by omega)).mono ?_
  · rw [hl4.out, hl3.out, List.nil_append]
  rintro e w5 ⟨A5, c5, rfl, hO5, hB5⟩
  have hb15 : Below w1.heap.size w1 w5 := hb14.trans (hB5.mono (by omega))
  have hO15 := hO1.below hb15 (Nat.le_refl _)
  go_wp2_with fail
  refine (rows_back _ _ X w5.heap.size n m w5 hX.out h1 h2 h3 HF.out hO15.bs hO15.cap_le (Nat.le_refl _)).mono ?_
  rintro e w6 ⟨A6, c6, rfl, hO6, hB6⟩
  go_wp2_with fail
  refine (alive_any _).mono ?_
  rintro e w7 ⟨rfl, hB7⟩
  have hs5 := hB5.size
  have hs6 := hB6.size
  have hb17 : Below w1.heap.size w1 w7 := (hb15.trans (hB6.mono (by omega))).trans (hB7.mono (by omega))
  have hb7 := hb.below (hB1.trans (hb17.mono hs1))
  have hO57 := (hO5.below hB6 (Nat.le_refl _)).below hB7 (Nat.le_refl _)
  have hO67 := hO6.below hB7 (Nat.le_refl _)
  have hsA : (convert 22 9 (.slice A5 l.length c5)).run Try.prog w7 = .ok (.string (strOfNums l)) w7 := run_str w7 22 5 9 Try.underlying22 Try.underlying5 Try.underlying9 _ A5 c5 l hO57.bs
  have hsB : (convert 22 9 (.slice A l.length c)).run Try.prog w7 = .ok (.string (strOfNums l)) w7 := run_str w7 22 5 9 Try.underlying22 Try.underlying5 Try.underlying9 _ A c l hb7
  have hxm : ((X.length : Int) == m) = true := by rw [hX.out, be_length, Int.toNat_of_nonneg (by omega)]; simp
  obtain ⟨b6, o6, rfl, -, hc6⟩ := hO67.bs.at_ (i := 0) (by simp)
  have hc6' : w7.cell? ⟨b6, o6, none⟩ = some (.int .u32 n) := hc6
  have HE : Hid (Below w.heap.size w w7) := hB1.trans (hb17.mono hs1)
  clear hc6 hO57 hO67 hb7 hb17 hO6 hO5 hO1 hO15 hb15 hb14 hB5 hB6 hB7 hB1 hb13 hb4 ho3 ho4 hl4 hl3
  go_wp2
  go_ret
  exact ⟨rfl, HE.out⟩
end Go.Proofs.Ytmljcjpmekildaa
