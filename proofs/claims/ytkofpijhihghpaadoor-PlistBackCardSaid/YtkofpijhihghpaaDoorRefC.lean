/-
  Contracts of the reference's decimal and Text. No statement is proved here.
-/
import Derived.Test.YtkofpijhihghpaaDoorText
import Derived.Laws.BytesArg
namespace Go.Proofs.YtkofpijhihghpaaDoor
open Go.RowKit Go.Joins

/-- The last digit. -/
def ld (v : Nat) : UInt8 := UInt8.ofNat (48 + v % 10)
theorem conv1 (W : World) (b v : Nat) (X : Int) (hX : X = 48 + (v : Int) % 10) (hb : b = W.heap.size) :
    (convert 92 9 (.slice (some ⟨b, 0, none⟩) 1 1)).run Tryd.prog (W.alloc (.cells #[.int .u8 X] 5)) = .ok (.string (st [ld v])) (W.alloc (.cells #[.int .u8 X] 5)) := by
  subst hX hb
  have := run_convert_bytes_arg (P := Tryd.prog) (W.alloc (.cells #[.int .u8 (48 + (v : Int) % 10)] 5)) 92 5 Tryd.underlying92 Tryd.underlying5 W.heap.size 0 1 1 [48 + (v : Int) % 10] rfl (by
    intro i hi
    obtain rfl : i = 0 := by omega
    simp) 9 Tryd.underlying9
  rw [this]
  congr 2
/-- What is still to come of the digits. -/
def rst (v : Nat) : List UInt8 := if v < 10 then [] else Lib.decDigits (v / 10)
theorem dec_rst (v : Nat) : Lib.decDigits v = rst v ++ [ld v] := by
  unfold rst ld
  by_cases h : v < 10
  · rw [if_pos h, Lib.decDigits_one h, Nat.mod_eq_of_lt h]; rfl
  · rw [if_neg h, Lib.decDigits, dif_neg h]
theorem rst_small {v : Nat} (h : v < 10) : rst v = [] := if_pos h
theorem rst_big {v : Nat} (h : ¬ v < 10) : rst v = rst (v / 10) ++ [ld (v / 10)] := by rw [rst, if_neg h, dec_rst]
theorem decimal_pos (u : Nat) (w : World) (h1 : u ≤ 9223372036854775807) : Calls Tryd.prog 64 #[.int .i64 (u : Int)] w fun e w' => e = .returned (.string (st (Lib.decDigits u))) ∧ Below w.heap.size w w' := by
  have hlen : (Lib.decDigits u).length ≤ 21 := by
    have := Lib.itoa_length_le (u : Int) (by omega) (by omega)
    rwa [Lib.itoa_nonneg] at this
  have hc := conv1 w w.heap.size u (48 + (u : Int) % 10) rfl rfl
  generalize hD : Lib.decDigits u = D at *
  have HD := Lib.hid hD
  clear hD
  have hn : decide ((u : Int) < 0) = false := decide_eq_false (by omega)
  go_enter Tryd.func64, Tryd.ntmps64
  go_wp2
  have hbw := below_alloc1 w (.cells #[.int .u8 (48 + (u : Int) % 10)] 5)
  generalize w.alloc (.cells #[.int .u8 (48 + (u : Int) % 10)] 5) = W1 at *
  go_loopg [4, 5] u (fun gf v4 v5 wx => ∃ (v : Nat) (t : List UInt8), v4 = .int .u64 (v : Int) ∧ v5 = .string (st (ld v :: t)) ∧ v ≤ gf ∧ v ≤ u ∧ Hid (D = rst v ++ (ld v :: t)) ∧ Below w.heap.size w wx)
  case atStart => exact ⟨u, [], rfl, rfl, Nat.le_refl _, Nat.le_refl _, Lib.hid (by rw [← HD.out]; exact dec_rst u), hbw⟩
  case round =>
    clear hbw hc
    obtain ⟨v, t, rfl, rfl, hv, hv2, he, hbw⟩ := hrel
    have htl : t.length ≤ 21 := by
      have := congrArg List.length he.out
      simp at this
      omega
    by_cases hlt : v < 10
    · have hlt' : decide (10 ≤ (v : Int)) = false := decide_eq_false (by omega)
      have he2 := he.out
      rw [rst_small hlt, List.nil_append] at he2
      generalize hS : ld v :: t = S at *
      clear hS
      subst he2
      go_wp2
      go_ret
      exact ⟨rfl, hbw⟩
    · have hlt' : 10 ≤ (v : Int) := by omega
      have hc := conv1 wr wr.heap.size (v / 10) (48 + (v : Int) / 10 % 10) (by omega) rfl
      have he2 := he.out
      rw [rst_big hlt] at he2
      have HE := Lib.hid he2
      have hz : (ld v :: t).length ≤ 22 := by simp; omega
      generalize ld v :: t = S at *
      clear he he2
      go_wp2
      go_roundg (gk - 1)
      case measure => omega
      case rel => exact ⟨v / 10, S, val_int (by omega), by apply congrArg Value.string; apply ByteArray.ext; simp, by omega, by omega, Lib.hid (by rw [HE.out]; simp), hbw.trans ((below_alloc1 wr _).mono hbw.size)⟩
set_option maxRecDepth 100000 in
theorem decimal_neg (u : Nat) (w : World) (h0 : 1 ≤ u) (h1 : u ≤ 9223372036854775808) : Calls Tryd.prog 64 #[.int .i64 (-(u : Int))] w fun e w' => e = .returned (.string (st (45 :: Lib.decDigits u))) ∧ Below w.heap.size w w' := by
  have hlen : (Lib.decDigits u).length ≤ 21 := by
    have := Lib.itoa_length_le (-(u : Int)) (by omega) (by omega)
    rw [Lib.itoa_neg u h0] at this
    simp at this
    omega
  have hc := conv1 w w.heap.size u (48 + (u : Int) % 10) rfl rfl
  generalize hD : Lib.decDigits u = D at *
  have HD := Lib.hid hD
  clear hD
  have hn : -(u : Int) < 0 := by omega
  have w1 : IntKind.u64.wrap (-(u : Int)) = 18446744073709551616 - (u : Int) := by
    simp [IntKind.wrap, IntKind.bits, IntKind.signed]
    omega
  have w2 : IntKind.u64.wrap (-(18446744073709551616 - (u : Int))) = (u : Int) := by
    simp [IntKind.wrap, IntKind.bits, IntKind.signed]
    omega
  generalize 18446744073709551616 - (u : Int) = V at *
  go_enter Tryd.func64, Tryd.ntmps64
  go_wp2
  have hbw := below_alloc1 w (.cells #[.int .u8 (48 + (u : Int) % 10)] 5)
  generalize w.alloc (.cells #[.int .u8 (48 + (u : Int) % 10)] 5) = W1 at *
  go_loopg [4, 5] u (fun gf v4 v5 wx => ∃ (v : Nat) (t : List UInt8), v4 = .int .u64 (v : Int) ∧ v5 = .string (st (ld v :: t)) ∧ v ≤ gf ∧ v ≤ u ∧ Hid (D = rst v ++ (ld v :: t)) ∧ Below w.heap.size w wx)
  case atStart => exact ⟨u, [], rfl, rfl, Nat.le_refl _, Nat.le_refl _, Lib.hid (by rw [← HD.out]; exact dec_rst u), hbw⟩
  case round =>
    clear hbw hc
    obtain ⟨v, t, rfl, rfl, hv, hv2, he, hbw⟩ := hrel
    have htl : t.length ≤ 21 := by
      have := congrArg List.length he.out
      simp at this
      omega
    by_cases hlt : v < 10
    · have hlt' : decide (10 ≤ (v : Int)) = false := decide_eq_false (by omega)
      have he2 := he.out
      rw [rst_small hlt, List.nil_append] at he2
      generalize hS : ld v :: t = S at *
      clear hS
      subst he2
      go_wp2
      go_ret
      exact ⟨congrArg (fun s => Ending.returned (.string s)) (ByteArray.ext (by simp)), hbw⟩
    · have hlt' : 10 ≤ (v : Int) := by omega
      have hc := conv1 wr wr.heap.size (v / 10) (48 + (v : Int) / 10 % 10) (by omega) rfl
      have he2 := he.out
      rw [rst_big hlt] at he2
      have HE := Lib.hid he2
      have hz : (ld v :: t).length ≤ 22 := by simp; omega
      generalize ld v :: t = S at *
      clear he he2
      go_wp2
      go_roundg (gk - 1)
      case measure => omega
      case rel => exact ⟨v / 10, S, val_int (by omega), by apply congrArg Value.string; apply ByteArray.ext; simp, by omega, by omega, Lib.hid (by rw [HE.out]; simp), hbw.trans ((below_alloc1 wr _).mono hbw.size)⟩
theorem decimal_any (n : Int) (w : World) (h0 : -9223372036854775808 ≤ n) (h1 : n ≤ 9223372036854775807) : Calls Tryd.prog 64 #[.int .i64 n] w fun e w' => e = .returned (.string (st (Lib.itoa n))) ∧ Below w.heap.size w w' := by
  by_cases h : 0 ≤ n
  · obtain ⟨u, rfl⟩ : ∃ u : Nat, n = (u : Int) := ⟨n.toNat, by omega⟩
    rw [Lib.itoa_nonneg]
    exact decimal_pos u w (by omega)
  · obtain ⟨u, rfl⟩ : ∃ u : Nat, n = -(u : Int) := ⟨(-n).toNat, by omega⟩
    rw [Lib.itoa_neg u (by omega)]
    exact decimal_neg u w (by omega) (by omega)
def tB (a3 a2 a1 a0 : List UInt8) : Nat → List UInt8
  | 4 => []
  | 3 => tA a3 a2 a1 a0 3
  | 2 => tA a3 a2 a1 a0 2
  | 1 => tA a3 a2 a1 a0 1
  | _ => tA a3 a2 a1 a0 0
def ix : Nat → Int
  | 4 => 0
  | 3 => 1
  | 2 => 2
  | 1 => 3
  | _ => 4
theorem rtext_any (A : Nat) (N : Int) (w : World) (hA : A < 4294967296) (h0 : -9223372036854775808 ≤ N) (h1 : N ≤ 9223372036854775807) : Calls Tryd.prog 43 #[pf A N] w fun e w' => e = .returned (.string (st (txt A N))) ∧ Below w.heap.size w w' := by
  have e1 : txt A N = (tA (Lib.itoa ((A / 16777216 : Nat) : Int)) (Lib.itoa ((A / 65536 % 256 : Nat) : Int)) (Lib.itoa ((A / 256 % 256 : Nat) : Int)) (Lib.itoa ((A % 256 : Nat) : Int)) 0 ++ [47]) ++ Lib.itoa N := by
    unfold txt tA
    simp only [Lib.itoa_nonneg, List.append_assoc, List.cons_append, List.nil_append]
  rw [e1]
  clear e1
  have b0 : bits .and .u32 (A : Int) 255 = ((A % 256 : Nat) : Int) := bits_byte A hA
  have b1 : bits .and .u32 ((A : Int) / 256) 255 = ((A / 256 % 256 : Nat) : Int) := bits_byte (A / 256) (by omega)
  have b2 : bits .and .u32 ((A : Int) / 65536) 255 = ((A / 65536 % 256 : Nat) : Int) := bits_byte (A / 65536) (by omega)
  have b3 : bits .and .u32 ((A : Int) / 16777216) 255 = ((A / 16777216 : Nat) : Int) := by
    have := bits_byte (A / 16777216) (by omega)
    rw [Nat.mod_eq_of_lt (show A / 16777216 < 256 by omega)] at this
    exact this
  have l0 : A % 256 < 256 := by omega
  have l1 : A / 256 % 256 < 256 := by omega
  have l2 : A / 65536 % 256 < 256 := by omega
  have l3 : A / 16777216 < 256 := by omega
  generalize A / 65536 % 256 = y2 at *
  generalize A / 256 % 256 = y1 at *
  generalize A % 256 = y0 at *
  generalize A / 16777216 = y3 at *
  have c0 : ∀ W, _ := fun W => decimal_any (y0 : Int) W (by omega) (by omega)
  have c1 : ∀ W, _ := fun W => decimal_any (y1 : Int) W (by omega) (by omega)
  have c2 : ∀ W, _ := fun W => decimal_any (y2 : Int) W (by omega) (by omega)
  have c3 : ∀ W, _ := fun W => decimal_any (y3 : Int) W (by omega) (by omega)
  have cN : ∀ W, _ := fun W => decimal_any N W h0 h1
  have z0 := Lib.itoa_length_le (y0 : Int) (by omega) (by omega)
  have z1 := Lib.itoa_length_le (y1 : Int) (by omega) (by omega)
  have z2 := Lib.itoa_length_le (y2 : Int) (by omega) (by omega)
  have z3 := Lib.itoa_length_le (y3 : Int) (by omega) (by omega)
  have zN := Lib.itoa_length_le N h0 h1
  generalize Lib.itoa (y0 : Int) = a0 at *
  generalize Lib.itoa (y1 : Int) = a1 at *
  generalize Lib.itoa (y2 : Int) = a2 at *
  generalize Lib.itoa (y3 : Int) = a3 at *
  generalize Lib.itoa N = aN at *
  have hk1 := alloc_at w (.cells #[.int .u32 (A : Int), .int .i64 N] 24) _ rfl
  have hbw := below_alloc1 w (.cells #[.int .u32 (A : Int), .int .i64 N] 24)
  go_enter Tryd.func43, Tryd.ntmps43
  go_wp2
  go_loopg [3, 4] 4 (fun gf v3 v4 wx => v4 = .int .i64 (ix gf) ∧ v3 = .string (st (tB a3 a2 a1 a0 gf)) ∧ gf ≤ 4 ∧ wx.heap[w.heap.size]? = some (.cells #[.int .u32 (A : Int), .int .i64 N] 24) ∧ Below w.heap.size w wx)
  case atStart => exact ⟨rfl, rfl, Nat.le_refl _, hk1, hbw⟩
  case round =>
    clear hk1 hbw
    obtain ⟨rfl, rfl, hg, hk, hb⟩ := hrel
    have q0 := (cell_of_block hk 0).trans (show _ = some (.int .u32 (A : Int)) by simp)
    have q1 := (cell_of_block hk 1).trans (show _ = some (.int .i64 N) by simp)
    have hlt : w.heap.size < wr.heap.size := by
      rcases Nat.lt_or_ge w.heap.size wr.heap.size with h | h
      · exact h
      · rw [Array.getElem?_eq_none h] at hk; cases hk
    match gk, hg with
    | 4, _ =>
      simp only [tB, ix]
      go_wp2_with fail
      refine (c3 _).mono ?_
      rintro e w2 ⟨rfl, hb2⟩
      have hk2 := (hb2.block w.heap.size hlt).trans hk
      have hbw := hb.trans (hb2.mono (by omega))
      clear hk hb q0 q1 hb2 hlt
      go_wp2
      go_roundg 3
      case measure => omega
      case rel => exact ⟨rfl, by apply congrArg Value.string; apply ByteArray.ext; simp [tB, tA], by omega, hk2, hbw⟩
    | 3, _ =>
      simp only [tB, tA, ix]
      go_wp2_with fail
      refine (c2 _).mono ?_
      rintro e w2 ⟨rfl, hb2⟩
      have hk2 := (hb2.block w.heap.size hlt).trans hk
      have hbw := hb.trans (hb2.mono (by omega))
      clear hk hb q0 q1 hb2 hlt
      go_wp2
      go_roundg 2
      case measure => omega
      case rel => exact ⟨rfl, by apply congrArg Value.string; apply ByteArray.ext; simp [tB, tA], by omega, hk2, hbw⟩
    | 2, _ =>
      simp only [tB, tA, ix]
      go_wp2_with fail
      refine (c1 _).mono ?_
      rintro e w2 ⟨rfl, hb2⟩
      have hk2 := (hb2.block w.heap.size hlt).trans hk
      have hbw := hb.trans (hb2.mono (by omega))
      clear hk hb q0 q1 hb2 hlt
      go_wp2
      go_roundg 1
      case measure => omega
      case rel => exact ⟨rfl, by apply congrArg Value.string; apply ByteArray.ext; simp [tB, tA], by omega, hk2, hbw⟩
    | 1, _ =>
      simp only [tB, tA, ix]
      go_wp2_with fail
      refine (c0 _).mono ?_
      rintro e w2 ⟨rfl, hb2⟩
      have hk2 := (hb2.block w.heap.size hlt).trans hk
      have hbw := hb.trans (hb2.mono (by omega))
      clear hk hb q0 q1 hb2 hlt
      go_wp2
      go_roundg 0
      case measure => omega
      case rel => exact ⟨rfl, by apply congrArg Value.string; apply ByteArray.ext; simp [tB, tA], by omega, hk2, hbw⟩
    | 0, _ =>
      simp only [ix, tB]
      have zT : (tA a3 a2 a1 a0 0).length ≤ 100 := by simp [tA]; omega
      generalize hT : tA a3 a2 a1 a0 0 = T at *
      have HT := Lib.hid hT
      clear hT
      go_wp2_with fail
      refine (cN _).mono ?_
      rintro e w2 ⟨rfl, hb2⟩
      go_wp2
      go_ret
      rw [HT.out]
      exact ⟨congrArg (fun s => Ending.returned (.string s)) (ByteArray.ext (by simp)), hb.trans (hb2.mono (by omega))⟩
end Go.Proofs.YtkofpijhihghpaaDoor
