/-
  Contract of addr.Text. No statement is proved here.
-/
import Derived.Test.YtkofpijhihghpaaDoorPrs
import Derived.Lib.ItoaMem
import Derived.Lib.ItoaLen
namespace Go.Proofs.YtkofpijhihghpaaDoor
open Go.RowKit Go.Joins

/-- The table of powers of ten lies as its initialiser lays it. -/
abbrev Tab (w : World) : Prop := Lib.TabIs Tryd.prog w "internal/strconv.uint64pow10" .u64 Lib.pow10Tab
theorem gPow : Tryd.prog.globalNamed "internal/strconv.uint64pow10" = some 1 := by kernel_rfl
theorem Tab.below {w w' : World} {B : Nat} (h : Tab w) (hb : Below B w w') (hB : w.heap.size ≤ B) : Tab w' := tab_stays gPow h hb hB
theorem Tab.lt {w : World} (h : Tab w) : 1 < w.heap.size := by
  rcases Nat.lt_or_ge 1 w.heap.size with h' | h'
  · exact h'
  · unfold Tab Lib.TabIs World.var? at h
    rw [gPow] at h
    simp only [Option.bind_some] at h
    rw [Array.getElem?_eq_none h'] at h; cases h
theorem below_grow (w : World) (k : Nat) (os : Array Obj) : Below w.heap.size w (Sort.grow (w.drewN k) os) :=
  ⟨rfl, rfl, rfl, by simp [Sort.grow, World.drewN], fun k hk => by simp [Sort.grow, World.drewN, Array.getElem?_append, hk]⟩
theorem itoa_any (n : Int) (w : World) (h0 : -9223372036854775808 ≤ n) (h1 : n ≤ 9223372036854775807) (ht : Tab w) : Calls Tryd.prog 34 #[.int .i64 n] w fun e w' => e = .returned (.string (st (Lib.itoa n))) ∧ Below w.heap.size w w' :=
  (Tryd.strconv_Itoa n h0 h1 w ht).mono fun _ _ ⟨he, k, os, hw⟩ => ⟨he, hw ▸ below_grow w k os⟩
/-- The first numbers of a text. -/
def tA (a3 a2 a1 a0 : List UInt8) : Nat → List UInt8
  | 3 => a3
  | 2 => a3 ++ ([46] ++ a2)
  | 1 => (a3 ++ ([46] ++ a2)) ++ ([46] ++ a1)
  | _ => ((a3 ++ ([46] ++ a2)) ++ ([46] ++ a1)) ++ ([46] ++ a0)
def sh : Nat → Int
  | 3 => 16
  | 2 => 8
  | 1 => 0
  | _ => -8
theorem text_any (A : Nat) (N : Int) (w : World) (hA : A < 4294967296) (h0 : -9223372036854775808 ≤ N) (h1 : N ≤ 9223372036854775807) (ht : Tab w) : Calls Tryd.prog 35 #[pf A N] w fun e w' => e = .returned (.string (st (txt A N))) ∧ Below w.heap.size w w' := by
  have e1 : txt A N = (tA (Lib.itoa ((A / 16777216 : Nat) : Int)) (Lib.itoa ((A / 65536 % 256 : Nat) : Int)) (Lib.itoa ((A / 256 % 256 : Nat) : Int)) (Lib.itoa ((A % 256 : Nat) : Int)) 0 ++ [47]) ++ Lib.itoa N := by
    unfold txt tA
    simp only [Lib.itoa_nonneg, List.append_assoc, List.cons_append, List.nil_append]
  rw [e1]
  clear e1
  have b0 : bits .and .u32 (A : Int) 255 = ((A % 256 : Nat) : Int) := bits_byte A hA
  have b1 : bits .and .u32 ((A : Int) / 256) 255 = ((A / 256 % 256 : Nat) : Int) := bits_byte (A / 256) (by omega)
  have b2 : bits .and .u32 ((A : Int) / 65536) 255 = ((A / 65536 % 256 : Nat) : Int) := bits_byte (A / 65536) (by omega)
  have b3 : (A : Int) / 16777216 = ((A / 16777216 : Nat) : Int) := by omega
  have l0 : A % 256 < 256 := by omega
  have l1 : A / 256 % 256 < 256 := by omega
  have l2 : A / 65536 % 256 < 256 := by omega
  have l3 : A / 16777216 < 256 := by omega
  generalize A / 65536 % 256 = y2 at *
  generalize A / 256 % 256 = y1 at *
  generalize A % 256 = y0 at *
  generalize A / 16777216 = y3 at *
  have c0 : ∀ W, Tab W → _ := fun W hT => itoa_any (y0 : Int) W (by omega) (by omega) hT
  have c1 : ∀ W, Tab W → _ := fun W hT => itoa_any (y1 : Int) W (by omega) (by omega) hT
  have c2 : ∀ W, Tab W → _ := fun W hT => itoa_any (y2 : Int) W (by omega) (by omega) hT
  have c3 : ∀ W, Tab W → _ := fun W hT => itoa_any (y3 : Int) W (by omega) (by omega) hT
  have cN : ∀ W, Tab W → _ := fun W hT => itoa_any N W h0 h1 hT
  have z0 := Lib.itoa_length_le (y0 : Int) (by omega) (by omega)
  have z1 := Lib.itoa_length_le (y1 : Int) (by omega) (by omega)
  have z2 := Lib.itoa_length_le (y2 : Int) (by omega) (by omega)
  have z3 := Lib.itoa_length_le (y3 : Int) (by omega) (by omega)
  have zN := Lib.itoa_length_le N h0 h1
  generalize Lib.itoa (y0 : Int) = a0 at *
  generalize Lib.itoa (y1 : Int) = a1 at *
  generalize Lib.itoa (y2 : Int) = a2 at *
  generalize Lib.itoa (y3 : Int) = a3 at *
  generalize Lib.itoa N = aN at *
  go_enter Tryd.func35, Tryd.ntmps35
  go_wp2_with fail
  refine (c3 _ (ht.below (below_alloc1 _ _) (Nat.le_refl _))).mono ?_
  rintro e w1 ⟨rfl, hb1⟩
  have hk1 := (hb1.block w.heap.size (by simp)).trans (alloc_at _ _ _ rfl)
  have hbw := (below_alloc1 _ _).trans (hb1.mono (by simp))
  clear hb1
  go_wp2
  go_loopg [3, 4] 3 (fun gf v3 v4 wx => v4 = .int .i64 (sh gf) ∧ v3 = .string (st (tA a3 a2 a1 a0 gf)) ∧ gf ≤ 3 ∧ wx.heap[w.heap.size]? = some (.cells #[.int .u32 (A : Int), .int .i64 N] 24) ∧ Below w.heap.size w wx)
  case atStart => exact ⟨rfl, rfl, Nat.le_refl _, hk1, hbw⟩
  case round =>
    clear hk1 hbw
    obtain ⟨rfl, rfl, hg, hk, hb⟩ := hrel
    have tW := ht.below hb (Nat.le_refl _)
    have q0 := (cell_of_block hk 0).trans (show _ = some (.int .u32 (A : Int)) by simp)
    have q1 := (cell_of_block hk 1).trans (show _ = some (.int .i64 N) by simp)
    have hlt : w.heap.size < wr.heap.size := by
      rcases Nat.lt_or_ge w.heap.size wr.heap.size with h | h
      · exact h
      · rw [Array.getElem?_eq_none h] at hk; cases hk
    match gk, hg with
    | 3, _ =>
      simp only [tA, sh]
      go_wp2_with fail
      refine (c2 _ tW).mono ?_
      rintro e w2 ⟨rfl, hb2⟩
      have hk2 := (hb2.block w.heap.size hlt).trans hk
      have hbw := hb.trans (hb2.mono (by omega))
      clear hk hb tW q0 q1 hb2 hlt
      go_wp2
      go_roundg 2
      case measure => omega
      case rel => exact ⟨rfl, by apply congrArg Value.string; apply ByteArray.ext; simp [tA], by omega, hk2, hbw⟩
    | 2, _ =>
      simp only [tA, sh]
      go_wp2_with fail
      refine (c1 _ tW).mono ?_
      rintro e w2 ⟨rfl, hb2⟩
      have hk2 := (hb2.block w.heap.size hlt).trans hk
      have hbw := hb.trans (hb2.mono (by omega))
      clear hk hb tW q0 q1 hb2 hlt
      go_wp2
      go_roundg 1
      case measure => omega
      case rel => exact ⟨rfl, by apply congrArg Value.string; apply ByteArray.ext; simp [tA], by omega, hk2, hbw⟩
    | 1, _ =>
      simp only [tA, sh]
      go_wp2_with fail
      refine (c0 _ tW).mono ?_
      rintro e w2 ⟨rfl, hb2⟩
      have hk2 := (hb2.block w.heap.size hlt).trans hk
      have hbw := hb.trans (hb2.mono (by omega))
      clear hk hb tW q0 q1 hb2 hlt
      go_wp2
      go_roundg 0
      case measure => omega
      case rel => exact ⟨rfl, by apply congrArg Value.string; apply ByteArray.ext; simp [tA], by omega, hk2, hbw⟩
    | 0, _ =>
      simp only [sh]
      have zT : (tA a3 a2 a1 a0 0).length ≤ 100 := by simp [tA]; omega
      generalize hT : tA a3 a2 a1 a0 0 = T at *
      have HT := Lib.hid hT
      clear hT
      go_wp2_with fail
      refine (cN _ tW).mono ?_
      rintro e w2 ⟨rfl, hb2⟩
      go_wp2
      go_ret
      rw [HT.out]
      exact ⟨congrArg (fun s => Ending.returned (.string s)) (ByteArray.ext (by simp)), hb.trans (hb2.mono (by omega))⟩

/-! ### alive -/
theorem al1 : prs 4 0 [49, 48, 46, 48, 46, 48, 46, 48, 47, 56] = (167772160, 8, 0) := by decide +kernel
theorem al2 : prs 4 0 [49, 48, 46, 49, 46, 48, 46, 48, 47, 49, 54] = (167837696, 16, 0) := by decide +kernel
theorem al3 : prs 4 0 [49, 48, 46, 49, 46, 48, 46, 48, 47, 56] = (0, 0, 1) := by decide +kernel
theorem al4 : covp 167772160 8 167837696 16 = true := by decide +kernel
theorem al5 : covp 167837696 16 167772160 8 = false := by decide +kernel
theorem al6 : txt 167837696 16 = [49, 48, 46, 49, 46, 48, 46, 48, 47, 49, 54] := by decide +kernel
end Go.Proofs.YtkofpijhihghpaaDoor
