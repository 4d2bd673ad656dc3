/-
  The law AddrBack walked: it returns true, for every prefix and every number.
-/
import Derived.Test.YtmiaphgjcajbhaaDoorOrder
namespace Go.Proofs.YtmiaphgjcajbhaaDoor
open Go.RowKit Go.Joins

theorem txt_len (A : Nat) (N : Int) (hA : A < 4294967296) (h0 : -9223372036854775808 ≤ N) (h1 : N ≤ 9223372036854775807) : (txt A N).length ≤ 200 := by
  have z0 := Lib.itoa_length_le ((A % 256 : Nat) : Int) (by omega) (by omega)
  have z1 := Lib.itoa_length_le ((A / 256 % 256 : Nat) : Int) (by omega) (by omega)
  have z2 := Lib.itoa_length_le ((A / 65536 % 256 : Nat) : Int) (by omega) (by omega)
  have z3 := Lib.itoa_length_le ((A / 16777216 : Nat) : Int) (by omega) (by omega)
  have zN := Lib.itoa_length_le N h0 h1
  rw [Lib.itoa_nonneg] at z0 z1 z2 z3
  unfold txt
  simp only [List.length_append, List.length_cons]
  omega
theorem long_mk (n : Int) (w : World) (h0 : 0 ≤ n) (h1 : n ≤ 32) : Calls Tryd.prog 11 #[.int .u32 (mk (cl n) : Int)] w fun e w' => e = .returned (.tuple #[.int .i64 n, .int .i64 0]) ∧ Below w.heap.size w w' := by
  have h := long_any (mk (cl n)) w (mk_lt _)
  rwa [oc_mk _ (cl_le n), cl_nat _ (cl_le n), if_pos rfl, cl_in h0 h1] at h
theorem box1_at (w : World) (A : Nat) (N : Int) (W : World) (h : Below (w.alloc (.cells #[.int .u32 (A : Int), .int .i64 N] 24)).heap.size (w.alloc (.cells #[.int .u32 (A : Int), .int .i64 N] 24)) W) :
    W.cell? ⟨w.heap.size, 0, none⟩ = some (.int .u32 (A : Int)) ∧ W.cell? ⟨w.heap.size, 1, none⟩ = some (.int .i64 N) := by
  have k0 := (h.block w.heap.size (by simp)).trans (alloc_at _ _ _ rfl)
  exact ⟨(cell_of_block k0 0).trans rfl, (cell_of_block k0 1).trans rfl⟩
theorem prs_ok {A : Nat} {N : Int} (hA : A < 4294967296) (h : okp A N = true) : pr (prs 4 0 (txt A N)) = .tuple #[pf A N, .int .i64 0] := by
  have hl : lenOk N = true := by simp only [okp, Bool.and_eq_true] at h; exact h.1
  rw [prs_txt A N hA, if_pos hl, if_pos h]
  simp only [lenOk, decide_eq_true_eq] at hl
  show Value.tuple #[pf A ((N.toNat : Nat) : Int), .int .i64 0] = _
  rw [show ((N.toNat : Nat) : Int) = N by omega]
theorem prs_no {A : Nat} {N : Int} (hA : A < 4294967296) (h : okp A N = false) : ∃ e : Int, e ≠ 0 ∧ pr (prs 4 0 (txt A N)) = .tuple #[pf 0 0, .int .i64 e] := by
  rw [prs_txt A N hA]
  split
  · rw [if_neg (by simp [h])]
    exact ⟨1, by decide, rfl⟩
  · exact ⟨3, by decide, rfl⟩
theorem back_in1 (A : Nat) (N n : Int) (w : World) (hA : A < 4294967296) (h0 : -9223372036854775808 ≤ N) (h1 : N ≤ 9223372036854775807) (ht : Tab w) (h : okp A N = true) (g0 : 0 ≤ n) (g1 : n ≤ 32) :
    Calls Tryd.prog 7 #[pf A N, .int .i64 n] w fun e w' => e = .returned (.bool true) ∧ Below w.heap.size w w' := by
  have cT := fun W hW => text_any A N W hA h0 h1 hW
  have cP := fun W => parse_any (txt A N) W (by have := txt_len A N hA h0 h1; omega)
  have K := box1_at w A N
  have hbB : Below w.heap.size w (w.alloc (.cells #[.int .u32 (A : Int), .int .i64 N] 24)) := below_alloc1 _ _
  obtain ⟨k0, k1⟩ := K _ (Below.refl _ _)
  rw [prs_ok hA h] at cP
  have cM := fun W => may_any A N W hA
  rw [h] at cM
  go_enter Tryd.func7, Tryd.ntmps7
  go_wp2_with fail
  have hbW := Below.refl (w.alloc (.cells #[.int .u32 (A : Int), .int .i64 N] 24)).heap.size (w.alloc (.cells #[.int .u32 (A : Int), .int .i64 N] 24))
  generalize w.alloc (.cells #[.int .u32 (A : Int), .int .i64 N] 24) = W0 at *
  refine (mask_any n _).mono ?_
  rintro e W1 ⟨rfl, rfl⟩
  go_wp2_with fail
  refine (long_mk n _ g0 g1).mono ?_
  rintro e W2 ⟨rfl, hb2⟩
  replace hbW := hbW.trans (hb2.mono hbW.size)
  clear hb2 k0 k1
  obtain ⟨k0, k1⟩ := K _ hbW
  go_wp2_with fail
  refine (cT _ (ht.grown (hbB.trans (hbW.mono hbB.size)))).mono ?_
  rintro e W3 ⟨rfl, hb3⟩
  replace hbW := hbW.trans (hb3.mono hbW.size)
  clear hb3 k0 k1
  obtain ⟨k0, k1⟩ := K _ hbW
  go_wp2_with fail
  refine (cP _).mono ?_
  rintro e W4 ⟨rfl, hb4⟩
  replace hbW := hbW.trans (hb4.mono hbW.size)
  clear hb4 k0 k1
  have hbX := hbW.trans ((below_alloc1 W4 (.cells #[.int .u32 (A : Int), .int .i64 N] 24)).mono hbW.size)
  have kk := alloc_at W4 (.cells #[.int .u32 (A : Int), .int .i64 N] 24) _ rfl
  have ks : W4.heap.size < (W4.alloc (.cells #[.int .u32 (A : Int), .int .i64 N] 24)).heap.size := by simp
  obtain ⟨k0, k1⟩ := K _ hbX
  go_wp2_with fail
  clear hbW
  generalize W4.alloc (.cells #[.int .u32 (A : Int), .int .i64 N] 24) = W5 at *
  refine (cM _).mono ?_
  rintro e W6 ⟨rfl, hb6⟩
  have hbW := hbX.trans (hb6.mono hbX.size)
  have kk := (hb6.block _ ks).trans kk
  have ks := Nat.lt_of_lt_of_le ks hb6.size
  clear hbX hb6 k0 k1
  obtain ⟨k0, k1⟩ := K _ hbW
  go_wp2_with fail
  refine (alive_any _ (ht.grown (hbB.trans (hbW.mono hbB.size)))).mono ?_
  rintro e W7 ⟨rfl, hb7⟩
  replace hbW := hbW.trans (hb7.mono hbW.size)
  have kk := (hb7.block _ ks).trans kk
  clear hb7 k0 k1
  obtain ⟨k0, k1⟩ := K _ hbW
  have y0 := (cell_of_block kk 0).trans (show _ = some (.int .u32 (A : Int)) by simp)
  have y1 := (cell_of_block kk 1).trans (show _ = some (.int .i64 N) by simp)
  go_wp2
  go_ret
  exact ⟨rfl, hbB.trans (hbW.mono hbB.size)⟩
theorem back_low1 (A : Nat) (N n : Int) (w : World) (hA : A < 4294967296) (h0 : -9223372036854775808 ≤ N) (h1 : N ≤ 9223372036854775807) (ht : Tab w) (h : okp A N = true) (g0 : n < 0) :
    Calls Tryd.prog 7 #[pf A N, .int .i64 n] w fun e w' => e = .returned (.bool true) ∧ Below w.heap.size w w' := by
  have cT := fun W hW => text_any A N W hA h0 h1 hW
  have cP := fun W => parse_any (txt A N) W (by have := txt_len A N hA h0 h1; omega)
  have K := box1_at w A N
  have hbB : Below w.heap.size w (w.alloc (.cells #[.int .u32 (A : Int), .int .i64 N] 24)) := below_alloc1 _ _
  obtain ⟨k0, k1⟩ := K _ (Below.refl _ _)
  rw [prs_ok hA h] at cP
  have cM := fun W => may_any A N W hA
  rw [h] at cM
  go_enter Tryd.func7, Tryd.ntmps7
  go_wp2_with fail
  have hbW := Below.refl (w.alloc (.cells #[.int .u32 (A : Int), .int .i64 N] 24)).heap.size (w.alloc (.cells #[.int .u32 (A : Int), .int .i64 N] 24))
  generalize w.alloc (.cells #[.int .u32 (A : Int), .int .i64 N] 24) = W0 at *
  refine (cT _ (ht.grown (hbB.trans (hbW.mono hbB.size)))).mono ?_
  rintro e W3 ⟨rfl, hb3⟩
  replace hbW := hbW.trans (hb3.mono hbW.size)
  clear hb3 k0 k1
  obtain ⟨k0, k1⟩ := K _ hbW
  go_wp2_with fail
  refine (cP _).mono ?_
  rintro e W4 ⟨rfl, hb4⟩
  replace hbW := hbW.trans (hb4.mono hbW.size)
  clear hb4 k0 k1
  have hbX := hbW.trans ((below_alloc1 W4 (.cells #[.int .u32 (A : Int), .int .i64 N] 24)).mono hbW.size)
  have kk := alloc_at W4 (.cells #[.int .u32 (A : Int), .int .i64 N] 24) _ rfl
  have ks : W4.heap.size < (W4.alloc (.cells #[.int .u32 (A : Int), .int .i64 N] 24)).heap.size := by simp
  obtain ⟨k0, k1⟩ := K _ hbX
  go_wp2_with fail
  clear hbW
  generalize W4.alloc (.cells #[.int .u32 (A : Int), .int .i64 N] 24) = W5 at *
  refine (cM _).mono ?_
  rintro e W6 ⟨rfl, hb6⟩
  have hbW := hbX.trans (hb6.mono hbX.size)
  have kk := (hb6.block _ ks).trans kk
  have ks := Nat.lt_of_lt_of_le ks hb6.size
  clear hbX hb6 k0 k1
  obtain ⟨k0, k1⟩ := K _ hbW
  go_wp2_with fail
  refine (alive_any _ (ht.grown (hbB.trans (hbW.mono hbB.size)))).mono ?_
  rintro e W7 ⟨rfl, hb7⟩
  replace hbW := hbW.trans (hb7.mono hbW.size)
  have kk := (hb7.block _ ks).trans kk
  clear hb7 k0 k1
  obtain ⟨k0, k1⟩ := K _ hbW
  have y0 := (cell_of_block kk 0).trans (show _ = some (.int .u32 (A : Int)) by simp)
  have y1 := (cell_of_block kk 1).trans (show _ = some (.int .i64 N) by simp)
  go_wp2
  go_ret
  exact ⟨rfl, hbB.trans (hbW.mono hbB.size)⟩
theorem back_high1 (A : Nat) (N n : Int) (w : World) (hA : A < 4294967296) (h0 : -9223372036854775808 ≤ N) (h1 : N ≤ 9223372036854775807) (ht : Tab w) (h : okp A N = true) (g0 : 0 ≤ n) (g1 : decide (n ≤ 32) = false) :
    Calls Tryd.prog 7 #[pf A N, .int .i64 n] w fun e w' => e = .returned (.bool true) ∧ Below w.heap.size w w' := by
  have cT := fun W hW => text_any A N W hA h0 h1 hW
  have cP := fun W => parse_any (txt A N) W (by have := txt_len A N hA h0 h1; omega)
  have K := box1_at w A N
  have hbB : Below w.heap.size w (w.alloc (.cells #[.int .u32 (A : Int), .int .i64 N] 24)) := below_alloc1 _ _
  obtain ⟨k0, k1⟩ := K _ (Below.refl _ _)
  rw [prs_ok hA h] at cP
  have cM := fun W => may_any A N W hA
  rw [h] at cM
  go_enter Tryd.func7, Tryd.ntmps7
  go_wp2_with fail
  have hbW := Below.refl (w.alloc (.cells #[.int .u32 (A : Int), .int .i64 N] 24)).heap.size (w.alloc (.cells #[.int .u32 (A : Int), .int .i64 N] 24))
  generalize w.alloc (.cells #[.int .u32 (A : Int), .int .i64 N] 24) = W0 at *
  refine (cT _ (ht.grown (hbB.trans (hbW.mono hbB.size)))).mono ?_
  rintro e W3 ⟨rfl, hb3⟩
  replace hbW := hbW.trans (hb3.mono hbW.size)
  clear hb3 k0 k1
  obtain ⟨k0, k1⟩ := K _ hbW
  go_wp2_with fail
  refine (cP _).mono ?_
  rintro e W4 ⟨rfl, hb4⟩
  replace hbW := hbW.trans (hb4.mono hbW.size)
  clear hb4 k0 k1
  have hbX := hbW.trans ((below_alloc1 W4 (.cells #[.int .u32 (A : Int), .int .i64 N] 24)).mono hbW.size)
  have kk := alloc_at W4 (.cells #[.int .u32 (A : Int), .int .i64 N] 24) _ rfl
  have ks : W4.heap.size < (W4.alloc (.cells #[.int .u32 (A : Int), .int .i64 N] 24)).heap.size := by simp
  obtain ⟨k0, k1⟩ := K _ hbX
  go_wp2_with fail
  clear hbW
  generalize W4.alloc (.cells #[.int .u32 (A : Int), .int .i64 N] 24) = W5 at *
  refine (cM _).mono ?_
  rintro e W6 ⟨rfl, hb6⟩
  have hbW := hbX.trans (hb6.mono hbX.size)
  have kk := (hb6.block _ ks).trans kk
  have ks := Nat.lt_of_lt_of_le ks hb6.size
  clear hbX hb6 k0 k1
  obtain ⟨k0, k1⟩ := K _ hbW
  go_wp2_with fail
  refine (alive_any _ (ht.grown (hbB.trans (hbW.mono hbB.size)))).mono ?_
  rintro e W7 ⟨rfl, hb7⟩
  replace hbW := hbW.trans (hb7.mono hbW.size)
  have kk := (hb7.block _ ks).trans kk
  clear hb7 k0 k1
  obtain ⟨k0, k1⟩ := K _ hbW
  have y0 := (cell_of_block kk 0).trans (show _ = some (.int .u32 (A : Int)) by simp)
  have y1 := (cell_of_block kk 1).trans (show _ = some (.int .i64 N) by simp)
  go_wp2
  go_ret
  exact ⟨rfl, hbB.trans (hbW.mono hbB.size)⟩
theorem back_in0 (A : Nat) (N n : Int) (w : World) (hA : A < 4294967296) (h0 : -9223372036854775808 ≤ N) (h1 : N ≤ 9223372036854775807) (ht : Tab w) (h : okp A N = false) (g0 : 0 ≤ n) (g1 : n ≤ 32) :
    Calls Tryd.prog 7 #[pf A N, .int .i64 n] w fun e w' => e = .returned (.bool true) ∧ Below w.heap.size w w' := by
  have cT := fun W hW => text_any A N W hA h0 h1 hW
  have cP := fun W => parse_any (txt A N) W (by have := txt_len A N hA h0 h1; omega)
  have K := box1_at w A N
  have hbB : Below w.heap.size w (w.alloc (.cells #[.int .u32 (A : Int), .int .i64 N] 24)) := below_alloc1 _ _
  obtain ⟨k0, k1⟩ := K _ (Below.refl _ _)
  obtain ⟨E, hE, hP⟩ := prs_no hA h
  rw [hP] at cP
  have cM := fun W => may_any A N W hA
  rw [h] at cM
  have hE1 : (E != 0) = true := by simpa using hE
  go_enter Tryd.func7, Tryd.ntmps7
  go_wp2_with fail
  have hbW := Below.refl (w.alloc (.cells #[.int .u32 (A : Int), .int .i64 N] 24)).heap.size (w.alloc (.cells #[.int .u32 (A : Int), .int .i64 N] 24))
  generalize w.alloc (.cells #[.int .u32 (A : Int), .int .i64 N] 24) = W0 at *
  refine (mask_any n _).mono ?_
  rintro e W1 ⟨rfl, rfl⟩
  go_wp2_with fail
  refine (long_mk n _ g0 g1).mono ?_
  rintro e W2 ⟨rfl, hb2⟩
  replace hbW := hbW.trans (hb2.mono hbW.size)
  clear hb2 k0 k1
  obtain ⟨k0, k1⟩ := K _ hbW
  go_wp2_with fail
  refine (cT _ (ht.grown (hbB.trans (hbW.mono hbB.size)))).mono ?_
  rintro e W3 ⟨rfl, hb3⟩
  replace hbW := hbW.trans (hb3.mono hbW.size)
  clear hb3 k0 k1
  obtain ⟨k0, k1⟩ := K _ hbW
  go_wp2_with fail
  refine (cP _).mono ?_
  rintro e W4 ⟨rfl, hb4⟩
  replace hbW := hbW.trans (hb4.mono hbW.size)
  clear hb4 k0 k1
  have hbX := hbW.trans ((below_alloc1 W4 (.cells #[.int .u32 (0 : Int), .int .i64 0] 24)).mono hbW.size)
  have kk := alloc_at W4 (.cells #[.int .u32 (0 : Int), .int .i64 0] 24) _ rfl
  have ks : W4.heap.size < (W4.alloc (.cells #[.int .u32 (0 : Int), .int .i64 0] 24)).heap.size := by simp
  obtain ⟨k0, k1⟩ := K _ hbX
  go_wp2_with fail
  clear hbW
  generalize W4.alloc (.cells #[.int .u32 (0 : Int), .int .i64 0] 24) = W5 at *
  refine (cM _).mono ?_
  rintro e W6 ⟨rfl, hb6⟩
  have hbW := hbX.trans (hb6.mono hbX.size)
  have kk := (hb6.block _ ks).trans kk
  have ks := Nat.lt_of_lt_of_le ks hb6.size
  clear hbX hb6 k0 k1
  obtain ⟨k0, k1⟩ := K _ hbW
  go_wp2_with fail
  refine (alive_any _ (ht.grown (hbB.trans (hbW.mono hbB.size)))).mono ?_
  rintro e W7 ⟨rfl, hb7⟩
  replace hbW := hbW.trans (hb7.mono hbW.size)
  have kk := (hb7.block _ ks).trans kk
  clear hb7 k0 k1
  obtain ⟨k0, k1⟩ := K _ hbW
  have y0 := (cell_of_block kk 0).trans (show _ = some (.int .u32 (0 : Int)) by simp)
  have y1 := (cell_of_block kk 1).trans (show _ = some (.int .i64 0) by simp)
  go_wp2
  go_ret
  exact ⟨rfl, hbB.trans (hbW.mono hbB.size)⟩
theorem back_low0 (A : Nat) (N n : Int) (w : World) (hA : A < 4294967296) (h0 : -9223372036854775808 ≤ N) (h1 : N ≤ 9223372036854775807) (ht : Tab w) (h : okp A N = false) (g0 : n < 0) :
    Calls Tryd.prog 7 #[pf A N, .int .i64 n] w fun e w' => e = .returned (.bool true) ∧ Below w.heap.size w w' := by
  have cT := fun W hW => text_any A N W hA h0 h1 hW
  have cP := fun W => parse_any (txt A N) W (by have := txt_len A N hA h0 h1; omega)
  have K := box1_at w A N
  have hbB : Below w.heap.size w (w.alloc (.cells #[.int .u32 (A : Int), .int .i64 N] 24)) := below_alloc1 _ _
  obtain ⟨k0, k1⟩ := K _ (Below.refl _ _)
  obtain ⟨E, hE, hP⟩ := prs_no hA h
  rw [hP] at cP
  have cM := fun W => may_any A N W hA
  rw [h] at cM
  have hE1 : (E != 0) = true := by simpa using hE
  go_enter Tryd.func7, Tryd.ntmps7
  go_wp2_with fail
  have hbW := Below.refl (w.alloc (.cells #[.int .u32 (A : Int), .int .i64 N] 24)).heap.size (w.alloc (.cells #[.int .u32 (A : Int), .int .i64 N] 24))
  generalize w.alloc (.cells #[.int .u32 (A : Int), .int .i64 N] 24) = W0 at *
  refine (cT _ (ht.grown (hbB.trans (hbW.mono hbB.size)))).mono ?_
  rintro e W3 ⟨rfl, hb3⟩
  replace hbW := hbW.trans (hb3.mono hbW.size)
  clear hb3 k0 k1
  obtain ⟨k0, k1⟩ := K _ hbW
  go_wp2_with fail
  refine (cP _).mono ?_
  rintro e W4 ⟨rfl, hb4⟩
  replace hbW := hbW.trans (hb4.mono hbW.size)
  clear hb4 k0 k1
  have hbX := hbW.trans ((below_alloc1 W4 (.cells #[.int .u32 (0 : Int), .int .i64 0] 24)).mono hbW.size)
  have kk := alloc_at W4 (.cells #[.int .u32 (0 : Int), .int .i64 0] 24) _ rfl
  have ks : W4.heap.size < (W4.alloc (.cells #[.int .u32 (0 : Int), .int .i64 0] 24)).heap.size := by simp
  obtain ⟨k0, k1⟩ := K _ hbX
  go_wp2_with fail
  clear hbW
  generalize W4.alloc (.cells #[.int .u32 (0 : Int), .int .i64 0] 24) = W5 at *
  refine (cM _).mono ?_
  rintro e W6 ⟨rfl, hb6⟩
  have hbW := hbX.trans (hb6.mono hbX.size)
  have kk := (hb6.block _ ks).trans kk
  have ks := Nat.lt_of_lt_of_le ks hb6.size
  clear hbX hb6 k0 k1
  obtain ⟨k0, k1⟩ := K _ hbW
  go_wp2_with fail
  refine (alive_any _ (ht.grown (hbB.trans (hbW.mono hbB.size)))).mono ?_
  rintro e W7 ⟨rfl, hb7⟩
  replace hbW := hbW.trans (hb7.mono hbW.size)
  have kk := (hb7.block _ ks).trans kk
  clear hb7 k0 k1
  obtain ⟨k0, k1⟩ := K _ hbW
  have y0 := (cell_of_block kk 0).trans (show _ = some (.int .u32 (0 : Int)) by simp)
  have y1 := (cell_of_block kk 1).trans (show _ = some (.int .i64 0) by simp)
  go_wp2
  go_ret
  exact ⟨rfl, hbB.trans (hbW.mono hbB.size)⟩
theorem back_high0 (A : Nat) (N n : Int) (w : World) (hA : A < 4294967296) (h0 : -9223372036854775808 ≤ N) (h1 : N ≤ 9223372036854775807) (ht : Tab w) (h : okp A N = false) (g0 : 0 ≤ n) (g1 : decide (n ≤ 32) = false) :
    Calls Tryd.prog 7 #[pf A N, .int .i64 n] w fun e w' => e = .returned (.bool true) ∧ Below w.heap.size w w' := by
  have cT := fun W hW => text_any A N W hA h0 h1 hW
  have cP := fun W => parse_any (txt A N) W (by have := txt_len A N hA h0 h1; omega)
  have K := box1_at w A N
  have hbB : Below w.heap.size w (w.alloc (.cells #[.int .u32 (A : Int), .int .i64 N] 24)) := below_alloc1 _ _
  obtain ⟨k0, k1⟩ := K _ (Below.refl _ _)
  obtain ⟨E, hE, hP⟩ := prs_no hA h
  rw [hP] at cP
  have cM := fun W => may_any A N W hA
  rw [h] at cM
  have hE1 : (E != 0) = true := by simpa using hE
  go_enter Tryd.func7, Tryd.ntmps7
  go_wp2_with fail
  have hbW := Below.refl (w.alloc (.cells #[.int .u32 (A : Int), .int .i64 N] 24)).heap.size (w.alloc (.cells #[.int .u32 (A : Int), .int .i64 N] 24))
  generalize w.alloc (.cells #[.int .u32 (A : Int), .int .i64 N] 24) = W0 at *
  refine (cT _ (ht.grown (hbB.trans (hbW.mono hbB.size)))).mono ?_
  rintro e W3 ⟨rfl, hb3⟩
  replace hbW := hbW.trans (hb3.mono hbW.size)
  clear hb3 k0 k1
  obtain ⟨k0, k1⟩ := K _ hbW
  go_wp2_with fail
  refine (cP _).mono ?_
  rintro e W4 ⟨rfl, hb4⟩
  replace hbW := hbW.trans (hb4.mono hbW.size)
  clear hb4 k0 k1
  have hbX := hbW.trans ((below_alloc1 W4 (.cells #[.int .u32 (0 : Int), .int .i64 0] 24)).mono hbW.size)
  have kk := alloc_at W4 (.cells #[.int .u32 (0 : Int), .int .i64 0] 24) _ rfl
  have ks : W4.heap.size < (W4.alloc (.cells #[.int .u32 (0 : Int), .int .i64 0] 24)).heap.size := by simp
  obtain ⟨k0, k1⟩ := K _ hbX
  go_wp2_with fail
  clear hbW
  generalize W4.alloc (.cells #[.int .u32 (0 : Int), .int .i64 0] 24) = W5 at *
  refine (cM _).mono ?_
  rintro e W6 ⟨rfl, hb6⟩
  have hbW := hbX.trans (hb6.mono hbX.size)
  have kk := (hb6.block _ ks).trans kk
  have ks := Nat.lt_of_lt_of_le ks hb6.size
  clear hbX hb6 k0 k1
  obtain ⟨k0, k1⟩ := K _ hbW
  go_wp2_with fail
  refine (alive_any _ (ht.grown (hbB.trans (hbW.mono hbB.size)))).mono ?_
  rintro e W7 ⟨rfl, hb7⟩
  replace hbW := hbW.trans (hb7.mono hbW.size)
  have kk := (hb7.block _ ks).trans kk
  clear hb7 k0 k1
  obtain ⟨k0, k1⟩ := K _ hbW
  have y0 := (cell_of_block kk 0).trans (show _ = some (.int .u32 (0 : Int)) by simp)
  have y1 := (cell_of_block kk 1).trans (show _ = some (.int .i64 0) by simp)
  go_wp2
  go_ret
  exact ⟨rfl, hbB.trans (hbW.mono hbB.size)⟩
theorem back_walk (A : Nat) (N n : Int) (w : World) (hA : A < 4294967296) (h0 : -9223372036854775808 ≤ N) (h1 : N ≤ 9223372036854775807) (ht : Tab w) :
    Calls Tryd.prog 7 #[pf A N, .int .i64 n] w fun e w' => e = .returned (.bool true) ∧ Below w.heap.size w w' := by
  cases h : okp A N with
  | true =>
    by_cases g0 : 0 ≤ n
    · by_cases g1 : n ≤ 32
      · exact back_in1 A N n w hA h0 h1 ht h g0 g1
      · exact back_high1 A N n w hA h0 h1 ht h g0 (decide_eq_false g1)
    · exact back_low1 A N n w hA h0 h1 ht h (by omega)
  | false =>
    by_cases g0 : 0 ≤ n
    · by_cases g1 : n ≤ 32
      · exact back_in0 A N n w hA h0 h1 ht h g0 g1
      · exact back_high0 A N n w hA h0 h1 ht h g0 (decide_eq_false g1)
    · exact back_low0 A N n w hA h0 h1 ht h (by omega)
end Go.Proofs.YtmiaphgjcajbhaaDoor
