/-
  Contracts of the reference's Bit, May, Has, Covers, Less. No statement is proved here.
-/
import Derived.Test.YtmcjpibahnlmbaaLeaf
import Derived.Test.YtmcjpibahnlmbaaBlk
namespace Go.Proofs.Ytmcjpibahnlmbaa
open Go.RowKit Go.Joins

theorem rbit_any (a : Nat) (i : Int) (w : World) (ha : a < 4294967296) : Calls Try.prog 62 #[.int .u32 (a : Int), .int .i64 i] w fun e w' => e = .returned (.int .i64 (bt a i : Int)) ∧ w' = w := by
  by_cases h : 0 ≤ i ∧ i < 32
  · have hb : bits .and .u32 ((a : Int) / 2 ^ (31 - i).toNat) 1 = (bt a i : Int) := by
      rw [bits_low a _ ha, bt, if_pos h, show (31 - i).toNat = 31 - i.toNat by omega]
    have hT : bt a i < 2 := by unfold bt; rw [if_pos h]; omega
    obtain ⟨h0, h1⟩ := h
    have h2 : i ≤ 31 := by omega
    generalize bt a i = T at *
    go_enter Try.func62, Try.ntmps62
    go_wp2
    go_ret
    exact ⟨rfl, rfl⟩
  · have h2 : bt a i = 0 := if_neg h
    rw [h2]
    have h3 : ¬ (0 ≤ i ∧ i ≤ 31) := by omega
    clear h h2
    go_enter Try.func62, Try.ntmps62
    go_wp2
    all_goals go_ret
    all_goals exact ⟨rfl, rfl⟩
theorem rmay_any (A : Nat) (N : Int) (w : World) (hA : A < 4294967296) : Calls Try.prog 53 #[pf A N] w fun e w' => e = .returned (.bool (okp A N)) ∧ Below w.heap.size w w' := by
  by_cases h0 : 0 ≤ N
  · by_cases h1 : N ≤ 32
    · have e : okp A N = decide (A % wd (cl N) = 0) := by simp [okp, lenOk, h0, h1]
      rw [e]
      generalize hG : decide (A % wd (cl N) = 0) = G
      have HG := Lib.hid hG
      clear hG e
      have hc := cl_in h0 h1
      have hc2 := cl_le N
      have cB : ∀ (i : Nat) W, _ := fun i W => rbit_any A (i : Int) W hA
      have hcd := Lib.hid hc
      clear hc
      have k0 : (w.alloc (.cells #[.int .u32 (A : Int), .int .i64 N] 25)).cell? ⟨w.heap.size, 0, none⟩ = some (.int .u32 (A : Int)) := by simp
      go_enter Try.func53, Try.ntmps53
      go_wp2
      have hb := below_alloc1 w (.cells #[.int .u32 (A : Int), .int .i64 N] 25)
      generalize w.alloc (.cells #[.int .u32 (A : Int), .int .i64 N] 25) = W0 at *
      go_loop [3] (fun v3 => ∃ i : Nat, v3 = .int .i64 (i : Int) ∧ i ≤ 32 ∧ Hid (decide (A % wd i = 0) = G)) (fun v3 => (32 - intOf v3).toNat)
      case atStart => exact ⟨cl N, val_int hcd.out.symm, hc2, HG⟩
      case round =>
        obtain ⟨i, rfl, hi, hg⟩ := hrel
        by_cases hlt : i < 32
        · have hlt' : (i : Int) < 32 := by omega
          have hs := mod_step A i hlt
          have hbt := bt_wd A i hlt
          have cB' := cB i
          rw [hbt] at cB'
          have hw := wd_pos (i + 1)
          have h2 : A / wd (i + 1) % 2 < 2 := by omega
          generalize A / wd (i + 1) % 2 = D at *
          by_cases hD : D = 1
          · subst hD
            have hg2 := hg.out
            rw [hs, decide_eq_false (by omega)] at hg2
            subst hg2
            clear hs hbt hg
            go_wp2_with fail
            refine (cB' _).mono ?_
            rintro e w1 ⟨rfl, rfl⟩
            go_wp2
            go_ret
            exact ⟨rfl, hb⟩
          · obtain rfl : D = 0 := by omega
            rw [Nat.mul_zero, Nat.zero_add] at hs
            have hg2 := hg.out
            rw [hs] at hg2
            have hg3 := Lib.hid hg2
            clear hs hbt hg hg2
            go_wp2_with fail
            refine (cB' _).mono ?_
            rintro e w1 ⟨rfl, rfl⟩
            go_wp2
            go_round
            case rel => exact ⟨i + 1, val_int (by omega), by omega, hg3⟩
            case measure => simp [intOf]; omega
        · obtain rfl : i = 32 := by omega
          have hg2 := hg.out
          rw [wd_32, decide_eq_true (Nat.mod_one A)] at hg2
          subst hg2
          go_wp2
          go_ret
          exact ⟨rfl, hb⟩
    · have e : okp A N = false := by simp [okp, lenOk, h1]
      rw [e]
      have h1' : 32 < N := by omega
      go_enter Try.func53, Try.ntmps53
      go_wp2
      all_goals go_ret
      all_goals exact ⟨rfl, below_alloc1 _ _⟩
  · have e : okp A N = false := by simp [okp, lenOk, h0]
    rw [e]
    have h0' : N < 0 := by omega
    go_enter Try.func53, Try.ntmps53
    go_wp2
    all_goals go_ret
    all_goals exact ⟨rfl, below_alloc1 _ _⟩
theorem rhas_any (A : Nat) (N : Int) (a : Nat) (w : World) (hA : A < 4294967296) (ha : a < 4294967296) : Calls Try.prog 65 #[pf A N, .int .u32 (a : Int)] w fun e w' => e = .returned (.bool (hasp A N a)) ∧ Below w.heap.size w w' := by
  cases h : okp A N with
  | false =>
    have e : hasp A N a = false := by simp [hasp, h]
    rw [e]
    go_enter Try.func65, Try.ntmps65
    go_wp2_with fail
    refine (rmay_any A N _ hA).mono ?_
    rintro e w1 ⟨rfl, hb⟩
    rw [h]
    go_wp2
    go_ret
    exact ⟨rfl, (below_alloc1 _ _).trans (hb.mono (by simp))⟩
  | true =>
    have e : hasp A N a = decide (a / wd (cl N) = A / wd (cl N)) := by simp [hasp, h]
    rw [e]
    obtain ⟨h0, h1, _⟩ := (okp_iff A N).1 h
    generalize hG : decide (a / wd (cl N) = A / wd (cl N)) = G
    have HG := Lib.hid hG
    clear hG e
    have hc := Lib.hid (cl_in h0 h1)
    have hc2 := cl_le N
    have cB : ∀ (i : Nat) W, _ := fun i W => rbit_any A (i : Int) W hA
    have cb : ∀ (i : Nat) W, _ := fun i W => rbit_any a (i : Int) W ha
    have kk := alloc_at w (.cells #[.int .u32 (A : Int), .int .i64 N] 25) _ rfl
    go_enter Try.func65, Try.ntmps65
    go_wp2_with fail
    refine (rmay_any A N _ hA).mono ?_
    rintro e w1 ⟨rfl, hb⟩
    rw [h]
    have kk := (hb.block w.heap.size (by simp)).trans kk
    have hbW := (below_alloc1 _ _).trans (hb.mono (by simp))
    clear hb
    have k0 : w1.cell? ⟨w.heap.size, 0, none⟩ = some (.int .u32 (A : Int)) := (cell_of_block kk 0).trans rfl
    have k1 : w1.cell? ⟨w.heap.size, 1, none⟩ = some (.int .i64 N) := (cell_of_block kk 1).trans rfl
    go_wp2
    go_loop [5] (fun v5 => ∃ i : Nat, v5 = .int .i64 (i : Int) ∧ i ≤ cl N ∧ Hid (a / wd i = A / wd i)) (fun v5 => (32 - intOf v5).toNat)
    case atStart => exact ⟨0, rfl, by omega, Lib.hid (by rw [div_wd0 hA, div_wd0 ha])⟩
    case round =>
      obtain ⟨i, rfl, hi, hg⟩ := hrel
      by_cases hlt : i < cl N
      · have hlt' : (i : Int) < N := by have := hc.out; omega
        have s1 := div_step A i (by omega)
        have s2 := div_step a i (by omega)
        have cB' := cB i
        have cb' := cb i
        rw [bt_wd A i (by omega)] at cB'
        rw [bt_wd a i (by omega)] at cb'
        have h2 : A / wd (i + 1) % 2 < 2 := by omega
        have h3 : a / wd (i + 1) % 2 < 2 := by omega
        have HS1 := Lib.hid s1
        have HS2 := Lib.hid s2
        clear s1 s2
        generalize hD : A / wd (i + 1) % 2 = D at *
        generalize hd : a / wd (i + 1) % 2 = d at *
        have HD := Lib.hid hD
        have Hd := Lib.hid hd
        clear hD hd
        by_cases hDd : D = d
        · have hx : ((D : Int) != (d : Int)) = false := by simp [hDd]
          go_wp2_with fail
          refine (cB' _).mono ?_
          rintro e w2 ⟨rfl, rfl⟩
          go_wp2_with fail
          refine (cb' _).mono ?_
          rintro e w2 ⟨rfl, rfl⟩
          go_wp2
          go_round
          case rel => exact ⟨i + 1, val_int (by omega), by omega, Lib.hid (by rw [HS1.out, HS2.out, hg.out, hDd])⟩
          case measure => simp [intOf]; omega
        · have hx : ((D : Int) != (d : Int)) = true := by simp; omega
          have hg2 := HG.out
          rw [decide_eq_false (by
            intro hh
            have h5 := div_less hh (show i + 1 ≤ cl N by omega)
            have := HD.out
            have := Hd.out
            omega)] at hg2
          subst hg2
          go_wp2_with fail
          refine (cB' _).mono ?_
          rintro e w2 ⟨rfl, rfl⟩
          go_wp2_with fail
          refine (cb' _).mono ?_
          rintro e w2 ⟨rfl, rfl⟩
          go_wp2
          go_ret
          exact ⟨rfl, hbW⟩
      · obtain rfl : i = cl N := by omega
        have hg2 := HG.out
        rw [decide_eq_true hg.out] at hg2
        subst hg2
        have hlt' : decide ((cl N : Int) < N) = false := decide_eq_false (by have := hc.out; omega)
        go_wp2
        go_ret
        exact ⟨rfl, hbW⟩
abbrev box2 (w : World) (A : Nat) (N : Int) (B : Nat) (M : Int) : World :=
  (w.alloc (.cells #[.int .u32 (A : Int), .int .i64 N] 25)).alloc (.cells #[.int .u32 (B : Int), .int .i64 M] 25)
theorem box2_at (w : World) (A : Nat) (N : Int) (B : Nat) (M : Int) (W : World) (h : Below (box2 w A N B M).heap.size (box2 w A N B M) W) :
    W.cell? ⟨w.heap.size, 0, none⟩ = some (.int .u32 (A : Int)) ∧ W.cell? ⟨w.heap.size, 1, none⟩ = some (.int .i64 N) ∧
    W.cell? ⟨w.heap.size + 1, 0, none⟩ = some (.int .u32 (B : Int)) ∧ W.cell? ⟨w.heap.size + 1, 1, none⟩ = some (.int .i64 M) := by
  have k0 := (h.block w.heap.size (by simp; omega)).trans ((alloc_lt _ _ _ (by simp)).trans (alloc_at _ _ _ rfl))
  have k1 := (h.block (w.heap.size + 1) (by simp)).trans (alloc_at _ _ _ (by simp))
  exact ⟨(cell_of_block k0 0).trans rfl, (cell_of_block k0 1).trans rfl, (cell_of_block k1 0).trans rfl, (cell_of_block k1 1).trans rfl⟩
theorem rcovers_any (A : Nat) (N : Int) (B : Nat) (M : Int) (w : World) (hA : A < 4294967296) (hB : B < 4294967296) : Calls Try.prog 58 #[pf A N, pf B M] w fun e w' => e = .returned (.bool (covp A N B M)) ∧ Below w.heap.size w w' := by
  have cp := fun W => rmay_any A N W hA
  have cq := fun W => rmay_any B M W hB
  have ch := fun W => rhas_any A N B W hA hB
  have K := box2_at w A N B M
  have hbB : Below w.heap.size w (box2 w A N B M) := below_alloc2 _ _ _
  obtain ⟨k0, k1, k2, k3⟩ := K _ (Below.refl _ _)
  have hbW := Below.refl (box2 w A N B M).heap.size (box2 w A N B M)
  cases h0 : okp A N with
  | false =>
    rw [show covp A N B M = false by simp [covp, hasp, h0]]
    rw [h0] at cp
    go_enter Try.func58, Try.ntmps58
    go_wp2_with fail
    change Calls _ _ _ (box2 w A N B M) _
    generalize box2 w A N B M = W0 at *
    refine (cp _).mono ?_
    rintro e W1 ⟨rfl, hb⟩
    go_wp2
    go_ret
    exact ⟨rfl, hbB.trans (hb.mono hbB.size)⟩
  | true =>
    rw [h0] at cp
    cases h1 : okp B M with
    | false =>
      rw [show covp A N B M = false by simp [covp, h1]]
      rw [h1] at cq
      go_enter Try.func58, Try.ntmps58
      go_wp2_with fail
      change Calls _ _ _ (box2 w A N B M) _
      generalize box2 w A N B M = W0 at *
      refine (cp _).mono ?_
      rintro e W1 ⟨rfl, hb1⟩
      replace hbW := hbW.trans (hb1.mono hbW.size)
      clear hb1 k0 k1 k2 k3
      obtain ⟨k0, k1, k2, k3⟩ := K _ hbW
      go_wp2_with fail
      refine (cq _).mono ?_
      rintro e W2 ⟨rfl, hb2⟩
      replace hbW := hbW.trans (hb2.mono hbW.size)
      go_wp2
      go_ret
      exact ⟨rfl, hbB.trans (hbW.mono hbB.size)⟩
    | true =>
      rw [h1] at cq
      by_cases h2 : N ≤ M
      · rw [show covp A N B M = hasp A N B by simp [covp, h1, h2]]
        go_enter Try.func58, Try.ntmps58
        go_wp2_with fail
        change Calls _ _ _ (box2 w A N B M) _
        generalize box2 w A N B M = W0 at *
        refine (cp _).mono ?_
        rintro e W1 ⟨rfl, hb1⟩
        replace hbW := hbW.trans (hb1.mono hbW.size)
        clear hb1 k0 k1 k2 k3
        obtain ⟨k0, k1, k2, k3⟩ := K _ hbW
        go_wp2_with fail
        refine (cq _).mono ?_
        rintro e W2 ⟨rfl, hb2⟩
        replace hbW := hbW.trans (hb2.mono hbW.size)
        clear hb2 k0 k1 k2 k3
        obtain ⟨k0, k1, k2, k3⟩ := K _ hbW
        go_wp2_with fail
        refine (ch _).mono ?_
        rintro e W3 ⟨rfl, hb3⟩
        replace hbW := hbW.trans (hb3.mono hbW.size)
        go_wp2
        go_ret
        exact ⟨rfl, hbB.trans (hbW.mono hbB.size)⟩
      · rw [show covp A N B M = false by simp [covp, h2]]
        have h3 : decide (N ≤ M) = false := decide_eq_false h2
        go_enter Try.func58, Try.ntmps58
        go_wp2_with fail
        change Calls _ _ _ (box2 w A N B M) _
        generalize box2 w A N B M = W0 at *
        refine (cp _).mono ?_
        rintro e W1 ⟨rfl, hb1⟩
        replace hbW := hbW.trans (hb1.mono hbW.size)
        clear hb1 k0 k1 k2 k3
        obtain ⟨k0, k1, k2, k3⟩ := K _ hbW
        go_wp2_with fail
        refine (cq _).mono ?_
        rintro e W2 ⟨rfl, hb2⟩
        replace hbW := hbW.trans (hb2.mono hbW.size)
        clear hb2 k0 k1 k2 k3
        obtain ⟨k0, k1, k2, k3⟩ := K _ hbW
        go_wp2
        go_ret
        exact ⟨rfl, hbB.trans (hbW.mono hbB.size)⟩
end Go.Proofs.Ytmcjpibahnlmbaa
