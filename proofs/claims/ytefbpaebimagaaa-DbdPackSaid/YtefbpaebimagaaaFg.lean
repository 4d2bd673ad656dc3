/-
  What bytes say of an update; the contract of dbd.firstLong. No statement is proved here; no conditions.
-/
import Derived.Test.YtefbpaebimagaaaPa
namespace Go.Proofs.Ytefbpaebimagaaa
open Go.RowKit Go.Joins

/-- What k advertisements at the beginning of these bytes say, behind what was said: why not, those that are whole, how many are not. -/
def tkf : Nat → List Int → List Ct → Nat → Int × List Ct × Nat
  | 0, l, out, odd => if l.length = 0 then (0, out, odd) else (3, [], 0)
  | k + 1, l, out, odd =>
    if l.length < 20 then (2, [], 0)
    else if mayd (rdf (l.take 20)) = true then
      (if (l.length : Int) < (rdf (l.take 20)).n then (2, [], 0)
       else if whl (rdf (l.take 20)) (sub l 20 ((rdf (l.take 20)).n.toNat - 20)) = true then
         tkf k (l.drop (rdf (l.take 20)).n.toNat) (out ++ [(rdf (l.take 20), sub l 20 ((rdf (l.take 20)).n.toNat - 20))]) odd
       else tkf k (l.drop (rdf (l.take 20)).n.toNat) out (odd + 1))
    else (3, [], 0)
def taf (l : List Int) : Int × List Ct × Nat := if l.length < 4 then (2, [], 0) else if 50 < num (l.take 4) then (3, [], 0) else tkf (num (l.take 4)).toNat (l.drop 4) [] 0
/-- Why these bytes do not begin with a whole advertisement's head and length; 0 if they do; its length. -/
def flE (l : List Int) : Int := if l.length < 20 then 2 else if mayd (rdf (l.take 20)) = true then (if (l.length : Int) < (rdf (l.take 20)).n then 2 else 0) else 3
def flN (l : List Int) : Int := if flE l = 0 then (rdf (l.take 20)).n else 0
theorem flE_ok {l : List Int} (h : flE l = 0) : 20 ≤ l.length ∧ mayd (rdf (l.take 20)) = true ∧ (rdf (l.take 20)).n ≤ (l.length : Int) ∧ flN l = (rdf (l.take 20)).n := by
  have e : flN l = (rdf (l.take 20)).n := by rw [flN, if_pos h]
  unfold flE at h
  split at h
  · omega
  split at h
  · rename_i q
    split at h
    · omega
    · exact ⟨by omega, q, by omega, e⟩
  · omega
theorem tkf_bad {k : Nat} {l : List Int} {out : List Ct} {odd : Nat} (h : flE l ≠ 0) : tkf (k + 1) l out odd = (flE l, [], 0) := by
  rw [tkf]
  unfold flE at h ⊢
  split
  · rfl
  · rename_i q
    rw [if_neg q] at h
    split
    · rename_i q2
      rw [if_pos q2] at h
      split
      · rfl
      · rename_i q3
        rw [if_neg q3] at h
        exact absurd rfl h
    · rfl
theorem tkf_good {k : Nat} {l : List Int} {out : List Ct} {odd m : Nat} (h : flE l = 0) (hm : (rdf (l.take 20)).n.toNat = m) :
    tkf (k + 1) l out odd = if whl (rdf (l.take 20)) (sub l 20 (m - 20)) = true then tkf k (l.drop m) (out ++ [(rdf (l.take 20), sub l 20 (m - 20))]) odd else tkf k (l.drop m) out (odd + 1) := by
  obtain ⟨h1, h2, h3, -⟩ := flE_ok h
  rw [tkf, if_neg (by omega), if_pos h2, if_neg (by omega), hm]
set_option maxRecDepth 100000 in
set_option maxHeartbeats 4000000 in
theorem firstlong_any (A : Option Addr) (n c : Nat) (l : List Int) (w : World) (hn : l.length = n) (hb : Bt w A l) (hy : Byt l) (hc : n ≤ c) (hl : n ≤ 5000) :
    Calls Try.prog 53 #[.slice A n c] w fun e w' => e = .returned (.tuple #[.int .i64 (flN l), .int .i64 (flE l)]) ∧ Below w.heap.size w w' := by
  by_cases h20 : n < 20
  · have e1 : flE l = 2 := by rw [flE, if_pos (by omega)]
    have e2 : flN l = 0 := by rw [flN, e1]; rfl
    have CR := readhead_any A n c l w hn hb hy hc hl
    have e4 : rdE l = 2 := by simp [rdE, hn, h20]
    have e5 : rdp l = zhd := by simp [rdp, e4]
    have e6 : rdr l = [] := by simp [rdr, e4]
    rw [e4, e5, e6] at CR
    have CR2 : Calls Try.prog 63 #[.slice A n c] w fun e w' => ∃ A' c', e = .returned (.tuple #[.agg #[.int .i64 0, .int .i64 0, .int .i64 0, .int .u32 0, .int .u32 0, .int .u32 0, .int .i64 0, .int .i64 0], .slice A' 0 c', .int .i64 2]) ∧ Own .u8 5 w' w.heap.size A' c' [] ∧ Below w.heap.size w w' := CR
    rw [e1, e2]
    have g1 : ¬ (20 < n) := by omega
    have g2 : ¬ ((20 : Int) < (n : Int)) := by omega
    have g3 : (n : Int) < 20 := by omega
    have g4 : (n : Int) ≤ (c : Int) := by omega
    have g5 : min n 20 = n := by omega
    have g6 : min (n : Int) 20 = (n : Int) := by omega
    clear e1 e2 e4 e5 e6 CR hb hy hn
    go_enter Try.func53, Try.ntmps53
    go_wp2_with fail
    refine CR2.mono ?_
    rintro e Y1 ⟨A1, c1, rfl, -, u1⟩
    have u2 := Lib.hid (u1.trans (below_alloc1 Y1 (.cells #[Value.int .i64 0, .int .i64 0, .int .i64 0, .int .u32 0, .int .u32 0, .int .u32 0, .int .i64 0, .int .i64 0] 85) |>.mono u1.size))
    go_wp2
    go_ret2
    exact ⟨rfl, u2.out⟩
  rcases (show 20 < n ∨ n = 20 by omega) with h21 | rfl
  · have g7 : (20 : Int) < (n : Int) := by omega
    have fl : (l.take 20).length = 20 := by simp; omega
    have CR := readhead_any A 20 c (l.take 20) w fl (hb.take 20) (hy.take 20) (by omega) (by decide)
    have hE : rdE (l.take 20) = if mayd (rdf (l.take 20)) = true then 0 else 3 := by
      rw [rdE, if_neg (by omega), List.take_of_length_le (Nat.le_of_eq fl)]
    have g1 : ¬ (n < 20) := h20
    have g2 : ¬ ((n : Int) < 20) := by omega
    have g3 : (20 : Int) ≤ (n : Int) := by omega
    have g4 : (20 : Int) ≤ (c : Int) := by omega
    have g5 : min n 20 = 20 := by omega
    have g6 : min (n : Int) 20 = 20 := by omega
    by_cases hm : mayd (rdf (l.take 20)) = true
    case neg =>
      have e1 : flE l = 3 := by rw [flE, if_neg (by omega), if_neg hm]
      have e2 : flN l = 0 := by rw [flN, e1]; rfl
      rw [if_neg hm] at hE
      have e5 : rdp (l.take 20) = zhd := by rw [rdp, hE]; rfl
      have e6 : rdr (l.take 20) = [] := by rw [rdr, hE]; rfl
      rw [hE, e5, e6] at CR
      have CR2 : Calls Try.prog 63 #[.slice A 20 c] w fun e w' => ∃ A' c', e = .returned (.tuple #[.agg #[.int .i64 0, .int .i64 0, .int .i64 0, .int .u32 0, .int .u32 0, .int .u32 0, .int .i64 0, .int .i64 0], .slice A' 0 c', .int .i64 3]) ∧ Own .u8 5 w' w.heap.size A' c' [] ∧ Below w.heap.size w w' := CR
      rw [e1, e2]
      clear e1 e2 hE e5 e6 CR hb hy hn fl hm
      go_enter Try.func53, Try.ntmps53
      go_wp2_with fail
      refine CR2.mono ?_
      rintro e Y1 ⟨A1, c1, rfl, -, u1⟩
      have u2 := Lib.hid (u1.trans (below_alloc1 Y1 (.cells #[Value.int .i64 0, .int .i64 0, .int .i64 0, .int .u32 0, .int .u32 0, .int .u32 0, .int .i64 0, .int .i64 0] 85) |>.mono u1.size))
      go_wp2
      go_ret2
      exact ⟨rfl, u2.out⟩
    rw [if_pos hm] at hE
    have e5 : rdp (l.take 20) = rdf (l.take 20) := by rw [rdp, if_pos hE, List.take_of_length_le (Nat.le_of_eq fl)]
    rw [hE, e5] at CR
    have hF : flE l = if (n : Int) < (rdf (l.take 20)).n then 2 else 0 := by rw [flE, if_neg (by omega), if_pos hm, hn]
    have hN : flN l = if flE l = 0 then (rdf (l.take 20)).n else 0 := rfl
    obtain ⟨k, hk⟩ : ∃ k, (rdr (l.take 20)).length = k := ⟨_, rfl⟩
    rw [hk] at CR
    generalize rdf (l.take 20) = y at *
    by_cases hs : (n : Int) < y.n
    · rw [if_pos hs] at hF
      rw [hF] at hN
      rw [hF, hN]
      clear hF hN hE e5 hb hy hn fl hm hk
      go_enter Try.func53, Try.ntmps53
      go_wp2_with fail
      refine CR.mono ?_
      rintro e Y1 ⟨A1, c1, rfl, -, u1⟩
      obtain ⟨Y2, hY2⟩ : ∃ V', Y1.alloc (.cells #[Value.int .i64 y.a, .int .i64 y.o, .int .i64 y.t, .int .u32 y.i, .int .u32 y.v, .int .u32 y.q, .int .i64 y.s, .int .i64 y.n] 85) = V' := ⟨_, rfl⟩
      have u2 : Below Y1.heap.size Y1 Y2 := by rw [← hY2]; exact below_alloc1 _ _
      obtain ⟨y0, y1, y2, y3, y4, y5, y6, y7⟩ := kb8_new hY2 (Below.refl _ _)
      have U := Lib.hid (u1.trans (u2.mono u1.size))
      clear u1 u2
      go_wp2
      go_ret2
      exact ⟨rfl, U.out⟩
    · rw [if_neg hs] at hF
      rw [hF] at hN
      rw [hF, hN]
      clear hF hN hE e5 hb hy hn fl hm hk
      go_enter Try.func53, Try.ntmps53
      go_wp2_with fail
      refine CR.mono ?_
      rintro e Y1 ⟨A1, c1, rfl, -, u1⟩
      obtain ⟨Y2, hY2⟩ : ∃ V', Y1.alloc (.cells #[Value.int .i64 y.a, .int .i64 y.o, .int .i64 y.t, .int .u32 y.i, .int .u32 y.v, .int .u32 y.q, .int .i64 y.s, .int .i64 y.n] 85) = V' := ⟨_, rfl⟩
      have u2 : Below Y1.heap.size Y1 Y2 := by rw [← hY2]; exact below_alloc1 _ _
      obtain ⟨y0, y1, y2, y3, y4, y5, y6, y7⟩ := kb8_new hY2 (Below.refl _ _)
      have U := Lib.hid (u1.trans (u2.mono u1.size))
      clear u1 u2
      go_wp2
      go_ret2
      exact ⟨rfl, U.out⟩
  · skip
    have fl : (l.take 20).length = 20 := by simp; omega
    have CR := readhead_any A 20 c (l.take 20) w fl (hb.take 20) (hy.take 20) (by omega) (by decide)
    have hE : rdE (l.take 20) = if mayd (rdf (l.take 20)) = true then 0 else 3 := by
      rw [rdE, if_neg (by omega), List.take_of_length_le (Nat.le_of_eq fl)]
    by_cases hm : mayd (rdf (l.take 20)) = true
    case neg =>
      have e1 : flE l = 3 := by rw [flE, if_neg (by omega), if_neg hm]
      have e2 : flN l = 0 := by rw [flN, e1]; rfl
      rw [if_neg hm] at hE
      have e5 : rdp (l.take 20) = zhd := by rw [rdp, hE]; rfl
      have e6 : rdr (l.take 20) = [] := by rw [rdr, hE]; rfl
      rw [hE, e5, e6] at CR
      have CR2 : Calls Try.prog 63 #[.slice A 20 c] w fun e w' => ∃ A' c', e = .returned (.tuple #[.agg #[.int .i64 0, .int .i64 0, .int .i64 0, .int .u32 0, .int .u32 0, .int .u32 0, .int .i64 0, .int .i64 0], .slice A' 0 c', .int .i64 3]) ∧ Own .u8 5 w' w.heap.size A' c' [] ∧ Below w.heap.size w w' := CR
      rw [e1, e2]
      clear e1 e2 hE e5 e6 CR hb hy hn fl hm
      go_enter Try.func53, Try.ntmps53
      go_wp2_with fail
      refine CR2.mono ?_
      rintro e Y1 ⟨A1, c1, rfl, -, u1⟩
      have u2 := Lib.hid (u1.trans (below_alloc1 Y1 (.cells #[Value.int .i64 0, .int .i64 0, .int .i64 0, .int .u32 0, .int .u32 0, .int .u32 0, .int .i64 0, .int .i64 0] 85) |>.mono u1.size))
      go_wp2
      go_ret2
      exact ⟨rfl, u2.out⟩
    rw [if_pos hm] at hE
    have e5 : rdp (l.take 20) = rdf (l.take 20) := by rw [rdp, if_pos hE, List.take_of_length_le (Nat.le_of_eq fl)]
    rw [hE, e5] at CR
    have hF : flE l = if (20 : Int) < (rdf (l.take 20)).n then 2 else 0 := by rw [flE, if_neg (by omega), if_pos hm, hn]; rfl
    have hN : flN l = if flE l = 0 then (rdf (l.take 20)).n else 0 := rfl
    obtain ⟨k, hk⟩ : ∃ k, (rdr (l.take 20)).length = k := ⟨_, rfl⟩
    rw [hk] at CR
    generalize rdf (l.take 20) = y at *
    by_cases hs : (20 : Int) < y.n
    · rw [if_pos hs] at hF
      rw [hF] at hN
      rw [hF, hN]
      clear hF hN hE e5 hb hy hn fl hm hk
      go_enter Try.func53, Try.ntmps53
      go_wp2_with fail
      refine CR.mono ?_
      rintro e Y1 ⟨A1, c1, rfl, -, u1⟩
      obtain ⟨Y2, hY2⟩ : ∃ V', Y1.alloc (.cells #[Value.int .i64 y.a, .int .i64 y.o, .int .i64 y.t, .int .u32 y.i, .int .u32 y.v, .int .u32 y.q, .int .i64 y.s, .int .i64 y.n] 85) = V' := ⟨_, rfl⟩
      have u2 : Below Y1.heap.size Y1 Y2 := by rw [← hY2]; exact below_alloc1 _ _
      obtain ⟨y0, y1, y2, y3, y4, y5, y6, y7⟩ := kb8_new hY2 (Below.refl _ _)
      have U := Lib.hid (u1.trans (u2.mono u1.size))
      clear u1 u2
      go_wp2
      go_ret2
      exact ⟨rfl, U.out⟩
    · rw [if_neg hs] at hF
      rw [hF] at hN
      rw [hF, hN]
      clear hF hN hE e5 hb hy hn fl hm hk
      go_enter Try.func53, Try.ntmps53
      go_wp2_with fail
      refine CR.mono ?_
      rintro e Y1 ⟨A1, c1, rfl, -, u1⟩
      obtain ⟨Y2, hY2⟩ : ∃ V', Y1.alloc (.cells #[Value.int .i64 y.a, .int .i64 y.o, .int .i64 y.t, .int .u32 y.i, .int .u32 y.v, .int .u32 y.q, .int .i64 y.s, .int .i64 y.n] 85) = V' := ⟨_, rfl⟩
      have u2 : Below Y1.heap.size Y1 Y2 := by rw [← hY2]; exact below_alloc1 _ _
      obtain ⟨y0, y1, y2, y3, y4, y5, y6, y7⟩ := kb8_new hY2 (Below.refl _ _)
      have U := Lib.hid (u1.trans (u2.mono u1.size))
      clear u1 u2
      go_wp2
      go_ret2
      exact ⟨rfl, U.out⟩
end Go.Proofs.Ytefbpaebimagaaa
