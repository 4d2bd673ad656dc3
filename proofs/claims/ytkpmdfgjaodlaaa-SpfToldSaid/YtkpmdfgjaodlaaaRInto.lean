/-
  The contract of the reference's Into. No statement is proved here; no conditions.
-/
import Derived.Test.YtkpmdfgjaodlaaaRHx
import Derived.Test.YtkpmdfgjaodlaaaRInts
import Derived.Deep.DeepCutAuto
namespace Go.Proofs.Ytkpmdfgjaodlaaa
open Go.RowKit Go.Joins

/-- One number more. -/
theorem nat_app {w : World} {g c n : Nat} {l : List Nat} (h : Rg 3 1 w g c (nts l)) (hn : l.length = n) (hl : n ≤ 100000) (v n0 : Nat) (hn0 : w.heap.size = n0) :
    ∃ g2 c2 w2, (Builtin.append_ #[26, 26] 26 #[.slice (some ⟨g, 0, none⟩) n c, .slice (some ⟨n0, 0, none⟩) 1 1]).run Try.prog (w.alloc (.cells #[.int .i64 (v : Int)] 3)) = .ok (.slice (some ⟨g2, 0, none⟩) (n + 1) c2) w2 ∧ Rg 3 1 w2 g2 c2 (nts (l ++ [v])) ∧ (g2 = g ∨ n0 < g2) ∧ (∀ B, B ≤ g → Below B w w2) := by
  subst hn hn0
  obtain ⟨W5, hW5⟩ : ∃ W5, w.alloc (.cells #[.int .i64 (v : Int)] 3) = W5 := ⟨_, rfl⟩
  have hs5 : W5.heap.size = w.heap.size + 1 := by rw [← hW5]; simp
  have b5 : Below w.heap.size w W5 := by rw [← hW5]; exact below_alloc1 _ _
  have src : Rd (· = w.heap.size) W5 (some ⟨w.heap.size, 0, none⟩) (nts [v]) := by
    rw [← hW5]
    exact (Rg.lit w 3 1 1 _ (nts [v]) rfl (by simp) (by unfold maxLen; omega)).rd
  have hg := h.lt
  obtain ⟨ti, hi5, hz5, hsz5, hby5⟩ := info3
  obtain ⟨g2, c2, W6, r1, r2, r3, r4⟩ := run_appr (P := Try.prog) W5 26 26 3 ti _ 1 8 Try.underlying26 hi5 hz5 hsz5 hby5 rfl (by omega) (by omega) (some ⟨g, 0, none⟩) g c l.length (nts l) ⟨by simp, .inr ⟨rfl, h.below' b5⟩⟩ _ _ 1 1 _ src (by simp) (nts_one [v]) (by omega) (by omega)
  rw [hW5]
  refine ⟨g2, c2, W6, r1, by rw [show nts (l ++ [v]) = nts l ++ nts [v] from List.map_append]; exact r2, ?_, fun B hB => (b5.mono (by omega)).trans (r3.below (fun j hj => by injection hj with hj; injection hj with hj; omega) (by omega))⟩
  rcases r4 with e | e
  · injection e with e; injection e with e; omega
  · omega
/-- What Into leaves: the row itself, or a new one. -/
def Intoed (w : World) (A : Option Addr) (c : Nat) (l : List Nat) (n : Nat) (e : Ending) (w' : World) : Prop :=
  ∃ A' c', e = .returned (.slice A' (into l n).length c') ∧ Below w.heap.size w w' ∧ ((A' = A ∧ c' = c ∧ into l n = l) ∨ ∃ g, A' = some ⟨g, 0, none⟩ ∧ w.heap.size ≤ g ∧ Rg 3 1 w' g c' (nts (into l n)))

set_option maxRecDepth 100000 in
set_option maxHeartbeats 1000000 in
theorem into_any (A : Option Addr) (c : Nat) (l : List Nat) (n : Nat) (B : Nat) (w : World) (h : Rd (· < B) w A (nts l)) (hB : B ≤ w.heap.size) (hl : l.length ≤ 1000) :
    Calls Try.prog 36 #[.slice A l.length c, .int .i64 (n : Int)] w fun e w' => Intoed w A c l n e w' := by
  have hs := has_any A c l n (· < B) w h (by omega)
  by_cases hm : n ∈ l
  · rw [decide_eq_true hm] at hs
    go_enter Try.func36, Try.ntmps36
    go_wp2_with fail
    refine hs.mono ?_
    rintro e W1 ⟨rfl, rfl⟩
    go_wp2
    go_ret
    exact ⟨A, c, by rw [into_has hm]; rfl, Below.refl _ _, .inl ⟨rfl, rfl, into_has hm⟩⟩
  · rw [decide_eq_false hm] at hs
    have R := Lib.hid h
    have HM := Lib.hid hm
    clear h hm
    have b0 : Below w.heap.size w (w.alloc (.cells #[] 3)) := below_alloc1 _ _
    have R0 : Rg 3 1 (w.alloc (.cells #[] 3)) w.heap.size 0 (nts []) := Rg.lit w 3 1 0 #[] [] rfl rfl (by unfold maxLen; omega)
    have HB0 := Lib.hid b0
    have HR0 := Lib.hid R0
    clear b0 R0
    go_enter Try.func36, Try.ntmps36
    go_wp2_with fail
    refine hs.mono ?_
    rintro e W1 ⟨rfl, hw1⟩
    subst hw1
    clear hs
    go_wp2_with fail
    go_loopg [5, 6, 7] l.length (fun gf v5 v6 v7 wx => ∃ (k g c' : Nat) (O : List Nat), v5 = .slice (some ⟨g, 0, none⟩) O.length c' ∧ v6 = .bool (gt1 n (l.take k)) ∧ v7 = .int .i64 (k : Int) ∧ Hid (gf + k = l.length) ∧ Hid (O = if gt1 n (l.take k) = true then inI n (l.take k) else l.take k) ∧ Hid (O.length ≤ k + 1) ∧ Hid (Rg 3 1 wx g c' (nts O)) ∧ Hid (W1.heap.size ≤ g) ∧ Hid (Below W1.heap.size W1 wx))
    case atStart => exact ⟨0, _, _, [], rfl, rfl, rfl, Lib.hid (by omega), Lib.hid (by simp [gt1]), Lib.hid (by simp), HR0, Lib.hid (Nat.le_refl _), HB0⟩
    case round =>
      obtain ⟨k, g, c', O, rfl, rfl, rfl, hk, hO, hOl, hr, hg, hb⟩ := hrel
      clear HB0 HR0
      have hk' := hk.out
      cases gk with
      | zero =>
        have e1 : k = l.length := by omega
        have lt0 : decide ((k : Int) < (l.length : Int)) = false := by simp; omega
        have hO1 := hO.out
        rw [e1, List.take_length] at hO1
        rw [e1, List.take_length]
        have hin := into_not HM.out
        cases hp : gt1 n l with
        | true =>
          rw [hp, if_pos rfl] at hO1
          have HO1 := Lib.hid hO1
          clear hO1 hO hp
          go_wp2
          go_ret
          exact ⟨_, _, by rw [hin, ← HO1.out]; rfl, hb.out, .inr ⟨g, rfl, hg.out, by rw [hin, ← HO1.out]; exact hr.out⟩⟩
        | false =>
          rw [hp] at hO1
          have hO2 : O = l := by simpa using hO1
          have hi2 := inI_no hp
          obtain ⟨g2, c2, W2, r1, r2, r3, r4⟩ := nat_app hr.out rfl (by have := hOl.out; omega) n wr.heap.size rfl
          have HI : Hid (into l n = O ++ [n]) := Lib.hid (by rw [hin, hi2, hO2])
          have R2 := Lib.hid r2
          have B2 := Lib.hid (hb.out.trans (r4 _ hg.out))
          have hsz := hb.out.size
          have hgg := hg.out
          clear hO1 hO2 hi2 hO r2 r4 hp hin
          go_wp2_with (first | (at_builtin; refine wpList_runb _ rfl (.tmp 42) (.tmp 44) 26 rfl rfl rfl r1 ?_))
          go_wp2
          go_ret
          exact ⟨_, _, by rw [HI.out, List.length_append]; rfl, B2.out, .inr ⟨g2, rfl, by omega, by rw [HI.out]; exact R2.out⟩⟩
      | succ gf =>
        have hkl : k < l.length := by omega
        have lt0 : (k : Int) < (l.length : Int) := by omega
        have hsz := hb.out.size
        have hRx : Rd (· < B) wr A (nts l) := R.out.below hb.out (fun j hj _ => by omega)
        obtain ⟨b, off, hA, e0⟩ := hRx.nat_at hkl
        obtain ⟨x, hx⟩ : ∃ x, gw l k = x := ⟨_, rfl⟩
        rw [hx] at e0
        have hxk : l[k] = x := by rw [← hx, gw_eq hkl]
        have htk : l.take (k + 1) = l.take k ++ [x] := by rw [List.take_succ_eq_append_getElem hkl, hxk]
        have hg1 : gt1 n (l.take (k + 1)) = (gt1 n (l.take k) || decide (n < x)) := by rw [htk]; simp [gt1]
        have hO1 := hO.out
        have hgg := hg.out
        have hol := hOl.out
        subst hA
        cases hp : gt1 n (l.take k) with
        | true =>
          rw [hp, if_pos rfl] at hO1
          rw [hp, Bool.true_or] at hg1
          obtain ⟨g2, c2, W2, r1, r2, r3, r4⟩ := nat_app hr.out rfl (by omega) x wr.heap.size rfl
          have N1 : Hid (gt1 n (l.take (k + 1)) = true) := Lib.hid hg1
          have N2 : Hid (O ++ [x] = inI n (l.take (k + 1))) := Lib.hid (by rw [htk, inI_yes hp, hO1])
          have R2 := Lib.hid r2
          have B2 := Lib.hid (hb.out.trans (r4 _ hgg))
          have G2 : Hid (W1.heap.size ≤ g2) := Lib.hid (by omega)
          clear hO1 hO hp hg1 htk hxk hx r2 r4 r3 hRx
          go_wp2_with (first | (at_builtin; refine wpList_runb _ rfl (.tmp 33) (.tmp 38) 26 rfl rfl rfl r1 ?_))
          go_wp2
          go_roundg gf
          case measure => omega
          case rel => exact ⟨k + 1, g2, c2, O ++ [x], by simp, by rw [N1.out], by go_num, Lib.hid (by omega), Lib.hid (by rw [N1.out, if_pos rfl]; exact N2.out), Lib.hid (by simp; omega), R2, G2, B2⟩
        | false =>
          rw [hp] at hO1
          have hO2 : O = l.take k := by simpa using hO1
          rw [hp, Bool.false_or] at hg1
          by_cases hq : n < x
          · have q1 : decide ((x : Int) > (n : Int)) = true := by simp; omega
            have q2 : decide (n < x) = true := by simpa using hq
            rw [q2] at hg1
            obtain ⟨g2, c2, W2, r1, r2, r3, r4⟩ := nat_app hr.out rfl (by omega) n wr.heap.size rfl
            have b2 := hb.out.trans (r4 _ hgg)
            obtain ⟨s2, hs2⟩ : ∃ s, W2.heap.size = s := ⟨_, rfl⟩
            obtain ⟨g3, c3, W3, t1, t2, t3, t4⟩ := nat_app r2 (n := O.length + 1) (by simp) (by omega) x s2 hs2
            have hsz2 := b2.size
            have e0' : W2.cell? ⟨b, off + k, none⟩ = some (.int .i64 (x : Int)) := by
              obtain ⟨b', off', eq, e⟩ := (R.out.below b2 (fun j hj _ => by omega)).nat_at hkl
              simp only [Option.some.injEq, Addr.mk.injEq] at eq
              obtain ⟨rfl, rfl, _⟩ := eq
              rwa [hx] at e
            have N1 : Hid (gt1 n (l.take (k + 1)) = true) := Lib.hid hg1
            have N2 : Hid (O ++ [n] ++ [x] = inI n (l.take (k + 1))) := Lib.hid (by rw [htk, inI_first hp hq, hO2])
            have R2 := Lib.hid t2
            have B2 := Lib.hid (b2.trans (t4 _ (by omega)))
            have G2 : Hid (W1.heap.size ≤ g3) := Lib.hid (by omega)
            have HO2 := Lib.hid hO2
            clear hO1 hO hp hg1 htk hxk hx r2 r4 r3 hRx t2 t3 t4 b2 hO2
            go_upto_region 11 with (at_builtin; refine wpList_runb _ rfl (.tmp 29) (.tmp 31) 26 rfl rfl rfl r1 ?_)
            clear r1 e0
            go_wp2_with (at_builtin; refine wpList_runb _ rfl (.tmp 33) (.tmp 38) 26 rfl rfl rfl t1 ?_)
            go_wp2
            go_roundg gf
            case measure => omega
            case rel => exact ⟨k + 1, g3, c3, O ++ [n] ++ [x], by simp, by rw [N1.out], by go_num, Lib.hid (by omega), Lib.hid (by rw [N1.out, if_pos rfl]; exact N2.out), Lib.hid (by have := congrArg List.length HO2.out; simp at this ⊢; omega), R2, G2, B2⟩
          · have q1 : decide ((x : Int) > (n : Int)) = false := by simp; omega
            have q2 : decide (n < x) = false := by simpa using hq
            rw [q2] at hg1
            obtain ⟨g2, c2, W2, r1, r2, r3, r4⟩ := nat_app hr.out rfl (by omega) x wr.heap.size rfl
            have N1 : Hid (gt1 n (l.take (k + 1)) = false) := Lib.hid hg1
            have N2 : Hid (O ++ [x] = l.take (k + 1)) := Lib.hid (by rw [htk, hO2])
            have R2 := Lib.hid r2
            have B2 := Lib.hid (hb.out.trans (r4 _ hgg))
            have G2 : Hid (W1.heap.size ≤ g2) := Lib.hid (by omega)
            clear hO1 hO hp hg1 htk hxk hx r2 r4 r3 hRx hO2
            go_wp2_with (first | (at_builtin; refine wpList_runb _ rfl (.tmp 33) (.tmp 38) 26 rfl rfl rfl r1 ?_))
            go_wp2
            go_roundg gf
            case measure => omega
            case rel => exact ⟨k + 1, g2, c2, O ++ [x], by simp, by rw [N1.out], by go_num, Lib.hid (by omega), Lib.hid (by rw [N1.out]; simpa using N2.out), Lib.hid (by simp; omega), R2, G2, B2⟩
end Go.Proofs.Ytkpmdfgjaodlaaa
