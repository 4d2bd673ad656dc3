/-
  The contract of the reference's PutDesc. No statement is proved here; no conditions.
-/
import Derived.Test.YtefbpaebimagaaaDd
namespace Go.Proofs.Ytefbpaebimagaaa
open Go.RowKit Go.Joins

theorem pdE_no2 {x : Dc} {L : List Hd} (h : (win (L.length : Int) 0 60 && mays L) = false) : pdE x L = 1 ∧ pdL x L = [] := by
  have e : pdE x L = 1 := by
    unfold pdE
    split
    · exact (phE_no h).1
    · rfl
  exact ⟨e, by rw [pdL, e]; rfl⟩
set_option maxRecDepth 100000 in
set_option maxHeartbeats 8000000 in
theorem rput_good (m o q v : Int) (i r s : Bool) (hv : v = (if i = true then 4 else 0) + ((if r = true then 2 else 0) + (if s = true then 1 else 0))) (A : Option Addr) (n c : Nat) (L : List Hd) (w : World) (hq0 : 0 ≤ q) (hq1 : q < 4294967296) (hm0 : 0 ≤ m) (hm1 : m ≤ 65535) (ho0 : 0 ≤ o) (ho1 : o ≤ 255) (hn6 : n ≤ 60)
    (hn : L.length = n) (ok : ∀ x ∈ L, Okd x) (hl : hRr w A L) (hmy : mays L = true) :
    Calls Try.prog 10 #[.agg #[.int .i64 m, .int .i64 o, .bool i, .bool r, .bool s, .int .u32 q, .slice A n c]] w fun e w' => ∃ A' c', e = .returned (.tuple #[.slice A' (8 + (encs L).length) c', .int .i64 0]) ∧ Own .u8 5 w' w.heap.size A' c' (([m / 256, m % 256, o, v] ++ be q 4) ++ encs L) ∧ Below w.heap.size w w' := by
  have e0 : rhL L = encs L := by rw [rhL, if_pos hmy]
  have h1 : ¬ (m < 0) := by omega
  have h2 : ¬ (m > 65535) := by omega
  have h3 : ¬ (o < 0) := by omega
  have h4 : ¬ (o > 255) := by omega
  have h5 : ¬ ((n : Int) > 60) := by omega
  obtain ⟨i0, hi0, hz0, hz1, hz2⟩ := info_of info5
  have lE := encs_length L
  cases i with
  | false =>
    cases r with
    | false =>
      cases s with
      | false =>
        obtain rfl : v = 0 := by rw [hv]; rfl
        clear hv
        obtain ⟨W0, hW0⟩ : ∃ V, w.alloc (.cells #[.int .i64 m, .int .i64 o, .bool false, .bool false, .bool false, .int .u32 q, .slice A n c] 32) = V := ⟨_, rfl⟩
        have bW0 : Below w.heap.size w W0 := by rw [← hW0]; exact below_alloc1 _ _
        have sW0 : W0.heap.size = w.heap.size + 1 := by rw [← hW0]; simp
        have KX : Hid (∀ V, Below W0.heap.size W0 V → V.cell? ⟨w.heap.size, 0, none⟩ = some (.int .i64 m) ∧ V.cell? ⟨w.heap.size, 1, none⟩ = some (.int .i64 o) ∧ V.cell? ⟨w.heap.size, 2, none⟩ = some (.bool false) ∧ V.cell? ⟨w.heap.size, 3, none⟩ = some (.bool false) ∧ V.cell? ⟨w.heap.size, 4, none⟩ = some (.bool false) ∧ V.cell? ⟨w.heap.size, 5, none⟩ = some (.int .u32 q) ∧ V.cell? ⟨w.heap.size, 6, none⟩ = some (.slice A n c)) := Lib.hid (fun V hV => kb7_new hW0 hV)
        have HB : Hid (Below w.heap.size w W0) := Lib.hid bW0
        have CP := rheads_any A n c L W0 hn ok (hl.step bW0) (by omega)
        rw [e0, hmy] at CP
        generalize encs L = P at *
        obtain ⟨p, hp⟩ : ∃ p, P.length = p := ⟨_, rfl⟩
        rw [hp] at CP ⊢
        have lp : p ≤ 1200 := by omega
        have HP := Lib.hid hp
        obtain ⟨k0, k1, k2, k3, k4, k5, k6⟩ := KX.out _ (Below.refl _ _)
        clear bW0 hl ok e0 hmy hn hp
        go_enter Try.func10, Try.ntmps10
        go_wp2_with fail
        refine CP.mono ?_
        rintro e Y1 ⟨A0, c0, rfl, o0, u0⟩
        clear k0 k1 k2 k3 k4 k5 k6 CP
        obtain ⟨k0, k1, k2, k3, k4, k5, k6⟩ := KX.out _ u0
        obtain ⟨W2, hW2⟩ : ∃ V, Y1.alloc (.cells #[Value.int .u8 (m / 256), .int .u8 (m % 256), .int .u8 o, .int .u8 0] 5) = V := ⟨_, rfl⟩
        have u2 : Below Y1.heap.size Y1 W2 := by rw [← hW2]; exact below_alloc1 _ _
        have o2 : Own .u8 5 W2 Y1.heap.size (some ⟨Y1.heap.size, 0, none⟩) 4 [m / 256, m % 256, o, 0] := by
          rw [← hW2]
          exact Own.lit Y1 Y1.heap.size (Nat.le_refl _) [m / 256, m % 256, o, 0] (by simp [maxLen])
        obtain ⟨z0, z1, z2, z3, z4, z5, z6⟩ := KX.out _ (u0.trans (u2.mono u0.size))
        have H0 := Lib.hid o0
        have H2 := Lib.hid o2
        have U0 := Lib.hid u0
        have U2 := Lib.hid u2
        clear o0 o2 u0 u2
        go_wp2_with fail
        refine (four_any q _ hq0 hq1).mono ?_
        rintro e Y3 ⟨A3, c3, rfl, o3, u3⟩
        clear k0 k1 k2 k3 k4 k5 k6 z0 z1 z2 z3 z4 z5 z6 hW2
        have p3 := H2.out.step u3
        have T3 : Below Y1.heap.size Y1 Y3 := U2.out.trans (u3.mono U2.out.size)
        obtain ⟨A4, c4, Y4, rY4, oY4, tY4⟩ := run_apn (P := Try.prog) Y3 Y1.heap.size 26 26 5 .u8 i0 _ 1 Try.underlying26 hi0 hz0 hz1 hz2 rfl _ _ _ p3 _ A3 c3 _ o3.bs 4 4 rfl (be_length _ _) (by unfold maxLen; omega) (by omega) T3.size
        have T4 : Below Y1.heap.size Y1 Y4 := T3.trans tY4
        have l4 : ([m / 256, m % 256, o, 0] ++ be q 4).length = 8 := by simp [be_length]
        obtain ⟨A5, c5, Y5, rY5, oY5, tY5⟩ := run_apn (P := Try.prog) Y4 Y1.heap.size 26 26 5 .u8 i0 _ 1 Try.underlying26 hi0 hz0 hz1 hz2 rfl _ _ _ oY4 _ A0 c0 _ (Bs.step H0.out.bs T4) 8 p l4 HP.out (by unfold maxLen; omega) (by omega) T4.size
        have HO5 := Lib.hid (oY5.lower U0.out.size)
        have HT5 := Lib.hid (HB.out.trans ((U0.out.trans ((T4.trans tY5).mono U0.out.size)).mono HB.out.size))
        clear p3 o3 u3 T3 T4 oY4 tY4 oY5 tY5 l4
        simp only [Nat.reduceAdd] at rY4
        go_wp2_with (at_builtin; first | refine wpList_runb _ rfl (.tmp 67) (.tmp 70) 26 rfl rfl rfl rY4 ?_ | refine wpList_runb _ rfl (.tmp 72) (.tmp 73) 26 rfl rfl rfl rY5 ?_)
        go_ret2
        exact ⟨A5, c5, rfl, HO5.out.lower HB.out.size, HT5.out⟩
      | true =>
        obtain rfl : v = 1 := by rw [hv]; rfl
        clear hv
        obtain ⟨W0, hW0⟩ : ∃ V, w.alloc (.cells #[.int .i64 m, .int .i64 o, .bool false, .bool false, .bool true, .int .u32 q, .slice A n c] 32) = V := ⟨_, rfl⟩
        have bW0 : Below w.heap.size w W0 := by rw [← hW0]; exact below_alloc1 _ _
        have sW0 : W0.heap.size = w.heap.size + 1 := by rw [← hW0]; simp
        have KX : Hid (∀ V, Below W0.heap.size W0 V → V.cell? ⟨w.heap.size, 0, none⟩ = some (.int .i64 m) ∧ V.cell? ⟨w.heap.size, 1, none⟩ = some (.int .i64 o) ∧ V.cell? ⟨w.heap.size, 2, none⟩ = some (.bool false) ∧ V.cell? ⟨w.heap.size, 3, none⟩ = some (.bool false) ∧ V.cell? ⟨w.heap.size, 4, none⟩ = some (.bool true) ∧ V.cell? ⟨w.heap.size, 5, none⟩ = some (.int .u32 q) ∧ V.cell? ⟨w.heap.size, 6, none⟩ = some (.slice A n c)) := Lib.hid (fun V hV => kb7_new hW0 hV)
        have HB : Hid (Below w.heap.size w W0) := Lib.hid bW0
        have CP := rheads_any A n c L W0 hn ok (hl.step bW0) (by omega)
        rw [e0, hmy] at CP
        generalize encs L = P at *
        obtain ⟨p, hp⟩ : ∃ p, P.length = p := ⟨_, rfl⟩
        rw [hp] at CP ⊢
        have lp : p ≤ 1200 := by omega
        have HP := Lib.hid hp
        obtain ⟨k0, k1, k2, k3, k4, k5, k6⟩ := KX.out _ (Below.refl _ _)
        clear bW0 hl ok e0 hmy hn hp
        go_enter Try.func10, Try.ntmps10
        go_wp2_with fail
        refine CP.mono ?_
        rintro e Y1 ⟨A0, c0, rfl, o0, u0⟩
        clear k0 k1 k2 k3 k4 k5 k6 CP
        obtain ⟨k0, k1, k2, k3, k4, k5, k6⟩ := KX.out _ u0
        obtain ⟨W2, hW2⟩ : ∃ V, Y1.alloc (.cells #[Value.int .u8 (m / 256), .int .u8 (m % 256), .int .u8 o, .int .u8 1] 5) = V := ⟨_, rfl⟩
        have u2 : Below Y1.heap.size Y1 W2 := by rw [← hW2]; exact below_alloc1 _ _
        have o2 : Own .u8 5 W2 Y1.heap.size (some ⟨Y1.heap.size, 0, none⟩) 4 [m / 256, m % 256, o, 1] := by
          rw [← hW2]
          exact Own.lit Y1 Y1.heap.size (Nat.le_refl _) [m / 256, m % 256, o, 1] (by simp [maxLen])
        obtain ⟨z0, z1, z2, z3, z4, z5, z6⟩ := KX.out _ (u0.trans (u2.mono u0.size))
        have H0 := Lib.hid o0
        have H2 := Lib.hid o2
        have U0 := Lib.hid u0
        have U2 := Lib.hid u2
        clear o0 o2 u0 u2
        go_wp2_with fail
        refine (four_any q _ hq0 hq1).mono ?_
        rintro e Y3 ⟨A3, c3, rfl, o3, u3⟩
        clear k0 k1 k2 k3 k4 k5 k6 z0 z1 z2 z3 z4 z5 z6 hW2
        have p3 := H2.out.step u3
        have T3 : Below Y1.heap.size Y1 Y3 := U2.out.trans (u3.mono U2.out.size)
        obtain ⟨A4, c4, Y4, rY4, oY4, tY4⟩ := run_apn (P := Try.prog) Y3 Y1.heap.size 26 26 5 .u8 i0 _ 1 Try.underlying26 hi0 hz0 hz1 hz2 rfl _ _ _ p3 _ A3 c3 _ o3.bs 4 4 rfl (be_length _ _) (by unfold maxLen; omega) (by omega) T3.size
        have T4 : Below Y1.heap.size Y1 Y4 := T3.trans tY4
        have l4 : ([m / 256, m % 256, o, 1] ++ be q 4).length = 8 := by simp [be_length]
        obtain ⟨A5, c5, Y5, rY5, oY5, tY5⟩ := run_apn (P := Try.prog) Y4 Y1.heap.size 26 26 5 .u8 i0 _ 1 Try.underlying26 hi0 hz0 hz1 hz2 rfl _ _ _ oY4 _ A0 c0 _ (Bs.step H0.out.bs T4) 8 p l4 HP.out (by unfold maxLen; omega) (by omega) T4.size
        have HO5 := Lib.hid (oY5.lower U0.out.size)
        have HT5 := Lib.hid (HB.out.trans ((U0.out.trans ((T4.trans tY5).mono U0.out.size)).mono HB.out.size))
        clear p3 o3 u3 T3 T4 oY4 tY4 oY5 tY5 l4
        simp only [Nat.reduceAdd] at rY4
        go_wp2_with (at_builtin; first | refine wpList_runb _ rfl (.tmp 67) (.tmp 70) 26 rfl rfl rfl rY4 ?_ | refine wpList_runb _ rfl (.tmp 72) (.tmp 73) 26 rfl rfl rfl rY5 ?_)
        go_ret2
        exact ⟨A5, c5, rfl, HO5.out.lower HB.out.size, HT5.out⟩
    | true =>
      cases s with
      | false =>
        obtain rfl : v = 2 := by rw [hv]; rfl
        clear hv
        obtain ⟨W0, hW0⟩ : ∃ V, w.alloc (.cells #[.int .i64 m, .int .i64 o, .bool false, .bool true, .bool false, .int .u32 q, .slice A n c] 32) = V := ⟨_, rfl⟩
        have bW0 : Below w.heap.size w W0 := by rw [← hW0]; exact below_alloc1 _ _
        have sW0 : W0.heap.size = w.heap.size + 1 := by rw [← hW0]; simp
        have KX : Hid (∀ V, Below W0.heap.size W0 V → V.cell? ⟨w.heap.size, 0, none⟩ = some (.int .i64 m) ∧ V.cell? ⟨w.heap.size, 1, none⟩ = some (.int .i64 o) ∧ V.cell? ⟨w.heap.size, 2, none⟩ = some (.bool false) ∧ V.cell? ⟨w.heap.size, 3, none⟩ = some (.bool true) ∧ V.cell? ⟨w.heap.size, 4, none⟩ = some (.bool false) ∧ V.cell? ⟨w.heap.size, 5, none⟩ = some (.int .u32 q) ∧ V.cell? ⟨w.heap.size, 6, none⟩ = some (.slice A n c)) := Lib.hid (fun V hV => kb7_new hW0 hV)
        have HB : Hid (Below w.heap.size w W0) := Lib.hid bW0
        have CP := rheads_any A n c L W0 hn ok (hl.step bW0) (by omega)
        rw [e0, hmy] at CP
        generalize encs L = P at *
        obtain ⟨p, hp⟩ : ∃ p, P.length = p := ⟨_, rfl⟩
        rw [hp] at CP ⊢
        have lp : p ≤ 1200 := by omega
        have HP := Lib.hid hp
        obtain ⟨k0, k1, k2, k3, k4, k5, k6⟩ := KX.out _ (Below.refl _ _)
        clear bW0 hl ok e0 hmy hn hp
        go_enter Try.func10, Try.ntmps10
        go_wp2_with fail
        refine CP.mono ?_
        rintro e Y1 ⟨A0, c0, rfl, o0, u0⟩
        clear k0 k1 k2 k3 k4 k5 k6 CP
        obtain ⟨k0, k1, k2, k3, k4, k5, k6⟩ := KX.out _ u0
        obtain ⟨W2, hW2⟩ : ∃ V, Y1.alloc (.cells #[Value.int .u8 (m / 256), .int .u8 (m % 256), .int .u8 o, .int .u8 2] 5) = V := ⟨_, rfl⟩
        have u2 : Below Y1.heap.size Y1 W2 := by rw [← hW2]; exact below_alloc1 _ _
        have o2 : Own .u8 5 W2 Y1.heap.size (some ⟨Y1.heap.size, 0, none⟩) 4 [m / 256, m % 256, o, 2] := by
          rw [← hW2]
          exact Own.lit Y1 Y1.heap.size (Nat.le_refl _) [m / 256, m % 256, o, 2] (by simp [maxLen])
        obtain ⟨z0, z1, z2, z3, z4, z5, z6⟩ := KX.out _ (u0.trans (u2.mono u0.size))
        have H0 := Lib.hid o0
        have H2 := Lib.hid o2
        have U0 := Lib.hid u0
        have U2 := Lib.hid u2
        clear o0 o2 u0 u2
        go_wp2_with fail
        refine (four_any q _ hq0 hq1).mono ?_
        rintro e Y3 ⟨A3, c3, rfl, o3, u3⟩
        clear k0 k1 k2 k3 k4 k5 k6 z0 z1 z2 z3 z4 z5 z6 hW2
        have p3 := H2.out.step u3
        have T3 : Below Y1.heap.size Y1 Y3 := U2.out.trans (u3.mono U2.out.size)
        obtain ⟨A4, c4, Y4, rY4, oY4, tY4⟩ := run_apn (P := Try.prog) Y3 Y1.heap.size 26 26 5 .u8 i0 _ 1 Try.underlying26 hi0 hz0 hz1 hz2 rfl _ _ _ p3 _ A3 c3 _ o3.bs 4 4 rfl (be_length _ _) (by unfold maxLen; omega) (by omega) T3.size
        have T4 : Below Y1.heap.size Y1 Y4 := T3.trans tY4
        have l4 : ([m / 256, m % 256, o, 2] ++ be q 4).length = 8 := by simp [be_length]
        obtain ⟨A5, c5, Y5, rY5, oY5, tY5⟩ := run_apn (P := Try.prog) Y4 Y1.heap.size 26 26 5 .u8 i0 _ 1 Try.underlying26 hi0 hz0 hz1 hz2 rfl _ _ _ oY4 _ A0 c0 _ (Bs.step H0.out.bs T4) 8 p l4 HP.out (by unfold maxLen; omega) (by omega) T4.size
        have HO5 := Lib.hid (oY5.lower U0.out.size)
        have HT5 := Lib.hid (HB.out.trans ((U0.out.trans ((T4.trans tY5).mono U0.out.size)).mono HB.out.size))
        clear p3 o3 u3 T3 T4 oY4 tY4 oY5 tY5 l4
        simp only [Nat.reduceAdd] at rY4
        go_wp2_with (at_builtin; first | refine wpList_runb _ rfl (.tmp 67) (.tmp 70) 26 rfl rfl rfl rY4 ?_ | refine wpList_runb _ rfl (.tmp 72) (.tmp 73) 26 rfl rfl rfl rY5 ?_)
        go_ret2
        exact ⟨A5, c5, rfl, HO5.out.lower HB.out.size, HT5.out⟩
      | true =>
        obtain rfl : v = 3 := by rw [hv]; rfl
        clear hv
        obtain ⟨W0, hW0⟩ : ∃ V, w.alloc (.cells #[.int .i64 m, .int .i64 o, .bool false, .bool true, .bool true, .int .u32 q, .slice A n c] 32) = V := ⟨_, rfl⟩
        have bW0 : Below w.heap.size w W0 := by rw [← hW0]; exact below_alloc1 _ _
        have sW0 : W0.heap.size = w.heap.size + 1 := by rw [← hW0]; simp
        have KX : Hid (∀ V, Below W0.heap.size W0 V → V.cell? ⟨w.heap.size, 0, none⟩ = some (.int .i64 m) ∧ V.cell? ⟨w.heap.size, 1, none⟩ = some (.int .i64 o) ∧ V.cell? ⟨w.heap.size, 2, none⟩ = some (.bool false) ∧ V.cell? ⟨w.heap.size, 3, none⟩ = some (.bool true) ∧ V.cell? ⟨w.heap.size, 4, none⟩ = some (.bool true) ∧ V.cell? ⟨w.heap.size, 5, none⟩ = some (.int .u32 q) ∧ V.cell? ⟨w.heap.size, 6, none⟩ = some (.slice A n c)) := Lib.hid (fun V hV => kb7_new hW0 hV)
        have HB : Hid (Below w.heap.size w W0) := Lib.hid bW0
        have CP := rheads_any A n c L W0 hn ok (hl.step bW0) (by omega)
        rw [e0, hmy] at CP
        generalize encs L = P at *
        obtain ⟨p, hp⟩ : ∃ p, P.length = p := ⟨_, rfl⟩
        rw [hp] at CP ⊢
        have lp : p ≤ 1200 := by omega
        have HP := Lib.hid hp
        obtain ⟨k0, k1, k2, k3, k4, k5, k6⟩ := KX.out _ (Below.refl _ _)
        clear bW0 hl ok e0 hmy hn hp
        go_enter Try.func10, Try.ntmps10
        go_wp2_with fail
        refine CP.mono ?_
        rintro e Y1 ⟨A0, c0, rfl, o0, u0⟩
        clear k0 k1 k2 k3 k4 k5 k6 CP
        obtain ⟨k0, k1, k2, k3, k4, k5, k6⟩ := KX.out _ u0
        obtain ⟨W2, hW2⟩ : ∃ V, Y1.alloc (.cells #[Value.int .u8 (m / 256), .int .u8 (m % 256), .int .u8 o, .int .u8 3] 5) = V := ⟨_, rfl⟩
        have u2 : Below Y1.heap.size Y1 W2 := by rw [← hW2]; exact below_alloc1 _ _
        have o2 : Own .u8 5 W2 Y1.heap.size (some ⟨Y1.heap.size, 0, none⟩) 4 [m / 256, m % 256, o, 3] := by
          rw [← hW2]
          exact Own.lit Y1 Y1.heap.size (Nat.le_refl _) [m / 256, m % 256, o, 3] (by simp [maxLen])
        obtain ⟨z0, z1, z2, z3, z4, z5, z6⟩ := KX.out _ (u0.trans (u2.mono u0.size))
        have H0 := Lib.hid o0
        have H2 := Lib.hid o2
        have U0 := Lib.hid u0
        have U2 := Lib.hid u2
        clear o0 o2 u0 u2
        go_wp2_with fail
        refine (four_any q _ hq0 hq1).mono ?_
        rintro e Y3 ⟨A3, c3, rfl, o3, u3⟩
        clear k0 k1 k2 k3 k4 k5 k6 z0 z1 z2 z3 z4 z5 z6 hW2
        have p3 := H2.out.step u3
        have T3 : Below Y1.heap.size Y1 Y3 := U2.out.trans (u3.mono U2.out.size)
        obtain ⟨A4, c4, Y4, rY4, oY4, tY4⟩ := run_apn (P := Try.prog) Y3 Y1.heap.size 26 26 5 .u8 i0 _ 1 Try.underlying26 hi0 hz0 hz1 hz2 rfl _ _ _ p3 _ A3 c3 _ o3.bs 4 4 rfl (be_length _ _) (by unfold maxLen; omega) (by omega) T3.size
        have T4 : Below Y1.heap.size Y1 Y4 := T3.trans tY4
        have l4 : ([m / 256, m % 256, o, 3] ++ be q 4).length = 8 := by simp [be_length]
        obtain ⟨A5, c5, Y5, rY5, oY5, tY5⟩ := run_apn (P := Try.prog) Y4 Y1.heap.size 26 26 5 .u8 i0 _ 1 Try.underlying26 hi0 hz0 hz1 hz2 rfl _ _ _ oY4 _ A0 c0 _ (Bs.step H0.out.bs T4) 8 p l4 HP.out (by unfold maxLen; omega) (by omega) T4.size
        have HO5 := Lib.hid (oY5.lower U0.out.size)
        have HT5 := Lib.hid (HB.out.trans ((U0.out.trans ((T4.trans tY5).mono U0.out.size)).mono HB.out.size))
        clear p3 o3 u3 T3 T4 oY4 tY4 oY5 tY5 l4
        simp only [Nat.reduceAdd] at rY4
        go_wp2_with (at_builtin; first | refine wpList_runb _ rfl (.tmp 67) (.tmp 70) 26 rfl rfl rfl rY4 ?_ | refine wpList_runb _ rfl (.tmp 72) (.tmp 73) 26 rfl rfl rfl rY5 ?_)
        go_ret2
        exact ⟨A5, c5, rfl, HO5.out.lower HB.out.size, HT5.out⟩
  | true =>
    cases r with
    | false =>
      cases s with
      | false =>
        obtain rfl : v = 4 := by rw [hv]; rfl
        clear hv
        obtain ⟨W0, hW0⟩ : ∃ V, w.alloc (.cells #[.int .i64 m, .int .i64 o, .bool true, .bool false, .bool false, .int .u32 q, .slice A n c] 32) = V := ⟨_, rfl⟩
        have bW0 : Below w.heap.size w W0 := by rw [← hW0]; exact below_alloc1 _ _
        have sW0 : W0.heap.size = w.heap.size + 1 := by rw [← hW0]; simp
        have KX : Hid (∀ V, Below W0.heap.size W0 V → V.cell? ⟨w.heap.size, 0, none⟩ = some (.int .i64 m) ∧ V.cell? ⟨w.heap.size, 1, none⟩ = some (.int .i64 o) ∧ V.cell? ⟨w.heap.size, 2, none⟩ = some (.bool true) ∧ V.cell? ⟨w.heap.size, 3, none⟩ = some (.bool false) ∧ V.cell? ⟨w.heap.size, 4, none⟩ = some (.bool false) ∧ V.cell? ⟨w.heap.size, 5, none⟩ = some (.int .u32 q) ∧ V.cell? ⟨w.heap.size, 6, none⟩ = some (.slice A n c)) := Lib.hid (fun V hV => kb7_new hW0 hV)
        have HB : Hid (Below w.heap.size w W0) := Lib.hid bW0
        have CP := rheads_any A n c L W0 hn ok (hl.step bW0) (by omega)
        rw [e0, hmy] at CP
        generalize encs L = P at *
        obtain ⟨p, hp⟩ : ∃ p, P.length = p := ⟨_, rfl⟩
        rw [hp] at CP ⊢
        have lp : p ≤ 1200 := by omega
        have HP := Lib.hid hp
        obtain ⟨k0, k1, k2, k3, k4, k5, k6⟩ := KX.out _ (Below.refl _ _)
        clear bW0 hl ok e0 hmy hn hp
        go_enter Try.func10, Try.ntmps10
        go_wp2_with fail
        refine CP.mono ?_
        rintro e Y1 ⟨A0, c0, rfl, o0, u0⟩
        clear k0 k1 k2 k3 k4 k5 k6 CP
        obtain ⟨k0, k1, k2, k3, k4, k5, k6⟩ := KX.out _ u0
        obtain ⟨W2, hW2⟩ : ∃ V, Y1.alloc (.cells #[Value.int .u8 (m / 256), .int .u8 (m % 256), .int .u8 o, .int .u8 4] 5) = V := ⟨_, rfl⟩
        have u2 : Below Y1.heap.size Y1 W2 := by rw [← hW2]; exact below_alloc1 _ _
        have o2 : Own .u8 5 W2 Y1.heap.size (some ⟨Y1.heap.size, 0, none⟩) 4 [m / 256, m % 256, o, 4] := by
          rw [← hW2]
          exact Own.lit Y1 Y1.heap.size (Nat.le_refl _) [m / 256, m % 256, o, 4] (by simp [maxLen])
        obtain ⟨z0, z1, z2, z3, z4, z5, z6⟩ := KX.out _ (u0.trans (u2.mono u0.size))
        have H0 := Lib.hid o0
        have H2 := Lib.hid o2
        have U0 := Lib.hid u0
        have U2 := Lib.hid u2
        clear o0 o2 u0 u2
        go_wp2_with fail
        refine (four_any q _ hq0 hq1).mono ?_
        rintro e Y3 ⟨A3, c3, rfl, o3, u3⟩
        clear k0 k1 k2 k3 k4 k5 k6 z0 z1 z2 z3 z4 z5 z6 hW2
        have p3 := H2.out.step u3
        have T3 : Below Y1.heap.size Y1 Y3 := U2.out.trans (u3.mono U2.out.size)
        obtain ⟨A4, c4, Y4, rY4, oY4, tY4⟩ := run_apn (P := Try.prog) Y3 Y1.heap.size 26 26 5 .u8 i0 _ 1 Try.underlying26 hi0 hz0 hz1 hz2 rfl _ _ _ p3 _ A3 c3 _ o3.bs 4 4 rfl (be_length _ _) (by unfold maxLen; omega) (by omega) T3.size
        have T4 : Below Y1.heap.size Y1 Y4 := T3.trans tY4
        have l4 : ([m / 256, m % 256, o, 4] ++ be q 4).length = 8 := by simp [be_length]
        obtain ⟨A5, c5, Y5, rY5, oY5, tY5⟩ := run_apn (P := Try.prog) Y4 Y1.heap.size 26 26 5 .u8 i0 _ 1 Try.underlying26 hi0 hz0 hz1 hz2 rfl _ _ _ oY4 _ A0 c0 _ (Bs.step H0.out.bs T4) 8 p l4 HP.out (by unfold maxLen; omega) (by omega) T4.size
        have HO5 := Lib.hid (oY5.lower U0.out.size)
        have HT5 := Lib.hid (HB.out.trans ((U0.out.trans ((T4.trans tY5).mono U0.out.size)).mono HB.out.size))
        clear p3 o3 u3 T3 T4 oY4 tY4 oY5 tY5 l4
        simp only [Nat.reduceAdd] at rY4
        go_wp2_with (at_builtin; first | refine wpList_runb _ rfl (.tmp 67) (.tmp 70) 26 rfl rfl rfl rY4 ?_ | refine wpList_runb _ rfl (.tmp 72) (.tmp 73) 26 rfl rfl rfl rY5 ?_)
        go_ret2
        exact ⟨A5, c5, rfl, HO5.out.lower HB.out.size, HT5.out⟩
      | true =>
        obtain rfl : v = 5 := by rw [hv]; rfl
        clear hv
        obtain ⟨W0, hW0⟩ : ∃ V, w.alloc (.cells #[.int .i64 m, .int .i64 o, .bool true, .bool false, .bool true, .int .u32 q, .slice A n c] 32) = V := ⟨_, rfl⟩
        have bW0 : Below w.heap.size w W0 := by rw [← hW0]; exact below_alloc1 _ _
        have sW0 : W0.heap.size = w.heap.size + 1 := by rw [← hW0]; simp
        have KX : Hid (∀ V, Below W0.heap.size W0 V → V.cell? ⟨w.heap.size, 0, none⟩ = some (.int .i64 m) ∧ V.cell? ⟨w.heap.size, 1, none⟩ = some (.int .i64 o) ∧ V.cell? ⟨w.heap.size, 2, none⟩ = some (.bool true) ∧ V.cell? ⟨w.heap.size, 3, none⟩ = some (.bool false) ∧ V.cell? ⟨w.heap.size, 4, none⟩ = some (.bool true) ∧ V.cell? ⟨w.heap.size, 5, none⟩ = some (.int .u32 q) ∧ V.cell? ⟨w.heap.size, 6, none⟩ = some (.slice A n c)) := Lib.hid (fun V hV => kb7_new hW0 hV)
        have HB : Hid (Below w.heap.size w W0) := Lib.hid bW0
        have CP := rheads_any A n c L W0 hn ok (hl.step bW0) (by omega)
        rw [e0, hmy] at CP
        generalize encs L = P at *
        obtain ⟨p, hp⟩ : ∃ p, P.length = p := ⟨_, rfl⟩
        rw [hp] at CP ⊢
        have lp : p ≤ 1200 := by omega
        have HP := Lib.hid hp
        obtain ⟨k0, k1, k2, k3, k4, k5, k6⟩ := KX.out _ (Below.refl _ _)
        clear bW0 hl ok e0 hmy hn hp
        go_enter Try.func10, Try.ntmps10
        go_wp2_with fail
        refine CP.mono ?_
        rintro e Y1 ⟨A0, c0, rfl, o0, u0⟩
        clear k0 k1 k2 k3 k4 k5 k6 CP
        obtain ⟨k0, k1, k2, k3, k4, k5, k6⟩ := KX.out _ u0
        obtain ⟨W2, hW2⟩ : ∃ V, Y1.alloc (.cells #[Value.int .u8 (m / 256), .int .u8 (m % 256), .int .u8 o, .int .u8 5] 5) = V := ⟨_, rfl⟩
        have u2 : Below Y1.heap.size Y1 W2 := by rw [← hW2]; exact below_alloc1 _ _
        have o2 : Own .u8 5 W2 Y1.heap.size (some ⟨Y1.heap.size, 0, none⟩) 4 [m / 256, m % 256, o, 5] := by
          rw [← hW2]
          exact Own.lit Y1 Y1.heap.size (Nat.le_refl _) [m / 256, m % 256, o, 5] (by simp [maxLen])
        obtain ⟨z0, z1, z2, z3, z4, z5, z6⟩ := KX.out _ (u0.trans (u2.mono u0.size))
        have H0 := Lib.hid o0
        have H2 := Lib.hid o2
        have U0 := Lib.hid u0
        have U2 := Lib.hid u2
        clear o0 o2 u0 u2
        go_wp2_with fail
        refine (four_any q _ hq0 hq1).mono ?_
        rintro e Y3 ⟨A3, c3, rfl, o3, u3⟩
        clear k0 k1 k2 k3 k4 k5 k6 z0 z1 z2 z3 z4 z5 z6 hW2
        have p3 := H2.out.step u3
        have T3 : Below Y1.heap.size Y1 Y3 := U2.out.trans (u3.mono U2.out.size)
        obtain ⟨A4, c4, Y4, rY4, oY4, tY4⟩ := run_apn (P := Try.prog) Y3 Y1.heap.size 26 26 5 .u8 i0 _ 1 Try.underlying26 hi0 hz0 hz1 hz2 rfl _ _ _ p3 _ A3 c3 _ o3.bs 4 4 rfl (be_length _ _) (by unfold maxLen; omega) (by omega) T3.size
        have T4 : Below Y1.heap.size Y1 Y4 := T3.trans tY4
        have l4 : ([m / 256, m % 256, o, 5] ++ be q 4).length = 8 := by simp [be_length]
        obtain ⟨A5, c5, Y5, rY5, oY5, tY5⟩ := run_apn (P := Try.prog) Y4 Y1.heap.size 26 26 5 .u8 i0 _ 1 Try.underlying26 hi0 hz0 hz1 hz2 rfl _ _ _ oY4 _ A0 c0 _ (Bs.step H0.out.bs T4) 8 p l4 HP.out (by unfold maxLen; omega) (by omega) T4.size
        have HO5 := Lib.hid (oY5.lower U0.out.size)
        have HT5 := Lib.hid (HB.out.trans ((U0.out.trans ((T4.trans tY5).mono U0.out.size)).mono HB.out.size))
        clear p3 o3 u3 T3 T4 oY4 tY4 oY5 tY5 l4
        simp only [Nat.reduceAdd] at rY4
        go_wp2_with (at_builtin; first | refine wpList_runb _ rfl (.tmp 67) (.tmp 70) 26 rfl rfl rfl rY4 ?_ | refine wpList_runb _ rfl (.tmp 72) (.tmp 73) 26 rfl rfl rfl rY5 ?_)
        go_ret2
        exact ⟨A5, c5, rfl, HO5.out.lower HB.out.size, HT5.out⟩
    | true =>
      cases s with
      | false =>
        obtain rfl : v = 6 := by rw [hv]; rfl
        clear hv
        obtain ⟨W0, hW0⟩ : ∃ V, w.alloc (.cells #[.int .i64 m, .int .i64 o, .bool true, .bool true, .bool false, .int .u32 q, .slice A n c] 32) = V := ⟨_, rfl⟩
        have bW0 : Below w.heap.size w W0 := by rw [← hW0]; exact below_alloc1 _ _
        have sW0 : W0.heap.size = w.heap.size + 1 := by rw [← hW0]; simp
        have KX : Hid (∀ V, Below W0.heap.size W0 V → V.cell? ⟨w.heap.size, 0, none⟩ = some (.int .i64 m) ∧ V.cell? ⟨w.heap.size, 1, none⟩ = some (.int .i64 o) ∧ V.cell? ⟨w.heap.size, 2, none⟩ = some (.bool true) ∧ V.cell? ⟨w.heap.size, 3, none⟩ = some (.bool true) ∧ V.cell? ⟨w.heap.size, 4, none⟩ = some (.bool false) ∧ V.cell? ⟨w.heap.size, 5, none⟩ = some (.int .u32 q) ∧ V.cell? ⟨w.heap.size, 6, none⟩ = some (.slice A n c)) := Lib.hid (fun V hV => kb7_new hW0 hV)
        have HB : Hid (Below w.heap.size w W0) := Lib.hid bW0
        have CP := rheads_any A n c L W0 hn ok (hl.step bW0) (by omega)
        rw [e0, hmy] at CP
        generalize encs L = P at *
        obtain ⟨p, hp⟩ : ∃ p, P.length = p := ⟨_, rfl⟩
        rw [hp] at CP ⊢
        have lp : p ≤ 1200 := by omega
        have HP := Lib.hid hp
        obtain ⟨k0, k1, k2, k3, k4, k5, k6⟩ := KX.out _ (Below.refl _ _)
        clear bW0 hl ok e0 hmy hn hp
        go_enter Try.func10, Try.ntmps10
        go_wp2_with fail
        refine CP.mono ?_
        rintro e Y1 ⟨A0, c0, rfl, o0, u0⟩
        clear k0 k1 k2 k3 k4 k5 k6 CP
        obtain ⟨k0, k1, k2, k3, k4, k5, k6⟩ := KX.out _ u0
        obtain ⟨W2, hW2⟩ : ∃ V, Y1.alloc (.cells #[Value.int .u8 (m / 256), .int .u8 (m % 256), .int .u8 o, .int .u8 6] 5) = V := ⟨_, rfl⟩
        have u2 : Below Y1.heap.size Y1 W2 := by rw [← hW2]; exact below_alloc1 _ _
        have o2 : Own .u8 5 W2 Y1.heap.size (some ⟨Y1.heap.size, 0, none⟩) 4 [m / 256, m % 256, o, 6] := by
          rw [← hW2]
          exact Own.lit Y1 Y1.heap.size (Nat.le_refl _) [m / 256, m % 256, o, 6] (by simp [maxLen])
        obtain ⟨z0, z1, z2, z3, z4, z5, z6⟩ := KX.out _ (u0.trans (u2.mono u0.size))
        have H0 := Lib.hid o0
        have H2 := Lib.hid o2
        have U0 := Lib.hid u0
        have U2 := Lib.hid u2
        clear o0 o2 u0 u2
        go_wp2_with fail
        refine (four_any q _ hq0 hq1).mono ?_
        rintro e Y3 ⟨A3, c3, rfl, o3, u3⟩
        clear k0 k1 k2 k3 k4 k5 k6 z0 z1 z2 z3 z4 z5 z6 hW2
        have p3 := H2.out.step u3
        have T3 : Below Y1.heap.size Y1 Y3 := U2.out.trans (u3.mono U2.out.size)
        obtain ⟨A4, c4, Y4, rY4, oY4, tY4⟩ := run_apn (P := Try.prog) Y3 Y1.heap.size 26 26 5 .u8 i0 _ 1 Try.underlying26 hi0 hz0 hz1 hz2 rfl _ _ _ p3 _ A3 c3 _ o3.bs 4 4 rfl (be_length _ _) (by unfold maxLen; omega) (by omega) T3.size
        have T4 : Below Y1.heap.size Y1 Y4 := T3.trans tY4
        have l4 : ([m / 256, m % 256, o, 6] ++ be q 4).length = 8 := by simp [be_length]
        obtain ⟨A5, c5, Y5, rY5, oY5, tY5⟩ := run_apn (P := Try.prog) Y4 Y1.heap.size 26 26 5 .u8 i0 _ 1 Try.underlying26 hi0 hz0 hz1 hz2 rfl _ _ _ oY4 _ A0 c0 _ (Bs.step H0.out.bs T4) 8 p l4 HP.out (by unfold maxLen; omega) (by omega) T4.size
        have HO5 := Lib.hid (oY5.lower U0.out.size)
        have HT5 := Lib.hid (HB.out.trans ((U0.out.trans ((T4.trans tY5).mono U0.out.size)).mono HB.out.size))
        clear p3 o3 u3 T3 T4 oY4 tY4 oY5 tY5 l4
        simp only [Nat.reduceAdd] at rY4
        go_wp2_with (at_builtin; first | refine wpList_runb _ rfl (.tmp 67) (.tmp 70) 26 rfl rfl rfl rY4 ?_ | refine wpList_runb _ rfl (.tmp 72) (.tmp 73) 26 rfl rfl rfl rY5 ?_)
        go_ret2
        exact ⟨A5, c5, rfl, HO5.out.lower HB.out.size, HT5.out⟩
      | true =>
        obtain rfl : v = 7 := by rw [hv]; rfl
        clear hv
        obtain ⟨W0, hW0⟩ : ∃ V, w.alloc (.cells #[.int .i64 m, .int .i64 o, .bool true, .bool true, .bool true, .int .u32 q, .slice A n c] 32) = V := ⟨_, rfl⟩
        have bW0 : Below w.heap.size w W0 := by rw [← hW0]; exact below_alloc1 _ _
        have sW0 : W0.heap.size = w.heap.size + 1 := by rw [← hW0]; simp
        have KX : Hid (∀ V, Below W0.heap.size W0 V → V.cell? ⟨w.heap.size, 0, none⟩ = some (.int .i64 m) ∧ V.cell? ⟨w.heap.size, 1, none⟩ = some (.int .i64 o) ∧ V.cell? ⟨w.heap.size, 2, none⟩ = some (.bool true) ∧ V.cell? ⟨w.heap.size, 3, none⟩ = some (.bool true) ∧ V.cell? ⟨w.heap.size, 4, none⟩ = some (.bool true) ∧ V.cell? ⟨w.heap.size, 5, none⟩ = some (.int .u32 q) ∧ V.cell? ⟨w.heap.size, 6, none⟩ = some (.slice A n c)) := Lib.hid (fun V hV => kb7_new hW0 hV)
        have HB : Hid (Below w.heap.size w W0) := Lib.hid bW0
        have CP := rheads_any A n c L W0 hn ok (hl.step bW0) (by omega)
        rw [e0, hmy] at CP
        generalize encs L = P at *
        obtain ⟨p, hp⟩ : ∃ p, P.length = p := ⟨_, rfl⟩
        rw [hp] at CP ⊢
        have lp : p ≤ 1200 := by omega
        have HP := Lib.hid hp
        obtain ⟨k0, k1, k2, k3, k4, k5, k6⟩ := KX.out _ (Below.refl _ _)
        clear bW0 hl ok e0 hmy hn hp
        go_enter Try.func10, Try.ntmps10
        go_wp2_with fail
        refine CP.mono ?_
        rintro e Y1 ⟨A0, c0, rfl, o0, u0⟩
        clear k0 k1 k2 k3 k4 k5 k6 CP
        obtain ⟨k0, k1, k2, k3, k4, k5, k6⟩ := KX.out _ u0
        obtain ⟨W2, hW2⟩ : ∃ V, Y1.alloc (.cells #[Value.int .u8 (m / 256), .int .u8 (m % 256), .int .u8 o, .int .u8 7] 5) = V := ⟨_, rfl⟩
        have u2 : Below Y1.heap.size Y1 W2 := by rw [← hW2]; exact below_alloc1 _ _
        have o2 : Own .u8 5 W2 Y1.heap.size (some ⟨Y1.heap.size, 0, none⟩) 4 [m / 256, m % 256, o, 7] := by
          rw [← hW2]
          exact Own.lit Y1 Y1.heap.size (Nat.le_refl _) [m / 256, m % 256, o, 7] (by simp [maxLen])
        obtain ⟨z0, z1, z2, z3, z4, z5, z6⟩ := KX.out _ (u0.trans (u2.mono u0.size))
        have H0 := Lib.hid o0
        have H2 := Lib.hid o2
        have U0 := Lib.hid u0
        have U2 := Lib.hid u2
        clear o0 o2 u0 u2
        go_wp2_with fail
        refine (four_any q _ hq0 hq1).mono ?_
        rintro e Y3 ⟨A3, c3, rfl, o3, u3⟩
        clear k0 k1 k2 k3 k4 k5 k6 z0 z1 z2 z3 z4 z5 z6 hW2
        have p3 := H2.out.step u3
        have T3 : Below Y1.heap.size Y1 Y3 := U2.out.trans (u3.mono U2.out.size)
        obtain ⟨A4, c4, Y4, rY4, oY4, tY4⟩ := run_apn (P := Try.prog) Y3 Y1.heap.size 26 26 5 .u8 i0 _ 1 Try.underlying26 hi0 hz0 hz1 hz2 rfl _ _ _ p3 _ A3 c3 _ o3.bs 4 4 rfl (be_length _ _) (by unfold maxLen; omega) (by omega) T3.size
        have T4 : Below Y1.heap.size Y1 Y4 := T3.trans tY4
        have l4 : ([m / 256, m % 256, o, 7] ++ be q 4).length = 8 := by simp [be_length]
        obtain ⟨A5, c5, Y5, rY5, oY5, tY5⟩ := run_apn (P := Try.prog) Y4 Y1.heap.size 26 26 5 .u8 i0 _ 1 Try.underlying26 hi0 hz0 hz1 hz2 rfl _ _ _ oY4 _ A0 c0 _ (Bs.step H0.out.bs T4) 8 p l4 HP.out (by unfold maxLen; omega) (by omega) T4.size
        have HO5 := Lib.hid (oY5.lower U0.out.size)
        have HT5 := Lib.hid (HB.out.trans ((U0.out.trans ((T4.trans tY5).mono U0.out.size)).mono HB.out.size))
        clear p3 o3 u3 T3 T4 oY4 tY4 oY5 tY5 l4
        simp only [Nat.reduceAdd] at rY4
        go_wp2_with (at_builtin; first | refine wpList_runb _ rfl (.tmp 67) (.tmp 70) 26 rfl rfl rfl rY4 ?_ | refine wpList_runb _ rfl (.tmp 72) (.tmp 73) 26 rfl rfl rfl rY5 ?_)
        go_ret2
        exact ⟨A5, c5, rfl, HO5.out.lower HB.out.size, HT5.out⟩
set_option maxRecDepth 100000 in
set_option maxHeartbeats 8000000 in
theorem rputdesc_any (x : Dc) (A : Option Addr) (n c : Nat) (L : List Hd) (w : World) (hq : 0 ≤ x.q ∧ x.q < 4294967296) (hn : L.length = n) (ok : ∀ x ∈ L, Okd x) (hl : hRr w A L) (hll : n ≤ 10000) :
    Calls Try.prog 10 #[.agg #[.int .i64 x.m, .int .i64 x.o, .bool x.i, .bool x.r, .bool x.s, .int .u32 x.q, .slice A n c]] w fun e w' => ∃ A' c', e = .returned (.tuple #[.slice A' (pdL x L).length c', .int .i64 (pdE x L)]) ∧ Own .u8 5 w' w.heap.size A' c' (pdL x L) ∧ Below w.heap.size w w' := by
  by_cases hg : (mays L && (decide (n ≤ 60) && (win x.m 0 65535 && win x.o 0 255))) = true
  · simp only [Bool.and_eq_true, decide_eq_true_eq] at hg
    obtain ⟨g1, g2, g3, g4⟩ := hg
    obtain ⟨hm0, hm1⟩ := (win_iff _ _ _).1 g3
    obtain ⟨ho0, ho1⟩ := (win_iff _ _ _).1 g4
    obtain ⟨e1, e2⟩ := pdE_eq (L := L) g3 g4
    obtain ⟨e3, e4⟩ := phE_yes (L := L) (a := 0) (b := 60) ((win_iff _ _ _).2 ⟨by omega, by omega⟩) g1
    rw [e1, e2, e3, if_pos rfl, e4, List.length_append, dhd_length]
    have h := rput_good x.m x.o x.q (fgs x) x.i x.r x.s rfl A n c L w hq.1 hq.2 hm0 hm1 ho0 ho1 g2 hn ok hl g1
    have f := fgs_bd x
    rw [show ([x.m / 256, x.m % 256, x.o, fgs x] ++ be x.q 4) = dhd x by rw [dhd, be2 x.m hm0 (by omega), be1 x.o ho0 (by omega), be1 (fgs x) f.1 (by omega)]; rfl] at h
    exact h
  have HE : pdE x L = 1 ∧ pdL x L = [] := by
    by_cases g : (win x.m 0 65535 && win x.o 0 255) = true
    · refine pdE_no2 ?_
      cases q : (win (L.length : Int) 0 60 && mays L) with
      | false => rfl
      | true =>
        simp only [Bool.and_eq_true] at q g
        have := (win_iff _ _ _).1 q.1
        refine absurd ?_ hg
        simp only [Bool.and_eq_true, decide_eq_true_eq]
        exact ⟨q.2, by omega, g.1, g.2⟩
    · exact pdE_no (by simpa using g)
  rw [HE.1, HE.2]
  clear HE
  obtain ⟨W0, hW0⟩ : ∃ V, w.alloc (.cells #[.int .i64 x.m, .int .i64 x.o, .bool x.i, .bool x.r, .bool x.s, .int .u32 x.q, .slice A n c] 32) = V := ⟨_, rfl⟩
  have bW0 : Below w.heap.size w W0 := by rw [← hW0]; exact below_alloc1 _ _
  have sW0 : W0.heap.size = w.heap.size + 1 := by rw [← hW0]; simp
  have KX : Hid (∀ V, Below W0.heap.size W0 V → V.cell? ⟨w.heap.size, 0, none⟩ = some (.int .i64 x.m) ∧ V.cell? ⟨w.heap.size, 1, none⟩ = some (.int .i64 x.o) ∧ V.cell? ⟨w.heap.size, 2, none⟩ = some (.bool x.i) ∧ V.cell? ⟨w.heap.size, 3, none⟩ = some (.bool x.r) ∧ V.cell? ⟨w.heap.size, 4, none⟩ = some (.bool x.s) ∧ V.cell? ⟨w.heap.size, 5, none⟩ = some (.int .u32 x.q) ∧ V.cell? ⟨w.heap.size, 6, none⟩ = some (.slice A n c)) := Lib.hid (fun V hV => kb7_new hW0 hV)
  have HB : Hid (Below w.heap.size w W0) := Lib.hid bW0
  have CP := rheads_any A n c L W0 hn ok (hl.step bW0) hll
  obtain ⟨k0, k1, k2, k3, k4, k5, k6⟩ := KX.out _ (Below.refl _ _)
  clear bW0 hl ok hq
  generalize rhL L = P at *
  cases g1 : mays L
  · rw [g1] at CP
    clear hg g1 hn
    go_enter Try.func10, Try.ntmps10
    go_wp2_with fail
    refine CP.mono ?_
    rintro e X1 ⟨A1, c1, rfl, o1, u1⟩
    clear k0 k1 k2 k3 k4 k5 k6
    obtain ⟨k0, k1, k2, k3, k4, k5, k6⟩ := KX.out _ u1
    go_wp2
    go_ret2
    exact ⟨none, 0, rfl, Own.nil _ _, HB.out.trans (u1.mono HB.out.size)⟩
  rw [g1] at CP
  by_cases g2 : x.m < 0
  · clear hg g1 hn
    go_enter Try.func10, Try.ntmps10
    go_wp2_with fail
    refine CP.mono ?_
    rintro e X1 ⟨A1, c1, rfl, o1, u1⟩
    clear k0 k1 k2 k3 k4 k5 k6
    obtain ⟨k0, k1, k2, k3, k4, k5, k6⟩ := KX.out _ u1
    go_wp2
    go_ret2
    exact ⟨none, 0, rfl, Own.nil _ _, HB.out.trans (u1.mono HB.out.size)⟩
  by_cases g3 : x.m > 65535
  · clear hg g1 hn
    go_enter Try.func10, Try.ntmps10
    go_wp2_with fail
    refine CP.mono ?_
    rintro e X1 ⟨A1, c1, rfl, o1, u1⟩
    clear k0 k1 k2 k3 k4 k5 k6
    obtain ⟨k0, k1, k2, k3, k4, k5, k6⟩ := KX.out _ u1
    go_wp2
    go_ret2
    exact ⟨none, 0, rfl, Own.nil _ _, HB.out.trans (u1.mono HB.out.size)⟩
  by_cases g4 : x.o < 0
  · clear hg g1 hn
    go_enter Try.func10, Try.ntmps10
    go_wp2_with fail
    refine CP.mono ?_
    rintro e X1 ⟨A1, c1, rfl, o1, u1⟩
    clear k0 k1 k2 k3 k4 k5 k6
    obtain ⟨k0, k1, k2, k3, k4, k5, k6⟩ := KX.out _ u1
    go_wp2
    go_ret2
    exact ⟨none, 0, rfl, Own.nil _ _, HB.out.trans (u1.mono HB.out.size)⟩
  by_cases g5 : x.o > 255
  · clear hg g1 hn
    go_enter Try.func10, Try.ntmps10
    go_wp2_with fail
    refine CP.mono ?_
    rintro e X1 ⟨A1, c1, rfl, o1, u1⟩
    clear k0 k1 k2 k3 k4 k5 k6
    obtain ⟨k0, k1, k2, k3, k4, k5, k6⟩ := KX.out _ u1
    go_wp2
    go_ret2
    exact ⟨none, 0, rfl, Own.nil _ _, HB.out.trans (u1.mono HB.out.size)⟩
  by_cases g6 : (n : Int) > 60
  · clear hg g1 hn
    go_enter Try.func10, Try.ntmps10
    go_wp2_with fail
    refine CP.mono ?_
    rintro e X1 ⟨A1, c1, rfl, o1, u1⟩
    clear k0 k1 k2 k3 k4 k5 k6
    obtain ⟨k0, k1, k2, k3, k4, k5, k6⟩ := KX.out _ u1
    go_wp2
    go_ret2
    exact ⟨none, 0, rfl, Own.nil _ _, HB.out.trans (u1.mono HB.out.size)⟩
  refine absurd ?_ hg
  rw [g1]
  simp only [Bool.and_eq_true, decide_eq_true_eq, win_iff]
  first | exact ⟨trivial, by omega⟩ | (simp; omega)
end Go.Proofs.Ytefbpaebimagaaa
