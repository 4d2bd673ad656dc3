/-
  The contract of the reference's ahead. No statement is proved here; no conditions.
-/
import Derived.Test.YtfhickgdmcmodaaR1
namespace Go.Proofs.Ytfhickgdmcmodaa
open Go.RowKit Go.Joins

/-- The first sixteen bytes, with this sum. -/
def ahd (p : Pk) (s : Int) : List Int := be 2 1 ++ (be p.t 1 ++ (be (24 + p.b.length) 2 ++ (be p.r 4 ++ (be p.a 4 ++ (be s 2 ++ be p.u 2)))))
theorem ahd_length (p : Pk) (s : Int) : (ahd p s).length = 16 := by simp [ahd, be_length]
theorem ahd_byt (p : Pk) (s : Int) : Byt (ahd p s) := (be_byt _ _).append ((be_byt _ _).append ((be_byt _ _).append ((be_byt _ _).append ((be_byt _ _).append ((be_byt _ _).append (be_byt _ _))))))
theorem lay_ahd (p : Pk) (s : Int) : lay p s = ahd p s ++ (au p ++ p.b) := by simp [lay, ahd]
/-- The sum over parts. -/
theorem ck_parts (H S U Z B : List Int) (h1 : H.length = 12) (h2 : S.length = 2) (h3 : U.length = 2) (h4 : Z.length = 8) : ck (H ++ (S ++ (U ++ (Z ++ B)))) = inet (H ++ ([0, 0] ++ (U ++ B))) := by
  unfold ck
  have e1 : (H ++ (S ++ (U ++ (Z ++ B)))).take 12 = H := by rw [← h1, List.take_left']; rfl
  have e2 : ((H ++ (S ++ (U ++ (Z ++ B)))).drop 14).take 2 = U := by
    rw [← List.append_assoc, List.drop_left' (by simp [h1, h2]), List.take_left' h3]
  have e3 : (H ++ (S ++ (U ++ (Z ++ B)))).drop 24 = B := by
    rw [← List.append_assoc, ← List.append_assoc, ← List.append_assoc, List.drop_left' (by simp [h1, h2, h3, h4])]
  rw [e1, e2, e3]
theorem ck_lay (p : Pk) (s : Int) : ck (lay p s) = inet (ahd p 0 ++ p.b) := by
  have h := ck_parts (be 2 1 ++ (be p.t 1 ++ (be (24 + p.b.length) 2 ++ (be p.r 4 ++ be p.a 4)))) (be s 2) (be p.u 2) (au p) p.b (by simp [be_length]) (be_length _ _) (be_length _ _) rfl
  have e1 : lay p s = (be 2 1 ++ (be p.t 1 ++ (be (24 + p.b.length) 2 ++ (be p.r 4 ++ be p.a 4)))) ++ (be s 2 ++ (be p.u 2 ++ (au p ++ p.b))) := by simp [lay]
  rw [e1, h]
  have e2 : be 0 2 = [0, 0] := by decide
  simp [ahd, e2]
theorem be2 (n : Int) (h0 : 0 ≤ n) (h1 : n < 65536) : be n 2 = [n / 256, n % 256] := by
  simp [be]
  omega
theorem be1 (n : Int) (h0 : 0 ≤ n) (h1 : n < 256) : be n 1 = [n] := by
  simp [be]
  omega
set_option maxRecDepth 100000 in
set_option maxHeartbeats 1000000 in
theorem ahead_any (p : Pk) (A : Option Addr) (c : Nat) (s : Int) (w : World) (ok : Okp p) (ht : 0 ≤ p.t ∧ p.t < 256) (hu : 0 ≤ p.u ∧ p.u < 65536) (hl : p.b.length ≤ 5000) (hs0 : 0 ≤ s) (hs1 : s < 65536) :
    Calls Try.prog 20 #[pv' p A c, .int .i64 s] w fun e w' => ∃ A' c', e = .returned (.slice A' 16 c') ∧ Own .u8 5 w' w.heap.size A' c' (ahd p s) ∧ Below w.heap.size w w' := by
  obtain ⟨hr0, hr1⟩ := ok.r
  obtain ⟨ha0, ha1⟩ := ok.a
  obtain ⟨ht0, ht1⟩ := ht
  obtain ⟨hu0, hu1⟩ := hu
  obtain ⟨n, hn⟩ : ∃ n, p.b.length = n := ⟨_, rfl⟩
  have HA : Hid (ahd p s = ([2, p.t, (24 + (n : Int)) / 256, (24 + (n : Int)) % 256] ++ be p.r 4) ++ be p.a 4 ++ [s / 256, s % 256, p.u / 256, p.u % 256]) := Lib.hid (by
    unfold ahd
    rw [hn, be2 (24 + (n : Int)) (by omega) (by omega), be1 p.t ht0 ht1, be2 s hs0 hs1, be2 p.u hu0 hu1, show be 2 1 = [2] by decide]
    simp)
  unfold pv'
  rw [hn] at hl ⊢
  clear hn ok
  obtain ⟨W0, hW0⟩ : ∃ W0, w.alloc (.cells #[.int .i64 p.t, .int .u32 p.r, .int .u32 p.a, .int .i64 p.u, .int .u8 p.h0, .int .u8 p.h1, .int .u8 p.h2, .int .u8 p.h3, .int .u8 p.h4, .int .u8 p.h5, .int .u8 p.h6, .int .u8 p.h7, .slice A n c] 32) = W0 := ⟨_, rfl⟩
  have b0 : Below w.heap.size w W0 := by rw [← hW0]; exact below_alloc1 _ _
  have s0 : W0.heap.size = w.heap.size + 1 := by rw [← hW0]; simp
  have KX : Hid (∀ V, Below W0.heap.size W0 V → V.cell? ⟨w.heap.size, 0, none⟩ = some (.int .i64 p.t) ∧ V.cell? ⟨w.heap.size, 1, none⟩ = some (.int .u32 p.r) ∧ V.cell? ⟨w.heap.size, 2, none⟩ = some (.int .u32 p.a) ∧ V.cell? ⟨w.heap.size, 3, none⟩ = some (.int .i64 p.u) ∧ V.cell? ⟨w.heap.size, 4, none⟩ = some (.int .u8 p.h0) ∧ V.cell? ⟨w.heap.size, 5, none⟩ = some (.int .u8 p.h1) ∧ V.cell? ⟨w.heap.size, 6, none⟩ = some (.int .u8 p.h2) ∧ V.cell? ⟨w.heap.size, 7, none⟩ = some (.int .u8 p.h3) ∧ V.cell? ⟨w.heap.size, 8, none⟩ = some (.int .u8 p.h4) ∧ V.cell? ⟨w.heap.size, 9, none⟩ = some (.int .u8 p.h5) ∧ V.cell? ⟨w.heap.size, 10, none⟩ = some (.int .u8 p.h6) ∧ V.cell? ⟨w.heap.size, 11, none⟩ = some (.int .u8 p.h7) ∧ V.cell? ⟨w.heap.size, 12, none⟩ = some (.slice A n c)) := Lib.hid (fun V hV => kb_new hW0 hV)
  obtain ⟨k0, k1, k2, k3, k4, k5, k6, k7, k8, k9, k10, k11, k12⟩ := KX.out _ (Below.refl _ _)
  obtain ⟨W1, hW1⟩ : ∃ V, W0.alloc (.cells #[.int .u8 2, .int .u8 p.t, .int .u8 ((24 + (n : Int)) / 256), .int .u8 ((24 + (n : Int)) % 256)] 5) = V := ⟨_, rfl⟩
  have b1 : Below W0.heap.size W0 W1 := by rw [← hW1]; exact below_alloc1 _ _
  have o1 : Own .u8 5 W1 W0.heap.size (some ⟨w.heap.size + 1, 0, none⟩) 4 [2, p.t, (24 + (n : Int)) / 256, (24 + (n : Int)) % 256] := by
    rw [← hW1, ← s0]
    exact Own.lit W0 W0.heap.size (Nat.le_refl _) [2, p.t, (24 + (n : Int)) / 256, (24 + (n : Int)) % 256] (by simp [maxLen])
  have B1 : Hid (Below w.heap.size w W1) := Lib.hid (b0.trans (b1.mono b0.size))
  have T1 : Hid (Below W0.heap.size W0 W1) := Lib.hid b1
  obtain ⟨j0, j1, j2, j3, j4, j5, j6, j7, j8, j9, j10, j11, j12⟩ := KX.out _ b1
  obtain ⟨i0, hi0, hz0, hz1, hz2⟩ := info_of info5
  have O1 := Lib.hid o1
  have b0' := b0
  clear b0 b1 o1
  go_enter Try.func20, Try.ntmps20
  go_wp2_with fail
  clear hW0 hW1
  refine (four_any p.r _ hr0 hr1).mono ?_
  rintro e W2 ⟨A2, c2, rfl, o2, u2⟩
  have s1 := T1.out.size
  have T2 : Hid (Below W0.heap.size W0 W2) := Lib.hid (T1.out.trans (u2.mono s1))
  have s2 := T2.out.size
  obtain ⟨A3, c3, W3, rW3, oW3, tW3⟩ := run_app (P := Try.prog) W2 W0.heap.size 24 24 5 .u8 i0 _ 1 Try.underlying24 hi0 hz0 hz1 hz2 rfl _ _ _ (O1.out.below u2 (Nat.le_refl _)) _ A2 c2 _ o2.bs (by simp only [maxLen, be_length, List.length_cons, List.length_nil] <;> omega) (by simp only [be_length, List.length_cons, List.length_nil] <;> omega) (by omega)
  have T3 : Hid (Below W0.heap.size W0 W3) := Lib.hid (T2.out.trans tW3)
  have s3 := T3.out.size
  clear k0 k1 k2 k3 k4 k5 k6 k7 k8 k9 k10 k11 k12
  clear j0 j1 j2 j3 j4 j5 j6 j7 j8 j9 j10 j11 j12
  obtain ⟨k0, k1, k2, k3, k4, k5, k6, k7, k8, k9, k10, k11, k12⟩ := KX.out _ T2.out
  obtain ⟨j0, j1, j2, j3, j4, j5, j6, j7, j8, j9, j10, j11, j12⟩ := KX.out _ T3.out
  rw [be_length] at rW3
  go_wp2_with (at_builtin; refine wpList_runb _ rfl (.tmp 21) (.tmp 24) 24 rfl rfl rfl rW3 ?_)
  go_wp2_with fail
  refine (four_any p.a _ ha0 ha1).mono ?_
  rintro e W4 ⟨A4, c4, rfl, o4, u4⟩
  have T4 : Hid (Below W0.heap.size W0 W4) := Lib.hid (T3.out.trans (u4.mono s3))
  have s4 := T4.out.size
  obtain ⟨A5, c5, W5, rW5, oW5, tW5⟩ := run_app (P := Try.prog) W4 W0.heap.size 24 24 5 .u8 i0 _ 1 Try.underlying24 hi0 hz0 hz1 hz2 rfl _ _ _ (oW3.below u4 (Nat.le_refl _)) _ A4 c4 _ o4.bs (by simp only [maxLen, be_length, List.length_append, List.length_cons, List.length_nil] <;> omega) (by simp only [be_length, List.length_append, List.length_cons, List.length_nil] <;> omega) (by omega)
  have T5 : Hid (Below W0.heap.size W0 W5) := Lib.hid (T4.out.trans tW5)
  have s5 := T5.out.size
  clear k0 k1 k2 k3 k4 k5 k6 k7 k8 k9 k10 k11 k12
  clear j0 j1 j2 j3 j4 j5 j6 j7 j8 j9 j10 j11 j12
  obtain ⟨k0, k1, k2, k3, k4, k5, k6, k7, k8, k9, k10, k11, k12⟩ := KX.out _ T4.out
  obtain ⟨j0, j1, j2, j3, j4, j5, j6, j7, j8, j9, j10, j11, j12⟩ := KX.out _ T5.out
  obtain ⟨W6, hW6⟩ : ∃ V, W5.alloc (.cells #[.int .u8 (s / 256), .int .u8 (s % 256), .int .u8 (p.u / 256), .int .u8 (p.u % 256)] 5) = V := ⟨_, rfl⟩
  have u6 : Below W5.heap.size W5 W6 := by rw [← hW6]; exact below_alloc1 _ _
  have o6 : Own .u8 5 W6 W5.heap.size (some ⟨W5.heap.size, 0, none⟩) 4 [s / 256, s % 256, p.u / 256, p.u % 256] := by
    rw [← hW6]
    exact Own.lit W5 W5.heap.size (Nat.le_refl _) [s / 256, s % 256, p.u / 256, p.u % 256] (by simp [maxLen])
  have T6 : Hid (Below W0.heap.size W0 W6) := Lib.hid (T5.out.trans (u6.mono s5))
  have s6 := T6.out.size
  obtain ⟨A7, c7, W7, rW7, oW7, tW7⟩ := run_app (P := Try.prog) W6 W0.heap.size 24 24 5 .u8 i0 _ 1 Try.underlying24 hi0 hz0 hz1 hz2 rfl _ _ _ (oW5.below u6 (Nat.le_refl _)) _ (some ⟨W5.heap.size, 0, none⟩) 4 _ o6.bs (by simp only [maxLen, be_length, List.length_append, List.length_cons, List.length_nil] <;> omega) (by simp only [be_length, List.length_append, List.length_cons, List.length_nil] <;> omega) (by omega)
  have T7 : Hid (Below W0.heap.size W0 W7) := Lib.hid (T6.out.trans tW7)
  have OF : Hid (Own .u8 5 W7 W0.heap.size A7 c7 (ahd p s)) := Lib.hid (by rw [HA.out]; exact oW7)
  rw [be_length] at rW5
  simp only [List.length_append, be_length, List.length_cons, List.length_nil] at rW5 rW7
  clear oW7 o6 u6 oW5 oW3 O1 tW3 tW5 tW7 o2 o4 u2 u4
  go_wp2_with (first | (at_builtin; refine wpList_runb _ rfl (.tmp 26) (.tmp 29) 24 rfl rfl rfl rW5 ?_) | (at_builtin; refine wpList_runb _ rfl (.tmp 31) (.tmp 46) 24 rfl rfl rfl rW7 ?_))
  go_ret
  exact ⟨A7, c7, rfl, OF.out.lower (by omega), b0'.trans (T7.out.mono (by omega))⟩
end Go.Proofs.Ytfhickgdmcmodaa
