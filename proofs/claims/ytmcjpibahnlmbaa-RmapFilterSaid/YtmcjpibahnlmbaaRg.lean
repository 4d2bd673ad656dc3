/-
  Contracts of the reference's May, Bounds, Means. No statement is proved here; no conditions.
-/
import Derived.Test.YtmcjpibahnlmbaaRm
import Derived.Test.YtmcjpibahnlmbaaRefA
namespace Go.Proofs.Ytmcjpibahnlmbaa
open Go.RowKit Go.Joins

set_option maxRecDepth 100000 in
theorem qmay_any (x : Ru) (w : World) (hA : x.A < 4294967296) : Calls Try.prog 46 #[rv x] w fun e w' => e = .returned (.bool (okr x)) ∧ Below w.heap.size w w' := by
  obtain ⟨s, p, A, N, g, l⟩ := x
  simp only at hA
  obtain ⟨W0, hW0⟩ : ∃ W0, w.alloc (.cells #[.int .i64 s, .bool p, .int .u32 (A : Int), .int .i64 N, .int .i64 g, .int .i64 l] 73) = W0 := ⟨_, rfl⟩
  have hb0 : Hid (Below w.heap.size w W0) := Lib.hid (by rw [← hW0]; exact below_alloc1 _ _)
  have s0 : W0.heap.size = w.heap.size + 1 := by rw [← hW0]; simp
  have KK : Hid (∀ V, Below W0.heap.size W0 V → V.cell? ⟨w.heap.size, 0, none⟩ = some (.int .i64 s) ∧ V.cell? ⟨w.heap.size, 1, none⟩ = some (.bool p) ∧ V.cell? ⟨w.heap.size, 2, none⟩ = some (.int .u32 (A : Int)) ∧ V.cell? ⟨w.heap.size, 3, none⟩ = some (.int .i64 N) ∧ V.cell? ⟨w.heap.size, 4, none⟩ = some (.int .i64 g) ∧ V.cell? ⟨w.heap.size, 5, none⟩ = some (.int .i64 l)) := Lib.hid (fun V hV => rb_new hW0 hV)
  obtain ⟨k0, k1, k2, k3, k4, k5⟩ := KK.out _ (Below.refl _ _)
  have cm := fun W => rmay_any A N W hA
  obtain ⟨X, hX⟩ : ∃ X, (decide (1 ≤ s) && decide (s ≤ 65535) && okp A N) = X := ⟨_, rfl⟩
  obtain ⟨G, hG⟩ : ∃ G, (decide (g = 0) || decide (N < g) && decide (g ≤ 32)) = G := ⟨_, rfl⟩
  obtain ⟨L, hL⟩ : ∃ L, (decide (l = 0) || decide (max g N ≤ l) && decide (l ≤ 32)) = L := ⟨_, rfl⟩
  have hO : okr ⟨s, p, A, N, g, l⟩ = (X && G && L) := by rw [← hX, ← hG, ← hL]; rfl
  rw [hO]
  have HX := Lib.hid hX
  have HG := Lib.hid hG
  have HL := Lib.hid hL
  clear hG hL hX hO
  go_enter Try.func46, Try.ntmps46
  go_upto_region 1 with fail
  clear hW0
  go_cut [16] (fun v wx => v = .bool (!X) ∧ Below W0.heap.size W0 wx)
  case first =>
    by_cases h1 : s < 1
    · go_wp2_with fail
      go_meet
      case rel => exact ⟨by rw [← HX.out, decide_eq_false (show ¬ 1 ≤ s by omega)]; rfl, Below.refl _ _⟩
    · by_cases h2 : s > 65535
      · go_wp2_with fail
        go_meet
        case rel => exact ⟨by rw [← HX.out, decide_eq_false (show ¬ s ≤ 65535 by omega)]; simp, Below.refl _ _⟩
      · have e1 : Hid (okp A N = X) := Lib.hid (by rw [← HX.out, decide_eq_true (show 1 ≤ s by omega), decide_eq_true (show s ≤ 65535 by omega)]; rfl)
        rw [e1.out] at cm
        go_wp2_with fail
        refine (cm _).mono ?_
        rintro e W1 ⟨rfl, hb1⟩
        go_wp2_with fail
        go_meet
        case rel => exact ⟨rfl, hb1⟩
  case rest =>
    obtain ⟨rfl, hb1⟩ := hcut
    have HB1 := Lib.hid hb1
    clear k0 k1 k2 k3 k4 k5 cm
    obtain ⟨k0, k1, k2, k3, k4, k5⟩ := KK.out _ hb1
    clear hb1
    cases X
    · go_wp2_with fail
      go_ret
      exact ⟨rfl, hb0.out.trans (HB1.out.mono (by omega))⟩
    · go_upto_region 3 with fail
      go_cut [32] (fun v wx => v = .bool (!G) ∧ wx = wc)
      case first =>
        by_cases h1 : g = 0
        · have n1 : (g != 0) = false := by simpa using h1
          go_wp2_with fail
          go_meet
          case rel => exact ⟨by rw [← HG.out]; simp [h1], rfl⟩
        · have n1 : (g != 0) = true := by simpa using h1
          by_cases h2 : g ≤ N
          · go_wp2_with fail
            go_meet
            case rel => exact ⟨by rw [← HG.out, decide_eq_false h1, decide_eq_false (show ¬ N < g by omega)]; rfl, rfl⟩
          · go_wp2_with fail
            go_meet
            case rel => exact ⟨congrArg Value.bool (by rw [← HG.out, decide_eq_false h1, decide_eq_true (show N < g by omega), Bool.eq_iff_iff]; simp), rfl⟩
      case rest =>
        obtain ⟨rfl, rfl⟩ := hcut
        cases G
        · go_wp2_with fail
          go_ret
          exact ⟨rfl, hb0.out.trans (HB1.out.mono (by omega))⟩
        · by_cases h1 : l = 0
          · have n1 : (l == 0) = true := by simpa using h1
            go_wp2_with fail
            go_ret
            exact ⟨ret_bool (by rw [← HL.out]; simp [h1]), hb0.out.trans (HB1.out.mono (by omega))⟩
          · have n1 : (l == 0) = false := by simpa using h1
            by_cases h2 : g ≤ l
            · by_cases h3 : N ≤ l
              · go_wp2_with fail
                go_ret
                exact ⟨ret_bool (by rw [← HL.out, decide_eq_false h1, decide_eq_true (show max g N ≤ l by omega)]; rfl), hb0.out.trans (HB1.out.mono (by omega))⟩
              · go_wp2_with fail
                go_ret
                exact ⟨ret_bool (by rw [← HL.out, decide_eq_false h1, decide_eq_false (show ¬ max g N ≤ l by omega)]; rfl), hb0.out.trans (HB1.out.mono (by omega))⟩
            · go_wp2_with fail
              go_ret
              exact ⟨ret_bool (by rw [← HL.out, decide_eq_false h1, decide_eq_false (show ¬ max g N ≤ l by omega)]; rfl), hb0.out.trans (HB1.out.mono (by omega))⟩
set_option maxRecDepth 100000 in
theorem qbounds_any (x : Ru) (w : World) : Calls Try.prog 57 #[rv x] w fun e w' => e = .returned (.tuple #[.int .i64 (lo x), .int .i64 (hi x)]) ∧ Below w.heap.size w w' := by
  obtain ⟨s, p, A, N, g, l⟩ := x
  obtain ⟨W0, hW0⟩ : ∃ W0, w.alloc (.cells #[.int .i64 s, .bool p, .int .u32 (A : Int), .int .i64 N, .int .i64 g, .int .i64 l] 73) = W0 := ⟨_, rfl⟩
  have hb0 : Hid (Below w.heap.size w W0) := Lib.hid (by rw [← hW0]; exact below_alloc1 _ _)
  have KK : Hid (∀ n, (W0.drewN n).cell? ⟨w.heap.size, 3, none⟩ = some (.int .i64 N) ∧ (W0.drewN n).cell? ⟨w.heap.size, 4, none⟩ = some (.int .i64 g) ∧ (W0.drewN n).cell? ⟨w.heap.size, 5, none⟩ = some (.int .i64 l)) := Lib.hid (fun n => by
    obtain ⟨_, _, _, a, b, c⟩ := rb_new hW0 (below_draws W0.heap.size W0 n)
    exact ⟨a, b, c⟩)
  obtain ⟨k3, k4, k5⟩ := KK.out 0
  obtain ⟨LO, hLO⟩ : ∃ LO, lo ⟨s, p, A, N, g, l⟩ = LO := ⟨_, rfl⟩
  obtain ⟨HI, hHI⟩ : ∃ HI, hi ⟨s, p, A, N, g, l⟩ = HI := ⟨_, rfl⟩
  rw [hLO, hHI]
  have HEL : Hid (LO = if g = 0 then N else g) := Lib.hid hLO.symm
  have HEH : Hid (HI = if g = 0 ∧ l = 0 then N else if l = 0 then 32 else l) := Lib.hid hHI.symm
  clear hLO hHI
  have k3' : W0.cell? ⟨w.heap.size, 3, none⟩ = some (.int .i64 N) := k3
  have k4' : W0.cell? ⟨w.heap.size, 4, none⟩ = some (.int .i64 g) := k4
  have k5' : W0.cell? ⟨w.heap.size, 5, none⟩ = some (.int .i64 l) := k5
  by_cases h1 : g = 0
  · have n1 : (g == 0) = true := by simpa using h1
    by_cases h2 : l = 0
    · have n2 : (l == 0) = true := by simpa using h2
      have e1 : Hid (LO = N ∧ HI = N) := Lib.hid (by rw [HEL.out, HEH.out]; simp [h1, h2])
      clear HEL HEH
      go_enter Try.func57, Try.ntmps57
      go_wp2_with fail
      go_quiet (fail)
      go_wp2
      go_ret2
      obtain ⟨q1, q2⟩ := e1.out
      exact ⟨by rw [q1, q2]; rfl, by first | exact hb0.out.trans (below_draws _ _ _) | exact (below_alloc1 _ _).trans (below_draws _ _ _)⟩
    · have n2 : (l == 0) = false := by simpa using h2
      have e1 : Hid (LO = N ∧ HI = l) := Lib.hid (by rw [HEL.out, HEH.out]; simp [h1, h2])
      clear HEL HEH
      go_enter Try.func57, Try.ntmps57
      go_wp2_with fail
      go_quiet (fail)
      go_wp2
      go_ret2
      obtain ⟨q1, q2⟩ := e1.out
      exact ⟨by rw [q1, q2]; rfl, by first | exact hb0.out.trans (below_draws _ _ _) | exact (below_alloc1 _ _).trans (below_draws _ _ _)⟩
  · have n1 : (g == 0) = false := by simpa using h1
    by_cases h2 : l = 0
    · have n2 : (l == 0) = true := by simpa using h2
      have e1 : Hid (LO = g ∧ HI = 32) := Lib.hid (by rw [HEL.out, HEH.out]; simp [h1, h2])
      clear HEL HEH
      go_enter Try.func57, Try.ntmps57
      go_wp2_with fail
      go_quiet (fail)
      go_wp2
      go_ret2
      obtain ⟨q1, q2⟩ := e1.out
      exact ⟨by rw [q1, q2]; rfl, by first | exact hb0.out.trans (below_draws _ _ _) | exact (below_alloc1 _ _).trans (below_draws _ _ _)⟩
    · have n2 : (l == 0) = false := by simpa using h2
      have e1 : Hid (LO = g ∧ HI = l) := Lib.hid (by rw [HEL.out, HEH.out]; simp [h1, h2])
      clear HEL HEH
      go_enter Try.func57, Try.ntmps57
      go_wp2_with fail
      go_quiet (fail)
      go_wp2
      go_ret2
      obtain ⟨q1, q2⟩ := e1.out
      exact ⟨by rw [q1, q2]; rfl, by first | exact hb0.out.trans (below_draws _ _ _) | exact (below_alloc1 _ _).trans (below_draws _ _ _)⟩
set_option maxRecDepth 100000 in
theorem qmeans_any (x : Ru) (B : Nat) (M : Int) (w : World) (hA : x.A < 4294967296) (hB : B < 4294967296) : Calls Try.prog 49 #[rv x, pf B M] w fun e w' => e = .returned (.bool (mns x B M)) ∧ Below w.heap.size w w' := by
  have cb := fun W => qbounds_any x W
  have cm := fun W => qmay_any x W hA
  have cc := fun W => rcovers_any x.A x.N B M W hA hB
  obtain ⟨LO, hLO⟩ : ∃ v, lo x = v := ⟨_, rfl⟩
  obtain ⟨HI, hHI⟩ : ∃ v, hi x = v := ⟨_, rfl⟩
  have hm : mns x B M = (okr x && covp x.A x.N B M && decide (LO ≤ M) && decide (M ≤ HI)) := by rw [mns, hLO, hHI]
  rw [hLO, hHI] at cb
  rw [hm]
  clear hm hLO hHI
  generalize okr x = OK at *
  obtain ⟨s, p, A, N, g, l⟩ := x
  simp only at cc hA
  generalize covp A N B M = CO at *
  obtain ⟨W0, hW0⟩ : ∃ W0, w.alloc (.cells #[.int .i64 s, .bool p, .int .u32 (A : Int), .int .i64 N, .int .i64 g, .int .i64 l] 73) = W0 := ⟨_, rfl⟩
  have s0 : W0.heap.size = w.heap.size + 1 := by rw [← hW0]; simp
  obtain ⟨W1, hW1⟩ : ∃ W1, W0.alloc (.cells #[.int .u32 (B : Int), .int .i64 M] 25) = W1 := ⟨_, rfl⟩
  have s1 : W1.heap.size = w.heap.size + 2 := by rw [← hW1]; simp [s0]
  have b0 : Below w.heap.size w W0 := by rw [← hW0]; exact below_alloc1 _ _
  have b1 : Below W0.heap.size W0 W1 := by rw [← hW1]; exact below_alloc1 _ _
  have HB : Hid (Below w.heap.size w W1) := Lib.hid (b0.trans (b1.mono (by omega)))
  have KX : Hid (∀ V, Below W1.heap.size W1 V → V.cell? ⟨w.heap.size, 0, none⟩ = some (.int .i64 s) ∧ V.cell? ⟨w.heap.size, 1, none⟩ = some (.bool p) ∧ V.cell? ⟨w.heap.size, 2, none⟩ = some (.int .u32 (A : Int)) ∧ V.cell? ⟨w.heap.size, 3, none⟩ = some (.int .i64 N) ∧ V.cell? ⟨w.heap.size, 4, none⟩ = some (.int .i64 g) ∧ V.cell? ⟨w.heap.size, 5, none⟩ = some (.int .i64 l)) :=
    Lib.hid (fun V hV => rb_new hW0 (b1.trans (hV.mono b1.size)))
  have KQ : Hid (∀ V, Below W1.heap.size W1 V → V.cell? ⟨w.heap.size + 1, 0, none⟩ = some (.int .u32 (B : Int)) ∧ V.cell? ⟨w.heap.size + 1, 1, none⟩ = some (.int .i64 M)) :=
    Lib.hid (fun V hV => by have := pb_new hW1 hV; rwa [s0] at this)
  clear b0 b1
  obtain ⟨k0, k1, k2, k3, k4, k5⟩ := KX.out _ (Below.refl _ _)
  go_enter Try.func49, Try.ntmps49
  go_wp2_with fail
  refine (cb _).mono ?_
  rintro e V1 ⟨rfl, hb1⟩
  clear hW0 hW1 k0 k1 k2 k3 k4 k5
  obtain ⟨k0, k1, k2, k3, k4, k5⟩ := KX.out _ hb1
  cases OK
  · go_wp2_with fail
    refine (cm _).mono ?_
    rintro e V2 ⟨rfl, hb2⟩
    go_wp2
    go_ret
    exact ⟨rfl, HB.out.trans ((hb1.trans (hb2.mono hb1.size)).mono (by omega))⟩
  · go_wp2_with fail
    refine (cm _).mono ?_
    rintro e V2 ⟨rfl, hb2⟩
    replace hb2 := hb1.trans (hb2.mono hb1.size)
    clear hb1 k0 k1 k2 k3 k4 k5
    obtain ⟨k0, k1, k2, k3, k4, k5⟩ := KX.out _ hb2
    obtain ⟨q0, q1⟩ := KQ.out _ hb2
    cases CO
    · go_wp2_with fail
      refine (cc _).mono ?_
      rintro e V3 ⟨rfl, hb3⟩
      go_wp2
      go_ret
      exact ⟨rfl, HB.out.trans ((hb2.trans (hb3.mono hb2.size)).mono (by omega))⟩
    · go_wp2_with fail
      refine (cc _).mono ?_
      rintro e V3 ⟨rfl, hb3⟩
      replace hb3 := hb2.trans (hb3.mono hb2.size)
      clear hb2 k0 k1 k2 k3 k4 k5 q0 q1
      obtain ⟨q0, q1⟩ := KQ.out _ hb3
      by_cases h1 : LO ≤ M
      · go_wp2
        go_ret
        exact ⟨ret_bool (by simp [h1]), HB.out.trans (hb3.mono (by omega))⟩
      · go_wp2
        go_ret
        exact ⟨ret_bool (by simp; omega), HB.out.trans (hb3.mono (by omega))⟩
end Go.Proofs.Ytmcjpibahnlmbaa
