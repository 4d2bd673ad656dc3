/-
  Contracts of Change, the program's and the reference's. No statement is proved here; no conditions.
-/
import Derived.Test.YtmcjpibahnlmbaaMt
namespace Go.Proofs.Ytmcjpibahnlmbaa
open Go.RowKit Go.Joins

set_option maxRecDepth 100000 in
set_option maxHeartbeats 1000000 in
theorem change_any (x : Cl) (t : Rt) (w : World) (hk : okc x.c = true) (ht : okt t = true) : Calls Try.prog 19 #[cv x, tv t] w fun e w' => e = .returned (tv (chg x.c t)) ∧ Below w.heap.size w w' := by
  obtain ⟨h1, h2, -⟩ := okc_num hk
  obtain ⟨-, h3⟩ := okt_iff.1 ht
  clear hk ht
  obtain ⟨⟨s, p, L, k, lo, hi, T, sc, sp, sk, st, tg⟩, LA, Lc, TA, Tc⟩ := x
  obtain ⟨B, M, tk, c, tt⟩ := t
  simp only at h1 h2 h3
  obtain ⟨h1a, h1b⟩ := h1
  obtain ⟨h2a, h2b⟩ := h2
  obtain ⟨h3a, h3b⟩ := h3
  obtain ⟨R, hR⟩ : ∃ R, chg ⟨s, p, L, k, lo, hi, T, sc, sp, sk, st, tg⟩ ⟨B, M, tk, c, tt⟩ = R := ⟨_, rfl⟩
  rw [hR]
  have HR := Lib.hid hR
  clear hR
  by_cases g1 : sc = -1
  · have n1 : (sc != -1) = false := by simpa using g1
    have n1' : (sc == -1) = true := by simpa using g1
    by_cases g3 : c + sp ≤ 16777215
    · by_cases g2 : sk = -1
      · have n2 : (sk != -1) = false := by simpa using g2
        have n2' : (sk == -1) = true := by simpa using g2
        cases st
        · have HR2 : Hid (R = ⟨B, M, tk, c + sp, tt⟩) := Lib.hid (by rw [← HR.out]; first | (simp [chg, g1, g2]; done) | (simp [chg, g1, g2]; omega))
          clear HR
          go_enter Try.func19, Try.ntmps19
          go_wp2
          refine bodyPost_ret (v := tv ⟨B, M, tk, c + sp, tt⟩) (by simp [results, Try.results19, go_sem]) rfl ⟨by rw [HR2.out], ?_⟩
          exact (((Below.refl _ w).alloc (Nat.le_refl _) _).alloc (by simp) _).alloc (by simp; omega) _
        · have HR2 : Hid (R = ⟨B, M, tk, c + sp, tg⟩) := Lib.hid (by rw [← HR.out]; first | (simp [chg, g1, g2]; done) | (simp [chg, g1, g2]; omega))
          clear HR
          go_enter Try.func19, Try.ntmps19
          go_wp2
          refine bodyPost_ret (v := tv ⟨B, M, tk, c + sp, tg⟩) (by simp [results, Try.results19, go_sem]) rfl ⟨by rw [HR2.out], ?_⟩
          exact (((Below.refl _ w).alloc (Nat.le_refl _) _).alloc (by simp) _).alloc (by simp; omega) _
      · have n2 : (sk != -1) = true := by simpa using g2
        have n2' : (sk == -1) = false := by simpa using g2
        cases st
        · have HR2 : Hid (R = ⟨B, M, sk, c + sp, tt⟩) := Lib.hid (by rw [← HR.out]; first | (simp [chg, g1, g2]; done) | (simp [chg, g1, g2]; omega))
          clear HR
          go_enter Try.func19, Try.ntmps19
          go_wp2
          refine bodyPost_ret (v := tv ⟨B, M, sk, c + sp, tt⟩) (by simp [results, Try.results19, go_sem]) rfl ⟨by rw [HR2.out], ?_⟩
          exact (((Below.refl _ w).alloc (Nat.le_refl _) _).alloc (by simp) _).alloc (by simp; omega) _
        · have HR2 : Hid (R = ⟨B, M, sk, c + sp, tg⟩) := Lib.hid (by rw [← HR.out]; first | (simp [chg, g1, g2]; done) | (simp [chg, g1, g2]; omega))
          clear HR
          go_enter Try.func19, Try.ntmps19
          go_wp2
          refine bodyPost_ret (v := tv ⟨B, M, sk, c + sp, tg⟩) (by simp [results, Try.results19, go_sem]) rfl ⟨by rw [HR2.out], ?_⟩
          exact (((Below.refl _ w).alloc (Nat.le_refl _) _).alloc (by simp) _).alloc (by simp; omega) _
    · by_cases g2 : sk = -1
      · have n2 : (sk != -1) = false := by simpa using g2
        have n2' : (sk == -1) = true := by simpa using g2
        cases st
        · have HR2 : Hid (R = ⟨B, M, tk, 16777215, tt⟩) := Lib.hid (by rw [← HR.out]; first | (simp [chg, g1, g2]; done) | (simp [chg, g1, g2]; omega))
          clear HR
          go_enter Try.func19, Try.ntmps19
          go_wp2
          refine bodyPost_ret (v := tv ⟨B, M, tk, 16777215, tt⟩) (by simp [results, Try.results19, go_sem]) rfl ⟨by rw [HR2.out], ?_⟩
          exact (((Below.refl _ w).alloc (Nat.le_refl _) _).alloc (by simp) _).alloc (by simp; omega) _
        · have HR2 : Hid (R = ⟨B, M, tk, 16777215, tg⟩) := Lib.hid (by rw [← HR.out]; first | (simp [chg, g1, g2]; done) | (simp [chg, g1, g2]; omega))
          clear HR
          go_enter Try.func19, Try.ntmps19
          go_wp2
          refine bodyPost_ret (v := tv ⟨B, M, tk, 16777215, tg⟩) (by simp [results, Try.results19, go_sem]) rfl ⟨by rw [HR2.out], ?_⟩
          exact (((Below.refl _ w).alloc (Nat.le_refl _) _).alloc (by simp) _).alloc (by simp; omega) _
      · have n2 : (sk != -1) = true := by simpa using g2
        have n2' : (sk == -1) = false := by simpa using g2
        cases st
        · have HR2 : Hid (R = ⟨B, M, sk, 16777215, tt⟩) := Lib.hid (by rw [← HR.out]; first | (simp [chg, g1, g2]; done) | (simp [chg, g1, g2]; omega))
          clear HR
          go_enter Try.func19, Try.ntmps19
          go_wp2
          refine bodyPost_ret (v := tv ⟨B, M, sk, 16777215, tt⟩) (by simp [results, Try.results19, go_sem]) rfl ⟨by rw [HR2.out], ?_⟩
          exact (((Below.refl _ w).alloc (Nat.le_refl _) _).alloc (by simp) _).alloc (by simp; omega) _
        · have HR2 : Hid (R = ⟨B, M, sk, 16777215, tg⟩) := Lib.hid (by rw [← HR.out]; first | (simp [chg, g1, g2]; done) | (simp [chg, g1, g2]; omega))
          clear HR
          go_enter Try.func19, Try.ntmps19
          go_wp2
          refine bodyPost_ret (v := tv ⟨B, M, sk, 16777215, tg⟩) (by simp [results, Try.results19, go_sem]) rfl ⟨by rw [HR2.out], ?_⟩
          exact (((Below.refl _ w).alloc (Nat.le_refl _) _).alloc (by simp) _).alloc (by simp; omega) _
  · have n1 : (sc != -1) = true := by simpa using g1
    have n1' : (sc == -1) = false := by simpa using g1
    by_cases g3 : sc + sp ≤ 16777215
    · by_cases g2 : sk = -1
      · have n2 : (sk != -1) = false := by simpa using g2
        have n2' : (sk == -1) = true := by simpa using g2
        cases st
        · have HR2 : Hid (R = ⟨B, M, tk, sc + sp, tt⟩) := Lib.hid (by rw [← HR.out]; first | (simp [chg, g1, g2]; done) | (simp [chg, g1, g2]; omega))
          clear HR
          go_enter Try.func19, Try.ntmps19
          go_wp2
          refine bodyPost_ret (v := tv ⟨B, M, tk, sc + sp, tt⟩) (by simp [results, Try.results19, go_sem]) rfl ⟨by rw [HR2.out], ?_⟩
          exact (((Below.refl _ w).alloc (Nat.le_refl _) _).alloc (by simp) _).alloc (by simp; omega) _
        · have HR2 : Hid (R = ⟨B, M, tk, sc + sp, tg⟩) := Lib.hid (by rw [← HR.out]; first | (simp [chg, g1, g2]; done) | (simp [chg, g1, g2]; omega))
          clear HR
          go_enter Try.func19, Try.ntmps19
          go_wp2
          refine bodyPost_ret (v := tv ⟨B, M, tk, sc + sp, tg⟩) (by simp [results, Try.results19, go_sem]) rfl ⟨by rw [HR2.out], ?_⟩
          exact (((Below.refl _ w).alloc (Nat.le_refl _) _).alloc (by simp) _).alloc (by simp; omega) _
      · have n2 : (sk != -1) = true := by simpa using g2
        have n2' : (sk == -1) = false := by simpa using g2
        cases st
        · have HR2 : Hid (R = ⟨B, M, sk, sc + sp, tt⟩) := Lib.hid (by rw [← HR.out]; first | (simp [chg, g1, g2]; done) | (simp [chg, g1, g2]; omega))
          clear HR
          go_enter Try.func19, Try.ntmps19
          go_wp2
          refine bodyPost_ret (v := tv ⟨B, M, sk, sc + sp, tt⟩) (by simp [results, Try.results19, go_sem]) rfl ⟨by rw [HR2.out], ?_⟩
          exact (((Below.refl _ w).alloc (Nat.le_refl _) _).alloc (by simp) _).alloc (by simp; omega) _
        · have HR2 : Hid (R = ⟨B, M, sk, sc + sp, tg⟩) := Lib.hid (by rw [← HR.out]; first | (simp [chg, g1, g2]; done) | (simp [chg, g1, g2]; omega))
          clear HR
          go_enter Try.func19, Try.ntmps19
          go_wp2
          refine bodyPost_ret (v := tv ⟨B, M, sk, sc + sp, tg⟩) (by simp [results, Try.results19, go_sem]) rfl ⟨by rw [HR2.out], ?_⟩
          exact (((Below.refl _ w).alloc (Nat.le_refl _) _).alloc (by simp) _).alloc (by simp; omega) _
    · by_cases g2 : sk = -1
      · have n2 : (sk != -1) = false := by simpa using g2
        have n2' : (sk == -1) = true := by simpa using g2
        cases st
        · have HR2 : Hid (R = ⟨B, M, tk, 16777215, tt⟩) := Lib.hid (by rw [← HR.out]; first | (simp [chg, g1, g2]; done) | (simp [chg, g1, g2]; omega))
          clear HR
          go_enter Try.func19, Try.ntmps19
          go_wp2
          refine bodyPost_ret (v := tv ⟨B, M, tk, 16777215, tt⟩) (by simp [results, Try.results19, go_sem]) rfl ⟨by rw [HR2.out], ?_⟩
          exact (((Below.refl _ w).alloc (Nat.le_refl _) _).alloc (by simp) _).alloc (by simp; omega) _
        · have HR2 : Hid (R = ⟨B, M, tk, 16777215, tg⟩) := Lib.hid (by rw [← HR.out]; first | (simp [chg, g1, g2]; done) | (simp [chg, g1, g2]; omega))
          clear HR
          go_enter Try.func19, Try.ntmps19
          go_wp2
          refine bodyPost_ret (v := tv ⟨B, M, tk, 16777215, tg⟩) (by simp [results, Try.results19, go_sem]) rfl ⟨by rw [HR2.out], ?_⟩
          exact (((Below.refl _ w).alloc (Nat.le_refl _) _).alloc (by simp) _).alloc (by simp; omega) _
      · have n2 : (sk != -1) = true := by simpa using g2
        have n2' : (sk == -1) = false := by simpa using g2
        cases st
        · have HR2 : Hid (R = ⟨B, M, sk, 16777215, tt⟩) := Lib.hid (by rw [← HR.out]; first | (simp [chg, g1, g2]; done) | (simp [chg, g1, g2]; omega))
          clear HR
          go_enter Try.func19, Try.ntmps19
          go_wp2
          refine bodyPost_ret (v := tv ⟨B, M, sk, 16777215, tt⟩) (by simp [results, Try.results19, go_sem]) rfl ⟨by rw [HR2.out], ?_⟩
          exact (((Below.refl _ w).alloc (Nat.le_refl _) _).alloc (by simp) _).alloc (by simp; omega) _
        · have HR2 : Hid (R = ⟨B, M, sk, 16777215, tg⟩) := Lib.hid (by rw [← HR.out]; first | (simp [chg, g1, g2]; done) | (simp [chg, g1, g2]; omega))
          clear HR
          go_enter Try.func19, Try.ntmps19
          go_wp2
          refine bodyPost_ret (v := tv ⟨B, M, sk, 16777215, tg⟩) (by simp [results, Try.results19, go_sem]) rfl ⟨by rw [HR2.out], ?_⟩
          exact (((Below.refl _ w).alloc (Nat.le_refl _) _).alloc (by simp) _).alloc (by simp; omega) _
set_option maxRecDepth 100000 in
set_option maxHeartbeats 1000000 in
theorem rchange_any (x : Cl) (t : Rt) (w : World) (hk : okc x.c = true) (ht : okt t = true) : Calls Try.prog 20 #[cv x, tv t] w fun e w' => e = .returned (tv (chg x.c t)) ∧ Below w.heap.size w w' := by
  obtain ⟨h1, h2, -⟩ := okc_num hk
  obtain ⟨-, h3⟩ := okt_iff.1 ht
  clear hk ht
  obtain ⟨⟨s, p, L, k, lo, hi, T, sc, sp, sk, st, tg⟩, LA, Lc, TA, Tc⟩ := x
  obtain ⟨B, M, tk, c, tt⟩ := t
  simp only at h1 h2 h3
  obtain ⟨h1a, h1b⟩ := h1
  obtain ⟨h2a, h2b⟩ := h2
  obtain ⟨h3a, h3b⟩ := h3
  obtain ⟨R, hR⟩ : ∃ R, chg ⟨s, p, L, k, lo, hi, T, sc, sp, sk, st, tg⟩ ⟨B, M, tk, c, tt⟩ = R := ⟨_, rfl⟩
  rw [hR]
  have HR := Lib.hid hR
  clear hR
  by_cases g1 : sc = -1
  · have n1 : (sc != -1) = false := by simpa using g1
    have n1' : (sc == -1) = true := by simpa using g1
    by_cases g3 : c + sp ≤ 16777215
    · by_cases g2 : sk = -1
      · have n2 : (sk != -1) = false := by simpa using g2
        have n2' : (sk == -1) = true := by simpa using g2
        cases st
        · have HR2 : Hid (R = ⟨B, M, tk, c + sp, tt⟩) := Lib.hid (by rw [← HR.out]; first | (simp [chg, g1, g2]; done) | (simp [chg, g1, g2]; omega))
          clear HR
          go_enter Try.func20, Try.ntmps20
          go_wp2
          refine bodyPost_ret (v := tv ⟨B, M, tk, c + sp, tt⟩) (by simp [results, Try.results20, go_sem]) rfl ⟨by rw [HR2.out], ?_⟩
          exact (((Below.refl _ w).alloc (Nat.le_refl _) _).alloc (by simp) _).alloc (by simp; omega) _
        · have HR2 : Hid (R = ⟨B, M, tk, c + sp, tg⟩) := Lib.hid (by rw [← HR.out]; first | (simp [chg, g1, g2]; done) | (simp [chg, g1, g2]; omega))
          clear HR
          go_enter Try.func20, Try.ntmps20
          go_wp2
          refine bodyPost_ret (v := tv ⟨B, M, tk, c + sp, tg⟩) (by simp [results, Try.results20, go_sem]) rfl ⟨by rw [HR2.out], ?_⟩
          exact (((Below.refl _ w).alloc (Nat.le_refl _) _).alloc (by simp) _).alloc (by simp; omega) _
      · have n2 : (sk != -1) = true := by simpa using g2
        have n2' : (sk == -1) = false := by simpa using g2
        cases st
        · have HR2 : Hid (R = ⟨B, M, sk, c + sp, tt⟩) := Lib.hid (by rw [← HR.out]; first | (simp [chg, g1, g2]; done) | (simp [chg, g1, g2]; omega))
          clear HR
          go_enter Try.func20, Try.ntmps20
          go_wp2
          refine bodyPost_ret (v := tv ⟨B, M, sk, c + sp, tt⟩) (by simp [results, Try.results20, go_sem]) rfl ⟨by rw [HR2.out], ?_⟩
          exact (((Below.refl _ w).alloc (Nat.le_refl _) _).alloc (by simp) _).alloc (by simp; omega) _
        · have HR2 : Hid (R = ⟨B, M, sk, c + sp, tg⟩) := Lib.hid (by rw [← HR.out]; first | (simp [chg, g1, g2]; done) | (simp [chg, g1, g2]; omega))
          clear HR
          go_enter Try.func20, Try.ntmps20
          go_wp2
          refine bodyPost_ret (v := tv ⟨B, M, sk, c + sp, tg⟩) (by simp [results, Try.results20, go_sem]) rfl ⟨by rw [HR2.out], ?_⟩
          exact (((Below.refl _ w).alloc (Nat.le_refl _) _).alloc (by simp) _).alloc (by simp; omega) _
    · by_cases g2 : sk = -1
      · have n2 : (sk != -1) = false := by simpa using g2
        have n2' : (sk == -1) = true := by simpa using g2
        cases st
        · have HR2 : Hid (R = ⟨B, M, tk, 16777215, tt⟩) := Lib.hid (by rw [← HR.out]; first | (simp [chg, g1, g2]; done) | (simp [chg, g1, g2]; omega))
          clear HR
          go_enter Try.func20, Try.ntmps20
          go_wp2
          refine bodyPost_ret (v := tv ⟨B, M, tk, 16777215, tt⟩) (by simp [results, Try.results20, go_sem]) rfl ⟨by rw [HR2.out], ?_⟩
          exact (((Below.refl _ w).alloc (Nat.le_refl _) _).alloc (by simp) _).alloc (by simp; omega) _
        · have HR2 : Hid (R = ⟨B, M, tk, 16777215, tg⟩) := Lib.hid (by rw [← HR.out]; first | (simp [chg, g1, g2]; done) | (simp [chg, g1, g2]; omega))
          clear HR
          go_enter Try.func20, Try.ntmps20
          go_wp2
          refine bodyPost_ret (v := tv ⟨B, M, tk, 16777215, tg⟩) (by simp [results, Try.results20, go_sem]) rfl ⟨by rw [HR2.out], ?_⟩
          exact (((Below.refl _ w).alloc (Nat.le_refl _) _).alloc (by simp) _).alloc (by simp; omega) _
      · have n2 : (sk != -1) = true := by simpa using g2
        have n2' : (sk == -1) = false := by simpa using g2
        cases st
        · have HR2 : Hid (R = ⟨B, M, sk, 16777215, tt⟩) := Lib.hid (by rw [← HR.out]; first | (simp [chg, g1, g2]; done) | (simp [chg, g1, g2]; omega))
          clear HR
          go_enter Try.func20, Try.ntmps20
          go_wp2
          refine bodyPost_ret (v := tv ⟨B, M, sk, 16777215, tt⟩) (by simp [results, Try.results20, go_sem]) rfl ⟨by rw [HR2.out], ?_⟩
          exact (((Below.refl _ w).alloc (Nat.le_refl _) _).alloc (by simp) _).alloc (by simp; omega) _
        · have HR2 : Hid (R = ⟨B, M, sk, 16777215, tg⟩) := Lib.hid (by rw [← HR.out]; first | (simp [chg, g1, g2]; done) | (simp [chg, g1, g2]; omega))
          clear HR
          go_enter Try.func20, Try.ntmps20
          go_wp2
          refine bodyPost_ret (v := tv ⟨B, M, sk, 16777215, tg⟩) (by simp [results, Try.results20, go_sem]) rfl ⟨by rw [HR2.out], ?_⟩
          exact (((Below.refl _ w).alloc (Nat.le_refl _) _).alloc (by simp) _).alloc (by simp; omega) _
  · have n1 : (sc != -1) = true := by simpa using g1
    have n1' : (sc == -1) = false := by simpa using g1
    by_cases g3 : sc + sp ≤ 16777215
    · by_cases g2 : sk = -1
      · have n2 : (sk != -1) = false := by simpa using g2
        have n2' : (sk == -1) = true := by simpa using g2
        cases st
        · have HR2 : Hid (R = ⟨B, M, tk, sc + sp, tt⟩) := Lib.hid (by rw [← HR.out]; first | (simp [chg, g1, g2]; done) | (simp [chg, g1, g2]; omega))
          clear HR
          go_enter Try.func20, Try.ntmps20
          go_wp2
          refine bodyPost_ret (v := tv ⟨B, M, tk, sc + sp, tt⟩) (by simp [results, Try.results20, go_sem]) rfl ⟨by rw [HR2.out], ?_⟩
          exact (((Below.refl _ w).alloc (Nat.le_refl _) _).alloc (by simp) _).alloc (by simp; omega) _
        · have HR2 : Hid (R = ⟨B, M, tk, sc + sp, tg⟩) := Lib.hid (by rw [← HR.out]; first | (simp [chg, g1, g2]; done) | (simp [chg, g1, g2]; omega))
          clear HR
          go_enter Try.func20, Try.ntmps20
          go_wp2
          refine bodyPost_ret (v := tv ⟨B, M, tk, sc + sp, tg⟩) (by simp [results, Try.results20, go_sem]) rfl ⟨by rw [HR2.out], ?_⟩
          exact (((Below.refl _ w).alloc (Nat.le_refl _) _).alloc (by simp) _).alloc (by simp; omega) _
      · have n2 : (sk != -1) = true := by simpa using g2
        have n2' : (sk == -1) = false := by simpa using g2
        cases st
        · have HR2 : Hid (R = ⟨B, M, sk, sc + sp, tt⟩) := Lib.hid (by rw [← HR.out]; first | (simp [chg, g1, g2]; done) | (simp [chg, g1, g2]; omega))
          clear HR
          go_enter Try.func20, Try.ntmps20
          go_wp2
          refine bodyPost_ret (v := tv ⟨B, M, sk, sc + sp, tt⟩) (by simp [results, Try.results20, go_sem]) rfl ⟨by rw [HR2.out], ?_⟩
          exact (((Below.refl _ w).alloc (Nat.le_refl _) _).alloc (by simp) _).alloc (by simp; omega) _
        · have HR2 : Hid (R = ⟨B, M, sk, sc + sp, tg⟩) := Lib.hid (by rw [← HR.out]; first | (simp [chg, g1, g2]; done) | (simp [chg, g1, g2]; omega))
          clear HR
          go_enter Try.func20, Try.ntmps20
          go_wp2
          refine bodyPost_ret (v := tv ⟨B, M, sk, sc + sp, tg⟩) (by simp [results, Try.results20, go_sem]) rfl ⟨by rw [HR2.out], ?_⟩
          exact (((Below.refl _ w).alloc (Nat.le_refl _) _).alloc (by simp) _).alloc (by simp; omega) _
    · by_cases g2 : sk = -1
      · have n2 : (sk != -1) = false := by simpa using g2
        have n2' : (sk == -1) = true := by simpa using g2
        cases st
        · have HR2 : Hid (R = ⟨B, M, tk, 16777215, tt⟩) := Lib.hid (by rw [← HR.out]; first | (simp [chg, g1, g2]; done) | (simp [chg, g1, g2]; omega))
          clear HR
          go_enter Try.func20, Try.ntmps20
          go_wp2
          refine bodyPost_ret (v := tv ⟨B, M, tk, 16777215, tt⟩) (by simp [results, Try.results20, go_sem]) rfl ⟨by rw [HR2.out], ?_⟩
          exact (((Below.refl _ w).alloc (Nat.le_refl _) _).alloc (by simp) _).alloc (by simp; omega) _
        · have HR2 : Hid (R = ⟨B, M, tk, 16777215, tg⟩) := Lib.hid (by rw [← HR.out]; first | (simp [chg, g1, g2]; done) | (simp [chg, g1, g2]; omega))
          clear HR
          go_enter Try.func20, Try.ntmps20
          go_wp2
          refine bodyPost_ret (v := tv ⟨B, M, tk, 16777215, tg⟩) (by simp [results, Try.results20, go_sem]) rfl ⟨by rw [HR2.out], ?_⟩
          exact (((Below.refl _ w).alloc (Nat.le_refl _) _).alloc (by simp) _).alloc (by simp; omega) _
      · have n2 : (sk != -1) = true := by simpa using g2
        have n2' : (sk == -1) = false := by simpa using g2
        cases st
        · have HR2 : Hid (R = ⟨B, M, sk, 16777215, tt⟩) := Lib.hid (by rw [← HR.out]; first | (simp [chg, g1, g2]; done) | (simp [chg, g1, g2]; omega))
          clear HR
          go_enter Try.func20, Try.ntmps20
          go_wp2
          refine bodyPost_ret (v := tv ⟨B, M, sk, 16777215, tt⟩) (by simp [results, Try.results20, go_sem]) rfl ⟨by rw [HR2.out], ?_⟩
          exact (((Below.refl _ w).alloc (Nat.le_refl _) _).alloc (by simp) _).alloc (by simp; omega) _
        · have HR2 : Hid (R = ⟨B, M, sk, 16777215, tg⟩) := Lib.hid (by rw [← HR.out]; first | (simp [chg, g1, g2]; done) | (simp [chg, g1, g2]; omega))
          clear HR
          go_enter Try.func20, Try.ntmps20
          go_wp2
          refine bodyPost_ret (v := tv ⟨B, M, sk, 16777215, tg⟩) (by simp [results, Try.results20, go_sem]) rfl ⟨by rw [HR2.out], ?_⟩
          exact (((Below.refl _ w).alloc (Nat.le_refl _) _).alloc (by simp) _).alloc (by simp; omega) _
end Go.Proofs.Ytmcjpibahnlmbaa
