/-
  The law AddrBlocks walked: it returns true, for every two prefixes and every address.
-/
import Derived.Test.YtmiaphgjcajbhaaDoorText
import Derived.Test.YtmiaphgjcajbhaaDoorBlk
import Derived.Test.YtmiaphgjcajbhaaDoorOrder
import Derived.Deep.DeepCutAuto
namespace Go.Proofs.YtmiaphgjcajbhaaDoor
open Go.RowKit Go.Joins

abbrev box2 (w : World) (A : Nat) (N : Int) (B : Nat) (M : Int) : World :=
  (w.alloc (.cells #[.int .u32 (A : Int), .int .i64 N] 24)).alloc (.cells #[.int .u32 (B : Int), .int .i64 M] 24)
theorem box2_at (w : World) (A : Nat) (N : Int) (B : Nat) (M : Int) (W : World) (h : Below (box2 w A N B M).heap.size (box2 w A N B M) W) :
    W.cell? ⟨w.heap.size, 0, none⟩ = some (.int .u32 (A : Int)) ∧ W.cell? ⟨w.heap.size, 1, none⟩ = some (.int .i64 N) ∧
    W.cell? ⟨w.heap.size + 1, 0, none⟩ = some (.int .u32 (B : Int)) ∧ W.cell? ⟨w.heap.size + 1, 1, none⟩ = some (.int .i64 M) := by
  have k0 := (h.block w.heap.size (by simp; omega)).trans ((alloc_lt _ _ _ (by simp)).trans (alloc_at _ _ _ rfl))
  have k1 := (h.block (w.heap.size + 1) (by simp)).trans (alloc_at _ _ _ (by simp))
  exact ⟨(cell_of_block k0 0).trans rfl, (cell_of_block k0 1).trans rfl, (cell_of_block k1 0).trans rfl, (cell_of_block k1 1).trans rfl⟩
theorem blocks_p (A : Nat) (N : Int) (B : Nat) (M : Int) (a : Nat) (w : World) (hA : A < 4294967296) (hB : B < 4294967296) (__ha : a < 4294967296) (ht : Tab w) (h : okp A N = false) :
    Calls Tryd.prog 6 #[pf A N, pf B M, .int .u32 (a : Int)] w fun e w' => e = .returned (.bool true) ∧ Below w.heap.size w w' := by
  have cp := fun W => may_any A N W hA
  have cq := fun W => may_any B M W hB
  have c1 := fun W => covers_any A N B M W hA hB
  have K := box2_at w A N B M
  have hbB : Below w.heap.size w (box2 w A N B M) := below_alloc2 _ _ _
  obtain ⟨k0, k1, k2, k3⟩ := K _ (Below.refl _ _)
  have hv : covp A N B M = false := by simp [covp, hasp, h]
  rw [h] at cp
  rw [hv] at c1
  go_enter Tryd.func6, Tryd.ntmps6
  go_wp2_with fail
  have hbW := Below.refl (box2 w A N B M).heap.size (box2 w A N B M)
  change Calls _ _ _ (box2 w A N B M) _
  generalize box2 w A N B M = W0 at *
  refine (cp _).mono ?_
  rintro e W1 ⟨rfl, hb1⟩
  replace hbW := hbW.trans (hb1.mono hbW.size)
  clear hb1 k0 k1 k2 k3
  obtain ⟨k0, k1, k2, k3⟩ := K _ hbW
  go_wp2_with fail
  refine (alive_any _ (ht.grown (hbB.trans (hbW.mono hbB.size)))).mono ?_
  rintro e W2 ⟨rfl, hb2⟩
  replace hbW := hbW.trans (hb2.mono hbW.size)
  clear hb2 k0 k1 k2 k3
  obtain ⟨k0, k1, k2, k3⟩ := K _ hbW
  go_wp2_with fail
  refine (c1 _).mono ?_
  rintro e W3 ⟨rfl, hb3⟩
  replace hbW := hbW.trans (hb3.mono hbW.size)
  clear hb3 k0 k1 k2 k3
  obtain ⟨k0, k1, k2, k3⟩ := K _ hbW
  go_wp2
  go_ret
  exact ⟨rfl, hbB.trans (hbW.mono hbB.size)⟩
theorem blocks_q (A : Nat) (N : Int) (B : Nat) (M : Int) (a : Nat) (w : World) (hA : A < 4294967296) (hB : B < 4294967296) (_ha : a < 4294967296) (ht : Tab w) (h0 : okp A N = true) (h : okp B M = false) :
    Calls Tryd.prog 6 #[pf A N, pf B M, .int .u32 (a : Int)] w fun e w' => e = .returned (.bool true) ∧ Below w.heap.size w w' := by
  have cp := fun W => may_any A N W hA
  have cq := fun W => may_any B M W hB
  have c1 := fun W => covers_any A N B M W hA hB
  have K := box2_at w A N B M
  have hbB : Below w.heap.size w (box2 w A N B M) := below_alloc2 _ _ _
  obtain ⟨k0, k1, k2, k3⟩ := K _ (Below.refl _ _)
  have hv : covp A N B M = false := by simp [covp, h]
  rw [h0] at cp
  rw [h] at cq
  rw [hv] at c1
  go_enter Tryd.func6, Tryd.ntmps6
  go_wp2_with fail
  have hbW := Below.refl (box2 w A N B M).heap.size (box2 w A N B M)
  change Calls _ _ _ (box2 w A N B M) _
  generalize box2 w A N B M = W0 at *
  refine (cp _).mono ?_
  rintro e W1 ⟨rfl, hb1⟩
  replace hbW := hbW.trans (hb1.mono hbW.size)
  clear hb1 k0 k1 k2 k3
  obtain ⟨k0, k1, k2, k3⟩ := K _ hbW
  go_wp2_with fail
  refine (cq _).mono ?_
  rintro e W2 ⟨rfl, hb2⟩
  replace hbW := hbW.trans (hb2.mono hbW.size)
  clear hb2 k0 k1 k2 k3
  obtain ⟨k0, k1, k2, k3⟩ := K _ hbW
  go_wp2_with fail
  refine (alive_any _ (ht.grown (hbB.trans (hbW.mono hbB.size)))).mono ?_
  rintro e W3 ⟨rfl, hb3⟩
  replace hbW := hbW.trans (hb3.mono hbW.size)
  clear hb3 k0 k1 k2 k3
  obtain ⟨k0, k1, k2, k3⟩ := K _ hbW
  go_wp2_with fail
  refine (c1 _).mono ?_
  rintro e W4 ⟨rfl, hb4⟩
  replace hbW := hbW.trans (hb4.mono hbW.size)
  clear hb4 k0 k1 k2 k3
  obtain ⟨k0, k1, k2, k3⟩ := K _ hbW
  go_wp2
  go_ret
  exact ⟨rfl, hbB.trans (hbW.mono hbB.size)⟩
set_option maxRecDepth 100000 in
set_option maxHeartbeats 1000000 in
theorem blocks_ok (A : Nat) (N : Int) (B : Nat) (M : Int) (a : Nat) (w : World) (hA : A < 4294967296) (hB : B < 4294967296) (ha : a < 4294967296) (ht : Tab w) (h0 : okp A N = true) (h1 : okp B M = true) :
    Calls Tryd.prog 6 #[pf A N, pf B M, .int .u32 (a : Int)] w fun e w' => e = .returned (.bool true) ∧ Below w.heap.size w w' := by
  have cp := fun W => may_any A N W hA
  have cq := fun W => may_any B M W hB
  have c1 := fun W => covers_any A N B M W hA hB
  have K := box2_at w A N B M
  have hbB : Below w.heap.size w (box2 w A N B M) := below_alloc2 _ _ _
  obtain ⟨k0, k1, k2, k3⟩ := K _ (Below.refl _ _)
  have x1 := fun W => has_any A N a W hA ha
  have x2 := fun W => has_any B M a W hB ha
  have c2 := fun W => covers_any B M A N W hB hA
  have n1 : hasp A N a = true → hasp B M a = true → covp A N B M = true ∨ covp B M A N = true := nest
  have n2 : covp A N B M = true → hasp B M a = true → hasp A N a = true := cov_has
  rw [h0] at cp
  rw [h1] at cq
  have N1 := Lib.hid n1
  have N2 := Lib.hid n2
  clear n1 n2
  generalize hasp A N a = x at *
  generalize hasp B M a = y at *
  generalize covp B M A N = v at *
  go_enter Tryd.func6, Tryd.ntmps6
  go_wp2_with fail
  have hbW := Below.refl (box2 w A N B M).heap.size (box2 w A N B M)
  change Calls _ _ _ (box2 w A N B M) _
  generalize box2 w A N B M = W0 at *
  refine (cp _).mono ?_
  rintro e W1 ⟨rfl, hb1⟩
  replace hbW := hbW.trans (hb1.mono hbW.size)
  clear hb1 k0 k1 k2 k3
  obtain ⟨k0, k1, k2, k3⟩ := K _ hbW
  go_wp2_with fail
  refine (cq _).mono ?_
  rintro e W2 ⟨rfl, hb2⟩
  replace hbW := hbW.trans (hb2.mono hbW.size)
  clear hb2 k0 k1 k2 k3
  obtain ⟨k0, k1, k2, k3⟩ := K _ hbW
  go_upto_region 3 with fail
  go_cut [44] (fun s44 wx => s44 = .bool false ∧ Below W0.heap.size W0 wx)
  case first =>
    cases x
    · go_wp2_with fail
      refine (x1 _).mono ?_
      rintro e W3 ⟨rfl, hb3⟩
      replace hbW := hbW.trans (hb3.mono hbW.size)
      clear hb3 k0 k1 k2 k3
      obtain ⟨k0, k1, k2, k3⟩ := K _ hbW
      go_wp2_with fail
      go_meet
      exact ⟨rfl, hbW⟩
    · cases y
      · go_wp2_with fail
        refine (x1 _).mono ?_
        rintro e W3 ⟨rfl, hb3⟩
        replace hbW := hbW.trans (hb3.mono hbW.size)
        clear hb3 k0 k1 k2 k3
        obtain ⟨k0, k1, k2, k3⟩ := K _ hbW
        go_wp2_with fail
        refine (x2 _).mono ?_
        rintro e W4 ⟨rfl, hb4⟩
        replace hbW := hbW.trans (hb4.mono hbW.size)
        clear hb4 k0 k1 k2 k3
        obtain ⟨k0, k1, k2, k3⟩ := K _ hbW
        go_wp2_with fail
        go_meet
        exact ⟨rfl, hbW⟩
      · cases hu : covp A N B M
        · have hv : v = true := (N1.out rfl rfl).elim (fun h => by rw [hu] at h; cases h) id
          subst hv
          rw [hu] at c1
          go_wp2_with fail
          refine (x1 _).mono ?_
          rintro e W3 ⟨rfl, hb3⟩
          replace hbW := hbW.trans (hb3.mono hbW.size)
          clear hb3 k0 k1 k2 k3
          obtain ⟨k0, k1, k2, k3⟩ := K _ hbW
          go_wp2_with fail
          refine (x2 _).mono ?_
          rintro e W4 ⟨rfl, hb4⟩
          replace hbW := hbW.trans (hb4.mono hbW.size)
          clear hb4 k0 k1 k2 k3
          obtain ⟨k0, k1, k2, k3⟩ := K _ hbW
          go_wp2_with fail
          refine (c1 _).mono ?_
          rintro e W5 ⟨rfl, hb5⟩
          replace hbW := hbW.trans (hb5.mono hbW.size)
          clear hb5 k0 k1 k2 k3
          obtain ⟨k0, k1, k2, k3⟩ := K _ hbW
          go_wp2_with fail
          refine (c2 _).mono ?_
          rintro e W6 ⟨rfl, hb6⟩
          replace hbW := hbW.trans (hb6.mono hbW.size)
          clear hb6 k0 k1 k2 k3
          obtain ⟨k0, k1, k2, k3⟩ := K _ hbW
          go_wp2_with fail
          go_meet
          exact ⟨rfl, hbW⟩
        · rw [hu] at c1
          go_wp2_with fail
          refine (x1 _).mono ?_
          rintro e W3 ⟨rfl, hb3⟩
          replace hbW := hbW.trans (hb3.mono hbW.size)
          clear hb3 k0 k1 k2 k3
          obtain ⟨k0, k1, k2, k3⟩ := K _ hbW
          go_wp2_with fail
          refine (x2 _).mono ?_
          rintro e W4 ⟨rfl, hb4⟩
          replace hbW := hbW.trans (hb4.mono hbW.size)
          clear hb4 k0 k1 k2 k3
          obtain ⟨k0, k1, k2, k3⟩ := K _ hbW
          go_wp2_with fail
          refine (c1 _).mono ?_
          rintro e W5 ⟨rfl, hb5⟩
          replace hbW := hbW.trans (hb5.mono hbW.size)
          clear hb5 k0 k1 k2 k3
          obtain ⟨k0, k1, k2, k3⟩ := K _ hbW
          go_wp2_with fail
          go_meet
          exact ⟨rfl, hbW⟩
  case rest =>
    clear hbW k0 k1 k2 k3 N1
    obtain ⟨rfl, hbW⟩ := hcut
    obtain ⟨k0, k1, k2, k3⟩ := K _ hbW
    go_upto_region 5 with fail
    go_cut [58] (fun s58 wx => s58 = .bool false ∧ Below W0.heap.size W0 wx)
    case first =>
      cases hu : covp A N B M
      · rw [hu] at c1
        go_wp2_with fail
        refine (c1 _).mono ?_
        rintro e W3 ⟨rfl, hb3⟩
        replace hbW := hbW.trans (hb3.mono hbW.size)
        clear hb3 k0 k1 k2 k3
        obtain ⟨k0, k1, k2, k3⟩ := K _ hbW
        go_wp2_with fail
        go_meet
        exact ⟨rfl, hbW⟩
      · rw [hu] at c1
        cases y
        · go_wp2_with fail
          refine (c1 _).mono ?_
          rintro e W3 ⟨rfl, hb3⟩
          replace hbW := hbW.trans (hb3.mono hbW.size)
          clear hb3 k0 k1 k2 k3
          obtain ⟨k0, k1, k2, k3⟩ := K _ hbW
          go_wp2_with fail
          refine (x2 _).mono ?_
          rintro e W4 ⟨rfl, hb4⟩
          replace hbW := hbW.trans (hb4.mono hbW.size)
          clear hb4 k0 k1 k2 k3
          obtain ⟨k0, k1, k2, k3⟩ := K _ hbW
          go_wp2_with fail
          go_meet
          exact ⟨rfl, hbW⟩
        · have hx : x = true := N2.out hu rfl
          subst hx
          go_wp2_with fail
          refine (c1 _).mono ?_
          rintro e W3 ⟨rfl, hb3⟩
          replace hbW := hbW.trans (hb3.mono hbW.size)
          clear hb3 k0 k1 k2 k3
          obtain ⟨k0, k1, k2, k3⟩ := K _ hbW
          go_wp2_with fail
          refine (x2 _).mono ?_
          rintro e W4 ⟨rfl, hb4⟩
          replace hbW := hbW.trans (hb4.mono hbW.size)
          clear hb4 k0 k1 k2 k3
          obtain ⟨k0, k1, k2, k3⟩ := K _ hbW
          go_wp2_with fail
          refine (x1 _).mono ?_
          rintro e W5 ⟨rfl, hb5⟩
          replace hbW := hbW.trans (hb5.mono hbW.size)
          clear hb5 k0 k1 k2 k3
          obtain ⟨k0, k1, k2, k3⟩ := K _ hbW
          go_wp2_with fail
          go_meet
          exact ⟨rfl, hbW⟩
    case rest =>
      clear hbW k0 k1 k2 k3 N2 x1 x2 c2 cp cq
      obtain ⟨rfl, hbW⟩ := hcut
      obtain ⟨k0, k1, k2, k3⟩ := K _ hbW
      have cC := fun W => common_all A N B M W hA hB
      obtain ⟨m1, m2⟩ := com_covers hA hB h0 h1
      have m3 := cov_com hA hB h0 h1
      obtain ⟨e1, e2⟩ := com_eq h0 h1
      have m4 := fun n h hn => com_longest hA hB h0 h1 n h hn
      have hcn := cn_le A B N M
      have hT := tr_lt (cn A N B M) hA
      rw [← e1] at hT
      rw [← e2] at hcn m4
      have d1 := fun W => covers_any (comA A N B M) (comN A N B M : Int) A N W hT hA
      have d2 := fun W => covers_any (comA A N B M) (comN A N B M : Int) B M W hT hB
      have cO := fun W => of_any A ((comN A N B M : Int) + 1) W hA
      rw [m1] at d1
      rw [m2] at d2
      have M3 := Lib.hid m3
      have M4 := Lib.hid m4
      clear m1 m2 m3 m4 e1 e2 h0 h1
      generalize comA A N B M = T at *
      generalize comN A N B M = Z at *
      go_wp2_with fail
      refine (cC _).mono ?_
      rintro e W6 ⟨rfl, hb6⟩
      replace hbW := hbW.trans (hb6.mono hbW.size)
      clear hb6 k0 k1 k2 k3
      obtain ⟨k0, k1, k2, k3⟩ := K _ hbW
      have hbX := hbW.trans ((below_alloc1 W6 (.cells #[.int .u32 (T : Int), .int .i64 (Z : Int)] 24)).mono hbW.size)
      have kk := alloc_at W6 (.cells #[.int .u32 (T : Int), .int .i64 (Z : Int)] 24) _ rfl
      have ks : W6.heap.size < (W6.alloc (.cells #[.int .u32 (T : Int), .int .i64 (Z : Int)] 24)).heap.size := by simp
      clear hbW k0 k1 k2 k3
      go_upto_region 8 with fail
      generalize W6.alloc (.cells #[.int .u32 (T : Int), .int .i64 (Z : Int)] 24) = Wc at *
      have hbW := Below.refl Wc.heap.size Wc
      have K2 : ∀ W, Below Wc.heap.size Wc W → (W.cell? ⟨w.heap.size, 0, none⟩ = some (.int .u32 (A : Int)) ∧ W.cell? ⟨w.heap.size, 1, none⟩ = some (.int .i64 N) ∧
          W.cell? ⟨w.heap.size + 1, 0, none⟩ = some (.int .u32 (B : Int)) ∧ W.cell? ⟨w.heap.size + 1, 1, none⟩ = some (.int .i64 M)) ∧
          W.cell? ⟨W6.heap.size, 0, none⟩ = some (.int .u32 (T : Int)) ∧ W.cell? ⟨W6.heap.size, 1, none⟩ = some (.int .i64 (Z : Int)) := fun W h => by
        have kk' := (h.block _ ks).trans kk
        exact ⟨K _ (hbX.trans (h.mono hbX.size)), (cell_of_block kk' 0).trans rfl, (cell_of_block kk' 1).trans rfl⟩
      have hbC := hbB.trans (hbX.mono hbB.size)
      clear K hbB hbX kk ks
      obtain ⟨⟨k0, k1, k2, k3⟩, k4, k5⟩ := K2 _ hbW
      go_cut [8, 9] (fun s8 s9 wx => ∃ (b8 LA : Nat) (LN E : Int), s8 = .pointer (some ⟨b8, 0, none⟩) ∧ s9 = .int .i64 E ∧ wx.heap[b8]? = some (.cells #[.int .u32 (LA : Int), .int .i64 LN] 24) ∧ LA < 4294967296 ∧ Hid (E = 0 → ¬ (covp LA LN A N = true ∧ covp LA LN B M = true)) ∧ Below Wc.heap.size Wc wx)
      case first =>
        by_cases hZ : Z < 32
        · have hl : lenOk ((Z : Int) + 1) = true := by simp [lenOk]; omega
          have hc : cl ((Z : Int) + 1) = Z + 1 := by unfold cl; omega
          have m5 := M4.out (Z + 1) (by omega) (by omega)
          rw [if_pos hl, hc] at cO
          have ec : ((Z + 1 : Nat) : Int) = (Z : Int) + 1 := by omega
          rw [ec] at m5
          have hG := tr_lt (Z + 1) hA
          have M5 := Lib.hid m5
          clear hl hc M4 m5 ec
          generalize A / wd (Z + 1) * wd (Z + 1) = G at *
          go_wp2_with fail
          refine (cO _).mono ?_
          rintro e W7 ⟨rfl, hb7⟩
          go_wp2_with fail
          go_meet
          exact ⟨W7.heap.size, G, ((Z : Int) + 1), 0, rfl, rfl, alloc_at _ _ _ rfl, hG, Lib.hid (fun _ => M5.out), hb7.trans ((below_alloc1 _ _).mono hb7.size)⟩
        · have hl : lenOk ((Z : Int) + 1) = false := by simp [lenOk]; omega
          rw [if_neg (by simp [hl])] at cO
          clear hl M4
          go_wp2_with fail
          refine (cO _).mono ?_
          rintro e W7 ⟨rfl, hb7⟩
          go_wp2_with fail
          go_meet
          exact ⟨W7.heap.size, 0, 0, 1, rfl, rfl, alloc_at _ _ _ rfl, by omega, Lib.hid (fun h => absurd h (by decide)), hb7.trans ((below_alloc1 _ _).mono hb7.size)⟩
      case rest =>
        clear hbW k0 k1 k2 k3 k4 k5 M4 cO cC
        obtain ⟨b8, LA, LN, E, rfl, rfl, kb, hLA, HE, hbW⟩ := hcut
        obtain ⟨⟨k0, k1, k2, k3⟩, k4, k5⟩ := K2 _ hbW
        have kl : b8 < wc.heap.size := by
          rcases Nat.lt_or_ge b8 wc.heap.size with h | h
          · exact h
          · rw [Array.getElem?_eq_none h] at kb; cases kb
        have y0 := (cell_of_block kb 0).trans (show _ = some (.int .u32 (LA : Int)) by simp)
        have y1 := (cell_of_block kb 1).trans (show _ = some (.int .i64 LN) by simp)
        have g1 := fun W => covers_any LA LN A N W hLA hA
        have g2 := fun W => covers_any LA LN B M W hLA hB
        go_upto_region 9 with fail
        go_cut [82] (fun s82 wx => s82 = .bool false ∧ Below Wc.heap.size Wc wx)
        case first =>
          by_cases hE : E = 0
          · subst hE
            have H2 := HE.out rfl
            cases s1 : covp LA LN A N
            · rw [s1] at g1
              clear H2 HE
              go_wp2_with fail
              refine (g1 _).mono ?_
              rintro e W8 ⟨rfl, hb8⟩
              replace hbW := hbW.trans (hb8.mono hbW.size)
              have kb := (hb8.block _ kl).trans kb
              have kl := Nat.lt_of_lt_of_le kl hb8.size
              clear hb8 k0 k1 k2 k3 k4 k5 y0 y1
              obtain ⟨⟨k0, k1, k2, k3⟩, k4, k5⟩ := K2 _ hbW
              have y0 := (cell_of_block kb 0).trans (show _ = some (.int .u32 (LA : Int)) by simp)
              have y1 := (cell_of_block kb 1).trans (show _ = some (.int .i64 LN) by simp)
              go_wp2_with fail
              go_meet
              exact ⟨rfl, hbW⟩
            · have s2 : covp LA LN B M = false := by rw [Bool.eq_false_iff]; intro h; exact H2 ⟨s1, h⟩
              rw [s1] at g1
              rw [s2] at g2
              clear H2 HE
              go_wp2_with fail
              refine (g1 _).mono ?_
              rintro e W8 ⟨rfl, hb8⟩
              replace hbW := hbW.trans (hb8.mono hbW.size)
              have kb := (hb8.block _ kl).trans kb
              have kl := Nat.lt_of_lt_of_le kl hb8.size
              clear hb8 k0 k1 k2 k3 k4 k5 y0 y1
              obtain ⟨⟨k0, k1, k2, k3⟩, k4, k5⟩ := K2 _ hbW
              have y0 := (cell_of_block kb 0).trans (show _ = some (.int .u32 (LA : Int)) by simp)
              have y1 := (cell_of_block kb 1).trans (show _ = some (.int .i64 LN) by simp)
              go_wp2_with fail
              refine (g2 _).mono ?_
              rintro e W9 ⟨rfl, hb9⟩
              replace hbW := hbW.trans (hb9.mono hbW.size)
              have kb := (hb9.block _ kl).trans kb
              have kl := Nat.lt_of_lt_of_le kl hb9.size
              clear hb9 k0 k1 k2 k3 k4 k5 y0 y1
              obtain ⟨⟨k0, k1, k2, k3⟩, k4, k5⟩ := K2 _ hbW
              have y0 := (cell_of_block kb 0).trans (show _ = some (.int .u32 (LA : Int)) by simp)
              have y1 := (cell_of_block kb 1).trans (show _ = some (.int .i64 LN) by simp)
              go_wp2_with fail
              go_meet
              exact ⟨rfl, hbW⟩
          · have hE1 : (E == 0) = false := by simpa using hE
            clear HE
            go_wp2_with fail
            go_meet
            exact ⟨rfl, hbW⟩
        case rest =>
          clear hbW k0 k1 k2 k3 k4 k5 y0 y1 kb kl HE g1 g2
          obtain ⟨rfl, hbW⟩ := hcut
          obtain ⟨⟨k0, k1, k2, k3⟩, k4, k5⟩ := K2 _ hbW
          cases hu : covp A N B M
          · rw [hu] at c1
            by_cases hTA : T = A
            · have hZN : ¬ (Z : Int) = N := fun h => by
                have := M3.out.2 ⟨hTA, h⟩
                rw [hu] at this; cases this
              subst hTA
              clear M3 hu
              go_wp2_with fail
              refine wp_region_quiet_below (by kernel_rfl) (by kernel_rfl) ?_
              have g0 := cell_regrown k0
              have g1 := cell_regrown k1
              have g2 := cell_regrown k2
              have g3 := cell_regrown k3
              have g4 := cell_regrown k4
              have g5 := cell_regrown k5
              have z0 : ∀ d os, _ := fun d os => Calls.regrown_of (w := wc) (d := d) (os := os) (alive_any _ ((ht.grown (hbC.trans (hbW.mono hbC.size))).grown (below_regrown _ _ _)))
              have z1 : ∀ d os, _ := fun d os => Calls.regrown_of (w := wc) (d := d) (os := os) (d1 _)
              have z2 : ∀ d os, _ := fun d os => Calls.regrown_of (w := wc) (d := d) (os := os) (d2 _)
              have z3 : ∀ d os, _ := fun d os => Calls.regrown_of (w := wc) (d := d) (os := os) (c1 _)
              go_big_quiet_step (with_reducible exact z0 _ _)
              iterate 3 (go_big_quiet_step (fail))
              go_big_quiet_step (with_reducible exact z1 _ _)
              iterate 4 (go_big_quiet_step (fail))
              go_big_quiet_step (with_reducible exact z2 _ _)
              iterate 4 (go_big_quiet_step (fail))
              go_big_quiet_step (with_reducible exact z3 _ _)
              repeat (go_big_quiet_step (fail))
              refine wpQuiet_nil ?_
              intro W1 hw'
              obtain ⟨⟨dq, osq⟩, hw''⟩ := hw'
              have hbz := below_regrown wc dq osq
              rw [← hw''] at hbz
              clear hw'' g0 g1 g2 g3 g4 g5
              go_wp2
              go_ret
              exact ⟨rfl, (hbC.trans (hbW.mono hbC.size)).trans (hbz.mono (Nat.le_trans hbC.size hbW.size))⟩
            · have hTA' : ¬ (T : Int) = (A : Int) := by omega
              clear M3 hu
              go_wp2_with fail
              refine wp_region_quiet_below (by kernel_rfl) (by kernel_rfl) ?_
              have g0 := cell_regrown k0
              have g1 := cell_regrown k1
              have g2 := cell_regrown k2
              have g3 := cell_regrown k3
              have g4 := cell_regrown k4
              have g5 := cell_regrown k5
              have z0 : ∀ d os, _ := fun d os => Calls.regrown_of (w := wc) (d := d) (os := os) (alive_any _ ((ht.grown (hbC.trans (hbW.mono hbC.size))).grown (below_regrown _ _ _)))
              have z1 : ∀ d os, _ := fun d os => Calls.regrown_of (w := wc) (d := d) (os := os) (d1 _)
              have z2 : ∀ d os, _ := fun d os => Calls.regrown_of (w := wc) (d := d) (os := os) (d2 _)
              have z3 : ∀ d os, _ := fun d os => Calls.regrown_of (w := wc) (d := d) (os := os) (c1 _)
              go_big_quiet_step (with_reducible exact z0 _ _)
              iterate 3 (go_big_quiet_step (fail))
              go_big_quiet_step (with_reducible exact z1 _ _)
              iterate 4 (go_big_quiet_step (fail))
              go_big_quiet_step (with_reducible exact z2 _ _)
              iterate 4 (go_big_quiet_step (fail))
              go_big_quiet_step (with_reducible exact z3 _ _)
              repeat (go_big_quiet_step (fail))
              refine wpQuiet_nil ?_
              intro W1 hw'
              obtain ⟨⟨dq, osq⟩, hw''⟩ := hw'
              have hbz := below_regrown wc dq osq
              rw [← hw''] at hbz
              clear hw'' g0 g1 g2 g3 g4 g5
              go_wp2
              go_ret
              exact ⟨rfl, (hbC.trans (hbW.mono hbC.size)).trans (hbz.mono (Nat.le_trans hbC.size hbW.size))⟩
          · rw [hu] at c1
            obtain ⟨rfl, rfl⟩ := M3.out.1 hu
            clear M3 hu
            go_wp2_with fail
            refine wp_region_quiet_below (by kernel_rfl) (by kernel_rfl) ?_
            have g0 := cell_regrown k0
            have g1 := cell_regrown k1
            have g2 := cell_regrown k2
            have g3 := cell_regrown k3
            have g4 := cell_regrown k4
            have g5 := cell_regrown k5
            have z0 : ∀ d os, _ := fun d os => Calls.regrown_of (w := wc) (d := d) (os := os) (alive_any _ ((ht.grown (hbC.trans (hbW.mono hbC.size))).grown (below_regrown _ _ _)))
            have z1 : ∀ d os, _ := fun d os => Calls.regrown_of (w := wc) (d := d) (os := os) (d1 _)
            have z2 : ∀ d os, _ := fun d os => Calls.regrown_of (w := wc) (d := d) (os := os) (d2 _)
            have z3 : ∀ d os, _ := fun d os => Calls.regrown_of (w := wc) (d := d) (os := os) (c1 _)
            go_big_quiet_step (with_reducible exact z0 _ _)
            iterate 3 (go_big_quiet_step (fail))
            go_big_quiet_step (with_reducible exact z1 _ _)
            iterate 4 (go_big_quiet_step (fail))
            go_big_quiet_step (with_reducible exact z2 _ _)
            iterate 4 (go_big_quiet_step (fail))
            go_big_quiet_step (with_reducible exact z3 _ _)
            repeat (go_big_quiet_step (fail))
            refine wpQuiet_nil ?_
            intro W1 hw'
            obtain ⟨⟨dq, osq⟩, hw''⟩ := hw'
            have hbz := below_regrown wc dq osq
            rw [← hw''] at hbz
            clear hw'' g0 g1 g2 g3 g4 g5
            go_wp2
            go_ret
            exact ⟨rfl, (hbC.trans (hbW.mono hbC.size)).trans (hbz.mono (Nat.le_trans hbC.size hbW.size))⟩
theorem blocks_walk (A : Nat) (N : Int) (B : Nat) (M : Int) (a : Nat) (w : World) (hA : A < 4294967296) (hB : B < 4294967296) (ha : a < 4294967296) (ht : Tab w) :
    Calls Tryd.prog 6 #[pf A N, pf B M, .int .u32 (a : Int)] w fun e w' => e = .returned (.bool true) ∧ Below w.heap.size w w' := by
  cases h0 : okp A N with
  | false => exact blocks_p A N B M a w hA hB ha ht h0
  | true =>
    cases h1 : okp B M with
    | false => exact blocks_q A N B M a w hA hB ha ht h0 h1
    | true => exact blocks_ok A N B M a w hA hB ha ht h0 h1
end Go.Proofs.YtmiaphgjcajbhaaDoor
