/-
  Contract of the reference's Parse. No statement is proved here.
-/
import Derived.Test.YtkofpijhihghpaaDoorRefD
import Derived.Test.YtkofpijhihghpaaDoorRefB
namespace Go.Proofs.YtkofpijhihghpaaDoor
open Go.RowKit Go.Joins

theorem rnum255 (l : List UInt8) (w : World) (hl : l.length ≤ 4611686018427387904) : Calls Tryd.prog 65 #[.string (st l), .int .i64 255] w fun e w' => e = .returned (.tuple #[.int .i64 (nv 255 (dgs l) : Int), .int .i64 (rk 255 l : Int)]) ∧ w' = w := rnumber_any l 255 w hl (by omega)
theorem rnum32 (l : List UInt8) (w : World) (hl : l.length ≤ 4611686018427387904) : Calls Tryd.prog 65 #[.string (st l), .int .i64 32] w fun e w' => e = .returned (.tuple #[.int .i64 (nv 32 (dgs l) : Int), .int .i64 (rk 32 l : Int)]) ∧ w' = w := rnumber_any l 32 w hl (by omega)
theorem dgs_pos {most : Nat} {l : List UInt8} (h : numOk most (dgs l) = true) : 0 < (dgs l).length := List.length_pos_iff.2 ((numOk_iff _ _).1 h).1
set_option maxHeartbeats 2000000 in
theorem rparse_any (l : List UInt8) (w : World) (hl : l.length ≤ 4611686018427387904) : Calls Tryd.prog 46 #[.string (st l)] w fun e w' => e = .returned (pr (prs 4 0 l)) ∧ Below w.heap.size w w' := by
  generalize HX : prs 4 0 l = X at *
  have HX' := Lib.hid HX
  clear HX
  have j0 := alloc_at w (pc 0 0) _ rfl
  have hbW := below_alloc1 w (pc 0 0)
  go_enter Tryd.func46, Tryd.ntmps46
  go_wp2
  change Code.wp _ _ _ _ (w.alloc (pc 0 0))
  generalize w.alloc (pc 0 0) = W0 at *
  go_loop [0, 4, 5] (fun v0 v4 v5 => ∃ (i a : Nat) (R : List UInt8), v0 = .string (st R) ∧ v4 = .int .u32 (a : Int) ∧ v5 = .int .i64 (i : Int) ∧ i ≤ 4 ∧ Hid (a < 256 ^ i) ∧ R.length ≤ 4611686018427387904 ∧ Hid (prs (4 - i) a R = X)) (fun _ _ v5 => (4 - intOf v5).toNat)
  case atStart => exact ⟨0, 0, l, rfl, rfl, rfl, by omega, Lib.hid (by decide), hl, HX'⟩
  case round =>
    obtain ⟨i, a, R, rfl, rfl, rfl, hi, ha, hR, hx⟩ := hrel
    by_cases hlt : i < 4
    · have hi4 : (i : Int) < 4 := by omega
      have hx2 := hx.out
      rw [show 4 - i = (3 - i) + 1 by omega, prs_step (show i + ((3 - i) + 1) = 4 by omega), step_ref (sep_nd i)] at hx2
      have cN := fun W => rnum255 R W hR
      have ha2 := (pow_le4 ha.out hlt).1
      have hsep : (((i : Int) == 3) = true ∧ (sep i).toNat = 47) ∨ (((i : Int) == 3) = false ∧ (sep i).toNat = 46) := by
        unfold sep
        by_cases h3 : i = 3
        · left; rw [if_pos h3]; exact ⟨by simp only [beq_iff_eq]; omega, rfl⟩
        · right; rw [if_neg h3]; exact ⟨by rw [Bool.eq_false_iff]; intro h; simp only [beq_iff_eq] at h; omega, rfl⟩
      by_cases hN : numOk 255 (dgs R) = true
      · have hV : nv 255 (dgs R) = val (dgs R) := if_pos hN
        have hK : rk 255 R = (dgs R).length := if_pos hN
        have hv5 : val (dgs R) ≤ 255 := ((numOk_iff _ _).1 hN).2.2.2
        have hd := dgs_pos hN
        have hdl := (dgs_le R).2
        rw [hV, hK] at cN
        by_cases hkl : (dgs R).length < R.length
        · have hi0 : ∀ W, _ := fun W => idx_st W R _ hkl
          by_cases hsx : R[(dgs R).length]'hkl = sep i
          · rw [if_pos ⟨hN, by rw [List.getElem?_eq_getElem hkl, hsx]⟩] at hx2
            simp only at hx2
            have hx3 := Lib.hid hx2
            have hsn : ((R[(dgs R).length]'hkl).toNat : Int) = ((sep i).toNat : Int) := by rw [hsx]
            rw [hsn] at hi0
            have hlen : R.length = (dgs R).length + 1 + (R.drop ((dgs R).length + 1)).length := by rw [List.length_drop]; omega
            have hsz : (st R).size = (dgs R).length + 1 + (R.drop ((dgs R).length + 1)).length := by rw [st_size, ← hlen]
            have xe : (st R).extract ((dgs R).length + 1) ((dgs R).length + 1 + (R.drop ((dgs R).length + 1)).length) = st (R.drop ((dgs R).length + 1)) := by
              rw [← hlen]
              have := st_ext2 (R.take ((dgs R).length + 1)) (R.drop ((dgs R).length + 1)) ((dgs R).length + 1) R.length (by rw [List.length_take]; omega) (by rw [List.take_append_drop])
              rwa [List.take_append_drop] at this
            clear hx2 hx hsx hsn hN hV hK
            generalize val (dgs R) = n at *
            have hT2 := Lib.hid (rfl : a * 256 + n = a * 256 + n)
            generalize hR' : R.drop ((dgs R).length + 1) = R' at *
            generalize (dgs R).length = d at *
            generalize hm : R'.length = m at *
            have HM := Lib.hid hm
            clear hm hR'
            have hd0 : ((d : Int) == 0) = false := by rw [Bool.eq_false_iff]; intro h; simp only [beq_iff_eq] at h; omega
            have HL := Lib.hid hlen
            have hlt2 : d < R.length := hkl
            generalize hG : st R = S at *
            generalize hRl : R.length = rl at *
            clear hlen hG
            rcases hsep with ⟨h3, hs⟩ | ⟨h3, hs⟩
            · rw [hs] at hi0
              go_wp2_with fail
              refine (cN _).mono ?_
              rintro e W1 ⟨rfl, rfl⟩
              go_wp2
              go_round
              case rel =>
                refine ⟨i + 1, a * 256 + n, R', rfl, val_int (by omega), val_int (by omega), by omega, Lib.hid ?_, by have := HM.out; have := HL.out; omega, Lib.hid (by rw [show 4 - (i + 1) = 3 - i by omega]; exact hx3.out)⟩
                have h1 := ha.out
                rw [Nat.pow_succ]
                omega
              case measure => simp [intOf]; omega
            · rw [hs] at hi0
              go_wp2_with fail
              refine (cN _).mono ?_
              rintro e W1 ⟨rfl, rfl⟩
              go_wp2
              go_round
              case rel =>
                refine ⟨i + 1, a * 256 + n, R', rfl, val_int (by omega), val_int (by omega), by omega, Lib.hid ?_, by have := HM.out; have := HL.out; omega, Lib.hid (by rw [show 4 - (i + 1) = 3 - i by omega]; exact hx3.out)⟩
                have h1 := ha.out
                rw [Nat.pow_succ]
                omega
              case measure => simp [intOf]; omega
          · rw [if_neg (by rintro ⟨_, h⟩; rw [List.getElem?_eq_getElem hkl] at h; exact hsx (Option.some.inj h))] at hx2
            simp only at hx2
            subst hx2
            have hne : (R[(dgs R).length]'hkl).toNat ≠ (sep i).toNat := fun h => hsx (UInt8.toNat_inj.1 h)
            obtain ⟨n0, n1, f0, f1, _⟩ := pc_at j0
            have js := pc_set (B := 0) (M := 0) j0
            obtain ⟨q0, q1, _, _, _⟩ := pc_at js
            have r0 : ((W0.setCell ⟨w.heap.size, 0, none⟩ (.int .u32 0)).setCell ⟨w.heap.size, 1, none⟩ (.int .i64 0)).cell? ⟨w.heap.size, 0, none⟩ = some (.int .u32 0) := q0
            have r1 : ((W0.setCell ⟨w.heap.size, 0, none⟩ (.int .u32 0)).setCell ⟨w.heap.size, 1, none⟩ (.int .i64 0)).cell? ⟨w.heap.size, 1, none⟩ = some (.int .i64 0) := q1
            have hbs := below_set (b := w.heap.size) (u := .int .u32 0) (v := .int .i64 0) hbW (by omega)
            clear j0 js hbW q0 q1 HX' hx
            clear hN hV hK hsx
            generalize (R[(dgs R).length]'hkl).toNat = c at *
            generalize val (dgs R) = n at *
            generalize (dgs R).length = d at *
            have hd0 : ((d : Int) == 0) = false := by rw [Bool.eq_false_iff]; intro h; simp only [beq_iff_eq] at h; omega
            have hlt2 : d < R.length := hkl
            have hS : (st R).size = R.length := st_size R
            rcases hsep with ⟨h3, hs⟩ | ⟨h3, hs⟩
            · have hcc : ((c : Int) != 47) = true := by rw [hs] at hne; simp; omega
              clear hne
              go_wp2_with fail
              refine (cN _).mono ?_
              rintro e W1 ⟨rfl, rfl⟩
              go_wp2
              refine bodyPost_ret (v := pr (0, 0, 3)) (by simp [results, Tryd.results46, go_sem, r0, r1]) rfl ⟨rfl, ?_⟩
              exact hbs
            · have hcc : ((c : Int) != 46) = true := by rw [hs] at hne; simp; omega
              clear hne
              go_wp2_with fail
              refine (cN _).mono ?_
              rintro e W1 ⟨rfl, rfl⟩
              go_wp2
              refine bodyPost_ret (v := pr (0, 0, 3)) (by simp [results, Tryd.results46, go_sem, r0, r1]) rfl ⟨rfl, ?_⟩
              exact hbs
        · rw [if_neg (by rintro ⟨_, h⟩; rw [List.getElem?_eq_none (by omega)] at h; cases h)] at hx2
          simp only at hx2
          subst hx2
          obtain ⟨n0, n1, f0, f1, _⟩ := pc_at j0
          have js := pc_set (B := 0) (M := 0) j0
          obtain ⟨q0, q1, _, _, _⟩ := pc_at js
          have r0 : ((W0.setCell ⟨w.heap.size, 0, none⟩ (.int .u32 0)).setCell ⟨w.heap.size, 1, none⟩ (.int .i64 0)).cell? ⟨w.heap.size, 0, none⟩ = some (.int .u32 0) := q0
          have r1 : ((W0.setCell ⟨w.heap.size, 0, none⟩ (.int .u32 0)).setCell ⟨w.heap.size, 1, none⟩ (.int .i64 0)).cell? ⟨w.heap.size, 1, none⟩ = some (.int .i64 0) := q1
          have hbs := below_set (b := w.heap.size) (u := .int .u32 0) (v := .int .i64 0) hbW (by omega)
          clear j0 js hbW q0 q1 HX' hx
          clear hN hV hK
          generalize val (dgs R) = n at *
          generalize (dgs R).length = d at *
          have hd0 : ((d : Int) == 0) = false := by rw [Bool.eq_false_iff]; intro h; simp only [beq_iff_eq] at h; omega
          have hge2 : R.length ≤ d := by omega
          have hS : (st R).size = R.length := st_size R
          clear hkl
          rcases hsep with ⟨h3, hs⟩ | ⟨h3, hs⟩
          · go_wp2_with fail
            refine (cN _).mono ?_
            rintro e W1 ⟨rfl, rfl⟩
            go_wp2
            refine bodyPost_ret (v := pr (0, 0, 3)) (by simp [results, Tryd.results46, go_sem, r0, r1]) rfl ⟨rfl, ?_⟩
            exact hbs
          · go_wp2_with fail
            refine (cN _).mono ?_
            rintro e W1 ⟨rfl, rfl⟩
            go_wp2
            refine bodyPost_ret (v := pr (0, 0, 3)) (by simp [results, Tryd.results46, go_sem, r0, r1]) rfl ⟨rfl, ?_⟩
            exact hbs
      · rw [Bool.not_eq_true] at hN
        rw [if_neg (by rintro ⟨h, _⟩; rw [hN] at h; cases h)] at hx2
        simp only at hx2
        subst hx2
        have hK : rk 255 R = 0 := if_neg (by simp [hN])
        rw [nv_false hN, hK] at cN
        obtain ⟨n0, n1, f0, f1, _⟩ := pc_at j0
        have js := pc_set (B := 0) (M := 0) j0
        obtain ⟨q0, q1, _, _, _⟩ := pc_at js
        have r0 : ((W0.setCell ⟨w.heap.size, 0, none⟩ (.int .u32 0)).setCell ⟨w.heap.size, 1, none⟩ (.int .i64 0)).cell? ⟨w.heap.size, 0, none⟩ = some (.int .u32 0) := q0
        have r1 : ((W0.setCell ⟨w.heap.size, 0, none⟩ (.int .u32 0)).setCell ⟨w.heap.size, 1, none⟩ (.int .i64 0)).cell? ⟨w.heap.size, 1, none⟩ = some (.int .i64 0) := q1
        have hbs := below_set (b := w.heap.size) (u := .int .u32 0) (v := .int .i64 0) hbW (by omega)
        clear j0 js hbW q0 q1 HX' hx
        clear hN hK
        rcases hsep with ⟨h3, hs⟩ | ⟨h3, hs⟩
        · go_wp2_with fail
          refine (cN _).mono ?_
          rintro e W1 ⟨rfl, rfl⟩
          go_wp2
          refine bodyPost_ret (v := pr (0, 0, 3)) (by simp [results, Tryd.results46, go_sem, r0, r1]) rfl ⟨rfl, ?_⟩
          exact hbs
        · go_wp2_with fail
          refine (cN _).mono ?_
          rintro e W1 ⟨rfl, rfl⟩
          go_wp2
          refine bodyPost_ret (v := pr (0, 0, 3)) (by simp [results, Tryd.results46, go_sem, r0, r1]) rfl ⟨rfl, ?_⟩
          exact hbs
    · obtain rfl : i = 4 := by omega
      have hx2 := hx.out
      rw [show 4 - 4 = 0 by rfl, prs] at hx2
      have ha2 : a < 4294967296 := ha.out
      have cN := fun W => rnum32 R W hR
      have hlast := last_ref R
      unfold fin at hx2
      by_cases hN : numOk 32 (dgs R) = true
      · have hV : nv 32 (dgs R) = val (dgs R) := if_pos hN
        have hK : rk 32 R = (dgs R).length := if_pos hN
        have hd := dgs_pos hN
        rw [hV, hK] at cN
        by_cases hD : (dgs R).length = R.length
        · have eR : dgs R = R := by
            have := dgs_take R
            rwa [hD, List.take_length, eq_comm] at this
          rw [hN, Bool.true_and, decide_eq_true hD] at hlast
          rw [if_pos hlast] at hx2
          have cM := fun W => rmay_any a (val R : Int) W ha2
          rw [eR] at cN hd
          have hd0 : ((R.length : Int) == 0) = false := by rw [Bool.eq_false_iff]; intro h; simp only [beq_iff_eq] at h; omega
          have hne : ((R.length : Int) != (R.length : Int)) = false := by simp
          have hS : (st R).size = R.length := st_size R
          clear hN hV hK hlast HX' hx eR
          generalize val R = n at *
          by_cases hO : okp a (n : Int) = true
          · rw [if_pos hO] at hx2
            subst hx2
            rw [hO] at cM
            have j1 := (alloc_lt W0 (pc a n) _ (pc_at j0).2.2.2.2).trans j0
            have j2 := alloc_at W0 (pc a n) _ rfl
            have hbX := hbW.trans ((below_alloc1 W0 (pc a n)).mono hbW.size)
            obtain ⟨k0, k1, _, _, hs2⟩ := pc_at j2
            have hs1 := (pc_at j1).2.2.2.2
            clear j0 hbW
            go_wp2_with fail
            refine (cN _).mono ?_
            rintro e W1 ⟨rfl, rfl⟩
            go_wp2_with fail
            change Calls _ _ _ (W1.alloc (pc a n)) _
            generalize W1.alloc (pc a n) = W2 at *
            refine (cM _).mono ?_
            rintro e W3 ⟨rfl, hb3⟩
            have j1 := (hb3.block _ hs1).trans j1
            have j2 := (hb3.block _ hs2).trans j2
            have hbX := hbX.trans (hb3.mono hbX.size)
            clear hb3 k0 k1 hs1 hs2
            obtain ⟨k0, k1, _, _, _⟩ := pc_at j2
            obtain ⟨n0, n1, f0, f1, _⟩ := pc_at j1
            have js := pc_set (B := a) (M := (n : Int)) j1
            obtain ⟨r0, r1, _, _, _⟩ := pc_at js
            have hbs := below_set (b := w.heap.size) (u := .int .u32 (a : Int)) (v := .int .i64 (n : Int)) hbX (by omega)
            clear j1 j2 js hbX
            go_wp2
            refine bodyPost_ret (v := pr (a, n, 0)) (by simp [results, Tryd.results46, go_sem, r0, r1]) rfl ⟨rfl, ?_⟩
            exact hbs
          · rw [if_neg hO] at hx2
            subst hx2
            rw [Bool.not_eq_true] at hO
            rw [hO] at cM
            have j1 := (alloc_lt W0 (pc a n) _ (pc_at j0).2.2.2.2).trans j0
            have j2 := alloc_at W0 (pc a n) _ rfl
            have hbX := hbW.trans ((below_alloc1 W0 (pc a n)).mono hbW.size)
            obtain ⟨k0, k1, _, _, hs2⟩ := pc_at j2
            have hs1 := (pc_at j1).2.2.2.2
            clear j0 hbW
            go_wp2_with fail
            refine (cN _).mono ?_
            rintro e W1 ⟨rfl, rfl⟩
            go_wp2_with fail
            change Calls _ _ _ (W1.alloc (pc a n)) _
            generalize W1.alloc (pc a n) = W2 at *
            refine (cM _).mono ?_
            rintro e W3 ⟨rfl, hb3⟩
            have j1 := (hb3.block _ hs1).trans j1
            have j2 := (hb3.block _ hs2).trans j2
            have hbX := hbX.trans (hb3.mono hbX.size)
            clear hb3 k0 k1 hs1 hs2
            obtain ⟨k0, k1, _, _, _⟩ := pc_at j2
            obtain ⟨n0, n1, f0, f1, _⟩ := pc_at j1
            have js := pc_set (B := 0) (M := 0) j1
            obtain ⟨q0, q1, _, _, _⟩ := pc_at js
            have r0 : ((W3.setCell ⟨w.heap.size, 0, none⟩ (.int .u32 0)).setCell ⟨w.heap.size, 1, none⟩ (.int .i64 0)).cell? ⟨w.heap.size, 0, none⟩ = some (.int .u32 0) := q0
            have r1 : ((W3.setCell ⟨w.heap.size, 0, none⟩ (.int .u32 0)).setCell ⟨w.heap.size, 1, none⟩ (.int .i64 0)).cell? ⟨w.heap.size, 1, none⟩ = some (.int .i64 0) := q1
            have hbs := below_set (b := w.heap.size) (u := .int .u32 0) (v := .int .i64 0) hbX (by omega)
            clear j1 j2 js hbX q0 q1
            go_wp2
            refine bodyPost_ret (v := pr (0, 0, 1)) (by simp [results, Tryd.results46, go_sem, r0, r1]) rfl ⟨rfl, ?_⟩
            exact hbs
        · rw [hN, Bool.true_and, decide_eq_false hD] at hlast
          rw [if_neg (by simp [hlast])] at hx2
          subst hx2
          clear hN hV hK hlast
          obtain ⟨n0, n1, f0, f1, _⟩ := pc_at j0
          have js := pc_set (B := 0) (M := 0) j0
          obtain ⟨q0, q1, _, _, _⟩ := pc_at js
          have r0 : ((W0.setCell ⟨w.heap.size, 0, none⟩ (.int .u32 0)).setCell ⟨w.heap.size, 1, none⟩ (.int .i64 0)).cell? ⟨w.heap.size, 0, none⟩ = some (.int .u32 0) := q0
          have r1 : ((W0.setCell ⟨w.heap.size, 0, none⟩ (.int .u32 0)).setCell ⟨w.heap.size, 1, none⟩ (.int .i64 0)).cell? ⟨w.heap.size, 1, none⟩ = some (.int .i64 0) := q1
          have hbs := below_set (b := w.heap.size) (u := .int .u32 0) (v := .int .i64 0) hbW (by omega)
          clear j0 js hbW q0 q1 HX' hx
          generalize val (dgs R) = n at *
          generalize (dgs R).length = d at *
          have hd0 : ((d : Int) == 0) = false := by rw [Bool.eq_false_iff]; intro h; simp only [beq_iff_eq] at h; omega
          have hne : ((d : Int) != (R.length : Int)) = true := by simp; omega
          have hS : (st R).size = R.length := st_size R
          go_wp2_with fail
          refine (cN _).mono ?_
          rintro e W1 ⟨rfl, rfl⟩
          go_wp2
          refine bodyPost_ret (v := pr (0, 0, 3)) (by simp [results, Tryd.results46, go_sem, r0, r1]) rfl ⟨rfl, ?_⟩
          exact hbs
      · rw [Bool.not_eq_true] at hN
        rw [hN, Bool.false_and] at hlast
        rw [if_neg (by simp [hlast])] at hx2
        subst hx2
        have hK : rk 32 R = 0 := if_neg (by simp [hN])
        rw [nv_false hN, hK] at cN
        clear hN hK hlast
        obtain ⟨n0, n1, f0, f1, _⟩ := pc_at j0
        have js := pc_set (B := 0) (M := 0) j0
        obtain ⟨q0, q1, _, _, _⟩ := pc_at js
        have r0 : ((W0.setCell ⟨w.heap.size, 0, none⟩ (.int .u32 0)).setCell ⟨w.heap.size, 1, none⟩ (.int .i64 0)).cell? ⟨w.heap.size, 0, none⟩ = some (.int .u32 0) := q0
        have r1 : ((W0.setCell ⟨w.heap.size, 0, none⟩ (.int .u32 0)).setCell ⟨w.heap.size, 1, none⟩ (.int .i64 0)).cell? ⟨w.heap.size, 1, none⟩ = some (.int .i64 0) := q1
        have hbs := below_set (b := w.heap.size) (u := .int .u32 0) (v := .int .i64 0) hbW (by omega)
        clear j0 js hbW q0 q1 HX' hx
        go_wp2_with fail
        refine (cN _).mono ?_
        rintro e W1 ⟨rfl, rfl⟩
        go_wp2
        refine bodyPost_ret (v := pr (0, 0, 3)) (by simp [results, Tryd.results46, go_sem, r0, r1]) rfl ⟨rfl, ?_⟩
        exact hbs
end Go.Proofs.YtkofpijhihghpaaDoor
