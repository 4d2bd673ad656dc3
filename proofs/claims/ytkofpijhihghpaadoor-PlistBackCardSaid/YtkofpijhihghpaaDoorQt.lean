/-
  Contracts of the reference's Text and Number. No statement is proved here; no conditions.
-/
import Derived.Test.YtkofpijhihghpaaDoorTx
import Derived.Test.YtkofpijhihghpaaDoorRefF
import Derived.Test.YtkofpijhihghpaaDoorRefD
namespace Go.Proofs.YtkofpijhihghpaaDoor
open Go.RowKit Go.Joins

set_option maxRecDepth 100000 in
set_option maxHeartbeats 2000000 in
theorem qtext_any (x : Ru) (w : World) (hx : Wf x) : Calls Tryd.prog 16 #[rv x] w fun e w' => e = .returned (.string (st (rtx x))) ∧ Below w.heap.size w w' := by
  have cs := fun W => decimal7_any x.s W hx.s0 hx.s1
  have cg := fun W => decimal7_any x.g W hx.g0 hx.g1
  have cl := fun W => decimal7_any x.l W hx.l0 hx.l1
  have ct := fun W => rtext_any x.A x.N W hx.A hx.N0 hx.N1
  have zs := Lib.itoa_length_le x.s hx.s0 hx.s1
  have zg := Lib.itoa_length_le x.g hx.g0 hx.g1
  have zl := Lib.itoa_length_le x.l hx.l0 hx.l1
  have zt := txt_len x.A x.N hx.A hx.N0 hx.N1
  have hR : rtx x = Lib.itoa x.s ++ 32 :: ((if x.p then tPermit else tDeny) ++ 32 :: (txt x.A x.N ++ ((if x.g = 0 then [] else 32 :: (tGe ++ 32 :: Lib.itoa x.g)) ++ (if x.l = 0 then [] else 32 :: (tLe ++ 32 :: Lib.itoa x.l))))) := rfl
  obtain ⟨s, p, A, N, g, l⟩ := x
  simp only at cs cg cl ct zs zg zl zt hR
  obtain ⟨RT, hRT⟩ : ∃ RT, rtx ⟨s, p, A, N, g, l⟩ = RT := ⟨_, rfl⟩
  rw [hRT] at hR ⊢
  generalize Lib.itoa s = aS at *
  generalize Lib.itoa g = aG at *
  generalize Lib.itoa l = aL at *
  generalize txt A N = aT at *
  have HR := Lib.hid hR
  clear hR hRT hx
  obtain ⟨W0, hW0⟩ : ∃ W0, w.alloc (.cells #[.int .i64 s, .bool p, .int .u32 (A : Int), .int .i64 N, .int .i64 g, .int .i64 l] 34) = W0 := ⟨_, rfl⟩
  have b0 : Below w.heap.size w W0 := by rw [← hW0]; exact below_alloc1 _ _
  have HB0 := Lib.hid b0
  have KK : Hid (∀ V, Below W0.heap.size W0 V → V.cell? ⟨w.heap.size, 0, none⟩ = some (.int .i64 s) ∧ V.cell? ⟨w.heap.size, 1, none⟩ = some (.bool p) ∧ V.cell? ⟨w.heap.size, 2, none⟩ = some (.int .u32 (A : Int)) ∧ V.cell? ⟨w.heap.size, 3, none⟩ = some (.int .i64 N) ∧ V.cell? ⟨w.heap.size, 4, none⟩ = some (.int .i64 g) ∧ V.cell? ⟨w.heap.size, 5, none⟩ = some (.int .i64 l)) := Lib.hid (fun V hV => rb_new hW0 hV)
  obtain ⟨k0, k1, k2, k3, k4, k5⟩ := KK.out _ (Below.refl _ _)
  clear b0
  go_enter Tryd.func16, Tryd.ntmps16
  go_wp2_with fail
  refine (cs _).mono ?_
  rintro e W1 ⟨rfl, hb⟩
  clear hW0 k0 k1 k2 k3 k4 k5
  obtain ⟨k0, k1, k2, k3, k4, k5⟩ := KK.out _ hb
  cases p with
  | false =>
    go_wp2_with fail
    refine (ct _).mono ?_
    rintro e V2 ⟨rfl, hbn⟩
    replace hb := hb.trans (hbn.mono hb.size)
    clear hbn k0 k1 k2 k3 k4 k5
    obtain ⟨k0, k1, k2, k3, k4, k5⟩ := KK.out _ hb
    by_cases hg : g = 0
    · have ng : (g != 0) = false := by simpa using hg
      by_cases hl : l = 0
      · have nl : (l != 0) = false := by simpa using hl
        have E : Hid (RT = _) := Lib.hid (HR.out.trans (by rw [if_pos hg, if_pos hl]))
        clear HR hg hl
        go_wp2
        go_ret
        rw [E.out]
        exact ⟨congrArg (fun s => Ending.returned (.string s)) (ByteArray.ext (by simp)), HB0.out.trans (hb.mono HB0.out.size)⟩
      · have nl : (l != 0) = true := by simpa using hl
        go_wp2_with fail
        refine (cl _).mono ?_
        rintro e V3 ⟨rfl, hbn⟩
        replace hb := hb.trans (hbn.mono hb.size)
        clear hbn k0 k1 k2 k3 k4 k5
        obtain ⟨k0, k1, k2, k3, k4, k5⟩ := KK.out _ hb
        have E : Hid (RT = _) := Lib.hid (HR.out.trans (by rw [if_pos hg, if_neg hl]))
        clear HR hg hl
        go_wp2
        go_ret
        rw [E.out]
        exact ⟨congrArg (fun s => Ending.returned (.string s)) (ByteArray.ext (by simp)), HB0.out.trans (hb.mono HB0.out.size)⟩
    · have ng : (g != 0) = true := by simpa using hg
      go_wp2_with fail
      refine (cg _).mono ?_
      rintro e V4 ⟨rfl, hbn⟩
      replace hb := hb.trans (hbn.mono hb.size)
      clear hbn k0 k1 k2 k3 k4 k5
      obtain ⟨k0, k1, k2, k3, k4, k5⟩ := KK.out _ hb
      by_cases hl : l = 0
      · have nl : (l != 0) = false := by simpa using hl
        have E : Hid (RT = _) := Lib.hid (HR.out.trans (by rw [if_neg hg, if_pos hl]))
        clear HR hg hl
        go_wp2
        go_ret
        rw [E.out]
        exact ⟨congrArg (fun s => Ending.returned (.string s)) (ByteArray.ext (by simp)), HB0.out.trans (hb.mono HB0.out.size)⟩
      · have nl : (l != 0) = true := by simpa using hl
        go_wp2_with fail
        refine (cl _).mono ?_
        rintro e V5 ⟨rfl, hbn⟩
        replace hb := hb.trans (hbn.mono hb.size)
        clear hbn k0 k1 k2 k3 k4 k5
        obtain ⟨k0, k1, k2, k3, k4, k5⟩ := KK.out _ hb
        have E : Hid (RT = _) := Lib.hid (HR.out.trans (by rw [if_neg hg, if_neg hl]))
        clear HR hg hl
        go_wp2
        go_ret
        rw [E.out]
        exact ⟨congrArg (fun s => Ending.returned (.string s)) (ByteArray.ext (by simp)), HB0.out.trans (hb.mono HB0.out.size)⟩
  | true =>
    go_wp2_with fail
    refine (cs _).mono ?_
    rintro e V6 ⟨rfl, hbn⟩
    replace hb := hb.trans (hbn.mono hb.size)
    clear hbn k0 k1 k2 k3 k4 k5
    obtain ⟨k0, k1, k2, k3, k4, k5⟩ := KK.out _ hb
    go_wp2_with fail
    refine (ct _).mono ?_
    rintro e V7 ⟨rfl, hbn⟩
    replace hb := hb.trans (hbn.mono hb.size)
    clear hbn k0 k1 k2 k3 k4 k5
    obtain ⟨k0, k1, k2, k3, k4, k5⟩ := KK.out _ hb
    by_cases hg : g = 0
    · have ng : (g != 0) = false := by simpa using hg
      by_cases hl : l = 0
      · have nl : (l != 0) = false := by simpa using hl
        have E : Hid (RT = _) := Lib.hid (HR.out.trans (by rw [if_pos hg, if_pos hl]))
        clear HR hg hl
        go_wp2
        go_ret
        rw [E.out]
        exact ⟨congrArg (fun s => Ending.returned (.string s)) (ByteArray.ext (by simp)), HB0.out.trans (hb.mono HB0.out.size)⟩
      · have nl : (l != 0) = true := by simpa using hl
        go_wp2_with fail
        refine (cl _).mono ?_
        rintro e V8 ⟨rfl, hbn⟩
        replace hb := hb.trans (hbn.mono hb.size)
        clear hbn k0 k1 k2 k3 k4 k5
        obtain ⟨k0, k1, k2, k3, k4, k5⟩ := KK.out _ hb
        have E : Hid (RT = _) := Lib.hid (HR.out.trans (by rw [if_pos hg, if_neg hl]))
        clear HR hg hl
        go_wp2
        go_ret
        rw [E.out]
        exact ⟨congrArg (fun s => Ending.returned (.string s)) (ByteArray.ext (by simp)), HB0.out.trans (hb.mono HB0.out.size)⟩
    · have ng : (g != 0) = true := by simpa using hg
      go_wp2_with fail
      refine (cg _).mono ?_
      rintro e V9 ⟨rfl, hbn⟩
      replace hb := hb.trans (hbn.mono hb.size)
      clear hbn k0 k1 k2 k3 k4 k5
      obtain ⟨k0, k1, k2, k3, k4, k5⟩ := KK.out _ hb
      by_cases hl : l = 0
      · have nl : (l != 0) = false := by simpa using hl
        have E : Hid (RT = _) := Lib.hid (HR.out.trans (by rw [if_neg hg, if_pos hl]))
        clear HR hg hl
        go_wp2
        go_ret
        rw [E.out]
        exact ⟨congrArg (fun s => Ending.returned (.string s)) (ByteArray.ext (by simp)), HB0.out.trans (hb.mono HB0.out.size)⟩
      · have nl : (l != 0) = true := by simpa using hl
        go_wp2_with fail
        refine (cl _).mono ?_
        rintro e V10 ⟨rfl, hbn⟩
        replace hb := hb.trans (hbn.mono hb.size)
        clear hbn k0 k1 k2 k3 k4 k5
        obtain ⟨k0, k1, k2, k3, k4, k5⟩ := KK.out _ hb
        have E : Hid (RT = _) := Lib.hid (HR.out.trans (by rw [if_neg hg, if_neg hl]))
        clear HR hg hl
        go_wp2
        go_ret
        rw [E.out]
        exact ⟨congrArg (fun s => Ending.returned (.string s)) (ByteArray.ext (by simp)), HB0.out.trans (hb.mono HB0.out.size)⟩
/-- A byte that is no digit, or a first 0, or a sixth one. -/
theorem nok_first {l : List UInt8} (hk : 0 < l.length) (h : l[0].toNat = 48) : nok l = false := by
  rw [Bool.eq_false_iff]
  intro h1
  apply ((nok_iff l).1 h1).2.2.1
  rw [List.getElem?_eq_getElem hk]
  congr 1
  exact UInt8.toNat_inj.1 h
theorem nok_long {l : List UInt8} (h : 5 < l.length) : nok l = false := by
  rw [Bool.eq_false_iff]
  intro h1
  have := ((nok_iff l).1 h1).2.1
  omega
set_option maxRecDepth 100000 in
set_option maxHeartbeats 1000000 in
theorem qnum_any (l : List UInt8) (w : World) (hl : l.length ≤ 4611686018427387904) : Calls Tryd.prog 45 #[.string (st l)] w fun e w' => e = .returned (.int .i64 (num l : Int)) ∧ w' = w := by
  obtain ⟨V, hV⟩ : ∃ V, num l = V := ⟨_, rfl⟩
  rw [hV]
  have HV := Lib.hid hV
  clear hV
  go_enter Tryd.func45, Tryd.ntmps45
  go_wp2
  go_loopg [3, 4] l.length (fun gf v3 v4 wx => ∃ pos : Nat, v3 = .int .i64 (val (l.take pos) : Int) ∧ v4 = .int .i64 (pos : Int) ∧ Hid (∀ (k : Nat) (h : k < l.length), k < pos → isD l[k] = true) ∧ Hid (val (l.take pos) + 1 ≤ 10 ^ pos) ∧ Hid (pos ≤ 5) ∧ Hid (1 ≤ pos → l[0]? ≠ some 48) ∧ Hid (gf + pos = l.length) ∧ wx = w)
  case atStart => exact ⟨0, by simp [val], rfl, Lib.hid (fun k h h2 => by omega), Lib.hid (by simp [val]), Lib.hid (by omega), Lib.hid (fun h => by omega), Lib.hid (by omega), rfl⟩
  case round =>
    obtain ⟨pos, hv, rfl, hD, hle, hp5, hh, hfu, hwx⟩ := hrel
    replace hwx := hwx.symm
    subst hwx
    have hfu' := hfu.out
    have hpl := hp5.out
    have hp10 : (10 : Nat) ^ pos ≤ 100000 := Nat.le_trans (Nat.pow_le_pow_right (by omega) hpl) (by decide)
    have hle' := hle.out
    have hv5 : val (l.take pos) ≤ 100000 := by omega
    cases gk with
    | zero =>
      have e1 : pos = l.length := by omega
      have lt0 : decide ((pos : Int) < (l.length : Int)) = false := by simp; omega
      have lt1 : decide (pos < l.length) = false := by simp; omega
      have e : l.take pos = l := List.take_of_length_le (by omega)
      have E1 : Hid (V = val l) := Lib.hid (by
        rw [← HV.out]
        rcases Nat.eq_zero_or_pos l.length with q | q
        · obtain rfl := List.eq_nil_of_length_eq_zero q
          rfl
        · rw [num, if_pos]
          refine (nok_iff l).2 ⟨List.length_pos_iff.1 q, by omega, hh.out (by omega), fun c hc => ?_⟩
          obtain ⟨k, hk, rfl⟩ := List.getElem_of_mem hc
          exact hD.out k hk (by omega))
      rw [e] at hv
      subst hv
      clear hD hle hp10 hfu hfu' e e1 hle' hv5
      go_wp2
      go_ret
      exact ⟨by rw [E1.out]; rfl, rfl⟩
    | succ gf =>
      have hps : pos < l.length := by omega
      have lt0 : (pos : Int) < (l.length : Int) := by omega
      have lt9 : (pos : Int) + 1 ≤ 10000 := by omega
      have hix := idx_st w l pos hps
      have ht := val_take l pos hps
      subst hv
      have hbad : isD l[pos] = false → V = 0 := fun h => by rw [← HV.out]; exact num_bad (nok_no hps h)
      have hz : pos = 0 → l[pos].toNat = 48 → V = 0 := fun h1 h2 => by
        subst h1
        rw [← HV.out]
        exact num_bad (nok_first hps h2)
      have hlong : 4 < pos → V = 0 := fun h => by
        rw [← HV.out]
        exact num_bad (nok_long (by omega))
      have hc := UInt8.toNat_lt l[pos]
      have HD2 : Hid (isD l[pos] = true → ∀ (k : Nat) (h : k < l.length), k < pos + 1 → isD l[k] = true) := Lib.hid (fun hd k h h2 => by
        rcases Nat.lt_or_ge k pos with q | q
        · exact hD.out k h q
        · obtain rfl : k = pos := by omega
          exact hd)
      have HH2 : Hid (¬ (pos = 0 ∧ l[pos].toNat = 48) → l[0]? ≠ some 48) := Lib.hid (fun h => by
        rcases Nat.eq_zero_or_pos pos with q | q
        · subst q
          rw [List.getElem?_eq_getElem hps]
          intro h2
          apply h
          rw [Option.some.inj h2]
          exact ⟨rfl, rfl⟩
        · exact hh.out q)
      have hid : isD l[pos] = decide (48 ≤ l[pos].toNat ∧ l[pos].toNat ≤ 57) := rfl
      obtain ⟨b, hbq⟩ : ∃ b, isD l[pos] = b := ⟨_, rfl⟩
      rw [hbq] at hid hbad HD2
      have HLE : Hid (l[pos].toNat ≤ 57 → 48 ≤ l[pos].toNat → val (l.take (pos + 1)) + 1 ≤ 10 ^ (pos + 1)) := Lib.hid (fun h1 h2 => by rw [ht, Nat.pow_succ]; omega)
      have HT := Lib.hid ht
      generalize HV1 : val (l.take (pos + 1)) = v1 at *
      have HV2 := Lib.hid HV1
      clear HV1 ht hle' hp10 hbq
      generalize val (l.take pos) = v0 at *
      generalize l[pos].toNat = d at *
      clear hD hle hps hfu hp5 hh
      by_cases q1 : d < 48
      · have e9 : V = 0 := hbad (by rw [hid]; simp; omega)
        subst e9
        have q1' : (d : Int) < 48 := by omega
        clear hid hbad hz hlong HD2 HH2 HLE
        go_wp2
        go_ret
        exact ⟨rfl, rfl⟩
      · by_cases q2 : 57 < d
        · have e9 : V = 0 := hbad (by rw [hid]; simp; omega)
          subst e9
          have q1' : ¬ ((d : Int) < 48) := by omega
          have q2' : (d : Int) > 57 := by omega
          clear hid hbad hz hlong HD2 HH2 HLE
          go_wp2
          go_ret
          exact ⟨rfl, rfl⟩
        · have hb1 : b = true := by rw [hid]; simp; omega
          have q1' : ¬ ((d : Int) < 48) := by omega
          have q2' : ¬ ((d : Int) > 57) := by omega
          have HD3 : Hid (∀ (k : Nat) (h : k < l.length), k < pos + 1 → isD l[k] = true) := Lib.hid (HD2.out hb1)
          have HLE3 := Lib.hid (HLE.out (by omega) (by omega))
          have hsub : (d : Int) - 48 ≤ 9 := by omega
          by_cases q3 : pos = 0
          · subst q3
            rw [show (((0 : Nat)) : Int) = 0 from rfl] at hix
            by_cases q4 : d = 48
            · have e9 : V = 0 := hz rfl q4
              subst e9
              have n4 : ((d : Int) == 48) = true := by simp; omega
              clear hid hbad hz hlong HD2 HH2 HLE
              go_wp2
              go_ret
              exact ⟨rfl, rfl⟩
            · have n4 : ((d : Int) == 48) = false := by simp; omega
              have HH3 := Lib.hid (HH2.out (by omega))
              clear hid hbad hz hlong HD2 HH2 HLE
              go_wp2
              go_roundg gf
              case measure => omega
              case rel => exact ⟨0 + 1, by rw [HV2.out, HT.out]; exact val_int (by omega), by go_num, HD3, by rw [HV2.out]; exact HLE3, Lib.hid (by omega), Lib.hid (fun _ => HH3.out), Lib.hid (by omega), rfl⟩
          · have n3 : ((pos : Int) == 0) = false := by simp; omega
            have HH3 := Lib.hid (HH2.out (by omega))
            by_cases q4 : 4 < pos
            · have e9 : V = 0 := hlong q4
              subst e9
              have n4 : (pos : Int) > 4 := by omega
              clear hid hbad hz hlong HD2 HH2 HLE
              go_wp2
              go_ret
              exact ⟨rfl, rfl⟩
            · have n4 : ¬ ((pos : Int) > 4) := by omega
              clear hid hbad hz hlong HD2 HH2 HLE
              go_wp2
              go_roundg gf
              case measure => omega
              case rel => exact ⟨pos + 1, by rw [HV2.out, HT.out]; exact val_int (by omega), by go_num, HD3, by rw [HV2.out]; exact HLE3, Lib.hid (by omega), Lib.hid (fun _ => HH3.out), Lib.hid (by omega), rfl⟩
end Go.Proofs.YtkofpijhihghpaaDoor
