/-
  The walk of the law TrieLongest. No statement is proved here; no conditions.
-/
import Derived.Test.YtlmcgjdenfnkmaaLaid
namespace Go.Proofs.Ytlmcgjdenfnkmaa
open Go.RowKit Go.Joins

theorem Ls.drew {w0 w : World} {tb : Nat} {mt mr : List En} {A : Option Addr} {S : Nat → Prop} (h : Ls w0 tb mt mr A S w) : Ls w0 tb mt mr A S w.drew := ⟨h.tz.below (below_draws _ w 1), h.own, h.row, h.bel.trans (below_draws _ w 1)⟩
/-- Is it among the first ones? -/
def isin (M : List En) (k : Nat) (z : En) : Bool := decide (z ∈ M.take k)
theorem isin_succ {M : List En} {k : Nat} (hk : k < M.length) (z : En) : isin M (k + 1) z = (isin M k z || decide (ge M k = z)) := by
  unfold isin
  rw [Bool.eq_iff_iff]
  simp only [decide_eq_true_eq, Bool.or_eq_true, mem_take_succ hk]
  constructor
  · rintro (h | h)
    · exact .inl h
    · exact .inr h.symm
  · rintro (h | h)
    · exact .inl h
    · exact .inr h.symm
set_option maxRecDepth 100000 in
set_option maxHeartbeats 4000000 in
theorem longest_walk (A0 : Option Addr) (c : Nat) (s : List Ac) (a : Nat) (w : World) (hs : Sc (· < w.heap.size) w A0 s) (ha : a < 4294967296) :
    Calls Try.prog 5 #[.slice A0 s.length c, .int .u32 (a : Int)] w fun e w' => e = .returned (.bool true) ∧ Below w.heap.size w w' := by
  have HS : Hid (∀ V, Below w.heap.size w V → Sc (· < w.heap.size) V A0 s) := Lib.hid (fun V hV => hs.below hV (fun _ h => h))
  obtain ⟨sn, hsn⟩ : ∃ sn, s.length = sn := ⟨_, rfl⟩
  obtain ⟨n, hn⟩ : ∃ n, min sn 150 = n := ⟨_, rfl⟩
  have HSN := Lib.hid hsn
  have hn1 : n ≤ sn := by omega
  have hn2 : n ≤ 150 := by omega
  have HN := Lib.hid hn
  rw [hsn]
  clear hs hsn hn
  go_enter Try.func5, Try.ntmps5
  go_wp2_with fail
  refine (new_any _).mono ?_
  rintro e W1 ⟨rfl, b1, s1, t1⟩
  have L1 := Lib.hid (Ls.start w t1 b1 s1 none)
  obtain ⟨tb, htb⟩ : ∃ tb, w.heap.size = tb := ⟨_, rfl⟩
  have HTB := Lib.hid htb
  rw [htb]
  clear b1 t1 s1 htb
  go_wp2_with fail
  go_loopg [6] n (fun gf v6 wx => ∃ (k : Nat), v6 = .int .i64 (k : Int) ∧ Hid (gf + k = n) ∧ Hid ((mk6 s k).length ≤ k) ∧ Hid (∃ S, Ls w tb (mk6 s k) [] none S wx))
  case atStart => exact ⟨0, rfl, Lib.hid (by omega), Lib.hid (by simp [mk6_zero]), Lib.hid ⟨_, by have := L1.out; rw [mk6_zero, ← HTB.out]; exact this⟩⟩
  case round =>
    obtain ⟨k, rfl, hk, hMl, hL⟩ := hrel
    have hk' := hk.out
    clear L1
    cases gk with
    | zero =>
      have e1 : k = n := by omega
      obtain ⟨M, hM⟩ : ∃ M, mk6 s k = M := ⟨_, rfl⟩
      obtain ⟨S, hL⟩ := hL.out
      have hMl' := hMl.out
      rw [hM] at hL hMl'
      have hM150 : M.length ≤ 150 := by omega
      have HL := Lib.hid hL
      clear hL hMl hM hMl' HS HTB
      by_cases hq : k < sn
      · have lt0 : (k : Int) < (sn : Int) := by omega
        have h150 : k = 150 := by have := HN.out; omega
        have lt2 : decide ((k : Int) < 150) = false := by simp; omega
        clear e1 hk' hk h150
        have cf := find_any S tb a M wr HL.out.tz ha
        obtain ⟨o, ho⟩ : ∃ o, (abv M a 32).getLast? = o := ⟨_, rfl⟩
        have hfd := abv_fnd HL.out.tz.om a
        rw [ho] at cf hfd
        have HF := Lib.hid hfd
        have HO := Lib.hid ho
        clear hfd ho
        obtain ⟨z, hz⟩ : ∃ z, o.getD zen = z := ⟨_, rfl⟩
        have HZ := Lib.hid hz
        rw [show fdv o = .tuple #[ev z, .bool o.isSome] by rw [← hz]; cases o <;> rfl] at cf
        clear hz
        go_wp2_with fail
        refine cf.mono ?_
        rintro e V1 ⟨rfl, hb1⟩
        have HL1 := Lib.hid (HL.out.below hb1)
        obtain ⟨V2, V3, hV2, ⟨y0, y1, y2, f0, f1, f2⟩, hV3, hx3, hb3⟩ := stored (z.A : Int) z.N z.V V1
        have HL3 := Lib.hid (HL1.out.below hb3)
        have cw := walk_any S tb M V3 HL3.out.tz (by omega)
        have HX3 := Lib.hid hx3
        obtain ⟨xb, hxb⟩ : ∃ xb, V1.heap.size = xb := ⟨_, rfl⟩
        rw [hxb] at HX3 hV3 y0 y1 y2 f0 f1 f2
        clear cf hb1 hx3 hb3 HL HL1
        go_wp2_with fail
        refine cw.mono ?_
        rintro e V4 ⟨A4, c4, rfl, ho4, hb4⟩
        have HL4 := Lib.hid (HL3.out.below hb4)
        have HX4 := Lib.hid ((hb4.block _ (lt_of_block HX3.out)).trans HX3.out)
        have HR4 := Lib.hid ho4.rd
        obtain ⟨mn, hmn⟩ : ∃ mn, M.length = mn := ⟨_, rfl⟩
        have HMN := Lib.hid hmn
        rw [hmn] at hM150
        rw [hmn]
        clear cw ho4 hb4 hV2 hV3 y0 y1 y2 f0 f1 f2 HL3 HX3 hmn hxb
        go_wp2_with fail
        go_loopg [10, 11] mn (fun gf v10 v11 wx => ∃ (k : Nat) (th : Bool), v10 = .bool th ∧ v11 = .int .i64 (k : Int) ∧ Hid (gf + k = mn) ∧ Hid (th = isin M k z) ∧ Hid (Below V4.heap.size V4 wx))
        case atStart => exact ⟨0, false, rfl, rfl, Lib.hid (by omega), Lib.hid (by simp [isin]), Lib.hid (Below.refl _ _)⟩
        case round =>
          obtain ⟨k, th, rfl, rfl, hk, hth, hb⟩ := hrel
          have hk' := hk.out
          cases gk with
          | zero =>
            have e1 : k = mn := by omega
            have lt0 : decide ((k : Int) < (mn : Int)) = false := by simp; omega
            have lt1 : decide (k < mn) = false := by simp; omega
            have HL5 := Lib.hid (HL4.out.below hb.out)
            have hx5 := (hb.out.block _ (lt_of_block HX4.out)).trans HX4.out
            have HX5 := Lib.hid hx5
            have ca := above_any S tb a 32 M wr HL5.out.tz ha
            have hthz : o.isSome = true → th = true := fun h => by
              rw [hth.out, e1, ← HMN.out]
              unfold isin
              rw [List.take_length, decide_eq_true_eq]
              obtain ⟨y, hy⟩ := Option.isSome_iff_exists.1 h
              have h1 := HF.out
              have h2 := HZ.out
              rw [hy] at h1 h2
              rw [← h2]
              exact h1.1
            have HTH := Lib.hid hthz
            clear e1 hk' hk hb hth hthz hx5 HX4 HR4 HL4 HMN
            go_wp2_with fail
            refine ca.mono ?_
            rintro e V6 ⟨A6, c6, rfl, ho6, hb6⟩
            have HL6 := Lib.hid (HL5.out.below hb6)
            have hx6 := (hb6.block _ (lt_of_block HX5.out)).trans HX5.out
            obtain ⟨b0, b1, b2, _⟩ := blk3 hx6
            clear ca hb6 HL5 HX5
            cases o with
            | none =>
              have hU : abv M a 32 = [] := List.getLast?_eq_none_iff.1 HO.out
              have hz0 : z = zen := HZ.out.symm
              subst hz0
              rw [hU] at ho6 ⊢
              simp only [List.length_nil, Option.isSome_none] at b0 b1 b2 ⊢
              clear hU ho6
              go_wp2_with fail
              go_quiet (fail)
              have HL7 := Lib.hid (HL6.out.below (below_draws _ V6 nq))
              have b0' : (V6.drewN nq).cell? ⟨xb, 0, none⟩ = some (.int .u32 0) := b0
              have b1' : (V6.drewN nq).cell? ⟨xb, 1, none⟩ = some (.int .i64 0) := b1
              have b2' : (V6.drewN nq).cell? ⟨xb, 2, none⟩ = some (.int .i64 0) := b2
              have hx7 : (V6.drewN nq).heap[xb]? = some (.cells #[.int .u32 0, .int .i64 0, .int .i64 0] 39 (0, 0)) := hx6
              clear b0 b1 b2 HL6 hx6
              generalize V6.drewN nq = V7 at *
              go_wp2_with fail
              refine (alive_any _).mono ?_
              rintro e V8 ⟨rfl, hb8⟩
              have bb := (HL7.out.below hb8).bel
              obtain ⟨d0, d1, d2, _⟩ := blk3 ((hb8.block _ (lt_of_block hx7)).trans hx7)
              clear hb8 HL7 b0' b1' b2' hx7
              go_wp2
              go_ret
              exact ⟨rfl, bb⟩
            | some y =>
              have hz0 : z = y := HZ.out.symm
              subst hz0
              obtain ⟨U, hU⟩ := List.getLast?_eq_some_iff.1 HO.out
              have hul : (abv M a 32).length = U.length + 1 := by rw [hU]; simp
              have hu33 := abv_len HL6.out.tz.om (N := 32) ha
              obtain ⟨bu, ou, hA6, _, _, u0, u1, u2⟩ := ho6.rd.entry (i := U.length) (by omega)
              have hge : ge (abv M a 32) U.length = z := by rw [ge_eq (by omega)]; simp [hU]
              rw [hge] at u0 u1 u2
              subst hA6
              have hth := HTH.out rfl
              subst hth
              have hzA : z.A < 4294967296 := HL6.out.tz.om.lt z HF.out.1
              have cc := fun W => rhas_any z.A z.N a W hzA ha
              rw [HF.out.2.1] at cc
              obtain ⟨un, hun⟩ : ∃ un, U.length = un := ⟨_, rfl⟩
              rw [hul]
              rw [hun] at u0 u1 u2 hul ⊢
              have hun33 : un ≤ 33 := by omega
              simp only [Option.isSome_some]
              have hwu : IntKind.i64.wrap (un : Int) = (un : Int) := by rw [IntKind.wrap_i64]; omega
              have g0 := cell_regrown b0
              have g1 := cell_regrown b1
              have g2 := cell_regrown b2
              have g3 := cell_regrown u0
              have g4 := cell_regrown u1
              have g5 := cell_regrown u2
              have x1 : ∀ d os, _ := fun d os => Calls.regrown_of (w := V6) (d := d) (os := os) (cc _)
              have hgt : decide (((un : Int) + 1) > 0) = true := by simp <;> omega
              clear hU hul hu33 hge ho6 hun cc b0 b1 b2 u0 u1 u2
              go_wp2_with fail
              refine wp_region_quiet_below (by kernel_rfl) (by kernel_rfl) ?_
              iterate 24 (go_big_quiet_step (fail))
              go_big_quiet_step (with_reducible exact x1 _ _)
              iterate 4 (go_big_quiet_step (fail))
              refine wpQuiet_nil ?_
              intro V7 hw'
              obtain ⟨⟨dq, osq⟩, hw''⟩ := hw'
              have hbW := below_regrown V6 dq osq
              rw [← hw''] at hbW
              have HL7 := Lib.hid (HL6.out.below hbW)
              clear hw'' g0 g1 g2 g3 g4 g5 x1 hbW HL6 hx6
              go_wp2_with fail
              refine (alive_any _).mono ?_
              rintro e V8 ⟨rfl, hb8⟩
              have bb := (HL7.out.below hb8).bel
              clear hb8 HL7
              go_wp2
              go_ret
              exact ⟨rfl, bb⟩
          | succ gf =>
            have hkl : k < M.length := by rw [HMN.out]; omega
            have lt0 : (k : Int) < (mn : Int) := by omega
            obtain ⟨b, off, hA4, _, _, e0, e1, e2⟩ := (HR4.out.keep hb.out.size (fun j _ hj => hb.out.block j hj)).entry hkl
            obtain ⟨b0, b1, b2, _⟩ := blk3 ((hb.out.block _ (lt_of_block HX4.out)).trans HX4.out)
            have hym := ge_mem hkl
            have hyA := HL4.out.tz.om.lt _ hym
            have his := isin_succ hkl z
            rw [← hth.out] at his
            obtain ⟨y, hy⟩ : ∃ y, ge M k = y := ⟨_, rfl⟩
            rw [hy] at e0 e1 e2 hym hyA his
            have HYM := Lib.hid hym
            subst hA4
            have hw1 : (k : Int) + 1 ≤ 10000 := by omega
            have cc := fun W => rhas_any y.A y.N a W hyA ha
            obtain ⟨th2, hth2⟩ : ∃ th2, (th || decide (y = z)) = th2 := ⟨_, rfl⟩
            have NTH : Hid (th2 = isin M (k + 1) z) := Lib.hid (by rw [his, hth2])
            have HY := Lib.hid hy
            have HKL := Lib.hid hkl
            clear hkl hy hym his
            go_upto_region 16 with fail
            go_cut [10] (fun s10 wx => s10 = .bool th2 ∧ Hid (Below V4.heap.size V4 wx))
            case first =>
              cases th with
              | true =>
                have hth3 : th2 = true := by rw [← hth2]; rfl
                subst hth3
                clear hth2
                go_quiet (fail)
                go_wp2_with fail
                go_meet
                exact ⟨rfl, Lib.hid (hb.out.trans (below_draws _ wr nq))⟩
              | false =>
                rw [Bool.false_or] at hth2
                obtain ⟨yA, yN, yV⟩ := y
                obtain ⟨zA, zN, zV⟩ := z
                simp only at e0 e1 e2 b0 b1 b2
                by_cases q1 : yA = zA
                · by_cases q2 : yN = zN
                  · by_cases q3 : yV = zV
                    · have n1 := nat_beqt q1
                      have n2 : (yN == zN) = true := by simpa using q2
                      have n3 : (yV == zV) = true := by simpa using q3
                      have hth3 : th2 = true := by rw [← hth2, q1, q2, q3]; simp
                      subst hth3
                      clear hth2 q1 q2 q3
                      go_quiet (fail)
                      go_wp2_with fail
                      go_meet
                      exact ⟨rfl, Lib.hid (hb.out.trans (below_draws _ wr nq))⟩
                    · have n1 := nat_beqt q1
                      have n2 : (yN == zN) = true := by simpa using q2
                      have n3 := int_beq q3
                      have hth3 : th2 = false := by rw [← hth2]; simp [q3]
                      subst hth3
                      clear hth2 q1 q2 q3
                      go_quiet (fail)
                      go_wp2_with fail
                      go_meet
                      exact ⟨rfl, Lib.hid (hb.out.trans (below_draws _ wr nq))⟩
                  · have n1 := nat_beqt q1
                    have n2 := int_beq q2
                    have hth3 : th2 = false := by rw [← hth2]; simp [q2]
                    subst hth3
                    clear hth2 q1 q2
                    go_quiet (fail)
                    go_wp2_with fail
                    go_meet
                    exact ⟨rfl, Lib.hid (hb.out.trans (below_draws _ wr nq))⟩
                · have n1 := nat_beq q1
                  have hth3 : th2 = false := by rw [← hth2]; simp [q1]
                  subst hth3
                  clear hth2 q1
                  go_quiet (fail)
                  go_wp2_with fail
                  go_meet
                  exact ⟨rfl, Lib.hid (hb.out.trans (below_draws _ wr nq))⟩
            case rest =>
              obtain ⟨rfl, hb2⟩ := hcut
              have hb' := hb2.out
              clear e0 e1 e2 b0 b1 b2 hb hb2 hth2 hth
              obtain ⟨b', off', heq, _, _, e0, e1, e2⟩ := (HR4.out.keep hb'.size (fun j _ hj => hb'.block j hj)).entry HKL.out
              simp only [Option.some.injEq, Addr.mk.injEq] at heq
              obtain ⟨rfl, rfl, _⟩ := heq
              rw [HY.out] at e0 e1 e2
              obtain ⟨b0, b1, b2, _⟩ := blk3 ((hb'.block _ (lt_of_block HX4.out)).trans HX4.out)
              cases hc : hasp y.A y.N a with
              | false =>
                rw [hc] at cc
                clear hc
                have g0 := cell_regrown e0
                have g1 := cell_regrown e1
                have x1 : ∀ d os, _ := fun d os => Calls.regrown_of (w := wc) (d := d) (os := os) (cc _)
                go_wp2_with fail
                refine wp_region_quiet_below (by kernel_rfl) (by kernel_rfl) ?_
                iterate 6 (go_big_quiet_step (fail))
                go_big_quiet_step (with_reducible exact x1 _ _)
                iterate 16 (go_big_quiet_step (fail))
                refine wpQuiet_nil ?_
                intro wz hw'
                obtain ⟨⟨dq, osq⟩, hw''⟩ := hw'
                have hbW := below_regrown wc dq osq
                rw [← hw''] at hbW
                have HB4 := Lib.hid (hb'.trans (hbW.mono hb'.size))
                clear hw'' g0 g1 x1 e0 e1 e2 b0 b1 b2 hbW hb' cc
                go_wp2
                go_roundg gf
                case measure => omega
                case rel => exact ⟨k + 1, th2, rfl, by go_num, Lib.hid (by omega), NTH, HB4⟩
              | true =>
                rw [hc] at cc
                cases o with
                | none => exact absurd hc (by rw [HF.out y HYM.out]; simp)
                | some z' =>
                  have hzz : z = z' := HZ.out.symm
                  have n1 : decide (y.N > z.N) = false := by
                    have := HF.out.2.2 y HYM.out hc
                    rw [← hzz] at this
                    simpa using this
                  simp only [Option.isSome_some]
                  clear hc hzz
                  have g0 := cell_regrown e0
                  have g1 := cell_regrown e1
                  have g2 := cell_regrown b1
                  have x1 : ∀ d os, _ := fun d os => Calls.regrown_of (w := wc) (d := d) (os := os) (cc _)
                  go_wp2_with fail
                  refine wp_region_quiet_below (by kernel_rfl) (by kernel_rfl) ?_
                  iterate 6 (go_big_quiet_step (fail))
                  go_big_quiet_step (with_reducible exact x1 _ _)
                  iterate 16 (go_big_quiet_step (fail))
                  refine wpQuiet_nil ?_
                  intro wz hw'
                  obtain ⟨⟨dq, osq⟩, hw''⟩ := hw'
                  have hbW := below_regrown wc dq osq
                  rw [← hw''] at hbW
                  have HB4 := Lib.hid (hb'.trans (hbW.mono hb'.size))
                  clear hw'' g0 g1 x1 e0 e1 e2 b0 b1 b2 hbW hb' cc g2
                  go_wp2
                  go_roundg gf
                  case measure => omega
                  case rel => exact ⟨k + 1, th2, rfl, by go_num, Lib.hid (by omega), NTH, HB4⟩
      · have lt0 : decide ((k : Int) < (sn : Int)) = false := by simp; omega
        have lt1 : decide (k < sn) = false := by simp; omega
        clear e1 hk' hk hq
        have cf := find_any S tb a M wr HL.out.tz ha
        obtain ⟨o, ho⟩ : ∃ o, (abv M a 32).getLast? = o := ⟨_, rfl⟩
        have hfd := abv_fnd HL.out.tz.om a
        rw [ho] at cf hfd
        have HF := Lib.hid hfd
        have HO := Lib.hid ho
        clear hfd ho
        obtain ⟨z, hz⟩ : ∃ z, o.getD zen = z := ⟨_, rfl⟩
        have HZ := Lib.hid hz
        rw [show fdv o = .tuple #[ev z, .bool o.isSome] by rw [← hz]; cases o <;> rfl] at cf
        clear hz
        go_wp2_with fail
        refine cf.mono ?_
        rintro e V1 ⟨rfl, hb1⟩
        have HL1 := Lib.hid (HL.out.below hb1)
        obtain ⟨V2, V3, hV2, ⟨y0, y1, y2, f0, f1, f2⟩, hV3, hx3, hb3⟩ := stored (z.A : Int) z.N z.V V1
        have HL3 := Lib.hid (HL1.out.below hb3)
        have cw := walk_any S tb M V3 HL3.out.tz (by omega)
        have HX3 := Lib.hid hx3
        obtain ⟨xb, hxb⟩ : ∃ xb, V1.heap.size = xb := ⟨_, rfl⟩
        rw [hxb] at HX3 hV3 y0 y1 y2 f0 f1 f2
        clear cf hb1 hx3 hb3 HL HL1
        go_wp2_with fail
        refine cw.mono ?_
        rintro e V4 ⟨A4, c4, rfl, ho4, hb4⟩
        have HL4 := Lib.hid (HL3.out.below hb4)
        have HX4 := Lib.hid ((hb4.block _ (lt_of_block HX3.out)).trans HX3.out)
        have HR4 := Lib.hid ho4.rd
        obtain ⟨mn, hmn⟩ : ∃ mn, M.length = mn := ⟨_, rfl⟩
        have HMN := Lib.hid hmn
        rw [hmn] at hM150
        rw [hmn]
        clear cw ho4 hb4 hV2 hV3 y0 y1 y2 f0 f1 f2 HL3 HX3 hmn hxb
        go_wp2_with fail
        go_loopg [10, 11] mn (fun gf v10 v11 wx => ∃ (k : Nat) (th : Bool), v10 = .bool th ∧ v11 = .int .i64 (k : Int) ∧ Hid (gf + k = mn) ∧ Hid (th = isin M k z) ∧ Hid (Below V4.heap.size V4 wx))
        case atStart => exact ⟨0, false, rfl, rfl, Lib.hid (by omega), Lib.hid (by simp [isin]), Lib.hid (Below.refl _ _)⟩
        case round =>
          obtain ⟨k, th, rfl, rfl, hk, hth, hb⟩ := hrel
          have hk' := hk.out
          cases gk with
          | zero =>
            have e1 : k = mn := by omega
            have lt0 : decide ((k : Int) < (mn : Int)) = false := by simp; omega
            have lt1 : decide (k < mn) = false := by simp; omega
            have HL5 := Lib.hid (HL4.out.below hb.out)
            have hx5 := (hb.out.block _ (lt_of_block HX4.out)).trans HX4.out
            have HX5 := Lib.hid hx5
            have ca := above_any S tb a 32 M wr HL5.out.tz ha
            have hthz : o.isSome = true → th = true := fun h => by
              rw [hth.out, e1, ← HMN.out]
              unfold isin
              rw [List.take_length, decide_eq_true_eq]
              obtain ⟨y, hy⟩ := Option.isSome_iff_exists.1 h
              have h1 := HF.out
              have h2 := HZ.out
              rw [hy] at h1 h2
              rw [← h2]
              exact h1.1
            have HTH := Lib.hid hthz
            clear e1 hk' hk hb hth hthz hx5 HX4 HR4 HL4 HMN
            go_wp2_with fail
            refine ca.mono ?_
            rintro e V6 ⟨A6, c6, rfl, ho6, hb6⟩
            have HL6 := Lib.hid (HL5.out.below hb6)
            have hx6 := (hb6.block _ (lt_of_block HX5.out)).trans HX5.out
            obtain ⟨b0, b1, b2, _⟩ := blk3 hx6
            clear ca hb6 HL5 HX5
            cases o with
            | none =>
              have hU : abv M a 32 = [] := List.getLast?_eq_none_iff.1 HO.out
              have hz0 : z = zen := HZ.out.symm
              subst hz0
              rw [hU] at ho6 ⊢
              simp only [List.length_nil, Option.isSome_none] at b0 b1 b2 ⊢
              clear hU ho6
              go_wp2_with fail
              go_quiet (fail)
              have HL7 := Lib.hid (HL6.out.below (below_draws _ V6 nq))
              have b0' : (V6.drewN nq).cell? ⟨xb, 0, none⟩ = some (.int .u32 0) := b0
              have b1' : (V6.drewN nq).cell? ⟨xb, 1, none⟩ = some (.int .i64 0) := b1
              have b2' : (V6.drewN nq).cell? ⟨xb, 2, none⟩ = some (.int .i64 0) := b2
              have hx7 : (V6.drewN nq).heap[xb]? = some (.cells #[.int .u32 0, .int .i64 0, .int .i64 0] 39 (0, 0)) := hx6
              clear b0 b1 b2 HL6 hx6
              generalize V6.drewN nq = V7 at *
              go_wp2_with fail
              refine (alive_any _).mono ?_
              rintro e V8 ⟨rfl, hb8⟩
              have bb := (HL7.out.below hb8).bel
              obtain ⟨d0, d1, d2, _⟩ := blk3 ((hb8.block _ (lt_of_block hx7)).trans hx7)
              clear hb8 HL7 b0' b1' b2' hx7
              go_wp2
              go_ret
              exact ⟨rfl, bb⟩
            | some y =>
              have hz0 : z = y := HZ.out.symm
              subst hz0
              obtain ⟨U, hU⟩ := List.getLast?_eq_some_iff.1 HO.out
              have hul : (abv M a 32).length = U.length + 1 := by rw [hU]; simp
              have hu33 := abv_len HL6.out.tz.om (N := 32) ha
              obtain ⟨bu, ou, hA6, _, _, u0, u1, u2⟩ := ho6.rd.entry (i := U.length) (by omega)
              have hge : ge (abv M a 32) U.length = z := by rw [ge_eq (by omega)]; simp [hU]
              rw [hge] at u0 u1 u2
              subst hA6
              have hth := HTH.out rfl
              subst hth
              have hzA : z.A < 4294967296 := HL6.out.tz.om.lt z HF.out.1
              have cc := fun W => rhas_any z.A z.N a W hzA ha
              rw [HF.out.2.1] at cc
              obtain ⟨un, hun⟩ : ∃ un, U.length = un := ⟨_, rfl⟩
              rw [hul]
              rw [hun] at u0 u1 u2 hul ⊢
              have hun33 : un ≤ 33 := by omega
              simp only [Option.isSome_some]
              have hwu : IntKind.i64.wrap (un : Int) = (un : Int) := by rw [IntKind.wrap_i64]; omega
              have g0 := cell_regrown b0
              have g1 := cell_regrown b1
              have g2 := cell_regrown b2
              have g3 := cell_regrown u0
              have g4 := cell_regrown u1
              have g5 := cell_regrown u2
              have x1 : ∀ d os, _ := fun d os => Calls.regrown_of (w := V6) (d := d) (os := os) (cc _)
              have hgt : decide (((un : Int) + 1) > 0) = true := by simp <;> omega
              clear hU hul hu33 hge ho6 hun cc b0 b1 b2 u0 u1 u2
              go_wp2_with fail
              refine wp_region_quiet_below (by kernel_rfl) (by kernel_rfl) ?_
              iterate 24 (go_big_quiet_step (fail))
              go_big_quiet_step (with_reducible exact x1 _ _)
              iterate 4 (go_big_quiet_step (fail))
              refine wpQuiet_nil ?_
              intro V7 hw'
              obtain ⟨⟨dq, osq⟩, hw''⟩ := hw'
              have hbW := below_regrown V6 dq osq
              rw [← hw''] at hbW
              have HL7 := Lib.hid (HL6.out.below hbW)
              clear hw'' g0 g1 g2 g3 g4 g5 x1 hbW HL6 hx6
              go_wp2_with fail
              refine (alive_any _).mono ?_
              rintro e V8 ⟨rfl, hb8⟩
              have bb := (HL7.out.below hb8).bel
              clear hb8 HL7
              go_wp2
              go_ret
              exact ⟨rfl, bb⟩
          | succ gf =>
            have hkl : k < M.length := by rw [HMN.out]; omega
            have lt0 : (k : Int) < (mn : Int) := by omega
            obtain ⟨b, off, hA4, _, _, e0, e1, e2⟩ := (HR4.out.keep hb.out.size (fun j _ hj => hb.out.block j hj)).entry hkl
            obtain ⟨b0, b1, b2, _⟩ := blk3 ((hb.out.block _ (lt_of_block HX4.out)).trans HX4.out)
            have hym := ge_mem hkl
            have hyA := HL4.out.tz.om.lt _ hym
            have his := isin_succ hkl z
            rw [← hth.out] at his
            obtain ⟨y, hy⟩ : ∃ y, ge M k = y := ⟨_, rfl⟩
            rw [hy] at e0 e1 e2 hym hyA his
            have HYM := Lib.hid hym
            subst hA4
            have hw1 : (k : Int) + 1 ≤ 10000 := by omega
            have cc := fun W => rhas_any y.A y.N a W hyA ha
            obtain ⟨th2, hth2⟩ : ∃ th2, (th || decide (y = z)) = th2 := ⟨_, rfl⟩
            have NTH : Hid (th2 = isin M (k + 1) z) := Lib.hid (by rw [his, hth2])
            have HY := Lib.hid hy
            have HKL := Lib.hid hkl
            clear hkl hy hym his
            go_upto_region 16 with fail
            go_cut [10] (fun s10 wx => s10 = .bool th2 ∧ Hid (Below V4.heap.size V4 wx))
            case first =>
              cases th with
              | true =>
                have hth3 : th2 = true := by rw [← hth2]; rfl
                subst hth3
                clear hth2
                go_quiet (fail)
                go_wp2_with fail
                go_meet
                exact ⟨rfl, Lib.hid (hb.out.trans (below_draws _ wr nq))⟩
              | false =>
                rw [Bool.false_or] at hth2
                obtain ⟨yA, yN, yV⟩ := y
                obtain ⟨zA, zN, zV⟩ := z
                simp only at e0 e1 e2 b0 b1 b2
                by_cases q1 : yA = zA
                · by_cases q2 : yN = zN
                  · by_cases q3 : yV = zV
                    · have n1 := nat_beqt q1
                      have n2 : (yN == zN) = true := by simpa using q2
                      have n3 : (yV == zV) = true := by simpa using q3
                      have hth3 : th2 = true := by rw [← hth2, q1, q2, q3]; simp
                      subst hth3
                      clear hth2 q1 q2 q3
                      go_quiet (fail)
                      go_wp2_with fail
                      go_meet
                      exact ⟨rfl, Lib.hid (hb.out.trans (below_draws _ wr nq))⟩
                    · have n1 := nat_beqt q1
                      have n2 : (yN == zN) = true := by simpa using q2
                      have n3 := int_beq q3
                      have hth3 : th2 = false := by rw [← hth2]; simp [q3]
                      subst hth3
                      clear hth2 q1 q2 q3
                      go_quiet (fail)
                      go_wp2_with fail
                      go_meet
                      exact ⟨rfl, Lib.hid (hb.out.trans (below_draws _ wr nq))⟩
                  · have n1 := nat_beqt q1
                    have n2 := int_beq q2
                    have hth3 : th2 = false := by rw [← hth2]; simp [q2]
                    subst hth3
                    clear hth2 q1 q2
                    go_quiet (fail)
                    go_wp2_with fail
                    go_meet
                    exact ⟨rfl, Lib.hid (hb.out.trans (below_draws _ wr nq))⟩
                · have n1 := nat_beq q1
                  have hth3 : th2 = false := by rw [← hth2]; simp [q1]
                  subst hth3
                  clear hth2 q1
                  go_quiet (fail)
                  go_wp2_with fail
                  go_meet
                  exact ⟨rfl, Lib.hid (hb.out.trans (below_draws _ wr nq))⟩
            case rest =>
              obtain ⟨rfl, hb2⟩ := hcut
              have hb' := hb2.out
              clear e0 e1 e2 b0 b1 b2 hb hb2 hth2 hth
              obtain ⟨b', off', heq, _, _, e0, e1, e2⟩ := (HR4.out.keep hb'.size (fun j _ hj => hb'.block j hj)).entry HKL.out
              simp only [Option.some.injEq, Addr.mk.injEq] at heq
              obtain ⟨rfl, rfl, _⟩ := heq
              rw [HY.out] at e0 e1 e2
              obtain ⟨b0, b1, b2, _⟩ := blk3 ((hb'.block _ (lt_of_block HX4.out)).trans HX4.out)
              cases hc : hasp y.A y.N a with
              | false =>
                rw [hc] at cc
                clear hc
                have g0 := cell_regrown e0
                have g1 := cell_regrown e1
                have x1 : ∀ d os, _ := fun d os => Calls.regrown_of (w := wc) (d := d) (os := os) (cc _)
                go_wp2_with fail
                refine wp_region_quiet_below (by kernel_rfl) (by kernel_rfl) ?_
                iterate 6 (go_big_quiet_step (fail))
                go_big_quiet_step (with_reducible exact x1 _ _)
                iterate 16 (go_big_quiet_step (fail))
                refine wpQuiet_nil ?_
                intro wz hw'
                obtain ⟨⟨dq, osq⟩, hw''⟩ := hw'
                have hbW := below_regrown wc dq osq
                rw [← hw''] at hbW
                have HB4 := Lib.hid (hb'.trans (hbW.mono hb'.size))
                clear hw'' g0 g1 x1 e0 e1 e2 b0 b1 b2 hbW hb' cc
                go_wp2
                go_roundg gf
                case measure => omega
                case rel => exact ⟨k + 1, th2, rfl, by go_num, Lib.hid (by omega), NTH, HB4⟩
              | true =>
                rw [hc] at cc
                cases o with
                | none => exact absurd hc (by rw [HF.out y HYM.out]; simp)
                | some z' =>
                  have hzz : z = z' := HZ.out.symm
                  have n1 : decide (y.N > z.N) = false := by
                    have := HF.out.2.2 y HYM.out hc
                    rw [← hzz] at this
                    simpa using this
                  simp only [Option.isSome_some]
                  clear hc hzz
                  have g0 := cell_regrown e0
                  have g1 := cell_regrown e1
                  have g2 := cell_regrown b1
                  have x1 : ∀ d os, _ := fun d os => Calls.regrown_of (w := wc) (d := d) (os := os) (cc _)
                  go_wp2_with fail
                  refine wp_region_quiet_below (by kernel_rfl) (by kernel_rfl) ?_
                  iterate 6 (go_big_quiet_step (fail))
                  go_big_quiet_step (with_reducible exact x1 _ _)
                  iterate 16 (go_big_quiet_step (fail))
                  refine wpQuiet_nil ?_
                  intro wz hw'
                  obtain ⟨⟨dq, osq⟩, hw''⟩ := hw'
                  have hbW := below_regrown wc dq osq
                  rw [← hw''] at hbW
                  have HB4 := Lib.hid (hb'.trans (hbW.mono hb'.size))
                  clear hw'' g0 g1 x1 e0 e1 e2 b0 b1 b2 hbW hb' cc g2
                  go_wp2
                  go_roundg gf
                  case measure => omega
                  case rel => exact ⟨k + 1, th2, rfl, by go_num, Lib.hid (by omega), NTH, HB4⟩
    | succ gf =>
      have hkl : k < s.length := by rw [HSN.out]; omega
      have lt0 : (k : Int) < (sn : Int) := by omega
      have lt2 : (k : Int) < 150 := by omega
      obtain ⟨S, hL⟩ := hL.out
      obtain ⟨b, off, hA0, hxA, hxa, q1, q2, q3, q4, q5⟩ := (HS.out _ hL.bel).at_ hkl
      have hms := mk6_succ hkl
      obtain ⟨x, hx⟩ : ∃ x, ga s k = x := ⟨_, rfl⟩
      rw [hx] at hms
      have hal := act_len hL.tz.om x
      have hMl' := hMl.out
      rw [hx] at hxA hxa q1 q2 q3 q4 q5
      subst hA0
      have Sof : Hid (∀ V, Below w.heap.size w V → V.cell? ⟨b, off + k * 5 + 1, none⟩ = some (.int .u32 (x.A : Int)) ∧ V.cell? ⟨b, off + k * 5 + 2, none⟩ = some (.int .i64 x.N) ∧ V.cell? ⟨b, off + k * 5 + 3, none⟩ = some (.int .i64 x.V)) := Lib.hid (fun V hV => by
        obtain ⟨b', off', heq, _, _, _, z2, z3, z4, _⟩ := (HS.out _ hV).at_ hkl
        simp only [Option.some.injEq, Addr.mk.injEq] at heq
        obtain ⟨rfl, rfl, _⟩ := heq
        rw [hx] at z2 z3 z4
        exact ⟨z2, z3, z4⟩)
      obtain ⟨M, hM⟩ : ∃ M, mk6 s k = M := ⟨_, rfl⟩
      rw [hM] at hL hms hal hMl'
      clear hx hkl hMl hM
      cases hd : x.d with
      | true =>
        rw [hd] at q1
        rw [show actm M x = dropm M x.A x.N by simp [actm, hd]] at hms hal
        have cd := tdrop_all S tb x.A x.N M wr hL.tz hxA (by omega)
        have HL := Lib.hid hL
        have HMS := Lib.hid hms
        clear hL hms hd q5
        go_wp2_with fail
        refine cd.mono ?_
        rintro e Y1 ⟨rfl, hg⟩
        have HL1 := Lib.hid (HL.out.grew hg)
        clear cd hg q1 q2 q3 q4 HL
        go_wp2
        go_roundg gf
        case measure => omega
        case rel => exact ⟨k + 1, by go_num, Lib.hid (by omega), Lib.hid (by rw [HMS.out]; omega), Lib.hid (by rw [HMS.out]; exact HL1.out)⟩
      | false =>
        rw [hd] at q1
        rw [show actm M x = putm M x.A x.N x.V by simp [actm, hd]] at hms hal
        have HMS := Lib.hid hms
        have HL := Lib.hid hL.drew
        clear hL hms hd q5
        go_upto_region 9 with fail
        refine wp_region_held_drew (S := fun V => V.cell? ⟨b, off + k * 5 + 1, none⟩ = some (.int .u32 (x.A : Int)) ∧ V.cell? ⟨b, off + k * 5 + 2, none⟩ = some (.int .i64 x.N) ∧ V.cell? ⟨b, off + k * 5 + 3, none⟩ = some (.int .i64 x.V)) (by kernel_rfl) ⟨q2, q3, q4⟩ (fun hHeld => ?_)
        refine wpAnyH_take (i := 0) (v := ?_) rfl (by kernel_rfl) (by kernel_rfl) (by kernel_rfl) (fun _ _ _ h => h) (Or.inl ⟨by rfl, ?_⟩) (by assumption) ?_
        rotate_left
        · (intro w' hSw; (try dsimp only at hSw); go_simp; try with_reducible rfl)
        simp only [Act.put, List.getElem_toArray, List.getElem_cons_zero, List.setIfInBounds_toArray, List.set_cons_zero, List.set_cons_succ]
        refine wpAnyH_take (i := 1) (v := ?_) rfl (by kernel_rfl) (by kernel_rfl) (by kernel_rfl) (fun _ _ _ h => h) (Or.inl ⟨by rfl, ?_⟩) (by assumption) ?_
        rotate_left
        · (intro w' hSw; (try dsimp only at hSw); go_simp; try with_reducible rfl)
        simp only [Act.put, List.getElem_toArray, List.getElem_cons_zero, List.getElem_cons_succ, List.setIfInBounds_toArray, List.set_cons_zero, List.set_cons_succ]
        refine wpAnyH_take (i := 2) (v := ?_) rfl (by kernel_rfl) (by kernel_rfl) (by kernel_rfl) (fun _ _ _ h => h) (Or.inl ⟨by rfl, ?_⟩) (by assumption) ?_
        rotate_left
        · (intro w' hSw; (try dsimp only at hSw); go_simp; try with_reducible rfl)
        simp only [Act.put, List.getElem_toArray, List.getElem_cons_zero, List.getElem_cons_succ, List.setIfInBounds_toArray, List.set_cons_zero, List.set_cons_succ]
        refine wpAnyH_take (i := 3) (v := ?_) rfl (by kernel_rfl) (by kernel_rfl) (by kernel_rfl) (fun _ _ _ h => h) (Or.inl ⟨by rfl, ?_⟩) (by assumption) ?_
        rotate_left
        · (intro w' hSw; (try dsimp only at hSw); go_simp; try with_reducible rfl)
        simp only [Act.put, List.getElem_toArray, List.getElem_cons_zero, List.getElem_cons_succ, List.setIfInBounds_toArray, List.set_cons_zero, List.set_cons_succ]
        refine wpAnyH_take (i := 4) (v := ?_) rfl (by kernel_rfl) (by kernel_rfl) (by kernel_rfl) (fun _ _ _ h => h) (Or.inl ⟨by rfl, ?_⟩) (by assumption) ?_
        rotate_left
        · (intro w' hSw; (try dsimp only at hSw); go_simp; try with_reducible rfl)
        simp only [Act.put, List.getElem_toArray, List.getElem_cons_zero, List.getElem_cons_succ, List.setIfInBounds_toArray, List.set_cons_zero, List.set_cons_succ]
        refine wpAnyH_take (i := 5) (v := ?_) rfl (by kernel_rfl) (by kernel_rfl) (by kernel_rfl) (fun _ _ _ h => h) (Or.inl ⟨by rfl, ?_⟩) (by assumption) ?_
        rotate_left
        · (intro w' hSw; (try dsimp only at hSw); go_simp; try with_reducible rfl)
        simp only [Act.put, List.getElem_toArray, List.getElem_cons_zero, List.getElem_cons_succ, List.setIfInBounds_toArray, List.set_cons_zero, List.set_cons_succ]
        refine wpAnyH_take (i := 6) (v := ?_) rfl (by kernel_rfl) (by kernel_rfl) (by kernel_rfl) (fun _ _ _ h => h) (Or.inl ⟨by rfl, ?_⟩) (by assumption) ?_
        rotate_left
        · (intro w' hSw; (try dsimp only at hSw); go_simp; try with_reducible rfl)
        simp only [Act.put, List.getElem_toArray, List.getElem_cons_zero, List.getElem_cons_succ, List.setIfInBounds_toArray, List.set_cons_zero, List.set_cons_succ]
        refine wpAnyH_take (i := 7) (v := ?_) rfl (by kernel_rfl) (by kernel_rfl) (by kernel_rfl) (fun _ _ _ h => h) (Or.inl ⟨by rfl, ?_⟩) (by assumption) ?_
        rotate_left
        · (intro w' hSw; (try dsimp only at hSw); go_simp; try with_reducible rfl)
        simp only [Act.put, List.getElem_toArray, List.getElem_cons_zero, List.getElem_cons_succ, List.setIfInBounds_toArray, List.set_cons_zero, List.set_cons_succ]
        refine wpAnyH_take (i := 8) (v := ?_) rfl (by kernel_rfl) (by kernel_rfl) (by kernel_rfl) (fun _ _ _ h => h) (Or.inl ⟨by rfl, ?_⟩) (by assumption) ?_
        rotate_left
        · (intro w' hSw; (try dsimp only at hSw); go_simp; try with_reducible rfl)
        simp only [Act.put, List.getElem_toArray, List.getElem_cons_zero, List.getElem_cons_succ, List.setIfInBounds_toArray, List.set_cons_zero, List.set_cons_succ]
        refine wpAnyH_take (i := 9) (v := ?_) rfl (by kernel_rfl) (by kernel_rfl) (by kernel_rfl) (fun _ _ _ h => h) (Or.inl ⟨by rfl, ?_⟩) (by assumption) ?_
        rotate_left
        · (intro w' hSw; (try dsimp only at hSw); go_simp; try with_reducible rfl)
        simp only [Act.put, List.getElem_toArray, List.getElem_cons_zero, List.getElem_cons_succ, List.setIfInBounds_toArray, List.set_cons_zero, List.set_cons_succ]
        refine wpAnyH_take (i := 10) (v := ?_) rfl (by kernel_rfl) (by kernel_rfl) (by kernel_rfl) (fun _ _ _ h => h) (Or.inl ⟨by rfl, ?_⟩) (by assumption) ?_
        rotate_left
        · (intro w' hSw; (try dsimp only at hSw); go_simp; try with_reducible rfl)
        simp only [Act.put, List.getElem_toArray, List.getElem_cons_zero, List.getElem_cons_succ, List.setIfInBounds_toArray, List.set_cons_zero, List.set_cons_succ]
        obtain ⟨X0, hX0⟩ : ∃ X, wr.drew = X := ⟨_, rfl⟩
        rw [hX0] at HL ⊢
        clear hX0 hHeld q1 q2 q3 q4
        refine wpAnyH_ready (rs := [11]) (by kernel_rfl) (by simp) ?_
        refine AllReadyH.cons rfl (fun K hK => ?_) AllReadyH.nil
        go_simp
        go_at_call 12
        refine (tset_all S tb x.A x.N x.V M X0 HL.out.tz hxA (by omega)).mono ?_
        rintro e X1 ⟨rfl, hg⟩
        have HL1 := Lib.hid (HL.out.grew hg)
        have SF := Lib.hid (Sof.out X1 (by obtain ⟨_, h⟩ := HL1.out; exact h.bel))
        clear hg HL
        refine hK.out _ _ SF.out (fun _ => ?_)
        clear hK K SF
        refine wpAnyH_done (by kernel_rfl) ?_ _
        go_wp2
        go_roundg gf
        case measure => omega
        case rel => exact ⟨k + 1, by go_num, Lib.hid (by omega), Lib.hid (by rw [HMS.out]; omega), Lib.hid (by rw [HMS.out]; exact HL1.out)⟩
end Go.Proofs.Ytlmcgjdenfnkmaa
