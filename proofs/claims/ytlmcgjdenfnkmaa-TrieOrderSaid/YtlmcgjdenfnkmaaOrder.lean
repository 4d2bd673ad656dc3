/-
  The walk of the law TrieOrder. No statement is proved here; no conditions.
-/
import Derived.Test.YtlmcgjdenfnkmaaPlays
namespace Go.Proofs.Ytlmcgjdenfnkmaa
open Go.RowKit Go.Joins

theorem Rd.grewk {S S' : Nat → Prop} {w w' : World} {A : Option Addr} {cs : List Value} (h : Rd (fun j => ¬ S j) w A cs) (hk : ∀ j, j < w.heap.size → ¬ S j → ¬ S' j ∧ w'.heap[j]? = w.heap[j]?) (hs : w.heap.size ≤ w'.heap.size) : Rd (fun j => ¬ S' j) w' A cs := fun hl => by
  obtain ⟨b, off, e, hb, hlt, hc⟩ := h hl
  obtain ⟨h1, h2⟩ := hk b hlt hb
  exact ⟨b, off, e, h1, by omega, fun i u hi => (World.cell?_of_block h2).trans (hc i u hi)⟩
theorem Rd.grown {Q : Nat → Prop} {w w' : World} {A : Option Addr} {cs : List Value} (h : Rd Q w A cs) (hb : Below w.heap.size w w') : Rd Q w' A cs := h.keep hb.size (fun j _ hj => hb.block j hj)
theorem get_set {m : List En} (h : Om m) {A : Nat} {N V : Int} (hA : A < 4294967296) (hp : okp A N = true) : getm (setm m ⟨A, N, V⟩) A N = some ⟨A, N, V⟩ :=
  (getm_some (h.set (x := ⟨A, N, V⟩) hp hA)).2 ⟨mem_setm.2 (.inl rfl), by simp [sp]⟩
theorem drop_set {m : List En} (h : Om m) {A : Nat} {N V : Int} (hA : A < 4294967296) (hp : okp A N = true) : dropm (setm m ⟨A, N, V⟩) A N = dropm m A N := by
  refine uniq lse_asym ((h.set (x := ⟨A, N, V⟩) hp hA).drop A N).asc (h.drop A N).asc fun y => ?_
  rw [mem_dropm, mem_dropm, mem_setm]
  constructor
  · rintro ⟨rfl | h1, h2⟩
    · simp [sp] at h2
    · exact ⟨h1.1, h2⟩
  · rintro ⟨h1, h2⟩
    exact ⟨.inr ⟨h1, h2⟩, h2⟩
theorem Om.next {m : List En} (h : Om m) {i : Nat} (hi : i + 1 < m.length) : lessp (ge m i).A (ge m i).N (ge m (i + 1)).A (ge m (i + 1)).N = true := by
  rw [ge_eq (by omega), ge_eq hi]
  exact List.pairwise_iff_getElem.1 h.asc i (i + 1) (by omega) hi (by omega)
set_option maxRecDepth 100000 in
set_option maxHeartbeats 8000000 in
theorem order_walk (A0 : Option Addr) (c : Nat) (s : List Ac) (A : Nat) (N V : Int) (w : World) (hs : Sc (· < w.heap.size) w A0 s) (hA : A < 4294967296) :
    Calls Try.prog 6 #[.slice A0 s.length c, pf A N, .int .i64 V] w fun e w' => e = .returned (.bool true) ∧ Below w.heap.size w w' := by
  have K := box_at (w := w) (u := .int .u32 (A : Int)) (v := .int .i64 N) (t := 25) (B := w.heap.size + 1) (by omega)
  have B0 := below_alloc1 w (.cells #[.int .u32 (A : Int), .int .i64 N] 25)
  obtain ⟨W0, hW0⟩ : ∃ W0, w.alloc (.cells #[.int .u32 (A : Int), .int .i64 N] 25) = W0 := ⟨_, rfl⟩
  have hs0 : W0.heap.size = w.heap.size + 1 := by rw [← hW0]; simp
  rw [hW0] at K B0
  have HS : Hid (∀ V, Below W0.heap.size W0 V → Sc (· < w.heap.size) V A0 s) := Lib.hid (fun V hV => (hs.below B0 (fun _ h => h)).below hV (fun _ h => by omega))
  have KP : Hid (∀ V, Below W0.heap.size W0 V → V.cell? ⟨w.heap.size, 0, none⟩ = some (.int .u32 (A : Int)) ∧ V.cell? ⟨w.heap.size, 1, none⟩ = some (.int .i64 N)) := Lib.hid (fun V hV => by
    obtain ⟨h1, h2, _, _⟩ := K V (hV.mono (by omega))
    exact ⟨h1, h2⟩)
  have HB0 := Lib.hid B0
  obtain ⟨sn, hsn⟩ : ∃ sn, s.length = sn := ⟨_, rfl⟩
  obtain ⟨n, hn⟩ : ∃ n, min sn 150 = n := ⟨_, rfl⟩
  have HSN := Lib.hid hsn
  have hn1 : n ≤ sn := by omega
  have hn2 : n ≤ 150 := by omega
  have HN := Lib.hid hn
  rw [hsn]
  clear hs hsn hn K B0
  go_enter Try.func6, Try.ntmps6
  go_wp2_with fail
  refine (new_any _).mono ?_
  rintro e W1 ⟨rfl, b1, s1, t1⟩
  have l1 := Ls.start W0 t1 b1 s1 none
  obtain ⟨tb, htb⟩ : ∃ tb, W0.heap.size = tb := ⟨_, rfl⟩
  have L3 : Hid (Ls W0 tb [] [] none (· = W0.heap.size) W1) := Lib.hid (by rw [← htb]; exact l1)
  rw [htb]
  clear b1 t1 l1 htb
  go_wp2_with fail
  clear hW0
  go_loopg [8] n (fun gf v8 wx => ∃ (k : Nat), v8 = .int .i64 (k : Int) ∧ Hid (gf + k = n) ∧ Hid (∃ M S, M.length ≤ k ∧ Ls W0 tb M [] none S wx))
  case atStart => exact ⟨0, rfl, Lib.hid (by omega), Lib.hid ⟨[], _, by simp, L3.out⟩⟩
  case round =>
    obtain ⟨k, rfl, hk, hL⟩ := hrel
    have hk' := hk.out
    clear L3
    obtain ⟨M, S, hMl, hL⟩ := hL.out
    cases gk with
    | zero =>
      have e1 : k = n := by omega
      have hM150 : M.length ≤ 150 := by omega
      have HL := Lib.hid hL
      clear hL hMl HS
      by_cases hq : k < sn
      · have lt0 : (k : Int) < (sn : Int) := by omega
        have h150 : k = 150 := by have := HN.out; omega
        have lt2 : decide ((k : Int) < 150) = false := by simp; omega
        clear e1 hk' hk h150
        have cw := walk_any S tb M wr HL.out.tz (by omega)
        go_wp2_with fail
        refine cw.mono ?_
        rintro e V1 ⟨A1, c1, rfl, ho1, hb1⟩
        have HL1 := Lib.hid (HL.out.new hb1 ho1)
        have HOM := Lib.hid HL.out.tz.om
        obtain ⟨nd, en, tn, _⟩ := HL1.out.tz
        have cg := get_any tb nd en M _ A N V1 tn hA
        obtain ⟨p0, p1⟩ := KP.out _ HL1.out.bel
        obtain ⟨mn, hmn⟩ : ∃ mn, M.length = mn := ⟨_, rfl⟩
        have HMN := Lib.hid hmn
        rw [hmn] at hM150
        rw [hmn]
        obtain ⟨o, ho⟩ : ∃ o, getm M A N = o := ⟨_, rfl⟩
        have HO := Lib.hid ho
        obtain ⟨hv, hhv⟩ : ∃ hv, gtv o = .tuple #[.int .i64 hv, .bool o.isSome] := by cases o <;> exact ⟨_, rfl⟩
        rw [ho, hhv] at cg
        clear cw ho1 hb1 HL tn hmn ho hhv
        go_wp2_with fail
        refine cg.mono ?_
        rintro e V2 ⟨rfl, hb2⟩
        have HL2 := Lib.hid (HL1.out.below hb2)
        have cs := tset_all S tb A N V M V2 HL2.out.tz hA (by rw [HMN.out]; omega)
        clear p0 p1 cg hb2 HL1
        obtain ⟨p0, p1⟩ := KP.out _ HL2.out.bel
        cases hp : okp A N with
        | true =>
          rw [show ern A N = 0 by simp [ern, hp], show putm M A N V = setm M ⟨A, N, V⟩ by simp [putm, hp]] at cs
          have hgs := get_set HOM.out (V := V) hA hp
          have hds := drop_set HOM.out (V := V) hA hp
          have hll := setm_len HOM.out ⟨A, N, V⟩
          obtain ⟨M2, hM2⟩ : ∃ M2, setm M ⟨A, N, V⟩ = M2 := ⟨_, rfl⟩
          rw [hM2] at cs hgs hds hll
          have hM2l : M2.length ≤ 151 := by rw [hll]; have := HMN.out; split <;> omega
          have HGS := Lib.hid hgs
          have HDS := Lib.hid hds
          have HHAD : Hid ((!o.isSome || true) = true) := Lib.hid (by simp)
          clear hM2 hgs hds hll
          have cm := fun W => rmay_any A N W hA
          rw [hp] at cm
          clear hp
          go_wp2_with fail
          refine cs.mono ?_
          rintro e V3 ⟨rfl, hg⟩
          obtain ⟨S1, hL3, hkp⟩ := HL2.out.grewk hg
          obtain ⟨nd1, en1, tn1, _⟩ := hL3.tz
          have cg := get_any tb nd1 en1 M2 _ A N V3 tn1 hA
          rw [HGS.out] at cg
          simp only [gtv] at cg
          have HL3 := Lib.hid hL3
          clear p0 p1 cs hg hkp hL3 tn1 HL2
          obtain ⟨p0, p1⟩ := KP.out _ HL3.out.bel
          go_wp2_with fail
          refine cg.mono ?_
          rintro e V4 ⟨rfl, hb4⟩
          have HL4 := Lib.hid (HL3.out.below hb4)
          have cw := walk_any S1 tb M2 V4 HL4.out.tz (by omega)
          clear p0 p1 cg hb4 HL3
          go_wp2_with fail
          refine cw.mono ?_
          rintro e V5 ⟨A5, c5, rfl, ho5, hb5⟩
          have HL5 := Lib.hid (HL4.out.below hb5)
          have hl4 := HL4.out
          have HR5 : Hid (Rd (fun j => ¬ S1 j) V5 A5 (eflat M2)) := Lib.hid (ho5.rd.more (fun j hj _ hq => by have := hl4.own j hq; omega))
          clear cw ho5 hb5 HL4 hl4
          obtain ⟨p0, p1⟩ := KP.out _ HL5.out.bel
          obtain ⟨m2, hm2⟩ : ∃ m2, M2.length = m2 := ⟨_, rfl⟩
          have HM2 := Lib.hid hm2
          rw [hm2] at hM2l
          rw [hm2]
          clear hm2
          go_wp2_with fail
          refine (cm _).mono ?_
          rintro e V6 ⟨rfl, hb6⟩
          have HL6 := Lib.hid (HL5.out.below hb6)
          have HR6 := Lib.hid (HR5.out.grown hb6)
          clear p0 p1 cm hb6 HL5 HR5
          go_wp2_with fail
          go_loopg [16] (m2 - 1) (fun gf v16 wx => ∃ (i : Nat), v16 = .int .i64 ((i : Int) + 1) ∧ Hid (gf + i = m2 - 1) ∧ Hid (Below V6.heap.size V6 wx))
          case atStart => exact ⟨0, rfl, Lib.hid (by omega), Lib.hid (Below.refl _ _)⟩
          case round =>
            obtain ⟨i, rfl, hi, hb⟩ := hrel
            have hi' := hi.out
            cases gk with
            | zero =>
              have lt0 : decide ((i : Int) + 1 < (m2 : Int)) = false := by simp; omega
              have HL7 := Lib.hid (HL6.out.below hb.out)
              have HR7 := Lib.hid (HR6.out.grown hb.out)
              have cd1 := rdrop_any _ A1 c1 M A N wr HL7.out.row (by rw [HMN.out]; omega)
              rw [HMN.out] at cd1
              clear hb hi hi' HL6 HR6
              obtain ⟨p0, p1⟩ := KP.out _ HL7.out.bel
              go_wp2_with fail
              refine cd1.mono ?_
              rintro e V8 ⟨A8, c8, rfl, ho8, hb8⟩
              have HL8 := Lib.hid (HL7.out.below hb8)
              have hl7 := HL7.out
              have HR8 := Lib.hid (HR7.out.grown hb8)
              have HD8 : Hid (Rd (fun j => ¬ S1 j) V8 A8 (eflat (dropm M A N))) := Lib.hid (ho8.rd.more (fun j hj _ hq => by have := hl7.own j hq; omega))
              obtain ⟨D, hD⟩ : ∃ D, dropm M A N = D := ⟨_, rfl⟩
              have hDl : D.length ≤ 150 := by rw [← hD]; have h1 := dropm_len M A N; have h2 := HMN.out; omega
              rw [hD] at HD8 HDS
              rw [hD]
              have cd2 := rdrop_any _ A5 c5 M2 A N V8 HR8.out (by rw [HM2.out]; omega)
              rw [HM2.out] at cd2
              clear p0 p1 cd1 ho8 hb8 hl7 HL7 HR7 hD
              obtain ⟨p0, p1⟩ := KP.out _ HL8.out.bel
              obtain ⟨wd1, hwd1⟩ : ∃ b, decide (D.length < M.length) = b := ⟨_, rfl⟩
              rw [hwd1]
              clear hwd1
              go_wp2_with fail
              refine cd2.mono ?_
              rintro e V9 ⟨A9, c9, rfl, ho9, hb9⟩
              have HL9 := Lib.hid (HL8.out.below hb9)
              have hl8 := HL8.out
              have HD9 := Lib.hid (HD8.out.grown hb9)
              rw [HDS.out] at ho9 ⊢
              have HE9 : Hid (Rd (fun j => ¬ S1 j) V9 A9 (eflat D)) := Lib.hid (ho9.rd.more (fun j hj _ hq => by have := hl8.own j hq; omega))
              have ctd := tdrop_all S1 tb A N M2 V9 HL9.out.tz hA (by rw [HM2.out]; omega)
              rw [HGS.out, HDS.out] at ctd
              clear p0 p1 cd2 ho9 hb9 hl8 HL8 HR8 HD8
              obtain ⟨p0, p1⟩ := KP.out _ HL9.out.bel
              obtain ⟨wd2, hwd2⟩ : ∃ b, decide (D.length < M2.length) = b := ⟨_, rfl⟩
              rw [hwd2]
              clear hwd2
              obtain ⟨dn, hdn⟩ : ∃ dn, D.length = dn := ⟨_, rfl⟩
              have HDN := Lib.hid hdn
              rw [hdn] at hDl
              rw [hdn]
              clear hdn
              go_wp2_with fail
              refine ctd.mono ?_
              rintro e V10 ⟨rfl, hg⟩
              have hsz : V9.heap.size ≤ V10.heap.size := by obtain ⟨_, _, k, _⟩ := hg; exact k.size
              obtain ⟨S2, hL10, hkp⟩ := HL9.out.grewk hg
              have HL10 := Lib.hid hL10
              have HD10 := Lib.hid (HD9.out.grewk hkp hsz)
              have HE10 := Lib.hid (HE9.out.grewk hkp hsz)
              clear p0 p1 ctd hg hkp hsz hL10 HL9 HD9 HE9
              simp only [Option.isSome_some]
              go_wp2_with fail
              refine (alive_any _).mono ?_
              rintro e V11 ⟨rfl, hb11⟩
              have HL11 := Lib.hid (HL10.out.below hb11)
              have HD11 := Lib.hid (HD10.out.grown hb11)
              have csm := same_any _ _ A8 A9 c8 c9 D D V11 HD11.out (HE10.out.grown hb11) (by rw [HDN.out]; omega)
              rw [decide_eq_true rfl, HDN.out] at csm
              clear hb11 HL10 HD10 HE10
              go_wp2_with fail
              refine csm.mono ?_
              rintro e V12 ⟨rfl, hb12⟩
              have HL12 := Lib.hid (HL11.out.below hb12)
              have HD12 := Lib.hid (HD11.out.grown hb12)
              have cw2 := walk_any S2 tb D V12 HL12.out.tz (by rw [HDN.out]; omega)
              clear csm hb12 HL11 HD11
              go_wp2_with fail
              refine cw2.mono ?_
              rintro e V13 ⟨A13, c13, rfl, ho13, hb13⟩
              have HL13 := Lib.hid (HL12.out.below hb13)
              have csm := same_any _ _ A13 A8 c13 c8 D D V13 ho13.rd (HD12.out.grown hb13) (by rw [HDN.out]; omega)
              rw [decide_eq_true rfl, HDN.out] at csm
              rw [HDN.out]
              clear cw2 ho13 hb13 HL12 HD12
              go_wp2_with fail
              refine csm.mono ?_
              rintro e V14 ⟨rfl, hb14⟩
              have bb := HB0.out.trans ((HL13.out.below hb14).bel.mono HB0.out.size)
              clear csm hb14 HL13
              cases o <;> (simp only [Option.isSome_some, Option.isSome_none]; go_wp2; go_ret; exact ⟨rfl, bb⟩)
            | succ gf =>
              have lt0 : (i : Int) + 1 < (m2 : Int) := by omega
              have lt3 : (i : Int) < (m2 : Int) := by omega
              have hrd := HR6.out.grown hb.out
              obtain ⟨b, off, hA5, _, _, e0, e1, e2⟩ := hrd.entry (i := i) (by rw [HM2.out]; omega)
              obtain ⟨b', off', heq, _, _, f0, f1, f2⟩ := hrd.entry (i := i + 1) (by rw [HM2.out]; omega)
              subst hA5
              simp only [Option.some.injEq, Addr.mk.injEq] at heq
              obtain ⟨rfl, rfl, _⟩ := heq
              have hle := HL6.out.tz.om.next (i := i) (by rw [HM2.out]; omega)
              obtain ⟨y, hy⟩ : ∃ y, ge M2 i = y := ⟨_, rfl⟩
              obtain ⟨z, hz⟩ : ∃ z, ge M2 (i + 1) = z := ⟨_, rfl⟩
              rw [hy] at e0 e1 e2 hle
              rw [hz] at f0 f1 f2 hle
              have cc := fun W => rless_any y.A z.A y.N z.N W
              rw [hle] at cc
              have hw1 : (i : Int) + 1 ≤ 10000 := by omega
              have hwi : IntKind.i64.wrap (i : Int) = (i : Int) := by rw [IntKind.wrap_i64]; omega
              have g0 := cell_regrown e0
              have g1 := cell_regrown e1
              have g2 := cell_regrown f0
              have g3 := cell_regrown f1
              have x1 : ∀ d os, _ := fun d os => Calls.regrown_of (w := wr) (d := d) (os := os) (cc _)
              have hi1 : ((i : Int) + 1).toNat = i + 1 := by omega
              clear hrd hle hy hz cc e0 e1 e2 f0 f1 f2
              go_wp2_with fail
              refine wp_region_quiet_below (by kernel_rfl) (by kernel_rfl) ?_
              iterate 11 (go_big_quiet_step (fail))
              go_big_quiet_step (with_reducible exact x1 _ _)
              go_big_quiet_step (fail)
              refine wpQuiet_nil ?_
              intro wz hw'
              obtain ⟨⟨dq, osq⟩, hw''⟩ := hw'
              have hbW := below_regrown wr dq osq
              rw [← hw''] at hbW
              have HB4 := Lib.hid (hb.out.trans (hbW.mono hb.out.size))
              clear hw'' g0 g1 g2 g3 x1 hbW hb
              go_wp2
              go_roundg gf
              case measure => omega
              case rel => exact ⟨i + 1, by go_num, Lib.hid (by omega), HB4⟩
        | false =>
          rw [show ern A N = 1 by simp [ern, hp], show putm M A N V = M by simp [putm, hp]] at cs
          have hgs := getm_bad HOM.out hp
          have hoN : o = none := by rw [← HO.out, hgs]
          subst hoN
          obtain ⟨M2, hM2⟩ : ∃ M2, M = M2 := ⟨_, rfl⟩
          have HGS : Hid (getm M2 A N = none) := Lib.hid (by rw [← hM2]; exact hgs)
          have HDS : Hid (dropm M2 A N = dropm M A N) := Lib.hid (by rw [hM2])
          have hM2l : M2.length ≤ 151 := by rw [← hM2, HMN.out]; omega
          have cs' : Calls Try.prog 12 #[.pointer (some ⟨tb, 0, none⟩), pf A N, .int .i64 V] V2 fun e w' => e = .returned (.int .i64 1) ∧ Grew S V2 tb M2 w' := by rw [← hM2]; exact cs
          clear cs hM2 hgs
          have cs := cs'
          clear cs'
          simp only [Option.isSome_none]
          have cm := fun W => rmay_any A N W hA
          rw [hp] at cm
          clear hp
          go_wp2_with fail
          refine cs.mono ?_
          rintro e V3 ⟨rfl, hg⟩
          obtain ⟨S1, hL3, hkp⟩ := HL2.out.grewk hg
          obtain ⟨nd1, en1, tn1, _⟩ := hL3.tz
          have cg := get_any tb nd1 en1 M2 _ A N V3 tn1 hA
          rw [HGS.out] at cg
          simp only [gtv] at cg
          have HL3 := Lib.hid hL3
          clear p0 p1 cs hg hkp hL3 tn1 HL2
          obtain ⟨p0, p1⟩ := KP.out _ HL3.out.bel
          go_wp2_with fail
          refine cg.mono ?_
          rintro e V4 ⟨rfl, hb4⟩
          have HL4 := Lib.hid (HL3.out.below hb4)
          have cw := walk_any S1 tb M2 V4 HL4.out.tz (by omega)
          clear p0 p1 cg hb4 HL3
          go_wp2_with fail
          refine cw.mono ?_
          rintro e V5 ⟨A5, c5, rfl, ho5, hb5⟩
          have HL5 := Lib.hid (HL4.out.below hb5)
          have hl4 := HL4.out
          have HR5 : Hid (Rd (fun j => ¬ S1 j) V5 A5 (eflat M2)) := Lib.hid (ho5.rd.more (fun j hj _ hq => by have := hl4.own j hq; omega))
          clear cw ho5 hb5 HL4 hl4
          obtain ⟨p0, p1⟩ := KP.out _ HL5.out.bel
          obtain ⟨m2, hm2⟩ : ∃ m2, M2.length = m2 := ⟨_, rfl⟩
          have HM2 := Lib.hid hm2
          rw [hm2] at hM2l
          rw [hm2]
          clear hm2
          go_wp2_with fail
          refine (cm _).mono ?_
          rintro e V6 ⟨rfl, hb6⟩
          have HL6 := Lib.hid (HL5.out.below hb6)
          have HR6 := Lib.hid (HR5.out.grown hb6)
          clear p0 p1 cm hb6 HL5 HR5
          go_wp2_with fail
          go_loopg [16] (m2 - 1) (fun gf v16 wx => ∃ (i : Nat), v16 = .int .i64 ((i : Int) + 1) ∧ Hid (gf + i = m2 - 1) ∧ Hid (Below V6.heap.size V6 wx))
          case atStart => exact ⟨0, rfl, Lib.hid (by omega), Lib.hid (Below.refl _ _)⟩
          case round =>
            obtain ⟨i, rfl, hi, hb⟩ := hrel
            have hi' := hi.out
            cases gk with
            | zero =>
              have lt0 : decide ((i : Int) + 1 < (m2 : Int)) = false := by simp; omega
              have HL7 := Lib.hid (HL6.out.below hb.out)
              have HR7 := Lib.hid (HR6.out.grown hb.out)
              have cd1 := rdrop_any _ A1 c1 M A N wr HL7.out.row (by rw [HMN.out]; omega)
              rw [HMN.out] at cd1
              clear hb hi hi' HL6 HR6
              obtain ⟨p0, p1⟩ := KP.out _ HL7.out.bel
              go_wp2_with fail
              refine cd1.mono ?_
              rintro e V8 ⟨A8, c8, rfl, ho8, hb8⟩
              have HL8 := Lib.hid (HL7.out.below hb8)
              have hl7 := HL7.out
              have HR8 := Lib.hid (HR7.out.grown hb8)
              have HD8 : Hid (Rd (fun j => ¬ S1 j) V8 A8 (eflat (dropm M A N))) := Lib.hid (ho8.rd.more (fun j hj _ hq => by have := hl7.own j hq; omega))
              obtain ⟨D, hD⟩ : ∃ D, dropm M A N = D := ⟨_, rfl⟩
              have hDl : D.length ≤ 150 := by rw [← hD]; have h1 := dropm_len M A N; have h2 := HMN.out; omega
              rw [hD] at HD8 HDS
              rw [hD]
              have cd2 := rdrop_any _ A5 c5 M2 A N V8 HR8.out (by rw [HM2.out]; omega)
              rw [HM2.out] at cd2
              clear p0 p1 cd1 ho8 hb8 hl7 HL7 HR7 hD
              obtain ⟨p0, p1⟩ := KP.out _ HL8.out.bel
              obtain ⟨wd1, hwd1⟩ : ∃ b, decide (D.length < M.length) = b := ⟨_, rfl⟩
              rw [hwd1]
              clear hwd1
              go_wp2_with fail
              refine cd2.mono ?_
              rintro e V9 ⟨A9, c9, rfl, ho9, hb9⟩
              have HL9 := Lib.hid (HL8.out.below hb9)
              have hl8 := HL8.out
              have HD9 := Lib.hid (HD8.out.grown hb9)
              rw [HDS.out] at ho9 ⊢
              have HE9 : Hid (Rd (fun j => ¬ S1 j) V9 A9 (eflat D)) := Lib.hid (ho9.rd.more (fun j hj _ hq => by have := hl8.own j hq; omega))
              have ctd := tdrop_all S1 tb A N M2 V9 HL9.out.tz hA (by rw [HM2.out]; omega)
              rw [HGS.out, HDS.out] at ctd
              clear p0 p1 cd2 ho9 hb9 hl8 HL8 HR8 HD8
              obtain ⟨p0, p1⟩ := KP.out _ HL9.out.bel
              obtain ⟨wd2, hwd2⟩ : ∃ b, decide (D.length < M2.length) = b := ⟨_, rfl⟩
              rw [hwd2]
              clear hwd2
              obtain ⟨dn, hdn⟩ : ∃ dn, D.length = dn := ⟨_, rfl⟩
              have HDN := Lib.hid hdn
              rw [hdn] at hDl
              rw [hdn]
              clear hdn
              go_wp2_with fail
              refine ctd.mono ?_
              rintro e V10 ⟨rfl, hg⟩
              have hsz : V9.heap.size ≤ V10.heap.size := by obtain ⟨_, _, k, _⟩ := hg; exact k.size
              obtain ⟨S2, hL10, hkp⟩ := HL9.out.grewk hg
              have HL10 := Lib.hid hL10
              have HD10 := Lib.hid (HD9.out.grewk hkp hsz)
              have HE10 := Lib.hid (HE9.out.grewk hkp hsz)
              clear p0 p1 ctd hg hkp hsz hL10 HL9 HD9 HE9
              simp only [Option.isSome_none]
              go_wp2_with fail
              refine (alive_any _).mono ?_
              rintro e V11 ⟨rfl, hb11⟩
              have HL11 := Lib.hid (HL10.out.below hb11)
              have HD11 := Lib.hid (HD10.out.grown hb11)
              have csm := same_any _ _ A8 A9 c8 c9 D D V11 HD11.out (HE10.out.grown hb11) (by rw [HDN.out]; omega)
              rw [decide_eq_true rfl, HDN.out] at csm
              clear hb11 HL10 HD10 HE10
              go_wp2_with fail
              refine csm.mono ?_
              rintro e V12 ⟨rfl, hb12⟩
              have HL12 := Lib.hid (HL11.out.below hb12)
              have HD12 := Lib.hid (HD11.out.grown hb12)
              have cw2 := walk_any S2 tb D V12 HL12.out.tz (by rw [HDN.out]; omega)
              clear csm hb12 HL11 HD11
              go_wp2_with fail
              refine cw2.mono ?_
              rintro e V13 ⟨A13, c13, rfl, ho13, hb13⟩
              have HL13 := Lib.hid (HL12.out.below hb13)
              have csm := same_any _ _ A13 A8 c13 c8 D D V13 ho13.rd (HD12.out.grown hb13) (by rw [HDN.out]; omega)
              rw [decide_eq_true rfl, HDN.out] at csm
              rw [HDN.out]
              clear cw2 ho13 hb13 HL12 HD12
              go_wp2_with fail
              refine csm.mono ?_
              rintro e V14 ⟨rfl, hb14⟩
              have bb := HB0.out.trans ((HL13.out.below hb14).bel.mono HB0.out.size)
              clear csm hb14 HL13
              go_wp2
              go_ret
              exact ⟨rfl, bb⟩
            | succ gf =>
              have lt0 : (i : Int) + 1 < (m2 : Int) := by omega
              have lt3 : (i : Int) < (m2 : Int) := by omega
              have hrd := HR6.out.grown hb.out
              obtain ⟨b, off, hA5, _, _, e0, e1, e2⟩ := hrd.entry (i := i) (by rw [HM2.out]; omega)
              obtain ⟨b', off', heq, _, _, f0, f1, f2⟩ := hrd.entry (i := i + 1) (by rw [HM2.out]; omega)
              subst hA5
              simp only [Option.some.injEq, Addr.mk.injEq] at heq
              obtain ⟨rfl, rfl, _⟩ := heq
              have hle := HL6.out.tz.om.next (i := i) (by rw [HM2.out]; omega)
              obtain ⟨y, hy⟩ : ∃ y, ge M2 i = y := ⟨_, rfl⟩
              obtain ⟨z, hz⟩ : ∃ z, ge M2 (i + 1) = z := ⟨_, rfl⟩
              rw [hy] at e0 e1 e2 hle
              rw [hz] at f0 f1 f2 hle
              have cc := fun W => rless_any y.A z.A y.N z.N W
              rw [hle] at cc
              have hw1 : (i : Int) + 1 ≤ 10000 := by omega
              have hwi : IntKind.i64.wrap (i : Int) = (i : Int) := by rw [IntKind.wrap_i64]; omega
              have g0 := cell_regrown e0
              have g1 := cell_regrown e1
              have g2 := cell_regrown f0
              have g3 := cell_regrown f1
              have x1 : ∀ d os, _ := fun d os => Calls.regrown_of (w := wr) (d := d) (os := os) (cc _)
              have hi1 : ((i : Int) + 1).toNat = i + 1 := by omega
              clear hrd hle hy hz cc e0 e1 e2 f0 f1 f2
              go_wp2_with fail
              refine wp_region_quiet_below (by kernel_rfl) (by kernel_rfl) ?_
              iterate 11 (go_big_quiet_step (fail))
              go_big_quiet_step (with_reducible exact x1 _ _)
              go_big_quiet_step (fail)
              refine wpQuiet_nil ?_
              intro wz hw'
              obtain ⟨⟨dq, osq⟩, hw''⟩ := hw'
              have hbW := below_regrown wr dq osq
              rw [← hw''] at hbW
              have HB4 := Lib.hid (hb.out.trans (hbW.mono hb.out.size))
              clear hw'' g0 g1 g2 g3 x1 hbW hb
              go_wp2
              go_roundg gf
              case measure => omega
              case rel => exact ⟨i + 1, by go_num, Lib.hid (by omega), HB4⟩
      · have lt0 : decide ((k : Int) < (sn : Int)) = false := by simp; omega
        have lt1 : decide (k < sn) = false := by simp; omega
        clear e1 hk' hk hq
        have cw := walk_any S tb M wr HL.out.tz (by omega)
        go_wp2_with fail
        refine cw.mono ?_
        rintro e V1 ⟨A1, c1, rfl, ho1, hb1⟩
        have HL1 := Lib.hid (HL.out.new hb1 ho1)
        have HOM := Lib.hid HL.out.tz.om
        obtain ⟨nd, en, tn, _⟩ := HL1.out.tz
        have cg := get_any tb nd en M _ A N V1 tn hA
        obtain ⟨p0, p1⟩ := KP.out _ HL1.out.bel
        obtain ⟨mn, hmn⟩ : ∃ mn, M.length = mn := ⟨_, rfl⟩
        have HMN := Lib.hid hmn
        rw [hmn] at hM150
        rw [hmn]
        obtain ⟨o, ho⟩ : ∃ o, getm M A N = o := ⟨_, rfl⟩
        have HO := Lib.hid ho
        obtain ⟨hv, hhv⟩ : ∃ hv, gtv o = .tuple #[.int .i64 hv, .bool o.isSome] := by cases o <;> exact ⟨_, rfl⟩
        rw [ho, hhv] at cg
        clear cw ho1 hb1 HL tn hmn ho hhv
        go_wp2_with fail
        refine cg.mono ?_
        rintro e V2 ⟨rfl, hb2⟩
        have HL2 := Lib.hid (HL1.out.below hb2)
        have cs := tset_all S tb A N V M V2 HL2.out.tz hA (by rw [HMN.out]; omega)
        clear p0 p1 cg hb2 HL1
        obtain ⟨p0, p1⟩ := KP.out _ HL2.out.bel
        cases hp : okp A N with
        | true =>
          rw [show ern A N = 0 by simp [ern, hp], show putm M A N V = setm M ⟨A, N, V⟩ by simp [putm, hp]] at cs
          have hgs := get_set HOM.out (V := V) hA hp
          have hds := drop_set HOM.out (V := V) hA hp
          have hll := setm_len HOM.out ⟨A, N, V⟩
          obtain ⟨M2, hM2⟩ : ∃ M2, setm M ⟨A, N, V⟩ = M2 := ⟨_, rfl⟩
          rw [hM2] at cs hgs hds hll
          have hM2l : M2.length ≤ 151 := by rw [hll]; have := HMN.out; split <;> omega
          have HGS := Lib.hid hgs
          have HDS := Lib.hid hds
          have HHAD : Hid ((!o.isSome || true) = true) := Lib.hid (by simp)
          clear hM2 hgs hds hll
          have cm := fun W => rmay_any A N W hA
          rw [hp] at cm
          clear hp
          go_wp2_with fail
          refine cs.mono ?_
          rintro e V3 ⟨rfl, hg⟩
          obtain ⟨S1, hL3, hkp⟩ := HL2.out.grewk hg
          obtain ⟨nd1, en1, tn1, _⟩ := hL3.tz
          have cg := get_any tb nd1 en1 M2 _ A N V3 tn1 hA
          rw [HGS.out] at cg
          simp only [gtv] at cg
          have HL3 := Lib.hid hL3
          clear p0 p1 cs hg hkp hL3 tn1 HL2
          obtain ⟨p0, p1⟩ := KP.out _ HL3.out.bel
          go_wp2_with fail
          refine cg.mono ?_
          rintro e V4 ⟨rfl, hb4⟩
          have HL4 := Lib.hid (HL3.out.below hb4)
          have cw := walk_any S1 tb M2 V4 HL4.out.tz (by omega)
          clear p0 p1 cg hb4 HL3
          go_wp2_with fail
          refine cw.mono ?_
          rintro e V5 ⟨A5, c5, rfl, ho5, hb5⟩
          have HL5 := Lib.hid (HL4.out.below hb5)
          have hl4 := HL4.out
          have HR5 : Hid (Rd (fun j => ¬ S1 j) V5 A5 (eflat M2)) := Lib.hid (ho5.rd.more (fun j hj _ hq => by have := hl4.own j hq; omega))
          clear cw ho5 hb5 HL4 hl4
          obtain ⟨p0, p1⟩ := KP.out _ HL5.out.bel
          obtain ⟨m2, hm2⟩ : ∃ m2, M2.length = m2 := ⟨_, rfl⟩
          have HM2 := Lib.hid hm2
          rw [hm2] at hM2l
          rw [hm2]
          clear hm2
          go_wp2_with fail
          refine (cm _).mono ?_
          rintro e V6 ⟨rfl, hb6⟩
          have HL6 := Lib.hid (HL5.out.below hb6)
          have HR6 := Lib.hid (HR5.out.grown hb6)
          clear p0 p1 cm hb6 HL5 HR5
          go_wp2_with fail
          go_loopg [16] (m2 - 1) (fun gf v16 wx => ∃ (i : Nat), v16 = .int .i64 ((i : Int) + 1) ∧ Hid (gf + i = m2 - 1) ∧ Hid (Below V6.heap.size V6 wx))
          case atStart => exact ⟨0, rfl, Lib.hid (by omega), Lib.hid (Below.refl _ _)⟩
          case round =>
            obtain ⟨i, rfl, hi, hb⟩ := hrel
            have hi' := hi.out
            cases gk with
            | zero =>
              have lt0 : decide ((i : Int) + 1 < (m2 : Int)) = false := by simp; omega
              have HL7 := Lib.hid (HL6.out.below hb.out)
              have HR7 := Lib.hid (HR6.out.grown hb.out)
              have cd1 := rdrop_any _ A1 c1 M A N wr HL7.out.row (by rw [HMN.out]; omega)
              rw [HMN.out] at cd1
              clear hb hi hi' HL6 HR6
              obtain ⟨p0, p1⟩ := KP.out _ HL7.out.bel
              go_wp2_with fail
              refine cd1.mono ?_
              rintro e V8 ⟨A8, c8, rfl, ho8, hb8⟩
              have HL8 := Lib.hid (HL7.out.below hb8)
              have hl7 := HL7.out
              have HR8 := Lib.hid (HR7.out.grown hb8)
              have HD8 : Hid (Rd (fun j => ¬ S1 j) V8 A8 (eflat (dropm M A N))) := Lib.hid (ho8.rd.more (fun j hj _ hq => by have := hl7.own j hq; omega))
              obtain ⟨D, hD⟩ : ∃ D, dropm M A N = D := ⟨_, rfl⟩
              have hDl : D.length ≤ 150 := by rw [← hD]; have h1 := dropm_len M A N; have h2 := HMN.out; omega
              rw [hD] at HD8 HDS
              rw [hD]
              have cd2 := rdrop_any _ A5 c5 M2 A N V8 HR8.out (by rw [HM2.out]; omega)
              rw [HM2.out] at cd2
              clear p0 p1 cd1 ho8 hb8 hl7 HL7 HR7 hD
              obtain ⟨p0, p1⟩ := KP.out _ HL8.out.bel
              obtain ⟨wd1, hwd1⟩ : ∃ b, decide (D.length < M.length) = b := ⟨_, rfl⟩
              rw [hwd1]
              clear hwd1
              go_wp2_with fail
              refine cd2.mono ?_
              rintro e V9 ⟨A9, c9, rfl, ho9, hb9⟩
              have HL9 := Lib.hid (HL8.out.below hb9)
              have hl8 := HL8.out
              have HD9 := Lib.hid (HD8.out.grown hb9)
              rw [HDS.out] at ho9 ⊢
              have HE9 : Hid (Rd (fun j => ¬ S1 j) V9 A9 (eflat D)) := Lib.hid (ho9.rd.more (fun j hj _ hq => by have := hl8.own j hq; omega))
              have ctd := tdrop_all S1 tb A N M2 V9 HL9.out.tz hA (by rw [HM2.out]; omega)
              rw [HGS.out, HDS.out] at ctd
              clear p0 p1 cd2 ho9 hb9 hl8 HL8 HR8 HD8
              obtain ⟨p0, p1⟩ := KP.out _ HL9.out.bel
              obtain ⟨wd2, hwd2⟩ : ∃ b, decide (D.length < M2.length) = b := ⟨_, rfl⟩
              rw [hwd2]
              clear hwd2
              obtain ⟨dn, hdn⟩ : ∃ dn, D.length = dn := ⟨_, rfl⟩
              have HDN := Lib.hid hdn
              rw [hdn] at hDl
              rw [hdn]
              clear hdn
              go_wp2_with fail
              refine ctd.mono ?_
              rintro e V10 ⟨rfl, hg⟩
              have hsz : V9.heap.size ≤ V10.heap.size := by obtain ⟨_, _, k, _⟩ := hg; exact k.size
              obtain ⟨S2, hL10, hkp⟩ := HL9.out.grewk hg
              have HL10 := Lib.hid hL10
              have HD10 := Lib.hid (HD9.out.grewk hkp hsz)
              have HE10 := Lib.hid (HE9.out.grewk hkp hsz)
              clear p0 p1 ctd hg hkp hsz hL10 HL9 HD9 HE9
              simp only [Option.isSome_some]
              go_wp2_with fail
              refine (alive_any _).mono ?_
              rintro e V11 ⟨rfl, hb11⟩
              have HL11 := Lib.hid (HL10.out.below hb11)
              have HD11 := Lib.hid (HD10.out.grown hb11)
              have csm := same_any _ _ A8 A9 c8 c9 D D V11 HD11.out (HE10.out.grown hb11) (by rw [HDN.out]; omega)
              rw [decide_eq_true rfl, HDN.out] at csm
              clear hb11 HL10 HD10 HE10
              go_wp2_with fail
              refine csm.mono ?_
              rintro e V12 ⟨rfl, hb12⟩
              have HL12 := Lib.hid (HL11.out.below hb12)
              have HD12 := Lib.hid (HD11.out.grown hb12)
              have cw2 := walk_any S2 tb D V12 HL12.out.tz (by rw [HDN.out]; omega)
              clear csm hb12 HL11 HD11
              go_wp2_with fail
              refine cw2.mono ?_
              rintro e V13 ⟨A13, c13, rfl, ho13, hb13⟩
              have HL13 := Lib.hid (HL12.out.below hb13)
              have csm := same_any _ _ A13 A8 c13 c8 D D V13 ho13.rd (HD12.out.grown hb13) (by rw [HDN.out]; omega)
              rw [decide_eq_true rfl, HDN.out] at csm
              rw [HDN.out]
              clear cw2 ho13 hb13 HL12 HD12
              go_wp2_with fail
              refine csm.mono ?_
              rintro e V14 ⟨rfl, hb14⟩
              have bb := HB0.out.trans ((HL13.out.below hb14).bel.mono HB0.out.size)
              clear csm hb14 HL13
              cases o <;> (simp only [Option.isSome_some, Option.isSome_none]; go_wp2; go_ret; exact ⟨rfl, bb⟩)
            | succ gf =>
              have lt0 : (i : Int) + 1 < (m2 : Int) := by omega
              have lt3 : (i : Int) < (m2 : Int) := by omega
              have hrd := HR6.out.grown hb.out
              obtain ⟨b, off, hA5, _, _, e0, e1, e2⟩ := hrd.entry (i := i) (by rw [HM2.out]; omega)
              obtain ⟨b', off', heq, _, _, f0, f1, f2⟩ := hrd.entry (i := i + 1) (by rw [HM2.out]; omega)
              subst hA5
              simp only [Option.some.injEq, Addr.mk.injEq] at heq
              obtain ⟨rfl, rfl, _⟩ := heq
              have hle := HL6.out.tz.om.next (i := i) (by rw [HM2.out]; omega)
              obtain ⟨y, hy⟩ : ∃ y, ge M2 i = y := ⟨_, rfl⟩
              obtain ⟨z, hz⟩ : ∃ z, ge M2 (i + 1) = z := ⟨_, rfl⟩
              rw [hy] at e0 e1 e2 hle
              rw [hz] at f0 f1 f2 hle
              have cc := fun W => rless_any y.A z.A y.N z.N W
              rw [hle] at cc
              have hw1 : (i : Int) + 1 ≤ 10000 := by omega
              have hwi : IntKind.i64.wrap (i : Int) = (i : Int) := by rw [IntKind.wrap_i64]; omega
              have g0 := cell_regrown e0
              have g1 := cell_regrown e1
              have g2 := cell_regrown f0
              have g3 := cell_regrown f1
              have x1 : ∀ d os, _ := fun d os => Calls.regrown_of (w := wr) (d := d) (os := os) (cc _)
              have hi1 : ((i : Int) + 1).toNat = i + 1 := by omega
              clear hrd hle hy hz cc e0 e1 e2 f0 f1 f2
              go_wp2_with fail
              refine wp_region_quiet_below (by kernel_rfl) (by kernel_rfl) ?_
              iterate 11 (go_big_quiet_step (fail))
              go_big_quiet_step (with_reducible exact x1 _ _)
              go_big_quiet_step (fail)
              refine wpQuiet_nil ?_
              intro wz hw'
              obtain ⟨⟨dq, osq⟩, hw''⟩ := hw'
              have hbW := below_regrown wr dq osq
              rw [← hw''] at hbW
              have HB4 := Lib.hid (hb.out.trans (hbW.mono hb.out.size))
              clear hw'' g0 g1 g2 g3 x1 hbW hb
              go_wp2
              go_roundg gf
              case measure => omega
              case rel => exact ⟨i + 1, by go_num, Lib.hid (by omega), HB4⟩
        | false =>
          rw [show ern A N = 1 by simp [ern, hp], show putm M A N V = M by simp [putm, hp]] at cs
          have hgs := getm_bad HOM.out hp
          have hoN : o = none := by rw [← HO.out, hgs]
          subst hoN
          obtain ⟨M2, hM2⟩ : ∃ M2, M = M2 := ⟨_, rfl⟩
          have HGS : Hid (getm M2 A N = none) := Lib.hid (by rw [← hM2]; exact hgs)
          have HDS : Hid (dropm M2 A N = dropm M A N) := Lib.hid (by rw [hM2])
          have hM2l : M2.length ≤ 151 := by rw [← hM2, HMN.out]; omega
          have cs' : Calls Try.prog 12 #[.pointer (some ⟨tb, 0, none⟩), pf A N, .int .i64 V] V2 fun e w' => e = .returned (.int .i64 1) ∧ Grew S V2 tb M2 w' := by rw [← hM2]; exact cs
          clear cs hM2 hgs
          have cs := cs'
          clear cs'
          simp only [Option.isSome_none]
          have cm := fun W => rmay_any A N W hA
          rw [hp] at cm
          clear hp
          go_wp2_with fail
          refine cs.mono ?_
          rintro e V3 ⟨rfl, hg⟩
          obtain ⟨S1, hL3, hkp⟩ := HL2.out.grewk hg
          obtain ⟨nd1, en1, tn1, _⟩ := hL3.tz
          have cg := get_any tb nd1 en1 M2 _ A N V3 tn1 hA
          rw [HGS.out] at cg
          simp only [gtv] at cg
          have HL3 := Lib.hid hL3
          clear p0 p1 cs hg hkp hL3 tn1 HL2
          obtain ⟨p0, p1⟩ := KP.out _ HL3.out.bel
          go_wp2_with fail
          refine cg.mono ?_
          rintro e V4 ⟨rfl, hb4⟩
          have HL4 := Lib.hid (HL3.out.below hb4)
          have cw := walk_any S1 tb M2 V4 HL4.out.tz (by omega)
          clear p0 p1 cg hb4 HL3
          go_wp2_with fail
          refine cw.mono ?_
          rintro e V5 ⟨A5, c5, rfl, ho5, hb5⟩
          have HL5 := Lib.hid (HL4.out.below hb5)
          have hl4 := HL4.out
          have HR5 : Hid (Rd (fun j => ¬ S1 j) V5 A5 (eflat M2)) := Lib.hid (ho5.rd.more (fun j hj _ hq => by have := hl4.own j hq; omega))
          clear cw ho5 hb5 HL4 hl4
          obtain ⟨p0, p1⟩ := KP.out _ HL5.out.bel
          obtain ⟨m2, hm2⟩ : ∃ m2, M2.length = m2 := ⟨_, rfl⟩
          have HM2 := Lib.hid hm2
          rw [hm2] at hM2l
          rw [hm2]
          clear hm2
          go_wp2_with fail
          refine (cm _).mono ?_
          rintro e V6 ⟨rfl, hb6⟩
          have HL6 := Lib.hid (HL5.out.below hb6)
          have HR6 := Lib.hid (HR5.out.grown hb6)
          clear p0 p1 cm hb6 HL5 HR5
          go_wp2_with fail
          go_loopg [16] (m2 - 1) (fun gf v16 wx => ∃ (i : Nat), v16 = .int .i64 ((i : Int) + 1) ∧ Hid (gf + i = m2 - 1) ∧ Hid (Below V6.heap.size V6 wx))
          case atStart => exact ⟨0, rfl, Lib.hid (by omega), Lib.hid (Below.refl _ _)⟩
          case round =>
            obtain ⟨i, rfl, hi, hb⟩ := hrel
            have hi' := hi.out
            cases gk with
            | zero =>
              have lt0 : decide ((i : Int) + 1 < (m2 : Int)) = false := by simp; omega
              have HL7 := Lib.hid (HL6.out.below hb.out)
              have HR7 := Lib.hid (HR6.out.grown hb.out)
              have cd1 := rdrop_any _ A1 c1 M A N wr HL7.out.row (by rw [HMN.out]; omega)
              rw [HMN.out] at cd1
              clear hb hi hi' HL6 HR6
              obtain ⟨p0, p1⟩ := KP.out _ HL7.out.bel
              go_wp2_with fail
              refine cd1.mono ?_
              rintro e V8 ⟨A8, c8, rfl, ho8, hb8⟩
              have HL8 := Lib.hid (HL7.out.below hb8)
              have hl7 := HL7.out
              have HR8 := Lib.hid (HR7.out.grown hb8)
              have HD8 : Hid (Rd (fun j => ¬ S1 j) V8 A8 (eflat (dropm M A N))) := Lib.hid (ho8.rd.more (fun j hj _ hq => by have := hl7.own j hq; omega))
              obtain ⟨D, hD⟩ : ∃ D, dropm M A N = D := ⟨_, rfl⟩
              have hDl : D.length ≤ 150 := by rw [← hD]; have h1 := dropm_len M A N; have h2 := HMN.out; omega
              rw [hD] at HD8 HDS
              rw [hD]
              have cd2 := rdrop_any _ A5 c5 M2 A N V8 HR8.out (by rw [HM2.out]; omega)
              rw [HM2.out] at cd2
              clear p0 p1 cd1 ho8 hb8 hl7 HL7 HR7 hD
              obtain ⟨p0, p1⟩ := KP.out _ HL8.out.bel
              obtain ⟨wd1, hwd1⟩ : ∃ b, decide (D.length < M.length) = b := ⟨_, rfl⟩
              rw [hwd1]
              clear hwd1
              go_wp2_with fail
              refine cd2.mono ?_
              rintro e V9 ⟨A9, c9, rfl, ho9, hb9⟩
              have HL9 := Lib.hid (HL8.out.below hb9)
              have hl8 := HL8.out
              have HD9 := Lib.hid (HD8.out.grown hb9)
              rw [HDS.out] at ho9 ⊢
              have HE9 : Hid (Rd (fun j => ¬ S1 j) V9 A9 (eflat D)) := Lib.hid (ho9.rd.more (fun j hj _ hq => by have := hl8.own j hq; omega))
              have ctd := tdrop_all S1 tb A N M2 V9 HL9.out.tz hA (by rw [HM2.out]; omega)
              rw [HGS.out, HDS.out] at ctd
              clear p0 p1 cd2 ho9 hb9 hl8 HL8 HR8 HD8
              obtain ⟨p0, p1⟩ := KP.out _ HL9.out.bel
              obtain ⟨wd2, hwd2⟩ : ∃ b, decide (D.length < M2.length) = b := ⟨_, rfl⟩
              rw [hwd2]
              clear hwd2
              obtain ⟨dn, hdn⟩ : ∃ dn, D.length = dn := ⟨_, rfl⟩
              have HDN := Lib.hid hdn
              rw [hdn] at hDl
              rw [hdn]
              clear hdn
              go_wp2_with fail
              refine ctd.mono ?_
              rintro e V10 ⟨rfl, hg⟩
              have hsz : V9.heap.size ≤ V10.heap.size := by obtain ⟨_, _, k, _⟩ := hg; exact k.size
              obtain ⟨S2, hL10, hkp⟩ := HL9.out.grewk hg
              have HL10 := Lib.hid hL10
              have HD10 := Lib.hid (HD9.out.grewk hkp hsz)
              have HE10 := Lib.hid (HE9.out.grewk hkp hsz)
              clear p0 p1 ctd hg hkp hsz hL10 HL9 HD9 HE9
              simp only [Option.isSome_none]
              go_wp2_with fail
              refine (alive_any _).mono ?_
              rintro e V11 ⟨rfl, hb11⟩
              have HL11 := Lib.hid (HL10.out.below hb11)
              have HD11 := Lib.hid (HD10.out.grown hb11)
              have csm := same_any _ _ A8 A9 c8 c9 D D V11 HD11.out (HE10.out.grown hb11) (by rw [HDN.out]; omega)
              rw [decide_eq_true rfl, HDN.out] at csm
              clear hb11 HL10 HD10 HE10
              go_wp2_with fail
              refine csm.mono ?_
              rintro e V12 ⟨rfl, hb12⟩
              have HL12 := Lib.hid (HL11.out.below hb12)
              have HD12 := Lib.hid (HD11.out.grown hb12)
              have cw2 := walk_any S2 tb D V12 HL12.out.tz (by rw [HDN.out]; omega)
              clear csm hb12 HL11 HD11
              go_wp2_with fail
              refine cw2.mono ?_
              rintro e V13 ⟨A13, c13, rfl, ho13, hb13⟩
              have HL13 := Lib.hid (HL12.out.below hb13)
              have csm := same_any _ _ A13 A8 c13 c8 D D V13 ho13.rd (HD12.out.grown hb13) (by rw [HDN.out]; omega)
              rw [decide_eq_true rfl, HDN.out] at csm
              rw [HDN.out]
              clear cw2 ho13 hb13 HL12 HD12
              go_wp2_with fail
              refine csm.mono ?_
              rintro e V14 ⟨rfl, hb14⟩
              have bb := HB0.out.trans ((HL13.out.below hb14).bel.mono HB0.out.size)
              clear csm hb14 HL13
              go_wp2
              go_ret
              exact ⟨rfl, bb⟩
            | succ gf =>
              have lt0 : (i : Int) + 1 < (m2 : Int) := by omega
              have lt3 : (i : Int) < (m2 : Int) := by omega
              have hrd := HR6.out.grown hb.out
              obtain ⟨b, off, hA5, _, _, e0, e1, e2⟩ := hrd.entry (i := i) (by rw [HM2.out]; omega)
              obtain ⟨b', off', heq, _, _, f0, f1, f2⟩ := hrd.entry (i := i + 1) (by rw [HM2.out]; omega)
              subst hA5
              simp only [Option.some.injEq, Addr.mk.injEq] at heq
              obtain ⟨rfl, rfl, _⟩ := heq
              have hle := HL6.out.tz.om.next (i := i) (by rw [HM2.out]; omega)
              obtain ⟨y, hy⟩ : ∃ y, ge M2 i = y := ⟨_, rfl⟩
              obtain ⟨z, hz⟩ : ∃ z, ge M2 (i + 1) = z := ⟨_, rfl⟩
              rw [hy] at e0 e1 e2 hle
              rw [hz] at f0 f1 f2 hle
              have cc := fun W => rless_any y.A z.A y.N z.N W
              rw [hle] at cc
              have hw1 : (i : Int) + 1 ≤ 10000 := by omega
              have hwi : IntKind.i64.wrap (i : Int) = (i : Int) := by rw [IntKind.wrap_i64]; omega
              have g0 := cell_regrown e0
              have g1 := cell_regrown e1
              have g2 := cell_regrown f0
              have g3 := cell_regrown f1
              have x1 : ∀ d os, _ := fun d os => Calls.regrown_of (w := wr) (d := d) (os := os) (cc _)
              have hi1 : ((i : Int) + 1).toNat = i + 1 := by omega
              clear hrd hle hy hz cc e0 e1 e2 f0 f1 f2
              go_wp2_with fail
              refine wp_region_quiet_below (by kernel_rfl) (by kernel_rfl) ?_
              iterate 11 (go_big_quiet_step (fail))
              go_big_quiet_step (with_reducible exact x1 _ _)
              go_big_quiet_step (fail)
              refine wpQuiet_nil ?_
              intro wz hw'
              obtain ⟨⟨dq, osq⟩, hw''⟩ := hw'
              have hbW := below_regrown wr dq osq
              rw [← hw''] at hbW
              have HB4 := Lib.hid (hb.out.trans (hbW.mono hb.out.size))
              clear hw'' g0 g1 g2 g3 x1 hbW hb
              go_wp2
              go_roundg gf
              case measure => omega
              case rel => exact ⟨i + 1, by go_num, Lib.hid (by omega), HB4⟩
    | succ gf =>
      have hkl : k < s.length := by rw [HSN.out]; omega
      have lt0 : (k : Int) < (sn : Int) := by omega
      have lt2 : (k : Int) < 150 := by omega
      obtain ⟨b, off, hA0, hxA, hxa, q1, q2, q3, q4, q5⟩ := (HS.out _ hL.bel).at_ hkl
      obtain ⟨x, hx⟩ : ∃ x, ga s k = x := ⟨_, rfl⟩
      have hal := put_len hL.tz.om x.A x.N x.V
      rw [hx] at hxA hxa q1 q2 q3 q4 q5
      subst hA0
      have Sof : Hid (∀ V, Below W0.heap.size W0 V → V.cell? ⟨b, off + k * 5 + 1, none⟩ = some (.int .u32 (x.A : Int)) ∧ V.cell? ⟨b, off + k * 5 + 2, none⟩ = some (.int .i64 x.N) ∧ V.cell? ⟨b, off + k * 5 + 3, none⟩ = some (.int .i64 x.V)) := Lib.hid (fun V hV => by
        obtain ⟨b', off', heq, _, _, _, z2, z3, z4, _⟩ := (HS.out _ hV).at_ hkl
        simp only [Option.some.injEq, Addr.mk.injEq] at heq
        obtain ⟨rfl, rfl, _⟩ := heq
        rw [hx] at z2 z3 z4
        exact ⟨z2, z3, z4⟩)
      have HL := Lib.hid hL.drew
      clear hx hkl hL q5
      go_upto_region 7 with fail
      refine wp_region_held_drew (S := fun V => V.cell? ⟨b, off + k * 5 + 1, none⟩ = some (.int .u32 (x.A : Int)) ∧ V.cell? ⟨b, off + k * 5 + 2, none⟩ = some (.int .i64 x.N) ∧ V.cell? ⟨b, off + k * 5 + 3, none⟩ = some (.int .i64 x.V)) (by kernel_rfl) ⟨q2, q3, q4⟩ (fun hHeld => ?_)
      refine wpAnyH_take (i := 0) (v := ?_) rfl (by kernel_rfl) (by kernel_rfl) (by kernel_rfl) (fun _ _ _ h => h) (Or.inl ⟨by rfl, ?_⟩) (by assumption) ?_
      rotate_left
      · (intro w' hSw; (try dsimp only at hSw); go_simp; try with_reducible rfl)
      simp only [Act.put, List.getElem_toArray, List.getElem_cons_zero, List.setIfInBounds_toArray, List.set_cons_zero, List.set_cons_succ]
      refine wpAnyH_take (i := 1) (v := ?_) rfl (by kernel_rfl) (by kernel_rfl) (by kernel_rfl) (fun _ _ _ h => h) (Or.inl ⟨by rfl, ?_⟩) (by assumption) ?_
      rotate_left
      · (intro w' hSw; (try dsimp only at hSw); go_simp; try with_reducible rfl)
      simp only [Act.put, List.getElem_toArray, List.getElem_cons_zero, List.getElem_cons_succ, List.setIfInBounds_toArray, List.set_cons_zero, List.set_cons_succ]
      refine wpAnyH_take (i := 2) (v := ?_) rfl (by kernel_rfl) (by kernel_rfl) (by kernel_rfl) (fun _ _ _ h => h) (Or.inl ⟨by rfl, ?_⟩) (by assumption) ?_
      rotate_left
      · (intro w' hSw; (try dsimp only at hSw); go_simp; try with_reducible rfl)
      simp only [Act.put, List.getElem_toArray, List.getElem_cons_zero, List.getElem_cons_succ, List.setIfInBounds_toArray, List.set_cons_zero, List.set_cons_succ]
      refine wpAnyH_take (i := 3) (v := ?_) rfl (by kernel_rfl) (by kernel_rfl) (by kernel_rfl) (fun _ _ _ h => h) (Or.inl ⟨by rfl, ?_⟩) (by assumption) ?_
      rotate_left
      · (intro w' hSw; (try dsimp only at hSw); go_simp; try with_reducible rfl)
      simp only [Act.put, List.getElem_toArray, List.getElem_cons_zero, List.getElem_cons_succ, List.setIfInBounds_toArray, List.set_cons_zero, List.set_cons_succ]
      refine wpAnyH_take (i := 4) (v := ?_) rfl (by kernel_rfl) (by kernel_rfl) (by kernel_rfl) (fun _ _ _ h => h) (Or.inl ⟨by rfl, ?_⟩) (by assumption) ?_
      rotate_left
      · (intro w' hSw; (try dsimp only at hSw); go_simp; try with_reducible rfl)
      simp only [Act.put, List.getElem_toArray, List.getElem_cons_zero, List.getElem_cons_succ, List.setIfInBounds_toArray, List.set_cons_zero, List.set_cons_succ]
      refine wpAnyH_take (i := 5) (v := ?_) rfl (by kernel_rfl) (by kernel_rfl) (by kernel_rfl) (fun _ _ _ h => h) (Or.inl ⟨by rfl, ?_⟩) (by assumption) ?_
      rotate_left
      · (intro w' hSw; (try dsimp only at hSw); go_simp; try with_reducible rfl)
      simp only [Act.put, List.getElem_toArray, List.getElem_cons_zero, List.getElem_cons_succ, List.setIfInBounds_toArray, List.set_cons_zero, List.set_cons_succ]
      refine wpAnyH_take (i := 6) (v := ?_) rfl (by kernel_rfl) (by kernel_rfl) (by kernel_rfl) (fun _ _ _ h => h) (Or.inl ⟨by rfl, ?_⟩) (by assumption) ?_
      rotate_left
      · (intro w' hSw; (try dsimp only at hSw); go_simp; try with_reducible rfl)
      simp only [Act.put, List.getElem_toArray, List.getElem_cons_zero, List.getElem_cons_succ, List.setIfInBounds_toArray, List.set_cons_zero, List.set_cons_succ]
      refine wpAnyH_take (i := 7) (v := ?_) rfl (by kernel_rfl) (by kernel_rfl) (by kernel_rfl) (fun _ _ _ h => h) (Or.inl ⟨by rfl, ?_⟩) (by assumption) ?_
      rotate_left
      · (intro w' hSw; (try dsimp only at hSw); go_simp; try with_reducible rfl)
      simp only [Act.put, List.getElem_toArray, List.getElem_cons_zero, List.getElem_cons_succ, List.setIfInBounds_toArray, List.set_cons_zero, List.set_cons_succ]
      refine wpAnyH_take (i := 8) (v := ?_) rfl (by kernel_rfl) (by kernel_rfl) (by kernel_rfl) (fun _ _ _ h => h) (Or.inl ⟨by rfl, ?_⟩) (by assumption) ?_
      rotate_left
      · (intro w' hSw; (try dsimp only at hSw); go_simp; try with_reducible rfl)
      simp only [Act.put, List.getElem_toArray, List.getElem_cons_zero, List.getElem_cons_succ, List.setIfInBounds_toArray, List.set_cons_zero, List.set_cons_succ]
      refine wpAnyH_take (i := 9) (v := ?_) rfl (by kernel_rfl) (by kernel_rfl) (by kernel_rfl) (fun _ _ _ h => h) (Or.inl ⟨by rfl, ?_⟩) (by assumption) ?_
      rotate_left
      · (intro w' hSw; (try dsimp only at hSw); go_simp; try with_reducible rfl)
      simp only [Act.put, List.getElem_toArray, List.getElem_cons_zero, List.getElem_cons_succ, List.setIfInBounds_toArray, List.set_cons_zero, List.set_cons_succ]
      refine wpAnyH_take (i := 10) (v := ?_) rfl (by kernel_rfl) (by kernel_rfl) (by kernel_rfl) (fun _ _ _ h => h) (Or.inl ⟨by rfl, ?_⟩) (by assumption) ?_
      rotate_left
      · (intro w' hSw; (try dsimp only at hSw); go_simp; try with_reducible rfl)
      simp only [Act.put, List.getElem_toArray, List.getElem_cons_zero, List.getElem_cons_succ, List.setIfInBounds_toArray, List.set_cons_zero, List.set_cons_succ]
      obtain ⟨X0, hX0⟩ : ∃ X, wr.drew = X := ⟨_, rfl⟩
      rw [hX0] at HL ⊢
      clear hX0 hHeld q1 q2 q3 q4
      refine wpAnyH_ready (rs := [11]) (by kernel_rfl) (by simp) ?_
      refine AllReadyH.cons rfl (fun K hK => ?_) AllReadyH.nil
      go_simp
      go_at_call 12
      refine (tset_all S tb x.A x.N x.V M X0 HL.out.tz hxA (by omega)).mono ?_
      rintro e X1 ⟨rfl, hg⟩
      have HL1 := Lib.hid (HL.out.grew hg)
      have SF := Lib.hid (Sof.out X1 (by obtain ⟨_, h⟩ := HL1.out; exact h.bel))
      clear hg HL
      refine hK.out _ _ SF.out (fun _ => ?_)
      clear hK K SF
      refine wpAnyH_done (by kernel_rfl) ?_ _
      go_wp2
      go_roundg gf
      case measure => omega
      case rel => exact ⟨k + 1, by go_num, Lib.hid (by omega), Lib.hid (by obtain ⟨S', h⟩ := HL1.out; exact ⟨_, S', by omega, h⟩)⟩
end Go.Proofs.Ytlmcgjdenfnkmaa
