/-
  The walk of the law TrieAlike. No statement is proved here; no conditions.
-/
import Derived.Test.YtlmcgjdenfnkmaaOrder
namespace Go.Proofs.Ytlmcgjdenfnkmaa
open Go.RowKit Go.Joins

/-- The entries are those of the acts of P, of the value 7. -/
def Al (s : List Ac) (P : Nat → Prop) (m : List En) : Prop := ∀ y : En, y ∈ m ↔ ∃ j, P j ∧ okp (ga s j).A (ga s j).N = true ∧ y = ⟨(ga s j).A, (ga s j).N, 7⟩
theorem Al.put {s : List Ac} {P : Nat → Prop} {m : List En} (h : Al s P m) (i : Nat) : Al s (fun j => P j ∨ j = i) (putm m (ga s i).A (ga s i).N 7) := by
  intro y
  unfold putm
  cases hp : okp (ga s i).A (ga s i).N with
  | true =>
    rw [if_pos rfl, mem_setm, h y]
    constructor
    · rintro (rfl | ⟨⟨j, h1, h2⟩, _⟩)
      · exact ⟨i, .inr rfl, hp, rfl⟩
      · exact ⟨j, .inl h1, h2⟩
    · rintro ⟨j, h1 | rfl, h2, h3⟩
      · cases hs : sp (ga s i).A (ga s i).N y with
        | false => exact .inr ⟨⟨j, h1, h2, h3⟩, rfl⟩
        | true =>
          left
          obtain ⟨a1, a2⟩ := sp_iff.1 hs
          rw [h3] at a1 a2 ⊢
          simp only at a1 a2
          rw [a1, a2]
      · exact .inl h3
  | false =>
    simp only [Bool.false_eq_true, if_false]
    rw [h y]
    constructor
    · rintro ⟨j, h1, h2⟩
      exact ⟨j, .inl h1, h2⟩
    · rintro ⟨j, h1 | rfl, h2, h3⟩
      · exact ⟨j, h1, h2, h3⟩
      · rw [hp] at h2; cases h2
theorem Al.congr {s : List Ac} {P Q : Nat → Prop} {m : List En} (h : Al s P m) (hq : ∀ j, P j ↔ Q j) : Al s Q m := by
  intro y
  rw [h y]
  exact ⟨fun ⟨j, h1, h2⟩ => ⟨j, (hq j).1 h1, h2⟩, fun ⟨j, h1, h2⟩ => ⟨j, (hq j).2 h1, h2⟩⟩
/-- Two tries, apart. -/
structure L2 (w0 : World) (tb ub : Nat) (mt mu : List En) (S U : Nat → Prop) (wx : World) : Prop where
  t : Tz S wx tb mt
  u : Tz U wx ub mu
  ownt : ∀ j, S j → w0.heap.size ≤ j ∧ j < wx.heap.size
  ownu : ∀ j, U j → w0.heap.size ≤ j ∧ j < wx.heap.size
  dis : ∀ j, S j → ¬ U j
  bel : Below w0.heap.size w0 wx
section
variable {w0 w w' : World} {tb ub : Nat} {mt mu mt' mu' : List En} {S U : Nat → Prop}
theorem L2.below (h : L2 w0 tb ub mt mu S U w) (hb : Below w.heap.size w w') : L2 w0 tb ub mt mu S U w' :=
  ⟨h.t.below hb, h.u.below hb, fun j hj => ⟨(h.ownt j hj).1, Nat.lt_of_lt_of_le (h.ownt j hj).2 hb.size⟩, fun j hj => ⟨(h.ownu j hj).1, Nat.lt_of_lt_of_le (h.ownu j hj).2 hb.size⟩, h.dis, h.bel.trans (hb.mono h.bel.size)⟩
theorem L2.grewt (h : L2 w0 tb ub mt mu S U w) (hg : Grew S w tb mt' w') : ∃ S', L2 w0 tb ub mt' mu S' U w' := by
  obtain ⟨S', h1, h2, h3⟩ := hg
  have hs := h2.size
  have hw := h.bel.size
  refine ⟨S', h1, h.u.kp h2 (fun j hu hs => h.dis j hs hu), fun j hj => ?_, fun j hj => by have := h.ownu j hj; omega, fun j hj hu => ?_, h.bel.trans (h2.below (fun j hj => (h.ownt j hj).1) h.bel.size)⟩
  · rcases h3 j hj with q | q
    · have := h.ownt j q; omega
    · omega
  · rcases h3 j hj with q | q
    · exact h.dis j q hu
    · have := h.ownu j hu; omega
theorem L2.grewu (h : L2 w0 tb ub mt mu S U w) (hg : Grew U w ub mu' w') : ∃ U', L2 w0 tb ub mt mu' S U' w' := by
  obtain ⟨U', h1, h2, h3⟩ := hg
  have hs := h2.size
  have hw := h.bel.size
  refine ⟨U', h.t.kp h2 (fun j hs hu => h.dis j hs hu), h1, fun j hj => by have := h.ownt j hj; omega, fun j hj => ?_, fun j hj hu => ?_, h.bel.trans (h2.below (fun j hj => (h.ownu j hj).1) h.bel.size)⟩
  · rcases h3 j hj with q | q
    · have := h.ownu j q; omega
    · omega
  · rcases h3 j hu with q | q
    · exact h.dis j hj q
    · have := h.ownt j hj; omega
end
/-- What holds in the loop. -/
def L2k (w0 : World) (tb ub : Nat) (s : List Ac) (n k : Nat) (wx : World) : Prop := ∃ mt mu S U, L2 w0 tb ub mt mu S U wx ∧ mt.length ≤ 2 * k ∧ mu.length ≤ 2 * k ∧ Al s (fun j => j < k) mt ∧ Al s (fun j => n - k ≤ j ∧ j < n) mu
set_option maxRecDepth 100000 in
set_option maxHeartbeats 8000000 in
theorem alike_walk (A0 : Option Addr) (c : Nat) (s : List Ac) (a : Nat) (w : World) (hs : Sc (· < w.heap.size) w A0 s) (ha : a < 4294967296) :
    Calls Try.prog 8 #[.slice A0 s.length c, .int .u32 (a : Int)] w fun e w' => e = .returned (.bool true) ∧ Below w.heap.size w w' := by
  have HS : Hid (∀ V, Below w.heap.size w V → Sc (· < w.heap.size) V A0 s) := Lib.hid (fun V hV => hs.below hV (fun _ h => h))
  obtain ⟨sn, hsn⟩ : ∃ sn, s.length = sn := ⟨_, rfl⟩
  obtain ⟨n, hn⟩ : ∃ n, min sn 150 = n := ⟨_, rfl⟩
  have HSN := Lib.hid hsn
  have hn1 : n ≤ sn := by omega
  have hn2 : n ≤ 150 := by omega
  have hmin : ∀ W, (Builtin.min_ #[3, 3] 3 #[.int .i64 (sn : Int), .int .i64 150]).run Try.prog W = .ok (.int .i64 (n : Int)) W := fun W => by
    rw [run_min_int2]
    have : (if (150 : Int) < (sn : Int) then (150 : Int) else (sn : Int)) = (n : Int) := by split <;> omega
    rw [this]
  rw [hsn]
  clear hs hsn hn
  go_enter Try.func8, Try.ntmps8
  go_wp2_with fail
  refine (new_any _).mono ?_
  rintro e W1 ⟨rfl, b1, s1, t1⟩
  have HB1 := Lib.hid b1
  have HT1 := Lib.hid t1
  clear b1 t1
  go_wp2_with fail
  refine (new_any _).mono ?_
  rintro e W2 ⟨rfl, b2, s2, t2⟩
  have L0 : Hid (L2k w w.heap.size W1.heap.size s n 0 W2) := Lib.hid ⟨[], [], _, _, ⟨HT1.out.below b2, t2, fun j hj => by omega, fun j hj => by omega, fun j hj => by omega, HB1.out.trans (b2.mono (by omega))⟩, by simp, by simp, fun y => by simp, fun y => by simp; omega⟩
  obtain ⟨tb, htb⟩ : ∃ tb, w.heap.size = tb := ⟨_, rfl⟩
  obtain ⟨ub, hub⟩ : ∃ ub, W1.heap.size = ub := ⟨_, rfl⟩
  have L1 : Hid (L2k w tb ub s n 0 W2) := Lib.hid (by rw [← htb, ← hub]; exact L0.out)
  rw [htb]
  rw [hub]
  clear L0 b2 t2 HB1 HT1 s2 s1 htb hub
  go_wp2_with fail
  go_loopg [8] n (fun gf v8 wx => ∃ (k : Nat), v8 = .int .i64 (k : Int) ∧ Hid (gf + k = n) ∧ Hid (L2k w tb ub s n k wx))
  case atStart => exact ⟨0, rfl, Lib.hid (by omega), L1⟩
  case round =>
    obtain ⟨k, rfl, hk, hL⟩ := hrel
    have hk' := hk.out
    clear L1
    obtain ⟨mt, mu, S, U, hL, hl1, hl2, al1, al2⟩ := hL.out
    cases gk with
    | zero =>
      have e1 : k = n := by omega
      have lt0 : decide ((k : Int) < (n : Int)) = false := by simp; omega
      have lt1 : decide (k < n) = false := by simp; omega
      have e2 : mu = mt := uniq lse_asym hL.u.om.asc hL.t.om.asc fun y => by
        rw [al1 y, al2 y]
        subst e1
        exact ⟨fun ⟨j, h1, h2⟩ => ⟨j, h1.2, h2⟩, fun ⟨j, h1, h2⟩ => ⟨j, ⟨by omega, h1⟩, h2⟩⟩
      subst e2
      have hml : mu.length ≤ 300 := by omega
      have HL := Lib.hid hL
      have cf := find_any S tb a mu wr hL.t ha
      obtain ⟨o, ho⟩ : ∃ o, (abv mu a 32).getLast? = o := ⟨_, rfl⟩
      rw [ho] at cf
      have HO := Lib.hid ho
      obtain ⟨z, hz⟩ : ∃ z, o.getD zen = z := ⟨_, rfl⟩
      have HZE : Hid (fdv o = .tuple #[ev z, .bool o.isSome]) := Lib.hid (by rw [← hz]; cases o <;> rfl)
      rw [HZE.out] at cf
      clear hz ho e1 hk hk' hL hl1 hl2 al1 al2 HS hmin
      go_wp2_with fail
      refine cf.mono ?_
      rintro e V1 ⟨rfl, hb1⟩
      obtain ⟨xb, hxb⟩ : ∃ xb, V1.heap.size = xb := ⟨_, rfl⟩
      obtain ⟨V2, V3, hV2, ⟨r0, r1, r2, g0, g1, g2⟩, hV3, hx3, hb3⟩ := stored (z.A : Int) z.N z.V V1
      have HL5 := Lib.hid ((HL.out.below hb1).below hb3)
      rw [hxb] at hx3 hV3 r0 r1 r2 g0 g1 g2
      have HZ3 := Lib.hid hx3
      have cf2 := find_any U ub a mu V3 HL5.out.u ha
      rw [HO.out, HZE.out] at cf2
      clear cf hb1 hb3 hx3 HL
      go_wp2_with fail
      refine cf2.mono ?_
      rintro e V4 ⟨rfl, hb4⟩
      have HL6 := Lib.hid (HL5.out.below hb4)
      have hz4 := (hb4.block _ (lt_of_block HZ3.out)).trans HZ3.out
      clear cf2 HL5 hV2 hV3 r0 r1 r2 g0 g1 g2 hb4 hxb
      obtain ⟨xc, hxc⟩ : ∃ xc, V4.heap.size = xc := ⟨_, rfl⟩
      obtain ⟨V5, V6, hV5, ⟨r0, r1, r2, g0, g1, g2⟩, hV6, hx6, hb6⟩ := stored (z.A : Int) z.N z.V V4
      have HL7 := Lib.hid (HL6.out.below hb6)
      have hz6 := (hb6.block _ (lt_of_block hz4)).trans hz4
      rw [hxc] at hx6 hV6 r0 r1 r2 g0 g1 g2
      have HZ6 := Lib.hid hz6
      have HX6 := Lib.hid hx6
      clear hz4 hb6 hz6 hx6 HL6 HZ3
      go_wp2_with fail
      refine (alive_any _).mono ?_
      rintro e V8 ⟨rfl, hb8⟩
      have HL8 := Lib.hid (HL7.out.below hb8)
      have HZ8 := Lib.hid ((hb8.block _ (lt_of_block HZ6.out)).trans HZ6.out)
      have HX8 := Lib.hid ((hb8.block _ (lt_of_block HX6.out)).trans HX6.out)
      have cw := walk_any S tb mu V8 HL8.out.t (by omega)
      clear hb8 HL7 HZ6 HX6 hV5 hV6 r0 r1 r2 g0 g1 g2 hxc
      go_wp2_with fail
      refine cw.mono ?_
      rintro e V9 ⟨A9, c9, rfl, ho9, hb9⟩
      have HL9 := Lib.hid (HL8.out.below hb9)
      have HZ9 := Lib.hid ((hb9.block _ (lt_of_block HZ8.out)).trans HZ8.out)
      have HX9 := Lib.hid ((hb9.block _ (lt_of_block HX8.out)).trans HX8.out)
      have HO9 := Lib.hid ho9
      have cw2 := walk_any U ub mu V9 HL9.out.u (by omega)
      obtain ⟨mn, hmn⟩ : ∃ mn, mu.length = mn := ⟨_, rfl⟩
      have HMN := Lib.hid hmn
      rw [hmn] at hml
      rw [hmn]
      clear cw hb9 ho9 HL8 HZ8 HX8 hmn
      go_wp2_with fail
      refine cw2.mono ?_
      rintro e V10 ⟨A10, c10, rfl, ho10, hb10⟩
      have HL10 := Lib.hid (HL9.out.below hb10)
      have HZ10 := Lib.hid ((hb10.block _ (lt_of_block HZ9.out)).trans HZ9.out)
      have HX10 := Lib.hid ((hb10.block _ (lt_of_block HX9.out)).trans HX9.out)
      have csm := same_any _ _ A9 A10 c9 c10 mu mu V10 (HO9.out.below hb10).rd ho10.rd (by rw [HMN.out]; omega)
      rw [decide_eq_true rfl, HMN.out] at csm
      rw [HMN.out]
      clear cw2 hb10 ho10 HL9 HZ9 HX9 HO9
      go_wp2_with fail
      refine csm.mono ?_
      rintro e V11 ⟨rfl, hb11⟩
      have HL11 := Lib.hid (HL10.out.below hb11)
      have hz11 := (hb11.block _ (lt_of_block HZ10.out)).trans HZ10.out
      have hx11 := (hb11.block _ (lt_of_block HX10.out)).trans HX10.out
      obtain ⟨t0, t1, t2, _⟩ := blk3 hz11
      obtain ⟨u0, u1, u2, _⟩ := blk3 hx11
      obtain ⟨nd, en, tn, _⟩ := HL11.out.t
      obtain ⟨nd', en', tn', _⟩ := HL11.out.u
      have cl := len_any tb nd en mu _ V11 tn
      have cl' := len_any ub nd' en' mu _ V11 tn'
      rw [HMN.out] at cl cl'
      have hob : (o.isSome == o.isSome) = true := by simp
      clear csm hb11 hz11 hx11 HL10 HZ10 HX10 tn tn'
      go_wp2_with fail
      refine cl.mono ?_
      rintro e V12 ⟨rfl, hV12⟩
      subst hV12
      go_wp2_with fail
      refine cl'.mono ?_
      rintro e V13 ⟨rfl, hV13⟩
      subst hV13
      go_wp2
      go_ret
      exact ⟨rfl, HL11.out.bel⟩
    | succ gf =>
      have hkl : k < s.length := by rw [HSN.out]; omega
      have lt0 : (k : Int) < (n : Int) := by omega
      have lt3 : (k : Int) < (sn : Int) := by omega
      obtain ⟨r, hr⟩ : ∃ r, n = r + 1 + k := ⟨n - 1 - k, by omega⟩
      have hrl : r < s.length := by rw [HSN.out]; omega
      have hri : (n : Int) - 1 - (k : Int) = (r : Int) := by omega
      have lt4 : (r : Int) < (sn : Int) := by omega
      have hsc := HS.out _ hL.bel
      obtain ⟨b, off, hA0, hxA, _, _, q2, q3, _, _⟩ := hsc.at_ hkl
      obtain ⟨b', off', hA0', hyA, _, _, z2, z3, _, _⟩ := hsc.at_ hrl
      subst hA0
      simp only [Option.some.injEq, Addr.mk.injEq] at hA0'
      obtain ⟨rfl, rfl, _⟩ := hA0'
      have al1' := (al1.put k).congr (Q := fun j => j < k + 1) (fun j => by omega)
      have al2' := ((al2.put r).put r).congr (Q := fun j => n - (k + 1) ≤ j ∧ j < n) (fun j => by omega)
      have pl1 := put_len hL.t.om (ga s k).A (ga s k).N 7
      have om2 := hL.u.om.put (ga s r).N 7 hyA
      have pl2 := put_len hL.u.om (ga s r).A (ga s r).N 7
      have pl3 := put_len om2 (ga s r).A (ga s r).N 7
      have HA1 := Lib.hid al1'
      have HA2 := Lib.hid al2'
      have Sof : Hid (∀ V, Below w.heap.size w V → V.cell? ⟨b, off + r * 5 + 1, none⟩ = some (.int .u32 ((ga s r).A : Int)) ∧ V.cell? ⟨b, off + r * 5 + 2, none⟩ = some (.int .i64 (ga s r).N)) := Lib.hid (fun V hV => by
        obtain ⟨b', off', heq, _, _, _, z2, z3, _, _⟩ := (HS.out _ hV).at_ hrl
        simp only [Option.some.injEq, Addr.mk.injEq] at heq
        obtain ⟨rfl, rfl, _⟩ := heq
        exact ⟨z2, z3⟩)
      obtain ⟨x, hx⟩ : ∃ x, ga s k = x := ⟨_, rfl⟩
      obtain ⟨y, hy⟩ : ∃ y, ga s r = y := ⟨_, rfl⟩
      rw [hx] at hxA q2 q3 HA1 pl1
      rw [hy] at hyA z2 z3 HA2 pl2 pl3 Sof
      have cs := tset_all S tb x.A x.N 7 mt wr hL.t hxA (by omega)
      have HL := Lib.hid hL
      clear hL hsc al1 al2 al1' al2' om2 hx hy hkl hrl z2 z3
      have HR := Lib.hid hr
      clear hr
      go_wp2_with fail
      refine cs.mono ?_
      rintro e Y1 ⟨rfl, hg1⟩
      obtain ⟨S1, hL1⟩ := HL.out.grewt hg1
      have cs2 := tset_all U ub y.A y.N 7 mu Y1 hL1.u hyA (by omega)
      have HL1 := Lib.hid hL1
      clear cs hg1 hL1 HL q2 q3
      obtain ⟨z2, z3⟩ := Sof.out _ HL1.out.bel
      go_wp2_with fail
      refine cs2.mono ?_
      rintro e Y2 ⟨rfl, hg2⟩
      obtain ⟨U1, hL2⟩ := HL1.out.grewu hg2
      have cs3 := tset_all U1 ub y.A y.N 7 _ Y2 hL2.u hyA (by omega)
      have HL2 := Lib.hid hL2
      clear cs2 hg2 hL2 HL1 z2 z3
      obtain ⟨z2, z3⟩ := Sof.out _ HL2.out.bel
      go_wp2_with fail
      refine cs3.mono ?_
      rintro e Y3 ⟨rfl, hg3⟩
      have NX : Hid (L2k w tb ub s n (k + 1) Y3) := Lib.hid (by
        obtain ⟨U2, hL3⟩ := HL2.out.grewu hg3
        exact ⟨_, _, _, _, hL3, by omega, by omega, HA1.out, HA2.out⟩)
      clear cs3 hg3 HL2 z2 z3
      go_wp2
      go_roundg gf
      case measure => omega
      case rel => exact ⟨k + 1, by go_num, Lib.hid (by omega), NX⟩
end Go.Proofs.Ytlmcgjdenfnkmaa
