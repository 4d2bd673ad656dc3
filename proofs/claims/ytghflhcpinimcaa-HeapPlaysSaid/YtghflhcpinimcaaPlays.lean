/-
  The law HeapPlays's walk. No conditions.
-/
import Derived.Test.YtghflhcpinimcaaOrder
import Derived.Test.YtghflhcpinimcaaFrame
import Derived.Deep.DeepCutAuto
namespace Go.Proofs.Ytghflhcpinimcaa
open Go.RowKit Go.Joins

set_option maxHeartbeats 4000000 in
set_option maxRecDepth 100000 in
theorem plays_walk (A : Option Addr) (c : Nat) (l : List It) (A1 : Option Addr) (c1 : Nat) (s : List Ac) (w : World) (hl : Bs (· < w.heap.size) w A l) (hsc : Sc (· < w.heap.size) w A1 s) : Calls Try.prog 3 #[.slice A l.length c, .slice A1 s.length c1] w fun e w' => e = .returned (.bool true) ∧ Below w.heap.size w w' := by
  obtain ⟨i32, hi, hz, hsz, hby⟩ := info_two info32
  by_cases hlen : l.length > 100
  · have h1 : (100 : Int) < (l.length : Int) := by omega
    go_enter Try.func3, Try.ntmps3
    go_wp2_with fail
    refine (alive_any _).mono ?_
    rintro e W1 ⟨rfl, h1⟩
    go_wp2
    go_ret
    exact ⟨rfl, h1⟩
  · have h1 : decide ((100 : Int) < (l.length : Int)) = false := decide_eq_false (by omega)
    have h1' : decide (100 < l.length) = false := decide_eq_false (by omega)
    have HN : Hid (l.length ≤ 100) := Lib.hid (by omega)
    have HL := Lib.hid hl
    have HSc := Lib.hid hsc
    have r0 := Rw.lit w 32 [] #[] rfl (by simp)
    have hl0 := hl.below (below_alloc1 w (.cells #[] 32)) (fun j h _ => h)
    clear hl hlen hsc
    go_enter Try.func3, Try.ntmps3
    go_upto_region 4 with (at_builtin; refine wpList_app _ rfl (.tmp 17) (.tmp 18) 22 rfl 32 i32 _ Try.underlying22 hi hz hsz hby rfl w.heap.size 0 [] rfl r0 _ A l.length c l rfl rfl hl0 (by have := HN.out; simp; omega) ?_; intro l3 go co wa hL3 hRa hKa hGa)
    have e3 : l3 = l := by rw [hL3.out]; rfl
    subst e3
    have ba : Below w.heap.size w wa := (below_alloc1 w (.cells #[] 32)).trans (hKa.below (B := w.heap.size) (fun j hj => by omega) (by simp))
    have hgo : w.heap.size ≤ go := by
      rcases hGa with e | e
      · omega
      · simp at e; omega
    have nw := new_any _ (some ⟨go, 0, none⟩) co l3 wa hRa.bs (by have := HN.out; omega)
    have Ba := Lib.hid ba
    have Ra := Lib.hid hRa
    have Go := Lib.hid hgo
    clear hKa hGa hL3 r0 hl0 ba hRa hgo
    go_wp2_with fail
    refine nw.mono ?_
    rintro e W1 ⟨rfl, g1, p1, p2, p3⟩
    have P1 := Lib.hid p1
    have P2 : Hid (w.heap.size ≤ g1) := Lib.hid (by have := Ba.out.size; omega)
    have P3 := Lib.hid (Ba.out.trans (p3.mono Ba.out.size))
    have HQ : Hid (w.heap.size ≤ wa.heap.size ∧ w.heap.size ≤ go) := Lib.hid ⟨Ba.out.size, Go.out⟩
    have N1 : Hid (go ≠ wa.heap.size ∧ go ≠ g1) := Lib.hid (by have := Ra.out.lt; omega)
    have R1 := Lib.hid (Ra.out.below p3 Ra.out.lt)
    clear nw p1 p2 p3 Ra Go Ba
    generalize wa.heap.size = hb at *
    have ro := rows_any _ A c l3 W1 (HL.out.below P3.out (fun j h _ => h)) (by have := HN.out; omega)
    go_wp2_with fail
    refine ro.mono ?_
    rintro e W2 ⟨g2, cc2, rfl, r2, q2, b2⟩
    have rs := rsorted_any _ (some ⟨g2, 0, none⟩) cc2 l3 W2 r2.bs (by have := HN.out; omega)
    have P4 := Lib.hid (P1.out.below b2 (Nat.le_refl _))
    have R2 := Lib.hid (R1.out.below b2 R1.out.lt)
    have C2 := Lib.hid (P3.out.trans (b2.mono P3.out.size))
    clear ro r2 q2 b2 P1 R1 P3
    go_wp2_with fail
    refine rs.mono ?_
    rintro e W3 ⟨gm, cm0, rfl, r3, q3, b3⟩
    have z3 := P4.out.lt
    have z4 := P4.out.glt
    have P5 := Lib.hid (P4.out.below b3 (Nat.le_refl _))
    have R3 := Lib.hid (R2.out.below b3 R2.out.lt)
    have C3 := Lib.hid (C2.out.trans (b3.mono C2.out.size))
    have B3 : Hid (Bs (fun b => b ≠ hb ∧ b ≠ g1) W3 (some ⟨gm, 0, none⟩) (srt l3)) := Lib.hid (r3.bs.more (fun j hj _ => by have e : j = gm := hj; show j ≠ hb ∧ j ≠ g1; omega))
    have L3 : Hid ((srt l3).length ≤ 100 + 0 ∧ (srt l3).length ≤ cm0) := Lib.hid ⟨by rw [srt_length]; have := HN.out; omega, r3.cap⟩
    clear rs r3 q3 b3 z3 z4 P4 R2 C2
    generalize srt l3 = m0 at *
    go_wp2_with fail
    go_loopg [7, 8] 100 (fun gf vm vi wx => ∃ (k g cm : Nat) (Am : Option Addr) (mm : List It), vi = .int .i64 (k : Int) ∧ vm = .slice Am mm.length cm ∧ Hid (k + gf = 100) ∧ Hid (mm.length ≤ 100 + k ∧ mm.length ≤ cm) ∧ Hid (Bs (fun b => b ≠ hb ∧ b ≠ g) wx Am mm) ∧ Hid (Hp wx hb g mm) ∧ Hid (Rw 32 wx go co l3) ∧ Hid (go ≠ hb ∧ go ≠ g) ∧ Hid (w.heap.size ≤ g) ∧ Hid (Below w.heap.size w wx))
    case atStart => exact ⟨0, g1, cm0, _, m0, rfl, rfl, Lib.hid (by omega), L3, B3, P5, R3, N1, P2, C3⟩
    case round =>
      obtain ⟨k, g, cm, Am, mm, rfl, rfl, hk, hL, hB, hH, hR, hN, hg, hC⟩ := hrel
      clear L3 B3 P5 R3 N1 P2 C3
      by_cases hkk : k < s.length ∧ k < 100
      · obtain ⟨hks, hk1⟩ := hkk
        have d1 : (k : Int) < (s.length : Int) := by omega
        have d2 : (k : Int) < 100 := by omega
        obtain ⟨sb, soff, rfl, a1, a2, a3⟩ := (HSc.out.below hC.out (fun j h => h)).at_ hks
        obtain ⟨⟨pp, x⟩, hact⟩ : ∃ q, ga s k = q := ⟨_, rfl⟩
        rw [hact] at a1 a2 a3
        cases pp with
        | true =>
          clear hact a2 a3
          cases mm with
          | nil =>
            have pp : Calls Try.prog 12 #[.pointer (some ⟨hb, 0, none⟩)] wr fun e w' => e = .returned (.tuple #[iv (0, 0), .bool false]) ∧ Hp w' hb g [] ∧ Kp (fun j => j = hb ∨ j = g) wr w' := pop_any hb g [] wr hH.out (by simp)
            go_wp2_with fail
            refine pp.mono ?_
            rintro e W2 ⟨rfl, s1, s2⟩
            have n1 := hN.out
            have n2 := HQ.out
            have n3 := hg.out
            obtain ⟨W3, hW3⟩ : ∃ W3, W2.alloc (.cells #[.int .u64 0, .int .i64 0] 32) = W3 := ⟨_, rfl⟩
            have b3 : Below W2.heap.size W2 W3 := hW3 ▸ below_alloc1 W2 _
            have k3 : Kp (fun j => j = hb ∨ j = g) wr W3 := s2.then_below b3 (Nat.le_refl _)
            have xx : W3.heap[W2.heap.size]? = some (.cells #[.int .u64 0, .int .i64 0] 32 (0, 0)) := hW3 ▸ Go.heap_alloc_new W2 _
            have K3 := Lib.hid k3
            have S1 := Lib.hid (s1.below b3 (Nat.le_refl _))
            have j1 := cell_regrown (blk2 xx).1
            have j2 := cell_regrown (blk2 xx).2.1
            have zt : True := trivial
            clear pp s1 s2 b3 k3 xx n1 n2 n3
            have HW3 := Lib.hid hW3
            clear hW3
            go_wp2_with fail
            rw [HW3.out]
            refine wp_region_quiet_below (by kernel_rfl) (by kernel_rfl) ?_
            repeat (first | go_big_quiet_skip | go_big_quiet_step (first | (with_reducible exact zt _ _)))
            refine wpQuiet_nil ?_
            intro _ hw'
            obtain ⟨⟨dq, osq⟩, hw''⟩ := hw'
            have hbq : Below W3.heap.size W3 (Sort.grow (redrawn W3 dq) osq) := below_regrown W3 dq osq
            subst hw''
            generalize Sort.grow (redrawn W3 dq) osq = W4 at *
            have n1 := hN.out
            have n2 := HQ.out
            have n3 := hg.out
            have k4 : Kp (fun j => j = hb ∨ j = g) wr W4 := K3.out.then_below hbq (Nat.le_refl _)
            have tH := S1.out.below hbq (Nat.le_refl _)
            have tB : Bs (fun b => b ≠ hb ∧ b ≠ g) W4 Am [] := Bs.nil _
            have tR := hR.out.kp k4 (by omega)
            have tN := hN.out
            have tG := hg.out
            have tL : ([] : List It).length ≤ 100 + (k + 1) ∧ ([] : List It).length ≤ cm := by simp
            have tC := hC.out.trans (k4.below (B := w.heap.size) (fun j hj => by omega) hC.out.size)
            clear zt j1 j2 hbq k4 n1 n2 n3 HW3 K3 S1 hR hH hB hC
            have TH := Lib.hid tH
            have TB := Lib.hid tB
            have TR := Lib.hid tR
            have TN := Lib.hid tN
            have TG := Lib.hid tG
            have TL := Lib.hid tL
            have TC := Lib.hid tC
            have tp : Calls Try.prog 16 #[.pointer (some ⟨hb, 0, none⟩)] W4 fun e w' => e = .returned (.tuple #[iv (0, 0), .bool false]) ∧ Below W4.heap.size W4 w' := top_any hb g [] W4 TH.out
            clear tH tB tR tN tG tL tC
            go_wp2_with fail
            refine tp.mono ?_
            rintro e V1 ⟨rfl, v1⟩
            clear tp
            obtain ⟨V2, hV2⟩ : ∃ V2, V1.alloc (.cells #[.int .u64 0, .int .i64 0] 32) = V2 := ⟨_, rfl⟩
            have b2 : Below V1.heap.size V1 V2 := hV2 ▸ below_alloc1 V1 _
            have bb := Lib.hid (v1.trans (b2.mono v1.size))
            have xx : V2.heap[V1.heap.size]? = some (.cells #[.int .u64 0, .int .i64 0] 32 (0, 0)) := hV2 ▸ Go.heap_alloc_new V1 _
            have hV := TH.out.below bb.out (Nat.le_refl _)
            have zl : ∀ dd os, Calls Try.prog 17 #[.pointer (some ⟨hb, 0, none⟩)] (Sort.grow (redrawn V2 dd) os) fun e w'' => e = .returned (.int .i64 0) ∧ ∃ p : Regrown, w'' = Sort.grow (redrawn V2 p.d) p.os := fun dd os => Calls.regrown_of ((len_any hb g [] _ (hV.below (below_regrown V2 dd os) (Nat.le_refl _))).mono fun _ _ ⟨h1, h2⟩ => ⟨h1, h2 ▸ Below.refl _ _⟩)
            have j1 := cell_regrown (blk2 xx).1
            have j2 := cell_regrown (blk2 xx).2.1
            clear xx hV b2 v1
            have HV2 := Lib.hid hV2
            clear hV2
            go_wp2_with fail
            rw [HV2.out]
            refine wp_region_quiet_below (by kernel_rfl) (by kernel_rfl) ?_
            repeat (first | go_big_quiet_skip | go_big_quiet_step (first | (with_reducible exact zl _ _)))
            refine wpQuiet_nil ?_
            intro _ hw'
            obtain ⟨⟨dq, osq⟩, hw''⟩ := hw'
            have hbq : Below V2.heap.size V2 (Sort.grow (redrawn V2 dq) osq) := below_regrown V2 dq osq
            subst hw''
            generalize Sort.grow (redrawn V2 dq) osq = V3 at *
            have bz := bb.out.trans (hbq.mono bb.out.size)
            have UH := Lib.hid (TH.out.below bz (Nat.le_refl _))
            have UB := Lib.hid (TB.out.below bz (fun _ _ h => h))
            have UR := Lib.hid (TR.out.below bz TR.out.lt)
            have UC := Lib.hid (TC.out.trans (bz.mono TC.out.size))
            have w1 : wrap64 ((k : Int) + 1) = (k : Int) + 1 := by unfold wrap64; omega
            clear zl j1 j2 hbq bz bb HV2
            go_wp2
            go_roundg (gk - 1)
            case measure => have := hk.out; omega
            case rel => exact ⟨k + 1, g, cm, _, [], by go_num, rfl, Lib.hid (by have := hk.out; omega), TL, UB, UH, UR, TN, TG, UC⟩
          | cons x r0 =>
            cases r0 with
            | nil =>
              have pp : Calls Try.prog 12 #[.pointer (some ⟨hb, 0, none⟩)] wr fun e w' => e = .returned (.tuple #[iv x, .bool true]) ∧ Hp w' hb g [] ∧ Kp (fun j => j = hb ∨ j = g) wr w' := pop_any hb g (x :: []) wr hH.out (by have := hL.out.1; omega)
              obtain ⟨mb, moff, hma, hms, hmlt, m1, m2⟩ := hB.out.at_ (i := 0) (by simp)
              subst hma
              rw [Nat.zero_mul, Nat.add_zero] at m1 m2
              rw [show gt (x :: []) 0 = x from rfl] at m1 m2
              go_wp2_with fail
              refine pp.mono ?_
              rintro e W2 ⟨rfl, s1, s2⟩
              have n1 := hN.out
              have n2 := HQ.out
              have n3 := hg.out
              obtain ⟨W3, hW3⟩ : ∃ W3, W2.alloc (.cells #[.int .u64 x.1, .int .i64 x.2] 32) = W3 := ⟨_, rfl⟩
              have b3 : Below W2.heap.size W2 W3 := hW3 ▸ below_alloc1 W2 _
              have k3 : Kp (fun j => j = hb ∨ j = g) wr W3 := s2.then_below b3 (Nat.le_refl _)
              have xx : W3.heap[W2.heap.size]? = some (.cells #[.int .u64 x.1, .int .i64 x.2] 32 (0, 0)) := hW3 ▸ Go.heap_alloc_new W2 _
              have K3 := Lib.hid k3
              have S1 := Lib.hid (s1.below b3 (Nat.le_refl _))
              have j1 := cell_regrown (blk2 xx).1
              have j2 := cell_regrown (blk2 xx).2.1
              have mk := World.cell?_of_block (a := ⟨mb, moff, none⟩) (k3.block mb hmlt (by omega))
              have mk2 := World.cell?_of_block (a := ⟨mb, moff + 1, none⟩) (k3.block mb hmlt (by omega))
              have j3 := cell_regrown (mk.trans m1)
              have j4 := cell_regrown (mk2.trans m2)
              have zp : ∀ dd os, Calls Try.prog 13 #[iv x] (Sort.grow (redrawn W3 dd) os) fun e w'' => e = .returned (iv x) ∧ ∃ p : Regrown, w'' = Sort.grow (redrawn W3 p.d) p.os := fun dd os => Calls.regrown_of (plain_any _ _)
              have lc := hL.out.2
              clear pp s1 s2 b3 k3 xx n1 n2 n3 mk mk2 m1 m2 hms hmlt
              have l1 : (1 : Int) ≤ (cm : Int) := by simp at lc; omega
              have LC := Lib.hid lc
              clear lc
              go_upto_region 15 with fail
              refine wp_region_quiet_below (by kernel_rfl) (by kernel_rfl) ?_
              repeat (first | go_big_quiet_skip | go_big_quiet_step (first | (with_reducible exact zp _ _)))
              refine wpQuiet_nil ?_
              intro _ hw'
              obtain ⟨⟨dq, osq⟩, hw''⟩ := hw'
              have hbq : Below W3.heap.size W3 (Sort.grow (redrawn W3 dq) osq) := below_regrown W3 dq osq
              subst hw''
              generalize Sort.grow (redrawn W3 dq) osq = W4 at *
              have n1 := hN.out
              have n2 := HQ.out
              have n3 := hg.out
              have k4 : Kp (fun j => j = hb ∨ j = g) wr W4 := K3.out.then_below hbq (Nat.le_refl _)
              have tH := S1.out.below hbq (Nat.le_refl _)
              have tB0 : Bs (fun b => b ≠ hb ∧ b ≠ g) W4 (some ⟨mb, moff, none⟩) (x :: []) := hB.out.kp k4 (fun j hj h => by omega)
              have tR := hR.out.kp k4 (by omega)
              have tN := hN.out
              have tG := hg.out
              have tC := hC.out.trans (k4.below (B := w.heap.size) (fun j hj => by omega) hC.out.size)
              have hl0 := hL.out
              clear zp j1 j2 j3 j4 hbq k4 n1 n2 n3 hW3 K3 S1 hR hH hB hC
              by_cases hc1 : cm = 1
              · subst hc1
                have tB : Bs (fun b => b ≠ hb ∧ b ≠ g) W4 (some ⟨mb, moff, none⟩) [] := Bs.nil _
                have tL : ([] : List It).length ≤ 100 + (k + 1) ∧ ([] : List It).length ≤ 0 := by simp
                clear tB0 hl0
                have TH := Lib.hid tH
                have TB := Lib.hid tB
                have TR := Lib.hid tR
                have TN := Lib.hid tN
                have TG := Lib.hid tG
                have TL := Lib.hid tL
                have TC := Lib.hid tC
                have tp : Calls Try.prog 16 #[.pointer (some ⟨hb, 0, none⟩)] W4 fun e w' => e = .returned (.tuple #[iv (0, 0), .bool false]) ∧ Below W4.heap.size W4 w' := top_any hb g [] W4 TH.out
                clear tH tB tR tN tG tL tC
                go_wp2_with fail
                refine tp.mono ?_
                rintro e V1 ⟨rfl, v1⟩
                clear tp
                obtain ⟨V2, hV2⟩ : ∃ V2, V1.alloc (.cells #[.int .u64 0, .int .i64 0] 32) = V2 := ⟨_, rfl⟩
                have b2 : Below V1.heap.size V1 V2 := hV2 ▸ below_alloc1 V1 _
                have bb := Lib.hid (v1.trans (b2.mono v1.size))
                have xx : V2.heap[V1.heap.size]? = some (.cells #[.int .u64 0, .int .i64 0] 32 (0, 0)) := hV2 ▸ Go.heap_alloc_new V1 _
                have hV := TH.out.below bb.out (Nat.le_refl _)
                have zl : ∀ dd os, Calls Try.prog 17 #[.pointer (some ⟨hb, 0, none⟩)] (Sort.grow (redrawn V2 dd) os) fun e w'' => e = .returned (.int .i64 0) ∧ ∃ p : Regrown, w'' = Sort.grow (redrawn V2 p.d) p.os := fun dd os => Calls.regrown_of ((len_any hb g [] _ (hV.below (below_regrown V2 dd os) (Nat.le_refl _))).mono fun _ _ ⟨h1, h2⟩ => ⟨h1, h2 ▸ Below.refl _ _⟩)
                have j1 := cell_regrown (blk2 xx).1
                have j2 := cell_regrown (blk2 xx).2.1
                clear xx hV b2 v1
                have HV2 := Lib.hid hV2
                clear hV2
                go_wp2_with fail
                rw [HV2.out]
                refine wp_region_quiet_below (by kernel_rfl) (by kernel_rfl) ?_
                repeat (first | go_big_quiet_skip | go_big_quiet_step (first | (with_reducible exact zl _ _)))
                refine wpQuiet_nil ?_
                intro _ hw'
                obtain ⟨⟨dq, osq⟩, hw''⟩ := hw'
                have hbq : Below V2.heap.size V2 (Sort.grow (redrawn V2 dq) osq) := below_regrown V2 dq osq
                subst hw''
                generalize Sort.grow (redrawn V2 dq) osq = V3 at *
                have bz := bb.out.trans (hbq.mono bb.out.size)
                have UH := Lib.hid (TH.out.below bz (Nat.le_refl _))
                have UB := Lib.hid (TB.out.below bz (fun _ _ h => h))
                have UR := Lib.hid (TR.out.below bz TR.out.lt)
                have UC := Lib.hid (TC.out.trans (bz.mono TC.out.size))
                have w1 : wrap64 ((k : Int) + 1) = (k : Int) + 1 := by unfold wrap64; omega
                clear zl j1 j2 hbq bz bb HV2
                go_wp2
                go_roundg (gk - 1)
                case measure => have := hk.out; omega
                case rel => exact ⟨k + 1, g, 0, _, [], by go_num, rfl, Lib.hid (by have := hk.out; omega), TL, UB, UH, UR, TN, TG, UC⟩
              · have tB : Bs (fun b => b ≠ hb ∧ b ≠ g) W4 (some ⟨mb, moff + 2, none⟩) [] := Bs.nil _
                have tL : ([] : List It).length ≤ 100 + (k + 1) ∧ ([] : List It).length ≤ cm - 1 := by simp
                clear tB0 hl0
                have TH := Lib.hid tH
                have TB := Lib.hid tB
                have TR := Lib.hid tR
                have TN := Lib.hid tN
                have TG := Lib.hid tG
                have TL := Lib.hid tL
                have TC := Lib.hid tC
                have tp : Calls Try.prog 16 #[.pointer (some ⟨hb, 0, none⟩)] W4 fun e w' => e = .returned (.tuple #[iv (0, 0), .bool false]) ∧ Below W4.heap.size W4 w' := top_any hb g [] W4 TH.out
                clear tH tB tR tN tG tL tC
                go_wp2_with fail
                refine tp.mono ?_
                rintro e V1 ⟨rfl, v1⟩
                clear tp
                obtain ⟨V2, hV2⟩ : ∃ V2, V1.alloc (.cells #[.int .u64 0, .int .i64 0] 32) = V2 := ⟨_, rfl⟩
                have b2 : Below V1.heap.size V1 V2 := hV2 ▸ below_alloc1 V1 _
                have bb := Lib.hid (v1.trans (b2.mono v1.size))
                have xx : V2.heap[V1.heap.size]? = some (.cells #[.int .u64 0, .int .i64 0] 32 (0, 0)) := hV2 ▸ Go.heap_alloc_new V1 _
                have hV := TH.out.below bb.out (Nat.le_refl _)
                have zl : ∀ dd os, Calls Try.prog 17 #[.pointer (some ⟨hb, 0, none⟩)] (Sort.grow (redrawn V2 dd) os) fun e w'' => e = .returned (.int .i64 0) ∧ ∃ p : Regrown, w'' = Sort.grow (redrawn V2 p.d) p.os := fun dd os => Calls.regrown_of ((len_any hb g [] _ (hV.below (below_regrown V2 dd os) (Nat.le_refl _))).mono fun _ _ ⟨h1, h2⟩ => ⟨h1, h2 ▸ Below.refl _ _⟩)
                have j1 := cell_regrown (blk2 xx).1
                have j2 := cell_regrown (blk2 xx).2.1
                clear xx hV b2 v1
                have HV2 := Lib.hid hV2
                clear hV2
                go_wp2_with fail
                rw [HV2.out]
                refine wp_region_quiet_below (by kernel_rfl) (by kernel_rfl) ?_
                repeat (first | go_big_quiet_skip | go_big_quiet_step (first | (with_reducible exact zl _ _)))
                refine wpQuiet_nil ?_
                intro _ hw'
                obtain ⟨⟨dq, osq⟩, hw''⟩ := hw'
                have hbq : Below V2.heap.size V2 (Sort.grow (redrawn V2 dq) osq) := below_regrown V2 dq osq
                subst hw''
                generalize Sort.grow (redrawn V2 dq) osq = V3 at *
                have bz := bb.out.trans (hbq.mono bb.out.size)
                have UH := Lib.hid (TH.out.below bz (Nat.le_refl _))
                have UB := Lib.hid (TB.out.below bz (fun _ _ h => h))
                have UR := Lib.hid (TR.out.below bz TR.out.lt)
                have UC := Lib.hid (TC.out.trans (bz.mono TC.out.size))
                have w1 : wrap64 ((k : Int) + 1) = (k : Int) + 1 := by unfold wrap64; omega
                clear zl j1 j2 hbq bz bb HV2
                go_wp2
                go_roundg (gk - 1)
                case measure => have := hk.out; omega
                case rel => exact ⟨k + 1, g, (cm - 1), _, [], by go_num, rfl, Lib.hid (by have := hk.out; omega), TL, UB, UH, UR, TN, TG, UC⟩
            | cons y r =>
              have pp : Calls Try.prog 12 #[.pointer (some ⟨hb, 0, none⟩)] wr fun e w' => e = .returned (.tuple #[iv x, .bool true]) ∧ Hp w' hb g (y :: r) ∧ Kp (fun j => j = hb ∨ j = g) wr w' := pop_any hb g (x :: (y :: r)) wr hH.out (by have := hL.out.1; omega)
              obtain ⟨mb, moff, hma, hms, hmlt, m1, m2⟩ := hB.out.at_ (i := 0) (by simp)
              subst hma
              rw [Nat.zero_mul, Nat.add_zero] at m1 m2
              rw [show gt (x :: (y :: r)) 0 = x from rfl] at m1 m2
              go_wp2_with fail
              refine pp.mono ?_
              rintro e W2 ⟨rfl, s1, s2⟩
              have n1 := hN.out
              have n2 := HQ.out
              have n3 := hg.out
              obtain ⟨W3, hW3⟩ : ∃ W3, W2.alloc (.cells #[.int .u64 x.1, .int .i64 x.2] 32) = W3 := ⟨_, rfl⟩
              have b3 : Below W2.heap.size W2 W3 := hW3 ▸ below_alloc1 W2 _
              have k3 : Kp (fun j => j = hb ∨ j = g) wr W3 := s2.then_below b3 (Nat.le_refl _)
              have xx : W3.heap[W2.heap.size]? = some (.cells #[.int .u64 x.1, .int .i64 x.2] 32 (0, 0)) := hW3 ▸ Go.heap_alloc_new W2 _
              have K3 := Lib.hid k3
              have S1 := Lib.hid (s1.below b3 (Nat.le_refl _))
              have j1 := cell_regrown (blk2 xx).1
              have j2 := cell_regrown (blk2 xx).2.1
              have mk := World.cell?_of_block (a := ⟨mb, moff, none⟩) (k3.block mb hmlt (by omega))
              have mk2 := World.cell?_of_block (a := ⟨mb, moff + 1, none⟩) (k3.block mb hmlt (by omega))
              have j3 := cell_regrown (mk.trans m1)
              have j4 := cell_regrown (mk2.trans m2)
              have zp : ∀ dd os, Calls Try.prog 13 #[iv x] (Sort.grow (redrawn W3 dd) os) fun e w'' => e = .returned (iv x) ∧ ∃ p : Regrown, w'' = Sort.grow (redrawn W3 p.d) p.os := fun dd os => Calls.regrown_of (plain_any _ _)
              have lc := hL.out.2
              clear pp s1 s2 b3 k3 xx n1 n2 n3 mk mk2 m1 m2 hms hmlt
              have l1 : (r.length : Int) + 1 + 1 ≤ (cm : Int) := by simp at lc; omega
              have p0 : (0 : Int) < (r.length : Int) + 1 + 1 := by omega
              have p1 : (1 : Int) ≤ (r.length : Int) + 1 + 1 := by omega
              have LC := Lib.hid lc
              clear lc
              go_upto_region 15 with fail
              refine wp_region_quiet_below (by kernel_rfl) (by kernel_rfl) ?_
              repeat (first | go_big_quiet_skip | go_big_quiet_step (first | (with_reducible exact zp _ _)))
              refine wpQuiet_nil ?_
              intro _ hw'
              obtain ⟨⟨dq, osq⟩, hw''⟩ := hw'
              have hbq : Below W3.heap.size W3 (Sort.grow (redrawn W3 dq) osq) := below_regrown W3 dq osq
              subst hw''
              generalize Sort.grow (redrawn W3 dq) osq = W4 at *
              have n1 := hN.out
              have n2 := HQ.out
              have n3 := hg.out
              have k4 : Kp (fun j => j = hb ∨ j = g) wr W4 := K3.out.then_below hbq (Nat.le_refl _)
              have tH := S1.out.below hbq (Nat.le_refl _)
              have tB0 : Bs (fun b => b ≠ hb ∧ b ≠ g) W4 (some ⟨mb, moff, none⟩) (x :: (y :: r)) := hB.out.kp k4 (fun j hj h => by omega)
              have tR := hR.out.kp k4 (by omega)
              have tN := hN.out
              have tG := hg.out
              have tC := hC.out.trans (k4.below (B := w.heap.size) (fun j hj => by omega) hC.out.size)
              have hl0 := hL.out
              clear zp j1 j2 j3 j4 hbq k4 n1 n2 n3 hW3 K3 S1 hR hH hB hC
              have hc1 : ¬ cm = 1 := by omega
              have tB : Bs (fun b => b ≠ hb ∧ b ≠ g) W4 (some ⟨mb, moff + 2, none⟩) (y :: r) := tB0.tail _ (fun _ => by simp [addr_add])
              have tL : (y :: r).length ≤ 100 + (k + 1) ∧ (y :: r).length ≤ cm - 1 := by simp at hl0 ⊢; omega
              clear tB0 hl0
              have TH := Lib.hid tH
              have TB := Lib.hid tB
              have TR := Lib.hid tR
              have TN := Lib.hid tN
              have TG := Lib.hid tG
              have TL := Lib.hid tL
              have TC := Lib.hid tC
              have tp : Calls Try.prog 16 #[.pointer (some ⟨hb, 0, none⟩)] W4 fun e w' => e = .returned (.tuple #[iv y, .bool true]) ∧ Below W4.heap.size W4 w' := top_any hb g (y :: r) W4 TH.out
              clear tH tB tR tN tG tL tC
              go_wp2_with fail
              refine tp.mono ?_
              rintro e V1 ⟨rfl, v1⟩
              clear tp
              obtain ⟨V2, hV2⟩ : ∃ V2, V1.alloc (.cells #[.int .u64 y.1, .int .i64 y.2] 32) = V2 := ⟨_, rfl⟩
              have b2 : Below V1.heap.size V1 V2 := hV2 ▸ below_alloc1 V1 _
              have bb := Lib.hid (v1.trans (b2.mono v1.size))
              have xx : V2.heap[V1.heap.size]? = some (.cells #[.int .u64 y.1, .int .i64 y.2] 32 (0, 0)) := hV2 ▸ Go.heap_alloc_new V1 _
              have hV := TH.out.below bb.out (Nat.le_refl _)
              have zl : ∀ dd os, Calls Try.prog 17 #[.pointer (some ⟨hb, 0, none⟩)] (Sort.grow (redrawn V2 dd) os) fun e w'' => e = .returned (.int .i64 ((r.length : Int) + 1)) ∧ ∃ p : Regrown, w'' = Sort.grow (redrawn V2 p.d) p.os := fun dd os => Calls.regrown_of ((len_any hb g (y :: r) _ (hV.below (below_regrown V2 dd os) (Nat.le_refl _))).mono fun _ _ ⟨h1, h2⟩ => ⟨h1, h2 ▸ Below.refl _ _⟩)
              have j1 := cell_regrown (blk2 xx).1
              have j2 := cell_regrown (blk2 xx).2.1
              have zp : ∀ dd os, Calls Try.prog 13 #[iv y] (Sort.grow (redrawn V2 dd) os) fun e w'' => e = .returned (iv y) ∧ ∃ p : Regrown, w'' = Sort.grow (redrawn V2 p.d) p.os := fun dd os => Calls.regrown_of (plain_any _ _)
              obtain ⟨mb', moff', hma, -, -, m1, m2⟩ := (TB.out.below bb.out (fun _ _ h => h)).at_ (i := 0) (by simp)
              rw [Nat.zero_mul, Nat.add_zero] at m1 m2
              injection hma with hma
              injection hma with hma1 hma2 hma3
              subst hma1 hma2
              clear hma3
              try rw [Nat.zero_add] at m2
              have j3 := cell_regrown m1
              have j4 := cell_regrown m2
              rw [show gt (y :: r) 0 = y from rfl] at m1 m2 j3 j4
              have p0 : (0 : Int) < (r.length : Int) + 1 := by omega
              clear m1 m2
              clear xx hV b2 v1
              go_wp2_with fail
              refine wp_region_quiet_below (by kernel_rfl) (by kernel_rfl) ?_
              repeat (first | go_big_quiet_skip | go_big_quiet_step (first | (with_reducible exact zl _ _) | (with_reducible exact zp _ _)))
              refine wpQuiet_nil ?_
              intro _ hw'
              obtain ⟨⟨dq, osq⟩, hw''⟩ := hw'
              have hbq : Below V2.heap.size V2 (Sort.grow (redrawn V2 dq) osq) := below_regrown V2 dq osq
              subst hw''
              generalize Sort.grow (redrawn V2 dq) osq = V3 at *
              have bz := bb.out.trans (hbq.mono bb.out.size)
              have UH := Lib.hid (TH.out.below bz (Nat.le_refl _))
              have UB := Lib.hid (TB.out.below bz (fun _ _ h => h))
              have UR := Lib.hid (TR.out.below bz TR.out.lt)
              have UC := Lib.hid (TC.out.trans (bz.mono TC.out.size))
              have w1 : wrap64 ((k : Int) + 1) = (k : Int) + 1 := by unfold wrap64; omega
              clear zl zp j1 j2 j3 j4 hbq bz bb hV2
              go_wp2
              go_roundg (gk - 1)
              case measure => have := hk.out; omega
              case rel => exact ⟨k + 1, g, (cm - 1), _, (y :: r), by go_num, rfl, Lib.hid (by have := hk.out; omega), TL, UB, UH, UR, TN, TG, UC⟩
        | false =>
          have ps := push_any hb g mm x wr hH.out (by have := hL.out.1; omega)
          go_wp2_with fail
          refine ps.mono ?_
          rintro e W2 ⟨rfl, g2, s1, s2, s3⟩
          have n1 := hN.out
          have n2 := HQ.out
          have n3 := hg.out
          have z1 := hR.out.lt
          have z2 := hH.out.lt
          have S1 := Lib.hid s1
          have B2 := hB.out.kp s3 (fun j hj h => by omega)
          have R2 := Lib.hid (hR.out.kp s3 (by omega))
          have N2 : Hid (go ≠ hb ∧ go ≠ g2) := Lib.hid (by omega)
          have G2 : Hid (w.heap.size ≤ g2) := Lib.hid (by have := hC.out.size; omega)
          have C2 := hC.out.trans (s3.below (B := w.heap.size) (fun j hj => by omega) hC.out.size)
          have B2' := Lib.hid B2
          have C2' := Lib.hid C2
          obtain ⟨sb', soff', hsa, c1, c2, c3⟩ := (HSc.out.below C2 (fun j h => h)).at_ hks
          injection hsa with hsa
          injection hsa with hsa1 hsa2 hsa3
          subst hsa1 hsa2
          clear hsa3
          rw [hact] at c1 c2 c3
          clear ps s1 s2 s3 n1 n2 n3 z1 z2 B2 C2 hR hH hB hC
          go_wp2_with fail
          refine (plain_any x _).mono ?_
          rintro e W3 ⟨rfl, b3⟩
          have rp := rpush_any _ Am cm mm x W3 (B2'.out.below b3 (fun _ _ h => h)) (by have := hL.out.1; omega)
          obtain ⟨y, r, hyr⟩ : ∃ y r, ins x mm = y :: r := by
            cases hq : ins x mm with
            | nil => have := ins_length x mm; rw [hq] at this; simp at this
            | cons y r => exact ⟨y, r, rfl⟩
          have hyl : (y :: r).length = mm.length + 1 := by rw [← hyr]; exact ins_length x mm
          rw [hyr] at rp S1
          have S3 := Lib.hid (S1.out.below b3 (Nat.le_refl _))
          have R3 := Lib.hid (R2.out.below b3 R2.out.lt)
          have C3 := Lib.hid (C2'.out.trans (b3.mono C2'.out.size))
          have HY := Lib.hid hyl
          clear b3 hyr hyl S1 R2 B2' C2' c1 c2 c3
          go_wp2_with fail
          refine rp.mono ?_
          rintro e W4 ⟨gm, cm2, rfl, r4, q4, b4⟩
          have tH := S3.out.below b4 (Nat.le_refl _)
          have z3 := S3.out.lt
          have z4 := S3.out.glt
          have tB : Bs (fun b => b ≠ hb ∧ b ≠ g2) W4 (some ⟨gm, 0, none⟩) (y :: r) := r4.bs.more (fun j hj _ => by have e : j = gm := hj; show j ≠ hb ∧ j ≠ g2; omega)
          have tR := R3.out.below b4 R3.out.lt
          have tN := N2.out
          have tG := G2.out
          have tL : (y :: r).length ≤ 100 + (k + 1) ∧ (y :: r).length ≤ cm2 := ⟨by have := HY.out; have := hL.out.1; omega, r4.cap⟩
          have tC := C3.out.trans (b4.mono C3.out.size)
          clear rp z3 z4 r4 q4 b4 S3 R3 C3 N2 G2 HY
          have TH := Lib.hid tH
          have TB := Lib.hid tB
          have TR := Lib.hid tR
          have TN := Lib.hid tN
          have TG := Lib.hid tG
          have TL := Lib.hid tL
          have TC := Lib.hid tC
          have tp : Calls Try.prog 16 #[.pointer (some ⟨hb, 0, none⟩)] W4 fun e w' => e = .returned (.tuple #[iv y, .bool true]) ∧ Below W4.heap.size W4 w' := top_any hb g2 (y :: r) W4 TH.out
          clear tH tB tR tN tG tL tC
          go_wp2_with fail
          refine tp.mono ?_
          rintro e V1 ⟨rfl, v1⟩
          clear tp
          obtain ⟨V2, hV2⟩ : ∃ V2, V1.alloc (.cells #[.int .u64 y.1, .int .i64 y.2] 32) = V2 := ⟨_, rfl⟩
          have b2 : Below V1.heap.size V1 V2 := hV2 ▸ below_alloc1 V1 _
          have bb := Lib.hid (v1.trans (b2.mono v1.size))
          have xx : V2.heap[V1.heap.size]? = some (.cells #[.int .u64 y.1, .int .i64 y.2] 32 (0, 0)) := hV2 ▸ Go.heap_alloc_new V1 _
          have hV := TH.out.below bb.out (Nat.le_refl _)
          have zl : ∀ dd os, Calls Try.prog 17 #[.pointer (some ⟨hb, 0, none⟩)] (Sort.grow (redrawn V2 dd) os) fun e w'' => e = .returned (.int .i64 ((r.length : Int) + 1)) ∧ ∃ p : Regrown, w'' = Sort.grow (redrawn V2 p.d) p.os := fun dd os => Calls.regrown_of ((len_any hb g2 (y :: r) _ (hV.below (below_regrown V2 dd os) (Nat.le_refl _))).mono fun _ _ ⟨h1, h2⟩ => ⟨h1, h2 ▸ Below.refl _ _⟩)
          have j1 := cell_regrown (blk2 xx).1
          have j2 := cell_regrown (blk2 xx).2.1
          have zp : ∀ dd os, Calls Try.prog 13 #[iv y] (Sort.grow (redrawn V2 dd) os) fun e w'' => e = .returned (iv y) ∧ ∃ p : Regrown, w'' = Sort.grow (redrawn V2 p.d) p.os := fun dd os => Calls.regrown_of (plain_any _ _)
          obtain ⟨mb', moff', hma, -, -, m1, m2⟩ := (TB.out.below bb.out (fun _ _ h => h)).at_ (i := 0) (by simp)
          rw [Nat.zero_mul, Nat.add_zero] at m1 m2
          injection hma with hma
          injection hma with hma1 hma2 hma3
          subst hma1 hma2
          clear hma3
          try rw [Nat.zero_add] at m2
          have j3 := cell_regrown m1
          have j4 := cell_regrown m2
          rw [show gt (y :: r) 0 = y from rfl] at m1 m2 j3 j4
          have p0 : (0 : Int) < (r.length : Int) + 1 := by omega
          clear m1 m2
          clear xx hV b2 v1
          go_wp2_with fail
          refine wp_region_quiet_below (by kernel_rfl) (by kernel_rfl) ?_
          repeat (first | go_big_quiet_skip | go_big_quiet_step (first | (with_reducible exact zl _ _) | (with_reducible exact zp _ _)))
          refine wpQuiet_nil ?_
          intro _ hw'
          obtain ⟨⟨dq, osq⟩, hw''⟩ := hw'
          have hbq : Below V2.heap.size V2 (Sort.grow (redrawn V2 dq) osq) := below_regrown V2 dq osq
          subst hw''
          generalize Sort.grow (redrawn V2 dq) osq = V3 at *
          have bz := bb.out.trans (hbq.mono bb.out.size)
          have UH := Lib.hid (TH.out.below bz (Nat.le_refl _))
          have UB := Lib.hid (TB.out.below bz (fun _ _ h => h))
          have UR := Lib.hid (TR.out.below bz TR.out.lt)
          have UC := Lib.hid (TC.out.trans (bz.mono TC.out.size))
          have w1 : wrap64 ((k : Int) + 1) = (k : Int) + 1 := by unfold wrap64; omega
          clear zl zp j1 j2 j3 j4 hbq bz bb hV2
          go_wp2
          go_roundg (gk - 1)
          case measure => have := hk.out; omega
          case rel => exact ⟨k + 1, g2, cm2, _, (y :: r), by go_num, rfl, Lib.hid (by have := hk.out; omega), TL, UB, UH, UR, TN, TG, UC⟩
      · by_cases hks : k < s.length
        · have d1 : (k : Int) < (s.length : Int) := by omega
          have d2 : decide ((k : Int) < 100) = false := decide_eq_false (by omega)
          go_wp2_with fail
          refine (alive_any _).mono ?_
          rintro e W2 ⟨rfl, b2⟩
          have C2 := Lib.hid (hC.out.trans (b2.mono hC.out.size))
          have ro := rows_any _ (some ⟨go, 0, none⟩) co l3 W2 (hR.out.below b2 hR.out.lt).bs (by have := HN.out; omega)
          clear b2
          go_wp2_with fail
          refine ro.mono ?_
          rintro e W3 ⟨g3, c3, rfl, r3, q3, b3⟩
          have C3 := Lib.hid (C2.out.trans (b3.mono C2.out.size))
          have R3 := Lib.hid r3
          have ro2 := rows_any _ A c l3 W3 (HL.out.below C3.out (fun j h _ => h)) (by have := HN.out; omega)
          clear ro b3 q3 r3
          go_wp2_with fail
          refine ro2.mono ?_
          rintro e W4 ⟨g4, c4, rfl, r4, q4, b4⟩
          have C4 := Lib.hid (C3.out.trans (b4.mono C3.out.size))
          have sm := same_any _ _ (some ⟨g3, 0, none⟩) (some ⟨g4, 0, none⟩) c3 c4 l3 W4 (R3.out.below b4 R3.out.lt).bs r4.bs (by have := HN.out; omega)
          clear ro2 b4 q4 r4
          go_wp2_with fail
          refine sm.mono ?_
          rintro e W5 ⟨rfl, b5⟩
          have C5 := Lib.hid (C4.out.trans (b5.mono C4.out.size))
          clear sm b5
          go_wp2
          go_ret
          exact ⟨rfl, C5.out⟩
        · have d1 : decide ((k : Int) < (s.length : Int)) = false := decide_eq_false (by omega)
          have d2 : decide (k < s.length) = false := decide_eq_false hks
          go_wp2_with fail
          refine (alive_any _).mono ?_
          rintro e W2 ⟨rfl, b2⟩
          have C2 := Lib.hid (hC.out.trans (b2.mono hC.out.size))
          have ro := rows_any _ (some ⟨go, 0, none⟩) co l3 W2 (hR.out.below b2 hR.out.lt).bs (by have := HN.out; omega)
          clear b2
          go_wp2_with fail
          refine ro.mono ?_
          rintro e W3 ⟨g3, c3, rfl, r3, q3, b3⟩
          have C3 := Lib.hid (C2.out.trans (b3.mono C2.out.size))
          have R3 := Lib.hid r3
          have ro2 := rows_any _ A c l3 W3 (HL.out.below C3.out (fun j h _ => h)) (by have := HN.out; omega)
          clear ro b3 q3 r3
          go_wp2_with fail
          refine ro2.mono ?_
          rintro e W4 ⟨g4, c4, rfl, r4, q4, b4⟩
          have C4 := Lib.hid (C3.out.trans (b4.mono C3.out.size))
          have sm := same_any _ _ (some ⟨g3, 0, none⟩) (some ⟨g4, 0, none⟩) c3 c4 l3 W4 (R3.out.below b4 R3.out.lt).bs r4.bs (by have := HN.out; omega)
          clear ro2 b4 q4 r4
          go_wp2_with fail
          refine sm.mono ?_
          rintro e W5 ⟨rfl, b5⟩
          have C5 := Lib.hid (C4.out.trans (b5.mono C4.out.size))
          clear sm b5
          go_wp2
          go_ret
          exact ⟨rfl, C5.out⟩
end Go.Proofs.Ytghflhcpinimcaa
