/-
  The contract of the heap's sink. No statement is proved here; no conditions.
-/
import Derived.Test.YtkpmdfgjaodlaaaHr
namespace Go.Proofs.Ytkpmdfgjaodlaaa
open Go.RowKit Go.Joins

set_option maxRecDepth 100000 in
theorem sink_any (hb : Nat) (A : Option Addr) (g c lo i0 : Nat) (d : List It) (w : World) (h : Hr w hb A g c d) (hi : i0 ≤ 1000000) (hlo0 : lo ≤ i0) (hs : d.length ≤ 1000000) (hq : Snk lo i0 d) :
    Calls Try.prog 40 #[.pointer (some ⟨hb, 0, none⟩), .int .i64 i0] w fun e w' => e = .returned (.tuple #[]) ∧ ∃ d', Hr w' hb A g c d' ∧ Hpf lo d' ∧ d'.Perm d ∧ Kp (· = g) w w' := by
  have hH := Lib.hid h
  have hQ := Lib.hid hq
  clear h hq
  go_enter Try.func40, Try.ntmps40
  go_wp2
  go_loopg [1] (d.length - i0) (fun gf vi wx => ∃ (i : Nat) (d' : List It), vi = .int .i64 (i : Int) ∧ d'.length - i ≤ gf ∧ Hid (d'.length ≤ 1000000 ∧ i ≤ 1000000 ∧ lo ≤ i ∧ d'.length ≤ 1000000) ∧ Hid (Hr wx hb A g c d') ∧ Hid (Snk lo i d') ∧ Hid (d'.Perm d) ∧ Hid (Kp (· = g) w wx))
  case atStart => exact ⟨i0, d, rfl, Nat.le_refl _, Lib.hid ⟨hs, hi, hlo0, hs⟩, hH, hQ, Lib.hid (List.Perm.refl _), Lib.hid (Kp.refl _ _)⟩
  case round =>
    obtain ⟨i, d', rfl, hg, hl, hh, hr, hp, hk⟩ := hrel
    obtain ⟨hl1, hl2, hlo, -⟩ := hl.out
    clear hH hQ hi hs hl hlo0
    have w1 : wrap64 (2 * (i : Int)) = 2 * (i : Int) := by unfold wrap64; omega
    have w2 : wrap64 (2 * (i : Int) + 1) = 2 * (i : Int) + 1 := by unfold wrap64; omega
    have w3 : wrap64 (2 * (i : Int) + 2) = 2 * (i : Int) + 2 := by unfold wrap64; omega
    go_wp2_with fail
    go_loopg [4, 5] 3 (fun gf vl vc wx => ∃ (L ch : Nat), vl = .int .i64 (L : Int) ∧ vc = .int .i64 (ch : Int) ∧ Hid (2 * i + 1 ≤ ch ∧ ch ≤ 2 * i + 3 ∧ 2 * i + 4 ≤ ch + gf) ∧ Hid (L = i ∨ Chi i L ∧ L < d'.length) ∧ Hid (∀ k, Chi i k → k < ch → k < d'.length → lt (gt d' k) (gt d' L) = false) ∧ Hid (lt (gt d' i) (gt d' L) = false) ∧ Hid (Below wr.heap.size wr wx))
    case atStart => exact ⟨i, 2 * i + 1, by go_num, by go_num, Lib.hid ⟨by omega, by omega, by omega⟩, Lib.hid (.inl rfl), Lib.hid (fun k h1 h2 _ => by unfold Chi at h1; omega), Lib.hid (lt_irrefl _), Lib.hid (Below.refl _ _)⟩
    case round =>
      obtain ⟨L, ch, rfl, rfl, hc, hL, HA, hiL2, hbx⟩ := hrel
      obtain ⟨hc1, hc2, hc3⟩ := hc.out
      clear hc
      have k0' := (hh.out.below hbx.out (Nat.le_refl _)).cell0
      by_cases t1 : ch ≤ 2 * i + 2
      · have d1 : (ch : Int) ≤ 2 * (i : Int) + 2 := by omega
        by_cases hcl : ch < d'.length
        · have d2 : (ch : Int) < (d'.length : Int) := by omega
          have hLl : L < d'.length := by
            rcases hL.out with e | e
            · omega
            · exact e.2
          have d3 : (L : Int) < (d'.length : Int) := by omega
          have hhx := hh.out.below hbx.out (Nat.le_refl _)
          obtain ⟨hA, hR⟩ := hhx.row (by omega)
          subst hA
          have k0 := cell_regrown hhx.cell0
          have k1 := cell_regrown (hR.cell hcl).1
          have k2 := cell_regrown (hR.cell hcl).2
          have k3 := cell_regrown (hR.cell hLl).1
          have k4 := cell_regrown (hR.cell hLl).2
          have z : ∀ dd os, Calls Try.prog 46 #[iv (gt d' ch), iv (gt d' L)] (Sort.grow (redrawn wr dd) os) fun e w'' => e = .returned (.bool (lt (gt d' ch) (gt d' L))) ∧ ∃ p : Regrown, w'' = Sort.grow (redrawn wr p.d) p.os := fun dd os => Calls.regrown_of (before_any _ _ _)
          clear hR hhx
          generalize hx' : gt d' ch = x at *
          generalize hy' : gt d' L = y at *
          have HX := Lib.hid hx'
          have HY := Lib.hid hy'
          clear hx' hy'
          by_cases hlt : lt x y = true
          · have hlt0 := Lib.hid hlt
            rw [hlt] at z
            clear hlt
            go_wp2_with fail
            refine wp_region_quiet_below (by kernel_rfl) (by kernel_rfl) ?_
            repeat (go_big_quiet_step (with_reducible exact z _ _))
            refine wpQuiet_nil ?_
            intro _ hw'
            obtain ⟨⟨dq, osq⟩, hw''⟩ := hw'
            have hbq : Below wr.heap.size wr (Sort.grow (redrawn wr dq) osq) := below_regrown wr dq osq
            subst hw''
            generalize Sort.grow (redrawn wr dq) osq = W1 at *
            clear k0 k1 k2 k3 k4 z
            go_wp2
            go_roundg (gk - 1)
            case measure => omega
            case rel =>
              refine ⟨ch, ch + 1, rfl, by go_num, Lib.hid ⟨by omega, by omega, by omega⟩, Lib.hid (.inr ⟨by unfold Chi; omega, hcl⟩), Lib.hid ?_, Lib.hid ?_, Lib.hid (hbx.out.trans (hbq.mono hbx.out.size))⟩
              · intro k q1 q2 q3
                by_cases e : k = ch
                · subst e; exact lt_irrefl _
                · rw [HX.out]; exact le_trans (lt_asymm hlt0.out) (HA.out k q1 (by omega) q3)
              · rw [HX.out]; exact le_trans (lt_asymm hlt0.out) hiL2.out
          · rw [Bool.not_eq_true] at hlt
            have hlt0 := Lib.hid hlt
            rw [hlt] at z
            clear hlt
            go_wp2_with fail
            refine wp_region_quiet_below (by kernel_rfl) (by kernel_rfl) ?_
            repeat (go_big_quiet_step (with_reducible exact z _ _))
            refine wpQuiet_nil ?_
            intro _ hw'
            obtain ⟨⟨dq, osq⟩, hw''⟩ := hw'
            have hbq : Below wr.heap.size wr (Sort.grow (redrawn wr dq) osq) := below_regrown wr dq osq
            subst hw''
            generalize Sort.grow (redrawn wr dq) osq = W1 at *
            clear k0 k1 k2 k3 k4 z
            go_wp2
            go_roundg (gk - 1)
            case measure => omega
            case rel =>
              refine ⟨L, ch + 1, rfl, by go_num, Lib.hid ⟨by omega, by omega, by omega⟩, hL, Lib.hid ?_, Lib.hid (by rw [HY.out]; exact hiL2.out), Lib.hid (hbx.out.trans (hbq.mono hbx.out.size))⟩
              intro k q1 q2 q3
              by_cases e : k = ch
              · subst e; rw [HX.out, HY.out]; exact hlt0.out
              · rw [HY.out]; exact HA.out k q1 (by omega) q3
        · have d2 : decide ((ch : Int) < (d'.length : Int)) = false := decide_eq_false (by omega)
          have d2' : decide (ch < d'.length) = false := decide_eq_false (by omega)
          have HB : ∀ k, Chi i k → k < d'.length → lt (gt d' k) (gt d' L) = false := fun k h1 h2 => HA.out k h1 (by omega) h2
          by_cases hLi : L = i
          · have HD := Lib.hid (snk_done hr.out (fun c h1 h2 => hLi ▸ HB c h1 h2))
            subst hLi
            clear HB
            go_wp2
            refine bodyPost_ret (results_none rfl _ _ _) rfl ?_
            exact ⟨rfl, d', hh.out.below hbx.out (Nat.le_refl _), HD.out, hp.out, hk.out.then_below hbx.out (Nat.le_refl _)⟩
          · have hLn : L < d'.length ∧ i < L := by
              rcases hL.out with e | ⟨e1, e2⟩
              · exact absurd e hLi
              · exact ⟨e2, by unfold Chi at e1; omega⟩
            obtain ⟨hLn, hiL⟩ := hLn
            have hch : Chi i L := by
              rcases hL.out with e | ⟨e1, e2⟩
              · exact absurd e hLi
              · exact e1
            have hne : ((L : Int) == (i : Int)) = false := by simp; omega
            have HS := Lib.hid (snk_step hr.out hlo hch hLn HB hiL2.out)
            have HP := Lib.hid ((swp_perm d' i L (by omega) hLn).trans hp.out)
            have sw := swap_any hb A g c i L d' _ (hh.out.below hbx.out (Nat.le_refl _)) (by omega) hLn (by omega)
            have hbx2 := hbx
            clear HB hch hLi
            go_wp2_with fail
            refine sw.mono ?_
            rintro e W2 ⟨rfl, h2, h3⟩
            clear sw
            go_wp2
            go_roundg (d'.length - L)
            case measure => omega
            case rel => exact ⟨L, _, by go_num, by rw [swp_length]; exact Nat.le_refl _, Lib.hid (by rw [swp_length]; exact ⟨hl1, by omega, by omega, hl1⟩), Lib.hid h2, HS, HP, Lib.hid ((hk.out.then_below hbx2.out (Nat.le_refl _)).trans h3 (fun _ h => .inl h))⟩
      · have d1 : decide ((ch : Int) ≤ 2 * (i : Int) + 2) = false := decide_eq_false (by omega)
        have HB : ∀ k, Chi i k → k < d'.length → lt (gt d' k) (gt d' L) = false := fun k h1 h2 => HA.out k h1 (by unfold Chi at h1; omega) h2
        by_cases hLi : L = i
        · have HD := Lib.hid (snk_done hr.out (fun c h1 h2 => hLi ▸ HB c h1 h2))
          subst hLi
          clear HB
          go_wp2
          refine bodyPost_ret (results_none rfl _ _ _) rfl ?_
          exact ⟨rfl, d', hh.out.below hbx.out (Nat.le_refl _), HD.out, hp.out, hk.out.then_below hbx.out (Nat.le_refl _)⟩
        · have hLn : L < d'.length ∧ i < L := by
            rcases hL.out with e | ⟨e1, e2⟩
            · exact absurd e hLi
            · exact ⟨e2, by unfold Chi at e1; omega⟩
          obtain ⟨hLn, hiL⟩ := hLn
          have hch : Chi i L := by
            rcases hL.out with e | ⟨e1, e2⟩
            · exact absurd e hLi
            · exact e1
          have hne : ((L : Int) == (i : Int)) = false := by simp; omega
          have HS := Lib.hid (snk_step hr.out hlo hch hLn HB hiL2.out)
          have HP := Lib.hid ((swp_perm d' i L (by omega) hLn).trans hp.out)
          have sw := swap_any hb A g c i L d' _ (hh.out.below hbx.out (Nat.le_refl _)) (by omega) hLn (by omega)
          have hbx2 := hbx
          clear HB hch hLi
          go_wp2_with fail
          refine sw.mono ?_
          rintro e W2 ⟨rfl, h2, h3⟩
          clear sw
          go_wp2
          go_roundg (d'.length - L)
          case measure => omega
          case rel => exact ⟨L, _, by go_num, by rw [swp_length]; exact Nat.le_refl _, Lib.hid (by rw [swp_length]; exact ⟨hl1, by omega, by omega, hl1⟩), Lib.hid h2, HS, HP, Lib.hid ((hk.out.then_below hbx2.out (Nat.le_refl _)).trans h3 (fun _ h => .inl h))⟩
end Go.Proofs.Ytkpmdfgjaodlaaa
