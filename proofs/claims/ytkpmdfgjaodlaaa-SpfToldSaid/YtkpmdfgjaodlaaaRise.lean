/-
  The contract of the heap's rise. No statement is proved here; no conditions.
-/
import Derived.Test.YtkpmdfgjaodlaaaHr
namespace Go.Proofs.Ytkpmdfgjaodlaaa
open Go.RowKit Go.Joins

theorem rise_any (hb : Nat) (A : Option Addr) (g c i0 : Nat) (d : List It) (w : World) (h : Hr w hb A g c d) (hi : i0 < d.length) (hs : d.length ≤ 1000000) (hq : Ris i0 d) :
    Calls Try.prog 42 #[.pointer (some ⟨hb, 0, none⟩), .int .i64 i0] w fun e w' => e = .returned (.tuple #[]) ∧ ∃ d', Hr w' hb A g c d' ∧ Hpf 0 d' ∧ d'.Perm d ∧ Kp (· = g) w w' := by
  obtain ⟨hA, -⟩ := h.row (by omega)
  subst hA
  have hH := Lib.hid h
  have hQ := Lib.hid hq
  clear h hq
  go_enter Try.func42, Try.ntmps42
  go_wp2
  go_loopg [1] i0 (fun gf vi wx => ∃ (i : Nat) (d' : List It), vi = .int .i64 (i : Int) ∧ i ≤ gf ∧ Hid (i < d'.length ∧ d'.length ≤ 1000000) ∧ Hid (Hr wx hb (some ⟨g, 0, none⟩) g c d') ∧ Hid (Ris i d') ∧ Hid (d'.Perm d) ∧ Hid (Kp (· = g) w wx))
  case atStart => exact ⟨i0, d, rfl, Nat.le_refl _, Lib.hid ⟨hi, hs⟩, hH, hQ, Lib.hid (List.Perm.refl _), Lib.hid (Kp.refl _ _)⟩
  case round =>
    obtain ⟨i, d', rfl, hg, hl, hh, hr, hp, hk⟩ := hrel
    clear hH hQ hi hs
    by_cases h0 : i = 0
    · subst h0
      go_wp2
      go_end0
      exact ⟨rfl, d', hh.out, ris_zero hr.out, hp.out, hk.out⟩
    · obtain ⟨p, hp0⟩ : ∃ p, p = (i - 1) / 2 := ⟨_, rfl⟩
      obtain ⟨hl1, hl2⟩ := hl.out
      have hw1 : wrap64 ((i : Int) - 1) = (i : Int) - 1 := by unfold wrap64; omega
      have hpi : ((i : Int) - 1) / 2 = (p : Int) := by omega
      clear hw1
      have hch : Chi p i := by unfold Chi; omega
      have hi1 : (0 : Int) < (i : Int) := by omega
      have b1 : (i : Int) < (d'.length : Int) := by omega
      have b2 : (p : Int) < (d'.length : Int) := by omega
      have hR := (hh.out.row (by omega)).2
      have k0 := cell_regrown hh.out.cell0
      have k1 := cell_regrown (hR.cell hl1).1
      have k2 := cell_regrown (hR.cell hl1).2
      have k3 := cell_regrown (hR.cell (i := p) (by omega)).1
      have k4 := cell_regrown (hR.cell (i := p) (by omega)).2
      have z : ∀ dd os, Calls Try.prog 46 #[iv (gt d' i), iv (gt d' p)] (Sort.grow (redrawn wr dd) os) fun e w'' => e = .returned (.bool (lt (gt d' i) (gt d' p))) ∧ ∃ p : Regrown, w'' = Sort.grow (redrawn wr p.d) p.os := fun dd os => Calls.regrown_of (before_any _ _ _)
      have hpl : p < d'.length := by omega
      have hne : i ≠ p := by omega
      have hpg : p ≤ i - 1 := by omega
      have HC := Lib.hid hch
      clear hp0 hR hch
      by_cases hlt : lt (gt d' i) (gt d' p) = true
      · have HS := Lib.hid (ris_step hr.out HC.out hl1 hlt)
        have HP := Lib.hid ((swp_perm d' i p hl1 hpl).trans hp.out)
        rw [hlt] at z
        have sw := fun W h => swap_any hb (some ⟨g, 0, none⟩) g c i p d' W h hl1 hpl hne
        clear hlt
        generalize hx : gt d' i = x at *
        generalize hy : gt d' p = y at *
        clear hx hy
        go_wp2_with fail
        refine wp_region_quiet_below (by kernel_rfl) (by kernel_rfl) ?_
        repeat (go_big_quiet_step (with_reducible exact z _ _))
        refine wpQuiet_nil ?_
        intro _ hw'
        obtain ⟨⟨dq, osq⟩, hw''⟩ := hw'
        have hbq : Below wr.heap.size wr (Sort.grow (redrawn wr dq) osq) := below_regrown wr dq osq
        subst hw''
        generalize Sort.grow (redrawn wr dq) osq = W1 at *
        clear k0 k1 k2 k3 k4 z
        go_wp2_with fail
        refine (sw _ (hh.out.below hbq (Nat.le_refl _))).mono ?_
        rintro e W2 ⟨rfl, h2, h3⟩
        clear sw
        go_wp2
        go_roundg (gk - 1)
        case measure => omega
        case rel => exact ⟨p, _, by go_num, by omega, Lib.hid (by rw [swp_length]; exact ⟨hpl, hl2⟩), Lib.hid h2, HS, HP, Lib.hid ((hk.out.then_below hbq (Nat.le_refl _)).trans h3 (fun _ h => .inl h))⟩
      · rw [Bool.not_eq_true] at hlt
        have HS := Lib.hid (ris_done hr.out HC.out hlt)
        rw [hlt] at z
        clear hlt
        generalize hx : gt d' i = x at *
        generalize hy : gt d' p = y at *
        clear hx hy
        go_wp2_with fail
        refine wp_region_quiet_below (by kernel_rfl) (by kernel_rfl) ?_
        repeat (go_big_quiet_step (with_reducible exact z _ _))
        refine wpQuiet_nil ?_
        intro _ hw'
        obtain ⟨⟨dq, osq⟩, hw''⟩ := hw'
        have hbq : Below wr.heap.size wr (Sort.grow (redrawn wr dq) osq) := below_regrown wr dq osq
        subst hw''
        generalize Sort.grow (redrawn wr dq) osq = W1 at *
        clear k0 k1 k2 k3 k4 z
        go_wp2
        refine bodyPost_ret (results_none rfl _ _ _) rfl ?_
        exact ⟨rfl, d', hh.out.below hbq (Nat.le_refl _), HS.out, hp.out, hk.out.then_below hbq (Nat.le_refl _)⟩
end Go.Proofs.Ytkpmdfgjaodlaaa
