/-
  The contract of the laws' laid. No statement is proved here; no conditions.
-/
import Derived.Test.YtlmcgjdenfnkmaaLaw0
namespace Go.Proofs.Ytlmcgjdenfnkmaa
open Go.RowKit Go.Joins

theorem act_len {m : List En} (h : Om m) (x : Ac) : (actm m x).length ≤ m.length + 1 := by
  unfold actm
  split
  · have := dropm_len m x.A x.N; omega
  · exact put_len h _ _ _
/-- What laid leaves. -/
def Laid (w : World) (s : List Ac) (e : Ending) (w' : World) : Prop :=
  ∃ tb A c S M, e = .returned (.tuple #[.pointer (some ⟨tb, 0, none⟩), .slice A M.length c]) ∧ M = mk6 s (min s.length 150) ∧ M.length ≤ 150 ∧ Ls w tb M M A S w'
set_option maxRecDepth 100000 in
set_option maxHeartbeats 2000000 in
theorem laid_any (A0 : Option Addr) (c : Nat) (s : List Ac) (w : World) (hs : Sc (· < w.heap.size) w A0 s) :
    Calls Try.prog 24 #[.slice A0 s.length c] w fun e w' => Laid w s e w' := by
  have HS : Hid (∀ V, Below w.heap.size w V → Sc (· < w.heap.size) V A0 s) := Lib.hid (fun V hV => hs.below hV (fun _ h => h))
  obtain ⟨sn, hsn⟩ : ∃ sn, s.length = sn := ⟨_, rfl⟩
  obtain ⟨n, hn⟩ : ∃ n, min sn 150 = n := ⟨_, rfl⟩
  have HSN := Lib.hid hsn
  have hn1 : n ≤ sn := by omega
  have hn2 : n ≤ 150 := by omega
  have HN := Lib.hid hn
  rw [hsn]
  clear hs hsn hn
  go_enter Try.func24, Try.ntmps24
  go_wp2_with fail
  refine (new_any _).mono ?_
  rintro e W1 ⟨rfl, b1, s1, t1⟩
  have l1 := Ls.start w t1 b1 s1 (some ⟨W1.heap.size, 0, none⟩)
  obtain ⟨W2, hW2⟩ : ∃ W2, W1.alloc (.cells #[] 39) = W2 := ⟨_, rfl⟩
  have b2 : Below W1.heap.size W1 W2 := by rw [← hW2]; exact below_alloc1 _ _
  have L2 := Lib.hid (l1.below b2)
  obtain ⟨tb, htb⟩ : ∃ tb, w.heap.size = tb := ⟨_, rfl⟩
  have HTB := Lib.hid htb
  rw [htb] at L2
  rw [htb]
  clear b1 t1 l1 b2 s1 htb
  go_wp2_with fail
  clear hW2
  go_loopg [5, 6] n (fun gf v5 v6 wx => ∃ (k : Nat) (A' : Option Addr) (c' : Nat) (M : List En), v5 = .slice A' M.length c' ∧ v6 = .int .i64 (k : Int) ∧ Hid (gf + k = n) ∧ Hid (M = mk6 s k) ∧ Hid (M.length ≤ k) ∧ Hid (∃ S, Ls w tb M M A' S wx))
  case atStart => exact ⟨0, _, _, [], rfl, rfl, Lib.hid (by omega), Lib.hid (mk6_zero s).symm, Lib.hid (by simp), Lib.hid ⟨_, by have := L2.out; rw [← HTB.out] at this ⊢; exact this⟩⟩
  case round =>
    obtain ⟨k, A', c', M, rfl, rfl, hk, hM, hMl, hL⟩ := hrel
    have hk' := hk.out
    clear L2
    cases gk with
    | zero =>
      have e1 : k = n := by omega
      have FIN : Hid (Laid w s (.returned (.tuple #[.pointer (some ⟨tb, 0, none⟩), .slice A' M.length c'])) wr) := Lib.hid (by
        obtain ⟨S, h⟩ := hL.out
        exact ⟨tb, A', c', S, M, rfl, by rw [hM.out, e1, HSN.out, HN.out], by have := hMl.out; omega, h⟩)
      by_cases hq : k < sn
      · have lt0 : (k : Int) < (sn : Int) := by omega
        have h150 : k = 150 := by have := HN.out; omega
        have lt2 : decide ((k : Int) < 150) = false := by simp; omega
        clear e1 hk' hk h150 hM hMl
        go_wp2
        go_ret2
        exact FIN.out
      · have lt0 : decide ((k : Int) < (sn : Int)) = false := by simp; omega
        have lt1 : decide (k < sn) = false := by simp; omega
        clear e1 hk' hk hq hM hMl
        go_wp2
        go_ret2
        exact FIN.out
    | succ gf =>
      have hkl : k < s.length := by rw [HSN.out]; omega
      have lt0 : (k : Int) < (sn : Int) := by omega
      have lt2 : (k : Int) < 150 := by omega
      obtain ⟨S, hL⟩ := hL.out
      obtain ⟨b, off, hA0, hxA, hxa, q1, q2, q3, q4, q5⟩ := (HS.out _ hL.bel).at_ hkl
      have hms := mk6_succ hkl
      obtain ⟨x, hx⟩ : ∃ x, ga s k = x := ⟨_, rfl⟩
      rw [hx, ← hM.out] at hms
      have hal := act_len hL.tz.om x
      have hMl' := hMl.out
      rw [hx] at hxA hxa q1 q2 q3 q4 q5
      subst hA0
      have Sof : Hid (∀ V, Below w.heap.size w V → V.cell? ⟨b, off + k * 5 + 1, none⟩ = some (.int .u32 (x.A : Int)) ∧ V.cell? ⟨b, off + k * 5 + 2, none⟩ = some (.int .i64 x.N) ∧ V.cell? ⟨b, off + k * 5 + 3, none⟩ = some (.int .i64 x.V)) := Lib.hid (fun V hV => by
        obtain ⟨b', off', heq, _, _, _, z2, z3, z4, _⟩ := (HS.out _ hV).at_ hkl
        simp only [Option.some.injEq, Addr.mk.injEq] at heq
        obtain ⟨rfl, rfl, _⟩ := heq
        rw [hx] at z2 z3 z4
        exact ⟨z2, z3, z4⟩)
      clear hx hkl hMl hM
      cases hd : x.d with
      | true =>
        rw [hd] at q1
        rw [show actm M x = dropm M x.A x.N by simp [actm, hd]] at hms hal
        have cd := tdrop_all S tb x.A x.N M wr hL.tz hxA (by omega)
        have HL := Lib.hid hL
        have HMS := Lib.hid hms
        clear hL hms hd q5
        go_wp2_with fail
        refine cd.mono ?_
        rintro e Y1 ⟨rfl, hg⟩
        obtain ⟨S1, hL1⟩ := HL.out.grew hg
        have cr := rdrop_any _ A' c' M x.A x.N Y1 hL1.row (by omega)
        clear cd hg q1 q2 q3 q4 HL
        obtain ⟨q2, q3, q4⟩ := Sof.out _ hL1.bel
        have HL1 := Lib.hid hL1
        clear hL1
        go_wp2_with fail
        refine cr.mono ?_
        rintro e Y2 ⟨A2, c2, rfl, ho, hb⟩
        have HL2 := Lib.hid (HL1.out.new hb ho)
        clear cr ho hb HL1 q2 q3 q4
        obtain ⟨M2, hM2⟩ : ∃ M2, dropm M x.A x.N = M2 := ⟨_, rfl⟩
        rw [hM2] at HL2 HMS hal
        rw [hM2]
        clear hM2
        go_wp2
        go_roundg gf
        case measure => omega
        case rel => exact ⟨k + 1, A2, c2, M2, rfl, by go_num, Lib.hid (by omega), Lib.hid HMS.out.symm, Lib.hid (by omega), Lib.hid ⟨_, HL2.out⟩⟩
      | false =>
        rw [hd] at q1
        rw [show actm M x = putm M x.A x.N x.V by simp [actm, hd]] at hms hal
        have HMS := Lib.hid hms
        have HL := Lib.hid (show Ls w tb M M A' S wr.drew from ⟨hL.tz.below (below_draws _ wr 1), hL.own, hL.row, hL.bel.trans (below_draws _ wr 1)⟩)
        clear hL hms hd q5
        go_upto_region 10 with fail
        refine wp_region_held_drew (S := fun V => V.cell? ⟨b, off + k * 5 + 1, none⟩ = some (.int .u32 (x.A : Int)) ∧ V.cell? ⟨b, off + k * 5 + 2, none⟩ = some (.int .i64 x.N) ∧ V.cell? ⟨b, off + k * 5 + 3, none⟩ = some (.int .i64 x.V)) (by kernel_rfl) ⟨q2, q3, q4⟩ (fun hHeld => ?_)
        refine wpAnyH_take (i := 0) (v := ?_) rfl (by kernel_rfl) (by kernel_rfl) (by kernel_rfl) (fun _ _ _ h => h) (Or.inl ⟨by rfl, ?_⟩) (by assumption) ?_
        rotate_left
        · (intro w' hSw; (try dsimp only at hSw); go_simp; try with_reducible rfl)
        simp only [Act.put, List.getElem_toArray, List.getElem_cons_zero, List.setIfInBounds_toArray, List.set_cons_zero, List.set_cons_succ]
        refine wpAnyH_take (i := 1) (v := ?_) rfl (by kernel_rfl) (by kernel_rfl) (by kernel_rfl) (fun _ _ _ h => h) (Or.inl ⟨by rfl, ?_⟩) (by assumption) ?_
        rotate_left
        · (intro w' hSw; (try dsimp only at hSw); go_simp; try with_reducible rfl)
        simp only [Act.put, List.getElem_toArray, List.getElem_cons_zero, List.getElem_cons_succ, List.setIfInBounds_toArray, List.set_cons_zero, List.set_cons_succ]
        refine wpAnyH_take (i := 2) (v := ?_) rfl (by kernel_rfl) (by kernel_rfl) (by kernel_rfl) (fun _ _ _ h => h) (Or.inl ⟨by rfl, ?_⟩) (by assumption) ?_
        rotate_left
        · (intro w' hSw; (try dsimp only at hSw); go_simp; try with_reducible rfl)
        simp only [Act.put, List.getElem_toArray, List.getElem_cons_zero, List.getElem_cons_succ, List.setIfInBounds_toArray, List.set_cons_zero, List.set_cons_succ]
        refine wpAnyH_take (i := 3) (v := ?_) rfl (by kernel_rfl) (by kernel_rfl) (by kernel_rfl) (fun _ _ _ h => h) (Or.inl ⟨by rfl, ?_⟩) (by assumption) ?_
        rotate_left
        · (intro w' hSw; (try dsimp only at hSw); go_simp; try with_reducible rfl)
        simp only [Act.put, List.getElem_toArray, List.getElem_cons_zero, List.getElem_cons_succ, List.setIfInBounds_toArray, List.set_cons_zero, List.set_cons_succ]
        refine wpAnyH_take (i := 4) (v := ?_) rfl (by kernel_rfl) (by kernel_rfl) (by kernel_rfl) (fun _ _ _ h => h) (Or.inl ⟨by rfl, ?_⟩) (by assumption) ?_
        rotate_left
        · (intro w' hSw; (try dsimp only at hSw); go_simp; try with_reducible rfl)
        simp only [Act.put, List.getElem_toArray, List.getElem_cons_zero, List.getElem_cons_succ, List.setIfInBounds_toArray, List.set_cons_zero, List.set_cons_succ]
        refine wpAnyH_take (i := 5) (v := ?_) rfl (by kernel_rfl) (by kernel_rfl) (by kernel_rfl) (fun _ _ _ h => h) (Or.inl ⟨by rfl, ?_⟩) (by assumption) ?_
        rotate_left
        · (intro w' hSw; (try dsimp only at hSw); go_simp; try with_reducible rfl)
        simp only [Act.put, List.getElem_toArray, List.getElem_cons_zero, List.getElem_cons_succ, List.setIfInBounds_toArray, List.set_cons_zero, List.set_cons_succ]
        refine wpAnyH_take (i := 6) (v := ?_) rfl (by kernel_rfl) (by kernel_rfl) (by kernel_rfl) (fun _ _ _ h => h) (Or.inl ⟨by rfl, ?_⟩) (by assumption) ?_
        rotate_left
        · (intro w' hSw; (try dsimp only at hSw); go_simp; try with_reducible rfl)
        simp only [Act.put, List.getElem_toArray, List.getElem_cons_zero, List.getElem_cons_succ, List.setIfInBounds_toArray, List.set_cons_zero, List.set_cons_succ]
        refine wpAnyH_take (i := 7) (v := ?_) rfl (by kernel_rfl) (by kernel_rfl) (by kernel_rfl) (fun _ _ _ h => h) (Or.inl ⟨by rfl, ?_⟩) (by assumption) ?_
        rotate_left
        · (intro w' hSw; (try dsimp only at hSw); go_simp; try with_reducible rfl)
        simp only [Act.put, List.getElem_toArray, List.getElem_cons_zero, List.getElem_cons_succ, List.setIfInBounds_toArray, List.set_cons_zero, List.set_cons_succ]
        refine wpAnyH_take (i := 8) (v := ?_) rfl (by kernel_rfl) (by kernel_rfl) (by kernel_rfl) (fun _ _ _ h => h) (Or.inl ⟨by rfl, ?_⟩) (by assumption) ?_
        rotate_left
        · (intro w' hSw; (try dsimp only at hSw); go_simp; try with_reducible rfl)
        simp only [Act.put, List.getElem_toArray, List.getElem_cons_zero, List.getElem_cons_succ, List.setIfInBounds_toArray, List.set_cons_zero, List.set_cons_succ]
        refine wpAnyH_take (i := 9) (v := ?_) rfl (by kernel_rfl) (by kernel_rfl) (by kernel_rfl) (fun _ _ _ h => h) (Or.inl ⟨by rfl, ?_⟩) (by assumption) ?_
        rotate_left
        · (intro w' hSw; (try dsimp only at hSw); go_simp; try with_reducible rfl)
        simp only [Act.put, List.getElem_toArray, List.getElem_cons_zero, List.getElem_cons_succ, List.setIfInBounds_toArray, List.set_cons_zero, List.set_cons_succ]
        refine wpAnyH_take (i := 10) (v := ?_) rfl (by kernel_rfl) (by kernel_rfl) (by kernel_rfl) (fun _ _ _ h => h) (Or.inl ⟨by rfl, ?_⟩) (by assumption) ?_
        rotate_left
        · (intro w' hSw; (try dsimp only at hSw); go_simp; try with_reducible rfl)
        simp only [Act.put, List.getElem_toArray, List.getElem_cons_zero, List.getElem_cons_succ, List.setIfInBounds_toArray, List.set_cons_zero, List.set_cons_succ]
        obtain ⟨X0, hX0⟩ : ∃ X, wr.drew = X := ⟨_, rfl⟩
        rw [hX0] at HL ⊢
        clear hX0 hHeld q1 q2 q3 q4
        refine wpAnyH_ready (rs := [11]) (by kernel_rfl) (by simp) ?_
        refine AllReadyH.cons rfl (fun K hK => ?_) AllReadyH.nil
        go_simp
        go_at_call 12
        refine (tset_all S tb x.A x.N x.V M X0 HL.out.tz hxA (by omega)).mono ?_
        rintro e X1 ⟨rfl, hg⟩
        obtain ⟨S1, hL1⟩ := HL.out.grew hg
        have SF := Lib.hid (Sof.out _ hL1.bel)
        have HL1 := Lib.hid hL1
        clear hg hL1 HL
        refine hK.out _ _ SF.out (fun _ => ?_)
        clear hK K
        refine wpAnyH_done (by kernel_rfl) ?_ _
        go_upto_region 11 with fail
        have HL2 : Hid (Ls w tb (putm M x.A x.N x.V) M A' S1 X1.drew) := Lib.hid ⟨HL1.out.tz.below (below_draws _ X1 1), HL1.out.own, HL1.out.row, HL1.out.bel.trans (below_draws _ X1 1)⟩
        refine wp_region_held_drew (S := fun V => V.cell? ⟨b, off + k * 5 + 1, none⟩ = some (.int .u32 (x.A : Int)) ∧ V.cell? ⟨b, off + k * 5 + 2, none⟩ = some (.int .i64 x.N) ∧ V.cell? ⟨b, off + k * 5 + 3, none⟩ = some (.int .i64 x.V)) (by kernel_rfl) SF.out (fun hHeld => ?_)
        refine wpAnyH_take (i := 0) (v := ?_) rfl (by kernel_rfl) (by kernel_rfl) (by kernel_rfl) (fun _ _ _ h => h) (Or.inl ⟨by rfl, ?_⟩) (by assumption) ?_
        rotate_left
        · (intro w' hSw; (try dsimp only at hSw); go_simp; try with_reducible rfl)
        simp only [Act.put, List.getElem_toArray, List.getElem_cons_zero, List.setIfInBounds_toArray, List.set_cons_zero, List.set_cons_succ]
        refine wpAnyH_take (i := 1) (v := ?_) rfl (by kernel_rfl) (by kernel_rfl) (by kernel_rfl) (fun _ _ _ h => h) (Or.inl ⟨by rfl, ?_⟩) (by assumption) ?_
        rotate_left
        · (intro w' hSw; (try dsimp only at hSw); go_simp; try with_reducible rfl)
        simp only [Act.put, List.getElem_toArray, List.getElem_cons_zero, List.getElem_cons_succ, List.setIfInBounds_toArray, List.set_cons_zero, List.set_cons_succ]
        refine wpAnyH_take (i := 2) (v := ?_) rfl (by kernel_rfl) (by kernel_rfl) (by kernel_rfl) (fun _ _ _ h => h) (Or.inl ⟨by rfl, ?_⟩) (by assumption) ?_
        rotate_left
        · (intro w' hSw; (try dsimp only at hSw); go_simp; try with_reducible rfl)
        simp only [Act.put, List.getElem_toArray, List.getElem_cons_zero, List.getElem_cons_succ, List.setIfInBounds_toArray, List.set_cons_zero, List.set_cons_succ]
        refine wpAnyH_take (i := 3) (v := ?_) rfl (by kernel_rfl) (by kernel_rfl) (by kernel_rfl) (fun _ _ _ h => h) (Or.inl ⟨by rfl, ?_⟩) (by assumption) ?_
        rotate_left
        · (intro w' hSw; (try dsimp only at hSw); go_simp; try with_reducible rfl)
        simp only [Act.put, List.getElem_toArray, List.getElem_cons_zero, List.getElem_cons_succ, List.setIfInBounds_toArray, List.set_cons_zero, List.set_cons_succ]
        refine wpAnyH_take (i := 4) (v := ?_) rfl (by kernel_rfl) (by kernel_rfl) (by kernel_rfl) (fun _ _ _ h => h) (Or.inl ⟨by rfl, ?_⟩) (by assumption) ?_
        rotate_left
        · (intro w' hSw; (try dsimp only at hSw); go_simp; try with_reducible rfl)
        simp only [Act.put, List.getElem_toArray, List.getElem_cons_zero, List.getElem_cons_succ, List.setIfInBounds_toArray, List.set_cons_zero, List.set_cons_succ]
        refine wpAnyH_take (i := 5) (v := ?_) rfl (by kernel_rfl) (by kernel_rfl) (by kernel_rfl) (fun _ _ _ h => h) (Or.inl ⟨by rfl, ?_⟩) (by assumption) ?_
        rotate_left
        · (intro w' hSw; (try dsimp only at hSw); go_simp; try with_reducible rfl)
        simp only [Act.put, List.getElem_toArray, List.getElem_cons_zero, List.getElem_cons_succ, List.setIfInBounds_toArray, List.set_cons_zero, List.set_cons_succ]
        refine wpAnyH_take (i := 6) (v := ?_) rfl (by kernel_rfl) (by kernel_rfl) (by kernel_rfl) (fun _ _ _ h => h) (Or.inl ⟨by rfl, ?_⟩) (by assumption) ?_
        rotate_left
        · (intro w' hSw; (try dsimp only at hSw); go_simp; try with_reducible rfl)
        simp only [Act.put, List.getElem_toArray, List.getElem_cons_zero, List.getElem_cons_succ, List.setIfInBounds_toArray, List.set_cons_zero, List.set_cons_succ]
        refine wpAnyH_take (i := 7) (v := ?_) rfl (by kernel_rfl) (by kernel_rfl) (by kernel_rfl) (fun _ _ _ h => h) (Or.inl ⟨by rfl, ?_⟩) (by assumption) ?_
        rotate_left
        · (intro w' hSw; (try dsimp only at hSw); go_simp; try with_reducible rfl)
        simp only [Act.put, List.getElem_toArray, List.getElem_cons_zero, List.getElem_cons_succ, List.setIfInBounds_toArray, List.set_cons_zero, List.set_cons_succ]
        refine wpAnyH_take (i := 8) (v := ?_) rfl (by kernel_rfl) (by kernel_rfl) (by kernel_rfl) (fun _ _ _ h => h) (Or.inl ⟨by rfl, ?_⟩) (by assumption) ?_
        rotate_left
        · (intro w' hSw; (try dsimp only at hSw); go_simp; try with_reducible rfl)
        simp only [Act.put, List.getElem_toArray, List.getElem_cons_zero, List.getElem_cons_succ, List.setIfInBounds_toArray, List.set_cons_zero, List.set_cons_succ]
        refine wpAnyH_take (i := 9) (v := ?_) rfl (by kernel_rfl) (by kernel_rfl) (by kernel_rfl) (fun _ _ _ h => h) (Or.inl ⟨by rfl, ?_⟩) (by assumption) ?_
        rotate_left
        · (intro w' hSw; (try dsimp only at hSw); go_simp; try with_reducible rfl)
        simp only [Act.put, List.getElem_toArray, List.getElem_cons_zero, List.getElem_cons_succ, List.setIfInBounds_toArray, List.set_cons_zero, List.set_cons_succ]
        refine wpAnyH_take (i := 10) (v := ?_) rfl (by kernel_rfl) (by kernel_rfl) (by kernel_rfl) (fun _ _ _ h => h) (Or.inl ⟨by rfl, ?_⟩) (by assumption) ?_
        rotate_left
        · (intro w' hSw; (try dsimp only at hSw); go_simp; try with_reducible rfl)
        simp only [Act.put, List.getElem_toArray, List.getElem_cons_zero, List.getElem_cons_succ, List.setIfInBounds_toArray, List.set_cons_zero, List.set_cons_succ]
        obtain ⟨X2, hX2⟩ : ∃ X, X1.drew = X := ⟨_, rfl⟩
        rw [hX2] at HL2 ⊢
        clear hX2 hHeld SF HL1
        refine wpAnyH_ready (rs := [11]) (by kernel_rfl) (by simp) ?_
        refine AllReadyH.cons rfl (fun K hK => ?_) AllReadyH.nil
        go_simp
        go_at_call 13
        refine (rset_all _ A' c' M x.A x.N x.V X2 HL2.out.row (by omega) hxA).mono ?_
        rintro e X3 ⟨A2, c2, rfl, hb, hr⟩
        have HL3 : Hid (Ls w tb (putm M x.A x.N x.V) (putm M x.A x.N x.V) A2 S1 X3) := Lib.hid (by
          rcases hr with ⟨rfl, rfl, e⟩ | ho
          · have := HL2.out.below hb; rw [e] at this ⊢; exact this
          · exact HL2.out.new hb ho)
        have SF := Lib.hid (Sof.out _ HL3.out.bel)
        clear hb hr HL2
        obtain ⟨M2, hM2⟩ : ∃ M2, putm M x.A x.N x.V = M2 := ⟨_, rfl⟩
        rw [hM2] at HL3 HMS hal
        rw [hM2]
        clear hM2
        refine hK.out _ _ SF.out (fun hHeld => ?_)
        clear hK K
        refine wpAnyH_take (i := 12) (v := ?_) rfl (by kernel_rfl) (by kernel_rfl) (by kernel_rfl) (fun _ _ _ h => h) (Or.inl ⟨by rfl, ?_⟩) (by assumption) ?_
        rotate_left
        · (intro w' hSw; (try dsimp only at hSw); go_simp; try with_reducible rfl)
        simp only [Act.put, List.getElem_toArray, List.getElem_cons_zero, List.getElem_cons_succ, List.setIfInBounds_toArray, List.set_cons_zero, List.set_cons_succ]
        refine wpAnyH_take (i := 13) (v := ?_) rfl (by kernel_rfl) (by kernel_rfl) (by kernel_rfl) (fun _ _ _ h => h) (Or.inl ⟨by rfl, ?_⟩) (by assumption) ?_
        rotate_left
        · (intro w' hSw; (try dsimp only at hSw); go_simp; try with_reducible rfl)
        simp only [Act.put, List.getElem_toArray, List.getElem_cons_zero, List.getElem_cons_succ, List.setIfInBounds_toArray, List.set_cons_zero, List.set_cons_succ]
        refine wpAnyH_take (i := 14) (v := ?_) rfl (by kernel_rfl) (by kernel_rfl) (by kernel_rfl) (fun _ _ _ h => h) (Or.inl ⟨by rfl, ?_⟩) (by assumption) ?_
        rotate_left
        · (intro w' hSw; (try dsimp only at hSw); go_simp; try with_reducible rfl)
        simp only [Act.put, List.getElem_toArray, List.getElem_cons_zero, List.getElem_cons_succ, List.setIfInBounds_toArray, List.set_cons_zero, List.set_cons_succ]
        refine wpAnyH_take (i := 15) (v := ?_) rfl (by kernel_rfl) (by kernel_rfl) (by kernel_rfl) (fun _ _ _ h => h) (Or.inl ⟨by rfl, ?_⟩) (by assumption) ?_
        rotate_left
        · (intro w' hSw; (try dsimp only at hSw); go_simp; try with_reducible rfl)
        simp only [Act.put, List.getElem_toArray, List.getElem_cons_zero, List.getElem_cons_succ, List.setIfInBounds_toArray, List.set_cons_zero, List.set_cons_succ]
        refine wpAnyH_take (i := 16) (v := ?_) rfl (by kernel_rfl) (by kernel_rfl) (by kernel_rfl) (fun _ _ _ h => h) (Or.inl ⟨by rfl, ?_⟩) (by assumption) ?_
        rotate_left
        · (intro w' hSw; (try dsimp only at hSw); go_simp; try with_reducible rfl)
        simp only [Act.put, List.getElem_toArray, List.getElem_cons_zero, List.getElem_cons_succ, List.setIfInBounds_toArray, List.set_cons_zero, List.set_cons_succ]
        refine wpAnyH_done (by kernel_rfl) ?_ _
        go_wp2
        go_roundg gf
        case measure => omega
        case rel => exact ⟨k + 1, A2, c2, M2, rfl, by go_num, Lib.hid (by omega), Lib.hid HMS.out.symm, Lib.hid (by omega), Lib.hid ⟨_, HL3.out⟩⟩
end Go.Proofs.Ytlmcgjdenfnkmaa
