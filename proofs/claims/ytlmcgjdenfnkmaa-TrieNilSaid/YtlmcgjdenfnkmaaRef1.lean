/-
  Contracts of the reference's Drop, Get, Same. No statement is proved here; no conditions.
-/
import Derived.Test.YtlmcgjdenfnkmaaBel
import Derived.Test.YtlmcgjdenfnkmaaRefA
namespace Go.Proofs.Ytlmcgjdenfnkmaa
open Go.RowKit Go.Joins

theorem dropm_take {l : List En} {k : Nat} (hk : k < l.length) (A : Nat) (N : Int) : dropm (l.take (k + 1)) A N = if sp A N (ge l k) = true then dropm (l.take k) A N else dropm (l.take k) A N ++ [ge l k] := by
  unfold dropm
  rw [List.take_succ_eq_append_getElem hk, List.filter_append, ge_eq hk]
  cases h : sp A N l[k] <;> simp [h]
theorem dropm_len (l : List En) (A : Nat) (N : Int) : (dropm l A N).length ≤ l.length := List.length_filter_le _ _
/-- What the reference's Drop leaves. -/
def RDropped (w : World) (l : List En) (A : Nat) (N : Int) (e : Ending) (w' : World) : Prop :=
  ∃ A' c', e = .returned (.tuple #[.slice A' (dropm l A N).length c', .bool (decide ((dropm l A N).length < l.length))]) ∧ Orw (w.heap.size ≤ ·) w' A' c' (dropm l A N) ∧ Below w.heap.size w w'
theorem nat_beq {a b : Nat} (h : a ≠ b) : ((a : Int) == (b : Int)) = false := by rw [beq_dec]; exact decide_eq_false h
theorem nat_beqt {a b : Nat} (h : a = b) : ((a : Int) == (b : Int)) = true := by rw [beq_dec]; exact decide_eq_true h
theorem int_beq {a b : Int} (h : a ≠ b) : (a == b) = false := by simpa using h
set_option maxRecDepth 100000 in
theorem rdrop_any (S : Nat → Prop) (A0 : Option Addr) (c : Nat) (l : List En) (A : Nat) (N : Int) (w : World) (hl : Rd S w A0 (eflat l)) (hll : l.length ≤ 10000) :
    Calls Try.prog 11 #[.slice A0 l.length c, pf A N] w fun e w' => RDropped w l A N e w' := by
  obtain ⟨W0, hW0⟩ : ∃ W0, w.alloc (.cells #[.int .u32 (A : Int), .int .i64 N] 25) = W0 := ⟨_, rfl⟩
  have s0 : W0.heap.size = w.heap.size + 1 := by rw [← hW0]; simp
  have b0 : Below w.heap.size w W0 := by rw [← hW0]; exact below_alloc1 _ _
  have p0 : W0.heap[w.heap.size]? = some (.cells #[.int .u32 (A : Int), .int .i64 N] 25 (0, 0)) := by rw [← hW0]; exact Go.heap_alloc_new _ _
  obtain ⟨W1, hW1⟩ : ∃ W1, W0.alloc (.cells #[] 39) = W1 := ⟨_, rfl⟩
  have s1 : W1.heap.size = w.heap.size + 2 := by rw [← hW1]; simp [s0]
  have b1 : Below W0.heap.size W0 W1 := by rw [← hW1]; exact below_alloc1 _ _
  have o1 : Hid (Orw (W0.heap.size ≤ ·) W1 (some ⟨W0.heap.size, 0, none⟩) 0 []) := Lib.hid (.inr ⟨W0.heap.size, Nat.le_refl _, rfl, by rw [← hW1]; exact Rg.lit W0 39 3 0 #[] [] rfl rfl (by unfold maxLen; omega)⟩)
  have HB0 := Lib.hid b0
  have HB1 := Lib.hid b1
  have HP := Lib.hid p0
  have HL := Lib.hid (hl.keep b0.size (fun j _ hj => b0.block j hj))
  clear b0 b1 p0 hl s1
  obtain ⟨ln, hln⟩ : ∃ ln, l.length = ln := ⟨_, rfl⟩
  rw [hln] at hll ⊢
  have HLN := Lib.hid hln
  clear hln
  go_enter Try.func11, Try.ntmps11
  go_wp2_with fail
  clear hW0 hW1
  go_loopg [6, 7] ln (fun gf v6 v7 wx => ∃ (k : Nat) (A' : Option Addr) (c' : Nat) (L : List En), v6 = .slice A' L.length c' ∧ v7 = .int .i64 (k : Int) ∧ Hid (gf + k = ln) ∧ Hid (L = dropm (l.take k) A N) ∧ Hid (Orw (W0.heap.size ≤ ·) wx A' c' L) ∧ Hid (Below W0.heap.size W0 wx))
  case atStart => exact ⟨0, _, _, [], by rw [s0]; rfl, rfl, Lib.hid (by omega), Lib.hid (by simp [dropm]), o1, HB1⟩
  case round =>
    obtain ⟨k, A', c', L, rfl, rfl, hk, hL, ho, hb⟩ := hrel
    have hk' := hk.out
    clear HB1 o1
    cases gk with
    | zero =>
      have e1 : k = ln := by omega
      have lt0 : decide ((k : Int) < (ln : Int)) = false := by simp; omega
      have lt1 : decide (k < ln) = false := by simp; omega
      have e2 : L = dropm l A N := by rw [hL.out, e1, ← HLN.out, List.take_length]
      have HE := Lib.hid e2
      clear e2 e1
      go_wp2
      go_ret2
      have e2 := HE.out
      subst e2
      refine ⟨A', c', ?_, ho.out.more (fun j hj _ => by show w.heap.size ≤ j; omega), HB0.out.trans (hb.out.mono (by omega))⟩
      rw [HLN.out]
      simp
    | succ gf =>
      have hkl : k < l.length := by rw [HLN.out]; omega
      have lt0 : (k : Int) < (ln : Int) := by omega
      obtain ⟨b, off, hA, _, _, e0, e1, e2⟩ := (HL.out.keep hb.out.size (fun j _ hj => hb.out.block j hj)).entry hkl
      obtain ⟨x, hx⟩ : ∃ x, ge l k = x := ⟨_, rfl⟩
      have hst := dropm_take hkl A N
      rw [hx] at e0 e1 e2 hst
      subst hA
      obtain ⟨p0, p1, _, _⟩ := blk2 ((hb.out.block _ (by omega)).trans HP.out)
      have hLl : L.length ≤ k := by
        rw [hL.out]
        have h1 := dropm_len (l.take k) A N
        have h2 : (l.take k).length ≤ k := by simp; omega
        omega
      clear hkl
      have hw1 : (k : Int) + 1 ≤ 10000 := by omega
      by_cases q1 : x.A = A
      · by_cases q2 : x.N = N
        · have n1 := nat_beqt q1
          have n2 : (x.N == N) = true := by simpa using q2
          rw [if_pos (by simp [sp, q1, q2])] at hst
          have HN : Hid (L = dropm (l.take (k + 1)) A N) := Lib.hid (by rw [hst]; exact hL.out)
          clear q1 q2 hst hx hLl
          go_wp2_with fail
          go_quiet (fail)
          have ho' := ho.out.keep (w' := wr.drewN nq) (fun _ _ _ => rfl)
          have HO := Lib.hid ho'
          have HB3 := Lib.hid (hb.out.trans (below_draws _ wr nq))
          clear ho' ho hb e0 e1 e2 p0 p1
          generalize wr.drewN nq = wq at *
          go_wp2
          go_roundg gf
          case measure => omega
          case rel => exact ⟨k + 1, A', c', L, rfl, by go_num, Lib.hid (by omega), HN, HO, HB3⟩
        · have n1 := nat_beqt q1
          have n2 := int_beq q2
          rw [if_neg (by simp [sp, q2])] at hst
          have HN : Hid (L ++ [x] = dropm (l.take (k + 1)) A N) := Lib.hid (by rw [hst, hL.out])
          clear q1 q2 hst hx
          go_wp2_with fail
          go_quiet (fail)
          have ho' := ho.out.keep (w' := wr.drewN nq) (fun _ _ _ => rfl)
          have hb' := hb.out.trans (below_draws _ wr nq)
          have e0' : (wr.drewN nq).cell? ⟨b, off + k * 3, none⟩ = some (.int .u32 (x.A : Int)) := e0
          have e1' : (wr.drewN nq).cell? ⟨b, off + k * 3 + 1, none⟩ = some (.int .i64 x.N) := e1
          have e2' : (wr.drewN nq).cell? ⟨b, off + k * 3 + 2, none⟩ = some (.int .i64 x.V) := e2
          clear ho hb e0 e1 e2 p0 p1
          generalize wr.drewN nq = wq at *
          obtain ⟨ll, hll2⟩ : ∃ ll, L.length = ll := ⟨_, rfl⟩
          obtain ⟨g2, c3, W3, r1, r2, r3, r4⟩ := en_app ho' hll2 (by omega) x wq.heap.size rfl
          have hws := hb'.size
          have HO : Hid (Orw (W0.heap.size ≤ ·) W3 (some ⟨g2, 0, none⟩) c3 (L ++ [x])) := Lib.hid (.inr ⟨g2, by rcases r3 with q | q; exact q; show W0.heap.size ≤ g2; omega, rfl, r2⟩)
          have HB3 : Hid (Below W0.heap.size W0 W3) := Lib.hid (hb'.trans (r4.below (fun _ h => h) hws))
          have HLL := Lib.hid hll2
          rw [hll2]
          clear hLl hll2 r2 r3 r4 ho' hb'
          go_wp2_with (at_builtin; refine wpList_runb _ rfl (.tmp 22) (.tmp 27) 28 rfl rfl rfl r1 ?_)
          go_wp2
          go_roundg gf
          case measure => omega
          case rel => exact ⟨k + 1, _, c3, L ++ [x], by rw [List.length_append, HLL.out]; rfl, by go_num, Lib.hid (by omega), HN, HO, HB3⟩
      · have n1 := nat_beq q1
        rw [if_neg (by simp [sp, q1])] at hst
        have HN : Hid (L ++ [x] = dropm (l.take (k + 1)) A N) := Lib.hid (by rw [hst, hL.out])
        clear q1 hst hx
        go_wp2_with fail
        go_quiet (fail)
        have ho' := ho.out.keep (w' := wr.drewN nq) (fun _ _ _ => rfl)
        have hb' := hb.out.trans (below_draws _ wr nq)
        have e0' : (wr.drewN nq).cell? ⟨b, off + k * 3, none⟩ = some (.int .u32 (x.A : Int)) := e0
        have e1' : (wr.drewN nq).cell? ⟨b, off + k * 3 + 1, none⟩ = some (.int .i64 x.N) := e1
        have e2' : (wr.drewN nq).cell? ⟨b, off + k * 3 + 2, none⟩ = some (.int .i64 x.V) := e2
        clear ho hb e0 e1 e2 p0 p1
        generalize wr.drewN nq = wq at *
        obtain ⟨ll, hll2⟩ : ∃ ll, L.length = ll := ⟨_, rfl⟩
        obtain ⟨g2, c3, W3, r1, r2, r3, r4⟩ := en_app ho' hll2 (by omega) x wq.heap.size rfl
        have hws := hb'.size
        have HO : Hid (Orw (W0.heap.size ≤ ·) W3 (some ⟨g2, 0, none⟩) c3 (L ++ [x])) := Lib.hid (.inr ⟨g2, by rcases r3 with q | q; exact q; show W0.heap.size ≤ g2; omega, rfl, r2⟩)
        have HB3 : Hid (Below W0.heap.size W0 W3) := Lib.hid (hb'.trans (r4.below (fun _ h => h) hws))
        have HLL := Lib.hid hll2
        rw [hll2]
        clear hLl hll2 r2 r3 r4 ho' hb'
        go_wp2_with (at_builtin; refine wpList_runb _ rfl (.tmp 22) (.tmp 27) 28 rfl rfl rfl r1 ?_)
        go_wp2
        go_roundg gf
        case measure => omega
        case rel => exact ⟨k + 1, _, c3, L ++ [x], by rw [List.length_append, HLL.out]; rfl, by go_num, Lib.hid (by omega), HN, HO, HB3⟩

set_option maxRecDepth 100000 in
theorem rget_any (S : Nat → Prop) (A0 : Option Addr) (c : Nat) (l : List En) (A : Nat) (N : Int) (w : World) (hl : Rd S w A0 (eflat l)) (hll : l.length ≤ 10000) :
    Calls Try.prog 26 #[.slice A0 l.length c, pf A N] w fun e w' => e = .returned (gtv (getm l A N)) ∧ Below w.heap.size w w' := by
  obtain ⟨W0, hW0⟩ : ∃ W0, w.alloc (.cells #[.int .u32 (A : Int), .int .i64 N] 25) = W0 := ⟨_, rfl⟩
  have s0 : W0.heap.size = w.heap.size + 1 := by rw [← hW0]; simp
  have b0 : Below w.heap.size w W0 := by rw [← hW0]; exact below_alloc1 _ _
  have p0 : W0.heap[w.heap.size]? = some (.cells #[.int .u32 (A : Int), .int .i64 N] 25 (0, 0)) := by rw [← hW0]; exact Go.heap_alloc_new _ _
  have HB0 := Lib.hid b0
  have HP := Lib.hid p0
  have HL := Lib.hid (hl.keep b0.size (fun j _ hj => b0.block j hj))
  clear b0 p0 hl
  obtain ⟨ln, hln⟩ : ∃ ln, l.length = ln := ⟨_, rfl⟩
  rw [hln] at hll ⊢
  have HLN := Lib.hid hln
  clear hln
  go_enter Try.func26, Try.ntmps26
  go_wp2_with fail
  clear hW0
  go_loopg [6] ln (fun gf v6 wx => ∃ (k : Nat), v6 = .int .i64 (k : Int) ∧ Hid (gf + k = ln) ∧ Hid (getm (l.take k) A N = none) ∧ Hid (Below W0.heap.size W0 wx))
  case atStart => exact ⟨0, rfl, Lib.hid (by omega), Lib.hid (by simp [getm]), Lib.hid (Below.refl _ _)⟩
  case round =>
    obtain ⟨k, rfl, hk, hL, hb⟩ := hrel
    have hk' := hk.out
    cases gk with
    | zero =>
      have e1 : k = ln := by omega
      have lt0 : decide ((k : Int) < (ln : Int)) = false := by simp; omega
      have lt1 : decide (k < ln) = false := by simp; omega
      have e2 := hL.out
      rw [e1, ← HLN.out, List.take_length] at e2
      have HE := Lib.hid e2
      clear e2 e1
      go_wp2
      go_ret2
      exact ⟨by rw [HE.out]; rfl, HB0.out.trans (hb.out.mono (by omega))⟩
    | succ gf =>
      have hkl : k < l.length := by rw [HLN.out]; omega
      have lt0 : (k : Int) < (ln : Int) := by omega
      obtain ⟨b, off, hA, _, _, e0, e1, e2⟩ := (HL.out.keep hb.out.size (fun j _ hj => hb.out.block j hj)).entry hkl
      have hst : getm (l.take (k + 1)) A N = if sp A N (ge l k) = true then some (ge l k) else none := by
        have := hL.out
        unfold getm at this ⊢
        rw [List.take_succ_eq_append_getElem hkl, List.find?_append, this, ge_eq hkl]
        cases h : sp A N l[k] <;> simp [h]
      have hful : sp A N (ge l k) = true → getm l A N = some (ge l k) := fun h => by
        rw [if_pos h] at hst
        have e : getm l A N = (getm (l.take (k + 1)) A N).or (getm (l.drop (k + 1)) A N) := by unfold getm; rw [← List.find?_append, List.take_append_drop]
        rw [e, hst]
        rfl
      obtain ⟨x, hx⟩ : ∃ x, ge l k = x := ⟨_, rfl⟩
      rw [hx] at e0 e1 e2 hst hful
      subst hA
      obtain ⟨p0, p1, _, _⟩ := blk2 ((hb.out.block _ (by omega)).trans HP.out)
      clear hkl
      have hw1 : (k : Int) + 1 ≤ 10000 := by omega
      by_cases q1 : x.A = A
      · by_cases q2 : x.N = N
        · have n1 := nat_beqt q1
          have n2 : (x.N == N) = true := by simpa using q2
          have HF := Lib.hid (hful (by simp [sp, q1, q2]))
          clear q1 q2 hst hx hful
          go_wp2_with fail
          go_quiet (fail)
          have HB3 := Lib.hid (hb.out.trans (below_draws _ wr nq))
          have e2' : (wr.drewN nq).cell? ⟨b, off + k * 3 + 2, none⟩ = some (.int .i64 x.V) := e2
          clear hb e0 e1 e2 p0 p1
          generalize wr.drewN nq = wq at *
          go_wp2
          go_ret2
          exact ⟨by rw [HF.out]; rfl, HB0.out.trans (HB3.out.mono (by omega))⟩
        · have n1 := nat_beqt q1
          have n2 := int_beq q2
          rw [if_neg (by simp [sp, q2])] at hst
          have HN := Lib.hid (show getm (l.take (k + 1)) A N = none from by simpa using hst)
          clear q1 q2 hst hx hful
          go_wp2_with fail
          go_quiet (fail)
          have HB3 := Lib.hid (hb.out.trans (below_draws _ wr nq))
          clear hb e0 e1 e2 p0 p1
          generalize wr.drewN nq = wq at *
          go_wp2
          go_roundg gf
          case measure => omega
          case rel => exact ⟨k + 1, by go_num, Lib.hid (by omega), HN, HB3⟩
      · have n1 := nat_beq q1
        rw [if_neg (by simp [sp, q1])] at hst
        have HN := Lib.hid (show getm (l.take (k + 1)) A N = none from by simpa using hst)
        clear q1 hst hx hful
        go_wp2_with fail
        go_quiet (fail)
        have HB3 := Lib.hid (hb.out.trans (below_draws _ wr nq))
        clear hb e0 e1 e2 p0 p1
        generalize wr.drewN nq = wq at *
        go_wp2
        go_roundg gf
        case measure => omega
        case rel => exact ⟨k + 1, by go_num, Lib.hid (by omega), HN, HB3⟩
set_option maxRecDepth 100000 in
theorem same_any (S T : Nat → Prop) (A0 B0 : Option Addr) (c d : Nat) (l m : List En) (w : World) (hl : Rd S w A0 (eflat l)) (hm : Rd T w B0 (eflat m)) (hll : l.length ≤ 10000) :
    Calls Try.prog 18 #[.slice A0 l.length c, .slice B0 m.length d] w fun e w' => e = .returned (.bool (decide (l = m))) ∧ Below w.heap.size w w' := by
  by_cases hlm : l.length = m.length
  · have h1 : ((l.length : Int) != (m.length : Int)) = false := by simp [hlm]
    have HL := Lib.hid hl
    have HM := Lib.hid hm
    have HLM := Lib.hid hlm
    obtain ⟨ln, hln⟩ : ∃ ln, l.length = ln := ⟨_, rfl⟩
    rw [hln] at h1 hll ⊢
    have hmn : m.length = ln := by omega
    rw [hmn] at h1 ⊢
    have HLN := Lib.hid hln
    have HMN := Lib.hid hmn
    clear hl hm hlm hln hmn
    go_enter Try.func18, Try.ntmps18
    go_wp2_with fail
    go_loopg [5] ln (fun gf v wx => ∃ (k : Nat), v = .int .i64 (k : Int) ∧ Hid (gf + k = ln) ∧ Hid (l.take k = m.take k) ∧ Hid (Below w.heap.size w wx))
    case atStart => exact ⟨0, rfl, Lib.hid (by omega), Lib.hid (by simp), Lib.hid (Below.refl _ _)⟩
    case round =>
      obtain ⟨k, rfl, hk, hL, hb⟩ := hrel
      have hk' := hk.out
      cases gk with
      | zero =>
        have e1 : k = ln := by omega
        have lt0 : decide ((k : Int) < (ln : Int)) = false := by simp; omega
        have lt1 : decide (k < ln) = false := by simp; omega
        have e2 : l = m := by
          have := hL.out
          rwa [List.take_of_length_le (by rw [HLN.out]; omega), List.take_of_length_le (by rw [HMN.out]; omega)] at this
        have HE := Lib.hid e2
        clear e2 e1
        go_wp2
        go_ret
        exact ⟨by rw [decide_eq_true HE.out]; rfl, hb.out⟩
      | succ gf =>
        have hkl : k < ln := by omega
        have lt0 : (k : Int) < (ln : Int) := by omega
        obtain ⟨b, off, hA, _, _, e0, e1, e2⟩ := (HL.out.keep hb.out.size (fun j _ hj => hb.out.block j hj)).entry (i := k) (by rw [HLN.out]; omega)
        obtain ⟨b', off', hB, _, _, f0, f1, f2⟩ := (HM.out.keep hb.out.size (fun j _ hj => hb.out.block j hj)).entry (i := k) (by rw [HMN.out]; omega)
        have hst : ge l k = ge m k → l.take (k + 1) = m.take (k + 1) := fun h => by
          rw [List.take_succ_eq_append_getElem (by rw [HLN.out]; omega), List.take_succ_eq_append_getElem (by rw [HMN.out]; omega), hL.out]
          rw [ge_eq (by rw [HLN.out]; omega), ge_eq (by rw [HMN.out]; omega)] at h
          rw [h]
        have hno : ge l k ≠ ge m k → l ≠ m := fun h e => h (by rw [e])
        obtain ⟨x, hx⟩ : ∃ x, ge l k = x := ⟨_, rfl⟩
        obtain ⟨y, hy⟩ : ∃ y, ge m k = y := ⟨_, rfl⟩
        rw [hx] at e0 e1 e2 hst hno
        rw [hy] at f0 f1 f2 hst hno
        subst hA hB
        have hw1 : (k : Int) + 1 ≤ 10000 := by omega
        clear hx hy
        obtain ⟨xA, xN, xV⟩ := x
        obtain ⟨yA, yN, yV⟩ := y
        simp only at e0 e1 e2 f0 f1 f2
        by_cases q1 : xA = yA
        · by_cases q2 : xN = yN
          · by_cases q3 : xV = yV
            · have n1 := nat_beqt q1
              have n2 : (xN == yN) = true := by simpa using q2
              have n3 : (xV == yV) = true := by simpa using q3
              have HN := Lib.hid (hst (by rw [q1, q2, q3]))
              clear q1 q2 q3 hst hno
              go_wp2_with fail
              go_quiet (fail)
              have HB3 := Lib.hid (hb.out.trans (below_draws _ wr nq))
              clear hb e0 e1 e2 f0 f1 f2
              generalize wr.drewN nq = wq at *
              go_wp2
              go_roundg gf
              case measure => omega
              case rel => exact ⟨k + 1, by go_num, Lib.hid (by omega), HN, HB3⟩
            · have n1 := nat_beqt q1
              have n2 : (xN == yN) = true := by simpa using q2
              have n3 := int_beq q3
              have HN := Lib.hid (hno (by simp [q3]))
              clear q1 q2 q3 hst hno
              go_wp2_with fail
              go_quiet (fail)
              have HB3 := Lib.hid (hb.out.trans (below_draws _ wr nq))
              clear hb e0 e1 e2 f0 f1 f2
              generalize wr.drewN nq = wq at *
              go_wp2
              go_ret
              exact ⟨by rw [decide_eq_false HN.out]; rfl, HB3.out⟩
          · have n1 := nat_beqt q1
            have n2 := int_beq q2
            have HN := Lib.hid (hno (by simp [q2]))
            clear q1 q2 hst hno
            go_wp2_with fail
            go_quiet (fail)
            have HB3 := Lib.hid (hb.out.trans (below_draws _ wr nq))
            clear hb e0 e1 e2 f0 f1 f2
            generalize wr.drewN nq = wq at *
            go_wp2
            go_ret
            exact ⟨by rw [decide_eq_false HN.out]; rfl, HB3.out⟩
        · have n1 := nat_beq q1
          have HN := Lib.hid (hno (by simp [q1]))
          clear q1 hst hno
          go_wp2_with fail
          go_quiet (fail)
          have HB3 := Lib.hid (hb.out.trans (below_draws _ wr nq))
          clear hb e0 e1 e2 f0 f1 f2
          generalize wr.drewN nq = wq at *
          go_wp2
          go_ret
          exact ⟨by rw [decide_eq_false HN.out]; rfl, HB3.out⟩
  · have h1 : ((l.length : Int) != (m.length : Int)) = true := by simp; omega
    have HN := Lib.hid (show l ≠ m from fun e => hlm (by rw [e]))
    clear hlm
    go_enter Try.func18, Try.ntmps18
    go_wp2
    go_ret
    exact ⟨by rw [decide_eq_false HN.out]; rfl, Below.refl _ _⟩
end Go.Proofs.Ytlmcgjdenfnkmaa
