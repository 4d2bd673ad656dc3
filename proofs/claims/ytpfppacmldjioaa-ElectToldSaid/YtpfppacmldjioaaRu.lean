/-
  The reference's turn: three rows. No statement is proved here; no conditions.
-/
import Derived.Test.YtpfppacmldjioaaRt
namespace Go.Proofs.Ytpfppacmldjioaa
open Go.RowKit Go.Joins

/-- One candidate more in a row of the call's own. -/
theorem app5 {w : World} {g c n : Nat} {L : List Ca} (h : Rg 45 4 w g c (cflat L)) (hn : L.length = n) (x : Ca) (hb : n ≤ 100000) (n0 : Nat) (hn0 : w.heap.size = n0) :
    ∃ g' c' w', (Builtin.append_ #[28, 28] 28 #[.slice (some ⟨g, 0, none⟩) n c, .slice (some ⟨n0, 0, none⟩) 1 1]).run Try.prog (w.alloc (.cells (ccs x).toArray 45)) = .ok (.slice (some ⟨g', 0, none⟩) (n + 1) c') w' ∧ Rg 45 4 w' g' c' (cflat (L ++ [x])) ∧ Kp (· = g) w w' ∧ (g' = g ∨ w.heap.size ≤ g') := by
  obtain ⟨g', c', w', r1, r2, r3, r4, r5⟩ := app4 (t := 28) Try.underlying28 infoR rfl (base := 0) (Ow4.of h (Nat.zero_le _)) hn x hb n0 hn0 (Nat.zero_le _)
  refine ⟨g', c', w', r1, ?_, r4.mono (fun j hj => ?_), ?_⟩
  · rcases r2 with ⟨e, _, _⟩ | ⟨g2, _, e, q⟩
    · cases e
    · injection e with e
      injection e with e
      rw [e]; exact q
  · injection hj with hj
    injection hj with hj
    exact hj.symm
  · rcases r5 with q | q
    · injection q with q
      injection q with q
      exact .inl q.symm
    · exact .inr q
/-- Three rows of the call's own, in three blocks. -/
structure T3 (base : Nat) (w : World) (L1 : List Ca) (g1 c1 : Nat) (L2 : List Ca) (g2 c2 : Nat) (L3 : List Ca) (g3 c3 : Nat) : Prop where
  r1 : Rg 45 4 w g1 c1 (cflat L1)
  r2 : Rg 45 4 w g2 c2 (cflat L2)
  r3 : Rg 45 4 w g3 c3 (cflat L3)
  d12 : g1 ≠ g2
  d13 : g1 ≠ g3
  d23 : g2 ≠ g3
  b1 : base ≤ g1
  b2 : base ≤ g2
  b3 : base ≤ g3
theorem T3.step {base : Nat} {w w' : World} {L1 L2 L3 : List Ca} {g1 c1 g2 c2 g3 c3 : Nat} (h : T3 base w L1 g1 c1 L2 g2 c2 L3 g3 c3) (k : Below w.heap.size w w') : T3 base w' L1 g1 c1 L2 g2 c2 L3 g3 c3 :=
  ⟨h.r1.below' k, h.r2.below' k, h.r3.below' k, h.d12, h.d13, h.d23, h.b1, h.b2, h.b3⟩
theorem T3.app1 {base : Nat} {w : World} {L1 L2 L3 : List Ca} {g1 c1 g2 c2 g3 c3 n : Nat} (h : T3 base w L1 g1 c1 L2 g2 c2 L3 g3 c3) (hn : n = L1.length) (x : Ca) (hb : n ≤ 100000) (n0 : Nat) (hn0 : w.heap.size = n0) (hbase : base ≤ w.heap.size) :
    ∃ g' c' w', (Builtin.append_ #[28, 28] 28 #[.slice (some ⟨g1, 0, none⟩) n c1, .slice (some ⟨n0, 0, none⟩) 1 1]).run Try.prog (w.alloc (.cells (ccs x).toArray 45)) = .ok (.slice (some ⟨g', 0, none⟩) (n + 1) c') w' ∧ T3 base w' (L1 ++ [x]) g' c' L2 g2 c2 L3 g3 c3 ∧ Below base w w' ∧ Kp (· = g1) w w' := by
  obtain ⟨g', c', w', r1, r2, r3, r4⟩ := app5 h.r1 hn.symm x hb n0 hn0
  exact ⟨g', c', w', r1, ⟨r2, (h.r2.kp r3 (fun e => h.d12.symm e)), (h.r3.kp r3 (fun e => h.d13.symm e)), (r4.elim (fun q => by rw [q]; exact h.d12) (fun q => by have := h.r2.lt; omega)), (r4.elim (fun q => by rw [q]; exact h.d13) (fun q => by have := h.r3.lt; omega)), h.d23, (r4.elim (fun q => by rw [q]; exact h.b1) (fun q => Nat.le_trans hbase q)), h.b2, h.b3⟩, r3.below (fun j hj => by rw [hj]; exact h.b1) hbase, r3⟩
theorem T3.app2 {base : Nat} {w : World} {L1 L2 L3 : List Ca} {g1 c1 g2 c2 g3 c3 n : Nat} (h : T3 base w L1 g1 c1 L2 g2 c2 L3 g3 c3) (hn : n = L2.length) (x : Ca) (hb : n ≤ 100000) (n0 : Nat) (hn0 : w.heap.size = n0) (hbase : base ≤ w.heap.size) :
    ∃ g' c' w', (Builtin.append_ #[28, 28] 28 #[.slice (some ⟨g2, 0, none⟩) n c2, .slice (some ⟨n0, 0, none⟩) 1 1]).run Try.prog (w.alloc (.cells (ccs x).toArray 45)) = .ok (.slice (some ⟨g', 0, none⟩) (n + 1) c') w' ∧ T3 base w' L1 g1 c1 (L2 ++ [x]) g' c' L3 g3 c3 ∧ Below base w w' ∧ Kp (· = g2) w w' := by
  obtain ⟨g', c', w', r1, r2, r3, r4⟩ := app5 h.r2 hn.symm x hb n0 hn0
  exact ⟨g', c', w', r1, ⟨(h.r1.kp r3 (fun e => h.d12 e)), r2, (h.r3.kp r3 (fun e => h.d23.symm e)), (r4.elim (fun q => by rw [q]; exact h.d12) (fun q => by have := h.r1.lt; omega)), h.d13, (r4.elim (fun q => by rw [q]; exact h.d23) (fun q => by have := h.r3.lt; omega)), h.b1, (r4.elim (fun q => by rw [q]; exact h.b2) (fun q => Nat.le_trans hbase q)), h.b3⟩, r3.below (fun j hj => by rw [hj]; exact h.b2) hbase, r3⟩
theorem T3.app3 {base : Nat} {w : World} {L1 L2 L3 : List Ca} {g1 c1 g2 c2 g3 c3 n : Nat} (h : T3 base w L1 g1 c1 L2 g2 c2 L3 g3 c3) (hn : n = L3.length) (x : Ca) (hb : n ≤ 100000) (n0 : Nat) (hn0 : w.heap.size = n0) (hbase : base ≤ w.heap.size) :
    ∃ g' c' w', (Builtin.append_ #[28, 28] 28 #[.slice (some ⟨g3, 0, none⟩) n c3, .slice (some ⟨n0, 0, none⟩) 1 1]).run Try.prog (w.alloc (.cells (ccs x).toArray 45)) = .ok (.slice (some ⟨g', 0, none⟩) (n + 1) c') w' ∧ T3 base w' L1 g1 c1 L2 g2 c2 (L3 ++ [x]) g' c' ∧ Below base w w' ∧ Kp (· = g3) w w' := by
  obtain ⟨g', c', w', r1, r2, r3, r4⟩ := app5 h.r3 hn.symm x hb n0 hn0
  exact ⟨g', c', w', r1, ⟨(h.r1.kp r3 (fun e => h.d13 e)), (h.r2.kp r3 (fun e => h.d23 e)), r2, h.d12, (r4.elim (fun q => by rw [q]; exact h.d13) (fun q => by have := h.r1.lt; omega)), (r4.elim (fun q => by rw [q]; exact h.d23) (fun q => by have := h.r2.lt; omega)), h.b1, h.b2, (r4.elim (fun q => by rw [q]; exact h.b3) (fun q => Nat.le_trans hbase q))⟩, r3.below (fun j hj => by rw [hj]; exact h.b3) hbase, r3⟩
def f2 (c : Ca) : Bool := !sDR c && sBR c
def f3 (c : Ca) : Bool := !sDR c
theorem rB_eq (L : List Ca) : rB L = if hi f2 L = 0 then hi f3 L else hi f2 L := rfl
/-- What holds between two rounds. -/
structure TQ (base : Nat) (L : List Ca) (k : Nat) (n1 n2 n3 g1 c1 g2 c2 g3 c3 : Nat) (w : World) : Prop where
  t : T3 base w (lst sDR (L.take k)) g1 c1 (lst f2 (L.take k)) g2 c2 (lst f3 (L.take k)) g3 c3
  n1 : n1 = (lst sDR (L.take k)).length
  n2 : n2 = (lst f2 (L.take k)).length
  n3 : n3 = (lst f3 (L.take k)).length
theorem lst_le (f : Ca → Bool) (L : List Ca) (k : Nat) : (lst f (L.take k)).length ≤ k := by
  have h1 : (lst f (L.take k)).length ≤ (L.take k).length := List.length_filter_le _ _
  rw [List.length_take] at h1
  omega
set_option maxRecDepth 100000 in
set_option maxHeartbeats 4000000 in
theorem rturn_any (A0 : Option Addr) (n c : Nat) (L : List Ca) (w : World) (hn : L.length = n) (hl : Cr w A0 L) (hll : n ≤ 1000) (hg : Gd L) :
    Calls Try.prog 24 #[.slice A0 n c] w fun e w' => e = .returned (.tuple #[.int .u32 (rD L), .int .u32 (rB L)]) ∧ Below w.heap.size w w' := by
  obtain ⟨W0, hW0⟩ : ∃ V, w.alloc (.cells #[] 45) = V := ⟨_, rfl⟩
  have bW0 : Below w.heap.size w W0 := by rw [← hW0]; exact below_alloc1 _ _
  have sW0 : W0.heap.size = w.heap.size + 1 := by rw [← hW0]; simp
  obtain ⟨W1, hW1⟩ : ∃ V, W0.alloc (.cells #[] 45) = V := ⟨_, rfl⟩
  have bW1 : Below W0.heap.size W0 W1 := by rw [← hW1]; exact below_alloc1 _ _
  have sW1 : W1.heap.size = W0.heap.size + 1 := by rw [← hW1]; simp
  obtain ⟨W2, hW2⟩ : ∃ V, W1.alloc (.cells #[] 45) = V := ⟨_, rfl⟩
  have bW2 : Below W1.heap.size W1 W2 := by rw [← hW2]; exact below_alloc1 _ _
  have R0 : Rg 45 4 W0 w.heap.size 0 (cflat []) := by rw [← hW0]; exact Rg.lit w _ 4 0 _ [] rfl rfl (Nat.zero_le _)
  have R1 : Rg 45 4 W1 W0.heap.size 0 (cflat []) := by rw [← hW1]; exact Rg.lit W0 _ 4 0 _ [] rfl rfl (Nat.zero_le _)
  have R2 : Rg 45 4 W2 W1.heap.size 0 (cflat []) := by rw [← hW2]; exact Rg.lit W1 _ 4 0 _ [] rfl rfl (Nat.zero_le _)
  have T0 : Hid (T3 w.heap.size W2 [] w.heap.size 0 [] W0.heap.size 0 [] W1.heap.size 0) := Lib.hid ⟨(R0.below' bW1).below' bW2, R1.below' bW2, R2, by omega, by omega, by omega, by omega, by omega, by omega⟩
  have HB0 : Hid (Below w.heap.size w W2) := Lib.hid (bW0.trans ((bW1.mono bW0.size).trans (bW2.mono (by omega))))
  have HL := Lib.hid hl
  have HN := Lib.hid hn
  have HG := Lib.hid hg
  have H1K := Lib.hid hll
  have HP := Lib.hid hg.p
  have HI := Lib.hid hg.i0
  rw [sW0] at sW1
  have Q0 := Lib.hid sW0
  have Q1 := Lib.hid sW1
  clear hl hn hg R0 R1 R2 bW0 bW1 bW2
  go_enter Try.func24, Try.ntmps24
  go_wp2_with fail
  go_loopg [4, 5, 6, 7] n (fun gf v4 v5 v6 v7 wx => ∃ (k n1 n2 n3 g1 c1 g2 c2 g3 c3 : Nat), v4 = .slice (some ⟨g1, 0, none⟩) n1 c1 ∧ v5 = .slice (some ⟨g2, 0, none⟩) n2 c2 ∧ v6 = .slice (some ⟨g3, 0, none⟩) n3 c3 ∧ v7 = .int .i64 (k : Int) ∧ Hid (gf + k = n) ∧ Hid (TQ w.heap.size L k n1 n2 n3 g1 c1 g2 c2 g3 c3 wx) ∧ Hid (Below w.heap.size w wx))
  case atStart =>
    have T0' := T0.out
    rw [Q1.out, Q0.out] at T0'
    exact ⟨0, 0, 0, 0, _, 0, _, 0, _, 0, rfl, rfl, rfl, rfl, Lib.hid (by omega), Lib.hid ⟨T0', rfl, rfl, rfl⟩, HB0⟩
  case round =>
    obtain ⟨k, n1, n2, n3, g1, c1, g2, c2, g3, c3, rfl, rfl, rfl, rfl, hk, hQ, hb⟩ := hrel
    have hk' := hk.out
    clear T0 HB0 Q0 Q1 hW0 hW1 hW2 sW0 sW1
    cases gk with
    | zero =>
      have e1 : k = n := by omega
      have lt0 : decide ((k : Int) < (n : Int)) = false := by simp; omega
      have lt1 : decide (k < n) = false := by simp; omega
      have hn1 := hQ.out.n1
      have hn2 := hQ.out.n2
      have hn3 := hQ.out.n3
      have ht := hQ.out.t
      rw [List.take_of_length_le (by rw [HN.out]; omega)] at hn1 hn2 hn3 ht
      have hsm : ∀ f, (lst f L).length ≤ n := fun f => by rw [← HN.out]; exact List.length_filter_le _ _
      have C2 := rtop_any (some ⟨g2, 0, none⟩) n2 c2 (lst f2 L) wr hn2.symm (Ow4.of ht.r2 (Nat.zero_le _)).cr (by have := hsm f2; have := H1K.out; omega) (lst_p HP.out)
      have C3 : Hid (∀ V, Below wr.heap.size wr V → _) := Lib.hid (fun V hV => rtop_any (some ⟨g3, 0, none⟩) n3 c3 (lst f3 L) V hn3.symm (Ow4.of (ht.step hV).r3 (Nat.zero_le _)).cr (by have := hsm f3; have := H1K.out; omega) (lst_p HP.out))
      have C1 : Hid (∀ V, Below wr.heap.size wr V → _) := Lib.hid (fun V hV => rtop_any (some ⟨g1, 0, none⟩) n1 c1 (lst sDR L) V hn1.symm (Ow4.of (ht.step hV).r1 (Nat.zero_le _)).cr (by have := hsm sDR; have := H1K.out; omega) (lst_p HP.out))
      rw [← hi_lst f2 L HP.out] at C2
      simp only [← hi_lst f3 L HP.out] at C3
      simp only [← hi_lst sDR L HP.out] at C1
      have Z1 := lst_nil sDR L HP.out HI.out
      have Z2 := lst_nil f2 L HP.out HI.out
      rw [← hn1] at Z1
      rw [← hn2] at Z2
      have HD : Hid (rD L = if hi sDR L = 0 then rB L else hi sDR L) := Lib.hid rfl
      have HB : Hid (rB L = if hi f2 L = 0 then hi f3 L else hi f2 L) := Lib.hid rfl
      generalize hi sDR L = a1 at *
      generalize hi f2 L = a2 at *
      generalize hi f3 L = a3 at *
      have HZ1 := Lib.hid Z1
      have HZ2 := Lib.hid Z2
      subst e1
      clear ht hn1 hn2 hn3 hQ hsm Z1 Z2
      rcases Nat.eq_zero_or_pos n2 with h2 | h2
      · have z2 : ((n2 : Int) == 0) = true := by simp [h2]
        have HA2 : Hid (a2 = 0) := Lib.hid (HZ2.out.1 h2)
        have HRB : Hid (rB L = a3) := Lib.hid (by rw [HB.out, if_pos HA2.out])
        clear h2
        go_wp2_with fail
        refine C2.mono ?_
        rintro e W3 ⟨rfl, u3⟩
        have T1 := Lib.hid u3
        have K3 := C3.out _ T1.out
        clear u3 C2
        go_wp2_with fail
        refine K3.mono ?_
        rintro e W4 ⟨rfl, u4⟩
        have T2 := Lib.hid (T1.out.trans (u4.mono T1.out.size))
        clear u4 K3
        have K1 := C1.out _ T2.out
        rcases Nat.eq_zero_or_pos n1 with h1 | h1
        · have z1 : ((n1 : Int) == 0) = true := by simp [h1]
          have HA1 : Hid (a1 = 0) := Lib.hid (HZ1.out.1 h1)
          have HR : Hid (rD L = rB L) := Lib.hid (by rw [HD.out, if_pos HA1.out])
          clear h1
          go_wp2_with fail
          refine K1.mono ?_
          rintro e W9 ⟨rfl, u9⟩
          go_wp2
          go_ret2
          exact ⟨ret_pair (by rw [HR.out, HRB.out]) HRB.out.symm, hb.out.trans ((T2.out.trans (u9.mono T2.out.size)).mono hb.out.size)⟩
        · have z1 : ((n1 : Int) == 0) = false := by simp; omega
          have HA1 : Hid (a1 ≠ 0) := Lib.hid (fun q => by have := HZ1.out.2 q; omega)
          have HR : Hid (rD L = a1) := Lib.hid (by rw [HD.out, if_neg HA1.out])
          clear h1
          go_wp2_with fail
          refine K1.mono ?_
          rintro e W9 ⟨rfl, u9⟩
          go_wp2
          go_ret2
          exact ⟨ret_pair HR.out.symm HRB.out.symm, hb.out.trans ((T2.out.trans (u9.mono T2.out.size)).mono hb.out.size)⟩
      · have z2 : ((n2 : Int) == 0) = false := by simp; omega
        have HA2 : Hid (a2 ≠ 0) := Lib.hid (fun q => by have := HZ2.out.2 q; omega)
        have HRB : Hid (rB L = a2) := Lib.hid (by rw [HB.out, if_neg HA2.out])
        clear h2
        go_wp2_with fail
        refine C2.mono ?_
        rintro e W3 ⟨rfl, u3⟩
        have T2 := Lib.hid u3
        clear u3 C2
        have K1 := C1.out _ T2.out
        rcases Nat.eq_zero_or_pos n1 with h1 | h1
        · have z1 : ((n1 : Int) == 0) = true := by simp [h1]
          have HA1 : Hid (a1 = 0) := Lib.hid (HZ1.out.1 h1)
          have HR : Hid (rD L = rB L) := Lib.hid (by rw [HD.out, if_pos HA1.out])
          clear h1
          go_wp2_with fail
          refine K1.mono ?_
          rintro e W9 ⟨rfl, u9⟩
          go_wp2
          go_ret2
          exact ⟨ret_pair (by rw [HR.out, HRB.out]) HRB.out.symm, hb.out.trans ((T2.out.trans (u9.mono T2.out.size)).mono hb.out.size)⟩
        · have z1 : ((n1 : Int) == 0) = false := by simp; omega
          have HA1 : Hid (a1 ≠ 0) := Lib.hid (fun q => by have := HZ1.out.2 q; omega)
          have HR : Hid (rD L = a1) := Lib.hid (by rw [HD.out, if_neg HA1.out])
          clear h1
          go_wp2_with fail
          refine K1.mono ?_
          rintro e W9 ⟨rfl, u9⟩
          go_wp2
          go_ret2
          exact ⟨ret_pair HR.out.symm HRB.out.symm, hb.out.trans ((T2.out.trans (u9.mono T2.out.size)).mono hb.out.size)⟩
    | succ gf =>
      have hkl : k < L.length := by rw [HN.out]; omega
      have lt0 : (k : Int) < (n : Int) := by omega
      have hw1 : (k : Int) + 1 ≤ 10000 := by have := H1K.out; omega
      obtain ⟨b, off, hA, _, e0, e1, e2, e3⟩ := crd_at (HL.out.step hb.out) hkl
      have HX := Lib.hid (ctake hkl)
      have hkk : k ≤ 1000 := by have := H1K.out; omega
      have hm1 : n1 ≤ 1000 := by have := lst_le sDR L k; rw [← hQ.out.n1] at this; omega
      have hm2 : n2 ≤ 1000 := by have := lst_le f2 L k; rw [← hQ.out.n2] at this; omega
      have hm3 : n3 ≤ 1000 := by have := lst_le f3 L k; rw [← hQ.out.n3] at this; omega
      obtain ⟨x, hx⟩ : ∃ x, cg L k = x := ⟨_, rfl⟩
      rw [hx] at e0 e1 e2 e3 HX
      subst hA
      obtain ⟨W3, hW3⟩ : ∃ V, wr.alloc (.cells #[.int .u32 x.i, .int .i64 x.p, .int .u32 x.d, .int .u32 x.b] 45) = V := ⟨_, rfl⟩
      have bW3 : Below wr.heap.size wr W3 := by rw [← hW3]; exact below_alloc1 _ _
      have sW3 : W3.heap.size = wr.heap.size + 1 := by rw [← hW3]; simp
      have KX : Hid (∀ V, Below W3.heap.size W3 V → V.cell? ⟨wr.heap.size, 0, none⟩ = some (.int .u32 x.i) ∧ V.cell? ⟨wr.heap.size, 1, none⟩ = some (.int .i64 x.p) ∧ V.cell? ⟨wr.heap.size, 2, none⟩ = some (.int .u32 x.d) ∧ V.cell? ⟨wr.heap.size, 3, none⟩ = some (.int .u32 x.b)) := Lib.hid (fun V hV => kb4_new hW3 hV)
      have HB3 : Hid (Below w.heap.size w W3) := Lib.hid (hb.out.trans (bW3.mono hb.out.size))
      obtain ⟨k0, k1, k2, k3⟩ := KX.out _ (Below.refl _ _)
      have T3_ := Lib.hid (hQ.out.t.step bW3)
      have HN1 := Lib.hid hQ.out.n1
      have HN2 := Lib.hid hQ.out.n2
      have HN3 := Lib.hid hQ.out.n3
      have hlw : Hid (g1 < wr.heap.size ∧ g2 < wr.heap.size ∧ g3 < wr.heap.size) := Lib.hid ⟨hQ.out.t.r1.lt, hQ.out.t.r2.lt, hQ.out.t.r3.lt⟩
      have HS3 := Lib.hid sW3
      have HM1 := Lib.hid hm1
      have HM2 := Lib.hid hm2
      have HM3 := Lib.hid hm3
      clear hx sW3 bW3 hQ KX hm1 hm2 hm3
      by_cases hp0 : x.p = 0
      · have z0 : (x.p == 0) = true := by simp [hp0]
        have E : Hid (∀ f, lst f (L.take (k + 1)) = lst f (L.take k)) := Lib.hid (fun f => by rw [HX.out, lst_app, if_neg (fun q => q.1 hp0), List.append_nil])
        clear hp0
        go_wp2_with fail
        go_roundg gf
        case measure => omega
        case rel => exact ⟨k + 1, n1, n2, n3, g1, c1, g2, c2, g3, c3, rfl, rfl, rfl, by go_num, Lib.hid (by omega), Lib.hid ⟨by rw [E.out, E.out, E.out]; exact T3_.out, by rw [E.out]; exact HN1.out, by rw [E.out]; exact HN2.out, by rw [E.out]; exact HN3.out⟩, HB3⟩
      have z0 : (x.p == 0) = false := by simpa using hp0
      have HP0 := Lib.hid hp0
      cases hdr : sDR x with
      | true =>
        have z1 : (x.d == x.i) = true := hdr
        have E1 : Hid (lst sDR (L.take (k + 1)) = lst sDR (L.take k) ++ [x]) := Lib.hid (by rw [HX.out, lst_app, if_pos ⟨hp0, hdr⟩])
        have E2 : Hid (lst f2 (L.take (k + 1)) = lst f2 (L.take k)) := Lib.hid (by rw [HX.out, lst_app, if_neg (fun q => by have := q.2; simp [f2, hdr] at this), List.append_nil])
        have E3 : Hid (lst f3 (L.take (k + 1)) = lst f3 (L.take k)) := Lib.hid (by rw [HX.out, lst_app, if_neg (fun q => by have := q.2; simp [f3, hdr] at this), List.append_nil])
        obtain ⟨m, hm⟩ : ∃ m, W3.heap.size = m := ⟨_, rfl⟩
        obtain ⟨g', c', W5, r5, t5, u5, kp5⟩ := T3_.out.app1 HN1.out x (by have := HM1.out; omega) m hm HB3.out.size
        have T5 := Lib.hid t5
        have HB5 : Hid (Below w.heap.size w W5) := Lib.hid (HB3.out.trans u5)
        clear t5 u5 kp5 hp0 hdr
        go_wp2_with (at_builtin; refine wpList_runb _ rfl (.tmp 32) (.tmp 34) 28 rfl rfl rfl r5 ?_)
        go_wp2
        go_roundg gf
        case measure => omega
        case rel => exact ⟨k + 1, n1 + 1, n2, n3, g', c', g2, c2, g3, c3, by go_num, rfl, rfl, by go_num, Lib.hid (by omega), Lib.hid ⟨by rw [E1.out, E2.out, E3.out]; exact T5.out, by rw [E1.out, List.length_append, ← HN1.out]; rfl, by rw [E2.out]; exact HN2.out, by rw [E3.out]; exact HN3.out⟩, HB5⟩
      | false =>
        have z1 : (x.d == x.i) = false := hdr
        have E1 : Hid (lst sDR (L.take (k + 1)) = lst sDR (L.take k)) := Lib.hid (by rw [HX.out, lst_app, if_neg (fun q => by have := q.2; rw [hdr] at this; cases this), List.append_nil])
        have E3 : Hid (lst f3 (L.take (k + 1)) = lst f3 (L.take k) ++ [x]) := Lib.hid (by rw [HX.out, lst_app, if_pos ⟨hp0, by simp [f3, hdr]⟩])
        obtain ⟨m, hm⟩ : ∃ m, W3.heap.size = m := ⟨_, rfl⟩
        obtain ⟨g', c', W5, r5, t5, u5, kp5⟩ := T3_.out.app3 HN3.out x (by have := HM3.out; omega) m hm HB3.out.size
        have T5 := Lib.hid t5
        have HB5 : Hid (Below w.heap.size w W5) := Lib.hid (HB3.out.trans u5)
        obtain ⟨j0, j1, j2, j3⟩ : W5.cell? ⟨wr.heap.size, 0, none⟩ = some (.int .u32 x.i) ∧ W5.cell? ⟨wr.heap.size, 1, none⟩ = some (.int .i64 x.p) ∧ W5.cell? ⟨wr.heap.size, 2, none⟩ = some (.int .u32 x.d) ∧ W5.cell? ⟨wr.heap.size, 3, none⟩ = some (.int .u32 x.b) := by
          have hc : ∀ i, W5.cell? ⟨wr.heap.size, i, none⟩ = W3.cell? ⟨wr.heap.size, i, none⟩ := fun i => World.cell?_of_block (kp5.block wr.heap.size (by have := HS3.out; omega) (by have := hlw.out; omega))
          rw [hc, hc, hc, hc]
          exact ⟨k0, k1, k2, k3⟩
        clear t5 u5 kp5
        cases hbr : sBR x with
        | false =>
          have z2 : (x.b == x.i) = false := hbr
          have E2 : Hid (lst f2 (L.take (k + 1)) = lst f2 (L.take k)) := Lib.hid (by rw [HX.out, lst_app, if_neg (fun q => by have := q.2; simp [f2, hbr] at this), List.append_nil])
          clear hp0 hdr hbr
          go_wp2_with (at_builtin; refine wpList_runb _ rfl (.tmp 36) (.tmp 38) 28 rfl rfl rfl r5 ?_)
          go_wp2
          go_roundg gf
          case measure => omega
          case rel => exact ⟨k + 1, n1, n2, n3 + 1, g1, c1, g2, c2, g', c', rfl, rfl, by go_num, by go_num, Lib.hid (by omega), Lib.hid ⟨by rw [E1.out, E2.out, E3.out]; exact T5.out, by rw [E1.out]; exact HN1.out, by rw [E2.out]; exact HN2.out, by rw [E3.out, List.length_append, ← HN3.out]; rfl⟩, HB5⟩
        | true =>
          have z2 : (x.b == x.i) = true := hbr
          have E2 : Hid (lst f2 (L.take (k + 1)) = lst f2 (L.take k) ++ [x]) := Lib.hid (by rw [HX.out, lst_app, if_pos ⟨hp0, by simp [f2, hdr, hbr]⟩])
          obtain ⟨m2, hm2⟩ : ∃ m, W5.heap.size = m := ⟨_, rfl⟩
          obtain ⟨g4, c4, W7, r7, t7, u7, kp7⟩ := T5.out.app2 HN2.out x (by have := HM2.out; omega) m2 hm2 HB5.out.size
          have T7 := Lib.hid t7
          have HB7 : Hid (Below w.heap.size w W7) := Lib.hid (HB5.out.trans u7)
          clear hp0 hdr hbr t7 u7 kp7
          go_wp2_with (at_builtin; first | refine wpList_runb _ rfl (.tmp 36) (.tmp 38) 28 rfl rfl rfl r5 ?_ | refine wpList_runb _ rfl (.tmp 45) (.tmp 47) 28 rfl rfl rfl r7 ?_)
          go_wp2
          go_roundg gf
          case measure => omega
          case rel => exact ⟨k + 1, n1, n2 + 1, n3 + 1, g1, c1, g4, c4, g', c', rfl, by go_num, by go_num, by go_num, Lib.hid (by omega), Lib.hid ⟨by rw [E1.out, E2.out, E3.out]; exact T7.out, by rw [E1.out]; exact HN1.out, by rw [E2.out, List.length_append, ← HN2.out]; rfl, by rw [E3.out, List.length_append, ← HN3.out]; rfl⟩, HB7⟩
end Go.Proofs.Ytpfppacmldjioaa
