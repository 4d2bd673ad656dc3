/-
  The highest candidate for which a closure returns true. No statement is proved here; no conditions.
-/
import Derived.Test.YtpfppacmldjioaaLf
import Derived.Deep.LoopGhost
namespace Go.Proofs.Ytpfppacmldjioaa
open Go.RowKit Go.Joins

abbrev bco (y : Ca) : Obj := .cells #[.int .u32 y.i, .int .i64 y.p, .int .u32 y.d, .int .u32 y.b] 40
set_option maxRecDepth 100000 in
set_option maxHeartbeats 4000000 in
theorem highest_any (A0 : Option Addr) (n c : Nat) (L : List Ca) (Fn : Nat) (pr : Ca → Bool) (w : World) (hn : L.length = n) (hl : Cr w A0 L) (hll : n ≤ 10000)
    (hF : ∀ (args : Array Value) (w' : World), (callFunc Fn args).run Try.prog w' = .ok (.enter Fn args) w')
    (hp : ∀ V x, Calls Try.prog Fn #[cv x] V fun e V' => e = .returned (.bool (pr x)) ∧ Below V.heap.size V V') :
    Calls Try.prog 30 #[.slice A0 n c, .func (.func Fn) #[] #[]] w fun e w' => e = .returned (.int .u32 (hi pr L)) ∧ Below w.heap.size w w' := by
  obtain ⟨W0, hW0⟩ : ∃ V, w.alloc (.cells #[Value.int .u32 0, .int .i64 0, .int .u32 0, .int .u32 0] 40) = V := ⟨_, rfl⟩
  have bW0 : Below w.heap.size w W0 := by rw [← hW0]; exact below_alloc1 _ _
  have G00 : Bk W0 w.heap.size (bco zca) := Bk.mk hW0
  obtain ⟨z0, z1, z2, z3, g0, g1, g2, g3, hlt⟩ := kz4_at G00
  have G0 : Hid (Bk (st4 W0 w.heap.size (.int .u32 0) (.int .i64 0) (.int .u32 0) (.int .u32 0)) w.heap.size (bco zca)) := Lib.hid (kz4_set G00 _ _ _ _)
  have HB0 : Hid (Below w.heap.size w (st4 W0 w.heap.size (.int .u32 0) (.int .i64 0) (.int .u32 0) (.int .u32 0))) := Lib.hid (below_st4 bW0 (Nat.le_refl _) _ _ _ _)
  dsimp only [zca] at z0 z1 z2 z3
  have HL := Lib.hid hl
  have HN := Lib.hid hn
  have HP := Lib.hid hp
  have HE : Hid (hi pr L = (hbs pr (L.take n)).i) := Lib.hid (by rw [← hn, List.take_length]; rfl)
  rw [HE.out]
  clear hl hn hp HE bW0 G00
  go_enter Try.func30, Try.ntmps30
  go_wp2_with fail
  clear z0 z1 z2 z3 g0 g1 g2 g3 hlt
  go_loopg [11] n (fun gf v wx => ∃ (k : Nat), v = .int .i64 (k : Int) ∧ Hid (gf + k = n) ∧ Hid (Bk wx w.heap.size (bco (hbs pr (L.take k)))) ∧ Hid (Below w.heap.size w wx))
  case atStart => exact ⟨0, rfl, Lib.hid (by omega), G0, HB0⟩
  case round =>
    obtain ⟨k, rfl, hk, hG, hb⟩ := hrel
    have hk' := hk.out
    cases gk with
    | zero =>
      have e1 : k = n := by omega
      have lt0 : decide ((k : Int) < (n : Int)) = false := by simp; omega
      have lt1 : decide (k < n) = false := by simp; omega
      subst e1
      obtain ⟨y, hy⟩ : ∃ y, hbs pr (L.take k) = y := ⟨_, rfl⟩
      rw [hy] at hG
      have HY := Lib.hid hy
      clear hy
      obtain ⟨y0, y1, y2, y3, f0, f1, f2, f3, hlt⟩ := kz4_at hG.out
      go_wp2
      go_ret
      exact ⟨ret_int (by rw [HY.out]), hb.out⟩
    | succ gf =>
      have hkl : k < L.length := by rw [HN.out]; omega
      have lt0 : (k : Int) < (n : Int) := by omega
      have hw1 : (k : Int) + 1 ≤ 10000 := by omega
      obtain ⟨b, off, hA, _, e0, e1, e2, e3⟩ := crd_at (HL.out.step hb.out) hkl
      have HT := Lib.hid (hbs_take (f := pr) hkl)
      obtain ⟨x, hx⟩ : ∃ x, cg L k = x := ⟨_, rfl⟩
      rw [hx] at e0 e1 e2 e3 HT
      subst hA
      generalize hbs pr (L.take k) = y at *
      obtain ⟨W1, hW1⟩ : ∃ V, wr.alloc (.cells #[.int .u32 x.i, .int .i64 x.p, .int .u32 x.d, .int .u32 x.b] 40) = V := ⟨_, rfl⟩
      have bW1 : Below wr.heap.size wr W1 := by rw [← hW1]; exact below_alloc1 _ _
      have sW1 : W1.heap.size = wr.heap.size + 1 := by rw [← hW1]; simp
      have KX : Hid (∀ V, Below W1.heap.size W1 V → V.cell? ⟨wr.heap.size, 0, none⟩ = some (.int .u32 x.i) ∧ V.cell? ⟨wr.heap.size, 1, none⟩ = some (.int .i64 x.p) ∧ V.cell? ⟨wr.heap.size, 2, none⟩ = some (.int .u32 x.d) ∧ V.cell? ⟨wr.heap.size, 3, none⟩ = some (.int .u32 x.b)) := Lib.hid (fun V hV => kb4_new hW1 hV)
      have HB1 : Hid (Below w.heap.size w W1) := Lib.hid (hb.out.trans (bW1.mono hb.out.size))
      have G1 : Hid (Bk W1 w.heap.size (bco y)) := Lib.hid (Bk.step hG.out bW1)
      obtain ⟨k0, k1, k2, k3⟩ := KX.out _ (Below.refl _ _)
      have hlw : w.heap.size < wr.heap.size := hG.out.lt
      clear hx sW1 bW1 hG
      by_cases hxp : 0 < x.p
      case neg =>
        have d0 : decide (x.p > 0) = false := by simp; omega
        have HZ : Hid (hbs pr (L.take (k + 1)) = y) := Lib.hid (by rw [HT.out, hstep, if_neg (fun q => hxp q.1)])
        clear hxp HT
        go_wp2_with fail
        go_roundg gf
        case measure => omega
        case rel => exact ⟨k + 1, by go_num, Lib.hid (by omega), by rw [HZ.out]; exact G1, HB1⟩
      have d0 : decide (x.p > 0) = true := by simpa using hxp
      have see := HP.out W1 x
      have hf1 := hF #[cv x] W1
      cases hpr : pr x with
      | false =>
        rw [hpr] at see
        have HZ : Hid (hbs pr (L.take (k + 1)) = y) := Lib.hid (by rw [HT.out, hstep, if_neg (fun q => by rw [hpr] at q; exact absurd q.2.1 (by simp))])
        clear hxp HT
        go_wp2_with fail
        refine see.mono ?_
        rintro e W2 ⟨rfl, u2⟩
        have G2 : Hid (Bk W2 w.heap.size (bco y)) := Lib.hid (Bk.step G1.out u2)
        have HB2 : Hid (Below w.heap.size w W2) := Lib.hid (HB1.out.trans (u2.mono HB1.out.size))
        clear u2 see hf1 e0 e1 e2 e3
        go_wp2
        go_roundg gf
        case measure => omega
        case rel => exact ⟨k + 1, by go_num, Lib.hid (by omega), by rw [HZ.out]; exact G2, HB2⟩
      | true =>
        rw [hpr] at see
        have HC := Lib.hid (fun V => above_any x y V)
        cases hab : abv x y with
        | false =>
          have HZ : Hid (hbs pr (L.take (k + 1)) = y) := Lib.hid (by rw [HT.out, hstep, if_neg (fun q => by rw [hab] at q; exact absurd q.2.2 (by simp))])
          rw [hab] at HC
          clear hxp HT hab
          go_wp2_with fail
          refine see.mono ?_
          rintro e W2 ⟨rfl, u2⟩
          have G2 : Hid (Bk W2 w.heap.size (bco y)) := Lib.hid (Bk.step G1.out u2)
          have HB2 : Hid (Below w.heap.size w W2) := Lib.hid (HB1.out.trans (u2.mono HB1.out.size))
          obtain ⟨y0, y1, y2, y3, f0, f1, f2, f3, hlt⟩ := kz4_at G2.out
          replace k0 := (KX.out _ u2).1
          have k1' := (KX.out _ u2).2.1
          have k2' := (KX.out _ u2).2.2.1
          have k3' := (KX.out _ u2).2.2.2
          have CA := HC.out W2
          clear u2 see hf1 e0 e1 e2 e3 k1 k2 k3
          go_wp2_with fail
          refine CA.mono ?_
          rintro e W3 ⟨rfl, u3⟩
          have G3 : Hid (Bk W3 w.heap.size (bco y)) := Lib.hid (Bk.step G2.out u3)
          have HB3 : Hid (Below w.heap.size w W3) := Lib.hid (HB2.out.trans (u3.mono HB2.out.size))
          clear u3 CA y0 y1 y2 y3 f0 f1 f2 f3
          go_wp2
          go_roundg gf
          case measure => omega
          case rel => exact ⟨k + 1, by go_num, Lib.hid (by omega), by rw [HZ.out]; exact G3, HB3⟩
        | true =>
          have HZ : Hid (hbs pr (L.take (k + 1)) = x) := Lib.hid (by rw [HT.out, hstep, if_pos ⟨hxp, hpr, hab⟩])
          rw [hab] at HC
          clear hxp HT hab
          go_wp2_with fail
          refine see.mono ?_
          rintro e W2 ⟨rfl, u2⟩
          have G2 : Hid (Bk W2 w.heap.size (bco y)) := Lib.hid (Bk.step G1.out u2)
          have HB2 : Hid (Below w.heap.size w W2) := Lib.hid (HB1.out.trans (u2.mono HB1.out.size))
          obtain ⟨y0, y1, y2, y3, f0, f1, f2, f3, hlt⟩ := kz4_at G2.out
          obtain ⟨k0', k1', k2', k3'⟩ := KX.out _ u2
          have CA := HC.out W2
          have HU2 := Lib.hid u2
          clear u2 see hf1 e0 e1 e2 e3 k0 k1 k2 k3
          go_wp2_with fail
          refine CA.mono ?_
          rintro e W3 ⟨rfl, u3⟩
          have G3 : Hid (Bk W3 w.heap.size (bco y)) := Lib.hid (Bk.step G2.out u3)
          have HB3 : Hid (Below w.heap.size w W3) := Lib.hid (HB2.out.trans (u3.mono HB2.out.size))
          obtain ⟨q0, q1, q2, q3⟩ := KX.out _ (HU2.out.trans (u3.mono HU2.out.size))
          clear k0' k1' k2' k3' y0 y1 y2 y3 f0 f1 f2 f3 hlt
          obtain ⟨y0, y1, y2, y3, f0, f1, f2, f3, hlt⟩ := kz4_at G3.out
          have G4 : Hid (Bk (st4 W3 w.heap.size (.int .u32 x.i) (.int .i64 x.p) (.int .u32 x.d) (.int .u32 x.b)) w.heap.size (bco x)) := Lib.hid (kz4_set G3.out _ _ _ _)
          have HB4 : Hid (Below w.heap.size w (st4 W3 w.heap.size (.int .u32 x.i) (.int .i64 x.p) (.int .u32 x.d) (.int .u32 x.b))) := Lib.hid (below_st4 HB3.out (Nat.le_refl _) _ _ _ _)
          clear u3 CA
          go_wp2
          go_roundg gf
          case measure => omega
          case rel => exact ⟨k + 1, by go_num, Lib.hid (by omega), by rw [HZ.out]; exact G4, HB4⟩
end Go.Proofs.Ytpfppacmldjioaa
