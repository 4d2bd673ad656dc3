/-
  The contract of store.Flush. Contracts of the reference's Compare and Less. No statement is proved here; no conditions.
-/
import Derived.Test.YtadcicmccdphkaaGreatG28
import Derived.Test.YtadcicmccdphkaaGreatG26
import Derived.Test.YtadcicmccdphkaaGreatG07
namespace Go.Proofs.YtadcicmccdphkaaGreat
open Go.RowKit Go.Joins
open List (getElem_toArray getElem_cons_zero getElem_cons_succ setIfInBounds_toArray set_cons_zero set_cons_succ)

def fla (h : Hd) : Hd := ⟨3600, h.o, h.t, h.i, h.v, h.q, h.s, h.n⟩
def flC (C : List Ct) (y : Hd) : List Ct := C.map fun x => if kq y x.1 = true then (fla x.1, x.2) else x
def flE (C : List Ct) (y : Hd) : Int := if C.any (fun x => kq y x.1) = true then 0 else 6
theorem flC_snoc (C : List Ct) (y : Hd) (x : Ct) : flC (C ++ [x]) y = flC C y ++ [if kq y x.1 = true then (fla x.1, x.2) else x] := by simp [flC]
theorem flC_len (C : List Ct) (y : Hd) : (flC C y).length = C.length := by simp [flC]
theorem flE_snoc (C : List Ct) (y : Hd) (x : Ct) : flE (C ++ [x]) y = if kq y x.1 = true then 0 else flE C y := by
 unfold flE
 have e : ([x].any fun x => kq y x.1) = kq y x.1 := by simp
 rw [List.any_append, e]
 cases kq y x.1 with
 | false => rw [Bool.or_false, if_neg (by simp : ¬ false = true)]
 | true => rw [Bool.or_true, if_pos rfl, if_pos rfl]
structure FK (w : World) (m : Int) (A A3 : Option Addr) (n c c3 : Nat) (o : Bool) (kO : Nat) (C : List Ct) (y : Hd) (k : Nat) (M : List Ae) (V : World) : Prop where
 ps : PS w (.cells #[.int .i64 m, .slice A n c, .bool o] 28) (.cells #[.int .i64 y.t, .int .u32 y.i, .int .u32 y.v] 25) m A3 n c3 o M kO V
 kl : cons M = flC (C.take k) y ++ C.drop k
theorem aro_setH {base : Nat} {w : World} {g c : Nat} {L : List Ae} (h : Aro base w (some ⟨g, 0, none⟩) c L) {q : Nat} (hq : q < L.length) : Aro base (w.setCell ⟨g, q * 9, none⟩ (.int .i64 3600)) (some ⟨g, 0, none⟩) c (L.set q ⟨fla (ag L q).h, (ag L q).A, (ag L q).c, (ag L q).l⟩) := by
 have k := h.row_of.2.set (q * 9) (.int .i64 3600)
 have e : (aflat (L.take q)).length = q * 9 := by rw [aflat_length, List.length_take, Nat.min_eq_left (by omega)]
 rw [aflat_here hq] at k
 have h9 := set_at (aflat (L.take q)) (acs (ag L q) ++ aflat (L.drop (q + 1))) 0 (.int .i64 3600)
 simp only [e, Nat.add_zero] at h9
 rw [h9] at k
 refine ⟨.inr ⟨g, h.row_of.1, rfl, by rw [aflat_set hq]; exact k⟩, fun y hy => ?_⟩
 have hy' : Bu w y := by
  rcases List.mem_or_eq_of_mem_set hy with z | rfl
  ·exact h.bod y z
  ·have b := h.bod _ (ag_mem hq)
   exact ⟨b.bt, b.blk, b.cap⟩
 exact hy'.keep (by simp [World.setCell]) fun b off e hl => Below.heap_setCell _ _ _ _ (fun hb => hy'.apart h.row (by decide) b off e hl (by rw [hb]))
def FlP (m : Int) (o : Bool) (C : List Ct) (er : Int) (w : World) (e : Ending) (w' : World) : Prop := ∃ A' c' n' L', e = .returned (.tuple #[.agg #[.int .i64 m, .slice A' n' c', .bool o], .int .i64 er]) ∧ L'.length = n' ∧ cons L' = C ∧ Aro w.heap.size w' A' c' L' ∧ Below w.heap.size w w'
set_option maxRecDepth 100000 in
set_option maxHeartbeats 8000000 in
theorem sflush_any (y : Hd) (m : Int) (A : Option Addr) (n c : Nat) (o : Bool) (L : List Ae) (w : World) (hn : L.length = n) (hl : Arr w A L) (hll : n ≤ 9000) (hsm : ∀ x ∈ L, x.l.length ≤ 100000) :
  Calls Tryz.prog 31 #[.agg #[.int .i64 m, .slice A n c, .bool o], .agg #[.int .i64 y.t, .int .u32 y.i, .int .u32 y.v]] w fun e w' => FlP m o (flC (cons L) y) (flE (cons L) y) w e w' := by
 obtain ⟨W0, hW0⟩ : ∃ V, w.alloc (.cells #[.int .i64 m, .slice A n c, .bool o] 28) = V := ⟨_, rfl⟩
 have bW0 : Below w.heap.size w W0 := by rw [← hW0]; exact below_alloc1 _ _
 have sW0 : W0.heap.size = w.heap.size + 1 := by rw [← hW0]; simp
 have KX : Hid (∀ V, Below W0.heap.size W0 V → V.cell? ⟨w.heap.size, 0, none⟩ = some (.int .i64 m) ∧ V.cell? ⟨w.heap.size, 1, none⟩ = some (.slice A n c) ∧ V.cell? ⟨w.heap.size, 2, none⟩ = some (.bool o)) := Lib.hid (fun V hV => kb3_new hW0 hV)
 obtain ⟨W1, hW1⟩ : ∃ V, W0.alloc (.cells #[.int .i64 y.t, .int .u32 y.i, .int .u32 y.v] 25) = V := ⟨_, rfl⟩
 have bW1 : Below W0.heap.size W0 W1 := by rw [← hW1]; exact below_alloc1 _ _
 have sW1 : W1.heap.size = w.heap.size + 2 := by rw [← hW1]; simp; omega
 obtain ⟨W2, hW2⟩ : ∃ V, W1.alloc (.cells #[Value.int .i64 0, .slice none 0 0, .bool false] 28) = V := ⟨_, rfl⟩
 have bW2 : Below W1.heap.size W1 W2 := by rw [← hW2]; exact below_alloc1 _ _
 have sW2 : W2.heap.size = w.heap.size + 3 := by rw [← hW2]; simp; omega
 have b02 : Below W0.heap.size W0 W2 := bW1.trans (bW2.mono bW1.size)
 have b2 : Below w.heap.size w W2 := bW0.trans (b02.mono bW0.size)
 have G0 : Bk W2 w.heap.size (.cells #[.int .i64 m, .slice A n c, .bool o] 28) := (Bk.mk hW0).step b02
 have G1 : Bk W2 (w.heap.size + 1) (.cells #[.int .i64 y.t, .int .u32 y.i, .int .u32 y.v] 25) := (show Bk W1 (w.heap.size + 1) _ by have := Bk.mk hW1; rwa [sW0] at this).step bW2
 have G2 : Bk W2 (w.heap.size + 2) (.cells #[Value.int .i64 0, .slice none 0 0, .bool false] 28) := by have := Bk.mk hW2; rwa [sW1] at this
 obtain ⟨k0, k1, k2⟩ := KX.out _ b02
 have CF := sfresh_any m A n c o L W2 hn (hl.step b2) (by omega) hsm
 have HB := Lib.hid b2
 have HN := Lib.hid hn
 clear KX bW0 bW1 bW2 b02 b2 hl hn hsm
 go_enter Tryz.func31, Tryz.ntmps31
 go_wp2_with fail
 refine CF.mono ?_
 rintro e W3 ⟨A3, c3, L3, rfl, hc3, ha3, u3⟩
 have hn3 : L3.length = n := by have := congrArg List.length hc3; rw [cons_length, cons_length, HN.out] at this; exact this
 have HC3 := Lib.hid hc3
 have HN3 := Lib.hid hn3
 have T3 := Lib.hid (HB.out.trans (u3.mono HB.out.size))
 obtain ⟨kO, hkO⟩ : ∃ q, W3.heap.size = q := ⟨_, rfl⟩
 obtain ⟨W4, hW4⟩ : ∃ V, W3.alloc (.cells #[Value.int .i64 0, .slice none 0 0, .bool false] 28) = V := ⟨_, rfl⟩
 have u4 : Below W3.heap.size W3 W4 := by rw [← hW4]; exact below_alloc1 _ _
 have GO4 : Bk W4 kO (.cells #[Value.int .i64 0, .slice none 0 0, .bool false] 28) := by rw [← hkO]; exact Bk.mk hW4
 obtain ⟨W5, hW5⟩ : ∃ V, ((W4.setCell ⟨kO, 0, none⟩ (.int .i64 m)).setCell ⟨kO, 1, none⟩ (.slice A3 n c3)).setCell ⟨kO, 2, none⟩ (.bool o) = V := ⟨_, rfl⟩
 have k45 : Kp (· = kO) W4 W5 := by rw [← hW5]; exact ((Kp.setCell (S := (· = kO)) W4 ⟨kO, 0, none⟩ _ rfl).then_set ⟨kO, 1, none⟩ _ rfl).then_set ⟨kO, 2, none⟩ _ rfl
 have hkl : w.heap.size + 3 ≤ kO := by have := u3.size; omega
 have up5 : ∀ (b : Nat) (ob : Obj), Bk W2 b ob → b < kO → Bk W5 b ob := fun b ob hb hlt => (k45.block b (by have := ((hb.step u3).step u4).lt; exact this) (by omega)).trans ((hb.step u3).step u4)
 have ha4 := ha3.step u4
 have ps5 : PS w (.cells #[.int .i64 m, .slice A n c, .bool o] 28) (.cells #[.int .i64 y.t, .int .u32 y.i, .int .u32 y.v] 25) m A3 n c3 o L3 kO W5 := ⟨up5 _ _ G0 (by omega), up5 _ _ G1 (by omega), up5 _ _ G2 (by omega), by rw [← hW5]; exact kz3_set GO4 _ _ _, by
  rw [← hW5, ← sW2]
  exact ((ha4.set GO4 (by decide) (by decide) _).set (i := 1) (Bk.set3 (i := 0) GO4) (by decide) (by decide) _).set (i := 2) (Bk.set3 (i := 1) (Bk.set3 (i := 0) GO4)) (by decide) (by decide) _, (T3.out.trans (u4.mono T3.out.size)).trans (k45.below (fun j hj => by rw [hj]; omega) (T3.out.trans (u4.mono T3.out.size)).size), hkl⟩
 have P5 := Lib.hid ps5
 have HKL := Lib.hid hkl
 obtain ⟨y0, y1, y2, f0, f1, f2, hz2⟩ := kz3_at GO4
 clear CF ha3 u3 hc3 u4 k45 up5 ha4 ps5 G0 G1 G2 GO4 k0 k1 k2 hkl hn3 HB T3
 obtain ⟨o0, o1, o2, -⟩ := kz3_at P5.out.GO
 have J0 : Hid (FK w m A A3 n c c3 o kO (cons L) y 0 L3 W5) := Lib.hid ⟨P5.out, by rw [HC3.out]; simp [flC]⟩
 go_wp2_with fail
 clear y0 y1 y2 f0 f1 f2 hz2 o0 o1 o2 hW0 hW1 hW2 hW4 hW5 hkO P5 sW0 sW1 sW2
 go_loopg [7, 14] n (fun gf v7 v14 wx => ∃ (k : Nat) (ev : Int), v7 = .int .i64 ev ∧ v14 = .int .i64 (k : Int) ∧ Hid (gf + k = n) ∧ Hid (flE ((cons L).take k) y = ev) ∧ Hid (∃ M, FK w m A A3 n c c3 o kO (cons L) y k M wx))
 case atStart => exact ⟨0, 6, rfl, rfl, Lib.hid (by omega), Lib.hid rfl, Lib.hid ⟨_, J0.out⟩⟩
 case round =>
  obtain ⟨k, ev, rfl, rfl, hk, hev, hJJ⟩ := hrel
  obtain ⟨M, hj⟩ := hJJ.out
  have HJ := Lib.hid hj
  have hk' := hk.out
  have HML : Hid (M.length = n) := Lib.hid (by have h1 := congrArg List.length hj.kl; rw [List.length_append, flC_len, List.length_take, List.length_drop, cons_length, cons_length, HN.out] at h1; omega)
  clear hj hJJ J0
  cases gk with
  | zero =>
   obtain rfl : k = n := by omega
   have lt0 : decide ((k : Int) < (k : Int)) = false := by simp
   have lt1 : decide (k < k) = false := by simp
   have ht : (cons L).take k = cons L := List.take_of_length_le (by rw [cons_length, HN.out]; omega)
   rw [ht] at hev
   have HKL : Hid (cons M = flC (cons L) y) := Lib.hid (by rw [HJ.out.kl, ht, List.drop_of_length_le (by rw [cons_length, HN.out]; omega), List.append_nil])
   clear ht
   obtain ⟨o0, o1, o2, -⟩ := kz3_at HJ.out.ps.GO
   obtain ⟨z0, z1, z2, g0, g1, g2, hzl⟩ := kz3_at HJ.out.ps.GC
   go_wp2
   obtain ⟨r0, r1, r2⟩ := kz3_get HJ.out.ps.GC (Value.int .i64 m) (.slice A3 k c3) (.bool o)
   refine bodyPost_ret (v := .tuple #[.agg #[.int .i64 m, .slice A3 k c3, .bool o], .int .i64 ev]) (by simp [results, Tryz.results31, go_sem, r0, r1, r2]) rfl ⟨A3, c3, k, M, by rw [hev.out], HML.out, HKL.out, HJ.out.ps.ret.1, HJ.out.ps.ret.2⟩
  | succ gf =>
   have hkl : k < L.length := by rw [HN.out]; omega
   have lt0 : (k : Int) < (n : Int) := by omega
   have hw1 : (k : Int) + 1 ≤ 10000 := by omega
   have hkM : k < M.length := by rw [HML.out]; omega
   have HKM := Lib.hid hkM
   obtain ⟨g, hg⟩ := HJ.out.ps.HA.some_of (by rw [HML.out]; omega)
   subst hg
   have HCT : Hid ((cons L).take (k + 1) = (cons L).take k ++ [con (ag M k)] ∧ (cons L).drop k = con (ag M k) :: (cons L).drop (k + 1)) := Lib.hid (by
    have hkc : k < (cons L).length := by rw [cons_length]; exact hkl
    have e : (cons L)[k] = con (ag M k) := by
     have h1 : (cons M)[k]? = (flC ((cons L).take k) y ++ (cons L).drop k)[k]? := by rw [HJ.out.kl]
     rw [List.getElem?_append_right (by rw [flC_len, List.length_take]; omega), flC_len, List.length_take, Nat.min_eq_left (by omega), Nat.sub_self, List.getElem?_drop, Nat.add_zero, List.getElem?_eq_getElem hkc, List.getElem?_eq_getElem (by rw [cons_length]; exact hkM)] at h1
     injection h1 with h1
     rw [← h1, ag_eq hkM]
     simp [cons]
    exact ⟨by rw [List.take_succ_eq_append_getElem hkc, e], by rw [List.drop_eq_getElem_cons hkc, e]⟩)
   obtain ⟨x, hx⟩ : ∃ x, ag M k = x := ⟨_, rfl⟩
   rw [hx] at HCT
   have HX := Lib.hid hx
   have HEV : Hid (flE ((cons L).take (k + 1)) y = if kq y x.h = true then 0 else ev) := Lib.hid (by rw [HCT.out.1, flE_snoc, hev.out]; rfl)
   have KSP : Hid (∀ V, Below wr.heap.size wr V → ((V.cell? ⟨(w.heap.size + 1), 0, none⟩ = some (.int .i64 y.t) ∧ V.cell? ⟨(w.heap.size + 1), 1, none⟩ = some (.int .u32 y.i) ∧ V.cell? ⟨(w.heap.size + 1), 2, none⟩ = some (.int .u32 y.v)) ∧ (V.cell? ⟨kO, 0, none⟩ = some (.int .i64 m) ∧ V.cell? ⟨kO, 1, none⟩ = some (.slice (some ⟨g, 0, none⟩) n c3) ∧ V.cell? ⟨kO, 2, none⟩ = some (.bool o))) ∧ (V.cell? ⟨g, k * 9, none⟩ = some (.int .i64 x.h.a) ∧ V.cell? ⟨g, k * 9 + 1, none⟩ = some (.int .i64 x.h.o) ∧ V.cell? ⟨g, k * 9 + 2, none⟩ = some (.int .i64 x.h.t) ∧ V.cell? ⟨g, k * 9 + 3, none⟩ = some (.int .u32 x.h.i) ∧ V.cell? ⟨g, k * 9 + 4, none⟩ = some (.int .u32 x.h.v) ∧ V.cell? ⟨g, k * 9 + 5, none⟩ = some (.int .u32 x.h.q) ∧ V.cell? ⟨g, k * 9 + 6, none⟩ = some (.int .i64 x.h.s) ∧ V.cell? ⟨g, k * 9 + 7, none⟩ = some (.int .i64 x.h.n) ∧ V.cell? ⟨g, k * 9 + 8, none⟩ = some (.slice x.A x.l.length x.c))) := Lib.hid (fun V hV => by
    have p := HJ.out.ps.step hV
    obtain ⟨a0, a1, a2, -⟩ := kz3_at p.GB
    obtain ⟨b0, b1, b2, -⟩ := kz3_at p.GO
    obtain ⟨q0, q1, q2, q3, q4, q5, q6, q7, q8, -⟩ := rg_at p.HA.row_of.2 HKM.out
    rw [HX.out] at q0 q1 q2 q3 q4 q5 q6 q7 q8
    exact ⟨⟨⟨a0, a1, a2⟩, b0, b1, b2⟩, q0, q1, q2, q3, q4, q5, q6, q7, q8⟩)
   clear hkl hkM hx
   go_upto_region 6 with fail
   have tt : Below wr.heap.size wr wr := Below.refl _ _
   refine wp_region_held_drew (S := fun V => ((V.cell? ⟨(w.heap.size + 1), 0, none⟩ = some (.int .i64 y.t) ∧ V.cell? ⟨(w.heap.size + 1), 1, none⟩ = some (.int .u32 y.i) ∧ V.cell? ⟨(w.heap.size + 1), 2, none⟩ = some (.int .u32 y.v)) ∧ (V.cell? ⟨kO, 0, none⟩ = some (.int .i64 m) ∧ V.cell? ⟨kO, 1, none⟩ = some (.slice (some ⟨g, 0, none⟩) n c3) ∧ V.cell? ⟨kO, 2, none⟩ = some (.bool o))) ∧ (V.cell? ⟨g, k * 9, none⟩ = some (.int .i64 x.h.a) ∧ V.cell? ⟨g, k * 9 + 1, none⟩ = some (.int .i64 x.h.o) ∧ V.cell? ⟨g, k * 9 + 2, none⟩ = some (.int .i64 x.h.t) ∧ V.cell? ⟨g, k * 9 + 3, none⟩ = some (.int .u32 x.h.i) ∧ V.cell? ⟨g, k * 9 + 4, none⟩ = some (.int .u32 x.h.v) ∧ V.cell? ⟨g, k * 9 + 5, none⟩ = some (.int .u32 x.h.q) ∧ V.cell? ⟨g, k * 9 + 6, none⟩ = some (.int .i64 x.h.s) ∧ V.cell? ⟨g, k * 9 + 7, none⟩ = some (.int .i64 x.h.n) ∧ V.cell? ⟨g, k * 9 + 8, none⟩ = some (.slice x.A x.l.length x.c))) (by kernel_rfl) (KSP.out _ tt.drew) (fun hHeld => ?_)
   replace tt : Below wr.heap.size wr wr.drew := tt.drew
   generalize hX0 : wr.drew = U0 at tt hHeld ⊢
   clear hX0
   refine wpAnyH_take (i := 0) (v := ?_) rfl (by kernel_rfl) (by kernel_rfl) (by kernel_rfl) (fun _ _ _ h => h) (Or.inl ⟨by rfl, ?_⟩) (by assumption) ?_
   rotate_left
   ·(intro w' hSw; (try dsimp only at hSw); go_simp; try with_reducible rfl)
   simp only [Act.put, getElem_toArray, getElem_cons_zero, setIfInBounds_toArray, set_cons_zero, set_cons_succ]
   refine wpAnyH_take (i := 2) (v := ?_) rfl (by kernel_rfl) (by kernel_rfl) (by kernel_rfl) (fun _ _ _ h => h) (Or.inl ⟨by rfl, ?_⟩) (by assumption) ?_
   rotate_left
   ·(intro w' hSw; (try dsimp only at hSw); go_simp; try with_reducible rfl)
   simp only [Act.put, getElem_toArray, getElem_cons_zero, getElem_cons_succ, setIfInBounds_toArray, set_cons_zero, set_cons_succ]
   refine wpAnyH_take (i := 3) (v := ?_) rfl (by kernel_rfl) (by kernel_rfl) (by kernel_rfl) (fun _ _ _ h => h) (Or.inl ⟨by rfl, ?_⟩) (by assumption) ?_
   rotate_left
   ·(intro w' hSw; (try dsimp only at hSw); go_simp; try with_reducible rfl)
   simp only [Act.put, getElem_toArray, getElem_cons_zero, getElem_cons_succ, setIfInBounds_toArray, set_cons_zero, set_cons_succ]
   refine wpAnyH_take (i := 4) (v := ?_) rfl (by kernel_rfl) (by kernel_rfl) (by kernel_rfl) (fun _ _ _ h => h) (Or.inl ⟨by rfl, ?_⟩) (by assumption) ?_
   rotate_left
   ·(intro w' hSw; (try dsimp only at hSw); go_simp; try with_reducible rfl)
   simp only [Act.put, getElem_toArray, getElem_cons_zero, getElem_cons_succ, setIfInBounds_toArray, set_cons_zero, set_cons_succ]
   refine wpAnyH_take (i := 5) (v := ?_) rfl (by kernel_rfl) (by kernel_rfl) (by kernel_rfl) (fun _ _ _ h => h) (Or.inl ⟨by rfl, ?_⟩) (by assumption) ?_
   rotate_left
   ·(intro w' hSw; (try dsimp only at hSw); go_simp; try with_reducible rfl)
   simp only [Act.put, getElem_toArray, getElem_cons_zero, getElem_cons_succ, setIfInBounds_toArray, set_cons_zero, set_cons_succ]
   refine wpAnyH_take (i := 6) (v := ?_) rfl (by kernel_rfl) (by kernel_rfl) (by kernel_rfl) (fun _ _ _ h => h) (Or.inl ⟨by rfl, ?_⟩) (by assumption) ?_
   rotate_left
   ·(intro w' hSw; (try dsimp only at hSw); go_simp; try with_reducible rfl)
   simp only [Act.put, getElem_toArray, getElem_cons_zero, getElem_cons_succ, setIfInBounds_toArray, set_cons_zero, set_cons_succ]
   refine wpAnyH_ready (rs := [1]) (by kernel_rfl) (by simp) ?_
   refine AllReadyH.cons rfl (fun K hK => ?_) AllReadyH.nil
   obtain ⟨hb0, hhb0⟩ : ∃ q, U0.heap.size = q := ⟨_, rfl⟩
   have CH := has_any y U0
   rw [hhb0] at CH
   go_simp
   go_at_call 41
   refine CH.mono ?_
   rintro e Y1 ⟨rfl, hbk, u1⟩
   rw [← hhb0] at u1
   clear CH hhb0
   have t_Y1 : Below wr.heap.size wr Y1 := tt.trans (u1.mono tt.size)
   refine hK.out _ _ (KSP.out _ t_Y1) (fun _ => ?_)
   clear hK K
   refine wpAnyH_ready (rs := [7]) (by kernel_rfl) (by simp) ?_
   refine AllReadyH.cons rfl (fun K hK => ?_) AllReadyH.nil
   go_simp
   have hf2 := enters_has1 #[av x, .pointer (some ⟨hb0, 0, none⟩)] Y1
   go_at_call 66
   refine (has1_any y hb0 x Y1 hbk).mono ?_
   rintro e Y2 ⟨rfl, u2⟩
   have t_Y2 : Below wr.heap.size wr Y2 := t_Y1.trans (u2.mono t_Y1.size)
   refine hK.out _ _ (KSP.out _ t_Y2) (fun _ => ?_)
   clear hK K
   refine wpAnyH_done (by kernel_rfl) ?_ _
   have P8 := Lib.hid (HJ.out.ps.step t_Y2)
   have KL := Lib.hid HJ.out.kl
   clear HJ KSP hbk
   have HE1 : Hid (k = (flC ((cons L).take k) y).length) := Lib.hid (by rw [flC_len, List.length_take, cons_length, HN.out]; omega)
   cases hkq : kq y x.h with
   | true =>
    have HEV1 : Hid (flE ((cons L).take (k + 1)) y = 0) := Lib.hid (by rw [HEV.out, hkq]; rfl)
    obtain ⟨o0, o1, o2, -⟩ := kz3_at P8.out.GO
    obtain ⟨e0, e1, e2, e3, e4, e5, e6, e7, e8, f0, f1, f2, f3, f4, f5, f6, f7, f8⟩ := rg_at P8.out.HA.row_of.2 HKM.out
    have HLX : M.length = n := HML.out
    have ha9 := aro_setH P8.out.HA HKM.out
    rw [HX.out] at ha9
    have J9 : Hid (FK w m A (some ⟨g, 0, none⟩) n c c3 o kO (cons L) y (k + 1) (M.set k ⟨fla x.h, x.A, x.c, x.l⟩) (Y2.setCell ⟨g, k * 9, none⟩ (.int .i64 3600))) := Lib.hid ⟨(P8.out.kq (Kp.setCell Y2 ⟨g, k * 9, none⟩ _ rfl)).ps ha9, by
     rw [cons_set, KL.out, HCT.out.1, HCT.out.2, flC_snoc, if_pos (show kq y (con x).1 = true from hkq)]
     conv => lhs; arg 2; rw [HE1.out]
     rw [List.set_append_right _ _ (Nat.le_refl _), Nat.sub_self, List.set_cons_zero, List.append_assoc]
     rfl⟩
    clear hkq HEV ha9
    go_wp2
    go_roundg gf
    case measure => omega
    case rel => exact ⟨k + 1, 0, rfl, by go_num, Lib.hid (by omega), HEV1, Lib.hid ⟨_, J9.out⟩⟩
   | false =>
    have HEV1 : Hid (flE ((cons L).take (k + 1)) y = ev) := Lib.hid (by rw [HEV.out, hkq]; rfl)
    have J9 : Hid (FK w m A (some ⟨g, 0, none⟩) n c c3 o kO (cons L) y (k + 1) M Y2) := Lib.hid ⟨P8.out, by rw [KL.out, HCT.out.1, HCT.out.2, flC_snoc, if_neg (by rw [show (con x).1 = x.h from rfl, hkq]; simp), List.append_assoc]; rfl⟩
    clear hkq HEV
    go_wp2
    go_roundg gf
    case measure => omega
    case rel => exact ⟨k + 1, ev, rfl, by go_num, Lib.hid (by omega), HEV1, Lib.hid ⟨_, J9.out⟩⟩
end Go.Proofs.YtadcicmccdphkaaGreat
namespace Go.Proofs.YtadcicmccdphkaaGreat
open Go.RowKit Go.Joins

set_option maxRecDepth 100000 in
set_option maxHeartbeats 4000000 in
theorem rcompare_any (a b : Hd) (w : World) (oa : 0 ≤ a.q ∧ a.q < 4294967296) (ob : 0 ≤ b.q ∧ b.q < 4294967296) (ha : 0 ≤ a.a ∧ a.a ≤ 3600) (hb : 0 ≤ b.a ∧ b.a ≤ 3600) :
  Calls Tryz.prog 55 #[.agg #[.int .i64 a.a, .int .i64 a.o, .int .i64 a.t, .int .u32 a.i, .int .u32 a.v, .int .u32 a.q, .int .i64 a.s, .int .i64 a.n], .agg #[.int .i64 b.a, .int .i64 b.o, .int .i64 b.t, .int .u32 b.i, .int .u32 b.v, .int .u32 b.q, .int .i64 b.s, .int .i64 b.n]] w fun e w' => e = .returned (.int .i64 (cmpH a b)) ∧ Below w.heap.size w w' := by
 obtain ⟨W0, hW0⟩ : ∃ V, w.alloc (.cells #[.int .i64 a.a, .int .i64 a.o, .int .i64 a.t, .int .u32 a.i, .int .u32 a.v, .int .u32 a.q, .int .i64 a.s, .int .i64 a.n] 37) = V := ⟨_, rfl⟩
 have bW0 : Below w.heap.size w W0 := by rw [← hW0]; exact below_alloc1 _ _
 have sW0 : W0.heap.size = w.heap.size + 1 := by rw [← hW0]; simp
 have KX : Hid (∀ V, Below W0.heap.size W0 V → V.cell? ⟨w.heap.size, 0, none⟩ = some (.int .i64 a.a) ∧ V.cell? ⟨w.heap.size, 1, none⟩ = some (.int .i64 a.o) ∧ V.cell? ⟨w.heap.size, 2, none⟩ = some (.int .i64 a.t) ∧ V.cell? ⟨w.heap.size, 3, none⟩ = some (.int .u32 a.i) ∧ V.cell? ⟨w.heap.size, 4, none⟩ = some (.int .u32 a.v) ∧ V.cell? ⟨w.heap.size, 5, none⟩ = some (.int .u32 a.q) ∧ V.cell? ⟨w.heap.size, 6, none⟩ = some (.int .i64 a.s) ∧ V.cell? ⟨w.heap.size, 7, none⟩ = some (.int .i64 a.n)) := Lib.hid (fun V hV => kb8_new hW0 hV)
 obtain ⟨W1, hW1⟩ : ∃ V, W0.alloc (.cells #[.int .i64 b.a, .int .i64 b.o, .int .i64 b.t, .int .u32 b.i, .int .u32 b.v, .int .u32 b.q, .int .i64 b.s, .int .i64 b.n] 37) = V := ⟨_, rfl⟩
 have bW1 : Below W0.heap.size W0 W1 := by rw [← hW1]; exact below_alloc1 _ _
 have sW1 : W1.heap.size = W0.heap.size + 1 := by rw [← hW1]; simp
 have KY : Hid (∀ V, Below W1.heap.size W1 V → V.cell? ⟨W0.heap.size, 0, none⟩ = some (.int .i64 b.a) ∧ V.cell? ⟨W0.heap.size, 1, none⟩ = some (.int .i64 b.o) ∧ V.cell? ⟨W0.heap.size, 2, none⟩ = some (.int .i64 b.t) ∧ V.cell? ⟨W0.heap.size, 3, none⟩ = some (.int .u32 b.i) ∧ V.cell? ⟨W0.heap.size, 4, none⟩ = some (.int .u32 b.v) ∧ V.cell? ⟨W0.heap.size, 5, none⟩ = some (.int .u32 b.q) ∧ V.cell? ⟨W0.heap.size, 6, none⟩ = some (.int .i64 b.s) ∧ V.cell? ⟨W0.heap.size, 7, none⟩ = some (.int .i64 b.n)) := Lib.hid (fun V hV => kb8_new hW1 hV)
 have b2 : Below w.heap.size w W1 := bW0.trans (bW1.mono bW0.size)
 have B2 := Lib.hid b2
 have KZ : Hid (∀ V, Below W1.heap.size W1 V → (V.cell? ⟨w.heap.size, 0, none⟩ = some (.int .i64 a.a) ∧ V.cell? ⟨w.heap.size, 1, none⟩ = some (.int .i64 a.o) ∧ V.cell? ⟨w.heap.size, 2, none⟩ = some (.int .i64 a.t) ∧ V.cell? ⟨w.heap.size, 3, none⟩ = some (.int .u32 a.i) ∧ V.cell? ⟨w.heap.size, 4, none⟩ = some (.int .u32 a.v) ∧ V.cell? ⟨w.heap.size, 5, none⟩ = some (.int .u32 a.q) ∧ V.cell? ⟨w.heap.size, 6, none⟩ = some (.int .i64 a.s) ∧ V.cell? ⟨w.heap.size, 7, none⟩ = some (.int .i64 a.n)) ∧ (V.cell? ⟨(w.heap.size + 1), 0, none⟩ = some (.int .i64 b.a) ∧ V.cell? ⟨(w.heap.size + 1), 1, none⟩ = some (.int .i64 b.o) ∧ V.cell? ⟨(w.heap.size + 1), 2, none⟩ = some (.int .i64 b.t) ∧ V.cell? ⟨(w.heap.size + 1), 3, none⟩ = some (.int .u32 b.i) ∧ V.cell? ⟨(w.heap.size + 1), 4, none⟩ = some (.int .u32 b.v) ∧ V.cell? ⟨(w.heap.size + 1), 5, none⟩ = some (.int .u32 b.q) ∧ V.cell? ⟨(w.heap.size + 1), 6, none⟩ = some (.int .i64 b.s) ∧ V.cell? ⟨(w.heap.size + 1), 7, none⟩ = some (.int .i64 b.n))) := Lib.hid (fun V hV => by
  have q1 := KX.out V (bW1.trans (hV.mono bW1.size))
  have q2 := KY.out V hV
  rw [sW0] at q2
  exact ⟨q1, q2⟩)
 obtain ⟨oa0, oa1⟩ := oa
 obtain ⟨ob0, ob1⟩ := ob
 obtain ⟨ha0, ha1⟩ := ha
 obtain ⟨hb0, hb1⟩ := hb
 have HC : Hid (cmpH a b = fstn [cmpI (sg a.q) (sg b.q), cmpI a.s b.s, cmpI (endd a.a) (endd b.a), yng a.a b.a]) := Lib.hid rfl
 have ea := wrap_i32 a.q oa0 oa1
 have eb := wrap_i32 b.q ob0 ob1
 obtain ⟨x, hx⟩ : ∃ x, sg a.q = x := ⟨_, rfl⟩
 obtain ⟨y, hy⟩ : ∃ y, sg b.q = y := ⟨_, rfl⟩
 rw [hx, hy] at HC
 rw [hx] at ea
 rw [hy] at eb
 obtain ⟨⟨k0, k1, k2, k3, k4, k5, k6, k7⟩, ⟨j0, j1, j2, j3, j4, j5, j6, j7⟩⟩ := KZ.out _ (Below.refl _ _)
 clear KX KY KZ bW0 bW1 b2 sW1 hx hy
 by_cases c1 : x = y
 case neg =>
  have d1 : (x == y) = false := by simpa using c1
  have n1 : (x != y) = true := by simp [bne, d1]
  by_cases c2 : x > y
  ·have HV : Hid (cmpH a b = 1) := Lib.hid (by rw [HC.out]; unfold cmpI; rw [if_neg (by omega : ¬ x < y), if_pos c2]; rfl)
   clear HC c1
   go_enter Tryz.func55, Tryz.ntmps55
   go_wp2_with (go_at_call 84; refine (more_any _ _).mono ?_; rintro e w' ⟨rfl, rfl⟩)
   go_ret
   exact ⟨ret_int (by rw [HV.out]), B2.out⟩
  ·have HV : Hid (cmpH a b = -1) := Lib.hid (by rw [HC.out]; unfold cmpI; rw [if_pos (by omega : x < y)]; rfl)
   clear HC c1
   go_enter Tryz.func55, Tryz.ntmps55
   go_wp2_with (go_at_call 84; refine (more_any _ _).mono ?_; rintro e w' ⟨rfl, rfl⟩)
   go_ret
   exact ⟨ret_int (by rw [HV.out]), B2.out⟩
 have d1 : (x == y) = true := by simpa using c1
 have n1 : (x != y) = false := by simp [bne, d1]
 have HC1 : Hid (cmpH a b = fstn [cmpI a.s b.s, cmpI (endd a.a) (endd b.a), yng a.a b.a]) := Lib.hid (by rw [HC.out, c1, cmpI_self]; rfl)
 clear HC c1
 by_cases c3 : a.s = b.s
 case neg =>
  have d3 : (a.s == b.s) = false := by simpa using c3
  have n3 : (a.s != b.s) = true := by simp [bne, d3]
  by_cases c2 : a.s > b.s
  ·have HV : Hid (cmpH a b = 1) := Lib.hid (by rw [HC1.out]; unfold cmpI; rw [if_neg (by omega : ¬ a.s < b.s), if_pos c2]; rfl)
   clear HC1 c3
   go_enter Tryz.func55, Tryz.ntmps55
   go_wp2_with (go_at_call 84; refine (more_any _ _).mono ?_; rintro e w' ⟨rfl, rfl⟩)
   go_ret
   exact ⟨ret_int (by rw [HV.out]), B2.out⟩
  ·have HV : Hid (cmpH a b = -1) := Lib.hid (by rw [HC1.out]; unfold cmpI; rw [if_pos (by omega : a.s < b.s)]; rfl)
   clear HC1 c3
   go_enter Tryz.func55, Tryz.ntmps55
   go_wp2_with (go_at_call 84; refine (more_any _ _).mono ?_; rintro e w' ⟨rfl, rfl⟩)
   go_ret
   exact ⟨ret_int (by rw [HV.out]), B2.out⟩
 have d3 : (a.s == b.s) = true := by simpa using c3
 have n3 : (a.s != b.s) = false := by simp [bne, d3]
 have HC2 : Hid (cmpH a b = fstn [cmpI (endd a.a) (endd b.a), yng a.a b.a]) := Lib.hid (by rw [HC1.out, c3, cmpI_self]; rfl)
 clear HC1 c3
 by_cases c4 : a.a = 3600
 ·have d4 : (a.a == 3600) = true := by simpa using c4
  by_cases c5 : b.a = 3600
  ·have d5 : (b.a == 3600) = true := by simpa using c5
   have HV : Hid (cmpH a b = 0) := Lib.hid (by rw [HC2.out, c4, c5, cmpI_self]; rfl)
   have f1 : ¬ (a.a > b.a + 900) := by omega
   have f2 : ¬ (b.a > a.a + 900) := by omega
   clear HC2 c4 c5
   go_enter Tryz.func55, Tryz.ntmps55
   go_wp2
   go_ret
   exact ⟨ret_int (by rw [HV.out]), B2.out⟩
  ·have d5 : (b.a == 3600) = false := by simpa using c5
   have HV : Hid (cmpH a b = 1) := Lib.hid (by rw [HC2.out]; unfold endd cmpI; rw [if_pos c4, if_neg c5]; rfl)
   clear HC2 c4 c5
   go_enter Tryz.func55, Tryz.ntmps55
   go_wp2_with (go_at_call 84; refine (more_any _ _).mono ?_; rintro e w' ⟨rfl, rfl⟩)
   go_ret
   exact ⟨ret_int (by rw [HV.out]), B2.out⟩
 have d4 : (a.a == 3600) = false := by simpa using c4
 by_cases c5 : b.a = 3600
 ·have d5 : (b.a == 3600) = true := by simpa using c5
  have HV : Hid (cmpH a b = -1) := Lib.hid (by rw [HC2.out]; unfold endd cmpI; rw [if_neg c4, if_pos c5]; rfl)
  clear HC2 c4 c5
  go_enter Tryz.func55, Tryz.ntmps55
  go_wp2_with (go_at_call 84; refine (more_any _ _).mono ?_; rintro e w' ⟨rfl, rfl⟩)
  go_ret
  exact ⟨ret_int (by rw [HV.out]), B2.out⟩
 have d5 : (b.a == 3600) = false := by simpa using c5
 have HC3 : Hid (cmpH a b = yng a.a b.a) := Lib.hid (by
  rw [HC2.out]
  unfold endd
  rw [if_neg c4, if_neg c5, cmpI_self]
  simp only [fstn, if_true]
  split
  ·rename_i h; exact h.symm
  ·rfl)
 clear HC2 c4 c5
 by_cases f1 : a.a > b.a + 900
 ·have f3 : ¬ (a.a < b.a) := by omega
  have HV : Hid (cmpH a b = -1) := Lib.hid (by rw [HC3.out]; unfold yng; rw [if_neg (by omega), if_pos (by omega)])
  clear HC3
  go_enter Tryz.func55, Tryz.ntmps55
  go_wp2_with (go_at_call 84; refine (more_any _ _).mono ?_; rintro e w' ⟨rfl, rfl⟩)
  go_ret
  exact ⟨ret_int (by rw [HV.out]), B2.out⟩
 by_cases f2 : b.a > a.a + 900
 ·have f3 : a.a < b.a := by omega
  have HV : Hid (cmpH a b = 1) := Lib.hid (by rw [HC3.out]; unfold yng; rw [if_pos (by omega)])
  clear HC3
  go_enter Tryz.func55, Tryz.ntmps55
  go_wp2_with (go_at_call 84; refine (more_any _ _).mono ?_; rintro e w' ⟨rfl, rfl⟩)
  go_ret
  exact ⟨ret_int (by rw [HV.out]), B2.out⟩
 have HV : Hid (cmpH a b = 0) := Lib.hid (by rw [HC3.out]; unfold yng; rw [if_neg (by omega), if_neg (by omega)])
 clear HC3
 go_enter Tryz.func55, Tryz.ntmps55
 go_wp2
 go_ret
 exact ⟨ret_int (by rw [HV.out]), B2.out⟩
set_option maxRecDepth 100000 in
set_option maxHeartbeats 4000000 in
theorem rless_any (a b : Hd) (w : World) :
  Calls Tryz.prog 38 #[.agg #[.int .i64 a.t, .int .u32 a.i, .int .u32 a.v], .agg #[.int .i64 b.t, .int .u32 b.i, .int .u32 b.v]] w fun e w' => e = .returned (.bool (lessK a b)) ∧ Below w.heap.size w w' := by
 obtain ⟨W0, hW0⟩ : ∃ V, w.alloc (.cells #[.int .i64 a.t, .int .u32 a.i, .int .u32 a.v] 25) = V := ⟨_, rfl⟩
 have bW0 : Below w.heap.size w W0 := by rw [← hW0]; exact below_alloc1 _ _
 have sW0 : W0.heap.size = w.heap.size + 1 := by rw [← hW0]; simp
 have KX : Hid (∀ V, Below W0.heap.size W0 V → V.cell? ⟨w.heap.size, 0, none⟩ = some (.int .i64 a.t) ∧ V.cell? ⟨w.heap.size, 1, none⟩ = some (.int .u32 a.i) ∧ V.cell? ⟨w.heap.size, 2, none⟩ = some (.int .u32 a.v)) := Lib.hid (fun V hV => kb3_new hW0 hV)
 obtain ⟨W1, hW1⟩ : ∃ V, W0.alloc (.cells #[.int .i64 b.t, .int .u32 b.i, .int .u32 b.v] 25) = V := ⟨_, rfl⟩
 have bW1 : Below W0.heap.size W0 W1 := by rw [← hW1]; exact below_alloc1 _ _
 have sW1 : W1.heap.size = W0.heap.size + 1 := by rw [← hW1]; simp
 have KY : Hid (∀ V, Below W1.heap.size W1 V → V.cell? ⟨W0.heap.size, 0, none⟩ = some (.int .i64 b.t) ∧ V.cell? ⟨W0.heap.size, 1, none⟩ = some (.int .u32 b.i) ∧ V.cell? ⟨W0.heap.size, 2, none⟩ = some (.int .u32 b.v)) := Lib.hid (fun V hV => kb3_new hW1 hV)
 have b2 : Below w.heap.size w W1 := bW0.trans (bW1.mono bW0.size)
 have B2 := Lib.hid b2
 have KZ : Hid (∀ V, Below W1.heap.size W1 V → (V.cell? ⟨w.heap.size, 0, none⟩ = some (.int .i64 a.t) ∧ V.cell? ⟨w.heap.size, 1, none⟩ = some (.int .u32 a.i) ∧ V.cell? ⟨w.heap.size, 2, none⟩ = some (.int .u32 a.v)) ∧ (V.cell? ⟨(w.heap.size + 1), 0, none⟩ = some (.int .i64 b.t) ∧ V.cell? ⟨(w.heap.size + 1), 1, none⟩ = some (.int .u32 b.i) ∧ V.cell? ⟨(w.heap.size + 1), 2, none⟩ = some (.int .u32 b.v))) := Lib.hid (fun V hV => by
  have q1 := KX.out V (bW1.trans (hV.mono bW1.size))
  have q2 := KY.out V hV
  rw [sW0] at q2
  exact ⟨q1, q2⟩)
 have HC : Hid (lessK a b = decide (fstn [cmpI a.t b.t, cmpI a.i b.i, cmpI a.v b.v] < 0)) := Lib.hid rfl
 obtain ⟨⟨k0, k1, k2⟩, ⟨j0, j1, j2⟩⟩ := KZ.out _ (Below.refl _ _)
 clear KX KY KZ bW0 bW1 b2 sW1
 by_cases c1 : a.t = b.t
 case neg =>
  have d1 : (a.t == b.t) = false := by simpa using c1
  have n1 : (a.t != b.t) = true := by simp [bne, d1]
  by_cases c2 : a.t < b.t
  ·have HV : Hid (lessK a b = true) := Lib.hid (by rw [HC.out]; unfold cmpI; rw [if_pos c2]; rfl)
   clear HC c1
   go_enter Tryz.func38, Tryz.ntmps38
   go_wp2
   go_ret
   exact ⟨ret_bool (by rw [HV.out]; try (simp <;> omega)), B2.out⟩
  ·have HV : Hid (lessK a b = false) := Lib.hid (by rw [HC.out]; unfold cmpI; rw [if_neg c2, if_pos (by omega : b.t < a.t)]; rfl)
   clear HC c1
   go_enter Tryz.func38, Tryz.ntmps38
   go_wp2
   go_ret
   exact ⟨ret_bool (by rw [HV.out]; try (simp <;> omega)), B2.out⟩
 have d1 : (a.t == b.t) = true := by simpa using c1
 have n1 : (a.t != b.t) = false := by simp [bne, d1]
 have HC1 : Hid (lessK a b = decide (fstn [cmpI a.i b.i, cmpI a.v b.v] < 0)) := Lib.hid (by rw [HC.out, c1, cmpI_self]; rfl)
 clear HC c1
 by_cases c2 : a.i < b.i
 ·have HV : Hid (lessK a b = true) := Lib.hid (by rw [HC1.out]; unfold cmpI; rw [if_pos c2]; rfl)
  clear HC1
  go_enter Tryz.func38, Tryz.ntmps38
  go_wp2
  go_ret
  exact ⟨ret_bool (by rw [HV.out]; try (simp <;> omega)), B2.out⟩
 by_cases c3 : a.i = b.i
 case neg =>
  have d3 : (a.i == b.i) = false := by simpa using c3
  have n3 : (a.i != b.i) = true := by simp [bne, d3]
  have HV : Hid (lessK a b = false) := Lib.hid (by rw [HC1.out]; unfold cmpI; rw [if_neg c2, if_pos (by omega : b.i < a.i)]; rfl)
  clear HC1 c3
  go_enter Tryz.func38, Tryz.ntmps38
  go_wp2
  go_ret
  exact ⟨ret_bool (by rw [HV.out]; try (simp <;> omega)), B2.out⟩
 have d3 : (a.i == b.i) = true := by simpa using c3
 have n3 : (a.i != b.i) = false := by simp [bne, d3]
 have HC2 : Hid (lessK a b = decide (fstn [cmpI a.v b.v] < 0)) := Lib.hid (by rw [HC1.out, c3, cmpI_self]; rfl)
 clear HC1 c3
 by_cases c4 : a.v < b.v
 ·have HV : Hid (lessK a b = true) := Lib.hid (by rw [HC2.out]; unfold cmpI; rw [if_pos c4]; rfl)
  clear HC2
  go_enter Tryz.func38, Tryz.ntmps38
  go_wp2
  go_ret
  exact ⟨ret_bool (by rw [HV.out]; try (simp <;> omega)), B2.out⟩
 have HV : Hid (lessK a b = false) := Lib.hid (by
  rw [HC2.out]
  unfold cmpI
  rw [if_neg c4]
  split <;> rfl)
 clear HC2
 go_enter Tryz.func38, Tryz.ntmps38
 go_wp2
 go_ret
 exact ⟨ret_bool (by rw [HV.out]; try (simp <;> omega)), B2.out⟩
end Go.Proofs.YtadcicmccdphkaaGreat
