/-
  What Put does, in words; store.beside; the contract of store.Put. No statement is proved here; no conditions.
-/
import Derived.Test.YtadcicmccdphkaaGreatG14
import Derived.Test.YtadcicmccdphkaaGreatG15
import Derived.Test.YtadcicmccdphkaaGreatG25
import Derived.Test.YtadcicmccdphkaaGreatG12
namespace Go.Proofs.YtadcicmccdphkaaGreat
open Go.RowKit Go.Joins
open List (getElem_toArray getElem_cons_zero getElem_cons_succ setIfInBounds_toArray set_cons_zero set_cons_succ)

structure PR where
 (C : List Ct) (o : Bool) (k e : Int)
def plcC (C : List Ct) (y : Hd) : Nat := C.findIdx fun z => !lessK z.1 y
theorem plc_cons (L : List Ae) (y : Hd) : plcC (cons L) y = plc L y := by
 rw [plcC, plc, cons, List.findIdx_map]
 rfl
def putR (m : Int) (C : List Ct) (o : Bool) (x : Ct) : PR :=
 if whl x.1 x.2 = false then ⟨C, o, 0, 4⟩ else if rgt x.1.t x.2 = false then ⟨C, o, 0, 3⟩ else
  if plcC C x.1 < C.length ∧ kq x.1 (C.getD (plcC C x.1) x).1 = true then
   (if cmpH x.1 (C.getD (plcC C x.1) x).1 = 1 then ⟨C.set (plcC C x.1) x, o, 2, 0⟩ else ⟨C, o, cmpH x.1 (C.getD (plcC C x.1) x).1 + 1, 0⟩)
  else if m ≤ (C.length : Int) then ⟨C, true, 0, 8⟩ else ⟨C.take (plcC C x.1) ++ x :: C.drop (plcC C x.1), o, 3, 0⟩
set_option maxRecDepth 100000 in
theorem beside_any (a b : Hd) (w : World) (oa : 0 ≤ a.q ∧ a.q < 4294967296) (ob : 0 ≤ b.q ∧ b.q < 4294967296) (ha : 0 ≤ a.a ∧ a.a ≤ 3600) (hb : 0 ≤ b.a ∧ b.a ≤ 3600) :
  Calls Tryz.prog 52 #[.agg #[.int .i64 a.a, .int .i64 a.o, .int .i64 a.t, .int .u32 a.i, .int .u32 a.v, .int .u32 a.q, .int .i64 a.s, .int .i64 a.n], .agg #[.int .i64 b.a, .int .i64 b.o, .int .i64 b.t, .int .u32 b.i, .int .u32 b.v, .int .u32 b.q, .int .i64 b.s, .int .i64 b.n]] w fun e w' => e = .returned (.int .i64 (cmpH a b + 1)) ∧ Below w.heap.size w w' := by
 obtain ⟨W0, hW0⟩ : ∃ V, w.alloc (.cells #[.int .i64 a.a, .int .i64 a.o, .int .i64 a.t, .int .u32 a.i, .int .u32 a.v, .int .u32 a.q, .int .i64 a.s, .int .i64 a.n] 37) = V := ⟨_, rfl⟩
 have bW0 : Below w.heap.size w W0 := by rw [← hW0]; exact below_alloc1 _ _
 have sW0 : W0.heap.size = w.heap.size + 1 := by rw [← hW0]; simp
 have KX : Hid (∀ V, Below W0.heap.size W0 V → V.cell? ⟨w.heap.size, 0, none⟩ = some (.int .i64 a.a) ∧ V.cell? ⟨w.heap.size, 1, none⟩ = some (.int .i64 a.o) ∧ V.cell? ⟨w.heap.size, 2, none⟩ = some (.int .i64 a.t) ∧ V.cell? ⟨w.heap.size, 3, none⟩ = some (.int .u32 a.i) ∧ V.cell? ⟨w.heap.size, 4, none⟩ = some (.int .u32 a.v) ∧ V.cell? ⟨w.heap.size, 5, none⟩ = some (.int .u32 a.q) ∧ V.cell? ⟨w.heap.size, 6, none⟩ = some (.int .i64 a.s) ∧ V.cell? ⟨w.heap.size, 7, none⟩ = some (.int .i64 a.n)) := Lib.hid (fun V hV => kb8_new hW0 hV)
 obtain ⟨W1, hW1⟩ : ∃ V, W0.alloc (.cells #[.int .i64 b.a, .int .i64 b.o, .int .i64 b.t, .int .u32 b.i, .int .u32 b.v, .int .u32 b.q, .int .i64 b.s, .int .i64 b.n] 37) = V := ⟨_, rfl⟩
 have bW1 : Below W0.heap.size W0 W1 := by rw [← hW1]; exact below_alloc1 _ _
 have sW1 : W1.heap.size = W0.heap.size + 1 := by rw [← hW1]; simp
 have KY : Hid (∀ V, Below W1.heap.size W1 V → V.cell? ⟨W0.heap.size, 0, none⟩ = some (.int .i64 b.a) ∧ V.cell? ⟨W0.heap.size, 1, none⟩ = some (.int .i64 b.o) ∧ V.cell? ⟨W0.heap.size, 2, none⟩ = some (.int .i64 b.t) ∧ V.cell? ⟨W0.heap.size, 3, none⟩ = some (.int .u32 b.i) ∧ V.cell? ⟨W0.heap.size, 4, none⟩ = some (.int .u32 b.v) ∧ V.cell? ⟨W0.heap.size, 5, none⟩ = some (.int .u32 b.q) ∧ V.cell? ⟨W0.heap.size, 6, none⟩ = some (.int .i64 b.s) ∧ V.cell? ⟨W0.heap.size, 7, none⟩ = some (.int .i64 b.n)) := Lib.hid (fun V hV => kb8_new hW1 hV)
 obtain ⟨k0, k1, k2, k3, k4, k5, k6, k7⟩ := KX.out _ bW1
 obtain ⟨j0, j1, j2, j3, j4, j5, j6, j7⟩ := KY.out _ (Below.refl _ _)
 have CC := compare_any a b W1 oa ob ha hb
 have hbd := cmpH_bd a b
 have T1 := Lib.hid (bW0.trans (bW1.mono bW0.size))
 generalize cmpH a b = r at *
 rw [sW0] at j0 j1 j2 j3 j4 j5 j6 j7
 clear KX KY bW0 bW1 sW1 oa ob ha hb
 rcases hbd with rfl | rfl | rfl
 ·go_enter Tryz.func52, Tryz.ntmps52
  go_wp2_with fail
  refine CC.mono ?_
  rintro e W2 ⟨rfl, u2⟩
  go_wp2
  go_ret
  exact ⟨rfl, T1.out.trans (u2.mono T1.out.size)⟩
 ·go_enter Tryz.func52, Tryz.ntmps52
  go_wp2_with fail
  refine CC.mono ?_
  rintro e W2 ⟨rfl, u2⟩
  go_wp2
  go_ret
  exact ⟨rfl, T1.out.trans (u2.mono T1.out.size)⟩
 ·go_enter Tryz.func52, Tryz.ntmps52
  go_wp2_with fail
  refine CC.mono ?_
  rintro e W2 ⟨rfl, u2⟩
  go_wp2
  go_ret
  exact ⟨rfl, T1.out.trans (u2.mono T1.out.size)⟩
structure PS (w : World) (sA aA : Obj) (m : Int) (A3 : Option Addr) (n c3 : Nat) (o : Bool) (L3 : List Ae) (kO : Nat) (V : World) : Prop where
 GA : Bk V w.heap.size sA
 GB : Bk V (w.heap.size + 1) aA
 GC : Bk V (w.heap.size + 2) (.cells #[Value.int .i64 0, .slice none 0 0, .bool false] 28)
 GO : Bk V kO (.cells #[.int .i64 m, .slice A3 n c3, .bool o] 28)
 HA : Aro (w.heap.size + 3) V A3 c3 L3
 HB : Below w.heap.size w V
 HK : w.heap.size + 3 ≤ kO
theorem PS.step {w V V' : World} {sA aA : Obj} {m : Int} {A3 : Option Addr} {n c3 : Nat} {o : Bool} {L3 : List Ae} {kO : Nat} (h : PS w sA aA m A3 n c3 o L3 kO V) (u : Below V.heap.size V V') : PS w sA aA m A3 n c3 o L3 kO V' :=
 ⟨h.GA.step u, h.GB.step u, h.GC.step u, h.GO.step u, h.HA.step u, h.HB.trans (u.mono h.HB.size), h.HK⟩
theorem PS.ret {w V : World} {sA aA : Obj} {m : Int} {A3 : Option Addr} {n c3 : Nat} {o : Bool} {L3 : List Ae} {kO : Nat} (h : PS w sA aA m A3 n c3 o L3 kO V) : Aro w.heap.size ((((V).setCell ⟨(w.heap.size + 2), 0, none⟩ (.int .i64 m)).setCell ⟨(w.heap.size + 2), 1, none⟩ (.slice A3 n c3)).setCell ⟨(w.heap.size + 2), 2, none⟩ (.bool o)) A3 c3 L3 ∧ Below w.heap.size w ((((V).setCell ⟨(w.heap.size + 2), 0, none⟩ (.int .i64 m)).setCell ⟨(w.heap.size + 2), 1, none⟩ (.slice A3 n c3)).setCell ⟨(w.heap.size + 2), 2, none⟩ (.bool o)) :=
 ⟨(((h.HA.set h.GC (by decide) (by decide) (.int .i64 m)).set (i := 1) (Bk.set3 (i := 0) h.GC) (by decide) (by decide) (.slice A3 n c3)).set (i := 2) (Bk.set3 (i := 1) (Bk.set3 (i := 0) h.GC)) (by decide) (by decide) (.bool o)).lower (by omega), below_st3 h.HB (by omega) _ _ _⟩
theorem PS.setO {w V : World} {sA aA : Obj} {m : Int} {A3 : Option Addr} {n c3 : Nat} {o : Bool} {L3 : List Ae} {kO : Nat} (h : PS w sA aA m A3 n c3 o L3 kO V) (o2 : Bool) : PS w sA aA m A3 n c3 o2 L3 kO (V.setCell ⟨kO, 2, none⟩ (.bool o2)) :=
 have f : ∀ b, b ≠ kO → (V.setCell ⟨kO, 2, none⟩ (.bool o2)).heap[b]? = V.heap[b]? := fun b hb => Below.heap_setCell _ _ _ _ hb
 ⟨(f _ (by have := h.HK; omega)).trans h.GA, (f _ (by have := h.HK; omega)).trans h.GB, (f _ (by have := h.HK; omega)).trans h.GC, Bk.set3 (i := 2) h.GO, h.HA.set (i := 2) h.GO (by decide) (by decide) _, h.HB.setCell (p := ⟨kO, 2, none⟩) (by show w.heap.size ≤ kO; have := h.HK; omega) _, h.HK⟩
structure PQ (w : World) (sA aA : Obj) (m : Int) (A3 : Option Addr) (n c3 : Nat) (o : Bool) (kO : Nat) (V : World) : Prop where
 GA : Bk V w.heap.size sA
 GB : Bk V (w.heap.size + 1) aA
 GC : Bk V (w.heap.size + 2) (.cells #[Value.int .i64 0, .slice none 0 0, .bool false] 28)
 GO : Bk V kO (.cells #[.int .i64 m, .slice A3 n c3, .bool o] 28)
 HB : Below w.heap.size w V
 HK : w.heap.size + 3 ≤ kO
theorem PS.kq {w V V' : World} {sA aA : Obj} {m : Int} {A3 : Option Addr} {n c3 : Nat} {o : Bool} {L3 : List Ae} {kO : Nat} (h : PS w sA aA m A3 n c3 o L3 kO V) (k : Kp (fun j => A3 = some ⟨j, 0, none⟩) V V') : PQ w sA aA m A3 n c3 o kO V' :=
 have f : ∀ b, b < V.heap.size → b < w.heap.size + 3 → V'.heap[b]? = V.heap[b]? := fun b h1 h2 => k.block b h1 (fun e => by have h3 : w.heap.size + 3 ≤ b := h.HA.row.at e; omega)
 ⟨(f _ h.GA.lt (by omega)).trans h.GA, (f _ h.GB.lt (by omega)).trans h.GB, (f _ h.GC.lt (by omega)).trans h.GC, h.GO.kp h.HA (by decide) k, h.HB.trans (k.below (fun j hj => by have h3 : w.heap.size + 3 ≤ j := h.HA.row.at hj; omega) h.HB.size), h.HK⟩
theorem PQ.ps {w V : World} {sA aA : Obj} {m : Int} {A3 : Option Addr} {n c3 : Nat} {o : Bool} {L4 : List Ae} {kO : Nat} (h : PQ w sA aA m A3 n c3 o kO V) (h4 : Aro (w.heap.size + 3) V A3 c3 L4) : PS w sA aA m A3 n c3 o L4 kO V := ⟨h.GA, h.GB, h.GC, h.GO, h4, h.HB, h.HK⟩
theorem PQ.setL {w V : World} {sA aA : Obj} {m : Int} {A3 A4 : Option Addr} {n c3 n4 c4 : Nat} {o : Bool} {L4 : List Ae} {kO : Nat} (h : PQ w sA aA m A3 n c3 o kO V) (h4 : Aro (w.heap.size + 3) V A4 c4 L4) : PS w sA aA m A4 n4 c4 o L4 kO (V.setCell ⟨kO, 1, none⟩ (.slice A4 n4 c4)) :=
 have f : ∀ b, b ≠ kO → (V.setCell ⟨kO, 1, none⟩ (.slice A4 n4 c4)).heap[b]? = V.heap[b]? := fun b hb => Below.heap_setCell _ _ _ _ hb
 ⟨(f _ (by have := h.HK; omega)).trans h.GA, (f _ (by have := h.HK; omega)).trans h.GB, (f _ (by have := h.HK; omega)).trans h.GC, Bk.set3 (i := 1) h.GO, h4.set (i := 1) h.GO (by decide) (by decide) _, h.HB.setCell (p := ⟨kO, 1, none⟩) (by show w.heap.size ≤ kO; have := h.HK; omega) _, h.HK⟩
def PP (m : Int) (R : PR) (base : Nat) (w : World) (e : Ending) (w' : World) : Prop := ∃ A' c' n' L', e = .returned (.tuple #[.agg #[.int .i64 m, .slice A' n' c', .bool R.o], .int .i64 R.k, .int .i64 R.e]) ∧ L'.length = n' ∧ cons L' = R.C ∧ Aro base w' A' c' L' ∧ Below base w w'
theorem PP.mk {w V : World} {sA aA : Obj} {m : Int} {A3 : Option Addr} {n c3 : Nat} {o : Bool} {L3 : List Ae} {kO : Nat} {R : PR} {k er : Int} (h : PS w sA aA m A3 n c3 o L3 kO V) (hn : L3.length = n) (hR : R = ⟨cons L3, o, k, er⟩) :
  PP m R w.heap.size w (.returned (.tuple #[.agg #[.int .i64 m, .slice A3 n c3, .bool o], .int .i64 k, .int .i64 er])) ((((V).setCell ⟨(w.heap.size + 2), 0, none⟩ (.int .i64 m)).setCell ⟨(w.heap.size + 2), 1, none⟩ (.slice A3 n c3)).setCell ⟨(w.heap.size + 2), 2, none⟩ (.bool o)) := by
 subst hR
 exact ⟨A3, c3, n, L3, rfl, hn, rfl, h.ret.1, h.ret.2⟩
theorem getD_cons {L : List Ae} {j : Nat} (hj : j < L.length) (x : Ct) : (cons L).getD j x = con (ag L j) := by
 rw [ag_eq hj, cons, List.getD, List.getElem?_map, List.getElem?_eq_getElem hj]
 rfl
structure Sok (x : Ct) : Prop where
 q : 0 ≤ x.1.q ∧ x.1.q < 4294967296
 a : 0 ≤ x.1.a ∧ x.1.a ≤ 3600
 n : x.2.length ≤ 1600
set_option maxRecDepth 100000 in
set_option maxHeartbeats 8000000 in
theorem sput_any (h : Hd) (Ab : Option Addr) (mB d : Nat) (B : List Int) (m : Int) (A : Option Addr) (n c : Nat) (o : Bool) (L : List Ae) (w : World) (hn : L.length = n) (hl : Arr w A L) (hll : n ≤ 9000) (hok : ∀ x ∈ cons L, Sok x)
  (ok : Okd h) (hy : Byt B) (hB : B.length = mB) (hmB : mB ≤ 1600) (hmd : mB ≤ d) (hb : Bt w Ab B) :
  Calls Tryz.prog 25 #[.agg #[.int .i64 m, .slice A n c, .bool o], .agg #[.int .i64 h.a, .int .i64 h.o, .int .i64 h.t, .int .u32 h.i, .int .u32 h.v, .int .u32 h.q, .int .i64 h.s, .int .i64 h.n, .slice Ab mB d]] w fun e w' => PP m (putR m (cons L) o (h, B)) w.heap.size w e w' := by
 have hsm : ∀ x ∈ L, x.l.length ≤ 100000 := fun x hx => by have := (hok _ (List.mem_map.2 ⟨x, hx, rfl⟩)).n; simp only [con] at this; omega
 have HOK := Lib.hid hok
 have HBB := Lib.hid hb
 have HOD := Lib.hid ok
 have HY := Lib.hid hy
 have HMB := Lib.hid hB
 clear hok hb ok hy hB
 obtain ⟨W0, hW0⟩ : ∃ V, w.alloc (.cells #[.int .i64 m, .slice A n c, .bool o] 28) = V := ⟨_, rfl⟩
 have bW0 : Below w.heap.size w W0 := by rw [← hW0]; exact below_alloc1 _ _
 have sW0 : W0.heap.size = w.heap.size + 1 := by rw [← hW0]; simp
 have KX : Hid (∀ V, Below W0.heap.size W0 V → V.cell? ⟨w.heap.size, 0, none⟩ = some (.int .i64 m) ∧ V.cell? ⟨w.heap.size, 1, none⟩ = some (.slice A n c) ∧ V.cell? ⟨w.heap.size, 2, none⟩ = some (.bool o)) := Lib.hid (fun V hV => kb3_new hW0 hV)
 obtain ⟨W1, hW1⟩ : ∃ V, W0.alloc (.cells #[.int .i64 h.a, .int .i64 h.o, .int .i64 h.t, .int .u32 h.i, .int .u32 h.v, .int .u32 h.q, .int .i64 h.s, .int .i64 h.n, .slice Ab mB d] 40) = V := ⟨_, rfl⟩
 have bW1 : Below W0.heap.size W0 W1 := by rw [← hW1]; exact below_alloc1 _ _
 have sW1 : W1.heap.size = w.heap.size + 2 := by rw [← hW1]; simp; omega
 obtain ⟨W2, hW2⟩ : ∃ V, W1.alloc (.cells #[Value.int .i64 0, .slice none 0 0, .bool false] 28) = V := ⟨_, rfl⟩
 have bW2 : Below W1.heap.size W1 W2 := by rw [← hW2]; exact below_alloc1 _ _
 have sW2 : W2.heap.size = w.heap.size + 3 := by rw [← hW2]; simp; omega
 have b02 : Below W0.heap.size W0 W2 := bW1.trans (bW2.mono bW1.size)
 have b2 : Below w.heap.size w W2 := bW0.trans (b02.mono bW0.size)
 have G0 : Bk W2 w.heap.size (.cells #[.int .i64 m, .slice A n c, .bool o] 28) := (Bk.mk hW0).step b02
 have G1 : Bk W2 (w.heap.size + 1) (.cells #[.int .i64 h.a, .int .i64 h.o, .int .i64 h.t, .int .u32 h.i, .int .u32 h.v, .int .u32 h.q, .int .i64 h.s, .int .i64 h.n, .slice Ab mB d] 40) := (show Bk W1 (w.heap.size + 1) _ by have := Bk.mk hW1; rwa [sW0] at this).step bW2
 have G2 : Bk W2 (w.heap.size + 2) (.cells #[Value.int .i64 0, .slice none 0 0, .bool false] 28) := by have := Bk.mk hW2; rwa [sW1] at this
 obtain ⟨k0, k1, k2⟩ := KX.out _ b02
 have CF := sfresh_any m A n c o L W2 hn (hl.step b2) (by omega) hsm
 have HB := Lib.hid b2
 have HN := Lib.hid hn
 clear KX bW0 bW1 bW2 b02 b2 hl hn hsm
 go_enter Tryz.func25, Tryz.ntmps25
 go_wp2_with fail
 refine CF.mono ?_
 rintro e W3 ⟨A3, c3, L3, rfl, hc3, ha3, u3⟩
 have hn3 : L3.length = n := by have := congrArg List.length hc3; rw [cons_length, cons_length, HN.out] at this; exact this
 have HC3 := Lib.hid hc3
 have HN3 := Lib.hid hn3
 have T3 := Lib.hid (HB.out.trans (u3.mono HB.out.size))
 obtain ⟨kO, hkO⟩ : ∃ q, W3.heap.size = q := ⟨_, rfl⟩
 obtain ⟨W4, hW4⟩ : ∃ V, W3.alloc (.cells #[Value.int .i64 0, .slice none 0 0, .bool false] 28) = V := ⟨_, rfl⟩
 have u4 : Below W3.heap.size W3 W4 := by rw [← hW4]; exact below_alloc1 _ _
 have GO4 : Bk W4 kO (.cells #[Value.int .i64 0, .slice none 0 0, .bool false] 28) := by rw [← hkO]; exact Bk.mk hW4
 obtain ⟨W5, hW5⟩ : ∃ V, ((W4.setCell ⟨kO, 0, none⟩ (.int .i64 m)).setCell ⟨kO, 1, none⟩ (.slice A3 n c3)).setCell ⟨kO, 2, none⟩ (.bool o) = V := ⟨_, rfl⟩
 have k45 : Kp (· = kO) W4 W5 := by rw [← hW5]; exact ((Kp.setCell (S := (· = kO)) W4 ⟨kO, 0, none⟩ _ rfl).then_set ⟨kO, 1, none⟩ _ rfl).then_set ⟨kO, 2, none⟩ _ rfl
 have hkl : w.heap.size + 3 ≤ kO := by have := u3.size; omega
 have up5 : ∀ (b : Nat) (ob : Obj), Bk W2 b ob → b < kO → Bk W5 b ob := fun b ob hb hlt => (k45.block b (by have := ((hb.step u3).step u4).lt; exact this) (by omega)).trans ((hb.step u3).step u4)
 have ha4 := ha3.step u4
 have ps5 : PS w (.cells #[.int .i64 m, .slice A n c, .bool o] 28) (.cells #[.int .i64 h.a, .int .i64 h.o, .int .i64 h.t, .int .u32 h.i, .int .u32 h.v, .int .u32 h.q, .int .i64 h.s, .int .i64 h.n, .slice Ab mB d] 40) m A3 n c3 o L3 kO W5 := ⟨up5 _ _ G0 (by omega), up5 _ _ G1 (by omega), up5 _ _ G2 (by omega), by rw [← hW5]; exact kz3_set GO4 _ _ _, by
  rw [← hW5, ← sW2]
  exact ((ha4.set GO4 (by decide) (by decide) _).set (i := 1) (Bk.set3 (i := 0) GO4) (by decide) (by decide) _).set (i := 2) (Bk.set3 (i := 1) (Bk.set3 (i := 0) GO4)) (by decide) (by decide) _, (T3.out.trans (u4.mono T3.out.size)).trans (k45.below (fun j hj => by rw [hj]; omega) (T3.out.trans (u4.mono T3.out.size)).size), hkl⟩
 have P5 := Lib.hid ps5
 have HKL := Lib.hid hkl
 obtain ⟨y0, y1, y2, f0, f1, f2, hz2⟩ := kz3_at GO4
 clear CF ha3 u3 hc3 u4 k45 up5 ha4 ps5 G0 G1 G2 GO4 k0 k1 k2 hkl hn3 HB T3
 obtain ⟨a0, a1, a2, a3, a4, a5, a6, a7, a8, -⟩ := kz9_at P5.out.GB
 have CW := whole_any h Ab mB d B W5 HMB.out HOD.out (HBB.out.step P5.out.HB) HY.out (by omega)
 go_wp2_with fail
 clear y0 y1 y2 f0 f1 f2 hz2 hW5 hW4 hkO hW0 hW1 hW2 W4 W3
 refine CW.mono ?_
 rintro e W6 ⟨rfl, u6⟩
 have P6 := Lib.hid (P5.out.step u6)
 clear CW u6 a0 a1 a2 a3 a4 a5 a6 a7 a8 P5 sW0 sW1 sW2
 cases hw : whl h B with
 | false =>
  have HR : Hid (putR m (cons L) o (h, B) = ⟨cons L3, o, 0, 4⟩) := Lib.hid (by rw [putR, if_pos hw, HC3.out])
  clear hw
  obtain ⟨o0, o1, o2, -⟩ := kz3_at P6.out.GO
  obtain ⟨z0, z1, z2, g0, g1, g2, hzl⟩ := kz3_at P6.out.GC
  go_wp2
  obtain ⟨r0, r1, r2⟩ := kz3_get P6.out.GC (Value.int .i64 m) (.slice A3 n c3) (.bool o)
  refine bodyPost_ret (v := .tuple #[.agg #[.int .i64 m, .slice A3 n c3, .bool o], .int .i64 0, .int .i64 4]) (by simp [results, Tryz.results25, go_sem, r0, r1, r2]) rfl (PP.mk P6.out HN3.out HR.out)
 | true =>
  have HW := Lib.hid hw
  clear hw
  obtain ⟨a0, a1, a2, a3, a4, a5, a6, a7, a8, -⟩ := kz9_at P6.out.GB
  have CR := right_any h.a h.o h.t h.i h.v h.q h.s h.n Ab mB d B W6 HMB.out (HBB.out.step P6.out.HB) HY.out hmd (by omega)
  go_wp2_with fail
  refine CR.mono ?_
  rintro e W7 ⟨rfl, u7⟩
  have P7 := Lib.hid (P6.out.step u7)
  clear CR u7 a0 a1 a2 a3 a4 a5 a6 a7 a8 P6
  cases hr : rgt h.t B with
  | false =>
   have HR : Hid (putR m (cons L) o (h, B) = ⟨cons L3, o, 0, 3⟩) := Lib.hid (by rw [putR, if_neg (by rw [HW.out]; simp), if_pos hr, HC3.out])
   clear hr
   obtain ⟨o0, o1, o2, -⟩ := kz3_at P7.out.GO
   obtain ⟨z0, z1, z2, g0, g1, g2, hzl⟩ := kz3_at P7.out.GC
   go_wp2
   obtain ⟨r0, r1, r2⟩ := kz3_get P7.out.GC (Value.int .i64 m) (.slice A3 n c3) (.bool o)
   refine bodyPost_ret (v := .tuple #[.agg #[.int .i64 m, .slice A3 n c3, .bool o], .int .i64 0, .int .i64 3]) (by simp [results, Tryz.results25, go_sem, r0, r1, r2]) rfl (PP.mk P7.out HN3.out HR.out)
  | true =>
   have HRT := Lib.hid hr
   clear hr
   obtain ⟨a0, a1, a2, a3, a4, a5, a6, a7, a8, -⟩ := kz9_at P7.out.GB
   go_wp2_with fail
   refine (key_any h W7).mono ?_
   rintro e W8 ⟨rfl, u8⟩
   have P8 := Lib.hid (P7.out.step u8)
   clear u8 a0 a1 a2 a3 a4 a5 a6 a7 a8 P7
   obtain ⟨kK, hkK⟩ : ∃ q, W8.heap.size = q := ⟨_, rfl⟩
   obtain ⟨W9, hW9⟩ : ∃ V, W8.alloc (.cells #[Value.int .i64 0, .int .u32 0, .int .u32 0] 25) = V := ⟨_, rfl⟩
   have u9 : Below W8.heap.size W8 W9 := by rw [← hW9]; exact below_alloc1 _ _
   have GK9 : Bk W9 kK (.cells #[Value.int .i64 0, .int .u32 0, .int .u32 0] 25) := by rw [← hkK]; exact Bk.mk hW9
   obtain ⟨X1, hX1⟩ : ∃ V, ((W9.setCell ⟨kK, 0, none⟩ (.int .i64 h.t)).setCell ⟨kK, 1, none⟩ (.int .u32 h.i)).setCell ⟨kK, 2, none⟩ (.int .u32 h.v) = V := ⟨_, rfl⟩
   have GK1 : Hid (Bk X1 kK (.cells #[.int .i64 h.t, .int .u32 h.i, .int .u32 h.v] 25)) := Lib.hid (by rw [← hX1]; exact kz3_set GK9 _ _ _)
   have kx : Below W8.heap.size W8 X1 := by rw [← hX1]; exact u9.trans (((Kp.setCell (S := (· = kK)) W9 ⟨kK, 0, none⟩ _ rfl).then_set ⟨kK, 1, none⟩ _ rfl).then_set ⟨kK, 2, none⟩ _ rfl |>.below (fun j hj => by rw [hj, hkK]; exact Nat.le_refl _) u9.size)
   have PX := Lib.hid (P8.out.step kx)
   obtain ⟨y0, y1, y2, f0, f1, f2, hz2⟩ := kz3_at GK9
   obtain ⟨o0, o1, o2, -⟩ := kz3_at PX.out.GO
   have CP := place_any h kK A3 n c3 L3 X1 HN3.out PX.out.HA.arr (by omega) GK1.out
   have HPL := Lib.hid (plc_le L3 h)
   rw [HN3.out] at HPL
   have HPC : Hid (plcC (cons L) h = plc L3 h) := Lib.hid (by rw [← HC3.out, plc_cons])
   clear u9 GK9 kx P8
   go_wp2_with fail
   refine CP.mono ?_
   rintro e X2 ⟨rfl, v2⟩
   have P2 := Lib.hid (PX.out.step v2)
   have K2 := Lib.hid (GK1.out.step v2)
   generalize plc L3 h = p at *
   have hpn : p ≤ n := HPL.out
   clear CP v2 y0 y1 y2 f0 f1 f2 hz2 o0 o1 o2 PX GK1 hX1 hW9 hkK W9 W8 HPL
   obtain ⟨o0, o1, o2, -⟩ := kz3_at P2.out.GO
   obtain ⟨y0, y1, y2, -⟩ := kz3_at K2.out
   go_upto_region 8 with fail
   by_cases hpl : p < n
   ·have d0 : decide ((p : Int) < (n : Int)) = true := by simp; omega
    have hpI : (p : Int) < (n : Int) := by omega
    have hkl : p < L3.length := by rw [HN3.out]; exact hpl
    obtain ⟨g, hg⟩ := P2.out.HA.some_of (by omega)
    subst hg
    obtain ⟨e0, e1, e2, e3, e4, e5, e6, e7, e8, -⟩ := rg_at P2.out.HA.row_of.2 hkl
    have HGD : Hid ((cons L).getD p (h, B) = con (ag L3 p)) := Lib.hid (by rw [← HC3.out, getD_cons hkl])
    have hso : Sok (con (ag L3 p)) := HOK.out _ (by rw [← HC3.out]; exact List.mem_map.2 ⟨_, ag_mem hkl, rfl⟩)
    have HRG : Hid (∀ V, PS w (.cells #[.int .i64 m, .slice A n c, .bool o] 28) (.cells #[.int .i64 h.a, .int .i64 h.o, .int .i64 h.t, .int .u32 h.i, .int .u32 h.v, .int .u32 h.q, .int .i64 h.s, .int .i64 h.n, .slice Ab mB d] 40) m (some ⟨g, 0, none⟩) n c3 o L3 kO V → ∃ b2 b3 b4, V.cell? ⟨g, p * 9, none⟩ = some (.int .i64 (ag L3 p).h.a) ∧ V.cell? ⟨g, p * 9 + 1, none⟩ = some (.int .i64 (ag L3 p).h.o) ∧ V.cell? ⟨g, p * 9 + 2, none⟩ = some (.int .i64 (ag L3 p).h.t) ∧ V.cell? ⟨g, p * 9 + 3, none⟩ = some (.int .u32 (ag L3 p).h.i) ∧ V.cell? ⟨g, p * 9 + 4, none⟩ = some (.int .u32 (ag L3 p).h.v) ∧ V.cell? ⟨g, p * 9 + 5, none⟩ = some (.int .u32 (ag L3 p).h.q) ∧ V.cell? ⟨g, p * 9 + 6, none⟩ = some (.int .i64 (ag L3 p).h.s) ∧ V.cell? ⟨g, p * 9 + 7, none⟩ = some (.int .i64 (ag L3 p).h.n) ∧ V.cell? ⟨g, p * 9 + 8, none⟩ = some (.slice b2 b3 b4) ∧ V.frozen? ⟨g, p * 9, none⟩ = false ∧ V.frozen? ⟨g, p * 9 + 1, none⟩ = false ∧ V.frozen? ⟨g, p * 9 + 2, none⟩ = false ∧ V.frozen? ⟨g, p * 9 + 3, none⟩ = false ∧ V.frozen? ⟨g, p * 9 + 4, none⟩ = false ∧ V.frozen? ⟨g, p * 9 + 5, none⟩ = false ∧ V.frozen? ⟨g, p * 9 + 6, none⟩ = false ∧ V.frozen? ⟨g, p * 9 + 7, none⟩ = false ∧ V.frozen? ⟨g, p * 9 + 8, none⟩ = false) := Lib.hid (fun V hV => ⟨_, _, _, rg_at hV.HA.row_of.2 hkl⟩)
    obtain ⟨b, hb⟩ : ∃ b, (ag L3 p).h = b := ⟨_, rfl⟩
    have HCB : Hid ((con (ag L3 p)).1 = b) := Lib.hid (by rw [con, hb])
    rw [hb] at e0 e1 e2 e3 e4 e5 e6 e7 HRG
    have hsq := hso.q
    have hsa := hso.a
    rw [HCB.out] at hsq hsa
    have hq := fun W => eqK W b.t b.i b.v h.t h.i h.v
    have hkq : kq h b = (decide (b.t = h.t) && (decide (b.i = h.i) && decide (b.v = h.v))) := rfl
    rw [← hkq] at hq
    have HKL2 := Lib.hid hkl
    clear hso hb hkl hkq
    refine wp_region_quiet_below (by kernel_rfl) (by kernel_rfl) ?_
    have gg0 := cell_regrown o0
    have gg1 := cell_regrown o1
    have gg2 := cell_regrown o2
    have gg3 := cell_regrown y0
    have gg4 := cell_regrown y1
    have gg5 := cell_regrown y2
    have gg6 := cell_regrown e0
    have gg7 := cell_regrown e1
    have gg8 := cell_regrown e2
    have gg9 := cell_regrown e3
    have gg10 := cell_regrown e4
    have gg11 := cell_regrown e5
    have gg12 := cell_regrown e6
    have gg13 := cell_regrown e7
    have gg14 := cell_regrown e8
    have zz0 : ∀ d os, _ := fun d os => Calls.regrown_of (w := X2) (d := d) (os := os) (key_any b _)
    repeat (first | go_big_quiet_step (with_reducible exact zz0 _ _) | go_big_quiet_step (fail) | go_big_quiet_skip)
    refine wpQuiet_nil ?_
    intro W9 hw'
    obtain ⟨⟨dq, osq⟩, hw''⟩ := hw'
    have hbz := below_regrown X2 dq osq
    rw [← hw''] at hbz
    clear hw'' gg0 gg1 gg2 gg3 gg4 gg5 gg6 gg7 gg8 gg9 gg10 gg11 gg12 gg13 gg14 zz0 
    have P3 := Lib.hid (P2.out.step hbz)
    have HI0 : Hid (plcC (cons L) h < (cons L).length) := Lib.hid (by rw [HPC.out, ← HC3.out, cons_length, HN3.out]; exact hpl)
    cases hk : kq h b with
    | false =>
     have HI : Hid (putR m (cons L) o (h, B) = if m ≤ (n : Int) then ⟨cons L3, true, 0, 8⟩ else ⟨(cons L).take p ++ (h, B) :: (cons L).drop p, o, 3, 0⟩) := Lib.hid (by
      rw [putR, if_neg (by rw [HW.out]; simp), if_neg (by rw [HRT.out]; simp), if_neg (by rw [HPC.out, HGD.out, HCB.out, hk]; simp), HPC.out, HC3.out, ← HC3.out, cons_length, HN3.out])
     clear hk o0 o1 o2 y0 y1 y2 e0 e1 e2 e3 e4 e5 e6 e7 e8 hq hsq hsa P2 K2 hbz
     obtain ⟨o0, o1, o2, -⟩ := kz3_at P3.out.GO
     by_cases hm : m ≤ (n : Int)
     ·have d0 : decide ((n : Int) ≥ m) = true := by simpa using hm
      have HR : Hid (putR m (cons L) o (h, B) = ⟨cons L3, true, 0, 8⟩) := Lib.hid (by rw [HI.out, if_pos hm])
      obtain ⟨-, -, -, q0, q1, q2, hql⟩ := kz3_at P3.out.GO
      have PT := Lib.hid (P3.out.setO true)
      obtain ⟨V9, hV9⟩ : ∃ V9, W9.setCell ⟨kO, 2, none⟩ (.bool true) = V9 := ⟨_, rfl⟩
      rw [hV9] at PT
      clear HI
      go_upto_region 15 with fail
      clear o0 o1 o2 q0 q1 q2 hql hV9
      obtain ⟨o0, o1, o2, -⟩ := kz3_at PT.out.GO
      obtain ⟨z0, z1, z2, g0, g1, g2, hzl⟩ := kz3_at PT.out.GC
      go_wp2
      obtain ⟨r0, r1, r2⟩ := kz3_get PT.out.GC (Value.int .i64 m) (.slice (some ⟨g, 0, none⟩) n c3) (.bool true)
      refine bodyPost_ret (v := .tuple #[.agg #[.int .i64 m, .slice (some ⟨g, 0, none⟩) n c3, .bool true], .int .i64 0, .int .i64 8]) (by simp [results, Tryz.results25, go_sem, r0, r1, r2]) rfl (PP.mk PT.out HN3.out HR.out)
     ·have d0 : decide ((n : Int) ≥ m) = false := by simpa using hm
      have HR0 : Hid (putR m (cons L) o (h, B) = ⟨(cons L).take p ++ (h, B) :: (cons L).drop p, o, 3, 0⟩) := Lib.hid (by rw [HI.out, if_neg hm])
      go_upto_region 16 with fail
      clear o0 o1 o2 HI
      have KS : Hid (∀ V, Below W9.heap.size W9 V → V.cell? ⟨(w.heap.size + 1), 0, none⟩ = some (.int .i64 h.a) ∧ V.cell? ⟨(w.heap.size + 1), 1, none⟩ = some (.int .i64 h.o) ∧ V.cell? ⟨(w.heap.size + 1), 2, none⟩ = some (.int .i64 h.t) ∧ V.cell? ⟨(w.heap.size + 1), 3, none⟩ = some (.int .u32 h.i) ∧ V.cell? ⟨(w.heap.size + 1), 4, none⟩ = some (.int .u32 h.v) ∧ V.cell? ⟨(w.heap.size + 1), 5, none⟩ = some (.int .u32 h.q) ∧ V.cell? ⟨(w.heap.size + 1), 6, none⟩ = some (.int .i64 h.s) ∧ V.cell? ⟨(w.heap.size + 1), 7, none⟩ = some (.int .i64 h.n) ∧ V.cell? ⟨(w.heap.size + 1), 8, none⟩ = some (.slice Ab mB d)) := Lib.hid (fun V hV => by
       obtain ⟨q0, q1, q2, q3, q4, q5, q6, q7, q8, -⟩ := kz9_at (P3.out.GB.step hV)
       exact ⟨q0, q1, q2, q3, q4, q5, q6, q7, q8⟩)
      have tt : Below W9.heap.size W9 W9 := Below.refl _ _
      have go0 := P3.out.GO
      refine wp_region_held_drew (S := fun V => V.cell? ⟨(w.heap.size + 1), 0, none⟩ = some (.int .i64 h.a) ∧ V.cell? ⟨(w.heap.size + 1), 1, none⟩ = some (.int .i64 h.o) ∧ V.cell? ⟨(w.heap.size + 1), 2, none⟩ = some (.int .i64 h.t) ∧ V.cell? ⟨(w.heap.size + 1), 3, none⟩ = some (.int .u32 h.i) ∧ V.cell? ⟨(w.heap.size + 1), 4, none⟩ = some (.int .u32 h.v) ∧ V.cell? ⟨(w.heap.size + 1), 5, none⟩ = some (.int .u32 h.q) ∧ V.cell? ⟨(w.heap.size + 1), 6, none⟩ = some (.int .i64 h.s) ∧ V.cell? ⟨(w.heap.size + 1), 7, none⟩ = some (.int .i64 h.n) ∧ V.cell? ⟨(w.heap.size + 1), 8, none⟩ = some (.slice Ab mB d)) (by kernel_rfl) (KS.out _ tt.drew) (fun hHeld => ?_)
      replace go0 := go0.step tt.drew
      replace tt : Below W9.heap.size W9 W9.drew := tt.drew
      generalize hX0 : W9.drew = U0 at tt go0 hHeld ⊢
      clear hX0
      refine wpAnyH_take (i := 0) (v := ?_) rfl (by kernel_rfl) (by kernel_rfl) (by kernel_rfl) (fun _ _ _ h => h) (Or.inl ⟨by rfl, ?_⟩) (by assumption) ?_
      rotate_left
      ·(intro w' hSw; (try dsimp only at hSw); go_simp; try with_reducible rfl)
      simp only [Act.put, getElem_toArray, getElem_cons_zero, setIfInBounds_toArray, set_cons_zero, set_cons_succ]
      refine wpAnyH_take (i := 2) (v := ?_) rfl (by kernel_rfl) (by kernel_rfl) (by kernel_rfl) (fun _ _ _ h => h) (Or.inl ⟨by rfl, ?_⟩) (by assumption) ?_
      rotate_left
      ·(intro w' hSw; (try dsimp only at hSw); go_simp; try with_reducible rfl)
      simp only [Act.put, getElem_toArray, getElem_cons_zero, getElem_cons_succ, setIfInBounds_toArray, set_cons_zero, set_cons_succ]
      refine wpAnyH_take (i := 3) (v := ?_) rfl (by kernel_rfl) (by kernel_rfl) (by kernel_rfl) (fun _ _ _ h => h) (Or.inl ⟨by rfl, ?_⟩) (by assumption) ?_
      rotate_left
      ·(intro w' hSw; (try dsimp only at hSw); go_simp; try with_reducible rfl)
      simp only [Act.put, getElem_toArray, getElem_cons_zero, getElem_cons_succ, setIfInBounds_toArray, set_cons_zero, set_cons_succ]
      refine wpAnyH_ready (rs := [1, 4]) (by kernel_rfl) (by simp) ?_
      refine AllReadyH.cons rfl (fun K hK => ?_) ?_
      ·obtain ⟨j0, j1, j2, q0, q1, q2, hjl⟩ := kz3_at go0
       go_simp
       clear j0 j1 j2 q0 q1 q2 hjl
       refine hK.out _ _ (KS.out _ tt) (fun _ => ?_)
       clear hK K
       refine wpAnyH_ready (rs := [4]) (by kernel_rfl) (by simp) ?_
       refine AllReadyH.cons rfl (fun K hK => ?_) AllReadyH.nil
       go_simp
       go_at_call 42
       refine (fad_any h Ab mB d B U0 HMB.out (HBB.out.step (P3.out.HB.trans (tt.mono P3.out.HB.size))) (by omega)).mono ?_
       rintro e Y1 ⟨A8, c8, rfl, o8, u1⟩
       have t_Y1 : Below W9.heap.size W9 Y1 := tt.trans (u1.mono tt.size)
       replace go0 := go0.step u1
       have O8 := Lib.hid o8
       clear o8
       have b8 : Bu Y1 ⟨h, A8, c8, B⟩ := Bu.of_own (x := ⟨h, A8, c8, B⟩) O8.out
       refine hK.out _ _ (KS.out _ t_Y1) (fun _ => ?_)
       clear hK K
       refine wpAnyH_ready (rs := [5]) (by kernel_rfl) (by simp) ?_
       refine AllReadyH.cons rfl (fun K hK => ?_) AllReadyH.nil
       go_simp
       obtain ⟨Y2, hY2⟩ : ∃ V, Y1.alloc (.cells #[Value.int .i64 h.a, .int .i64 h.o, .int .i64 h.t, .int .u32 h.i, .int .u32 h.v, .int .u32 h.q, .int .i64 h.s, .int .i64 h.n, .slice A8 mB c8] 40) = V := ⟨_, rfl⟩
       have u2 : Below Y1.heap.size Y1 Y2 := by rw [← hY2]; exact below_alloc1 _ _
       have t_Y2 : Below W9.heap.size W9 Y2 := t_Y1.trans (u2.mono t_Y1.size)
       replace go0 := go0.step u2
       replace b8 := b8.step u2
       obtain ⟨k2, hk2⟩ : ∃ k, Y1.heap.size = k := ⟨_, rfl⟩
       have gv : Bk Y2 k2 (.cells (acs ⟨h, A8, c8, B⟩).toArray 40) := by rw [← hk2, ← hY2, show (acs ⟨h, A8, c8, B⟩).toArray = #[.int .i64 h.a, .int .i64 h.o, .int .i64 h.t, .int .u32 h.i, .int .u32 h.v, .int .u32 h.q, .int .i64 h.s, .int .i64 h.n, .slice A8 mB c8] from by simp [acs, HMB.out]]; exact alloc_at _ _ _ rfl
       have hkv : w.heap.size + 3 ≤ k2 ∧ ¬ ((some ⟨g, 0, none⟩) : Option Addr) = some ⟨k2, 0, none⟩ := ⟨by have h1 := P3.out.GO.lt; have h2 := P3.out.HK; have h3 := t_Y1.size; omega, fun e => by obtain ⟨cur, mm, hq⟩ := (P3.out.HA.step t_Y1).row.typed e; have := lt_of_block hq; omega⟩
       try rw [hY2]
       try rw [hk2]
       refine hK.out _ _ (KS.out _ t_Y2) (fun _ => ?_)
       clear hK K
       refine wpAnyH_ready (rs := [6]) (by kernel_rfl) (by simp) ?_
       refine AllReadyH.cons rfl (fun K hK => ?_) AllReadyH.nil
       go_simp
       go_at_call 53
       refine (insert_any (base := w.heap.size + 3) (some ⟨g, 0, none⟩) n c3 p k2 L3 ⟨h, A8, c8, B⟩ Y2 (P3.out.HA.step t_Y2) (by have h1 := P3.out.GO.lt; have h2 := P3.out.HK; have h3 := t_Y2.size; omega) HN3.out hpn (by omega) b8 gv hkv.2).mono ?_
       rintro e Z9 ⟨A9, c9, rfl, ha9, kp9, -⟩
       have PQ9 := Lib.hid ((P3.out.step t_Y2).kq kp9)
       have HA9 := Lib.hid ha9
       have KF : Hid (Z9.cell? ⟨(w.heap.size + 1), 0, none⟩ = some (.int .i64 h.a) ∧ Z9.cell? ⟨(w.heap.size + 1), 1, none⟩ = some (.int .i64 h.o) ∧ Z9.cell? ⟨(w.heap.size + 1), 2, none⟩ = some (.int .i64 h.t) ∧ Z9.cell? ⟨(w.heap.size + 1), 3, none⟩ = some (.int .u32 h.i) ∧ Z9.cell? ⟨(w.heap.size + 1), 4, none⟩ = some (.int .u32 h.v) ∧ Z9.cell? ⟨(w.heap.size + 1), 5, none⟩ = some (.int .u32 h.q) ∧ Z9.cell? ⟨(w.heap.size + 1), 6, none⟩ = some (.int .i64 h.s) ∧ Z9.cell? ⟨(w.heap.size + 1), 7, none⟩ = some (.int .i64 h.n) ∧ Z9.cell? ⟨(w.heap.size + 1), 8, none⟩ = some (.slice Ab mB d)) := Lib.hid (by obtain ⟨q0, q1, q2, q3, q4, q5, q6, q7, q8, -⟩ := kz9_at PQ9.out.GB; exact ⟨q0, q1, q2, q3, q4, q5, q6, q7, q8⟩)
       clear ha9 kp9 b8 gv hkv
       refine hK.out _ _ KF.out (fun _ => ?_)
       clear hK K
       refine wpAnyH_take (i := 7) (v := ?_) rfl (by kernel_rfl) (by kernel_rfl) (by kernel_rfl) (fun _ _ _ h => h) (Or.inl ⟨by rfl, ?_⟩) (by assumption) ?_
       rotate_left
       ·(intro w' hSw; (try dsimp only at hSw); go_simp; try with_reducible rfl)
       simp only [Act.put, getElem_toArray, getElem_cons_zero, getElem_cons_succ, setIfInBounds_toArray, set_cons_zero, set_cons_succ]
       refine wpAnyH_ready (rs := [8]) (by kernel_rfl) (by simp) ?_
       refine AllReadyH.cons rfl (fun K hK => ?_) AllReadyH.nil
       obtain ⟨y0, y1, y2, f0, f1, f2, hzl⟩ := kz3_at PQ9.out.GO
       go_simp
       have PX9 := Lib.hid (PQ9.out.setL (n4 := n + 1) HA9.out)
       have KG : Hid ((Z9.setCell ⟨kO, 1, none⟩ (.slice A9 (n + 1) c9)).cell? ⟨(w.heap.size + 1), 0, none⟩ = some (.int .i64 h.a) ∧ (Z9.setCell ⟨kO, 1, none⟩ (.slice A9 (n + 1) c9)).cell? ⟨(w.heap.size + 1), 1, none⟩ = some (.int .i64 h.o) ∧ (Z9.setCell ⟨kO, 1, none⟩ (.slice A9 (n + 1) c9)).cell? ⟨(w.heap.size + 1), 2, none⟩ = some (.int .i64 h.t) ∧ (Z9.setCell ⟨kO, 1, none⟩ (.slice A9 (n + 1) c9)).cell? ⟨(w.heap.size + 1), 3, none⟩ = some (.int .u32 h.i) ∧ (Z9.setCell ⟨kO, 1, none⟩ (.slice A9 (n + 1) c9)).cell? ⟨(w.heap.size + 1), 4, none⟩ = some (.int .u32 h.v) ∧ (Z9.setCell ⟨kO, 1, none⟩ (.slice A9 (n + 1) c9)).cell? ⟨(w.heap.size + 1), 5, none⟩ = some (.int .u32 h.q) ∧ (Z9.setCell ⟨kO, 1, none⟩ (.slice A9 (n + 1) c9)).cell? ⟨(w.heap.size + 1), 6, none⟩ = some (.int .i64 h.s) ∧ (Z9.setCell ⟨kO, 1, none⟩ (.slice A9 (n + 1) c9)).cell? ⟨(w.heap.size + 1), 7, none⟩ = some (.int .i64 h.n) ∧ (Z9.setCell ⟨kO, 1, none⟩ (.slice A9 (n + 1) c9)).cell? ⟨(w.heap.size + 1), 8, none⟩ = some (.slice Ab mB d)) := Lib.hid (by obtain ⟨q0, q1, q2, q3, q4, q5, q6, q7, q8, -⟩ := kz9_at PX9.out.GB; exact ⟨q0, q1, q2, q3, q4, q5, q6, q7, q8⟩)
       refine hK.out _ _ KG.out (fun _ => ?_)
       clear hK K
       refine wpAnyH_done (by kernel_rfl) ?_ _
       obtain ⟨ZX, hZX⟩ : ∃ V9, Z9.setCell ⟨kO, 1, none⟩ (.slice A9 (n + 1) c9) = V9 := ⟨_, rfl⟩
       have HR : Hid (putR m (cons L) o (h, B) = ⟨cons (insA L3 p ⟨h, A8, c8, B⟩), o, 3, 0⟩) := Lib.hid (by rw [HR0.out, cons_insA, HC3.out]; rfl)
       have HNN : Hid ((insA L3 p ⟨h, A8, c8, B⟩).length = n + 1) := Lib.hid (by rw [insA_length (by rw [HN3.out]; exact hpn), HN3.out])
       rw [hZX] at PX9 ⊢
       clear y0 y1 y2 f0 f1 f2 hzl hZX KG KF PQ9 HA9 KS
       obtain ⟨o0, o1, o2, -⟩ := kz3_at PX9.out.GO
       obtain ⟨z0, z1, z2, g0, g1, g2, hzl⟩ := kz3_at PX9.out.GC
       go_wp2
       obtain ⟨r0, r1, r2⟩ := kz3_get PX9.out.GC (Value.int .i64 m) (.slice A9 (n + 1) c9) (.bool o)
       refine bodyPost_ret (v := .tuple #[.agg #[.int .i64 m, .slice A9 (n + 1) c9, .bool o], .int .i64 3, .int .i64 0]) (by simp [results, Tryz.results25, go_sem, r0, r1, r2]) rfl (PP.mk PX9.out HNN.out HR.out)
      refine AllReadyH.cons rfl (fun K hK => ?_) AllReadyH.nil
      go_simp
      go_at_call 42
      refine (fad_any h Ab mB d B U0 HMB.out (HBB.out.step (P3.out.HB.trans (tt.mono P3.out.HB.size))) (by omega)).mono ?_
      rintro e Y1 ⟨A8, c8, rfl, o8, u1⟩
      have t_Y1 : Below W9.heap.size W9 Y1 := tt.trans (u1.mono tt.size)
      replace go0 := go0.step u1
      have O8 := Lib.hid o8
      clear o8
      have b8 : Bu Y1 ⟨h, A8, c8, B⟩ := Bu.of_own (x := ⟨h, A8, c8, B⟩) O8.out
      refine hK.out _ _ (KS.out _ t_Y1) (fun _ => ?_)
      clear hK K
      refine wpAnyH_ready (rs := [1, 5]) (by kernel_rfl) (by simp) ?_
      refine AllReadyH.cons rfl (fun K hK => ?_) ?_
      ·obtain ⟨j0, j1, j2, q0, q1, q2, hjl⟩ := kz3_at go0
       go_simp
       clear j0 j1 j2 q0 q1 q2 hjl
       refine hK.out _ _ (KS.out _ t_Y1) (fun _ => ?_)
       clear hK K
       refine wpAnyH_ready (rs := [5]) (by kernel_rfl) (by simp) ?_
       refine AllReadyH.cons rfl (fun K hK => ?_) AllReadyH.nil
       go_simp
       obtain ⟨Y2, hY2⟩ : ∃ V, Y1.alloc (.cells #[Value.int .i64 h.a, .int .i64 h.o, .int .i64 h.t, .int .u32 h.i, .int .u32 h.v, .int .u32 h.q, .int .i64 h.s, .int .i64 h.n, .slice A8 mB c8] 40) = V := ⟨_, rfl⟩
       have u2 : Below Y1.heap.size Y1 Y2 := by rw [← hY2]; exact below_alloc1 _ _
       have t_Y2 : Below W9.heap.size W9 Y2 := t_Y1.trans (u2.mono t_Y1.size)
       replace go0 := go0.step u2
       replace b8 := b8.step u2
       obtain ⟨k2, hk2⟩ : ∃ k, Y1.heap.size = k := ⟨_, rfl⟩
       have gv : Bk Y2 k2 (.cells (acs ⟨h, A8, c8, B⟩).toArray 40) := by rw [← hk2, ← hY2, show (acs ⟨h, A8, c8, B⟩).toArray = #[.int .i64 h.a, .int .i64 h.o, .int .i64 h.t, .int .u32 h.i, .int .u32 h.v, .int .u32 h.q, .int .i64 h.s, .int .i64 h.n, .slice A8 mB c8] from by simp [acs, HMB.out]]; exact alloc_at _ _ _ rfl
       have hkv : w.heap.size + 3 ≤ k2 ∧ ¬ ((some ⟨g, 0, none⟩) : Option Addr) = some ⟨k2, 0, none⟩ := ⟨by have h1 := P3.out.GO.lt; have h2 := P3.out.HK; have h3 := t_Y1.size; omega, fun e => by obtain ⟨cur, mm, hq⟩ := (P3.out.HA.step t_Y1).row.typed e; have := lt_of_block hq; omega⟩
       try rw [hY2]
       try rw [hk2]
       refine hK.out _ _ (KS.out _ t_Y2) (fun _ => ?_)
       clear hK K
       refine wpAnyH_ready (rs := [6]) (by kernel_rfl) (by simp) ?_
       refine AllReadyH.cons rfl (fun K hK => ?_) AllReadyH.nil
       go_simp
       go_at_call 53
       refine (insert_any (base := w.heap.size + 3) (some ⟨g, 0, none⟩) n c3 p k2 L3 ⟨h, A8, c8, B⟩ Y2 (P3.out.HA.step t_Y2) (by have h1 := P3.out.GO.lt; have h2 := P3.out.HK; have h3 := t_Y2.size; omega) HN3.out hpn (by omega) b8 gv hkv.2).mono ?_
       rintro e Z9 ⟨A9, c9, rfl, ha9, kp9, -⟩
       have PQ9 := Lib.hid ((P3.out.step t_Y2).kq kp9)
       have HA9 := Lib.hid ha9
       have KF : Hid (Z9.cell? ⟨(w.heap.size + 1), 0, none⟩ = some (.int .i64 h.a) ∧ Z9.cell? ⟨(w.heap.size + 1), 1, none⟩ = some (.int .i64 h.o) ∧ Z9.cell? ⟨(w.heap.size + 1), 2, none⟩ = some (.int .i64 h.t) ∧ Z9.cell? ⟨(w.heap.size + 1), 3, none⟩ = some (.int .u32 h.i) ∧ Z9.cell? ⟨(w.heap.size + 1), 4, none⟩ = some (.int .u32 h.v) ∧ Z9.cell? ⟨(w.heap.size + 1), 5, none⟩ = some (.int .u32 h.q) ∧ Z9.cell? ⟨(w.heap.size + 1), 6, none⟩ = some (.int .i64 h.s) ∧ Z9.cell? ⟨(w.heap.size + 1), 7, none⟩ = some (.int .i64 h.n) ∧ Z9.cell? ⟨(w.heap.size + 1), 8, none⟩ = some (.slice Ab mB d)) := Lib.hid (by obtain ⟨q0, q1, q2, q3, q4, q5, q6, q7, q8, -⟩ := kz9_at PQ9.out.GB; exact ⟨q0, q1, q2, q3, q4, q5, q6, q7, q8⟩)
       clear ha9 kp9 b8 gv hkv
       refine hK.out _ _ KF.out (fun _ => ?_)
       clear hK K
       refine wpAnyH_take (i := 7) (v := ?_) rfl (by kernel_rfl) (by kernel_rfl) (by kernel_rfl) (fun _ _ _ h => h) (Or.inl ⟨by rfl, ?_⟩) (by assumption) ?_
       rotate_left
       ·(intro w' hSw; (try dsimp only at hSw); go_simp; try with_reducible rfl)
       simp only [Act.put, getElem_toArray, getElem_cons_zero, getElem_cons_succ, setIfInBounds_toArray, set_cons_zero, set_cons_succ]
       refine wpAnyH_ready (rs := [8]) (by kernel_rfl) (by simp) ?_
       refine AllReadyH.cons rfl (fun K hK => ?_) AllReadyH.nil
       obtain ⟨y0, y1, y2, f0, f1, f2, hzl⟩ := kz3_at PQ9.out.GO
       go_simp
       have PX9 := Lib.hid (PQ9.out.setL (n4 := n + 1) HA9.out)
       have KG : Hid ((Z9.setCell ⟨kO, 1, none⟩ (.slice A9 (n + 1) c9)).cell? ⟨(w.heap.size + 1), 0, none⟩ = some (.int .i64 h.a) ∧ (Z9.setCell ⟨kO, 1, none⟩ (.slice A9 (n + 1) c9)).cell? ⟨(w.heap.size + 1), 1, none⟩ = some (.int .i64 h.o) ∧ (Z9.setCell ⟨kO, 1, none⟩ (.slice A9 (n + 1) c9)).cell? ⟨(w.heap.size + 1), 2, none⟩ = some (.int .i64 h.t) ∧ (Z9.setCell ⟨kO, 1, none⟩ (.slice A9 (n + 1) c9)).cell? ⟨(w.heap.size + 1), 3, none⟩ = some (.int .u32 h.i) ∧ (Z9.setCell ⟨kO, 1, none⟩ (.slice A9 (n + 1) c9)).cell? ⟨(w.heap.size + 1), 4, none⟩ = some (.int .u32 h.v) ∧ (Z9.setCell ⟨kO, 1, none⟩ (.slice A9 (n + 1) c9)).cell? ⟨(w.heap.size + 1), 5, none⟩ = some (.int .u32 h.q) ∧ (Z9.setCell ⟨kO, 1, none⟩ (.slice A9 (n + 1) c9)).cell? ⟨(w.heap.size + 1), 6, none⟩ = some (.int .i64 h.s) ∧ (Z9.setCell ⟨kO, 1, none⟩ (.slice A9 (n + 1) c9)).cell? ⟨(w.heap.size + 1), 7, none⟩ = some (.int .i64 h.n) ∧ (Z9.setCell ⟨kO, 1, none⟩ (.slice A9 (n + 1) c9)).cell? ⟨(w.heap.size + 1), 8, none⟩ = some (.slice Ab mB d)) := Lib.hid (by obtain ⟨q0, q1, q2, q3, q4, q5, q6, q7, q8, -⟩ := kz9_at PX9.out.GB; exact ⟨q0, q1, q2, q3, q4, q5, q6, q7, q8⟩)
       refine hK.out _ _ KG.out (fun _ => ?_)
       clear hK K
       refine wpAnyH_done (by kernel_rfl) ?_ _
       obtain ⟨ZX, hZX⟩ : ∃ V9, Z9.setCell ⟨kO, 1, none⟩ (.slice A9 (n + 1) c9) = V9 := ⟨_, rfl⟩
       have HR : Hid (putR m (cons L) o (h, B) = ⟨cons (insA L3 p ⟨h, A8, c8, B⟩), o, 3, 0⟩) := Lib.hid (by rw [HR0.out, cons_insA, HC3.out]; rfl)
       have HNN : Hid ((insA L3 p ⟨h, A8, c8, B⟩).length = n + 1) := Lib.hid (by rw [insA_length (by rw [HN3.out]; exact hpn), HN3.out])
       rw [hZX] at PX9 ⊢
       clear y0 y1 y2 f0 f1 f2 hzl hZX KG KF PQ9 HA9 KS
       obtain ⟨o0, o1, o2, -⟩ := kz3_at PX9.out.GO
       obtain ⟨z0, z1, z2, g0, g1, g2, hzl⟩ := kz3_at PX9.out.GC
       go_wp2
       obtain ⟨r0, r1, r2⟩ := kz3_get PX9.out.GC (Value.int .i64 m) (.slice A9 (n + 1) c9) (.bool o)
       refine bodyPost_ret (v := .tuple #[.agg #[.int .i64 m, .slice A9 (n + 1) c9, .bool o], .int .i64 3, .int .i64 0]) (by simp [results, Tryz.results25, go_sem, r0, r1, r2]) rfl (PP.mk PX9.out HNN.out HR.out)
      refine AllReadyH.cons rfl (fun K hK => ?_) AllReadyH.nil
      go_simp
      obtain ⟨Y2, hY2⟩ : ∃ V, Y1.alloc (.cells #[Value.int .i64 h.a, .int .i64 h.o, .int .i64 h.t, .int .u32 h.i, .int .u32 h.v, .int .u32 h.q, .int .i64 h.s, .int .i64 h.n, .slice A8 mB c8] 40) = V := ⟨_, rfl⟩
      have u2 : Below Y1.heap.size Y1 Y2 := by rw [← hY2]; exact below_alloc1 _ _
      have t_Y2 : Below W9.heap.size W9 Y2 := t_Y1.trans (u2.mono t_Y1.size)
      replace go0 := go0.step u2
      replace b8 := b8.step u2
      obtain ⟨k2, hk2⟩ : ∃ k, Y1.heap.size = k := ⟨_, rfl⟩
      have gv : Bk Y2 k2 (.cells (acs ⟨h, A8, c8, B⟩).toArray 40) := by rw [← hk2, ← hY2, show (acs ⟨h, A8, c8, B⟩).toArray = #[.int .i64 h.a, .int .i64 h.o, .int .i64 h.t, .int .u32 h.i, .int .u32 h.v, .int .u32 h.q, .int .i64 h.s, .int .i64 h.n, .slice A8 mB c8] from by simp [acs, HMB.out]]; exact alloc_at _ _ _ rfl
      have hkv : w.heap.size + 3 ≤ k2 ∧ ¬ ((some ⟨g, 0, none⟩) : Option Addr) = some ⟨k2, 0, none⟩ := ⟨by have h1 := P3.out.GO.lt; have h2 := P3.out.HK; have h3 := t_Y1.size; omega, fun e => by obtain ⟨cur, mm, hq⟩ := (P3.out.HA.step t_Y1).row.typed e; have := lt_of_block hq; omega⟩
      try rw [hY2]
      try rw [hk2]
      refine hK.out _ _ (KS.out _ t_Y2) (fun _ => ?_)
      clear hK K
      refine wpAnyH_ready (rs := [1]) (by kernel_rfl) (by simp) ?_
      refine AllReadyH.cons rfl (fun K hK => ?_) AllReadyH.nil
      obtain ⟨j0, j1, j2, q0, q1, q2, hjl⟩ := kz3_at go0
      go_simp
      clear j0 j1 j2 q0 q1 q2 hjl
      refine hK.out _ _ (KS.out _ t_Y2) (fun _ => ?_)
      clear hK K
      refine wpAnyH_ready (rs := [6]) (by kernel_rfl) (by simp) ?_
      refine AllReadyH.cons rfl (fun K hK => ?_) AllReadyH.nil
      go_simp
      go_at_call 53
      refine (insert_any (base := w.heap.size + 3) (some ⟨g, 0, none⟩) n c3 p k2 L3 ⟨h, A8, c8, B⟩ Y2 (P3.out.HA.step t_Y2) (by have h1 := P3.out.GO.lt; have h2 := P3.out.HK; have h3 := t_Y2.size; omega) HN3.out hpn (by omega) b8 gv hkv.2).mono ?_
      rintro e Z9 ⟨A9, c9, rfl, ha9, kp9, -⟩
      have PQ9 := Lib.hid ((P3.out.step t_Y2).kq kp9)
      have HA9 := Lib.hid ha9
      have KF : Hid (Z9.cell? ⟨(w.heap.size + 1), 0, none⟩ = some (.int .i64 h.a) ∧ Z9.cell? ⟨(w.heap.size + 1), 1, none⟩ = some (.int .i64 h.o) ∧ Z9.cell? ⟨(w.heap.size + 1), 2, none⟩ = some (.int .i64 h.t) ∧ Z9.cell? ⟨(w.heap.size + 1), 3, none⟩ = some (.int .u32 h.i) ∧ Z9.cell? ⟨(w.heap.size + 1), 4, none⟩ = some (.int .u32 h.v) ∧ Z9.cell? ⟨(w.heap.size + 1), 5, none⟩ = some (.int .u32 h.q) ∧ Z9.cell? ⟨(w.heap.size + 1), 6, none⟩ = some (.int .i64 h.s) ∧ Z9.cell? ⟨(w.heap.size + 1), 7, none⟩ = some (.int .i64 h.n) ∧ Z9.cell? ⟨(w.heap.size + 1), 8, none⟩ = some (.slice Ab mB d)) := Lib.hid (by obtain ⟨q0, q1, q2, q3, q4, q5, q6, q7, q8, -⟩ := kz9_at PQ9.out.GB; exact ⟨q0, q1, q2, q3, q4, q5, q6, q7, q8⟩)
      clear ha9 kp9 b8 gv hkv
      refine hK.out _ _ KF.out (fun _ => ?_)
      clear hK K
      refine wpAnyH_take (i := 7) (v := ?_) rfl (by kernel_rfl) (by kernel_rfl) (by kernel_rfl) (fun _ _ _ h => h) (Or.inl ⟨by rfl, ?_⟩) (by assumption) ?_
      rotate_left
      ·(intro w' hSw; (try dsimp only at hSw); go_simp; try with_reducible rfl)
      simp only [Act.put, getElem_toArray, getElem_cons_zero, getElem_cons_succ, setIfInBounds_toArray, set_cons_zero, set_cons_succ]
      refine wpAnyH_ready (rs := [8]) (by kernel_rfl) (by simp) ?_
      refine AllReadyH.cons rfl (fun K hK => ?_) AllReadyH.nil
      obtain ⟨y0, y1, y2, f0, f1, f2, hzl⟩ := kz3_at PQ9.out.GO
      go_simp
      have PX9 := Lib.hid (PQ9.out.setL (n4 := n + 1) HA9.out)
      have KG : Hid ((Z9.setCell ⟨kO, 1, none⟩ (.slice A9 (n + 1) c9)).cell? ⟨(w.heap.size + 1), 0, none⟩ = some (.int .i64 h.a) ∧ (Z9.setCell ⟨kO, 1, none⟩ (.slice A9 (n + 1) c9)).cell? ⟨(w.heap.size + 1), 1, none⟩ = some (.int .i64 h.o) ∧ (Z9.setCell ⟨kO, 1, none⟩ (.slice A9 (n + 1) c9)).cell? ⟨(w.heap.size + 1), 2, none⟩ = some (.int .i64 h.t) ∧ (Z9.setCell ⟨kO, 1, none⟩ (.slice A9 (n + 1) c9)).cell? ⟨(w.heap.size + 1), 3, none⟩ = some (.int .u32 h.i) ∧ (Z9.setCell ⟨kO, 1, none⟩ (.slice A9 (n + 1) c9)).cell? ⟨(w.heap.size + 1), 4, none⟩ = some (.int .u32 h.v) ∧ (Z9.setCell ⟨kO, 1, none⟩ (.slice A9 (n + 1) c9)).cell? ⟨(w.heap.size + 1), 5, none⟩ = some (.int .u32 h.q) ∧ (Z9.setCell ⟨kO, 1, none⟩ (.slice A9 (n + 1) c9)).cell? ⟨(w.heap.size + 1), 6, none⟩ = some (.int .i64 h.s) ∧ (Z9.setCell ⟨kO, 1, none⟩ (.slice A9 (n + 1) c9)).cell? ⟨(w.heap.size + 1), 7, none⟩ = some (.int .i64 h.n) ∧ (Z9.setCell ⟨kO, 1, none⟩ (.slice A9 (n + 1) c9)).cell? ⟨(w.heap.size + 1), 8, none⟩ = some (.slice Ab mB d)) := Lib.hid (by obtain ⟨q0, q1, q2, q3, q4, q5, q6, q7, q8, -⟩ := kz9_at PX9.out.GB; exact ⟨q0, q1, q2, q3, q4, q5, q6, q7, q8⟩)
      refine hK.out _ _ KG.out (fun _ => ?_)
      clear hK K
      refine wpAnyH_done (by kernel_rfl) ?_ _
      obtain ⟨ZX, hZX⟩ : ∃ V9, Z9.setCell ⟨kO, 1, none⟩ (.slice A9 (n + 1) c9) = V9 := ⟨_, rfl⟩
      have HR : Hid (putR m (cons L) o (h, B) = ⟨cons (insA L3 p ⟨h, A8, c8, B⟩), o, 3, 0⟩) := Lib.hid (by rw [HR0.out, cons_insA, HC3.out]; rfl)
      have HNN : Hid ((insA L3 p ⟨h, A8, c8, B⟩).length = n + 1) := Lib.hid (by rw [insA_length (by rw [HN3.out]; exact hpn), HN3.out])
      rw [hZX] at PX9 ⊢
      clear y0 y1 y2 f0 f1 f2 hzl hZX KG KF PQ9 HA9 KS
      obtain ⟨o0, o1, o2, -⟩ := kz3_at PX9.out.GO
      obtain ⟨z0, z1, z2, g0, g1, g2, hzl⟩ := kz3_at PX9.out.GC
      go_wp2
      obtain ⟨r0, r1, r2⟩ := kz3_get PX9.out.GC (Value.int .i64 m) (.slice A9 (n + 1) c9) (.bool o)
      refine bodyPost_ret (v := .tuple #[.agg #[.int .i64 m, .slice A9 (n + 1) c9, .bool o], .int .i64 3, .int .i64 0]) (by simp [results, Tryz.results25, go_sem, r0, r1, r2]) rfl (PP.mk PX9.out HNN.out HR.out)
    | true =>
     have hma := ((mayd_iff h).1 (whl_iff HW.out).1).1
     have CB := fun V => beside_any h b V HOD.out.q hsq hma hsa
     have HU : Hid (putR m (cons L) o (h, B) = if cmpH h b = 1 then ⟨(cons L).set p (h, B), o, 2, 0⟩ else ⟨cons L3, o, cmpH h b + 1, 0⟩) := Lib.hid (by
      rw [putR, if_neg (by rw [HW.out]; simp), if_neg (by rw [HRT.out]; simp), if_pos ⟨HI0.out, by rw [HPC.out, HGD.out, HCB.out]; exact hk⟩, HPC.out, HGD.out, HCB.out, HC3.out])
     clear hk o0 o1 o2 y0 y1 y2 e0 e1 e2 e3 e4 e5 e6 e7 e8 hq hsq hsa P2 K2 hbz
     obtain ⟨o0, o1, o2, -⟩ := kz3_at P3.out.GO
     obtain ⟨a0, a1, a2, a3, a4, a5, a6, a7, a8, -⟩ := kz9_at P3.out.GB
     obtain ⟨b2, b3, b4, e0, e1, e2, e3, e4, e5, e6, e7, e8, -⟩ := HRG.out _ P3.out
     generalize W9 = X4 at *
     generalize cmpH h b = r at *
     go_upto_region 9 with fail
     refine wp_region_quiet_below (by kernel_rfl) (by kernel_rfl) ?_
     have gg0 := cell_regrown o0
     have gg1 := cell_regrown o1
     have gg2 := cell_regrown o2
     have gg3 := cell_regrown a0
     have gg4 := cell_regrown a1
     have gg5 := cell_regrown a2
     have gg6 := cell_regrown a3
     have gg7 := cell_regrown a4
     have gg8 := cell_regrown a5
     have gg9 := cell_regrown a6
     have gg10 := cell_regrown a7
     have gg11 := cell_regrown a8
     have gg12 := cell_regrown e0
     have gg13 := cell_regrown e1
     have gg14 := cell_regrown e2
     have gg15 := cell_regrown e3
     have gg16 := cell_regrown e4
     have gg17 := cell_regrown e5
     have gg18 := cell_regrown e6
     have gg19 := cell_regrown e7
     have gg20 := cell_regrown e8
     have zz0 : ∀ d os, _ := fun d os => Calls.regrown_of (w := X4) (d := d) (os := os) (CB _)
     repeat (first | go_big_quiet_step (with_reducible exact zz0 _ _) | go_big_quiet_step (fail) | go_big_quiet_skip)
     refine wpQuiet_nil ?_
     intro W9 hw'
     obtain ⟨⟨dq, osq⟩, hw''⟩ := hw'
     have hbz := below_regrown X4 dq osq
     rw [← hw''] at hbz
     clear hw'' gg0 gg1 gg2 gg3 gg4 gg5 gg6 gg7 gg8 gg9 gg10 gg11 gg12 gg13 gg14 gg15 gg16 gg17 gg18 gg19 gg20 zz0 
     have P4 := Lib.hid (P3.out.step hbz)
     clear o0 o1 o2 a0 a1 a2 a3 a4 a5 a6 a7 a8 e0 e1 e2 e3 e4 e5 e6 e7 e8 CB P3 hbz
     by_cases h1 : r = 1
     ·subst h1
      have HR0 : Hid (putR m (cons L) o (h, B) = ⟨(cons L).set p (h, B), o, 2, 0⟩) := Lib.hid (by rw [HU.out, if_pos rfl])
      clear HU
      go_upto_region 11 with fail
      have KS : Hid (∀ V, Below W9.heap.size W9 V → (V.cell? ⟨kO, 0, none⟩ = some (.int .i64 m) ∧ V.cell? ⟨kO, 1, none⟩ = some (.slice (some ⟨g, 0, none⟩) n c3) ∧ V.cell? ⟨kO, 2, none⟩ = some (.bool o)) ∧ (V.cell? ⟨(w.heap.size + 1), 0, none⟩ = some (.int .i64 h.a) ∧ V.cell? ⟨(w.heap.size + 1), 1, none⟩ = some (.int .i64 h.o) ∧ V.cell? ⟨(w.heap.size + 1), 2, none⟩ = some (.int .i64 h.t) ∧ V.cell? ⟨(w.heap.size + 1), 3, none⟩ = some (.int .u32 h.i) ∧ V.cell? ⟨(w.heap.size + 1), 4, none⟩ = some (.int .u32 h.v) ∧ V.cell? ⟨(w.heap.size + 1), 5, none⟩ = some (.int .u32 h.q) ∧ V.cell? ⟨(w.heap.size + 1), 6, none⟩ = some (.int .i64 h.s) ∧ V.cell? ⟨(w.heap.size + 1), 7, none⟩ = some (.int .i64 h.n) ∧ V.cell? ⟨(w.heap.size + 1), 8, none⟩ = some (.slice Ab mB d))) := Lib.hid (fun V hV => by
       obtain ⟨q0, q1, q2, q3, q4, q5, q6, q7, q8, -⟩ := kz9_at (P4.out.GB.step hV)
       obtain ⟨o0, o1, o2, -⟩ := kz3_at (P4.out.GO.step hV)
       exact ⟨⟨o0, o1, o2⟩, q0, q1, q2, q3, q4, q5, q6, q7, q8⟩)
      have tt : Below W9.heap.size W9 W9 := Below.refl _ _
      refine wp_region_held_drew (S := fun V => (V.cell? ⟨kO, 0, none⟩ = some (.int .i64 m) ∧ V.cell? ⟨kO, 1, none⟩ = some (.slice (some ⟨g, 0, none⟩) n c3) ∧ V.cell? ⟨kO, 2, none⟩ = some (.bool o)) ∧ (V.cell? ⟨(w.heap.size + 1), 0, none⟩ = some (.int .i64 h.a) ∧ V.cell? ⟨(w.heap.size + 1), 1, none⟩ = some (.int .i64 h.o) ∧ V.cell? ⟨(w.heap.size + 1), 2, none⟩ = some (.int .i64 h.t) ∧ V.cell? ⟨(w.heap.size + 1), 3, none⟩ = some (.int .u32 h.i) ∧ V.cell? ⟨(w.heap.size + 1), 4, none⟩ = some (.int .u32 h.v) ∧ V.cell? ⟨(w.heap.size + 1), 5, none⟩ = some (.int .u32 h.q) ∧ V.cell? ⟨(w.heap.size + 1), 6, none⟩ = some (.int .i64 h.s) ∧ V.cell? ⟨(w.heap.size + 1), 7, none⟩ = some (.int .i64 h.n) ∧ V.cell? ⟨(w.heap.size + 1), 8, none⟩ = some (.slice Ab mB d))) (by kernel_rfl) (KS.out _ tt.drew) (fun hHeld => ?_)
      replace tt : Below W9.heap.size W9 W9.drew := tt.drew
      generalize hX0 : W9.drew = U0 at tt hHeld ⊢
      clear hX0
      refine wpAnyH_take (i := 0) (v := ?_) rfl (by kernel_rfl) (by kernel_rfl) (by kernel_rfl) (fun _ _ _ h => h) (Or.inl ⟨by rfl, ?_⟩) (by assumption) ?_
      rotate_left
      ·(intro w' hSw; (try dsimp only at hSw); go_simp; try with_reducible rfl)
      simp only [Act.put, getElem_toArray, getElem_cons_zero, setIfInBounds_toArray, set_cons_zero, set_cons_succ]
      refine wpAnyH_take (i := 1) (v := ?_) rfl (by kernel_rfl) (by kernel_rfl) (by kernel_rfl) (fun _ _ _ h => h) (Or.inl ⟨by rfl, ?_⟩) (by assumption) ?_
      rotate_left
      ·(intro w' hSw; (try dsimp only at hSw); go_simp; try with_reducible rfl)
      simp only [Act.put, getElem_toArray, getElem_cons_zero, getElem_cons_succ, setIfInBounds_toArray, set_cons_zero, set_cons_succ]
      refine wpAnyH_take (i := 2) (v := ?_) rfl (by kernel_rfl) (by kernel_rfl) (by kernel_rfl) (fun _ _ _ h => h) (Or.inl ⟨by rfl, ?_⟩) (by assumption) ?_
      rotate_left
      ·(intro w' hSw; (try dsimp only at hSw); go_simp; try with_reducible rfl)
      simp only [Act.put, getElem_toArray, getElem_cons_zero, getElem_cons_succ, setIfInBounds_toArray, set_cons_zero, set_cons_succ]
      refine wpAnyH_take (i := 3) (v := ?_) rfl (by kernel_rfl) (by kernel_rfl) (by kernel_rfl) (fun _ _ _ h => h) (Or.inl ⟨by rfl, ?_⟩) (by assumption) ?_
      rotate_left
      ·(intro w' hSw; (try dsimp only at hSw); go_simp; try with_reducible rfl)
      simp only [Act.put, getElem_toArray, getElem_cons_zero, getElem_cons_succ, setIfInBounds_toArray, set_cons_zero, set_cons_succ]
      refine wpAnyH_ready (rs := [4]) (by kernel_rfl) (by simp) ?_
      refine AllReadyH.cons rfl (fun K hK => ?_) AllReadyH.nil
      go_simp
      go_at_call 42
      refine (fad_any h Ab mB d B U0 HMB.out (HBB.out.step (P4.out.HB.trans (tt.mono P4.out.HB.size))) (by omega)).mono ?_
      rintro e Y1 ⟨A8, c8, rfl, o8, u1⟩
      have t_Y1 : Below W9.heap.size W9 Y1 := tt.trans (u1.mono tt.size)
      have O8 := Lib.hid o8
      clear o8
      have b8 : Bu Y1 ⟨h, A8, c8, B⟩ := Bu.of_own (x := ⟨h, A8, c8, B⟩) O8.out
      have P8 := Lib.hid (P4.out.step t_Y1)
      obtain ⟨b5, b6, b7, e0, e1, e2, e3, e4, e5, e6, e7, e8, f0, f1, f2, f3, f4, f5, f6, f7, f8⟩ := HRG.out _ P8.out
      refine hK.out _ _ (KS.out _ t_Y1) (fun _ => ?_)
      clear hK K
      refine wpAnyH_take (i := 5) (v := ?_) rfl (by kernel_rfl) (by kernel_rfl) (by kernel_rfl) (fun _ _ _ h => h) (Or.inl ⟨by rfl, ?_⟩) (by assumption) ?_
      rotate_left
      ·(intro w' hSw; (try dsimp only at hSw); go_simp; try with_reducible rfl)
      simp only [Act.put, getElem_toArray, getElem_cons_zero, getElem_cons_succ, setIfInBounds_toArray, set_cons_zero, set_cons_succ]
      refine wpAnyH_ready (rs := [6]) (by kernel_rfl) (by simp) ?_
      refine AllReadyH.cons rfl (fun K hK => ?_) AllReadyH.nil
      go_simp
      have HLX : L3.length = n := HN3.out
      have ha9 := aro_setA P8.out.HA HKL2.out ⟨h, A8, c8, B⟩ b8
      simp only [HMB.out] at ha9
      have PX9 : Hid (PS w (.cells #[.int .i64 m, .slice A n c, .bool o] 28) (.cells #[.int .i64 h.a, .int .i64 h.o, .int .i64 h.t, .int .u32 h.i, .int .u32 h.v, .int .u32 h.q, .int .i64 h.s, .int .i64 h.n, .slice Ab mB d] 40) m (some ⟨g, 0, none⟩) n c3 o (L3.set p ⟨h, A8, c8, B⟩) kO ((((((((((Y1).setCell ⟨g, p * 9, none⟩ (.int .i64 h.a)).setCell ⟨g, p * 9 + 1, none⟩ (.int .i64 h.o)).setCell ⟨g, p * 9 + 2, none⟩ (.int .i64 h.t)).setCell ⟨g, p * 9 + 3, none⟩ (.int .u32 h.i)).setCell ⟨g, p * 9 + 4, none⟩ (.int .u32 h.v)).setCell ⟨g, p * 9 + 5, none⟩ (.int .u32 h.q)).setCell ⟨g, p * 9 + 6, none⟩ (.int .i64 h.s)).setCell ⟨g, p * 9 + 7, none⟩ (.int .i64 h.n)).setCell ⟨g, p * 9 + 8, none⟩ (.slice A8 mB c8))) := Lib.hid ((P8.out.kq ((kp_stA Y1 g (p * 9) (.int .i64 h.a) (.int .i64 h.o) (.int .i64 h.t) (.int .u32 h.i) (.int .u32 h.v) (.int .u32 h.q) (.int .i64 h.s) (.int .i64 h.n) (.slice A8 mB c8)).mono fun j hj => by rw [hj])).ps ha9)
      have KG : Hid ((((((((((((Y1).setCell ⟨g, p * 9, none⟩ (.int .i64 h.a)).setCell ⟨g, p * 9 + 1, none⟩ (.int .i64 h.o)).setCell ⟨g, p * 9 + 2, none⟩ (.int .i64 h.t)).setCell ⟨g, p * 9 + 3, none⟩ (.int .u32 h.i)).setCell ⟨g, p * 9 + 4, none⟩ (.int .u32 h.v)).setCell ⟨g, p * 9 + 5, none⟩ (.int .u32 h.q)).setCell ⟨g, p * 9 + 6, none⟩ (.int .i64 h.s)).setCell ⟨g, p * 9 + 7, none⟩ (.int .i64 h.n)).setCell ⟨g, p * 9 + 8, none⟩ (.slice A8 mB c8)).cell? ⟨kO, 0, none⟩ = some (.int .i64 m) ∧ ((((((((((Y1).setCell ⟨g, p * 9, none⟩ (.int .i64 h.a)).setCell ⟨g, p * 9 + 1, none⟩ (.int .i64 h.o)).setCell ⟨g, p * 9 + 2, none⟩ (.int .i64 h.t)).setCell ⟨g, p * 9 + 3, none⟩ (.int .u32 h.i)).setCell ⟨g, p * 9 + 4, none⟩ (.int .u32 h.v)).setCell ⟨g, p * 9 + 5, none⟩ (.int .u32 h.q)).setCell ⟨g, p * 9 + 6, none⟩ (.int .i64 h.s)).setCell ⟨g, p * 9 + 7, none⟩ (.int .i64 h.n)).setCell ⟨g, p * 9 + 8, none⟩ (.slice A8 mB c8)).cell? ⟨kO, 1, none⟩ = some (.slice (some ⟨g, 0, none⟩) n c3) ∧ ((((((((((Y1).setCell ⟨g, p * 9, none⟩ (.int .i64 h.a)).setCell ⟨g, p * 9 + 1, none⟩ (.int .i64 h.o)).setCell ⟨g, p * 9 + 2, none⟩ (.int .i64 h.t)).setCell ⟨g, p * 9 + 3, none⟩ (.int .u32 h.i)).setCell ⟨g, p * 9 + 4, none⟩ (.int .u32 h.v)).setCell ⟨g, p * 9 + 5, none⟩ (.int .u32 h.q)).setCell ⟨g, p * 9 + 6, none⟩ (.int .i64 h.s)).setCell ⟨g, p * 9 + 7, none⟩ (.int .i64 h.n)).setCell ⟨g, p * 9 + 8, none⟩ (.slice A8 mB c8)).cell? ⟨kO, 2, none⟩ = some (.bool o)) ∧ (((((((((((Y1).setCell ⟨g, p * 9, none⟩ (.int .i64 h.a)).setCell ⟨g, p * 9 + 1, none⟩ (.int .i64 h.o)).setCell ⟨g, p * 9 + 2, none⟩ (.int .i64 h.t)).setCell ⟨g, p * 9 + 3, none⟩ (.int .u32 h.i)).setCell ⟨g, p * 9 + 4, none⟩ (.int .u32 h.v)).setCell ⟨g, p * 9 + 5, none⟩ (.int .u32 h.q)).setCell ⟨g, p * 9 + 6, none⟩ (.int .i64 h.s)).setCell ⟨g, p * 9 + 7, none⟩ (.int .i64 h.n)).setCell ⟨g, p * 9 + 8, none⟩ (.slice A8 mB c8)).cell? ⟨(w.heap.size + 1), 0, none⟩ = some (.int .i64 h.a) ∧ ((((((((((Y1).setCell ⟨g, p * 9, none⟩ (.int .i64 h.a)).setCell ⟨g, p * 9 + 1, none⟩ (.int .i64 h.o)).setCell ⟨g, p * 9 + 2, none⟩ (.int .i64 h.t)).setCell ⟨g, p * 9 + 3, none⟩ (.int .u32 h.i)).setCell ⟨g, p * 9 + 4, none⟩ (.int .u32 h.v)).setCell ⟨g, p * 9 + 5, none⟩ (.int .u32 h.q)).setCell ⟨g, p * 9 + 6, none⟩ (.int .i64 h.s)).setCell ⟨g, p * 9 + 7, none⟩ (.int .i64 h.n)).setCell ⟨g, p * 9 + 8, none⟩ (.slice A8 mB c8)).cell? ⟨(w.heap.size + 1), 1, none⟩ = some (.int .i64 h.o) ∧ ((((((((((Y1).setCell ⟨g, p * 9, none⟩ (.int .i64 h.a)).setCell ⟨g, p * 9 + 1, none⟩ (.int .i64 h.o)).setCell ⟨g, p * 9 + 2, none⟩ (.int .i64 h.t)).setCell ⟨g, p * 9 + 3, none⟩ (.int .u32 h.i)).setCell ⟨g, p * 9 + 4, none⟩ (.int .u32 h.v)).setCell ⟨g, p * 9 + 5, none⟩ (.int .u32 h.q)).setCell ⟨g, p * 9 + 6, none⟩ (.int .i64 h.s)).setCell ⟨g, p * 9 + 7, none⟩ (.int .i64 h.n)).setCell ⟨g, p * 9 + 8, none⟩ (.slice A8 mB c8)).cell? ⟨(w.heap.size + 1), 2, none⟩ = some (.int .i64 h.t) ∧ ((((((((((Y1).setCell ⟨g, p * 9, none⟩ (.int .i64 h.a)).setCell ⟨g, p * 9 + 1, none⟩ (.int .i64 h.o)).setCell ⟨g, p * 9 + 2, none⟩ (.int .i64 h.t)).setCell ⟨g, p * 9 + 3, none⟩ (.int .u32 h.i)).setCell ⟨g, p * 9 + 4, none⟩ (.int .u32 h.v)).setCell ⟨g, p * 9 + 5, none⟩ (.int .u32 h.q)).setCell ⟨g, p * 9 + 6, none⟩ (.int .i64 h.s)).setCell ⟨g, p * 9 + 7, none⟩ (.int .i64 h.n)).setCell ⟨g, p * 9 + 8, none⟩ (.slice A8 mB c8)).cell? ⟨(w.heap.size + 1), 3, none⟩ = some (.int .u32 h.i) ∧ ((((((((((Y1).setCell ⟨g, p * 9, none⟩ (.int .i64 h.a)).setCell ⟨g, p * 9 + 1, none⟩ (.int .i64 h.o)).setCell ⟨g, p * 9 + 2, none⟩ (.int .i64 h.t)).setCell ⟨g, p * 9 + 3, none⟩ (.int .u32 h.i)).setCell ⟨g, p * 9 + 4, none⟩ (.int .u32 h.v)).setCell ⟨g, p * 9 + 5, none⟩ (.int .u32 h.q)).setCell ⟨g, p * 9 + 6, none⟩ (.int .i64 h.s)).setCell ⟨g, p * 9 + 7, none⟩ (.int .i64 h.n)).setCell ⟨g, p * 9 + 8, none⟩ (.slice A8 mB c8)).cell? ⟨(w.heap.size + 1), 4, none⟩ = some (.int .u32 h.v) ∧ ((((((((((Y1).setCell ⟨g, p * 9, none⟩ (.int .i64 h.a)).setCell ⟨g, p * 9 + 1, none⟩ (.int .i64 h.o)).setCell ⟨g, p * 9 + 2, none⟩ (.int .i64 h.t)).setCell ⟨g, p * 9 + 3, none⟩ (.int .u32 h.i)).setCell ⟨g, p * 9 + 4, none⟩ (.int .u32 h.v)).setCell ⟨g, p * 9 + 5, none⟩ (.int .u32 h.q)).setCell ⟨g, p * 9 + 6, none⟩ (.int .i64 h.s)).setCell ⟨g, p * 9 + 7, none⟩ (.int .i64 h.n)).setCell ⟨g, p * 9 + 8, none⟩ (.slice A8 mB c8)).cell? ⟨(w.heap.size + 1), 5, none⟩ = some (.int .u32 h.q) ∧ ((((((((((Y1).setCell ⟨g, p * 9, none⟩ (.int .i64 h.a)).setCell ⟨g, p * 9 + 1, none⟩ (.int .i64 h.o)).setCell ⟨g, p * 9 + 2, none⟩ (.int .i64 h.t)).setCell ⟨g, p * 9 + 3, none⟩ (.int .u32 h.i)).setCell ⟨g, p * 9 + 4, none⟩ (.int .u32 h.v)).setCell ⟨g, p * 9 + 5, none⟩ (.int .u32 h.q)).setCell ⟨g, p * 9 + 6, none⟩ (.int .i64 h.s)).setCell ⟨g, p * 9 + 7, none⟩ (.int .i64 h.n)).setCell ⟨g, p * 9 + 8, none⟩ (.slice A8 mB c8)).cell? ⟨(w.heap.size + 1), 6, none⟩ = some (.int .i64 h.s) ∧ ((((((((((Y1).setCell ⟨g, p * 9, none⟩ (.int .i64 h.a)).setCell ⟨g, p * 9 + 1, none⟩ (.int .i64 h.o)).setCell ⟨g, p * 9 + 2, none⟩ (.int .i64 h.t)).setCell ⟨g, p * 9 + 3, none⟩ (.int .u32 h.i)).setCell ⟨g, p * 9 + 4, none⟩ (.int .u32 h.v)).setCell ⟨g, p * 9 + 5, none⟩ (.int .u32 h.q)).setCell ⟨g, p * 9 + 6, none⟩ (.int .i64 h.s)).setCell ⟨g, p * 9 + 7, none⟩ (.int .i64 h.n)).setCell ⟨g, p * 9 + 8, none⟩ (.slice A8 mB c8)).cell? ⟨(w.heap.size + 1), 7, none⟩ = some (.int .i64 h.n) ∧ ((((((((((Y1).setCell ⟨g, p * 9, none⟩ (.int .i64 h.a)).setCell ⟨g, p * 9 + 1, none⟩ (.int .i64 h.o)).setCell ⟨g, p * 9 + 2, none⟩ (.int .i64 h.t)).setCell ⟨g, p * 9 + 3, none⟩ (.int .u32 h.i)).setCell ⟨g, p * 9 + 4, none⟩ (.int .u32 h.v)).setCell ⟨g, p * 9 + 5, none⟩ (.int .u32 h.q)).setCell ⟨g, p * 9 + 6, none⟩ (.int .i64 h.s)).setCell ⟨g, p * 9 + 7, none⟩ (.int .i64 h.n)).setCell ⟨g, p * 9 + 8, none⟩ (.slice A8 mB c8)).cell? ⟨(w.heap.size + 1), 8, none⟩ = some (.slice Ab mB d))) := Lib.hid (by
       obtain ⟨q0, q1, q2, q3, q4, q5, q6, q7, q8, -⟩ := kz9_at PX9.out.GB
       obtain ⟨o0, o1, o2, -⟩ := kz3_at PX9.out.GO
       exact ⟨⟨o0, o1, o2⟩, q0, q1, q2, q3, q4, q5, q6, q7, q8⟩)
      clear ha9 b8
      refine hK.out _ _ KG.out (fun _ => ?_)
      clear hK K
      refine wpAnyH_done (by kernel_rfl) ?_ _
      obtain ⟨ZX, hZX⟩ : ∃ V9, (((((((((Y1).setCell ⟨g, p * 9, none⟩ (.int .i64 h.a)).setCell ⟨g, p * 9 + 1, none⟩ (.int .i64 h.o)).setCell ⟨g, p * 9 + 2, none⟩ (.int .i64 h.t)).setCell ⟨g, p * 9 + 3, none⟩ (.int .u32 h.i)).setCell ⟨g, p * 9 + 4, none⟩ (.int .u32 h.v)).setCell ⟨g, p * 9 + 5, none⟩ (.int .u32 h.q)).setCell ⟨g, p * 9 + 6, none⟩ (.int .i64 h.s)).setCell ⟨g, p * 9 + 7, none⟩ (.int .i64 h.n)).setCell ⟨g, p * 9 + 8, none⟩ (.slice A8 mB c8) = V9 := ⟨_, rfl⟩
      have HR : Hid (putR m (cons L) o (h, B) = ⟨cons (L3.set p ⟨h, A8, c8, B⟩), o, 2, 0⟩) := Lib.hid (by rw [HR0.out, cons_set, HC3.out]; rfl)
      have HNN : Hid ((L3.set p ⟨h, A8, c8, B⟩).length = n) := Lib.hid (by rw [List.length_set, HN3.out])
      rw [hZX] at PX9 ⊢
      clear e0 e1 e2 e3 e4 e5 e6 e7 e8 f0 f1 f2 f3 f4 f5 f6 f7 f8 hZX KG KS P8
      obtain ⟨o0, o1, o2, -⟩ := kz3_at PX9.out.GO
      obtain ⟨z0, z1, z2, g0, g1, g2, hzl⟩ := kz3_at PX9.out.GC
      go_wp2
      obtain ⟨r0, r1, r2⟩ := kz3_get PX9.out.GC (Value.int .i64 m) (.slice (some ⟨g, 0, none⟩) n c3) (.bool o)
      refine bodyPost_ret (v := .tuple #[.agg #[.int .i64 m, .slice (some ⟨g, 0, none⟩) n c3, .bool o], .int .i64 2, .int .i64 0]) (by simp [results, Tryz.results25, go_sem, r0, r1, r2]) rfl (PP.mk PX9.out HNN.out HR.out)
     ·have h2 : ¬ (r + 1 = 2) := by omega
      have hb2 : ((r + 1 : Int) == 2) = false := by simpa using h2
      have HR : Hid (putR m (cons L) o (h, B) = ⟨cons L3, o, r + 1, 0⟩) := Lib.hid (by rw [HU.out, if_neg h1])
      obtain ⟨o0, o1, o2, -⟩ := kz3_at P4.out.GO
      obtain ⟨z0, z1, z2, g0, g1, g2, hzl⟩ := kz3_at P4.out.GC
      go_wp2
      obtain ⟨r0, r1, r2⟩ := kz3_get P4.out.GC (Value.int .i64 m) (.slice (some ⟨g, 0, none⟩) n c3) (.bool o)
      refine bodyPost_ret (v := .tuple #[.agg #[.int .i64 m, .slice (some ⟨g, 0, none⟩) n c3, .bool o], .int .i64 (r + 1), .int .i64 0]) (by simp [results, Tryz.results25, go_sem, r0, r1, r2]) rfl (PP.mk P4.out HN3.out HR.out)
   ·have d0 : decide ((p : Int) < (n : Int)) = false := by simp; omega
    have HI : Hid (putR m (cons L) o (h, B) = if m ≤ (n : Int) then ⟨cons L3, true, 0, 8⟩ else ⟨(cons L).take p ++ (h, B) :: (cons L).drop p, o, 3, 0⟩) := Lib.hid (by
     rw [putR, if_neg (by rw [HW.out]; simp), if_neg (by rw [HRT.out]; simp), if_neg (by rw [HPC.out, ← HC3.out, cons_length, HN3.out]; omega), HPC.out, HC3.out, ← HC3.out, cons_length, HN3.out])
    refine wp_region_quiet_below (by kernel_rfl) (by kernel_rfl) ?_
    have gg0 := cell_regrown o0
    have gg1 := cell_regrown o1
    have gg2 := cell_regrown o2
    have gg3 := cell_regrown y0
    have gg4 := cell_regrown y1
    have gg5 := cell_regrown y2
    repeat (first | go_big_quiet_step (fail) | go_big_quiet_skip)
    refine wpQuiet_nil ?_
    intro W9 hw'
    obtain ⟨⟨dq, osq⟩, hw''⟩ := hw'
    have hbz := below_regrown X2 dq osq
    rw [← hw''] at hbz
    clear hw'' gg0 gg1 gg2 gg3 gg4 gg5  
    have P3 := Lib.hid (P2.out.step hbz)
    clear o0 o1 o2 y0 y1 y2 P2 K2 hbz
    obtain ⟨o0, o1, o2, -⟩ := kz3_at P3.out.GO
    by_cases hm : m ≤ (n : Int)
    ·have d0 : decide ((n : Int) ≥ m) = true := by simpa using hm
     have HR : Hid (putR m (cons L) o (h, B) = ⟨cons L3, true, 0, 8⟩) := Lib.hid (by rw [HI.out, if_pos hm])
     obtain ⟨-, -, -, q0, q1, q2, hql⟩ := kz3_at P3.out.GO
     have PT := Lib.hid (P3.out.setO true)
     obtain ⟨V9, hV9⟩ : ∃ V9, W9.setCell ⟨kO, 2, none⟩ (.bool true) = V9 := ⟨_, rfl⟩
     rw [hV9] at PT
     clear HI
     go_upto_region 15 with fail
     clear o0 o1 o2 q0 q1 q2 hql hV9
     obtain ⟨o0, o1, o2, -⟩ := kz3_at PT.out.GO
     obtain ⟨z0, z1, z2, g0, g1, g2, hzl⟩ := kz3_at PT.out.GC
     go_wp2
     obtain ⟨r0, r1, r2⟩ := kz3_get PT.out.GC (Value.int .i64 m) (.slice A3 n c3) (.bool true)
     refine bodyPost_ret (v := .tuple #[.agg #[.int .i64 m, .slice A3 n c3, .bool true], .int .i64 0, .int .i64 8]) (by simp [results, Tryz.results25, go_sem, r0, r1, r2]) rfl (PP.mk PT.out HN3.out HR.out)
    ·have d0 : decide ((n : Int) ≥ m) = false := by simpa using hm
     have HR0 : Hid (putR m (cons L) o (h, B) = ⟨(cons L).take p ++ (h, B) :: (cons L).drop p, o, 3, 0⟩) := Lib.hid (by rw [HI.out, if_neg hm])
     go_upto_region 16 with fail
     clear o0 o1 o2 HI
     have KS : Hid (∀ V, Below W9.heap.size W9 V → V.cell? ⟨(w.heap.size + 1), 0, none⟩ = some (.int .i64 h.a) ∧ V.cell? ⟨(w.heap.size + 1), 1, none⟩ = some (.int .i64 h.o) ∧ V.cell? ⟨(w.heap.size + 1), 2, none⟩ = some (.int .i64 h.t) ∧ V.cell? ⟨(w.heap.size + 1), 3, none⟩ = some (.int .u32 h.i) ∧ V.cell? ⟨(w.heap.size + 1), 4, none⟩ = some (.int .u32 h.v) ∧ V.cell? ⟨(w.heap.size + 1), 5, none⟩ = some (.int .u32 h.q) ∧ V.cell? ⟨(w.heap.size + 1), 6, none⟩ = some (.int .i64 h.s) ∧ V.cell? ⟨(w.heap.size + 1), 7, none⟩ = some (.int .i64 h.n) ∧ V.cell? ⟨(w.heap.size + 1), 8, none⟩ = some (.slice Ab mB d)) := Lib.hid (fun V hV => by
      obtain ⟨q0, q1, q2, q3, q4, q5, q6, q7, q8, -⟩ := kz9_at (P3.out.GB.step hV)
      exact ⟨q0, q1, q2, q3, q4, q5, q6, q7, q8⟩)
     have tt : Below W9.heap.size W9 W9 := Below.refl _ _
     have go0 := P3.out.GO
     refine wp_region_held_drew (S := fun V => V.cell? ⟨(w.heap.size + 1), 0, none⟩ = some (.int .i64 h.a) ∧ V.cell? ⟨(w.heap.size + 1), 1, none⟩ = some (.int .i64 h.o) ∧ V.cell? ⟨(w.heap.size + 1), 2, none⟩ = some (.int .i64 h.t) ∧ V.cell? ⟨(w.heap.size + 1), 3, none⟩ = some (.int .u32 h.i) ∧ V.cell? ⟨(w.heap.size + 1), 4, none⟩ = some (.int .u32 h.v) ∧ V.cell? ⟨(w.heap.size + 1), 5, none⟩ = some (.int .u32 h.q) ∧ V.cell? ⟨(w.heap.size + 1), 6, none⟩ = some (.int .i64 h.s) ∧ V.cell? ⟨(w.heap.size + 1), 7, none⟩ = some (.int .i64 h.n) ∧ V.cell? ⟨(w.heap.size + 1), 8, none⟩ = some (.slice Ab mB d)) (by kernel_rfl) (KS.out _ tt.drew) (fun hHeld => ?_)
     replace go0 := go0.step tt.drew
     replace tt : Below W9.heap.size W9 W9.drew := tt.drew
     generalize hX0 : W9.drew = U0 at tt go0 hHeld ⊢
     clear hX0
     refine wpAnyH_take (i := 0) (v := ?_) rfl (by kernel_rfl) (by kernel_rfl) (by kernel_rfl) (fun _ _ _ h => h) (Or.inl ⟨by rfl, ?_⟩) (by assumption) ?_
     rotate_left
     ·(intro w' hSw; (try dsimp only at hSw); go_simp; try with_reducible rfl)
     simp only [Act.put, getElem_toArray, getElem_cons_zero, setIfInBounds_toArray, set_cons_zero, set_cons_succ]
     refine wpAnyH_take (i := 2) (v := ?_) rfl (by kernel_rfl) (by kernel_rfl) (by kernel_rfl) (fun _ _ _ h => h) (Or.inl ⟨by rfl, ?_⟩) (by assumption) ?_
     rotate_left
     ·(intro w' hSw; (try dsimp only at hSw); go_simp; try with_reducible rfl)
     simp only [Act.put, getElem_toArray, getElem_cons_zero, getElem_cons_succ, setIfInBounds_toArray, set_cons_zero, set_cons_succ]
     refine wpAnyH_take (i := 3) (v := ?_) rfl (by kernel_rfl) (by kernel_rfl) (by kernel_rfl) (fun _ _ _ h => h) (Or.inl ⟨by rfl, ?_⟩) (by assumption) ?_
     rotate_left
     ·(intro w' hSw; (try dsimp only at hSw); go_simp; try with_reducible rfl)
     simp only [Act.put, getElem_toArray, getElem_cons_zero, getElem_cons_succ, setIfInBounds_toArray, set_cons_zero, set_cons_succ]
     refine wpAnyH_ready (rs := [1, 4]) (by kernel_rfl) (by simp) ?_
     refine AllReadyH.cons rfl (fun K hK => ?_) ?_
     ·obtain ⟨j0, j1, j2, q0, q1, q2, hjl⟩ := kz3_at go0
      go_simp
      clear j0 j1 j2 q0 q1 q2 hjl
      refine hK.out _ _ (KS.out _ tt) (fun _ => ?_)
      clear hK K
      refine wpAnyH_ready (rs := [4]) (by kernel_rfl) (by simp) ?_
      refine AllReadyH.cons rfl (fun K hK => ?_) AllReadyH.nil
      go_simp
      go_at_call 42
      refine (fad_any h Ab mB d B U0 HMB.out (HBB.out.step (P3.out.HB.trans (tt.mono P3.out.HB.size))) (by omega)).mono ?_
      rintro e Y1 ⟨A8, c8, rfl, o8, u1⟩
      have t_Y1 : Below W9.heap.size W9 Y1 := tt.trans (u1.mono tt.size)
      replace go0 := go0.step u1
      have O8 := Lib.hid o8
      clear o8
      have b8 : Bu Y1 ⟨h, A8, c8, B⟩ := Bu.of_own (x := ⟨h, A8, c8, B⟩) O8.out
      refine hK.out _ _ (KS.out _ t_Y1) (fun _ => ?_)
      clear hK K
      refine wpAnyH_ready (rs := [5]) (by kernel_rfl) (by simp) ?_
      refine AllReadyH.cons rfl (fun K hK => ?_) AllReadyH.nil
      go_simp
      obtain ⟨Y2, hY2⟩ : ∃ V, Y1.alloc (.cells #[Value.int .i64 h.a, .int .i64 h.o, .int .i64 h.t, .int .u32 h.i, .int .u32 h.v, .int .u32 h.q, .int .i64 h.s, .int .i64 h.n, .slice A8 mB c8] 40) = V := ⟨_, rfl⟩
      have u2 : Below Y1.heap.size Y1 Y2 := by rw [← hY2]; exact below_alloc1 _ _
      have t_Y2 : Below W9.heap.size W9 Y2 := t_Y1.trans (u2.mono t_Y1.size)
      replace go0 := go0.step u2
      replace b8 := b8.step u2
      obtain ⟨k2, hk2⟩ : ∃ k, Y1.heap.size = k := ⟨_, rfl⟩
      have gv : Bk Y2 k2 (.cells (acs ⟨h, A8, c8, B⟩).toArray 40) := by rw [← hk2, ← hY2, show (acs ⟨h, A8, c8, B⟩).toArray = #[.int .i64 h.a, .int .i64 h.o, .int .i64 h.t, .int .u32 h.i, .int .u32 h.v, .int .u32 h.q, .int .i64 h.s, .int .i64 h.n, .slice A8 mB c8] from by simp [acs, HMB.out]]; exact alloc_at _ _ _ rfl
      have hkv : w.heap.size + 3 ≤ k2 ∧ ¬ (A3 : Option Addr) = some ⟨k2, 0, none⟩ := ⟨by have h1 := P3.out.GO.lt; have h2 := P3.out.HK; have h3 := t_Y1.size; omega, fun e => by obtain ⟨cur, mm, hq⟩ := (P3.out.HA.step t_Y1).row.typed e; have := lt_of_block hq; omega⟩
      try rw [hY2]
      try rw [hk2]
      refine hK.out _ _ (KS.out _ t_Y2) (fun _ => ?_)
      clear hK K
      refine wpAnyH_ready (rs := [6]) (by kernel_rfl) (by simp) ?_
      refine AllReadyH.cons rfl (fun K hK => ?_) AllReadyH.nil
      go_simp
      go_at_call 53
      refine (insert_any (base := w.heap.size + 3) A3 n c3 p k2 L3 ⟨h, A8, c8, B⟩ Y2 (P3.out.HA.step t_Y2) (by have h1 := P3.out.GO.lt; have h2 := P3.out.HK; have h3 := t_Y2.size; omega) HN3.out hpn (by omega) b8 gv hkv.2).mono ?_
      rintro e Z9 ⟨A9, c9, rfl, ha9, kp9, -⟩
      have PQ9 := Lib.hid ((P3.out.step t_Y2).kq kp9)
      have HA9 := Lib.hid ha9
      have KF : Hid (Z9.cell? ⟨(w.heap.size + 1), 0, none⟩ = some (.int .i64 h.a) ∧ Z9.cell? ⟨(w.heap.size + 1), 1, none⟩ = some (.int .i64 h.o) ∧ Z9.cell? ⟨(w.heap.size + 1), 2, none⟩ = some (.int .i64 h.t) ∧ Z9.cell? ⟨(w.heap.size + 1), 3, none⟩ = some (.int .u32 h.i) ∧ Z9.cell? ⟨(w.heap.size + 1), 4, none⟩ = some (.int .u32 h.v) ∧ Z9.cell? ⟨(w.heap.size + 1), 5, none⟩ = some (.int .u32 h.q) ∧ Z9.cell? ⟨(w.heap.size + 1), 6, none⟩ = some (.int .i64 h.s) ∧ Z9.cell? ⟨(w.heap.size + 1), 7, none⟩ = some (.int .i64 h.n) ∧ Z9.cell? ⟨(w.heap.size + 1), 8, none⟩ = some (.slice Ab mB d)) := Lib.hid (by obtain ⟨q0, q1, q2, q3, q4, q5, q6, q7, q8, -⟩ := kz9_at PQ9.out.GB; exact ⟨q0, q1, q2, q3, q4, q5, q6, q7, q8⟩)
      clear ha9 kp9 b8 gv hkv
      refine hK.out _ _ KF.out (fun _ => ?_)
      clear hK K
      refine wpAnyH_take (i := 7) (v := ?_) rfl (by kernel_rfl) (by kernel_rfl) (by kernel_rfl) (fun _ _ _ h => h) (Or.inl ⟨by rfl, ?_⟩) (by assumption) ?_
      rotate_left
      ·(intro w' hSw; (try dsimp only at hSw); go_simp; try with_reducible rfl)
      simp only [Act.put, getElem_toArray, getElem_cons_zero, getElem_cons_succ, setIfInBounds_toArray, set_cons_zero, set_cons_succ]
      refine wpAnyH_ready (rs := [8]) (by kernel_rfl) (by simp) ?_
      refine AllReadyH.cons rfl (fun K hK => ?_) AllReadyH.nil
      obtain ⟨y0, y1, y2, f0, f1, f2, hzl⟩ := kz3_at PQ9.out.GO
      go_simp
      have PX9 := Lib.hid (PQ9.out.setL (n4 := n + 1) HA9.out)
      have KG : Hid ((Z9.setCell ⟨kO, 1, none⟩ (.slice A9 (n + 1) c9)).cell? ⟨(w.heap.size + 1), 0, none⟩ = some (.int .i64 h.a) ∧ (Z9.setCell ⟨kO, 1, none⟩ (.slice A9 (n + 1) c9)).cell? ⟨(w.heap.size + 1), 1, none⟩ = some (.int .i64 h.o) ∧ (Z9.setCell ⟨kO, 1, none⟩ (.slice A9 (n + 1) c9)).cell? ⟨(w.heap.size + 1), 2, none⟩ = some (.int .i64 h.t) ∧ (Z9.setCell ⟨kO, 1, none⟩ (.slice A9 (n + 1) c9)).cell? ⟨(w.heap.size + 1), 3, none⟩ = some (.int .u32 h.i) ∧ (Z9.setCell ⟨kO, 1, none⟩ (.slice A9 (n + 1) c9)).cell? ⟨(w.heap.size + 1), 4, none⟩ = some (.int .u32 h.v) ∧ (Z9.setCell ⟨kO, 1, none⟩ (.slice A9 (n + 1) c9)).cell? ⟨(w.heap.size + 1), 5, none⟩ = some (.int .u32 h.q) ∧ (Z9.setCell ⟨kO, 1, none⟩ (.slice A9 (n + 1) c9)).cell? ⟨(w.heap.size + 1), 6, none⟩ = some (.int .i64 h.s) ∧ (Z9.setCell ⟨kO, 1, none⟩ (.slice A9 (n + 1) c9)).cell? ⟨(w.heap.size + 1), 7, none⟩ = some (.int .i64 h.n) ∧ (Z9.setCell ⟨kO, 1, none⟩ (.slice A9 (n + 1) c9)).cell? ⟨(w.heap.size + 1), 8, none⟩ = some (.slice Ab mB d)) := Lib.hid (by obtain ⟨q0, q1, q2, q3, q4, q5, q6, q7, q8, -⟩ := kz9_at PX9.out.GB; exact ⟨q0, q1, q2, q3, q4, q5, q6, q7, q8⟩)
      refine hK.out _ _ KG.out (fun _ => ?_)
      clear hK K
      refine wpAnyH_done (by kernel_rfl) ?_ _
      obtain ⟨ZX, hZX⟩ : ∃ V9, Z9.setCell ⟨kO, 1, none⟩ (.slice A9 (n + 1) c9) = V9 := ⟨_, rfl⟩
      have HR : Hid (putR m (cons L) o (h, B) = ⟨cons (insA L3 p ⟨h, A8, c8, B⟩), o, 3, 0⟩) := Lib.hid (by rw [HR0.out, cons_insA, HC3.out]; rfl)
      have HNN : Hid ((insA L3 p ⟨h, A8, c8, B⟩).length = n + 1) := Lib.hid (by rw [insA_length (by rw [HN3.out]; exact hpn), HN3.out])
      rw [hZX] at PX9 ⊢
      clear y0 y1 y2 f0 f1 f2 hzl hZX KG KF PQ9 HA9 KS
      obtain ⟨o0, o1, o2, -⟩ := kz3_at PX9.out.GO
      obtain ⟨z0, z1, z2, g0, g1, g2, hzl⟩ := kz3_at PX9.out.GC
      go_wp2
      obtain ⟨r0, r1, r2⟩ := kz3_get PX9.out.GC (Value.int .i64 m) (.slice A9 (n + 1) c9) (.bool o)
      refine bodyPost_ret (v := .tuple #[.agg #[.int .i64 m, .slice A9 (n + 1) c9, .bool o], .int .i64 3, .int .i64 0]) (by simp [results, Tryz.results25, go_sem, r0, r1, r2]) rfl (PP.mk PX9.out HNN.out HR.out)
     refine AllReadyH.cons rfl (fun K hK => ?_) AllReadyH.nil
     go_simp
     go_at_call 42
     refine (fad_any h Ab mB d B U0 HMB.out (HBB.out.step (P3.out.HB.trans (tt.mono P3.out.HB.size))) (by omega)).mono ?_
     rintro e Y1 ⟨A8, c8, rfl, o8, u1⟩
     have t_Y1 : Below W9.heap.size W9 Y1 := tt.trans (u1.mono tt.size)
     replace go0 := go0.step u1
     have O8 := Lib.hid o8
     clear o8
     have b8 : Bu Y1 ⟨h, A8, c8, B⟩ := Bu.of_own (x := ⟨h, A8, c8, B⟩) O8.out
     refine hK.out _ _ (KS.out _ t_Y1) (fun _ => ?_)
     clear hK K
     refine wpAnyH_ready (rs := [1, 5]) (by kernel_rfl) (by simp) ?_
     refine AllReadyH.cons rfl (fun K hK => ?_) ?_
     ·obtain ⟨j0, j1, j2, q0, q1, q2, hjl⟩ := kz3_at go0
      go_simp
      clear j0 j1 j2 q0 q1 q2 hjl
      refine hK.out _ _ (KS.out _ t_Y1) (fun _ => ?_)
      clear hK K
      refine wpAnyH_ready (rs := [5]) (by kernel_rfl) (by simp) ?_
      refine AllReadyH.cons rfl (fun K hK => ?_) AllReadyH.nil
      go_simp
      obtain ⟨Y2, hY2⟩ : ∃ V, Y1.alloc (.cells #[Value.int .i64 h.a, .int .i64 h.o, .int .i64 h.t, .int .u32 h.i, .int .u32 h.v, .int .u32 h.q, .int .i64 h.s, .int .i64 h.n, .slice A8 mB c8] 40) = V := ⟨_, rfl⟩
      have u2 : Below Y1.heap.size Y1 Y2 := by rw [← hY2]; exact below_alloc1 _ _
      have t_Y2 : Below W9.heap.size W9 Y2 := t_Y1.trans (u2.mono t_Y1.size)
      replace go0 := go0.step u2
      replace b8 := b8.step u2
      obtain ⟨k2, hk2⟩ : ∃ k, Y1.heap.size = k := ⟨_, rfl⟩
      have gv : Bk Y2 k2 (.cells (acs ⟨h, A8, c8, B⟩).toArray 40) := by rw [← hk2, ← hY2, show (acs ⟨h, A8, c8, B⟩).toArray = #[.int .i64 h.a, .int .i64 h.o, .int .i64 h.t, .int .u32 h.i, .int .u32 h.v, .int .u32 h.q, .int .i64 h.s, .int .i64 h.n, .slice A8 mB c8] from by simp [acs, HMB.out]]; exact alloc_at _ _ _ rfl
      have hkv : w.heap.size + 3 ≤ k2 ∧ ¬ (A3 : Option Addr) = some ⟨k2, 0, none⟩ := ⟨by have h1 := P3.out.GO.lt; have h2 := P3.out.HK; have h3 := t_Y1.size; omega, fun e => by obtain ⟨cur, mm, hq⟩ := (P3.out.HA.step t_Y1).row.typed e; have := lt_of_block hq; omega⟩
      try rw [hY2]
      try rw [hk2]
      refine hK.out _ _ (KS.out _ t_Y2) (fun _ => ?_)
      clear hK K
      refine wpAnyH_ready (rs := [6]) (by kernel_rfl) (by simp) ?_
      refine AllReadyH.cons rfl (fun K hK => ?_) AllReadyH.nil
      go_simp
      go_at_call 53
      refine (insert_any (base := w.heap.size + 3) A3 n c3 p k2 L3 ⟨h, A8, c8, B⟩ Y2 (P3.out.HA.step t_Y2) (by have h1 := P3.out.GO.lt; have h2 := P3.out.HK; have h3 := t_Y2.size; omega) HN3.out hpn (by omega) b8 gv hkv.2).mono ?_
      rintro e Z9 ⟨A9, c9, rfl, ha9, kp9, -⟩
      have PQ9 := Lib.hid ((P3.out.step t_Y2).kq kp9)
      have HA9 := Lib.hid ha9
      have KF : Hid (Z9.cell? ⟨(w.heap.size + 1), 0, none⟩ = some (.int .i64 h.a) ∧ Z9.cell? ⟨(w.heap.size + 1), 1, none⟩ = some (.int .i64 h.o) ∧ Z9.cell? ⟨(w.heap.size + 1), 2, none⟩ = some (.int .i64 h.t) ∧ Z9.cell? ⟨(w.heap.size + 1), 3, none⟩ = some (.int .u32 h.i) ∧ Z9.cell? ⟨(w.heap.size + 1), 4, none⟩ = some (.int .u32 h.v) ∧ Z9.cell? ⟨(w.heap.size + 1), 5, none⟩ = some (.int .u32 h.q) ∧ Z9.cell? ⟨(w.heap.size + 1), 6, none⟩ = some (.int .i64 h.s) ∧ Z9.cell? ⟨(w.heap.size + 1), 7, none⟩ = some (.int .i64 h.n) ∧ Z9.cell? ⟨(w.heap.size + 1), 8, none⟩ = some (.slice Ab mB d)) := Lib.hid (by obtain ⟨q0, q1, q2, q3, q4, q5, q6, q7, q8, -⟩ := kz9_at PQ9.out.GB; exact ⟨q0, q1, q2, q3, q4, q5, q6, q7, q8⟩)
      clear ha9 kp9 b8 gv hkv
      refine hK.out _ _ KF.out (fun _ => ?_)
      clear hK K
      refine wpAnyH_take (i := 7) (v := ?_) rfl (by kernel_rfl) (by kernel_rfl) (by kernel_rfl) (fun _ _ _ h => h) (Or.inl ⟨by rfl, ?_⟩) (by assumption) ?_
      rotate_left
      ·(intro w' hSw; (try dsimp only at hSw); go_simp; try with_reducible rfl)
      simp only [Act.put, getElem_toArray, getElem_cons_zero, getElem_cons_succ, setIfInBounds_toArray, set_cons_zero, set_cons_succ]
      refine wpAnyH_ready (rs := [8]) (by kernel_rfl) (by simp) ?_
      refine AllReadyH.cons rfl (fun K hK => ?_) AllReadyH.nil
      obtain ⟨y0, y1, y2, f0, f1, f2, hzl⟩ := kz3_at PQ9.out.GO
      go_simp
      have PX9 := Lib.hid (PQ9.out.setL (n4 := n + 1) HA9.out)
      have KG : Hid ((Z9.setCell ⟨kO, 1, none⟩ (.slice A9 (n + 1) c9)).cell? ⟨(w.heap.size + 1), 0, none⟩ = some (.int .i64 h.a) ∧ (Z9.setCell ⟨kO, 1, none⟩ (.slice A9 (n + 1) c9)).cell? ⟨(w.heap.size + 1), 1, none⟩ = some (.int .i64 h.o) ∧ (Z9.setCell ⟨kO, 1, none⟩ (.slice A9 (n + 1) c9)).cell? ⟨(w.heap.size + 1), 2, none⟩ = some (.int .i64 h.t) ∧ (Z9.setCell ⟨kO, 1, none⟩ (.slice A9 (n + 1) c9)).cell? ⟨(w.heap.size + 1), 3, none⟩ = some (.int .u32 h.i) ∧ (Z9.setCell ⟨kO, 1, none⟩ (.slice A9 (n + 1) c9)).cell? ⟨(w.heap.size + 1), 4, none⟩ = some (.int .u32 h.v) ∧ (Z9.setCell ⟨kO, 1, none⟩ (.slice A9 (n + 1) c9)).cell? ⟨(w.heap.size + 1), 5, none⟩ = some (.int .u32 h.q) ∧ (Z9.setCell ⟨kO, 1, none⟩ (.slice A9 (n + 1) c9)).cell? ⟨(w.heap.size + 1), 6, none⟩ = some (.int .i64 h.s) ∧ (Z9.setCell ⟨kO, 1, none⟩ (.slice A9 (n + 1) c9)).cell? ⟨(w.heap.size + 1), 7, none⟩ = some (.int .i64 h.n) ∧ (Z9.setCell ⟨kO, 1, none⟩ (.slice A9 (n + 1) c9)).cell? ⟨(w.heap.size + 1), 8, none⟩ = some (.slice Ab mB d)) := Lib.hid (by obtain ⟨q0, q1, q2, q3, q4, q5, q6, q7, q8, -⟩ := kz9_at PX9.out.GB; exact ⟨q0, q1, q2, q3, q4, q5, q6, q7, q8⟩)
      refine hK.out _ _ KG.out (fun _ => ?_)
      clear hK K
      refine wpAnyH_done (by kernel_rfl) ?_ _
      obtain ⟨ZX, hZX⟩ : ∃ V9, Z9.setCell ⟨kO, 1, none⟩ (.slice A9 (n + 1) c9) = V9 := ⟨_, rfl⟩
      have HR : Hid (putR m (cons L) o (h, B) = ⟨cons (insA L3 p ⟨h, A8, c8, B⟩), o, 3, 0⟩) := Lib.hid (by rw [HR0.out, cons_insA, HC3.out]; rfl)
      have HNN : Hid ((insA L3 p ⟨h, A8, c8, B⟩).length = n + 1) := Lib.hid (by rw [insA_length (by rw [HN3.out]; exact hpn), HN3.out])
      rw [hZX] at PX9 ⊢
      clear y0 y1 y2 f0 f1 f2 hzl hZX KG KF PQ9 HA9 KS
      obtain ⟨o0, o1, o2, -⟩ := kz3_at PX9.out.GO
      obtain ⟨z0, z1, z2, g0, g1, g2, hzl⟩ := kz3_at PX9.out.GC
      go_wp2
      obtain ⟨r0, r1, r2⟩ := kz3_get PX9.out.GC (Value.int .i64 m) (.slice A9 (n + 1) c9) (.bool o)
      refine bodyPost_ret (v := .tuple #[.agg #[.int .i64 m, .slice A9 (n + 1) c9, .bool o], .int .i64 3, .int .i64 0]) (by simp [results, Tryz.results25, go_sem, r0, r1, r2]) rfl (PP.mk PX9.out HNN.out HR.out)
     refine AllReadyH.cons rfl (fun K hK => ?_) AllReadyH.nil
     go_simp
     obtain ⟨Y2, hY2⟩ : ∃ V, Y1.alloc (.cells #[Value.int .i64 h.a, .int .i64 h.o, .int .i64 h.t, .int .u32 h.i, .int .u32 h.v, .int .u32 h.q, .int .i64 h.s, .int .i64 h.n, .slice A8 mB c8] 40) = V := ⟨_, rfl⟩
     have u2 : Below Y1.heap.size Y1 Y2 := by rw [← hY2]; exact below_alloc1 _ _
     have t_Y2 : Below W9.heap.size W9 Y2 := t_Y1.trans (u2.mono t_Y1.size)
     replace go0 := go0.step u2
     replace b8 := b8.step u2
     obtain ⟨k2, hk2⟩ : ∃ k, Y1.heap.size = k := ⟨_, rfl⟩
     have gv : Bk Y2 k2 (.cells (acs ⟨h, A8, c8, B⟩).toArray 40) := by rw [← hk2, ← hY2, show (acs ⟨h, A8, c8, B⟩).toArray = #[.int .i64 h.a, .int .i64 h.o, .int .i64 h.t, .int .u32 h.i, .int .u32 h.v, .int .u32 h.q, .int .i64 h.s, .int .i64 h.n, .slice A8 mB c8] from by simp [acs, HMB.out]]; exact alloc_at _ _ _ rfl
     have hkv : w.heap.size + 3 ≤ k2 ∧ ¬ (A3 : Option Addr) = some ⟨k2, 0, none⟩ := ⟨by have h1 := P3.out.GO.lt; have h2 := P3.out.HK; have h3 := t_Y1.size; omega, fun e => by obtain ⟨cur, mm, hq⟩ := (P3.out.HA.step t_Y1).row.typed e; have := lt_of_block hq; omega⟩
     try rw [hY2]
     try rw [hk2]
     refine hK.out _ _ (KS.out _ t_Y2) (fun _ => ?_)
     clear hK K
     refine wpAnyH_ready (rs := [1]) (by kernel_rfl) (by simp) ?_
     refine AllReadyH.cons rfl (fun K hK => ?_) AllReadyH.nil
     obtain ⟨j0, j1, j2, q0, q1, q2, hjl⟩ := kz3_at go0
     go_simp
     clear j0 j1 j2 q0 q1 q2 hjl
     refine hK.out _ _ (KS.out _ t_Y2) (fun _ => ?_)
     clear hK K
     refine wpAnyH_ready (rs := [6]) (by kernel_rfl) (by simp) ?_
     refine AllReadyH.cons rfl (fun K hK => ?_) AllReadyH.nil
     go_simp
     go_at_call 53
     refine (insert_any (base := w.heap.size + 3) A3 n c3 p k2 L3 ⟨h, A8, c8, B⟩ Y2 (P3.out.HA.step t_Y2) (by have h1 := P3.out.GO.lt; have h2 := P3.out.HK; have h3 := t_Y2.size; omega) HN3.out hpn (by omega) b8 gv hkv.2).mono ?_
     rintro e Z9 ⟨A9, c9, rfl, ha9, kp9, -⟩
     have PQ9 := Lib.hid ((P3.out.step t_Y2).kq kp9)
     have HA9 := Lib.hid ha9
     have KF : Hid (Z9.cell? ⟨(w.heap.size + 1), 0, none⟩ = some (.int .i64 h.a) ∧ Z9.cell? ⟨(w.heap.size + 1), 1, none⟩ = some (.int .i64 h.o) ∧ Z9.cell? ⟨(w.heap.size + 1), 2, none⟩ = some (.int .i64 h.t) ∧ Z9.cell? ⟨(w.heap.size + 1), 3, none⟩ = some (.int .u32 h.i) ∧ Z9.cell? ⟨(w.heap.size + 1), 4, none⟩ = some (.int .u32 h.v) ∧ Z9.cell? ⟨(w.heap.size + 1), 5, none⟩ = some (.int .u32 h.q) ∧ Z9.cell? ⟨(w.heap.size + 1), 6, none⟩ = some (.int .i64 h.s) ∧ Z9.cell? ⟨(w.heap.size + 1), 7, none⟩ = some (.int .i64 h.n) ∧ Z9.cell? ⟨(w.heap.size + 1), 8, none⟩ = some (.slice Ab mB d)) := Lib.hid (by obtain ⟨q0, q1, q2, q3, q4, q5, q6, q7, q8, -⟩ := kz9_at PQ9.out.GB; exact ⟨q0, q1, q2, q3, q4, q5, q6, q7, q8⟩)
     clear ha9 kp9 b8 gv hkv
     refine hK.out _ _ KF.out (fun _ => ?_)
     clear hK K
     refine wpAnyH_take (i := 7) (v := ?_) rfl (by kernel_rfl) (by kernel_rfl) (by kernel_rfl) (fun _ _ _ h => h) (Or.inl ⟨by rfl, ?_⟩) (by assumption) ?_
     rotate_left
     ·(intro w' hSw; (try dsimp only at hSw); go_simp; try with_reducible rfl)
     simp only [Act.put, getElem_toArray, getElem_cons_zero, getElem_cons_succ, setIfInBounds_toArray, set_cons_zero, set_cons_succ]
     refine wpAnyH_ready (rs := [8]) (by kernel_rfl) (by simp) ?_
     refine AllReadyH.cons rfl (fun K hK => ?_) AllReadyH.nil
     obtain ⟨y0, y1, y2, f0, f1, f2, hzl⟩ := kz3_at PQ9.out.GO
     go_simp
     have PX9 := Lib.hid (PQ9.out.setL (n4 := n + 1) HA9.out)
     have KG : Hid ((Z9.setCell ⟨kO, 1, none⟩ (.slice A9 (n + 1) c9)).cell? ⟨(w.heap.size + 1), 0, none⟩ = some (.int .i64 h.a) ∧ (Z9.setCell ⟨kO, 1, none⟩ (.slice A9 (n + 1) c9)).cell? ⟨(w.heap.size + 1), 1, none⟩ = some (.int .i64 h.o) ∧ (Z9.setCell ⟨kO, 1, none⟩ (.slice A9 (n + 1) c9)).cell? ⟨(w.heap.size + 1), 2, none⟩ = some (.int .i64 h.t) ∧ (Z9.setCell ⟨kO, 1, none⟩ (.slice A9 (n + 1) c9)).cell? ⟨(w.heap.size + 1), 3, none⟩ = some (.int .u32 h.i) ∧ (Z9.setCell ⟨kO, 1, none⟩ (.slice A9 (n + 1) c9)).cell? ⟨(w.heap.size + 1), 4, none⟩ = some (.int .u32 h.v) ∧ (Z9.setCell ⟨kO, 1, none⟩ (.slice A9 (n + 1) c9)).cell? ⟨(w.heap.size + 1), 5, none⟩ = some (.int .u32 h.q) ∧ (Z9.setCell ⟨kO, 1, none⟩ (.slice A9 (n + 1) c9)).cell? ⟨(w.heap.size + 1), 6, none⟩ = some (.int .i64 h.s) ∧ (Z9.setCell ⟨kO, 1, none⟩ (.slice A9 (n + 1) c9)).cell? ⟨(w.heap.size + 1), 7, none⟩ = some (.int .i64 h.n) ∧ (Z9.setCell ⟨kO, 1, none⟩ (.slice A9 (n + 1) c9)).cell? ⟨(w.heap.size + 1), 8, none⟩ = some (.slice Ab mB d)) := Lib.hid (by obtain ⟨q0, q1, q2, q3, q4, q5, q6, q7, q8, -⟩ := kz9_at PX9.out.GB; exact ⟨q0, q1, q2, q3, q4, q5, q6, q7, q8⟩)
     refine hK.out _ _ KG.out (fun _ => ?_)
     clear hK K
     refine wpAnyH_done (by kernel_rfl) ?_ _
     obtain ⟨ZX, hZX⟩ : ∃ V9, Z9.setCell ⟨kO, 1, none⟩ (.slice A9 (n + 1) c9) = V9 := ⟨_, rfl⟩
     have HR : Hid (putR m (cons L) o (h, B) = ⟨cons (insA L3 p ⟨h, A8, c8, B⟩), o, 3, 0⟩) := Lib.hid (by rw [HR0.out, cons_insA, HC3.out]; rfl)
     have HNN : Hid ((insA L3 p ⟨h, A8, c8, B⟩).length = n + 1) := Lib.hid (by rw [insA_length (by rw [HN3.out]; exact hpn), HN3.out])
     rw [hZX] at PX9 ⊢
     clear y0 y1 y2 f0 f1 f2 hzl hZX KG KF PQ9 HA9 KS
     obtain ⟨o0, o1, o2, -⟩ := kz3_at PX9.out.GO
     obtain ⟨z0, z1, z2, g0, g1, g2, hzl⟩ := kz3_at PX9.out.GC
     go_wp2
     obtain ⟨r0, r1, r2⟩ := kz3_get PX9.out.GC (Value.int .i64 m) (.slice A9 (n + 1) c9) (.bool o)
     refine bodyPost_ret (v := .tuple #[.agg #[.int .i64 m, .slice A9 (n + 1) c9, .bool o], .int .i64 3, .int .i64 0]) (by simp [results, Tryz.results25, go_sem, r0, r1, r2]) rfl (PP.mk PX9.out HNN.out HR.out)
end Go.Proofs.YtadcicmccdphkaaGreat
