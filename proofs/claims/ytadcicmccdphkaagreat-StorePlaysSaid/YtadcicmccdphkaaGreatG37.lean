/-
  One act on both stores. No statement is proved here; no conditions.
-/
import Derived.Test.YtadcicmccdphkaaGreatG26
import Derived.Test.YtadcicmccdphkaaGreatG14
import Derived.Test.YtadcicmccdphkaaGreatG28
import Derived.Test.YtadcicmccdphkaaGreatG29
import Derived.Test.YtadcicmccdphkaaGreatG35
import Derived.Test.YtadcicmccdphkaaGreatG34
import Derived.Test.YtadcicmccdphkaaGreatG30
import Derived.Test.YtadcicmccdphkaaGreatG36
namespace Go.Proofs.YtadcicmccdphkaaGreat
open Go.RowKit Go.Joins
open List (getElem_toArray getElem_cons_zero getElem_cons_succ setIfInBounds_toArray set_cons_zero set_cons_succ)

theorem Arr.kps {W : World} {A : Option Addr} {L : List Ae} (h : Arr W A L) {b : Nat} {t : TypeId} {x : Int} {A1 : Option Addr} {n1 c1 : Nat} {o1 : Bool} (hb : Bk W b (.cells #[.int .i64 x, .slice A1 n1 c1, .bool o1] t)) (u0 u1 u2 : Value) : Arr (st3 W b u0 u1 u2) A L := by
 have hb' : W.heap[b]? = some (.cells #[Value.int .i64 x, .slice A1 n1 c1, .bool o1] t) := hb
 refine ⟨fun hne => ?_, fun x hx => fun hl => ?_⟩
 ·obtain ⟨b', off, e, hS, hlt, hc⟩ := h.1 hne
  have hL : 0 < L.length := by
   rcases L with _ | ⟨x, L⟩
   ·exact absurd rfl hne
   ·simp
  have hlen : 8 < (aflat L).length := by rw [aflat_length]; omega
  have h8 := hc 8 _ (List.getElem?_eq_getElem hlen)
  have hbb : b' ≠ b := by
   rintro rfl
   simp only [World.cell?, hb'] at h8
   simp at h8
  exact ⟨b', off, e, hS, by rw [size_st3]; exact hlt, fun i u hu => (cell_st3 (p := ⟨b', off + i, none⟩) hbb _ _ _).trans (hc i u hu)⟩
 ·obtain ⟨b', off, e, hlt, hc⟩ := h.2 x hx hl
  have hbb : b' ≠ b := by
   rintro rfl
   have h0 := hc 0 (List.length_pos_iff.2 hl)
   simp only [World.cell?, hb'] at h0
   rcases off with _ | _ | _ | off <;> simp at h0
  exact ⟨b', off, e, by rw [size_st3]; exact hlt, fun i hi => (cell_st3 (p := ⟨b', off + i, none⟩) hbb _ _ _).trans (hc i hi)⟩
structure Two (V : World) (m : Int) (n : Nat) (A A' : Option Addr) (L L' : List Ae) : Prop where
 ln : L.length = n
 eq : cons L' = cons L
 vs : Vs (cons L)
 le : (n : Int) ≤ m
 cp : ∀ x ∈ L, x.l.length ≤ x.c
 cq : ∀ x ∈ L', x.l.length ≤ x.c
 a : Arr V A L
 b : Arr V A' L'
theorem Two.n' {V : World} {m : Int} {n : Nat} {A A' : Option Addr} {L L' : List Ae} (h : Two V m n A A' L L') : L'.length = n := by rw [← cons_length, h.eq, cons_length, h.ln]
theorem Two.step {V V' : World} {m : Int} {n : Nat} {A A' : Option Addr} {L L' : List Ae} (h : Two V m n A A' L L') (k : Below V.heap.size V V') : Two V' m n A A' L L' := ⟨h.ln, h.eq, h.vs, h.le, h.cp, h.cq, Arr.step h.a k, Arr.step h.b k⟩
theorem Two.kps {V : World} {m : Int} {n : Nat} {A A' : Option Addr} {L L' : List Ae} (h : Two V m n A A' L L') {b : Nat} {t : TypeId} {x : Int} {A1 : Option Addr} {n1 c1 : Nat} {o1 : Bool} (hb : Bk V b (.cells #[.int .i64 x, .slice A1 n1 c1, .bool o1] t)) (u0 u1 u2 : Value) : Two (st3 V b u0 u1 u2) m n A A' L L' := ⟨h.ln, h.eq, h.vs, h.le, h.cp, h.cq, h.a.kps hb u0 u1 u2, h.b.kps hb u0 u1 u2⟩
theorem Two.mk' {V : World} {m : Int} {n : Nat} {A A' : Option Addr} {L L' : List Ae} {C : List Ct} (h1 : L.length = n) (h2 : cons L = C) (h3 : cons L' = C) (hv : Vs C) (hle : (C.length : Int) ≤ m) (cp : ∀ x ∈ L, x.l.length ≤ x.c) (cq : ∀ x ∈ L', x.l.length ≤ x.c) (a : Arr V A L) (b : Arr V A' L') : Two V m n A A' L L' := by
 subst h2
 exact ⟨h1, h3, hv, by rw [cons_length, h1] at hle; exact hle, cp, cq, a, b⟩
theorem Two.len2 {n1 n2 : Nat} {L1 L2 : List Ae} {C : List Ct} (h1 : L1.length = n1) (h2 : L2.length = n2) (h3 : cons L1 = C) (h4 : cons L2 = C) : n1 = n2 := by
 rw [← h1, ← h2, ← cons_length L1, ← cons_length L2, h3, h4]
structure SX (w : World) (m : Int) (n c c' : Nat) (o : Bool) (A A' : Option Addr) (L L' : List Ae) (V : World) : Prop where
 b3 : Bk V w.heap.size (.cells #[.int .i64 m, .slice A n c, .bool o] 28)
 b4 : Bk V (w.heap.size + 1) (.cells #[.int .i64 m, .slice A' n c', .bool o] 32)
 b6 : Bk V (w.heap.size + 3) (.cells #[Value.int .i64 0, .slice none 0 0, .bool false] 28)
 b7 : Bk V (w.heap.size + 4) (.cells #[Value.int .i64 0, .slice none 0 0, .bool false] 32)
 hb : Below w.heap.size w V
 t : Two V m n A A' L L'
theorem SX.step {V' : World} {w V : World} {m : Int} {n c c' : Nat} {o : Bool} {A A' : Option Addr} {L L' : List Ae} (h : SX w m n c c' o A A' L L' V) (k : Below V.heap.size V V') : SX w m n c c' o A A' L L' V' := ⟨h.b3.step k, h.b4.step k, h.b6.step k, h.b7.step k, h.hb.trans (k.mono h.hb.size), h.t.step k⟩
theorem Bk.far3 {V : World} {b d : Nat} {ob : Obj} (h : Bk V b ob) (hne : b ≠ d) (u0 u1 u2 : Value) : Bk (st3 V d u0 u1 u2) b ob := (far_st3 hne u0 u1 u2).trans h
theorem SX.swap {w V : World} {m : Int} {n c c' : Nat} {o : Bool} {A A' : Option Addr} {L L' : List Ae} (h : SX w m n c c' o A A' L L' V) {n1 c1 c2 : Nat} {o1 : Bool} {A1 A2 : Option Addr} {L1 L2 : List Ae} (t : Two V m n1 A1 A2 L1 L2) : SX w m n1 c1 c2 o1 A1 A2 L1 L2 (st3 (st3 V w.heap.size (Value.int .i64 m) (.slice A1 n1 c1) (.bool o1)) (w.heap.size + 1) (Value.int .i64 m) (.slice A2 n1 c2) (.bool o1)) :=
 have q4 := h.b4.far3 (d := w.heap.size) (by omega) (Value.int .i64 m) (.slice A1 n1 c1) (.bool o1)
 ⟨Bk.far3 (kz3_set h.b3 _ _ _) (by omega) _ _ _, kz3_set q4 _ _ _, (h.b6.far3 (by omega) _ _ _).far3 (by omega) _ _ _, (h.b7.far3 (by omega) _ _ _).far3 (by omega) _ _ _, below_st3 (below_st3 h.hb (Nat.le_refl _) _ _ _) (by omega) _ _ _, (t.kps h.b3 _ _ _).kps q4 _ _ _⟩
theorem SX.cells {w V : World} {m : Int} {n c c' : Nat} {o : Bool} {A A' : Option Addr} {L L' : List Ae} (h : SX w m n c c' o A A' L L' V) : (V.cell? ⟨w.heap.size, 0, none⟩ = some (.int .i64 m) ∧ V.cell? ⟨w.heap.size, 1, none⟩ = some (.slice A n c) ∧ V.cell? ⟨w.heap.size, 2, none⟩ = some (.bool o)) ∧ V.cell? ⟨(w.heap.size + 1), 0, none⟩ = some (.int .i64 m) ∧ V.cell? ⟨(w.heap.size + 1), 1, none⟩ = some (.slice A' n c') ∧ V.cell? ⟨(w.heap.size + 1), 2, none⟩ = some (.bool o) := ⟨⟨(kz3_at h.b3).1, (kz3_at h.b3).2.1, (kz3_at h.b3).2.2.1⟩, (kz3_at h.b4).1, (kz3_at h.b4).2.1, (kz3_at h.b4).2.2.1⟩
def ActP (m : Int) (w : World) (e : Ending) (w' : World) : Prop := ∃ n1 o1 A1 c1 A2 c2 L1 L2, e = .returned (.tuple #[.agg #[.int .i64 m, .slice A1 n1 c1, .bool o1], .agg #[.int .i64 m, .slice A2 n1 c2, .bool o1], .bool true]) ∧ Two w' m n1 A1 A2 L1 L2 ∧ Below w.heap.size w w'
theorem SX.ret {w V : World} {m : Int} {n c c' : Nat} {o : Bool} {A A' : Option Addr} {L L' : List Ae} (h : SX w m n c c' o A A' L L' V) : Two (st3 (st3 V (w.heap.size + 3) (Value.int .i64 m) (.slice A n c) (.bool o)) (w.heap.size + 4) (Value.int .i64 m) (.slice A' n c') (.bool o)) m n A A' L L' ∧ Below w.heap.size w (st3 (st3 V (w.heap.size + 3) (Value.int .i64 m) (.slice A n c) (.bool o)) (w.heap.size + 4) (Value.int .i64 m) (.slice A' n c') (.bool o)) :=
 ⟨(h.t.kps h.b6 _ _ _).kps (h.b7.far3 (by omega) _ _ _) _ _ _, below_st3 (below_st3 h.hb (by omega) _ _ _) (by omega) _ _ _⟩
/-! ### A block of 14 cells -/
theorem kb14_new {w W0 W : World} {t : TypeId} {v0 v1 v2 v3 v4 v5 v6 v7 v8 v9 v10 v11 v12 v13 : Value} (h0 : w.alloc (.cells #[v0, v1, v2, v3, v4, v5, v6, v7, v8, v9, v10, v11, v12, v13] t) = W0) (h : Below W0.heap.size W0 W) :
  W.cell? ⟨w.heap.size, 0, none⟩ = some v0 ∧ W.cell? ⟨w.heap.size, 1, none⟩ = some v1 ∧ W.cell? ⟨w.heap.size, 2, none⟩ = some v2 ∧ W.cell? ⟨w.heap.size, 3, none⟩ = some v3 ∧ W.cell? ⟨w.heap.size, 4, none⟩ = some v4 ∧ W.cell? ⟨w.heap.size, 5, none⟩ = some v5 ∧ W.cell? ⟨w.heap.size, 6, none⟩ = some v6 ∧ W.cell? ⟨w.heap.size, 7, none⟩ = some v7 ∧ W.cell? ⟨w.heap.size, 8, none⟩ = some v8 ∧ W.cell? ⟨w.heap.size, 9, none⟩ = some v9 ∧ W.cell? ⟨w.heap.size, 10, none⟩ = some v10 ∧ W.cell? ⟨w.heap.size, 11, none⟩ = some v11 ∧ W.cell? ⟨w.heap.size, 12, none⟩ = some v12 ∧ W.cell? ⟨w.heap.size, 13, none⟩ = some v13 := by
 subst h0
 have k := (h.block w.heap.size (by simp)).trans (alloc_at _ _ _ rfl)
 exact ⟨(cell_of_block k 0).trans rfl, (cell_of_block k 1).trans rfl, (cell_of_block k 2).trans rfl, (cell_of_block k 3).trans rfl, (cell_of_block k 4).trans rfl, (cell_of_block k 5).trans rfl, (cell_of_block k 6).trans rfl, (cell_of_block k 7).trans rfl, (cell_of_block k 8).trans rfl, (cell_of_block k 9).trans rfl, (cell_of_block k 10).trans rfl, (cell_of_block k 11).trans rfl, (cell_of_block k 12).trans rfl, (cell_of_block k 13).trans rfl⟩
set_option maxRecDepth 100000 in
set_option maxHeartbeats 16000000 in
theorem act_any (kd yb : Int) (x : Ae) (y : Hd) (m : Int) (A A' : Option Addr) (n c c' : Nat) (o : Bool) (L L' : List Ae) (w : World)
  (ok : Okd x.h) (hy : Byt x.l) (hl3 : x.l.length ≤ 300) (hcp : x.l.length ≤ x.c) (hb : Bt w x.A x.l) (t : Two w m n A A' L L') (hm : m ≤ 2000) :
  Calls Tryz.prog 7 #[.agg #[.int .i64 m, .slice A n c, .bool o], .agg #[.int .i64 m, .slice A' n c', .bool o], .agg #[.int .i64 kd, .int .i64 yb, .int .i64 x.h.a, .int .i64 x.h.o, .int .i64 x.h.t, .int .u32 x.h.i, .int .u32 x.h.v, .int .u32 x.h.q, .int .i64 x.h.s, .int .i64 x.h.n, .slice x.A x.l.length x.c, .int .i64 y.t, .int .u32 y.i, .int .u32 y.v]] w fun e w' => ActP m w e w' := by
 have hn9 : n ≤ 2000 := by have := t.le; omega
 obtain ⟨W0, hW0⟩ : ∃ V, w.alloc (.cells #[Value.int .i64 m, .slice A n c, .bool o] 28) = V := ⟨_, rfl⟩
 have bW0 : Below w.heap.size w W0 := by rw [← hW0]; exact below_alloc1 _ _
 have sW0 : W0.heap.size = w.heap.size + 1 := by rw [← hW0]; simp
 obtain ⟨W1, hW1⟩ : ∃ V, W0.alloc (.cells #[Value.int .i64 m, .slice A' n c', .bool o] 32) = V := ⟨_, rfl⟩
 have bW1 : Below W0.heap.size W0 W1 := by rw [← hW1]; exact below_alloc1 _ _
 have sW1 : W1.heap.size = w.heap.size + 2 := by rw [← hW1]; simp; omega
 obtain ⟨W2, hW2⟩ : ∃ V, W1.alloc (.cells #[Value.int .i64 kd, .int .i64 yb, .int .i64 x.h.a, .int .i64 x.h.o, .int .i64 x.h.t, .int .u32 x.h.i, .int .u32 x.h.v, .int .u32 x.h.q, .int .i64 x.h.s, .int .i64 x.h.n, .slice x.A x.l.length x.c, .int .i64 y.t, .int .u32 y.i, .int .u32 y.v] 42) = V := ⟨_, rfl⟩
 have bW2 : Below W1.heap.size W1 W2 := by rw [← hW2]; exact below_alloc1 _ _
 have sW2 : W2.heap.size = w.heap.size + 3 := by rw [← hW2]; simp; omega
 obtain ⟨W3, hW3⟩ : ∃ V, W2.alloc (.cells #[Value.int .i64 0, .slice none 0 0, .bool false] 28) = V := ⟨_, rfl⟩
 have bW3 : Below W2.heap.size W2 W3 := by rw [← hW3]; exact below_alloc1 _ _
 have sW3 : W3.heap.size = w.heap.size + 4 := by rw [← hW3]; simp; omega
 obtain ⟨W4, hW4⟩ : ∃ V, W3.alloc (.cells #[Value.int .i64 0, .slice none 0 0, .bool false] 32) = V := ⟨_, rfl⟩
 have bW4 : Below W3.heap.size W3 W4 := by rw [← hW4]; exact below_alloc1 _ _
 have sW4 : W4.heap.size = w.heap.size + 5 := by rw [← hW4]; simp; omega
 have z01 := bW0.trans (bW1.mono bW0.size)
 have z14 := bW2.trans ((bW3.trans (bW4.mono bW3.size)).mono bW2.size)
 have z04 := z01.trans (z14.mono z01.size)
 have sx : SX w m n c c' o A A' L L' W4 := ⟨(Bk.mk hW0).step (bW1.trans (z14.mono bW1.size)), (show Bk W4 _ _ by have := (Bk.mk hW1).step z14; rwa [sW0] at this), (show Bk W4 _ _ by have := (Bk.mk hW3).step bW4; rwa [sW2] at this), (show Bk W4 _ _ by have := Bk.mk hW4; rwa [sW3] at this), z04, t.step z04⟩
 have KA : Hid (∀ V, Below W4.heap.size W4 V → V.cell? ⟨(w.heap.size + 2), 0, none⟩ = some (.int .i64 kd) ∧ V.cell? ⟨(w.heap.size + 2), 1, none⟩ = some (.int .i64 yb) ∧ V.cell? ⟨(w.heap.size + 2), 2, none⟩ = some (.int .i64 x.h.a) ∧ V.cell? ⟨(w.heap.size + 2), 3, none⟩ = some (.int .i64 x.h.o) ∧ V.cell? ⟨(w.heap.size + 2), 4, none⟩ = some (.int .i64 x.h.t) ∧ V.cell? ⟨(w.heap.size + 2), 5, none⟩ = some (.int .u32 x.h.i) ∧ V.cell? ⟨(w.heap.size + 2), 6, none⟩ = some (.int .u32 x.h.v) ∧ V.cell? ⟨(w.heap.size + 2), 7, none⟩ = some (.int .u32 x.h.q) ∧ V.cell? ⟨(w.heap.size + 2), 8, none⟩ = some (.int .i64 x.h.s) ∧ V.cell? ⟨(w.heap.size + 2), 9, none⟩ = some (.int .i64 x.h.n) ∧ V.cell? ⟨(w.heap.size + 2), 10, none⟩ = some (.slice x.A x.l.length x.c) ∧ V.cell? ⟨(w.heap.size + 2), 11, none⟩ = some (.int .i64 y.t) ∧ V.cell? ⟨(w.heap.size + 2), 12, none⟩ = some (.int .u32 y.i) ∧ V.cell? ⟨(w.heap.size + 2), 13, none⟩ = some (.int .u32 y.v)) := Lib.hid (fun V hV => by
  have h := kb14_new hW2 ((bW3.trans (bW4.mono bW3.size)).trans (hV.mono (bW3.trans (bW4.mono bW3.size)).size))
  rwa [sW1] at h)
 have S4 := Lib.hid sW4
 clear bW0 bW1 bW2 bW3 bW4 z01 z14 z04
 go_enter Tryz.func7, Tryz.ntmps7
 by_cases g1 : kd = 1
 ·have b1 : (kd == 1) = true := by simp; omega
  have d1 : decide (kd = 1) = true := by simp; omega
  clear g1
  obtain ⟨R, hR⟩ : ∃ R, putR m (cons L) o (x.h, x.l) = R := ⟨_, rfl⟩
  have HV : Vs R.C := by rw [← hR]; exact put_vs t.vs ok hy
  have HE : (R.C.length : Int) ≤ m := by rw [← hR]; exact (put_len t.vs).2.2 (by rw [cons_length, t.ln]; exact t.le)
  have C1 := fun V (sx : SX w m n c c' o A A' L L' V) => sput_any x.h x.A x.l.length x.c x.l m A n c o L V sx.t.ln sx.t.a (by omega) (fun z hz => (sx.t.vs.e z hz).sok) ok hy rfl (by omega) hcp (hb.step sx.hb)
  have C2 := fun V (sx : SX w m n c c' o A A' L L' V) => rput_any x.h x.A x.l.length x.c x.l m A' n c' o L' V sx.t.n' sx.t.b (by omega) (by rw [sx.t.eq]; exact sx.t.vs) ok hy rfl (by omega) hcp (hb.step sx.hb)
  simp only [t.eq, hR] at C1 C2
  have E1 : (R.k == R.k) = true := by simp
  have E2 : (R.e == R.e) = true := by simp
  have E3 : decide (R.k = R.k) = true := by simp
  have E4 : decide (R.e = R.e) = true := by simp
  clear hb ok hy
  have C1' := C1 _ sx
  obtain ⟨k0, k1, k2, -⟩ := kz3_at sx.b3
  obtain ⟨a0, a1, a2, a3, a4, a5, a6, a7, a8, a9, a10, a11, a12, a13⟩ := KA.out _ (Below.refl _ _)
  clear C1
  go_wp2_with fail
  refine C1'.mono ?_
  rintro e Y1 ⟨A1, c1, n1, L1, rfl, hn1, hc1, ar1, u1⟩
  replace sx := sx.step u1
  have TA := Lib.hid u1
  clear C1' k0 k1 k2 a0 a1 a2 a3 a4 a5 a6 a7 a8 a9 a10 a11 a12 a13 hW0 hW1 hW2 hW3 hW4
  obtain ⟨ka, hka⟩ : ∃ q, Y1.heap.size = q := ⟨_, rfl⟩
  obtain ⟨Va, hVa⟩ : ∃ V, Y1.alloc (.cells #[Value.int .i64 0, .slice none 0 0, .bool false] 28) = V := ⟨_, rfl⟩
  have uVa : Below Y1.heap.size Y1 Va := by rw [← hVa]; exact below_alloc1 _ _
  have GVa : Bk Va ka (.cells #[Value.int .i64 0, .slice none 0 0, .bool false] 28) := by rw [← hka]; exact Bk.mk hVa
  obtain ⟨Xa, hXa⟩ : ∃ V, (((Va).setCell ⟨ka, 0, none⟩ (.int .i64 m)).setCell ⟨ka, 1, none⟩ (.slice A1 n1 c1)).setCell ⟨ka, 2, none⟩ (.bool R.o) = V := ⟨_, rfl⟩
  have Ga : Bk Xa ka (.cells #[.int .i64 m, .slice A1 n1 c1, .bool R.o] 28) := by rw [← hXa]; exact kz3_set GVa (.int .i64 m) (.slice A1 n1 c1) (.bool R.o)
  have ua : Below Y1.heap.size Y1 Xa := by rw [← hXa]; exact below_st3 uVa (by rw [← hka]; exact Nat.le_refl _) (.int .i64 m) (.slice A1 n1 c1) (.bool R.o)
  obtain ⟨ya0, ya1, ya2, fa0, fa1, fa2, hza⟩ := kz3_at GVa
  have KLA : Hid (w.heap.size + 5 ≤ ka) := Lib.hid (by have h1 := TA.out.size; have h2 := S4.out; omega)
  replace sx := sx.step ua
  have TB := Lib.hid (TA.out.trans (ua.mono TA.out.size))
  have C2' := C2 _ sx
  obtain ⟨k0, k1, k2, -⟩ := kz3_at sx.b4
  obtain ⟨a0, a1, a2, a3, a4, a5, a6, a7, a8, a9, a10, a11, a12, a13⟩ := KA.out _ TB.out
  clear C2
  go_wp2_with fail
  refine C2'.mono ?_
  rintro e Y2 ⟨A2, c2, n2, L2, rfl, hn2, hc2, cq2, ar2, u2⟩
  replace sx := sx.step u2
  have Ga2 := Ga.step u2
  have AR1 := (ar1.arr.step ua).step u2
  have CP1 : ∀ z ∈ L1, z.l.length ≤ z.c := fun z hz => (ar1.bod z hz).cap
  have hnn := Two.len2 hn1 hn2 hc1 hc2
  subst hnn
  have CQ2 : ∀ z ∈ L2, z.l.length ≤ z.c := (cq2 t.cq)
  have TW := Two.mk' hn1 hc1 hc2 HV HE CP1 CQ2 AR1 ar2
  clear C2' k0 k1 k2 a0 a1 a2 a3 a4 a5 a6 a7 a8 a9 a10 a11 a12 a13 ya0 ya1 ya2 fa0 fa1 fa2 hza hXa hVa hka GVa uVa AR1 ar1 ar2 hc1 hc2 CP1 CQ2 KA TA TB
  obtain ⟨kb, hkb⟩ : ∃ q, Y2.heap.size = q := ⟨_, rfl⟩
  obtain ⟨Vb, hVb⟩ : ∃ V, Y2.alloc (.cells #[Value.int .i64 0, .slice none 0 0, .bool false] 32) = V := ⟨_, rfl⟩
  have uVb : Below Y2.heap.size Y2 Vb := by rw [← hVb]; exact below_alloc1 _ _
  have GVb : Bk Vb kb (.cells #[Value.int .i64 0, .slice none 0 0, .bool false] 32) := by rw [← hkb]; exact Bk.mk hVb
  obtain ⟨Xb, hXb⟩ : ∃ V, (((Vb).setCell ⟨kb, 0, none⟩ (.int .i64 m)).setCell ⟨kb, 1, none⟩ (.slice A2 n1 c2)).setCell ⟨kb, 2, none⟩ (.bool R.o) = V := ⟨_, rfl⟩
  have Gb : Bk Xb kb (.cells #[.int .i64 m, .slice A2 n1 c2, .bool R.o] 32) := by rw [← hXb]; exact kz3_set GVb (.int .i64 m) (.slice A2 n1 c2) (.bool R.o)
  have ub : Below Y2.heap.size Y2 Xb := by rw [← hXb]; exact below_st3 uVb (by rw [← hkb]; exact Nat.le_refl _) (.int .i64 m) (.slice A2 n1 c2) (.bool R.o)
  obtain ⟨yb0, yb1, yb2, fb0, fb1, fb2, hzb⟩ := kz3_at GVb
  have KLB : Hid (w.heap.size + 5 ≤ kb) := Lib.hid (by have h1 := Ga.lt; have h2 := u2.size; have h3 := KLA.out; omega)
  clear Ga
  replace sx := sx.step ub
  have TX := TW.step ub
  have Ga3 := Ga2.step ub
  have hka : w.heap.size + 5 ≤ ka ∧ w.heap.size + 5 ≤ kb := ⟨KLA.out, KLB.out⟩
  have sx5 := sx.swap (c1 := c1) (c2 := c2) (o1 := R.o) TX
  obtain ⟨V4, hV4⟩ : ∃ V, (((Xb).setCell ⟨w.heap.size, 0, none⟩ (.int .i64 m)).setCell ⟨w.heap.size, 1, none⟩ (.slice A1 n1 c1)).setCell ⟨w.heap.size, 2, none⟩ (.bool R.o) = V := ⟨_, rfl⟩
  obtain ⟨V5, hV5⟩ : ∃ V, (((V4).setCell ⟨(w.heap.size + 1), 0, none⟩ (.int .i64 m)).setCell ⟨(w.heap.size + 1), 1, none⟩ (.slice A2 n1 c2)).setCell ⟨(w.heap.size + 1), 2, none⟩ (.bool R.o) = V := ⟨_, rfl⟩
  rw [show st3 (st3 Xb w.heap.size (Value.int .i64 m) (.slice A1 n1 c1) (.bool R.o)) (w.heap.size + 1) (Value.int .i64 m) (.slice A2 n1 c2) (.bool R.o) = V5 by rw [← hV5, ← hV4]] at sx5
  have gb4 : Bk V4 kb (.cells #[.int .i64 m, .slice A2 n1 c2, .bool R.o] 32) := by rw [← hV4]; exact Gb.far3 (by omega) _ _ _
  have b44 : Bk V4 (w.heap.size + 1) (.cells #[.int .i64 m, .slice A' n c', .bool o] 32) := by rw [← hV4]; exact sx.b4.far3 (by omega) _ _ _
  obtain ⟨p0, p1, p2, -⟩ := kz3_at Ga3
  obtain ⟨q0, q1, q2, -⟩ := kz3_at gb4
  obtain ⟨k0, k1, k2, f0, f1, f2, -⟩ := kz3_at sx.b3
  obtain ⟨i0, i1, i2, j0, j1, j2, -⟩ := kz3_at b44
  clear Ga2 Ga3 Gb gb4 b44 sx TX TW
  go_upto_region 27 with fail
  clear p0 p1 p2 q0 q1 q2 k0 k1 k2 f0 f1 f2 i0 i1 i2 j0 j1 j2 hV4 hV5 yb0 yb1 yb2 fb0 fb1 fb2 hzb hXb hVb hkb GVb uVb
  have tt : Below V5.heap.size V5 V5 := Below.refl _ _
  refine wp_region_held_drew (S := fun V => (V.cell? ⟨w.heap.size, 0, none⟩ = some (.int .i64 m) ∧ V.cell? ⟨w.heap.size, 1, none⟩ = some (.slice A1 n1 c1) ∧ V.cell? ⟨w.heap.size, 2, none⟩ = some (.bool R.o)) ∧ V.cell? ⟨(w.heap.size + 1), 0, none⟩ = some (.int .i64 m) ∧ V.cell? ⟨(w.heap.size + 1), 1, none⟩ = some (.slice A2 n1 c2) ∧ V.cell? ⟨(w.heap.size + 1), 2, none⟩ = some (.bool R.o)) (by kernel_rfl) (sx5.step tt.drew).cells (fun hHeld => ?_)
  replace sx5 := sx5.step tt.drew
  replace tt : Below V5.heap.size V5 V5.drew := tt.drew
  generalize hX0 : V5.drew = X0 at tt sx5 hHeld ⊢
  clear hX0
  refine wpAnyH_take (i := 0) (v := ?_) rfl (by kernel_rfl) (by kernel_rfl) (by kernel_rfl) (fun _ _ _ h => h) (Or.inl ⟨by rfl, ?_⟩) (by assumption) ?_
  rotate_left
  ·(intro w' hSw; (try dsimp only at hSw); go_simp; try with_reducible rfl)
  simp only [Act.put, getElem_toArray, getElem_cons_zero, setIfInBounds_toArray, set_cons_zero, set_cons_succ]
  refine wpAnyH_take (i := 1) (v := ?_) rfl (by kernel_rfl) (by kernel_rfl) (by kernel_rfl) (fun _ _ _ h => h) (Or.inl ⟨by rfl, ?_⟩) (by assumption) ?_
  rotate_left
  ·(intro w' hSw; (try dsimp only at hSw); go_simp; try with_reducible rfl)
  simp only [Act.put, getElem_toArray, getElem_cons_zero, getElem_cons_succ, setIfInBounds_toArray, set_cons_zero, set_cons_succ]
  refine wpAnyH_take (i := 2) (v := ?_) rfl (by kernel_rfl) (by kernel_rfl) (by kernel_rfl) (fun _ _ _ h => h) (Or.inl ⟨by rfl, ?_⟩) (by assumption) ?_
  rotate_left
  ·(intro w' hSw; (try dsimp only at hSw); go_simp; try with_reducible rfl)
  simp only [Act.put, getElem_toArray, getElem_cons_zero, getElem_cons_succ, setIfInBounds_toArray, set_cons_zero, set_cons_succ]
  refine wpAnyH_take (i := 3) (v := ?_) rfl (by kernel_rfl) (by kernel_rfl) (by kernel_rfl) (fun _ _ _ h => h) (Or.inl ⟨by rfl, ?_⟩) (by assumption) ?_
  rotate_left
  ·(intro w' hSw; (try dsimp only at hSw); go_simp; try with_reducible rfl)
  simp only [Act.put, getElem_toArray, getElem_cons_zero, getElem_cons_succ, setIfInBounds_toArray, set_cons_zero, set_cons_succ]
  refine wpAnyH_take (i := 4) (v := ?_) rfl (by kernel_rfl) (by kernel_rfl) (by kernel_rfl) (fun _ _ _ h => h) (Or.inl ⟨by rfl, ?_⟩) (by assumption) ?_
  rotate_left
  ·(intro w' hSw; (try dsimp only at hSw); go_simp; try with_reducible rfl)
  simp only [Act.put, getElem_toArray, getElem_cons_zero, getElem_cons_succ, setIfInBounds_toArray, set_cons_zero, set_cons_succ]
  refine wpAnyH_take (i := 5) (v := ?_) rfl (by kernel_rfl) (by kernel_rfl) (by kernel_rfl) (fun _ _ _ h => h) (Or.inl ⟨by rfl, ?_⟩) (by assumption) ?_
  rotate_left
  ·(intro w' hSw; (try dsimp only at hSw); go_simp; try with_reducible rfl)
  simp only [Act.put, getElem_toArray, getElem_cons_zero, getElem_cons_succ, setIfInBounds_toArray, set_cons_zero, set_cons_succ]
  refine wpAnyH_ready (rs := [6]) (by kernel_rfl) (by simp) ?_
  refine AllReadyH.cons rfl (fun K hK => ?_) AllReadyH.nil
  go_simp
  go_at_call 6
  refine (lsame_any m A1 A2 n1 n1 c1 c2 R.o L1 L2 X0 sx5.t.ln rfl sx5.t.eq.symm sx5.t.a sx5.t.b (by have := sx5.t.le; omega)).mono ?_
  rintro e Y1 ⟨rfl, u1⟩
  have t_Y1 : Below V5.heap.size V5 Y1 := tt.trans (u1.mono tt.size)
  replace sx5 := sx5.step u1
  refine hK.out _ _ sx5.cells (fun _ => ?_)
  clear hK K
  refine wpAnyH_take (i := 7) (v := ?_) rfl (by kernel_rfl) (by kernel_rfl) (by kernel_rfl) (fun _ _ _ h => h) (Or.inl ⟨by rfl, ?_⟩) (by assumption) ?_
  rotate_left
  ·(intro w' hSw; (try dsimp only at hSw); go_simp; try with_reducible rfl)
  simp only [Act.put, getElem_toArray, getElem_cons_zero, getElem_cons_succ, setIfInBounds_toArray, set_cons_zero, set_cons_succ]
  refine wpAnyH_ready (rs := [8]) (by kernel_rfl) (by simp) ?_
  refine AllReadyH.cons rfl (fun K hK => ?_) AllReadyH.nil
  obtain ⟨z0, z1, z2, g0, g1, g2, hzl⟩ := kz3_at sx5.b6
  go_simp
  obtain ⟨Y8, hY8⟩ : ∃ V, ((((Y1).setCell ⟨(w.heap.size + 3), 0, none⟩ (.int .i64 m)).setCell ⟨(w.heap.size + 3), 1, none⟩ (.slice A1 n1 c1)).setCell ⟨(w.heap.size + 3), 2, none⟩ (.bool R.o)) = V := ⟨_, rfl⟩
  have h38 : Bk Y8 w.heap.size (.cells #[.int .i64 m, .slice A1 n1 c1, .bool R.o] 28) := by rw [← hY8]; exact sx5.b3.far3 (by omega) _ _ _
  have h48 : Bk Y8 (w.heap.size + 1) (.cells #[.int .i64 m, .slice A2 n1 c2, .bool R.o] 32) := by rw [← hY8]; exact sx5.b4.far3 (by omega) _ _ _
  have h68 : Bk Y8 (w.heap.size + 3) (.cells #[.int .i64 m, .slice A1 n1 c1, .bool R.o] 28) := by rw [← hY8]; exact kz3_set sx5.b6 _ _ _
  have h78 : Bk Y8 (w.heap.size + 4) (.cells #[Value.int .i64 0, .slice none 0 0, .bool false] 32) := by rw [← hY8]; exact sx5.b7.far3 (by omega) _ _ _
  rw [hY8]
  clear z0 z1 z2 g0 g1 g2 hzl
  refine hK.out _ _ ⟨⟨(kz3_at h38).1, (kz3_at h38).2.1, (kz3_at h38).2.2.1⟩, (kz3_at h48).1, (kz3_at h48).2.1, (kz3_at h48).2.2.1⟩ (fun _ => ?_)
  clear hK K
  refine wpAnyH_ready (rs := [9]) (by kernel_rfl) (by simp) ?_
  refine AllReadyH.cons rfl (fun K hK => ?_) AllReadyH.nil
  obtain ⟨z0, z1, z2, g0, g1, g2, hzl⟩ := kz3_at h78
  go_simp
  obtain ⟨Y9, hY9⟩ : ∃ V, ((((Y8).setCell ⟨(w.heap.size + 4), 0, none⟩ (.int .i64 m)).setCell ⟨(w.heap.size + 4), 1, none⟩ (.slice A2 n1 c2)).setCell ⟨(w.heap.size + 4), 2, none⟩ (.bool R.o)) = V := ⟨_, rfl⟩
  have h39 : Bk Y9 w.heap.size (.cells #[.int .i64 m, .slice A1 n1 c1, .bool R.o] 28) := by rw [← hY9]; exact h38.far3 (by omega) _ _ _
  have h49 : Bk Y9 (w.heap.size + 1) (.cells #[.int .i64 m, .slice A2 n1 c2, .bool R.o] 32) := by rw [← hY9]; exact h48.far3 (by omega) _ _ _
  have h69 : Bk Y9 (w.heap.size + 3) (.cells #[.int .i64 m, .slice A1 n1 c1, .bool R.o] 28) := by rw [← hY9]; exact h68.far3 (by omega) _ _ _
  have h79 : Bk Y9 (w.heap.size + 4) (.cells #[.int .i64 m, .slice A2 n1 c2, .bool R.o] 32) := by rw [← hY9]; exact kz3_set h78 _ _ _
  have hret : Two Y9 m n1 A1 A2 L1 L2 ∧ Below w.heap.size w Y9 := by rw [← hY9, ← hY8]; exact sx5.ret
  rw [hY9]
  clear z0 z1 z2 g0 g1 g2 hzl hY9 hY8
  refine hK.out _ _ ⟨⟨(kz3_at h39).1, (kz3_at h39).2.1, (kz3_at h39).2.2.1⟩, (kz3_at h49).1, (kz3_at h49).2.1, (kz3_at h49).2.2.1⟩ (fun _ => ?_)
  clear hK K
  refine wpAnyH_ready (rs := [10]) (by kernel_rfl) (by simp) ?_
  refine AllReadyH.cons rfl (fun K hK => ?_) AllReadyH.nil
  go_simp
  refine hK.out _ _ ⟨⟨(kz3_at h39).1, (kz3_at h39).2.1, (kz3_at h39).2.2.1⟩, (kz3_at h49).1, (kz3_at h49).2.1, (kz3_at h49).2.2.1⟩ (fun _ => ?_)
  clear hK K
  refine wpAnyH_done (by kernel_rfl) ?_ _
  obtain ⟨r0, r1, r2, -⟩ := kz3_at h69
  obtain ⟨q0, q1, q2, -⟩ := kz3_at h79
  clear h39 h49 h69 h79 h38 h48 h68 h78
  go_wp2
  refine bodyPost_ret (v := .tuple #[.agg #[.int .i64 m, .slice A1 n1 c1, .bool R.o], .agg #[.int .i64 m, .slice A2 n1 c2, .bool R.o], .bool true]) (by simp [results, Tryz.results7, go_sem, r0, r1, r2, q0, q1, q2]) rfl ⟨n1, R.o, A1, c1, A2, c2, L1, L2, rfl, hret.1, hret.2⟩
 ·skip
  by_cases g2 : kd = 2
  ·have b1 : (kd == 1) = false := by simp; omega
   have d1 : decide (kd = 1) = false := by simp; omega
   have b2 : (kd == 2) = true := by simp; omega
   have d2 : decide (kd = 2) = true := by simp; omega
   clear g1 g2
   obtain ⟨C, hC⟩ : ∃ C, ((cons L).filter fun x => !kq y x.1) = C := ⟨_, rfl⟩
   have HV : Vs C := by rw [← hC]; exact ⟨fun z hz => t.vs.e z ((List.mem_filter.1 hz).1), t.vs.a.filter _⟩
   have HE : (C.length : Int) ≤ m := by have h1 := List.length_filter_le (fun x : Ct => !kq y x.1) (cons L); have h2 := t.le; rw [hC, cons_length, t.ln] at h1; omega
   have C1 := fun V (sx : SX w m n c c' o A A' L L' V) => sdrop_any y m A n c o L V sx.t.ln sx.t.a (by omega) (fun z hz => by have := (sx.t.vs.e _ (List.mem_map.2 ⟨z, hz, rfl⟩)).sok.n; simp only [con] at this; omega)
   have C2 := fun V (sx : SX w m n c c' o A A' L L' V) => rdrop_any y m A' n c' o L' V sx.t.n' sx.t.b (by omega)
   simp only [t.eq, hC] at C1 C2
   clear hb ok hy
   have C1' := C1 _ sx
   obtain ⟨k0, k1, k2, -⟩ := kz3_at sx.b3
   obtain ⟨a0, a1, a2, a3, a4, a5, a6, a7, a8, a9, a10, a11, a12, a13⟩ := KA.out _ (Below.refl _ _)
   clear C1
   go_wp2_with fail
   refine C1'.mono ?_
   rintro e Y1 ⟨A1, c1, n1, L1, rfl, hn1, hc1, ar1, u1⟩
   replace sx := sx.step u1
   have TA := Lib.hid u1
   clear C1' k0 k1 k2 a0 a1 a2 a3 a4 a5 a6 a7 a8 a9 a10 a11 a12 a13 hW0 hW1 hW2 hW3 hW4
   obtain ⟨ka, hka⟩ : ∃ q, Y1.heap.size = q := ⟨_, rfl⟩
   obtain ⟨Va, hVa⟩ : ∃ V, Y1.alloc (.cells #[Value.int .i64 0, .slice none 0 0, .bool false] 28) = V := ⟨_, rfl⟩
   have uVa : Below Y1.heap.size Y1 Va := by rw [← hVa]; exact below_alloc1 _ _
   have GVa : Bk Va ka (.cells #[Value.int .i64 0, .slice none 0 0, .bool false] 28) := by rw [← hka]; exact Bk.mk hVa
   obtain ⟨Xa, hXa⟩ : ∃ V, (((Va).setCell ⟨ka, 0, none⟩ (.int .i64 m)).setCell ⟨ka, 1, none⟩ (.slice A1 n1 c1)).setCell ⟨ka, 2, none⟩ (.bool o) = V := ⟨_, rfl⟩
   have Ga : Bk Xa ka (.cells #[.int .i64 m, .slice A1 n1 c1, .bool o] 28) := by rw [← hXa]; exact kz3_set GVa (.int .i64 m) (.slice A1 n1 c1) (.bool o)
   have ua : Below Y1.heap.size Y1 Xa := by rw [← hXa]; exact below_st3 uVa (by rw [← hka]; exact Nat.le_refl _) (.int .i64 m) (.slice A1 n1 c1) (.bool o)
   obtain ⟨ya0, ya1, ya2, fa0, fa1, fa2, hza⟩ := kz3_at GVa
   have KLA : Hid (w.heap.size + 5 ≤ ka) := Lib.hid (by have h1 := TA.out.size; have h2 := S4.out; omega)
   replace sx := sx.step ua
   have TB := Lib.hid (TA.out.trans (ua.mono TA.out.size))
   have C2' := C2 _ sx
   obtain ⟨k0, k1, k2, -⟩ := kz3_at sx.b4
   obtain ⟨a0, a1, a2, a3, a4, a5, a6, a7, a8, a9, a10, a11, a12, a13⟩ := KA.out _ TB.out
   clear C2
   go_wp2_with fail
   refine C2'.mono ?_
   rintro e Y2 ⟨A2, c2, n2, L2, rfl, hn2, hc2, hmem, ar2, u2⟩
   replace sx := sx.step u2
   have Ga2 := Ga.step u2
   have AR1 := (ar1.arr.step ua).step u2
   have CP1 : ∀ z ∈ L1, z.l.length ≤ z.c := fun z hz => (ar1.bod z hz).cap
   have hnn := Two.len2 hn1 hn2 hc1 hc2
   subst hnn
   have CQ2 : ∀ z ∈ L2, z.l.length ≤ z.c := (fun z hz => t.cq z (hmem z hz))
   have TW := Two.mk' hn1 hc1 hc2 HV HE CP1 CQ2 AR1 ar2
   clear C2' k0 k1 k2 a0 a1 a2 a3 a4 a5 a6 a7 a8 a9 a10 a11 a12 a13 ya0 ya1 ya2 fa0 fa1 fa2 hza hXa hVa hka GVa uVa AR1 ar1 ar2 hc1 hc2 CP1 CQ2 KA TA TB
   obtain ⟨kb, hkb⟩ : ∃ q, Y2.heap.size = q := ⟨_, rfl⟩
   obtain ⟨Vb, hVb⟩ : ∃ V, Y2.alloc (.cells #[Value.int .i64 0, .slice none 0 0, .bool false] 32) = V := ⟨_, rfl⟩
   have uVb : Below Y2.heap.size Y2 Vb := by rw [← hVb]; exact below_alloc1 _ _
   have GVb : Bk Vb kb (.cells #[Value.int .i64 0, .slice none 0 0, .bool false] 32) := by rw [← hkb]; exact Bk.mk hVb
   obtain ⟨Xb, hXb⟩ : ∃ V, (((Vb).setCell ⟨kb, 0, none⟩ (.int .i64 m)).setCell ⟨kb, 1, none⟩ (.slice A2 n1 c2)).setCell ⟨kb, 2, none⟩ (.bool o) = V := ⟨_, rfl⟩
   have Gb : Bk Xb kb (.cells #[.int .i64 m, .slice A2 n1 c2, .bool o] 32) := by rw [← hXb]; exact kz3_set GVb (.int .i64 m) (.slice A2 n1 c2) (.bool o)
   have ub : Below Y2.heap.size Y2 Xb := by rw [← hXb]; exact below_st3 uVb (by rw [← hkb]; exact Nat.le_refl _) (.int .i64 m) (.slice A2 n1 c2) (.bool o)
   obtain ⟨yb0, yb1, yb2, fb0, fb1, fb2, hzb⟩ := kz3_at GVb
   have KLB : Hid (w.heap.size + 5 ≤ kb) := Lib.hid (by have h1 := Ga.lt; have h2 := u2.size; have h3 := KLA.out; omega)
   clear Ga
   replace sx := sx.step ub
   have TX := TW.step ub
   have Ga3 := Ga2.step ub
   have hka : w.heap.size + 5 ≤ ka ∧ w.heap.size + 5 ≤ kb := ⟨KLA.out, KLB.out⟩
   have sx5 := sx.swap (c1 := c1) (c2 := c2) (o1 := o) TX
   obtain ⟨V4, hV4⟩ : ∃ V, (((Xb).setCell ⟨w.heap.size, 0, none⟩ (.int .i64 m)).setCell ⟨w.heap.size, 1, none⟩ (.slice A1 n1 c1)).setCell ⟨w.heap.size, 2, none⟩ (.bool o) = V := ⟨_, rfl⟩
   obtain ⟨V5, hV5⟩ : ∃ V, (((V4).setCell ⟨(w.heap.size + 1), 0, none⟩ (.int .i64 m)).setCell ⟨(w.heap.size + 1), 1, none⟩ (.slice A2 n1 c2)).setCell ⟨(w.heap.size + 1), 2, none⟩ (.bool o) = V := ⟨_, rfl⟩
   rw [show st3 (st3 Xb w.heap.size (Value.int .i64 m) (.slice A1 n1 c1) (.bool o)) (w.heap.size + 1) (Value.int .i64 m) (.slice A2 n1 c2) (.bool o) = V5 by rw [← hV5, ← hV4]] at sx5
   have gb4 : Bk V4 kb (.cells #[.int .i64 m, .slice A2 n1 c2, .bool o] 32) := by rw [← hV4]; exact Gb.far3 (by omega) _ _ _
   have b44 : Bk V4 (w.heap.size + 1) (.cells #[.int .i64 m, .slice A' n c', .bool o] 32) := by rw [← hV4]; exact sx.b4.far3 (by omega) _ _ _
   obtain ⟨p0, p1, p2, -⟩ := kz3_at Ga3
   obtain ⟨q0, q1, q2, -⟩ := kz3_at gb4
   obtain ⟨k0, k1, k2, f0, f1, f2, -⟩ := kz3_at sx.b3
   obtain ⟨i0, i1, i2, j0, j1, j2, -⟩ := kz3_at b44
   clear Ga2 Ga3 Gb gb4 b44 sx TX TW
   go_upto_region 27 with fail
   clear p0 p1 p2 q0 q1 q2 k0 k1 k2 f0 f1 f2 i0 i1 i2 j0 j1 j2 hV4 hV5 yb0 yb1 yb2 fb0 fb1 fb2 hzb hXb hVb hkb GVb uVb
   have tt : Below V5.heap.size V5 V5 := Below.refl _ _
   refine wp_region_held_drew (S := fun V => (V.cell? ⟨w.heap.size, 0, none⟩ = some (.int .i64 m) ∧ V.cell? ⟨w.heap.size, 1, none⟩ = some (.slice A1 n1 c1) ∧ V.cell? ⟨w.heap.size, 2, none⟩ = some (.bool o)) ∧ V.cell? ⟨(w.heap.size + 1), 0, none⟩ = some (.int .i64 m) ∧ V.cell? ⟨(w.heap.size + 1), 1, none⟩ = some (.slice A2 n1 c2) ∧ V.cell? ⟨(w.heap.size + 1), 2, none⟩ = some (.bool o)) (by kernel_rfl) (sx5.step tt.drew).cells (fun hHeld => ?_)
   replace sx5 := sx5.step tt.drew
   replace tt : Below V5.heap.size V5 V5.drew := tt.drew
   generalize hX0 : V5.drew = X0 at tt sx5 hHeld ⊢
   clear hX0
   refine wpAnyH_take (i := 0) (v := ?_) rfl (by kernel_rfl) (by kernel_rfl) (by kernel_rfl) (fun _ _ _ h => h) (Or.inl ⟨by rfl, ?_⟩) (by assumption) ?_
   rotate_left
   ·(intro w' hSw; (try dsimp only at hSw); go_simp; try with_reducible rfl)
   simp only [Act.put, getElem_toArray, getElem_cons_zero, setIfInBounds_toArray, set_cons_zero, set_cons_succ]
   refine wpAnyH_take (i := 1) (v := ?_) rfl (by kernel_rfl) (by kernel_rfl) (by kernel_rfl) (fun _ _ _ h => h) (Or.inl ⟨by rfl, ?_⟩) (by assumption) ?_
   rotate_left
   ·(intro w' hSw; (try dsimp only at hSw); go_simp; try with_reducible rfl)
   simp only [Act.put, getElem_toArray, getElem_cons_zero, getElem_cons_succ, setIfInBounds_toArray, set_cons_zero, set_cons_succ]
   refine wpAnyH_take (i := 2) (v := ?_) rfl (by kernel_rfl) (by kernel_rfl) (by kernel_rfl) (fun _ _ _ h => h) (Or.inl ⟨by rfl, ?_⟩) (by assumption) ?_
   rotate_left
   ·(intro w' hSw; (try dsimp only at hSw); go_simp; try with_reducible rfl)
   simp only [Act.put, getElem_toArray, getElem_cons_zero, getElem_cons_succ, setIfInBounds_toArray, set_cons_zero, set_cons_succ]
   refine wpAnyH_take (i := 3) (v := ?_) rfl (by kernel_rfl) (by kernel_rfl) (by kernel_rfl) (fun _ _ _ h => h) (Or.inl ⟨by rfl, ?_⟩) (by assumption) ?_
   rotate_left
   ·(intro w' hSw; (try dsimp only at hSw); go_simp; try with_reducible rfl)
   simp only [Act.put, getElem_toArray, getElem_cons_zero, getElem_cons_succ, setIfInBounds_toArray, set_cons_zero, set_cons_succ]
   refine wpAnyH_take (i := 4) (v := ?_) rfl (by kernel_rfl) (by kernel_rfl) (by kernel_rfl) (fun _ _ _ h => h) (Or.inl ⟨by rfl, ?_⟩) (by assumption) ?_
   rotate_left
   ·(intro w' hSw; (try dsimp only at hSw); go_simp; try with_reducible rfl)
   simp only [Act.put, getElem_toArray, getElem_cons_zero, getElem_cons_succ, setIfInBounds_toArray, set_cons_zero, set_cons_succ]
   refine wpAnyH_take (i := 5) (v := ?_) rfl (by kernel_rfl) (by kernel_rfl) (by kernel_rfl) (fun _ _ _ h => h) (Or.inl ⟨by rfl, ?_⟩) (by assumption) ?_
   rotate_left
   ·(intro w' hSw; (try dsimp only at hSw); go_simp; try with_reducible rfl)
   simp only [Act.put, getElem_toArray, getElem_cons_zero, getElem_cons_succ, setIfInBounds_toArray, set_cons_zero, set_cons_succ]
   refine wpAnyH_ready (rs := [6]) (by kernel_rfl) (by simp) ?_
   refine AllReadyH.cons rfl (fun K hK => ?_) AllReadyH.nil
   go_simp
   go_at_call 6
   refine (lsame_any m A1 A2 n1 n1 c1 c2 o L1 L2 X0 sx5.t.ln rfl sx5.t.eq.symm sx5.t.a sx5.t.b (by have := sx5.t.le; omega)).mono ?_
   rintro e Y1 ⟨rfl, u1⟩
   have t_Y1 : Below V5.heap.size V5 Y1 := tt.trans (u1.mono tt.size)
   replace sx5 := sx5.step u1
   refine hK.out _ _ sx5.cells (fun _ => ?_)
   clear hK K
   refine wpAnyH_take (i := 7) (v := ?_) rfl (by kernel_rfl) (by kernel_rfl) (by kernel_rfl) (fun _ _ _ h => h) (Or.inl ⟨by rfl, ?_⟩) (by assumption) ?_
   rotate_left
   ·(intro w' hSw; (try dsimp only at hSw); go_simp; try with_reducible rfl)
   simp only [Act.put, getElem_toArray, getElem_cons_zero, getElem_cons_succ, setIfInBounds_toArray, set_cons_zero, set_cons_succ]
   refine wpAnyH_ready (rs := [8]) (by kernel_rfl) (by simp) ?_
   refine AllReadyH.cons rfl (fun K hK => ?_) AllReadyH.nil
   obtain ⟨z0, z1, z2, g0, g1, g2, hzl⟩ := kz3_at sx5.b6
   go_simp
   obtain ⟨Y8, hY8⟩ : ∃ V, ((((Y1).setCell ⟨(w.heap.size + 3), 0, none⟩ (.int .i64 m)).setCell ⟨(w.heap.size + 3), 1, none⟩ (.slice A1 n1 c1)).setCell ⟨(w.heap.size + 3), 2, none⟩ (.bool o)) = V := ⟨_, rfl⟩
   have h38 : Bk Y8 w.heap.size (.cells #[.int .i64 m, .slice A1 n1 c1, .bool o] 28) := by rw [← hY8]; exact sx5.b3.far3 (by omega) _ _ _
   have h48 : Bk Y8 (w.heap.size + 1) (.cells #[.int .i64 m, .slice A2 n1 c2, .bool o] 32) := by rw [← hY8]; exact sx5.b4.far3 (by omega) _ _ _
   have h68 : Bk Y8 (w.heap.size + 3) (.cells #[.int .i64 m, .slice A1 n1 c1, .bool o] 28) := by rw [← hY8]; exact kz3_set sx5.b6 _ _ _
   have h78 : Bk Y8 (w.heap.size + 4) (.cells #[Value.int .i64 0, .slice none 0 0, .bool false] 32) := by rw [← hY8]; exact sx5.b7.far3 (by omega) _ _ _
   rw [hY8]
   clear z0 z1 z2 g0 g1 g2 hzl
   refine hK.out _ _ ⟨⟨(kz3_at h38).1, (kz3_at h38).2.1, (kz3_at h38).2.2.1⟩, (kz3_at h48).1, (kz3_at h48).2.1, (kz3_at h48).2.2.1⟩ (fun _ => ?_)
   clear hK K
   refine wpAnyH_ready (rs := [9]) (by kernel_rfl) (by simp) ?_
   refine AllReadyH.cons rfl (fun K hK => ?_) AllReadyH.nil
   obtain ⟨z0, z1, z2, g0, g1, g2, hzl⟩ := kz3_at h78
   go_simp
   obtain ⟨Y9, hY9⟩ : ∃ V, ((((Y8).setCell ⟨(w.heap.size + 4), 0, none⟩ (.int .i64 m)).setCell ⟨(w.heap.size + 4), 1, none⟩ (.slice A2 n1 c2)).setCell ⟨(w.heap.size + 4), 2, none⟩ (.bool o)) = V := ⟨_, rfl⟩
   have h39 : Bk Y9 w.heap.size (.cells #[.int .i64 m, .slice A1 n1 c1, .bool o] 28) := by rw [← hY9]; exact h38.far3 (by omega) _ _ _
   have h49 : Bk Y9 (w.heap.size + 1) (.cells #[.int .i64 m, .slice A2 n1 c2, .bool o] 32) := by rw [← hY9]; exact h48.far3 (by omega) _ _ _
   have h69 : Bk Y9 (w.heap.size + 3) (.cells #[.int .i64 m, .slice A1 n1 c1, .bool o] 28) := by rw [← hY9]; exact h68.far3 (by omega) _ _ _
   have h79 : Bk Y9 (w.heap.size + 4) (.cells #[.int .i64 m, .slice A2 n1 c2, .bool o] 32) := by rw [← hY9]; exact kz3_set h78 _ _ _
   have hret : Two Y9 m n1 A1 A2 L1 L2 ∧ Below w.heap.size w Y9 := by rw [← hY9, ← hY8]; exact sx5.ret
   rw [hY9]
   clear z0 z1 z2 g0 g1 g2 hzl hY9 hY8
   refine hK.out _ _ ⟨⟨(kz3_at h39).1, (kz3_at h39).2.1, (kz3_at h39).2.2.1⟩, (kz3_at h49).1, (kz3_at h49).2.1, (kz3_at h49).2.2.1⟩ (fun _ => ?_)
   clear hK K
   refine wpAnyH_ready (rs := [10]) (by kernel_rfl) (by simp) ?_
   refine AllReadyH.cons rfl (fun K hK => ?_) AllReadyH.nil
   go_simp
   refine hK.out _ _ ⟨⟨(kz3_at h39).1, (kz3_at h39).2.1, (kz3_at h39).2.2.1⟩, (kz3_at h49).1, (kz3_at h49).2.1, (kz3_at h49).2.2.1⟩ (fun _ => ?_)
   clear hK K
   refine wpAnyH_done (by kernel_rfl) ?_ _
   obtain ⟨r0, r1, r2, -⟩ := kz3_at h69
   obtain ⟨q0, q1, q2, -⟩ := kz3_at h79
   clear h39 h49 h69 h79 h38 h48 h68 h78
   go_wp2
   refine bodyPost_ret (v := .tuple #[.agg #[.int .i64 m, .slice A1 n1 c1, .bool o], .agg #[.int .i64 m, .slice A2 n1 c2, .bool o], .bool true]) (by simp [results, Tryz.results7, go_sem, r0, r1, r2, q0, q1, q2]) rfl ⟨n1, o, A1, c1, A2, c2, L1, L2, rfl, hret.1, hret.2⟩
  ·skip
   by_cases g3 : kd = 3
   ·have b1 : (kd == 1) = false := by simp; omega
    have d1 : decide (kd = 1) = false := by simp; omega
    have b2 : (kd == 2) = false := by simp; omega
    have d2 : decide (kd = 2) = false := by simp; omega
    have b3 : (kd == 3) = true := by simp; omega
    have d3 : decide (kd = 3) = true := by simp; omega
    clear g1 g2 g3
    obtain ⟨C, hC⟩ : ∃ C, tickC (cons L) yb = C := ⟨_, rfl⟩
    have HV : Vs C := by rw [← hC]; exact vs_tick t.vs yb
    have HE : (C.length : Int) ≤ m := by rw [← hC, tickC_len, cons_length, t.ln]; exact t.le
    have hkl : (ends (cons L) yb).length ≤ 2000 := by have h1 := ends_len (cons L) yb; rw [cons_length, t.ln] at h1; omega
    have C1 := fun V (sx : SX w m n c c' o A A' L L' V) => stick_any yb m A n c o L V sx.t.ln sx.t.a (by omega) (fun z hz => by have := (sx.t.vs.e _ (List.mem_map.2 ⟨z, hz, rfl⟩)).sok.n; simp only [con] at this; omega) (fun z hz => (sx.t.vs.e _ (List.mem_map.2 ⟨z, hz, rfl⟩)).sok.a)
    have C2 := fun V (sx : SX w m n c c' o A A' L L' V) => rtick_any yb m A' n c' o L' V sx.t.n' sx.t.b (by omega) (fun z hz => (sx.t.vs.e (con z) (by rw [← sx.t.eq]; exact List.mem_map.2 ⟨z, hz, rfl⟩)).sok.a)
    obtain ⟨L2, hL2⟩ : ∃ q, L'.map (tkA yb) = q := ⟨_, rfl⟩
    have hc2 : cons L2 = C := by rw [← hL2, cons_tkA, t.eq, hC]
    have hcap2 : ∀ z ∈ L2, z.l.length ≤ z.c := by rw [← hL2]; intro z hz; obtain ⟨x, hx, rfl⟩ := List.mem_map.1 hz; exact t.cq x hx
    simp only [t.eq, hC, hL2] at C1 C2
    obtain ⟨ks, hks⟩ : ∃ q, ends (cons L) yb = q := ⟨_, rfl⟩
    rw [hks] at hkl
    simp only [hks] at C1 C2
    clear hks
    clear hb ok hy
    have C1' := C1 _ sx
    obtain ⟨k0, k1, k2, -⟩ := kz3_at sx.b3
    obtain ⟨a0, a1, a2, a3, a4, a5, a6, a7, a8, a9, a10, a11, a12, a13⟩ := KA.out _ (Below.refl _ _)
    clear C1
    go_wp2_with fail
    refine C1'.mono ?_
    rintro e Y1 ⟨A1, c1, n1, L1, Ak, ck, q1, rfl, hn1, hc1, ar1, hq1, kr1, u1⟩
    replace sx := sx.step u1
    have TA := Lib.hid u1
    clear C1' k0 k1 k2 a0 a1 a2 a3 a4 a5 a6 a7 a8 a9 a10 a11 a12 a13 hW0 hW1 hW2 hW3 hW4
    obtain ⟨ka, hka⟩ : ∃ q, Y1.heap.size = q := ⟨_, rfl⟩
    obtain ⟨Va, hVa⟩ : ∃ V, Y1.alloc (.cells #[Value.int .i64 0, .slice none 0 0, .bool false] 28) = V := ⟨_, rfl⟩
    have uVa : Below Y1.heap.size Y1 Va := by rw [← hVa]; exact below_alloc1 _ _
    have GVa : Bk Va ka (.cells #[Value.int .i64 0, .slice none 0 0, .bool false] 28) := by rw [← hka]; exact Bk.mk hVa
    obtain ⟨Xa, hXa⟩ : ∃ V, (((Va).setCell ⟨ka, 0, none⟩ (.int .i64 m)).setCell ⟨ka, 1, none⟩ (.slice A1 n1 c1)).setCell ⟨ka, 2, none⟩ (.bool o) = V := ⟨_, rfl⟩
    have Ga : Bk Xa ka (.cells #[.int .i64 m, .slice A1 n1 c1, .bool o] 28) := by rw [← hXa]; exact kz3_set GVa (.int .i64 m) (.slice A1 n1 c1) (.bool o)
    have ua : Below Y1.heap.size Y1 Xa := by rw [← hXa]; exact below_st3 uVa (by rw [← hka]; exact Nat.le_refl _) (.int .i64 m) (.slice A1 n1 c1) (.bool o)
    obtain ⟨ya0, ya1, ya2, fa0, fa1, fa2, hza⟩ := kz3_at GVa
    have KLA : Hid (w.heap.size + 5 ≤ ka) := Lib.hid (by have h1 := TA.out.size; have h2 := S4.out; omega)
    replace sx := sx.step ua
    have TB := Lib.hid (TA.out.trans (ua.mono TA.out.size))
    have C2' := C2 _ sx
    obtain ⟨k0, k1, k2, -⟩ := kz3_at sx.b4
    obtain ⟨a0, a1, a2, a3, a4, a5, a6, a7, a8, a9, a10, a11, a12, a13⟩ := KA.out _ TB.out
    clear C2
    go_wp2_with fail
    refine C2'.mono ?_
    rintro e Y2 ⟨A2, c2, n2, Aq, cq, q2, rfl, hn2, ar2, hq2, kr2, u2⟩
    replace sx := sx.step u2
    have Ga2 := Ga.step u2
    have AR1 := (ar1.arr.step ua).step u2
    have CP1 : ∀ z ∈ L1, z.l.length ≤ z.c := fun z hz => (ar1.bod z hz).cap
    have hnn := Two.len2 hn1 hn2 hc1 hc2
    subst hnn
    have KR1 := (kr1.step ua).step u2
    obtain rfl : q1 = q2 := hq1.symm.trans hq2
    clear kr1 hq2
    have CQ2 : ∀ z ∈ L2, z.l.length ≤ z.c := hcap2
    have TW := Two.mk' hn1 hc1 hc2 HV HE CP1 CQ2 AR1 ar2
    clear C2' k0 k1 k2 a0 a1 a2 a3 a4 a5 a6 a7 a8 a9 a10 a11 a12 a13 ya0 ya1 ya2 fa0 fa1 fa2 hza hXa hVa hka GVa uVa AR1 ar1 ar2 hc1 hc2 CP1 CQ2 KA TA TB
    obtain ⟨kb, hkb⟩ : ∃ q, Y2.heap.size = q := ⟨_, rfl⟩
    obtain ⟨Vb, hVb⟩ : ∃ V, Y2.alloc (.cells #[Value.int .i64 0, .slice none 0 0, .bool false] 32) = V := ⟨_, rfl⟩
    have uVb : Below Y2.heap.size Y2 Vb := by rw [← hVb]; exact below_alloc1 _ _
    have GVb : Bk Vb kb (.cells #[Value.int .i64 0, .slice none 0 0, .bool false] 32) := by rw [← hkb]; exact Bk.mk hVb
    obtain ⟨Xb, hXb⟩ : ∃ V, (((Vb).setCell ⟨kb, 0, none⟩ (.int .i64 m)).setCell ⟨kb, 1, none⟩ (.slice A2 n1 c2)).setCell ⟨kb, 2, none⟩ (.bool o) = V := ⟨_, rfl⟩
    have Gb : Bk Xb kb (.cells #[.int .i64 m, .slice A2 n1 c2, .bool o] 32) := by rw [← hXb]; exact kz3_set GVb (.int .i64 m) (.slice A2 n1 c2) (.bool o)
    have ub : Below Y2.heap.size Y2 Xb := by rw [← hXb]; exact below_st3 uVb (by rw [← hkb]; exact Nat.le_refl _) (.int .i64 m) (.slice A2 n1 c2) (.bool o)
    obtain ⟨yb0, yb1, yb2, fb0, fb1, fb2, hzb⟩ := kz3_at GVb
    have KLB : Hid (w.heap.size + 5 ≤ kb) := Lib.hid (by have h1 := Ga.lt; have h2 := u2.size; have h3 := KLA.out; omega)
    clear Ga
    replace sx := sx.step ub
    have TX := TW.step ub
    have Ga3 := Ga2.step ub
    have CK := keys_any Ak Aq q1 ck cq ks Xb hq1 (KR1.step ub) (kr2.step ub) (by omega)
    go_upto_region 18 with fail
    clear yb0 yb1 yb2 fb0 fb1 fb2 hzb hXb hVb hkb GVb uVb
    go_wp2_with fail
    refine CK.mono ?_
    rintro e Y3 ⟨rfl, u3⟩
    replace sx := sx.step u3
    replace TX := TX.step u3
    replace Ga3 := Ga3.step u3
    replace Gb := Gb.step u3
    have hka : w.heap.size + 5 ≤ ka ∧ w.heap.size + 5 ≤ kb := ⟨KLA.out, KLB.out⟩
    have sx5 := sx.swap (c1 := c1) (c2 := c2) (o1 := o) TX
    obtain ⟨V4, hV4⟩ : ∃ V, (((Y3).setCell ⟨w.heap.size, 0, none⟩ (.int .i64 m)).setCell ⟨w.heap.size, 1, none⟩ (.slice A1 n1 c1)).setCell ⟨w.heap.size, 2, none⟩ (.bool o) = V := ⟨_, rfl⟩
    obtain ⟨V5, hV5⟩ : ∃ V, (((V4).setCell ⟨(w.heap.size + 1), 0, none⟩ (.int .i64 m)).setCell ⟨(w.heap.size + 1), 1, none⟩ (.slice A2 n1 c2)).setCell ⟨(w.heap.size + 1), 2, none⟩ (.bool o) = V := ⟨_, rfl⟩
    rw [show st3 (st3 Y3 w.heap.size (Value.int .i64 m) (.slice A1 n1 c1) (.bool o)) (w.heap.size + 1) (Value.int .i64 m) (.slice A2 n1 c2) (.bool o) = V5 by rw [← hV5, ← hV4]] at sx5
    have gb4 : Bk V4 kb (.cells #[.int .i64 m, .slice A2 n1 c2, .bool o] 32) := by rw [← hV4]; exact Gb.far3 (by omega) _ _ _
    have b44 : Bk V4 (w.heap.size + 1) (.cells #[.int .i64 m, .slice A' n c', .bool o] 32) := by rw [← hV4]; exact sx.b4.far3 (by omega) _ _ _
    obtain ⟨p0, p1, p2, -⟩ := kz3_at Ga3
    obtain ⟨q0, q1, q2, -⟩ := kz3_at gb4
    obtain ⟨k0, k1, k2, f0, f1, f2, -⟩ := kz3_at sx.b3
    obtain ⟨i0, i1, i2, j0, j1, j2, -⟩ := kz3_at b44
    clear Ga2 Ga3 Gb gb4 b44 sx TX TW
    go_upto_region 27 with fail
    clear p0 p1 p2 q0 q1 q2 k0 k1 k2 f0 f1 f2 i0 i1 i2 j0 j1 j2 hV4 hV5
    have tt : Below V5.heap.size V5 V5 := Below.refl _ _
    refine wp_region_held_drew (S := fun V => (V.cell? ⟨w.heap.size, 0, none⟩ = some (.int .i64 m) ∧ V.cell? ⟨w.heap.size, 1, none⟩ = some (.slice A1 n1 c1) ∧ V.cell? ⟨w.heap.size, 2, none⟩ = some (.bool o)) ∧ V.cell? ⟨(w.heap.size + 1), 0, none⟩ = some (.int .i64 m) ∧ V.cell? ⟨(w.heap.size + 1), 1, none⟩ = some (.slice A2 n1 c2) ∧ V.cell? ⟨(w.heap.size + 1), 2, none⟩ = some (.bool o)) (by kernel_rfl) (sx5.step tt.drew).cells (fun hHeld => ?_)
    replace sx5 := sx5.step tt.drew
    replace tt : Below V5.heap.size V5 V5.drew := tt.drew
    generalize hX0 : V5.drew = X0 at tt sx5 hHeld ⊢
    clear hX0
    refine wpAnyH_take (i := 0) (v := ?_) rfl (by kernel_rfl) (by kernel_rfl) (by kernel_rfl) (fun _ _ _ h => h) (Or.inl ⟨by rfl, ?_⟩) (by assumption) ?_
    rotate_left
    ·(intro w' hSw; (try dsimp only at hSw); go_simp; try with_reducible rfl)
    simp only [Act.put, getElem_toArray, getElem_cons_zero, setIfInBounds_toArray, set_cons_zero, set_cons_succ]
    refine wpAnyH_take (i := 1) (v := ?_) rfl (by kernel_rfl) (by kernel_rfl) (by kernel_rfl) (fun _ _ _ h => h) (Or.inl ⟨by rfl, ?_⟩) (by assumption) ?_
    rotate_left
    ·(intro w' hSw; (try dsimp only at hSw); go_simp; try with_reducible rfl)
    simp only [Act.put, getElem_toArray, getElem_cons_zero, getElem_cons_succ, setIfInBounds_toArray, set_cons_zero, set_cons_succ]
    refine wpAnyH_take (i := 2) (v := ?_) rfl (by kernel_rfl) (by kernel_rfl) (by kernel_rfl) (fun _ _ _ h => h) (Or.inl ⟨by rfl, ?_⟩) (by assumption) ?_
    rotate_left
    ·(intro w' hSw; (try dsimp only at hSw); go_simp; try with_reducible rfl)
    simp only [Act.put, getElem_toArray, getElem_cons_zero, getElem_cons_succ, setIfInBounds_toArray, set_cons_zero, set_cons_succ]
    refine wpAnyH_take (i := 3) (v := ?_) rfl (by kernel_rfl) (by kernel_rfl) (by kernel_rfl) (fun _ _ _ h => h) (Or.inl ⟨by rfl, ?_⟩) (by assumption) ?_
    rotate_left
    ·(intro w' hSw; (try dsimp only at hSw); go_simp; try with_reducible rfl)
    simp only [Act.put, getElem_toArray, getElem_cons_zero, getElem_cons_succ, setIfInBounds_toArray, set_cons_zero, set_cons_succ]
    refine wpAnyH_take (i := 4) (v := ?_) rfl (by kernel_rfl) (by kernel_rfl) (by kernel_rfl) (fun _ _ _ h => h) (Or.inl ⟨by rfl, ?_⟩) (by assumption) ?_
    rotate_left
    ·(intro w' hSw; (try dsimp only at hSw); go_simp; try with_reducible rfl)
    simp only [Act.put, getElem_toArray, getElem_cons_zero, getElem_cons_succ, setIfInBounds_toArray, set_cons_zero, set_cons_succ]
    refine wpAnyH_take (i := 5) (v := ?_) rfl (by kernel_rfl) (by kernel_rfl) (by kernel_rfl) (fun _ _ _ h => h) (Or.inl ⟨by rfl, ?_⟩) (by assumption) ?_
    rotate_left
    ·(intro w' hSw; (try dsimp only at hSw); go_simp; try with_reducible rfl)
    simp only [Act.put, getElem_toArray, getElem_cons_zero, getElem_cons_succ, setIfInBounds_toArray, set_cons_zero, set_cons_succ]
    refine wpAnyH_ready (rs := [6]) (by kernel_rfl) (by simp) ?_
    refine AllReadyH.cons rfl (fun K hK => ?_) AllReadyH.nil
    go_simp
    go_at_call 6
    refine (lsame_any m A1 A2 n1 n1 c1 c2 o L1 L2 X0 sx5.t.ln rfl sx5.t.eq.symm sx5.t.a sx5.t.b (by have := sx5.t.le; omega)).mono ?_
    rintro e Y1 ⟨rfl, u1⟩
    have t_Y1 : Below V5.heap.size V5 Y1 := tt.trans (u1.mono tt.size)
    replace sx5 := sx5.step u1
    refine hK.out _ _ sx5.cells (fun _ => ?_)
    clear hK K
    refine wpAnyH_take (i := 7) (v := ?_) rfl (by kernel_rfl) (by kernel_rfl) (by kernel_rfl) (fun _ _ _ h => h) (Or.inl ⟨by rfl, ?_⟩) (by assumption) ?_
    rotate_left
    ·(intro w' hSw; (try dsimp only at hSw); go_simp; try with_reducible rfl)
    simp only [Act.put, getElem_toArray, getElem_cons_zero, getElem_cons_succ, setIfInBounds_toArray, set_cons_zero, set_cons_succ]
    refine wpAnyH_ready (rs := [8]) (by kernel_rfl) (by simp) ?_
    refine AllReadyH.cons rfl (fun K hK => ?_) AllReadyH.nil
    obtain ⟨z0, z1, z2, g0, g1, g2, hzl⟩ := kz3_at sx5.b6
    go_simp
    obtain ⟨Y8, hY8⟩ : ∃ V, ((((Y1).setCell ⟨(w.heap.size + 3), 0, none⟩ (.int .i64 m)).setCell ⟨(w.heap.size + 3), 1, none⟩ (.slice A1 n1 c1)).setCell ⟨(w.heap.size + 3), 2, none⟩ (.bool o)) = V := ⟨_, rfl⟩
    have h38 : Bk Y8 w.heap.size (.cells #[.int .i64 m, .slice A1 n1 c1, .bool o] 28) := by rw [← hY8]; exact sx5.b3.far3 (by omega) _ _ _
    have h48 : Bk Y8 (w.heap.size + 1) (.cells #[.int .i64 m, .slice A2 n1 c2, .bool o] 32) := by rw [← hY8]; exact sx5.b4.far3 (by omega) _ _ _
    have h68 : Bk Y8 (w.heap.size + 3) (.cells #[.int .i64 m, .slice A1 n1 c1, .bool o] 28) := by rw [← hY8]; exact kz3_set sx5.b6 _ _ _
    have h78 : Bk Y8 (w.heap.size + 4) (.cells #[Value.int .i64 0, .slice none 0 0, .bool false] 32) := by rw [← hY8]; exact sx5.b7.far3 (by omega) _ _ _
    rw [hY8]
    clear z0 z1 z2 g0 g1 g2 hzl
    refine hK.out _ _ ⟨⟨(kz3_at h38).1, (kz3_at h38).2.1, (kz3_at h38).2.2.1⟩, (kz3_at h48).1, (kz3_at h48).2.1, (kz3_at h48).2.2.1⟩ (fun _ => ?_)
    clear hK K
    refine wpAnyH_ready (rs := [9]) (by kernel_rfl) (by simp) ?_
    refine AllReadyH.cons rfl (fun K hK => ?_) AllReadyH.nil
    obtain ⟨z0, z1, z2, g0, g1, g2, hzl⟩ := kz3_at h78
    go_simp
    obtain ⟨Y9, hY9⟩ : ∃ V, ((((Y8).setCell ⟨(w.heap.size + 4), 0, none⟩ (.int .i64 m)).setCell ⟨(w.heap.size + 4), 1, none⟩ (.slice A2 n1 c2)).setCell ⟨(w.heap.size + 4), 2, none⟩ (.bool o)) = V := ⟨_, rfl⟩
    have h39 : Bk Y9 w.heap.size (.cells #[.int .i64 m, .slice A1 n1 c1, .bool o] 28) := by rw [← hY9]; exact h38.far3 (by omega) _ _ _
    have h49 : Bk Y9 (w.heap.size + 1) (.cells #[.int .i64 m, .slice A2 n1 c2, .bool o] 32) := by rw [← hY9]; exact h48.far3 (by omega) _ _ _
    have h69 : Bk Y9 (w.heap.size + 3) (.cells #[.int .i64 m, .slice A1 n1 c1, .bool o] 28) := by rw [← hY9]; exact h68.far3 (by omega) _ _ _
    have h79 : Bk Y9 (w.heap.size + 4) (.cells #[.int .i64 m, .slice A2 n1 c2, .bool o] 32) := by rw [← hY9]; exact kz3_set h78 _ _ _
    have hret : Two Y9 m n1 A1 A2 L1 L2 ∧ Below w.heap.size w Y9 := by rw [← hY9, ← hY8]; exact sx5.ret
    rw [hY9]
    clear z0 z1 z2 g0 g1 g2 hzl hY9 hY8
    refine hK.out _ _ ⟨⟨(kz3_at h39).1, (kz3_at h39).2.1, (kz3_at h39).2.2.1⟩, (kz3_at h49).1, (kz3_at h49).2.1, (kz3_at h49).2.2.1⟩ (fun _ => ?_)
    clear hK K
    refine wpAnyH_ready (rs := [10]) (by kernel_rfl) (by simp) ?_
    refine AllReadyH.cons rfl (fun K hK => ?_) AllReadyH.nil
    go_simp
    refine hK.out _ _ ⟨⟨(kz3_at h39).1, (kz3_at h39).2.1, (kz3_at h39).2.2.1⟩, (kz3_at h49).1, (kz3_at h49).2.1, (kz3_at h49).2.2.1⟩ (fun _ => ?_)
    clear hK K
    refine wpAnyH_done (by kernel_rfl) ?_ _
    obtain ⟨r0, r1, r2, -⟩ := kz3_at h69
    obtain ⟨q0, q1, q2, -⟩ := kz3_at h79
    clear h39 h49 h69 h79 h38 h48 h68 h78
    go_wp2
    refine bodyPost_ret (v := .tuple #[.agg #[.int .i64 m, .slice A1 n1 c1, .bool o], .agg #[.int .i64 m, .slice A2 n1 c2, .bool o], .bool true]) (by simp [results, Tryz.results7, go_sem, r0, r1, r2, q0, q1, q2]) rfl ⟨n1, o, A1, c1, A2, c2, L1, L2, rfl, hret.1, hret.2⟩
   ·skip
    by_cases g4 : kd = 4
    ·have b1 : (kd == 1) = false := by simp; omega
     have d1 : decide (kd = 1) = false := by simp; omega
     have b2 : (kd == 2) = false := by simp; omega
     have d2 : decide (kd = 2) = false := by simp; omega
     have b3 : (kd == 3) = false := by simp; omega
     have d3 : decide (kd = 3) = false := by simp; omega
     have b4 : (kd == 4) = true := by simp; omega
     have d4 : decide (kd = 4) = true := by simp; omega
     clear g1 g2 g3 g4
     obtain ⟨C, hC⟩ : ∃ C, flC (cons L) y = C := ⟨_, rfl⟩
     have HV : Vs C := by rw [← hC]; exact vs_flC t.vs y
     have HE : (C.length : Int) ≤ m := by rw [← hC, flC_len, cons_length, t.ln]; exact t.le
     have C1 := fun V (sx : SX w m n c c' o A A' L L' V) => sflush_any y m A n c o L V sx.t.ln sx.t.a (by omega) (fun z hz => by have := (sx.t.vs.e _ (List.mem_map.2 ⟨z, hz, rfl⟩)).sok.n; simp only [con] at this; omega)
     have C2 := fun V (sx : SX w m n c c' o A A' L L' V) => rflush_any y m A' n c' o L' V sx.t.n' sx.t.b (by omega) (by rw [sx.t.eq]; exact sx.t.vs.a)
     obtain ⟨er, her⟩ : ∃ q, flE (cons L) y = q := ⟨_, rfl⟩
     simp only [t.eq, hC, her] at C1 C2
     have E1 : (er == er) = true := by simp
     have E3 : decide (er = er) = true := by simp
     clear her
     clear hb ok hy
     have C1' := C1 _ sx
     obtain ⟨k0, k1, k2, -⟩ := kz3_at sx.b3
     obtain ⟨a0, a1, a2, a3, a4, a5, a6, a7, a8, a9, a10, a11, a12, a13⟩ := KA.out _ (Below.refl _ _)
     clear C1
     go_wp2_with fail
     refine C1'.mono ?_
     rintro e Y1 ⟨A1, c1, n1, L1, rfl, hn1, hc1, ar1, u1⟩
     replace sx := sx.step u1
     have TA := Lib.hid u1
     clear C1' k0 k1 k2 a0 a1 a2 a3 a4 a5 a6 a7 a8 a9 a10 a11 a12 a13 hW0 hW1 hW2 hW3 hW4
     obtain ⟨ka, hka⟩ : ∃ q, Y1.heap.size = q := ⟨_, rfl⟩
     obtain ⟨Va, hVa⟩ : ∃ V, Y1.alloc (.cells #[Value.int .i64 0, .slice none 0 0, .bool false] 28) = V := ⟨_, rfl⟩
     have uVa : Below Y1.heap.size Y1 Va := by rw [← hVa]; exact below_alloc1 _ _
     have GVa : Bk Va ka (.cells #[Value.int .i64 0, .slice none 0 0, .bool false] 28) := by rw [← hka]; exact Bk.mk hVa
     obtain ⟨Xa, hXa⟩ : ∃ V, (((Va).setCell ⟨ka, 0, none⟩ (.int .i64 m)).setCell ⟨ka, 1, none⟩ (.slice A1 n1 c1)).setCell ⟨ka, 2, none⟩ (.bool o) = V := ⟨_, rfl⟩
     have Ga : Bk Xa ka (.cells #[.int .i64 m, .slice A1 n1 c1, .bool o] 28) := by rw [← hXa]; exact kz3_set GVa (.int .i64 m) (.slice A1 n1 c1) (.bool o)
     have ua : Below Y1.heap.size Y1 Xa := by rw [← hXa]; exact below_st3 uVa (by rw [← hka]; exact Nat.le_refl _) (.int .i64 m) (.slice A1 n1 c1) (.bool o)
     obtain ⟨ya0, ya1, ya2, fa0, fa1, fa2, hza⟩ := kz3_at GVa
     have KLA : Hid (w.heap.size + 5 ≤ ka) := Lib.hid (by have h1 := TA.out.size; have h2 := S4.out; omega)
     replace sx := sx.step ua
     have TB := Lib.hid (TA.out.trans (ua.mono TA.out.size))
     have C2' := C2 _ sx
     obtain ⟨k0, k1, k2, -⟩ := kz3_at sx.b4
     obtain ⟨a0, a1, a2, a3, a4, a5, a6, a7, a8, a9, a10, a11, a12, a13⟩ := KA.out _ TB.out
     clear C2
     go_wp2_with fail
     refine C2'.mono ?_
     rintro e Y2 ⟨A2, c2, n2, L2, rfl, hn2, hc2, cq2, ar2, u2⟩
     replace sx := sx.step u2
     have Ga2 := Ga.step u2
     have AR1 := (ar1.arr.step ua).step u2
     have CP1 : ∀ z ∈ L1, z.l.length ≤ z.c := fun z hz => (ar1.bod z hz).cap
     have hnn := Two.len2 hn1 hn2 hc1 hc2
     subst hnn
     have CQ2 : ∀ z ∈ L2, z.l.length ≤ z.c := (cq2 t.cq)
     have TW := Two.mk' hn1 hc1 hc2 HV HE CP1 CQ2 AR1 ar2
     clear C2' k0 k1 k2 a0 a1 a2 a3 a4 a5 a6 a7 a8 a9 a10 a11 a12 a13 ya0 ya1 ya2 fa0 fa1 fa2 hza hXa hVa hka GVa uVa AR1 ar1 ar2 hc1 hc2 CP1 CQ2 KA TA TB
     obtain ⟨kb, hkb⟩ : ∃ q, Y2.heap.size = q := ⟨_, rfl⟩
     obtain ⟨Vb, hVb⟩ : ∃ V, Y2.alloc (.cells #[Value.int .i64 0, .slice none 0 0, .bool false] 32) = V := ⟨_, rfl⟩
     have uVb : Below Y2.heap.size Y2 Vb := by rw [← hVb]; exact below_alloc1 _ _
     have GVb : Bk Vb kb (.cells #[Value.int .i64 0, .slice none 0 0, .bool false] 32) := by rw [← hkb]; exact Bk.mk hVb
     obtain ⟨Xb, hXb⟩ : ∃ V, (((Vb).setCell ⟨kb, 0, none⟩ (.int .i64 m)).setCell ⟨kb, 1, none⟩ (.slice A2 n1 c2)).setCell ⟨kb, 2, none⟩ (.bool o) = V := ⟨_, rfl⟩
     have Gb : Bk Xb kb (.cells #[.int .i64 m, .slice A2 n1 c2, .bool o] 32) := by rw [← hXb]; exact kz3_set GVb (.int .i64 m) (.slice A2 n1 c2) (.bool o)
     have ub : Below Y2.heap.size Y2 Xb := by rw [← hXb]; exact below_st3 uVb (by rw [← hkb]; exact Nat.le_refl _) (.int .i64 m) (.slice A2 n1 c2) (.bool o)
     obtain ⟨yb0, yb1, yb2, fb0, fb1, fb2, hzb⟩ := kz3_at GVb
     have KLB : Hid (w.heap.size + 5 ≤ kb) := Lib.hid (by have h1 := Ga.lt; have h2 := u2.size; have h3 := KLA.out; omega)
     clear Ga
     replace sx := sx.step ub
     have TX := TW.step ub
     have Ga3 := Ga2.step ub
     have hka : w.heap.size + 5 ≤ ka ∧ w.heap.size + 5 ≤ kb := ⟨KLA.out, KLB.out⟩
     have sx5 := sx.swap (c1 := c1) (c2 := c2) (o1 := o) TX
     obtain ⟨V4, hV4⟩ : ∃ V, (((Xb).setCell ⟨w.heap.size, 0, none⟩ (.int .i64 m)).setCell ⟨w.heap.size, 1, none⟩ (.slice A1 n1 c1)).setCell ⟨w.heap.size, 2, none⟩ (.bool o) = V := ⟨_, rfl⟩
     obtain ⟨V5, hV5⟩ : ∃ V, (((V4).setCell ⟨(w.heap.size + 1), 0, none⟩ (.int .i64 m)).setCell ⟨(w.heap.size + 1), 1, none⟩ (.slice A2 n1 c2)).setCell ⟨(w.heap.size + 1), 2, none⟩ (.bool o) = V := ⟨_, rfl⟩
     rw [show st3 (st3 Xb w.heap.size (Value.int .i64 m) (.slice A1 n1 c1) (.bool o)) (w.heap.size + 1) (Value.int .i64 m) (.slice A2 n1 c2) (.bool o) = V5 by rw [← hV5, ← hV4]] at sx5
     have gb4 : Bk V4 kb (.cells #[.int .i64 m, .slice A2 n1 c2, .bool o] 32) := by rw [← hV4]; exact Gb.far3 (by omega) _ _ _
     have b44 : Bk V4 (w.heap.size + 1) (.cells #[.int .i64 m, .slice A' n c', .bool o] 32) := by rw [← hV4]; exact sx.b4.far3 (by omega) _ _ _
     obtain ⟨p0, p1, p2, -⟩ := kz3_at Ga3
     obtain ⟨q0, q1, q2, -⟩ := kz3_at gb4
     obtain ⟨k0, k1, k2, f0, f1, f2, -⟩ := kz3_at sx.b3
     obtain ⟨i0, i1, i2, j0, j1, j2, -⟩ := kz3_at b44
     clear Ga2 Ga3 Gb gb4 b44 sx TX TW
     go_upto_region 27 with fail
     clear p0 p1 p2 q0 q1 q2 k0 k1 k2 f0 f1 f2 i0 i1 i2 j0 j1 j2 hV4 hV5 yb0 yb1 yb2 fb0 fb1 fb2 hzb hXb hVb hkb GVb uVb
     have tt : Below V5.heap.size V5 V5 := Below.refl _ _
     refine wp_region_held_drew (S := fun V => (V.cell? ⟨w.heap.size, 0, none⟩ = some (.int .i64 m) ∧ V.cell? ⟨w.heap.size, 1, none⟩ = some (.slice A1 n1 c1) ∧ V.cell? ⟨w.heap.size, 2, none⟩ = some (.bool o)) ∧ V.cell? ⟨(w.heap.size + 1), 0, none⟩ = some (.int .i64 m) ∧ V.cell? ⟨(w.heap.size + 1), 1, none⟩ = some (.slice A2 n1 c2) ∧ V.cell? ⟨(w.heap.size + 1), 2, none⟩ = some (.bool o)) (by kernel_rfl) (sx5.step tt.drew).cells (fun hHeld => ?_)
     replace sx5 := sx5.step tt.drew
     replace tt : Below V5.heap.size V5 V5.drew := tt.drew
     generalize hX0 : V5.drew = X0 at tt sx5 hHeld ⊢
     clear hX0
     refine wpAnyH_take (i := 0) (v := ?_) rfl (by kernel_rfl) (by kernel_rfl) (by kernel_rfl) (fun _ _ _ h => h) (Or.inl ⟨by rfl, ?_⟩) (by assumption) ?_
     rotate_left
     ·(intro w' hSw; (try dsimp only at hSw); go_simp; try with_reducible rfl)
     simp only [Act.put, getElem_toArray, getElem_cons_zero, setIfInBounds_toArray, set_cons_zero, set_cons_succ]
     refine wpAnyH_take (i := 1) (v := ?_) rfl (by kernel_rfl) (by kernel_rfl) (by kernel_rfl) (fun _ _ _ h => h) (Or.inl ⟨by rfl, ?_⟩) (by assumption) ?_
     rotate_left
     ·(intro w' hSw; (try dsimp only at hSw); go_simp; try with_reducible rfl)
     simp only [Act.put, getElem_toArray, getElem_cons_zero, getElem_cons_succ, setIfInBounds_toArray, set_cons_zero, set_cons_succ]
     refine wpAnyH_take (i := 2) (v := ?_) rfl (by kernel_rfl) (by kernel_rfl) (by kernel_rfl) (fun _ _ _ h => h) (Or.inl ⟨by rfl, ?_⟩) (by assumption) ?_
     rotate_left
     ·(intro w' hSw; (try dsimp only at hSw); go_simp; try with_reducible rfl)
     simp only [Act.put, getElem_toArray, getElem_cons_zero, getElem_cons_succ, setIfInBounds_toArray, set_cons_zero, set_cons_succ]
     refine wpAnyH_take (i := 3) (v := ?_) rfl (by kernel_rfl) (by kernel_rfl) (by kernel_rfl) (fun _ _ _ h => h) (Or.inl ⟨by rfl, ?_⟩) (by assumption) ?_
     rotate_left
     ·(intro w' hSw; (try dsimp only at hSw); go_simp; try with_reducible rfl)
     simp only [Act.put, getElem_toArray, getElem_cons_zero, getElem_cons_succ, setIfInBounds_toArray, set_cons_zero, set_cons_succ]
     refine wpAnyH_take (i := 4) (v := ?_) rfl (by kernel_rfl) (by kernel_rfl) (by kernel_rfl) (fun _ _ _ h => h) (Or.inl ⟨by rfl, ?_⟩) (by assumption) ?_
     rotate_left
     ·(intro w' hSw; (try dsimp only at hSw); go_simp; try with_reducible rfl)
     simp only [Act.put, getElem_toArray, getElem_cons_zero, getElem_cons_succ, setIfInBounds_toArray, set_cons_zero, set_cons_succ]
     refine wpAnyH_take (i := 5) (v := ?_) rfl (by kernel_rfl) (by kernel_rfl) (by kernel_rfl) (fun _ _ _ h => h) (Or.inl ⟨by rfl, ?_⟩) (by assumption) ?_
     rotate_left
     ·(intro w' hSw; (try dsimp only at hSw); go_simp; try with_reducible rfl)
     simp only [Act.put, getElem_toArray, getElem_cons_zero, getElem_cons_succ, setIfInBounds_toArray, set_cons_zero, set_cons_succ]
     refine wpAnyH_ready (rs := [6]) (by kernel_rfl) (by simp) ?_
     refine AllReadyH.cons rfl (fun K hK => ?_) AllReadyH.nil
     go_simp
     go_at_call 6
     refine (lsame_any m A1 A2 n1 n1 c1 c2 o L1 L2 X0 sx5.t.ln rfl sx5.t.eq.symm sx5.t.a sx5.t.b (by have := sx5.t.le; omega)).mono ?_
     rintro e Y1 ⟨rfl, u1⟩
     have t_Y1 : Below V5.heap.size V5 Y1 := tt.trans (u1.mono tt.size)
     replace sx5 := sx5.step u1
     refine hK.out _ _ sx5.cells (fun _ => ?_)
     clear hK K
     refine wpAnyH_take (i := 7) (v := ?_) rfl (by kernel_rfl) (by kernel_rfl) (by kernel_rfl) (fun _ _ _ h => h) (Or.inl ⟨by rfl, ?_⟩) (by assumption) ?_
     rotate_left
     ·(intro w' hSw; (try dsimp only at hSw); go_simp; try with_reducible rfl)
     simp only [Act.put, getElem_toArray, getElem_cons_zero, getElem_cons_succ, setIfInBounds_toArray, set_cons_zero, set_cons_succ]
     refine wpAnyH_ready (rs := [8]) (by kernel_rfl) (by simp) ?_
     refine AllReadyH.cons rfl (fun K hK => ?_) AllReadyH.nil
     obtain ⟨z0, z1, z2, g0, g1, g2, hzl⟩ := kz3_at sx5.b6
     go_simp
     obtain ⟨Y8, hY8⟩ : ∃ V, ((((Y1).setCell ⟨(w.heap.size + 3), 0, none⟩ (.int .i64 m)).setCell ⟨(w.heap.size + 3), 1, none⟩ (.slice A1 n1 c1)).setCell ⟨(w.heap.size + 3), 2, none⟩ (.bool o)) = V := ⟨_, rfl⟩
     have h38 : Bk Y8 w.heap.size (.cells #[.int .i64 m, .slice A1 n1 c1, .bool o] 28) := by rw [← hY8]; exact sx5.b3.far3 (by omega) _ _ _
     have h48 : Bk Y8 (w.heap.size + 1) (.cells #[.int .i64 m, .slice A2 n1 c2, .bool o] 32) := by rw [← hY8]; exact sx5.b4.far3 (by omega) _ _ _
     have h68 : Bk Y8 (w.heap.size + 3) (.cells #[.int .i64 m, .slice A1 n1 c1, .bool o] 28) := by rw [← hY8]; exact kz3_set sx5.b6 _ _ _
     have h78 : Bk Y8 (w.heap.size + 4) (.cells #[Value.int .i64 0, .slice none 0 0, .bool false] 32) := by rw [← hY8]; exact sx5.b7.far3 (by omega) _ _ _
     rw [hY8]
     clear z0 z1 z2 g0 g1 g2 hzl
     refine hK.out _ _ ⟨⟨(kz3_at h38).1, (kz3_at h38).2.1, (kz3_at h38).2.2.1⟩, (kz3_at h48).1, (kz3_at h48).2.1, (kz3_at h48).2.2.1⟩ (fun _ => ?_)
     clear hK K
     refine wpAnyH_ready (rs := [9]) (by kernel_rfl) (by simp) ?_
     refine AllReadyH.cons rfl (fun K hK => ?_) AllReadyH.nil
     obtain ⟨z0, z1, z2, g0, g1, g2, hzl⟩ := kz3_at h78
     go_simp
     obtain ⟨Y9, hY9⟩ : ∃ V, ((((Y8).setCell ⟨(w.heap.size + 4), 0, none⟩ (.int .i64 m)).setCell ⟨(w.heap.size + 4), 1, none⟩ (.slice A2 n1 c2)).setCell ⟨(w.heap.size + 4), 2, none⟩ (.bool o)) = V := ⟨_, rfl⟩
     have h39 : Bk Y9 w.heap.size (.cells #[.int .i64 m, .slice A1 n1 c1, .bool o] 28) := by rw [← hY9]; exact h38.far3 (by omega) _ _ _
     have h49 : Bk Y9 (w.heap.size + 1) (.cells #[.int .i64 m, .slice A2 n1 c2, .bool o] 32) := by rw [← hY9]; exact h48.far3 (by omega) _ _ _
     have h69 : Bk Y9 (w.heap.size + 3) (.cells #[.int .i64 m, .slice A1 n1 c1, .bool o] 28) := by rw [← hY9]; exact h68.far3 (by omega) _ _ _
     have h79 : Bk Y9 (w.heap.size + 4) (.cells #[.int .i64 m, .slice A2 n1 c2, .bool o] 32) := by rw [← hY9]; exact kz3_set h78 _ _ _
     have hret : Two Y9 m n1 A1 A2 L1 L2 ∧ Below w.heap.size w Y9 := by rw [← hY9, ← hY8]; exact sx5.ret
     rw [hY9]
     clear z0 z1 z2 g0 g1 g2 hzl hY9 hY8
     refine hK.out _ _ ⟨⟨(kz3_at h39).1, (kz3_at h39).2.1, (kz3_at h39).2.2.1⟩, (kz3_at h49).1, (kz3_at h49).2.1, (kz3_at h49).2.2.1⟩ (fun _ => ?_)
     clear hK K
     refine wpAnyH_ready (rs := [10]) (by kernel_rfl) (by simp) ?_
     refine AllReadyH.cons rfl (fun K hK => ?_) AllReadyH.nil
     go_simp
     refine hK.out _ _ ⟨⟨(kz3_at h39).1, (kz3_at h39).2.1, (kz3_at h39).2.2.1⟩, (kz3_at h49).1, (kz3_at h49).2.1, (kz3_at h49).2.2.1⟩ (fun _ => ?_)
     clear hK K
     refine wpAnyH_done (by kernel_rfl) ?_ _
     obtain ⟨r0, r1, r2, -⟩ := kz3_at h69
     obtain ⟨q0, q1, q2, -⟩ := kz3_at h79
     clear h39 h49 h69 h79 h38 h48 h68 h78
     go_wp2
     refine bodyPost_ret (v := .tuple #[.agg #[.int .i64 m, .slice A1 n1 c1, .bool o], .agg #[.int .i64 m, .slice A2 n1 c2, .bool o], .bool true]) (by simp [results, Tryz.results7, go_sem, r0, r1, r2, q0, q1, q2]) rfl ⟨n1, o, A1, c1, A2, c2, L1, L2, rfl, hret.1, hret.2⟩
    ·skip
     have b1 : (kd == 1) = false := by simp; omega
     have d1 : decide (kd = 1) = false := by simp; omega
     have b2 : (kd == 2) = false := by simp; omega
     have d2 : decide (kd = 2) = false := by simp; omega
     have b3 : (kd == 3) = false := by simp; omega
     have d3 : decide (kd = 3) = false := by simp; omega
     have b4 : (kd == 4) = false := by simp; omega
     have d4 : decide (kd = 4) = false := by simp; omega
     clear g1 g2 g3 g4
     obtain ⟨a0, a1, a2, a3, a4, a5, a6, a7, a8, a9, a10, a11, a12, a13⟩ := KA.out _ (Below.refl _ _)
     clear ok hy hb hl3 hcp
     go_upto_region 27 with fail
     clear hW0 hW1 hW2 hW3 hW4 a0 a1 a2 a3 a4 a5 a6 a7 a8 a9 a10 a11 a12 a13 KA
     have sx5 := sx
     clear sx
     have tt : Below W4.heap.size W4 W4 := Below.refl _ _
     refine wp_region_held_drew (S := fun V => (V.cell? ⟨w.heap.size, 0, none⟩ = some (.int .i64 m) ∧ V.cell? ⟨w.heap.size, 1, none⟩ = some (.slice A n c) ∧ V.cell? ⟨w.heap.size, 2, none⟩ = some (.bool o)) ∧ V.cell? ⟨(w.heap.size + 1), 0, none⟩ = some (.int .i64 m) ∧ V.cell? ⟨(w.heap.size + 1), 1, none⟩ = some (.slice A' n c') ∧ V.cell? ⟨(w.heap.size + 1), 2, none⟩ = some (.bool o)) (by kernel_rfl) (sx5.step tt.drew).cells (fun hHeld => ?_)
     replace sx5 := sx5.step tt.drew
     replace tt : Below W4.heap.size W4 W4.drew := tt.drew
     generalize hX0 : W4.drew = X0 at tt sx5 hHeld ⊢
     clear hX0
     refine wpAnyH_take (i := 0) (v := ?_) rfl (by kernel_rfl) (by kernel_rfl) (by kernel_rfl) (fun _ _ _ h => h) (Or.inl ⟨by rfl, ?_⟩) (by assumption) ?_
     rotate_left
     ·(intro w' hSw; (try dsimp only at hSw); go_simp; try with_reducible rfl)
     simp only [Act.put, getElem_toArray, getElem_cons_zero, setIfInBounds_toArray, set_cons_zero, set_cons_succ]
     refine wpAnyH_take (i := 1) (v := ?_) rfl (by kernel_rfl) (by kernel_rfl) (by kernel_rfl) (fun _ _ _ h => h) (Or.inl ⟨by rfl, ?_⟩) (by assumption) ?_
     rotate_left
     ·(intro w' hSw; (try dsimp only at hSw); go_simp; try with_reducible rfl)
     simp only [Act.put, getElem_toArray, getElem_cons_zero, getElem_cons_succ, setIfInBounds_toArray, set_cons_zero, set_cons_succ]
     refine wpAnyH_take (i := 2) (v := ?_) rfl (by kernel_rfl) (by kernel_rfl) (by kernel_rfl) (fun _ _ _ h => h) (Or.inl ⟨by rfl, ?_⟩) (by assumption) ?_
     rotate_left
     ·(intro w' hSw; (try dsimp only at hSw); go_simp; try with_reducible rfl)
     simp only [Act.put, getElem_toArray, getElem_cons_zero, getElem_cons_succ, setIfInBounds_toArray, set_cons_zero, set_cons_succ]
     refine wpAnyH_take (i := 3) (v := ?_) rfl (by kernel_rfl) (by kernel_rfl) (by kernel_rfl) (fun _ _ _ h => h) (Or.inl ⟨by rfl, ?_⟩) (by assumption) ?_
     rotate_left
     ·(intro w' hSw; (try dsimp only at hSw); go_simp; try with_reducible rfl)
     simp only [Act.put, getElem_toArray, getElem_cons_zero, getElem_cons_succ, setIfInBounds_toArray, set_cons_zero, set_cons_succ]
     refine wpAnyH_take (i := 4) (v := ?_) rfl (by kernel_rfl) (by kernel_rfl) (by kernel_rfl) (fun _ _ _ h => h) (Or.inl ⟨by rfl, ?_⟩) (by assumption) ?_
     rotate_left
     ·(intro w' hSw; (try dsimp only at hSw); go_simp; try with_reducible rfl)
     simp only [Act.put, getElem_toArray, getElem_cons_zero, getElem_cons_succ, setIfInBounds_toArray, set_cons_zero, set_cons_succ]
     refine wpAnyH_take (i := 5) (v := ?_) rfl (by kernel_rfl) (by kernel_rfl) (by kernel_rfl) (fun _ _ _ h => h) (Or.inl ⟨by rfl, ?_⟩) (by assumption) ?_
     rotate_left
     ·(intro w' hSw; (try dsimp only at hSw); go_simp; try with_reducible rfl)
     simp only [Act.put, getElem_toArray, getElem_cons_zero, getElem_cons_succ, setIfInBounds_toArray, set_cons_zero, set_cons_succ]
     refine wpAnyH_ready (rs := [6]) (by kernel_rfl) (by simp) ?_
     refine AllReadyH.cons rfl (fun K hK => ?_) AllReadyH.nil
     go_simp
     go_at_call 6
     refine (lsame_any m A A' n n c c' o L L' X0 sx5.t.ln rfl sx5.t.eq.symm sx5.t.a sx5.t.b (by have := sx5.t.le; omega)).mono ?_
     rintro e Y1 ⟨rfl, u1⟩
     have t_Y1 : Below W4.heap.size W4 Y1 := tt.trans (u1.mono tt.size)
     replace sx5 := sx5.step u1
     refine hK.out _ _ sx5.cells (fun _ => ?_)
     clear hK K
     refine wpAnyH_take (i := 7) (v := ?_) rfl (by kernel_rfl) (by kernel_rfl) (by kernel_rfl) (fun _ _ _ h => h) (Or.inl ⟨by rfl, ?_⟩) (by assumption) ?_
     rotate_left
     ·(intro w' hSw; (try dsimp only at hSw); go_simp; try with_reducible rfl)
     simp only [Act.put, getElem_toArray, getElem_cons_zero, getElem_cons_succ, setIfInBounds_toArray, set_cons_zero, set_cons_succ]
     refine wpAnyH_ready (rs := [8]) (by kernel_rfl) (by simp) ?_
     refine AllReadyH.cons rfl (fun K hK => ?_) AllReadyH.nil
     obtain ⟨z0, z1, z2, g0, g1, g2, hzl⟩ := kz3_at sx5.b6
     go_simp
     obtain ⟨Y8, hY8⟩ : ∃ V, ((((Y1).setCell ⟨(w.heap.size + 3), 0, none⟩ (.int .i64 m)).setCell ⟨(w.heap.size + 3), 1, none⟩ (.slice A n c)).setCell ⟨(w.heap.size + 3), 2, none⟩ (.bool o)) = V := ⟨_, rfl⟩
     have h38 : Bk Y8 w.heap.size (.cells #[.int .i64 m, .slice A n c, .bool o] 28) := by rw [← hY8]; exact sx5.b3.far3 (by omega) _ _ _
     have h48 : Bk Y8 (w.heap.size + 1) (.cells #[.int .i64 m, .slice A' n c', .bool o] 32) := by rw [← hY8]; exact sx5.b4.far3 (by omega) _ _ _
     have h68 : Bk Y8 (w.heap.size + 3) (.cells #[.int .i64 m, .slice A n c, .bool o] 28) := by rw [← hY8]; exact kz3_set sx5.b6 _ _ _
     have h78 : Bk Y8 (w.heap.size + 4) (.cells #[Value.int .i64 0, .slice none 0 0, .bool false] 32) := by rw [← hY8]; exact sx5.b7.far3 (by omega) _ _ _
     rw [hY8]
     clear z0 z1 z2 g0 g1 g2 hzl
     refine hK.out _ _ ⟨⟨(kz3_at h38).1, (kz3_at h38).2.1, (kz3_at h38).2.2.1⟩, (kz3_at h48).1, (kz3_at h48).2.1, (kz3_at h48).2.2.1⟩ (fun _ => ?_)
     clear hK K
     refine wpAnyH_ready (rs := [9]) (by kernel_rfl) (by simp) ?_
     refine AllReadyH.cons rfl (fun K hK => ?_) AllReadyH.nil
     obtain ⟨z0, z1, z2, g0, g1, g2, hzl⟩ := kz3_at h78
     go_simp
     obtain ⟨Y9, hY9⟩ : ∃ V, ((((Y8).setCell ⟨(w.heap.size + 4), 0, none⟩ (.int .i64 m)).setCell ⟨(w.heap.size + 4), 1, none⟩ (.slice A' n c')).setCell ⟨(w.heap.size + 4), 2, none⟩ (.bool o)) = V := ⟨_, rfl⟩
     have h39 : Bk Y9 w.heap.size (.cells #[.int .i64 m, .slice A n c, .bool o] 28) := by rw [← hY9]; exact h38.far3 (by omega) _ _ _
     have h49 : Bk Y9 (w.heap.size + 1) (.cells #[.int .i64 m, .slice A' n c', .bool o] 32) := by rw [← hY9]; exact h48.far3 (by omega) _ _ _
     have h69 : Bk Y9 (w.heap.size + 3) (.cells #[.int .i64 m, .slice A n c, .bool o] 28) := by rw [← hY9]; exact h68.far3 (by omega) _ _ _
     have h79 : Bk Y9 (w.heap.size + 4) (.cells #[.int .i64 m, .slice A' n c', .bool o] 32) := by rw [← hY9]; exact kz3_set h78 _ _ _
     have hret : Two Y9 m n A A' L L' ∧ Below w.heap.size w Y9 := by rw [← hY9, ← hY8]; exact sx5.ret
     rw [hY9]
     clear z0 z1 z2 g0 g1 g2 hzl hY9 hY8
     refine hK.out _ _ ⟨⟨(kz3_at h39).1, (kz3_at h39).2.1, (kz3_at h39).2.2.1⟩, (kz3_at h49).1, (kz3_at h49).2.1, (kz3_at h49).2.2.1⟩ (fun _ => ?_)
     clear hK K
     refine wpAnyH_ready (rs := [10]) (by kernel_rfl) (by simp) ?_
     refine AllReadyH.cons rfl (fun K hK => ?_) AllReadyH.nil
     go_simp
     refine hK.out _ _ ⟨⟨(kz3_at h39).1, (kz3_at h39).2.1, (kz3_at h39).2.2.1⟩, (kz3_at h49).1, (kz3_at h49).2.1, (kz3_at h49).2.2.1⟩ (fun _ => ?_)
     clear hK K
     refine wpAnyH_done (by kernel_rfl) ?_ _
     obtain ⟨r0, r1, r2, -⟩ := kz3_at h69
     obtain ⟨q0, q1, q2, -⟩ := kz3_at h79
     clear h39 h49 h69 h79 h38 h48 h68 h78
     go_wp2
     refine bodyPost_ret (v := .tuple #[.agg #[.int .i64 m, .slice A n c, .bool o], .agg #[.int .i64 m, .slice A' n c', .bool o], .bool true]) (by simp [results, Tryz.results7, go_sem, r0, r1, r2, q0, q1, q2]) rfl ⟨n, o, A, c, A', c', L, L', rfl, hret.1, hret.2⟩
end Go.Proofs.YtadcicmccdphkaaGreat
