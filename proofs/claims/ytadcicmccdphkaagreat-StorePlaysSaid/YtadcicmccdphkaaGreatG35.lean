/-
  What Tick and Flush do to a store that may be; the contract of the reference's Flush. The contract of the reference's Tick. No statement is proved here; no conditions.
-/
import Derived.Test.YtadcicmccdphkaaGreatG28
import Derived.Test.YtadcicmccdphkaaGreatG29
import Derived.Test.YtadcicmccdphkaaGreatG31
import Derived.Test.YtadcicmccdphkaaGreatG34
import Derived.Test.YtadcicmccdphkaaGreatG30
import Derived.Test.YtadcicmccdphkaaGreatG41
namespace Go.Proofs.YtadcicmccdphkaaGreat
open Go.RowKit Go.Joins

theorem isin_any (C : List Ct) (y : Hd) : isin C y = C.any (fun x => kq y x.1) := by
 rw [isin, Bool.eq_iff_iff, decide_eq_true_iff, List.findIdx_lt_length, List.any_eq_true]
theorem flE_isin (C : List Ct) (y : Hd) : flE C y = if isin C y = true then 0 else 6 := by rw [flE, isin_any]
theorem flC_none {C : List Ct} {y : Hd} (h : isin C y = false) : flC C y = C := by
 rw [isin_any, List.any_eq_false] at h
 rw [flC]
 conv => rhs; rw [← List.map_id C]
 exact List.map_congr_left fun x hx => if_neg (h x hx)
theorem flC_set {C : List Ct} (ha : Asc C) {y : Hd} {j : Nat} (hj : j < C.length) (h : kq y (C[j]).1 = true) : flC C y = C.set j (fla (C[j]).1, (C[j]).2) := by
 refine List.ext_getElem (by rw [flC_len, List.length_set]) fun i h1 h2 => ?_
 have hi : i < C.length := by rwa [flC_len] at h1
 have e : (flC C y)[i] = if kq y (C[i]).1 = true then (fla (C[i]).1, (C[i]).2) else C[i] := by simp [flC]
 rw [e, List.getElem_set]
 by_cases hij : j = i
 ·subst hij
  rw [if_pos h, if_pos rfl]
 ·rw [if_neg hij, if_neg]
  intro hk
  rw [kq_left h] at hk
  exact hij (one_key ha hj hi hk)
theorem flC_into {C : List Ct} (ha : Asc C) {y : Hd} (hi : isin C y = true) : intoC C (fla (fnd C y).1, (fnd C y).2) = flC C y := by
 have hlt : C.findIdx (fun x => kq y x.1) < C.length := of_decide_eq_true hi
 have h0 := List.findIdx_getElem (p := fun x : Ct => kq y x.1) (xs := C) (w := hlt)
 have hf : fnd C y = C[C.findIdx (fun x => kq y x.1)] := by simp [fnd, List.getD, hlt]
 rw [hf, flC_set ha hlt h0]
 exact intoC_set ha hlt (by simp [kq, fla])
theorem old_t (h : Hd) (y : Int) : (old h y).t = h.t := by
 unfold old
 split <;> rfl
theorem kq_old (h : Hd) (y : Int) : kq (old h y) h = true := by
 unfold old
 split <;> simp [kq]
theorem kq_fla (h : Hd) : kq (fla h) h = true := by simp [kq, fla]
theorem fla_old {h : Hd} (h0 : 0 ≤ h.a) (h1 : h.a ≤ 3600) : fla h = old h 3600 := by
 have e : h.a + min 3600 (3600 - h.a) = 3600 := by omega
 rw [old, if_pos (by decide), e]
 rfl
theorem sv_old {x : Ct} (h : Sv x) (y : Int) : Sv (old x.1 y, x.2) := ⟨old_ok h.ok, h.y, old_whl y h.w, by rw [show (old x.1 y, x.2).1.t = x.1.t from old_t _ _]; exact h.r⟩
theorem sv_fla {x : Ct} (h : Sv x) : Sv (fla x.1, x.2) := by rw [fla_old h.sok.a.1 h.sok.a.2]; exact sv_old h 3600
theorem asc_map {C : List Ct} (ha : Asc C) (f : Ct → Ct) (hf : ∀ x, kq (f x).1 x.1 = true) : Asc (C.map f) := by
 rw [Asc, List.pairwise_map]
 refine ha.imp fun {a b} h => ?_
 rw [lessK_left (hf a), lessK_right (hf b)]
 exact h
theorem vs_tick {C : List Ct} (hv : Vs C) (y : Int) : Vs (tickC C y) := ⟨fun z hz => by
 obtain ⟨x, hx, rfl⟩ := List.mem_map.1 hz
 exact sv_old (hv.e x hx) y, asc_map hv.a _ fun x => kq_old x.1 y⟩
theorem vs_flC {C : List Ct} (hv : Vs C) (y : Hd) : Vs (flC C y) := ⟨fun z hz => by
 obtain ⟨x, hx, rfl⟩ := List.mem_map.1 hz
 show Sv (if _ then _ else _)
 split
 ·exact sv_fla (hv.e x hx)
 ·exact hv.e x hx, asc_map hv.a _ fun x => by
 show kq (if _ then _ else _ : Ct).1 x.1 = true
 split
 ·exact kq_fla x.1
 ·exact kq_self x.1⟩
def RFlP (m : Int) (o : Bool) (C : List Ct) (er : Int) (L : List Ae) (w : World) (e : Ending) (w' : World) : Prop := ∃ A' c' n' L', e = .returned (.tuple #[.agg #[.int .i64 m, .slice A' n' c', .bool o], .int .i64 er]) ∧ L'.length = n' ∧ cons L' = C ∧ ((∀ x ∈ L, x.l.length ≤ x.c) → ∀ x ∈ L', x.l.length ≤ x.c) ∧ Arr w' A' L' ∧ Below w.heap.size w w'
set_option maxRecDepth 100000 in
set_option maxHeartbeats 4000000 in
theorem rflush_any (y : Hd) (m : Int) (A : Option Addr) (n c : Nat) (o : Bool) (L : List Ae) (w : World) (hn : L.length = n) (hl : Arr w A L) (hll : n ≤ 9000) (hv : Asc (cons L)) :
  Calls Tryz.prog 32 #[.agg #[.int .i64 m, .slice A n c, .bool o], .agg #[.int .i64 y.t, .int .u32 y.i, .int .u32 y.v]] w fun e w' => RFlP m o (flC (cons L) y) (flE (cons L) y) L w e w' := by
 obtain ⟨W0, hW0⟩ : ∃ V, w.alloc (.cells #[.int .i64 m, .slice A n c, .bool o] 32) = V := ⟨_, rfl⟩
 have bW0 : Below w.heap.size w W0 := by rw [← hW0]; exact below_alloc1 _ _
 have sW0 : W0.heap.size = w.heap.size + 1 := by rw [← hW0]; simp
 have KX : Hid (∀ V, Below W0.heap.size W0 V → V.cell? ⟨w.heap.size, 0, none⟩ = some (.int .i64 m) ∧ V.cell? ⟨w.heap.size, 1, none⟩ = some (.slice A n c) ∧ V.cell? ⟨w.heap.size, 2, none⟩ = some (.bool o)) := Lib.hid (fun V hV => kb3_new hW0 hV)
 obtain ⟨W1, hW1⟩ : ∃ V, W0.alloc (.cells #[.int .i64 y.t, .int .u32 y.i, .int .u32 y.v] 25) = V := ⟨_, rfl⟩
 have bW1 : Below W0.heap.size W0 W1 := by rw [← hW1]; exact below_alloc1 _ _
 have sW1 : W1.heap.size = w.heap.size + 2 := by rw [← hW1]; simp; omega
 obtain ⟨W2, hW2⟩ : ∃ V, W1.alloc (.cells #[Value.int .i64 0, .slice none 0 0, .bool false] 32) = V := ⟨_, rfl⟩
 have bW2 : Below W1.heap.size W1 W2 := by rw [← hW2]; exact below_alloc1 _ _
 have sW2 : W2.heap.size = w.heap.size + 3 := by rw [← hW2]; simp; omega
 have b02 : Below W0.heap.size W0 W2 := bW1.trans (bW2.mono bW1.size)
 have HB0 : Hid (Below w.heap.size w W2) := Lib.hid (bW0.trans (b02.mono bW0.size))
 have KB : Hid (∀ V, Below W2.heap.size W2 V → Bk V w.heap.size (.cells #[.int .i64 m, .slice A n c, .bool o] 32) ∧ Bk V (w.heap.size + 1) (.cells #[.int .i64 y.t, .int .u32 y.i, .int .u32 y.v] 25) ∧ Bk V (w.heap.size + 2) (.cells #[Value.int .i64 0, .slice none 0 0, .bool false] 32)) := Lib.hid (fun V hV => ⟨((Bk.mk hW0).step b02).step hV, (show Bk W2 _ _ by have := (Bk.mk hW1).step bW2; rwa [sW0] at this).step hV, (show Bk W2 _ _ by have := Bk.mk hW2; rwa [sW1] at this).step hV⟩)
 have HN := Lib.hid hn
 have HL := Lib.hid hl
 have HV := Lib.hid hv
 have S2 := Lib.hid sW2
 obtain ⟨sb, kb, -⟩ := KB.out _ (Below.refl _ _)
 obtain ⟨k0, k1, k2, -⟩ := kz3_at sb
 obtain ⟨j0, j1, j2, -⟩ := kz3_at kb
 have CF := rfind_any y m A n c o L W2 hn (hl.step HB0.out) hll
 clear hl hn hv KX bW0 bW1 bW2 b02 sb kb
 go_enter Tryz.func32, Tryz.ntmps32
 go_wp2_with fail
 refine CF.mono ?_
 rintro e W3 ⟨A8, c8, rfl, ⟨b8, p8⟩, u3⟩
 have HE : Hid (flE (cons L) y = if isin (cons L) y = true then 0 else 6) := Lib.hid (flE_isin _ _)
 have HI : Hid (isin (cons L) y = true → intoC (cons L) (fla (fnd (cons L) y).1, (fnd (cons L) y).2) = flC (cons L) y) := Lib.hid fun h => flC_into HV.out h
 have HO : Hid (isin (cons L) y = false → flC (cons L) y = cons L) := Lib.hid flC_none
 obtain ⟨h, hh⟩ : ∃ q, (fnd (cons L) y).1 = q := ⟨_, rfl⟩
 obtain ⟨B, hB⟩ : ∃ q, (fnd (cons L) y).2 = q := ⟨_, rfl⟩
 obtain ⟨mB, hmB⟩ : ∃ q, B.length = q := ⟨_, rfl⟩
 rw [hh, hB] at HI
 rw [hB] at b8 p8
 simp only [hh, hB, hmB]
 have P8 := Lib.hid p8
 have HMB := Lib.hid hmB
 have T3 := Lib.hid u3
 obtain ⟨ka, hka⟩ : ∃ q, W3.heap.size = q := ⟨_, rfl⟩
 obtain ⟨W4, hW4⟩ : ∃ V, W3.alloc (.cells #[Value.int .i64 0, .int .i64 0, .int .i64 0, .int .u32 0, .int .u32 0, .int .u32 0, .int .i64 0, .int .i64 0, .slice none 0 0] 40) = V := ⟨_, rfl⟩
 have u4 : Below W3.heap.size W3 W4 := by rw [← hW4]; exact below_alloc1 _ _
 have G4 : Bk W4 ka (.cells #[Value.int .i64 0, .int .i64 0, .int .i64 0, .int .u32 0, .int .u32 0, .int .u32 0, .int .i64 0, .int .i64 0, .slice none 0 0] 40) := by rw [← hka]; exact Bk.mk hW4
 obtain ⟨W5, hW5⟩ : ∃ V, (((((((((W4).setCell ⟨ka, 0, none⟩ (.int .i64 h.a)).setCell ⟨ka, 1, none⟩ (.int .i64 h.o)).setCell ⟨ka, 2, none⟩ (.int .i64 h.t)).setCell ⟨ka, 3, none⟩ (.int .u32 h.i)).setCell ⟨ka, 4, none⟩ (.int .u32 h.v)).setCell ⟨ka, 5, none⟩ (.int .u32 h.q)).setCell ⟨ka, 6, none⟩ (.int .i64 h.s)).setCell ⟨ka, 7, none⟩ (.int .i64 h.n)).setCell ⟨ka, 8, none⟩ (.slice A8 mB c8) = V := ⟨_, rfl⟩
 have G5 : Bk W5 ka (.cells #[Value.int .i64 h.a, .int .i64 h.o, .int .i64 h.t, .int .u32 h.i, .int .u32 h.v, .int .u32 h.q, .int .i64 h.s, .int .i64 h.n, .slice A8 mB c8] 40) := by rw [← hW5]; exact kz9_set G4 _ _ _ _ _ _ _ _ _
 have u5 : Below W3.heap.size W3 W5 := by rw [← hW5]; exact below_st9 u4 (Nat.le_of_eq hka) _ _ _ _ _ _ _ _ _
 have T5 := Lib.hid (T3.out.trans (u5.mono T3.out.size))
 have B5 := Lib.hid (b8.step u5)
 have B3 := Lib.hid b8
 have U5 := Lib.hid u5
 have HKA2 := Lib.hid hka
 have HG5 := Lib.hid G5
 obtain ⟨z0, z1, z2, z3, z4, z5, z6, z7, z8, f0, f1, f2, f3, f4, f5, f6, f7, f8, hzl⟩ := kz9_at G4
 have HKA : Hid (w.heap.size + 3 ≤ ka) := Lib.hid (by have h1 := T3.out.size; have h2 := S2.out; omega)
 clear u3 u4 u5 b8 p8 G4 G5 CF k0 k1 k2 j0 j1 j2 hmB
 obtain ⟨is, his⟩ : ∃ q, isin (cons L) y = q := ⟨_, rfl⟩
 rw [his] at HE HI HO ⊢
 clear hh hB his hW0 hW1 hW2 sW0 sW1 sW2
 go_upto_region 2 with fail
 clear z0 z1 z2 z3 z4 z5 z6 z7 z8 f0 f1 f2 f3 f4 f5 f6 f7 f8 hzl hW5 hW4
 cases is with
 | false =>
  have HR : Hid (flC (cons L) y = cons L) := Lib.hid (HO.out rfl)
  have HER : Hid (flE (cons L) y = 6) := Lib.hid (by rw [HE.out]; rfl)
  obtain ⟨sb, -, zb⟩ := KB.out _ T5.out
  obtain ⟨k0, k1, k2, -⟩ := kz3_at sb
  obtain ⟨z0, z1, z2, f0, f1, f2, hzl⟩ := kz3_at zb
  have HZB := Lib.hid zb
  have HRR := Lib.hid (below_st3 (HB0.out.trans (T5.out.mono HB0.out.size)) (show w.heap.size ≤ w.heap.size + 2 by omega) (Value.int .i64 m) (.slice A n c) (.bool o))
  clear sb zb HI HO HE
  go_wp2
  obtain ⟨r0, r1, r2⟩ := kz3_get HZB.out (Value.int .i64 m) (.slice A n c) (.bool o)
  refine bodyPost_ret (v := .tuple #[.agg #[.int .i64 m, .slice A n c, .bool o], .int .i64 6]) (by simp [results, Tryz.results32, go_sem, r0, r1, r2]) rfl ⟨A, c, n, L, by rw [HER.out], HN.out, HR.out.symm, id, HL.out.step HRR.out, HRR.out⟩
 | true =>
  have HR := Lib.hid (HI.out rfl)
  have HER : Hid (flE (cons L) y = 0) := Lib.hid (by rw [HE.out]; rfl)
  obtain ⟨W6, hW6⟩ : ∃ V, W5.setCell ⟨ka, 0, none⟩ (.int .i64 3600) = V := ⟨_, rfl⟩
  have G6 : Bk W6 ka (.cells #[Value.int .i64 3600, .int .i64 h.o, .int .i64 h.t, .int .u32 h.i, .int .u32 h.v, .int .u32 h.q, .int .i64 h.s, .int .i64 h.n, .slice A8 mB c8] 40) := by rw [← hW6, Bk, block_setCell (i := 0) HG5.out]; rfl
  have T6 : Hid (Below W2.heap.size W2 W6) := Lib.hid (by rw [← hW6]; exact T5.out.setCell (p := ⟨ka, 0, none⟩) (by show W2.heap.size ≤ ka; have := HKA.out; have := S2.out; omega) _)
  have B6 : Hid (Bt W6 A8 B) := Lib.hid (by rw [← hW6]; exact B3.out.step (U5.out.setCell (p := ⟨ka, 0, none⟩) (Nat.le_of_eq HKA2.out) _))
  have HG6 := Lib.hid G6
  obtain ⟨a0, a1, a2, a3, a4, a5, a6, a7, a8, g0, g1, g2, g3, g4, g5, g6, g7, g8, hgl⟩ := kz9_at HG5.out
  clear G6 HI HO HE
  go_upto_region 5 with fail
  clear a0 a1 a2 a3 a4 a5 a6 a7 a8 g0 g1 g2 g3 g4 g5 g6 g7 g8 hgl hW6 HG5 T5 B5
  obtain ⟨a0, a1, a2, a3, a4, a5, a6, a7, a8, -⟩ := kz9_at HG6.out
  obtain ⟨sb, -, -⟩ := KB.out _ T6.out
  obtain ⟨k0, k1, k2, -⟩ := kz3_at sb
  have CI := rinto_any ⟨fla h, A8, c8, B⟩ m A n c o L W6 HN.out (HL.out.step (HB0.out.trans (T6.out.mono HB0.out.size))) hll B6.out
  simp only [av, HMB.out, fla] at CI
  clear sb
  go_wp2_with fail
  refine CI.mono ?_
  rintro e W8 ⟨A5, c5, n5, L5, rfl, hn5, hc5, hm5, ha5, u8⟩
  have HC7 : Hid ((∀ x ∈ L, x.l.length ≤ x.c) → ∀ x ∈ L5, x.l.length ≤ x.c) := Lib.hid (fun hc z hz => by
   rcases hm5 z hz with q | rfl
   ·exact hc z q
   ·show B.length ≤ c8
    exact P8.out hc)
  have T8 := Lib.hid (T6.out.trans (u8.mono T6.out.size))
  obtain ⟨-, -, zb⟩ := KB.out _ T8.out
  obtain ⟨z0, z1, z2, f0, f1, f2, hzl⟩ := kz3_at zb
  have HZB := Lib.hid zb
  have HC5 : Hid (cons L5 = flC (cons L) y) := Lib.hid (hc5.trans HR.out)
  have HN5 := Lib.hid hn5
  have HRR := Lib.hid (below_st3 (HB0.out.trans (T8.out.mono HB0.out.size)) (show w.heap.size ≤ w.heap.size + 2 by omega) (Value.int .i64 m) (.slice A5 n5 c5) (.bool o))
  have HA5 := Lib.hid ha5
  have HX5 : Hid (Arr ((((W8).setCell ⟨(w.heap.size + 2), 0, none⟩ (.int .i64 m)).setCell ⟨(w.heap.size + 2), 1, none⟩ (.slice A5 n5 c5)).setCell ⟨(w.heap.size + 2), 2, none⟩ (.bool o)) A5 L5) := Lib.hid (HA5.out.kp3 HZB.out _ _ _)
  clear CI u8 zb k0 k1 k2 a0 a1 a2 a3 a4 a5 a6 a7 a8 hn5 hc5 ha5 hm5
  go_wp2
  obtain ⟨r0, r1, r2⟩ := kz3_get HZB.out (Value.int .i64 m) (.slice A5 n5 c5) (.bool o)
  refine bodyPost_ret (v := .tuple #[.agg #[.int .i64 m, .slice A5 n5 c5, .bool o], .int .i64 0]) (by simp [results, Tryz.results32, go_sem, r0, r1, r2]) rfl ⟨A5, c5, n5, L5, by rw [HER.out], HN5.out, HC5.out, HC7.out, HX5.out, HRR.out⟩
end Go.Proofs.YtadcicmccdphkaaGreat
namespace Go.Proofs.YtadcicmccdphkaaGreat
open Go.RowKit Go.Joins

def tkA (y : Int) (x : Ae) : Ae := ⟨old x.h y, x.A, x.c, x.l⟩
theorem kyo_old (h : Hd) (y : Int) : kyo (old h y) = kyo h := by
 unfold old kyo
 split <;> rfl
theorem old_a {h : Hd} {y : Int} (h0 : 0 ≤ h.a) (h1 : h.a ≤ 3600) : 0 ≤ (old h y).a ∧ (old h y).a ≤ 3600 := by
 unfold old
 split
 ·show 0 ≤ h.a + min y (3600 - h.a) ∧ h.a + min y (3600 - h.a) ≤ 3600
  omega
 ·exact ⟨h0, h1⟩
theorem cons_tkA (L : List Ae) (y : Int) : cons (L.map (tkA y)) = tickC (cons L) y := by simp [cons, tickC, tkA, con]
theorem len_tkA (L : List Ae) (y : Int) : (L.map (tkA y)).length = L.length := by simp
theorem map_snoc (L : List Ae) (y : Int) {k : Nat} {x : Ae} (h : L.take (k + 1) = L.take k ++ [x]) : (L.take (k + 1)).map (tkA y) = (L.take k).map (tkA y) ++ [tkA y x] := by rw [h]; simp
def RTkP (m : Int) (o : Bool) (L' : List Ae) (ks : List Ky) (w : World) (e : Ending) (w' : World) : Prop := ∃ A' c' n' A2 c2 n2, e = .returned (.tuple #[.agg #[.int .i64 m, .slice A' n' c', .bool o], .slice A2 n2 c2]) ∧ L'.length = n' ∧ Arr w' A' L' ∧ ks.length = n2 ∧ kRr w' A2 ks ∧ Below w.heap.size w w'
set_option maxRecDepth 100000 in
set_option maxHeartbeats 8000000 in
theorem rtick_any (y : Int) (m : Int) (A : Option Addr) (n c : Nat) (o : Bool) (L : List Ae) (w : World) (hn : L.length = n) (hl : Arr w A L) (hll : n ≤ 9000) (hag : ∀ x ∈ L, 0 ≤ x.h.a ∧ x.h.a ≤ 3600) :
  Calls Tryz.prog 30 #[.agg #[.int .i64 m, .slice A n c, .bool o], .int .i64 y] w fun e w' => RTkP m o (L.map (tkA y)) (ends (cons L) y) w e w' := by
 obtain ⟨W0, hW0⟩ : ∃ V, w.alloc (.cells #[.int .i64 m, .slice A n c, .bool o] 32) = V := ⟨_, rfl⟩
 have bW0 : Below w.heap.size w W0 := by rw [← hW0]; exact below_alloc1 _ _
 have sW0 : W0.heap.size = w.heap.size + 1 := by rw [← hW0]; simp
 have KX : Hid (∀ V, Below W0.heap.size W0 V → V.cell? ⟨w.heap.size, 0, none⟩ = some (.int .i64 m) ∧ V.cell? ⟨w.heap.size, 1, none⟩ = some (.slice A n c) ∧ V.cell? ⟨w.heap.size, 2, none⟩ = some (.bool o)) := Lib.hid (fun V hV => kb3_new hW0 hV)
 obtain ⟨W1, hW1⟩ : ∃ V, W0.alloc (.cells #[Value.int .i64 0, .slice none 0 0, .bool false] 32) = V := ⟨_, rfl⟩
 have bW1 : Below W0.heap.size W0 W1 := by rw [← hW1]; exact below_alloc1 _ _
 have sW1 : W1.heap.size = w.heap.size + 2 := by rw [← hW1]; simp; omega
 have HB0 : Hid (Below w.heap.size w W1) := Lib.hid (bW0.trans (bW1.mono bW0.size))
 have KS : Hid (∀ V, Below W1.heap.size W1 V → Bk V w.heap.size (.cells #[.int .i64 m, .slice A n c, .bool o] 32) ∧ Bk V (w.heap.size + 1) (.cells #[Value.int .i64 0, .slice none 0 0, .bool false] 32)) := Lib.hid (fun V hV => ⟨((Bk.mk hW0).step bW1).step hV, (show Bk W1 _ _ by have := Bk.mk hW1; rwa [sW0] at this).step hV⟩)
 obtain ⟨W2, hW2⟩ : ∃ V, W1.alloc (.cells #[] 40) = V := ⟨_, rfl⟩
 have u2 : Below W1.heap.size W1 W2 := by rw [← hW2]; exact below_alloc1 _ _
 have sW2 : W2.heap.size = w.heap.size + 3 := by rw [← hW2]; simp; omega
 obtain ⟨W3, hW3⟩ : ∃ V, W2.alloc (.cells #[] 25) = V := ⟨_, rfl⟩
 have u3 : Below W2.heap.size W2 W3 := by rw [← hW3]; exact below_alloc1 _ _
 have O1 := ob_lit W1 40 9 W1.heap.size (Nat.le_refl _)
 rw [hW2, sW1] at O1
 have O2 := ob_lit W2 25 3 (w.heap.size + 2) (by omega)
 rw [hW3, sW2] at O2
 have OA : Hid (Ob 40 9 (w.heap.size + 2 ≤ ·) W3 (some ⟨w.heap.size + 2, 0, none⟩) 0 (aflat ((L.take 0).map (tkA y)))) := Lib.hid (O1.below u3)
 have OK : Hid (Ob 25 3 (w.heap.size + 2 ≤ ·) W3 (some ⟨w.heap.size + 3, 0, none⟩) 0 (kflat (ends (cons (L.take 0)) y))) := Lib.hid O2
 have J0 : Hid (Below W1.heap.size W1 W3) := Lib.hid (u2.trans (u3.mono u2.size))
 have HN := Lib.hid hn
 have HL := Lib.hid hl
 have HAG := Lib.hid hag
 have S1 := Lib.hid sW1
 clear hl hn hag KX bW0 bW1 u2 u3 O1 O2
 go_enter Tryz.func30, Tryz.ntmps30
 go_wp2_with fail
 go_loopg [6, 7, 8] n (fun gf v6 v7 v8 wx => ∃ (k q : Nat) (Ao : Option Addr) (co : Nat) (Ak : Option Addr) (ck : Nat), v6 = .slice Ao k co ∧ v7 = .slice Ak q ck ∧ v8 = .int .i64 (k : Int) ∧ Hid (gf + k = n) ∧ Hid (Below W1.heap.size W1 wx) ∧ Hid (Ob 40 9 (w.heap.size + 2 ≤ ·) wx Ao co (aflat ((L.take k).map (tkA y)))) ∧ Hid ((ends (cons (L.take k)) y).length = q) ∧ Hid (Ob 25 3 (w.heap.size + 2 ≤ ·) wx Ak ck (kflat (ends (cons (L.take k)) y))))
 case atStart => exact ⟨0, 0, some ⟨w.heap.size + 2, 0, none⟩, 0, some ⟨w.heap.size + 3, 0, none⟩, 0, rfl, rfl, rfl, Lib.hid (by omega), J0, OA, Lib.hid rfl, OK⟩
 case round =>
  obtain ⟨k, q, Ao, co, Ak, ck, rfl, rfl, rfl, hk, hb, hO, hq, hK⟩ := hrel
  have hk' := hk.out
  have HB := Lib.hid (HB0.out.trans (hb.out.mono HB0.out.size))
  obtain ⟨ks, kz⟩ := KS.out _ hb.out
  obtain ⟨k0, k1, k2, g0, g1, g2, hgl⟩ := kz3_at ks
  clear hW0 hW1 hW2 hW3 J0 OA OK sW0 sW1 sW2
  cases gk with
  | zero =>
   obtain rfl : k = n := by omega
   have lt0 : decide ((k : Int) < (k : Int)) = false := by simp
   have lt1 : decide (k < k) = false := by simp
   have ht : L.take k = L := List.take_of_length_le (by rw [HN.out]; omega)
   rw [ht] at hO hq hK
   obtain ⟨Wx, hWx⟩ : ∃ V, wr.setCell ⟨w.heap.size, 1, none⟩ (.slice Ao k co) = V := ⟨_, rfl⟩
   have ks2 : Bk Wx w.heap.size (.cells #[.int .i64 m, .slice Ao k co, .bool o] 32) := by rw [← hWx]; exact Bk.set3 (i := 1) ks
   have kz2 : Bk Wx (w.heap.size + 1) (.cells #[Value.int .i64 0, .slice none 0 0, .bool false] 32) := by rw [← hWx]; exact (Below.heap_setCell _ _ _ _ (by show w.heap.size + 1 ≠ w.heap.size; omega)).trans kz
   have T2 : Below w.heap.size w Wx := by rw [← hWx]; exact HB.out.setCell (p := ⟨w.heap.size, 1, none⟩) (Nat.le_refl _) _
   obtain ⟨p0, p1, p2, -⟩ := kz3_at ks2
   obtain ⟨z0, z1, z2, f0, f1, f2, hzl⟩ := kz3_at kz2
   have HKZ := Lib.hid kz2
   have HR : Hid (Below w.heap.size w (st3 Wx (w.heap.size + 1) (Value.int .i64 m) (.slice Ao k co) (.bool o))) := Lib.hid (below_st3 T2 (by omega) _ _ _)
   have hfar : ∀ j, w.heap.size + 2 ≤ j → (st3 Wx (w.heap.size + 1) (Value.int .i64 m) (.slice Ao k co) (.bool o)).heap[j]? = wr.heap[j]? := fun j hj => (far_st3 (by omega) _ _ _).trans (by rw [← hWx]; exact Below.heap_setCell _ _ _ _ (by show j ≠ w.heap.size; omega))
   have OY : Hid (Ob 40 9 (w.heap.size + 2 ≤ ·) (st3 Wx (w.heap.size + 1) (Value.int .i64 m) (.slice Ao k co) (.bool o)) Ao co (aflat (L.map (tkA y)))) := Lib.hid (hO.out.keep fun j hj hlt => hfar j hj)
   have KY : Hid (Ob 25 3 (w.heap.size + 2 ≤ ·) (st3 Wx (w.heap.size + 1) (Value.int .i64 m) (.slice Ao k co) (.bool o)) Ak ck (kflat (ends (cons L) y))) := Lib.hid (hK.out.keep fun j hj hlt => hfar j hj)
   clear ks kz ks2 kz2 T2 ht KS hfar
   go_wp2
   obtain ⟨r0, r1, r2⟩ := kz3_get HKZ.out (Value.int .i64 m) (.slice Ao k co) (.bool o)
   refine bodyPost_ret (v := .tuple #[.agg #[.int .i64 m, .slice Ao k co, .bool o], .slice Ak q ck]) (by simp [results, Tryz.results30, go_sem, r0, r1, r2]) rfl ⟨Ao, co, k, Ak, ck, q, rfl, by rw [len_tkA, HN.out], ⟨Ob.rd OY.out, fun z hz => ?_⟩, hq.out, Ob.rd KY.out, HR.out⟩
   obtain ⟨x, hx, rfl⟩ := List.mem_map.1 hz
   exact (HL.out.2 x hx).step HR.out
  | succ gf =>
   have hqk : q ≤ k := by have h1 := ends_len (cons (L.take k)) y; have h2 := hq.out; rw [cons_length, List.length_take] at h1; omega
   have hkl : k < L.length := by rw [HN.out]; omega
   have lt0 : (k : Int) < (n : Int) := by omega
   have hw1 : (k : Int) + 1 ≤ 10000 := by omega
   have har := Arr.step HL.out HB.out
   obtain ⟨b, off, hA, _, e0, e1, e2, e3, e4, e5, e6, e7, e8⟩ := ard_at har.1 hkl
   have hage := HAG.out _ (ag_mem hkl)
   have HTK : Hid (L.take (k + 1) = L.take k ++ [ag L k]) := Lib.hid (atake hkl)
   have HCT : Hid (cons (L.take (k + 1)) = cons (L.take k) ++ [con (ag L k)]) := Lib.hid (cons_take1 hkl)
   obtain ⟨x, hx⟩ : ∃ x, ag L k = x := ⟨_, rfl⟩
   rw [hx] at e0 e1 e2 e3 e4 e5 e6 e7 e8 HTK HCT hage
   have HAR : Hid (∀ V, Below w.heap.size w V → V.cell? ⟨b, off + k * 9, none⟩ = some (.int .i64 x.h.a)) := Lib.hid (fun V hV => by
    obtain ⟨b2, off2, hA2, _, q0, q1, q2, q3, q4, q5, q6, q7, q8⟩ := ard_at (Arr.step HL.out hV).1 hkl
    rw [hx] at q0
    rw [hA] at hA2
    injection hA2 with hA2
    injection hA2 with h1 h2
    subst h1 h2
    exact q0)
   have CO := rolder_any x.h y x.A x.l.length x.c wr hage.1 hage.2
   have hae := old_a (y := y) hage.1 hage.2
   have hko := kyo_old x.h y
   obtain ⟨r, hr⟩ : ∃ r, old x.h y = r := ⟨_, rfl⟩
   rw [hr] at CO hae hko
   have HMP : Hid ((L.take (k + 1)).map (tkA y) = (L.take k).map (tkA y) ++ [⟨r, x.A, x.c, x.l⟩]) := Lib.hid (by rw [map_snoc L y HTK.out, tkA, hr])
   have HEN : Hid (ends (cons (L.take (k + 1))) y = ends (cons (L.take k)) y ++ if (!decide (x.h.a = 3600) && decide (r.a = 3600)) = true then [kyo r] else []) := Lib.hid (by rw [HCT.out, ends_snoc, hko, ← hr]; rfl)
   subst hA
   clear hkl har hx hr hko HTK HCT
   go_upto_region 5 with fail
   clear kz g0 g1 g2 hgl
   go_wp2_with fail
   refine CO.mono ?_
   rintro e W4 ⟨rfl, u4⟩
   obtain ⟨ka, hka⟩ : ∃ q, W4.heap.size = q := ⟨_, rfl⟩
   obtain ⟨W5, hW5⟩ : ∃ V, W4.alloc (.cells #[Value.int .i64 0, .int .i64 0, .int .i64 0, .int .u32 0, .int .u32 0, .int .u32 0, .int .i64 0, .int .i64 0, .slice none 0 0] 40) = V := ⟨_, rfl⟩
   have u5 : Below W4.heap.size W4 W5 := by rw [← hW5]; exact below_alloc1 _ _
   have G5 : Bk W5 ka (.cells #[Value.int .i64 0, .int .i64 0, .int .i64 0, .int .u32 0, .int .u32 0, .int .u32 0, .int .i64 0, .int .i64 0, .slice none 0 0] 40) := by rw [← hka]; exact Bk.mk hW5
   obtain ⟨W6, hW6⟩ : ∃ V, (((((((((W5).setCell ⟨ka, 0, none⟩ (.int .i64 r.a)).setCell ⟨ka, 1, none⟩ (.int .i64 r.o)).setCell ⟨ka, 2, none⟩ (.int .i64 r.t)).setCell ⟨ka, 3, none⟩ (.int .u32 r.i)).setCell ⟨ka, 4, none⟩ (.int .u32 r.v)).setCell ⟨ka, 5, none⟩ (.int .u32 r.q)).setCell ⟨ka, 6, none⟩ (.int .i64 r.s)).setCell ⟨ka, 7, none⟩ (.int .i64 r.n)).setCell ⟨ka, 8, none⟩ (.slice x.A x.l.length x.c) = V := ⟨_, rfl⟩
   have G6 : Bk W6 ka (.cells #[Value.int .i64 r.a, .int .i64 r.o, .int .i64 r.t, .int .u32 r.i, .int .u32 r.v, .int .u32 r.q, .int .i64 r.s, .int .i64 r.n, .slice x.A x.l.length x.c] 40) := by rw [← hW6]; exact kz9_set G5 _ _ _ _ _ _ _ _ _
   have u6 : Below W4.heap.size W4 W6 := by rw [← hW6]; exact below_st9 u5 (Nat.le_of_eq hka) _ _ _ _ _ _ _ _ _
   have b6 : Below wr.heap.size wr W6 := u4.trans (u6.mono u4.size)
   have H6 := Lib.hid (hb.out.trans (b6.mono hb.out.size))
   have A6 := Lib.hid (hO.out.below b6)
   have K6 := Lib.hid (hK.out.below b6)
   have T6 := Lib.hid (HB.out.trans (b6.mono HB.out.size))
   obtain ⟨z0, z1, z2, z3, z4, z5, z6, z7, z8, f0, f1, f2, f3, f4, f5, f6, f7, f8, hzl⟩ := kz9_at G5
   have HG6 := Lib.hid G6
   obtain ⟨ks6, -⟩ := KS.out _ H6.out
   clear u4 u5 u6 b6 G5 G6 CO ks k0 k1 k2 e0 e1 e2 e3 e4 e5 e6 e7 e8 HAG
   go_upto_region 6 with fail
   clear z0 z1 z2 z3 z4 z5 z6 z7 z8 f0 f1 f2 f3 f4 f5 f6 f7 f8 hzl hW6 hW5 hka W4 W5
   obtain ⟨z0, z1, z2, z3, z4, z5, z6, z7, z8, -⟩ := kz9_at HG6.out
   obtain ⟨k0, k1, k2, -⟩ := kz3_at ks6
   have e0 := HAR.out _ T6.out
   clear ks6
   have lti : (k : Int) < (n : Int) := lt0
   by_cases hfin : ¬ x.h.a = 3600 ∧ r.a = 3600
   ·obtain ⟨h1, h2⟩ := hfin
    have HD1 : Hid (ends (cons (L.take (k + 1))) y = ends (cons (L.take k)) y ++ [kyo r]) := Lib.hid (by rw [HEN.out, if_pos (by simp [h1, h2])])
    have hlt : x.h.a < 3600 := by omega
    have hb1 : (r.a == 3600) = true := by simpa using h2
    have hb3 : decide (x.h.a < 3600) = true := by simpa using hlt
    have CK := rkey_any r W6
    obtain ⟨i0, hi0, hz0, hz1, hz2⟩ := info_of infoK
    clear HEN h1 h2
    go_wp2_with fail
    refine CK.mono ?_
    rintro e W7 ⟨rfl, u7⟩
    obtain ⟨n0, hn0⟩ : ∃ q, W7.heap.size = q := ⟨_, rfl⟩
    have K7 := K6.out.below u7
    obtain ⟨g9, c9, Z9, r9, rg9, kp9, hg9⟩ := app_one (P := Tryz.prog) (S := fun j => Ak = some ⟨j, 0, none⟩) Tryz.underlying58 hi0 hz0 hz1 hz2 rfl (by decide) (by decide) K7.self (n := q) (by rw [kflat_length, hq.out]) (kcs (kyo r)) rfl (kcs_one _) (by omega) n0 hn0
    have h7 := H6.out.trans (u7.mono H6.out.size)
    have hs7 := h7.size
    have hs1 := S1.out
    have H7 : Hid (Below W1.heap.size W1 Z9) := Lib.hid (h7.trans (kp9.below (fun j hj => by have h3 : w.heap.size + 2 ≤ j := K7.at hj; omega) hs7))
    have A7 : Hid (Ob 40 9 (w.heap.size + 2 ≤ ·) Z9 Ao co (aflat ((L.take k).map (tkA y)))) := Lib.hid ((A6.out.below u7).kpo K7 (by decide) kp9)
    have KZ9 : Hid (Ob 25 3 (w.heap.size + 2 ≤ ·) Z9 (some ⟨g9, 0, none⟩) c9 (kflat (ends (cons (L.take k)) y ++ [kyo r]))) := Lib.hid (.inr ⟨g9, (by rcases hg9 with q | q; exact K7.at q; show w.heap.size + 2 ≤ g9; omega), rfl, by rw [kflat_snoc]; exact rg9⟩)
    have G7 : Hid (Bk Z9 ka (.cells #[Value.int .i64 r.a, .int .i64 r.o, .int .i64 r.t, .int .u32 r.i, .int .u32 r.v, .int .u32 r.q, .int .i64 r.s, .int .i64 r.n, .slice x.A x.l.length x.c] 40)) := Lib.hid (by
     have hg := HG6.out.step u7
     refine (kp9.block _ hg.lt fun e => ?_).trans hg
     obtain ⟨cur, mm, hq2⟩ := K7.typed e
     rw [hg] at hq2
     injection hq2 with hq2
     injection hq2 with _ h3 _
     exact absurd h3 (by decide))
    rw [show (kcs (kyo r)).toArray = #[Value.int .i64 r.t, .int .u32 r.i, .int .u32 r.v] from rfl] at r9
    clear rg9 kp9 hg9 u7 CK K7 h7 hs7 hs1
    obtain ⟨v0, v1, v2, v3, v4, v5, v6, v7, v8, -⟩ := kz9_at G7.out
    obtain ⟨i1, hi1, hx0, hx1, hx2⟩ := info_of infoA
    obtain ⟨n1, hn1⟩ : ∃ q, Z9.heap.size = q := ⟨_, rfl⟩
    obtain ⟨g8, c8, Z8, r8, rg8, kp8, hg8⟩ := app_one (P := Tryz.prog) (S := fun j => Ao = some ⟨j, 0, none⟩) Tryz.underlying26 hi1 hx0 hx1 hx2 rfl (by decide) (by decide) A7.out.self (n := k) (by rw [aflat_length, len_tkA, List.length_take, HN.out]; omega) (acs ⟨r, x.A, x.c, x.l⟩) rfl (acs_one _) (by omega) n1 hn1
    have hsz := H7.out.size
    have hs1 := S1.out
    have H8 : Hid (Below W1.heap.size W1 Z8) := Lib.hid (H7.out.trans (kp8.below (fun j hj => by have h3 : w.heap.size + 2 ≤ j := A7.out.at hj; omega) hsz))
    have A8 : Hid (Ob 40 9 (w.heap.size + 2 ≤ ·) Z8 (some ⟨g8, 0, none⟩) c8 (aflat ((L.take (k + 1)).map (tkA y)))) := Lib.hid (.inr ⟨g8, (by rcases hg8 with q | q; exact A7.out.at q; show w.heap.size + 2 ≤ g8; omega), rfl, by rw [HMP.out, aflat_snoc]; exact rg8⟩)
    have K8 : Hid (Ob 25 3 (w.heap.size + 2 ≤ ·) Z8 (some ⟨g9, 0, none⟩) c9 (kflat (ends (cons (L.take (k + 1))) y))) := Lib.hid (by rw [HD1.out]; exact (KZ9.out.kpo A7.out (by decide) kp8))
    have Q8 : Hid ((ends (cons (L.take (k + 1))) y).length = (q + 1)) := Lib.hid (by rw [HD1.out]; rw [List.length_append, hq.out]; rfl)
    rw [show (acs ⟨r, x.A, x.c, x.l⟩).toArray = #[Value.int .i64 r.a, .int .i64 r.o, .int .i64 r.t, .int .u32 r.i, .int .u32 r.v, .int .u32 r.q, .int .i64 r.s, .int .i64 r.n, .slice x.A x.l.length x.c] from rfl] at r8
    clear rg8 kp8 hg8 hsz hs1
    go_wp2_with (first | (at_builtin; refine wpList_runb _ rfl (.tmp 40) (.tmp 44) 58 rfl rfl rfl r9 ?_) | (at_builtin; refine wpList_runb _ rfl (.tmp 46) (.tmp 48) 26 rfl rfl rfl r8 ?_))
    go_roundg gf
    case measure => omega
    case rel => exact ⟨k + 1, q + 1, some ⟨g8, 0, none⟩, c8, some ⟨g9, 0, none⟩, c9, rfl, rfl, by go_num, Lib.hid (by omega), H8, A8, Q8, K8⟩
   ·have HD1 : Hid (ends (cons (L.take (k + 1))) y = ends (cons (L.take k)) y) := Lib.hid (by rw [HEN.out, if_neg (by simp only [Bool.and_eq_true, Bool.not_eq_true', decide_eq_true_eq, decide_eq_false_iff_not]; exact hfin), List.append_nil])
    obtain ⟨i1, hi1, hx0, hx1, hx2⟩ := info_of infoA
    obtain ⟨n1, hn1⟩ : ∃ q, W6.heap.size = q := ⟨_, rfl⟩
    obtain ⟨g8, c8, Z8, r8, rg8, kp8, hg8⟩ := app_one (P := Tryz.prog) (S := fun j => Ao = some ⟨j, 0, none⟩) Tryz.underlying26 hi1 hx0 hx1 hx2 rfl (by decide) (by decide) A6.out.self (n := k) (by rw [aflat_length, len_tkA, List.length_take, HN.out]; omega) (acs ⟨r, x.A, x.c, x.l⟩) rfl (acs_one _) (by omega) n1 hn1
    have hsz := H6.out.size
    have hs1 := S1.out
    have H8 : Hid (Below W1.heap.size W1 Z8) := Lib.hid (H6.out.trans (kp8.below (fun j hj => by have h3 : w.heap.size + 2 ≤ j := A6.out.at hj; omega) hsz))
    have A8 : Hid (Ob 40 9 (w.heap.size + 2 ≤ ·) Z8 (some ⟨g8, 0, none⟩) c8 (aflat ((L.take (k + 1)).map (tkA y)))) := Lib.hid (.inr ⟨g8, (by rcases hg8 with q | q; exact A6.out.at q; show w.heap.size + 2 ≤ g8; omega), rfl, by rw [HMP.out, aflat_snoc]; exact rg8⟩)
    have K8 : Hid (Ob 25 3 (w.heap.size + 2 ≤ ·) Z8 Ak ck (kflat (ends (cons (L.take (k + 1))) y))) := Lib.hid (by rw [HD1.out]; exact (K6.out.kpo A6.out (by decide) kp8))
    have Q8 : Hid ((ends (cons (L.take (k + 1))) y).length = q) := Lib.hid (by rw [HD1.out]; exact hq.out)
    rw [show (acs ⟨r, x.A, x.c, x.l⟩).toArray = #[Value.int .i64 r.a, .int .i64 r.o, .int .i64 r.t, .int .u32 r.i, .int .u32 r.v, .int .u32 r.q, .int .i64 r.s, .int .i64 r.n, .slice x.A x.l.length x.c] from rfl] at r8
    clear rg8 kp8 hg8 hsz hs1
    by_cases h2 : r.a = 3600
    ·have h1 : x.h.a = 3600 := Classical.byContradiction fun e => hfin ⟨e, h2⟩
     have hb1 : (r.a == 3600) = true := by simpa using h2
     have hlt : ¬ x.h.a < 3600 := by omega
     have hb3 : decide (x.h.a < 3600) = false := by simpa using hlt
     clear hfin h1 h2 HEN
     go_wp2_with (at_builtin; refine wpList_runb _ rfl (.tmp 46) (.tmp 48) 26 rfl rfl rfl r8 ?_)
     go_roundg gf
     case measure => omega
     case rel => exact ⟨k + 1, q, some ⟨g8, 0, none⟩, c8, Ak, ck, rfl, rfl, by go_num, Lib.hid (by omega), H8, A8, Q8, K8⟩
    ·have hb1 : (r.a == 3600) = false := by simpa using h2
     clear hfin HEN
     go_wp2_with (at_builtin; refine wpList_runb _ rfl (.tmp 46) (.tmp 48) 26 rfl rfl rfl r8 ?_)
     go_roundg gf
     case measure => omega
     case rel => exact ⟨k + 1, q, some ⟨g8, 0, none⟩, c8, Ak, ck, rfl, rfl, by go_num, Lib.hid (by omega), H8, A8, Q8, K8⟩
end Go.Proofs.YtadcicmccdphkaaGreat
