/-
  The contract of into, of the reference. What Put does a second time, and what is left when one is dropped, on plain rows. Where the reference lays one, of a store that may be. No statement is proved here; no conditions.
-/
import Derived.Test.YtadcicmccdphkaaGreatG30
import Derived.Test.YtadcicmccdphkaaGreatG27
namespace Go.Proofs.YtadcicmccdphkaaGreat
open Go.RowKit Go.Joins

def RIP (m : Int) (o : Bool) (C : List Ct) (L : List Ae) (x : Ae) (w : World) (e : Ending) (w' : World) : Prop := ∃ A' c' n' L', e = .returned (.agg #[.int .i64 m, .slice A' n' c', .bool o]) ∧ L'.length = n' ∧ cons L' = C ∧ (∀ z ∈ L', z ∈ L ∨ z = x) ∧ Arr w' A' L' ∧ Below w.heap.size w w'
def intoC (C : List Ct) (x : Ct) : List Ct := ((C.filter fun z => !kq x.1 z.1).take ((C.filter fun z => !kq x.1 z.1).findIdx fun z => lessK x.1 z.1)) ++ x :: ((C.filter fun z => !kq x.1 z.1).drop ((C.filter fun z => !kq x.1 z.1).findIdx fun z => lessK x.1 z.1))
theorem ipl_cons (M : List Ae) (h : Hd) : (cons M).findIdx (fun z => lessK h z.1) = ipl M h := by
 rw [ipl, cons, List.findIdx_map]
 rfl
set_option maxRecDepth 100000 in
set_option maxHeartbeats 8000000 in
theorem rinto_any (x : Ae) (m : Int) (A : Option Addr) (n c : Nat) (o : Bool) (L : List Ae) (w : World) (hn : L.length = n) (hl : Arr w A L) (hll : n ≤ 9000) (hx : Bt w x.A x.l) :
  Calls Tryz.prog 54 #[.agg #[.int .i64 m, .slice A n c, .bool o], av x] w fun e w' => RIP m o (intoC (cons L) (con x)) L x w e w' := by
 have HCX : Hid (con x = (x.h, x.l)) := Lib.hid rfl
 rw [av]
 have HBX := Lib.hid hx
 obtain ⟨W0, hW0⟩ : ∃ V, w.alloc (.cells #[.int .i64 m, .slice A n c, .bool o] 32) = V := ⟨_, rfl⟩
 have bW0 : Below w.heap.size w W0 := by rw [← hW0]; exact below_alloc1 _ _
 have sW0 : W0.heap.size = w.heap.size + 1 := by rw [← hW0]; simp
 obtain ⟨W1, hW1⟩ : ∃ V, W0.alloc (.cells #[Value.int .i64 x.h.a, .int .i64 x.h.o, .int .i64 x.h.t, .int .u32 x.h.i, .int .u32 x.h.v, .int .u32 x.h.q, .int .i64 x.h.s, .int .i64 x.h.n, .slice x.A x.l.length x.c] 40) = V := ⟨_, rfl⟩
 have bW1 : Below W0.heap.size W0 W1 := by rw [← hW1]; exact below_alloc1 _ _
 have sW1 : W1.heap.size = w.heap.size + 2 := by rw [← hW1]; simp; omega
 obtain ⟨W2, hW2⟩ : ∃ V, W1.alloc (.cells #[Value.int .i64 0, .slice none 0 0, .bool false] 32) = V := ⟨_, rfl⟩
 have bW2 : Below W1.heap.size W1 W2 := by rw [← hW2]; exact below_alloc1 _ _
 have b02 : Below W0.heap.size W0 W2 := bW1.trans (bW2.mono bW1.size)
 have HB0 : Hid (Below w.heap.size w W2) := Lib.hid (bW0.trans (b02.mono bW0.size))
 have KS : Hid (∀ V, Below W2.heap.size W2 V → Bk V w.heap.size (.cells #[.int .i64 m, .slice A n c, .bool o] 32) ∧ Bk V (w.heap.size + 1) (.cells #[Value.int .i64 x.h.a, .int .i64 x.h.o, .int .i64 x.h.t, .int .u32 x.h.i, .int .u32 x.h.v, .int .u32 x.h.q, .int .i64 x.h.s, .int .i64 x.h.n, .slice x.A x.l.length x.c] 40) ∧ Bk V (w.heap.size + 2) (.cells #[Value.int .i64 0, .slice none 0 0, .bool false] 32)) := Lib.hid (fun V hV => ⟨((Bk.mk hW0).step b02).step hV, (show Bk W2 _ _ by have := (Bk.mk hW1).step bW2; rwa [sW0] at this).step hV, (show Bk W2 _ _ by have := Bk.mk hW2; rwa [sW1] at this).step hV⟩)
 have HN := Lib.hid hn
 have HL := Lib.hid hl
 obtain ⟨sb, ab, -⟩ := KS.out _ (Below.refl _ _)
 obtain ⟨k0, k1, k2, -⟩ := kz3_at sb
 obtain ⟨a0, a1, a2, a3, a4, a5, a6, a7, a8, -⟩ := kz9_at ab
 clear hl hn hx bW0 bW1 bW2 b02 sb ab
 go_enter Tryz.func54, Tryz.ntmps54
 go_wp2_with fail
 refine (rkey_any x.h W2).mono ?_
 rintro e W3 ⟨rfl, u3⟩
 have T3 := Lib.hid u3
 clear k0 k1 k2 a0 a1 a2 a3 a4 a5 a6 a7 a8 u3
 obtain ⟨kb, hkb⟩ : ∃ q, W3.heap.size = q := ⟨_, rfl⟩
 obtain ⟨Vb, hVb⟩ : ∃ V, W3.alloc (.cells #[Value.int .i64 0, .int .u32 0, .int .u32 0] 25) = V := ⟨_, rfl⟩
 have uVb : Below W3.heap.size W3 Vb := by rw [← hVb]; exact below_alloc1 _ _
 have GVb : Bk Vb kb (.cells #[Value.int .i64 0, .int .u32 0, .int .u32 0] 25) := by rw [← hkb]; exact Bk.mk hVb
 obtain ⟨Xb, hXb⟩ : ∃ V, (((Vb).setCell ⟨kb, 0, none⟩ (.int .i64 x.h.t)).setCell ⟨kb, 1, none⟩ (.int .u32 x.h.i)).setCell ⟨kb, 2, none⟩ (.int .u32 x.h.v) = V := ⟨_, rfl⟩
 have Gb : Bk Xb kb (.cells #[.int .i64 x.h.t, .int .u32 x.h.i, .int .u32 x.h.v] 25) := by rw [← hXb]; exact kz3_set GVb (.int .i64 x.h.t) (.int .u32 x.h.i) (.int .u32 x.h.v)
 have ub : Below W3.heap.size W3 Xb := by rw [← hXb]; exact below_st3 uVb (by rw [← hkb]; exact Nat.le_refl _) (.int .i64 x.h.t) (.int .u32 x.h.i) (.int .u32 x.h.v)
 obtain ⟨yb0, yb1, yb2, fb0, fb1, fb2, hzb⟩ := kz3_at GVb
 have Tb := Lib.hid (T3.out.trans (ub.mono T3.out.size))
 obtain ⟨s0, -, -⟩ := KS.out _ Tb.out
 obtain ⟨k0, k1, k2, -⟩ := kz3_at s0
 obtain ⟨j0, j1, j2, -⟩ := kz3_at Gb
 have HBb := Lib.hid (HB0.out.trans (Tb.out.mono HB0.out.size))
 have HGb := Lib.hid Gb
 have CD := rdrop_any x.h m A n c o L Xb HN.out (HL.out.step HBb.out) hll
 clear ub s0 Gb
 go_wp2_with fail
 refine CD.mono ?_
 rintro e W4 ⟨A4, c4, n4, M, rfl, hn4, hc4, hm4, ha4, u4⟩
 have hn49 : n4 ≤ 9000 := by rw [← hn4, ← cons_length, hc4]; exact Nat.le_trans (List.length_filter_le _ _) (by rw [cons_length, HN.out]; exact hll)
 have HN4 := Lib.hid hn4
 have HC4 := Lib.hid hc4
 have HM4 := Lib.hid hm4
 clear yb0 yb1 yb2 fb0 fb1 fb2 hzb hXb hVb hkb GVb uVb k0 k1 k2 j0 j1 j2 CD hn4 hc4 hm4
 obtain ⟨kd, hkd⟩ : ∃ q, W4.heap.size = q := ⟨_, rfl⟩
 obtain ⟨Vd, hVd⟩ : ∃ V, W4.alloc (.cells #[Value.int .i64 0, .slice none 0 0, .bool false] 32) = V := ⟨_, rfl⟩
 have uVd : Below W4.heap.size W4 Vd := by rw [← hVd]; exact below_alloc1 _ _
 have GVd : Bk Vd kd (.cells #[Value.int .i64 0, .slice none 0 0, .bool false] 32) := by rw [← hkd]; exact Bk.mk hVd
 obtain ⟨Xd, hXd⟩ : ∃ V, (((Vd).setCell ⟨kd, 0, none⟩ (.int .i64 m)).setCell ⟨kd, 1, none⟩ (.slice A4 n4 c4)).setCell ⟨kd, 2, none⟩ (.bool o) = V := ⟨_, rfl⟩
 have Gd : Bk Xd kd (.cells #[.int .i64 m, .slice A4 n4 c4, .bool o] 32) := by rw [← hXd]; exact kz3_set GVd (.int .i64 m) (.slice A4 n4 c4) (.bool o)
 have ud : Below W4.heap.size W4 Xd := by rw [← hXd]; exact below_st3 uVd (by rw [← hkd]; exact Nat.le_refl _) (.int .i64 m) (.slice A4 n4 c4) (.bool o)
 obtain ⟨yd0, yd1, yd2, fd0, fd1, fd2, hzd⟩ := kz3_at GVd
 have Td := Lib.hid (Tb.out.trans ((u4.trans (ud.mono u4.size)).mono Tb.out.size))
 have HA4 := Lib.hid (ha4.step ud)
 have HGbd := Lib.hid (HGb.out.step (u4.trans (ud.mono u4.size)))
 have HGd := Lib.hid Gd
 have HBd := Lib.hid (HB0.out.trans (Td.out.mono HB0.out.size))
 clear u4 ud ha4 Gd
 have KT : Hid (∀ V, Below Xd.heap.size Xd V → Bk V w.heap.size (.cells #[.int .i64 m, .slice A n c, .bool o] 32) ∧ Bk V (w.heap.size + 1) (.cells #[Value.int .i64 x.h.a, .int .i64 x.h.o, .int .i64 x.h.t, .int .u32 x.h.i, .int .u32 x.h.v, .int .u32 x.h.q, .int .i64 x.h.s, .int .i64 x.h.n, .slice x.A x.l.length x.c] 40) ∧ Bk V (w.heap.size + 2) (.cells #[Value.int .i64 0, .slice none 0 0, .bool false] 32) ∧ Bk V kb (.cells #[.int .i64 x.h.t, .int .u32 x.h.i, .int .u32 x.h.v] 25) ∧ Bk V kd (.cells #[.int .i64 m, .slice A4 n4 c4, .bool o] 32)) := Lib.hid (fun V hV => by
  obtain ⟨q1, q2, q3⟩ := KS.out _ (Td.out.trans (hV.mono Td.out.size))
  exact ⟨q1, q2, q3, HGbd.out.step hV, HGd.out.step hV⟩)
 obtain ⟨Wf, hWf⟩ : ∃ V, Xd.alloc (.cells #[] 40) = V := ⟨_, rfl⟩
 have uf : Below Xd.heap.size Xd Wf := by rw [← hWf]; exact below_alloc1 _ _
 have O1 := ob_lit Xd 40 9 Xd.heap.size (Nat.le_refl _)
 rw [hWf] at O1
 obtain ⟨N1, hN1⟩ : ∃ q, Xd.heap.size = q := ⟨_, rfl⟩
 have O2 : Hid (Ob 40 9 (Xd.heap.size ≤ ·) Wf (some ⟨N1, 0, none⟩) 0 (aflat (itk M x 0))) := Lib.hid (by rw [hN1] at O1 ⊢; exact O1)
 have J0 : Hid (Below Xd.heap.size Xd Wf) := Lib.hid uf
 have HN1 := Lib.hid hN1
 have S9 : Hid (w.heap.size + 3 ≤ Xd.heap.size) := Lib.hid (by have := HGd.out.lt; have := Td.out.size; have h2 : W2.heap.size = w.heap.size + 3 := (by rw [← hW2]; simp; omega); omega)
 clear hN1 O1 uf
 go_wp2_with fail
 clear yd0 yd1 yd2 fd0 fd1 fd2 hzd hXd hVd hkd GVd uVd
 go_loopg [8, 9, 10] n4 (fun gf v8 v9 v10 wx => ∃ (k q : Nat) (bq : Bool) (Ao : Option Addr) (co : Nat), v8 = .slice Ao q co ∧ v9 = .bool bq ∧ v10 = .int .i64 (k : Int) ∧ Hid (gf + k = n4) ∧ Hid (Below Xd.heap.size Xd wx) ∧ Hid ((itk M x k).length = q) ∧ Hid (bq = decide (ipl M x.h < k)) ∧ Hid (Ob 40 9 (Xd.heap.size ≤ ·) wx Ao co (aflat (itk M x k))))
 case atStart => exact ⟨0, 0, false, some ⟨N1, 0, none⟩, 0, by have := HN1.out; simp, rfl, rfl, Lib.hid (by omega), J0, Lib.hid rfl, Lib.hid (by simp), O2⟩
 case round =>
  obtain ⟨k, q, bq, Ao, co, rfl, rfl, rfl, hk, hb, hq, hbq, hO⟩ := hrel
  have hk' := hk.out
  have hkn : k ≤ n4 := by omega
  have HB := Lib.hid (HBd.out.trans (hb.out.mono HBd.out.size))
  have hql : q ≤ k + 1 := by have h1 := hq.out; rw [itk_len (by rw [HN4.out]; exact hkn)] at h1; split at h1 <;> omega
  obtain ⟨bs, ba, bz, bk, br⟩ := KT.out _ hb.out
  obtain ⟨k0, k1, k2, g0, g1, g2, hgl⟩ := kz3_at bs
  obtain ⟨j0, j1, j2, -⟩ := kz3_at bk
  obtain ⟨r0, r1, r2, -⟩ := kz3_at br
  obtain ⟨a0, a1, a2, a3, a4, a5, a6, a7, a8, -⟩ := kz9_at ba
  obtain ⟨i0, hi0, hz0, hz1, hz2⟩ := info_of infoA
  clear J0 O2 hWf
  cases gk with
  | zero =>
   obtain rfl : k = n4 := by omega
   have lt0 : decide ((k : Int) < (k : Int)) = false := by simp
   have lt1 : decide (k < k) = false := by simp
   have CE : Hid (cons (insA M (ipl M x.h) x) = intoC (cons L) (con x)) := Lib.hid (by
    unfold intoC
    rw [cons_insA, show ((cons L).filter fun z => !kq (con x).1 z.1) = cons M from HC4.out.symm, show (cons M).findIdx (fun z => lessK (con x).1 z.1) = ipl M x.h from ipl_cons M x.h])
   have ME : Hid (∀ z ∈ insA M (ipl M x.h) x, z ∈ L ∨ z = x) := Lib.hid (fun z hz => by
    rcases mem_insA hz with q | q
    ·exact .inl (HM4.out z q)
    ·exact .inr q)
   have LI : Hid ((insA M (ipl M x.h) x).length = k + 1) := Lib.hid (by rw [insA_length (ipl_le M x.h), HN4.out])
   clear k0 k1 k2 g0 g1 g2 hgl j0 j1 j2 bs bz bk br
   by_cases hp : ipl M x.h < k
   ·have hbt : bq = true := by rw [hbq.out]; simpa using hp
    subst hbt
    have EE : Hid (itk M x k = insA M (ipl M x.h) x) := Lib.hid (by have h1 := itk_end (M := M) (x := x) (by rw [HN4.out]; exact hp); rwa [HN4.out] at h1)
    have LE : Hid ((insA M (ipl M x.h) x).length = q) := Lib.hid (by rw [← EE.out, hq.out])
    clear a0 a1 a2 a3 a4 a5 a6 a7 a8 ba
    go_upto_region 14 with fail
    clear r0 r1 r2
    obtain ⟨bs, -, bz, -, -⟩ := KT.out _ hb.out
    obtain ⟨k0, k1, k2, g0, g1, g2, hgl⟩ := kz3_at bs
    obtain ⟨Wx, hWx⟩ : ∃ V, wr.setCell ⟨w.heap.size, 1, none⟩ (.slice Ao q co) = V := ⟨_, rfl⟩
    have ks2 : Bk Wx w.heap.size (.cells #[.int .i64 m, .slice Ao q co, .bool o] 32) := by rw [← hWx]; exact Bk.set3 (i := 1) bs
    have kz2 : Bk Wx (w.heap.size + 2) (.cells #[Value.int .i64 0, .slice none 0 0, .bool false] 32) := by rw [← hWx]; exact (Below.heap_setCell _ _ _ _ (by show w.heap.size + 2 ≠ w.heap.size; omega)).trans bz
    have TW := HBd.out.trans ((hb.out).mono HBd.out.size)
    have T2 : Below w.heap.size w Wx := by rw [← hWx]; exact TW.setCell (p := ⟨w.heap.size, 1, none⟩) (Nat.le_refl _) _
    obtain ⟨p0, p1, p2, -⟩ := kz3_at ks2
    obtain ⟨z0, z1, z2, f0, f1, f2, hzl⟩ := kz3_at kz2
    have HKZ := Lib.hid kz2
    have OX : Hid (Ob 40 9 (Xd.heap.size ≤ ·) Wx Ao co (aflat (itk M x k))) := Lib.hid (by
     rw [← hWx]
     exact (hO.out).keep fun j hj hlt => Below.heap_setCell _ _ _ _ (by show j ≠ w.heap.size; have := S9.out; have h1 : Xd.heap.size ≤ j := hj; omega))
    have HRR := Lib.hid (below_st3 T2 (show w.heap.size ≤ w.heap.size + 2 by omega) (Value.int .i64 m) (.slice Ao q co) (.bool o))
    have OY : Hid (Ob 40 9 (Xd.heap.size ≤ ·) (st3 Wx (w.heap.size + 2) (Value.int .i64 m) (.slice Ao q co) (.bool o)) Ao co (aflat (itk M x k))) := Lib.hid (OX.out.keep fun j hj hlt => far_st3 (by have := S9.out; have h1 : Xd.heap.size ≤ j := hj; omega) _ _ _)
    clear bs bz ks2 kz2 T2 TW
    go_wp2
    obtain ⟨v0, v1, v2⟩ := kz3_get HKZ.out (Value.int .i64 m) (.slice Ao q co) (.bool o)
    refine bodyPost_ret (v := .agg #[.int .i64 m, .slice Ao q co, .bool o]) (by simp [results, Tryz.results54, go_sem, v0, v1, v2]) rfl ⟨Ao, co, q, insA M (ipl M x.h) x, rfl, LE.out, CE.out, ME.out, ⟨by have h1 := Ob.rd OY.out; rwa [EE.out] at h1, fun z hz => by rcases ME.out z hz with q | rfl; exact (HL.out.2 z q).step HRR.out; exact HBX.out.step HRR.out⟩, HRR.out⟩
   ·have hbt : bq = false := by rw [hbq.out]; simpa using hp
    subst hbt
    obtain ⟨nf, hnf⟩ : ∃ q, wr.heap.size = q := ⟨_, rfl⟩
    obtain ⟨gf9, cf9, Zf, rf9, rgf, kpf, hgf⟩ := app_one (P := Tryz.prog) (S := fun j => Xd.heap.size ≤ j) Tryz.underlying26 hi0 hz0 hz1 hz2 rfl (by decide) (by decide) hO.out (n := q) (by rw [aflat_length, hq.out]) (acs x) rfl (acs_one x) (by omega) nf hnf
    rw [show (acs x).toArray = #[Value.int .i64 x.h.a, .int .i64 x.h.o, .int .i64 x.h.t, .int .u32 x.h.i, .int .u32 x.h.v, .int .u32 x.h.q, .int .i64 x.h.s, .int .i64 x.h.n, .slice x.A x.l.length x.c] from rfl] at rf9
    have hTb := hb.out
    have Tf : Hid (Below Xd.heap.size Xd Zf) := Lib.hid (hTb.trans (kpf.below (fun j hj => hj) hTb.size))
    have Of : Hid (Ob 40 9 (Xd.heap.size ≤ ·) Zf (some ⟨gf9, 0, none⟩) cf9 (aflat (itk M x k ++ [x]))) := Lib.hid (.inr ⟨gf9, (by rcases hgf with q | q; exact q; have h1 := hTb.size; show Xd.heap.size ≤ gf9; omega), rfl, by rw [aflat_snoc]; exact rgf⟩)
    clear rgf kpf hgf
    have EE : Hid (itk M x k ++ [x] = insA M (ipl M x.h) x) := Lib.hid (by have h1 := itk_none (M := M) (x := x) (by rw [HN4.out]; exact hp); rwa [HN4.out] at h1)
    have LE : Hid ((insA M (ipl M x.h) x).length = q + 1) := Lib.hid (by rw [← EE.out, List.length_append, hq.out]; rfl)
    clear hTb ba
    go_upto_region 14 with (at_builtin; refine wpList_runb _ rfl (.tmp 55) (.tmp 57) 26 rfl rfl rfl rf9 ?_)
    clear a0 a1 a2 a3 a4 a5 a6 a7 a8 r0 r1 r2 rf9
    obtain ⟨bs, -, bz, -, -⟩ := KT.out _ Tf.out
    obtain ⟨k0, k1, k2, g0, g1, g2, hgl⟩ := kz3_at bs
    obtain ⟨Wx, hWx⟩ : ∃ V, Zf.setCell ⟨w.heap.size, 1, none⟩ (.slice (some ⟨gf9, 0, none⟩) (q + 1) cf9) = V := ⟨_, rfl⟩
    have ks2 : Bk Wx w.heap.size (.cells #[.int .i64 m, .slice (some ⟨gf9, 0, none⟩) (q + 1) cf9, .bool o] 32) := by rw [← hWx]; exact Bk.set3 (i := 1) bs
    have kz2 : Bk Wx (w.heap.size + 2) (.cells #[Value.int .i64 0, .slice none 0 0, .bool false] 32) := by rw [← hWx]; exact (Below.heap_setCell _ _ _ _ (by show w.heap.size + 2 ≠ w.heap.size; omega)).trans bz
    have TW := HBd.out.trans ((Tf.out).mono HBd.out.size)
    have T2 : Below w.heap.size w Wx := by rw [← hWx]; exact TW.setCell (p := ⟨w.heap.size, 1, none⟩) (Nat.le_refl _) _
    obtain ⟨p0, p1, p2, -⟩ := kz3_at ks2
    obtain ⟨z0, z1, z2, f0, f1, f2, hzl⟩ := kz3_at kz2
    have HKZ := Lib.hid kz2
    have OX : Hid (Ob 40 9 (Xd.heap.size ≤ ·) Wx (some ⟨gf9, 0, none⟩) cf9 (aflat (itk M x k ++ [x]))) := Lib.hid (by
     rw [← hWx]
     exact (Of.out).keep fun j hj hlt => Below.heap_setCell _ _ _ _ (by show j ≠ w.heap.size; have := S9.out; have h1 : Xd.heap.size ≤ j := hj; omega))
    have HRR := Lib.hid (below_st3 T2 (show w.heap.size ≤ w.heap.size + 2 by omega) (Value.int .i64 m) (.slice (some ⟨gf9, 0, none⟩) (q + 1) cf9) (.bool o))
    have OY : Hid (Ob 40 9 (Xd.heap.size ≤ ·) (st3 Wx (w.heap.size + 2) (Value.int .i64 m) (.slice (some ⟨gf9, 0, none⟩) (q + 1) cf9) (.bool o)) (some ⟨gf9, 0, none⟩) cf9 (aflat (itk M x k ++ [x]))) := Lib.hid (OX.out.keep fun j hj hlt => far_st3 (by have := S9.out; have h1 : Xd.heap.size ≤ j := hj; omega) _ _ _)
    clear bs bz ks2 kz2 T2 TW
    go_wp2
    obtain ⟨v0, v1, v2⟩ := kz3_get HKZ.out (Value.int .i64 m) (.slice (some ⟨gf9, 0, none⟩) (q + 1) cf9) (.bool o)
    refine bodyPost_ret (v := .agg #[.int .i64 m, .slice (some ⟨gf9, 0, none⟩) (q + 1) cf9, .bool o]) (by simp [results, Tryz.results54, go_sem, v0, v1, v2]) rfl ⟨(some ⟨gf9, 0, none⟩), cf9, (q + 1), insA M (ipl M x.h) x, rfl, LE.out, CE.out, ME.out, ⟨by have h1 := Ob.rd OY.out; rwa [EE.out] at h1, fun z hz => by rcases ME.out z hz with q | rfl; exact (HL.out.2 z q).step HRR.out; exact HBX.out.step HRR.out⟩, HRR.out⟩
  | succ gf =>
   have hkl : k < M.length := by rw [HN4.out]; omega
   have lt0 : (k : Int) < (n4 : Int) := by omega
   have hw1 : (k : Int) + 1 ≤ 10000 := by omega
   have har := Arr.step HA4.out hb.out
   obtain ⟨b, off, hA, _, e0, e1, e2, e3, e4, e5, e6, e7, e8⟩ := ard_at har.1 hkl
   have HPT : Hid (ipl M x.h = k → itk M x (k + 1) = (itk M x k ++ [x]) ++ [ag M k]) := Lib.hid (itk_put hkl)
   have HPA : Hid (ipl M x.h < k → itk M x (k + 1) = itk M x k ++ [ag M k]) := Lib.hid (itk_past hkl)
   have HPW : Hid (k < ipl M x.h → itk M x (k + 1) = itk M x k ++ [ag M k]) := Lib.hid (itk_wait hkl)
   have HIF : Hid (k ≤ ipl M x.h → (lessK x.h (ag M k).h = true ↔ ipl M x.h = k)) := Lib.hid (ipl_iff hkl)
   obtain ⟨z, hz⟩ : ∃ z, ag M k = z := ⟨_, rfl⟩
   rw [hz] at e0 e1 e2 e3 e4 e5 e6 e7 e8 HPT HPA HPW HIF
   have HAR : Hid (∀ V, Below Xd.heap.size Xd V → V.cell? ⟨b, off + k * 9, none⟩ = some (.int .i64 z.h.a) ∧ V.cell? ⟨b, off + k * 9 + 1, none⟩ = some (.int .i64 z.h.o) ∧ V.cell? ⟨b, off + k * 9 + 2, none⟩ = some (.int .i64 z.h.t) ∧ V.cell? ⟨b, off + k * 9 + 3, none⟩ = some (.int .u32 z.h.i) ∧ V.cell? ⟨b, off + k * 9 + 4, none⟩ = some (.int .u32 z.h.v) ∧ V.cell? ⟨b, off + k * 9 + 5, none⟩ = some (.int .u32 z.h.q) ∧ V.cell? ⟨b, off + k * 9 + 6, none⟩ = some (.int .i64 z.h.s) ∧ V.cell? ⟨b, off + k * 9 + 7, none⟩ = some (.int .i64 z.h.n) ∧ V.cell? ⟨b, off + k * 9 + 8, none⟩ = some (.slice z.A z.l.length z.c)) := Lib.hid (fun V hV => by
    obtain ⟨b2, off2, hA2, _, q0, q1, q2, q3, q4, q5, q6, q7, q8⟩ := ard_at (Arr.step HA4.out hV).1 hkl
    rw [hz] at q0 q1 q2 q3 q4 q5 q6 q7 q8
    rw [hA] at hA2
    injection hA2 with hA2
    injection hA2 with h1 h2
    subst h1 h2
    exact ⟨q0, q1, q2, q3, q4, q5, q6, q7, q8⟩)
   rw [hA] at r1
   clear hkl har hz bs ba bz bk br
   obtain ⟨p, hp⟩ : ∃ p, ipl M x.h = p := ⟨_, rfl⟩
   rw [hp] at HPT HPA HPW HIF hbq
   have HP := Lib.hid hp
   clear hp
   go_upto_region 8 with fail
   rcases Nat.lt_trichotomy p k with hpk | hpk | hpk
   ·skip
    have hbt : bq = true := by rw [hbq.out]; simp; omega
    subst hbt
    refine wp_region_quiet_below (by kernel_rfl) (by kernel_rfl) ?_
    have gg0 := cell_regrown j0
    have gg1 := cell_regrown j1
    have gg2 := cell_regrown j2
    have gg3 := cell_regrown r0
    have gg4 := cell_regrown r1
    have gg5 := cell_regrown r2
    have gg6 := cell_regrown e0
    have gg7 := cell_regrown e1
    have gg8 := cell_regrown e2
    have gg9 := cell_regrown e3
    have gg10 := cell_regrown e4
    have gg11 := cell_regrown e5
    have gg12 := cell_regrown e6
    have gg13 := cell_regrown e7
    have gg14 := cell_regrown e8
    repeat (first | go_big_quiet_step (fail) | go_big_quiet_skip)
    refine wpQuiet_nil ?_
    intro W9 hw'
    obtain ⟨⟨dq, osq⟩, hw''⟩ := hw'
    have hbz := below_regrown wr dq osq
    rw [← hw''] at hbz
    clear hw'' gg0 gg1 gg2 gg3 gg4 gg5 gg6 gg7 gg8 gg9 gg10 gg11 gg12 gg13 gg14  
    have H9 := Lib.hid (hb.out.trans (hbz.mono hb.out.size))
    have O9 := Lib.hid (hO.out.below hbz)
    clear k0 k1 k2 g0 g1 g2 hgl j0 j1 j2 r0 r1 r2 a0 a1 a2 a3 a4 a5 a6 a7 a8 e0 e1 e2 e3 e4 e5 e6 e7 e8 hbz
    obtain ⟨bs, ba, -, -, br⟩ := KT.out _ H9.out
    obtain ⟨r0, r1, r2, -⟩ := kz3_at br
    rw [hA] at r1
    clear ba bs r0 r1 r2 br
    go_upto_region 11 with fail
    have hTT : Below Xd.heap.size Xd W9 := H9.out
    obtain ⟨-, -, -, -, br⟩ := KT.out _ hTT
    obtain ⟨r0, r1, r2, -⟩ := kz3_at br
    rw [hA] at r1
    obtain ⟨e0, e1, e2, e3, e4, e5, e6, e7, e8⟩ := HAR.out _ hTT
    obtain ⟨nz, hnz⟩ : ∃ q, W9.heap.size = q := ⟨_, rfl⟩
    obtain ⟨gz9, cz9, Zz, rz9, rgz, kpz, hgz⟩ := app_one (P := Tryz.prog) (S := fun j => Xd.heap.size ≤ j) Tryz.underlying26 hi0 hz0 hz1 hz2 rfl (by decide) (by decide) O9.out (n := q) (by rw [aflat_length, hq.out]) (acs z) rfl (acs_one z) (by omega) nz hnz
    rw [show (acs z).toArray = #[Value.int .i64 z.h.a, .int .i64 z.h.o, .int .i64 z.h.t, .int .u32 z.h.i, .int .u32 z.h.v, .int .u32 z.h.q, .int .i64 z.h.s, .int .i64 z.h.n, .slice z.A z.l.length z.c] from rfl] at rz9
    have Tz : Hid (Below Xd.heap.size Xd Zz) := Lib.hid (hTT.trans (kpz.below (fun j hj => hj) hTT.size))
    have Oz : Hid (Ob 40 9 (Xd.heap.size ≤ ·) Zz (some ⟨gz9, 0, none⟩) cz9 (aflat (itk M x k ++ [z]))) := Lib.hid (.inr ⟨gz9, (by rcases hgz with q | q; exact q; have h1 := hTT.size; show Xd.heap.size ≤ gz9; omega), rfl, by rw [aflat_snoc]; exact rgz⟩)
    clear rgz kpz hgz
    have EQ : Hid (itk M x (k + 1) = itk M x k ++ [z]) := Lib.hid (HPA.out (by omega))
    have QZ : Hid ((itk M x (k + 1)).length = q + 1) := Lib.hid (by rw [EQ.out, List.length_append, hq.out]; rfl)
    have OQ : Hid (Ob 40 9 (Xd.heap.size ≤ ·) Zz (some ⟨gz9, 0, none⟩) cz9 (aflat (itk M x (k + 1)))) := Lib.hid (by rw [EQ.out]; exact Oz.out)
    have BQ : Hid (true = decide (ipl M x.h < k + 1)) := Lib.hid (by rw [HP.out]; simp; omega)
    have lti : (k : Int) < (n4 : Int) := lt0
    clear br hTT
    rw [← hA] at r1
    subst hA
    go_wp2_with (at_builtin; refine wpList_runb _ rfl (.tmp 45) (.tmp 51) 26 rfl rfl rfl rz9 ?_)
    go_roundg gf
    case measure => omega
    case rel => exact ⟨k + 1, q + 1, true, some ⟨gz9, 0, none⟩, cz9, rfl, rfl, by go_num, Lib.hid (by omega), Tz, QZ, BQ, OQ⟩
   ·skip
    have hbt : bq = false := by rw [hbq.out]; simp; omega
    subst hbt
    have hls : lessK x.h z.h = true := (HIF.out (by omega)).2 (by omega)
    have CLs := fun V => rless_any x.h z.h V
    rw [hls] at CLs
    refine wp_region_quiet_below (by kernel_rfl) (by kernel_rfl) ?_
    have gg0 := cell_regrown j0
    have gg1 := cell_regrown j1
    have gg2 := cell_regrown j2
    have gg3 := cell_regrown r0
    have gg4 := cell_regrown r1
    have gg5 := cell_regrown r2
    have gg6 := cell_regrown e0
    have gg7 := cell_regrown e1
    have gg8 := cell_regrown e2
    have gg9 := cell_regrown e3
    have gg10 := cell_regrown e4
    have gg11 := cell_regrown e5
    have gg12 := cell_regrown e6
    have gg13 := cell_regrown e7
    have gg14 := cell_regrown e8
    have zz0 : ∀ d os, _ := fun d os => Calls.regrown_of (w := wr) (d := d) (os := os) (rkey_any z.h _)
    have zz1 : ∀ d os, _ := fun d os => Calls.regrown_of (w := wr) (d := d) (os := os) (CLs _)
    repeat (first | go_big_quiet_step (with_reducible exact zz0 _ _) | go_big_quiet_step (with_reducible exact zz1 _ _) | go_big_quiet_step (fail) | go_big_quiet_skip)
    refine wpQuiet_nil ?_
    intro W9 hw'
    obtain ⟨⟨dq, osq⟩, hw''⟩ := hw'
    have hbz := below_regrown wr dq osq
    rw [← hw''] at hbz
    clear hw'' gg0 gg1 gg2 gg3 gg4 gg5 gg6 gg7 gg8 gg9 gg10 gg11 gg12 gg13 gg14 zz0 zz1 
    clear hls CLs
    have H9 := Lib.hid (hb.out.trans (hbz.mono hb.out.size))
    have O9 := Lib.hid (hO.out.below hbz)
    clear k0 k1 k2 g0 g1 g2 hgl j0 j1 j2 r0 r1 r2 a0 a1 a2 a3 a4 a5 a6 a7 a8 e0 e1 e2 e3 e4 e5 e6 e7 e8 hbz
    obtain ⟨bs, ba, -, -, br⟩ := KT.out _ H9.out
    obtain ⟨r0, r1, r2, -⟩ := kz3_at br
    rw [hA] at r1
    obtain ⟨a0, a1, a2, a3, a4, a5, a6, a7, a8, -⟩ := kz9_at ba
    obtain ⟨nf, hnf⟩ : ∃ q, W9.heap.size = q := ⟨_, rfl⟩
    obtain ⟨gf9, cf9, Zf, rf9, rgf, kpf, hgf⟩ := app_one (P := Tryz.prog) (S := fun j => Xd.heap.size ≤ j) Tryz.underlying26 hi0 hz0 hz1 hz2 rfl (by decide) (by decide) O9.out (n := q) (by rw [aflat_length, hq.out]) (acs x) rfl (acs_one x) (by omega) nf hnf
    rw [show (acs x).toArray = #[Value.int .i64 x.h.a, .int .i64 x.h.o, .int .i64 x.h.t, .int .u32 x.h.i, .int .u32 x.h.v, .int .u32 x.h.q, .int .i64 x.h.s, .int .i64 x.h.n, .slice x.A x.l.length x.c] from rfl] at rf9
    have hT9 := H9.out
    have Tf : Hid (Below Xd.heap.size Xd Zf) := Lib.hid (hT9.trans (kpf.below (fun j hj => hj) hT9.size))
    have Of : Hid (Ob 40 9 (Xd.heap.size ≤ ·) Zf (some ⟨gf9, 0, none⟩) cf9 (aflat (itk M x k ++ [x]))) := Lib.hid (.inr ⟨gf9, (by rcases hgf with q | q; exact q; have h1 := hT9.size; show Xd.heap.size ≤ gf9; omega), rfl, by rw [aflat_snoc]; exact rgf⟩)
    clear rgf kpf hgf
    have QF : Hid ((itk M x k ++ [x]).length = q + 1) := Lib.hid (by rw [List.length_append, hq.out]; rfl)
    clear ba bs hT9
    go_upto_region 11 with (at_builtin; refine wpList_runb _ rfl (.tmp 41) (.tmp 43) 26 rfl rfl rfl rf9 ?_)
    clear a0 a1 a2 a3 a4 a5 a6 a7 a8 rf9 r0 r1 r2
    have hTT : Below Xd.heap.size Xd Zf := Tf.out
    obtain ⟨-, -, -, -, br⟩ := KT.out _ hTT
    obtain ⟨r0, r1, r2, -⟩ := kz3_at br
    rw [hA] at r1
    obtain ⟨e0, e1, e2, e3, e4, e5, e6, e7, e8⟩ := HAR.out _ hTT
    obtain ⟨nz, hnz⟩ : ∃ q, Zf.heap.size = q := ⟨_, rfl⟩
    obtain ⟨gz9, cz9, Zz, rz9, rgz, kpz, hgz⟩ := app_one (P := Tryz.prog) (S := fun j => Xd.heap.size ≤ j) Tryz.underlying26 hi0 hz0 hz1 hz2 rfl (by decide) (by decide) Of.out (n := q + 1) (by rw [aflat_length, QF.out]) (acs z) rfl (acs_one z) (by omega) nz hnz
    rw [show (acs z).toArray = #[Value.int .i64 z.h.a, .int .i64 z.h.o, .int .i64 z.h.t, .int .u32 z.h.i, .int .u32 z.h.v, .int .u32 z.h.q, .int .i64 z.h.s, .int .i64 z.h.n, .slice z.A z.l.length z.c] from rfl] at rz9
    have Tz : Hid (Below Xd.heap.size Xd Zz) := Lib.hid (hTT.trans (kpz.below (fun j hj => hj) hTT.size))
    have Oz : Hid (Ob 40 9 (Xd.heap.size ≤ ·) Zz (some ⟨gz9, 0, none⟩) cz9 (aflat ((itk M x k ++ [x]) ++ [z]))) := Lib.hid (.inr ⟨gz9, (by rcases hgz with q | q; exact q; have h1 := hTT.size; show Xd.heap.size ≤ gz9; omega), rfl, by rw [aflat_snoc]; exact rgz⟩)
    clear rgz kpz hgz
    have EQ : Hid (itk M x (k + 1) = (itk M x k ++ [x]) ++ [z]) := Lib.hid (HPT.out (by omega))
    have QZ : Hid ((itk M x (k + 1)).length = q + 1 + 1) := Lib.hid (by rw [EQ.out, List.length_append, QF.out]; rfl)
    have OQ : Hid (Ob 40 9 (Xd.heap.size ≤ ·) Zz (some ⟨gz9, 0, none⟩) cz9 (aflat (itk M x (k + 1)))) := Lib.hid (by rw [EQ.out]; exact Oz.out)
    have BQ : Hid (true = decide (ipl M x.h < k + 1)) := Lib.hid (by rw [HP.out]; simp; omega)
    have lti : (k : Int) < (n4 : Int) := lt0
    clear br hTT
    rw [← hA] at r1
    subst hA
    go_wp2_with (at_builtin; refine wpList_runb _ rfl (.tmp 45) (.tmp 51) 26 rfl rfl rfl rz9 ?_)
    go_roundg gf
    case measure => omega
    case rel => exact ⟨k + 1, q + 1 + 1, true, some ⟨gz9, 0, none⟩, cz9, rfl, rfl, by go_num, Lib.hid (by omega), Tz, QZ, BQ, OQ⟩
   ·skip
    have hbt : bq = false := by rw [hbq.out]; simp; omega
    subst hbt
    have hls : lessK x.h z.h = false := by cases hh : lessK x.h z.h with | false => rfl | true => exact absurd ((HIF.out (by omega)).1 hh) (by omega)
    have CLs := fun V => rless_any x.h z.h V
    rw [hls] at CLs
    refine wp_region_quiet_below (by kernel_rfl) (by kernel_rfl) ?_
    have gg0 := cell_regrown j0
    have gg1 := cell_regrown j1
    have gg2 := cell_regrown j2
    have gg3 := cell_regrown r0
    have gg4 := cell_regrown r1
    have gg5 := cell_regrown r2
    have gg6 := cell_regrown e0
    have gg7 := cell_regrown e1
    have gg8 := cell_regrown e2
    have gg9 := cell_regrown e3
    have gg10 := cell_regrown e4
    have gg11 := cell_regrown e5
    have gg12 := cell_regrown e6
    have gg13 := cell_regrown e7
    have gg14 := cell_regrown e8
    have zz0 : ∀ d os, _ := fun d os => Calls.regrown_of (w := wr) (d := d) (os := os) (rkey_any z.h _)
    have zz1 : ∀ d os, _ := fun d os => Calls.regrown_of (w := wr) (d := d) (os := os) (CLs _)
    repeat (first | go_big_quiet_step (with_reducible exact zz0 _ _) | go_big_quiet_step (with_reducible exact zz1 _ _) | go_big_quiet_step (fail) | go_big_quiet_skip)
    refine wpQuiet_nil ?_
    intro W9 hw'
    obtain ⟨⟨dq, osq⟩, hw''⟩ := hw'
    have hbz := below_regrown wr dq osq
    rw [← hw''] at hbz
    clear hw'' gg0 gg1 gg2 gg3 gg4 gg5 gg6 gg7 gg8 gg9 gg10 gg11 gg12 gg13 gg14 zz0 zz1 
    clear hls CLs
    have H9 := Lib.hid (hb.out.trans (hbz.mono hb.out.size))
    have O9 := Lib.hid (hO.out.below hbz)
    clear k0 k1 k2 g0 g1 g2 hgl j0 j1 j2 r0 r1 r2 a0 a1 a2 a3 a4 a5 a6 a7 a8 e0 e1 e2 e3 e4 e5 e6 e7 e8 hbz
    obtain ⟨bs, ba, -, -, br⟩ := KT.out _ H9.out
    obtain ⟨r0, r1, r2, -⟩ := kz3_at br
    rw [hA] at r1
    clear ba bs r0 r1 r2 br
    go_upto_region 11 with fail
    have hTT : Below Xd.heap.size Xd W9 := H9.out
    obtain ⟨-, -, -, -, br⟩ := KT.out _ hTT
    obtain ⟨r0, r1, r2, -⟩ := kz3_at br
    rw [hA] at r1
    obtain ⟨e0, e1, e2, e3, e4, e5, e6, e7, e8⟩ := HAR.out _ hTT
    obtain ⟨nz, hnz⟩ : ∃ q, W9.heap.size = q := ⟨_, rfl⟩
    obtain ⟨gz9, cz9, Zz, rz9, rgz, kpz, hgz⟩ := app_one (P := Tryz.prog) (S := fun j => Xd.heap.size ≤ j) Tryz.underlying26 hi0 hz0 hz1 hz2 rfl (by decide) (by decide) O9.out (n := q) (by rw [aflat_length, hq.out]) (acs z) rfl (acs_one z) (by omega) nz hnz
    rw [show (acs z).toArray = #[Value.int .i64 z.h.a, .int .i64 z.h.o, .int .i64 z.h.t, .int .u32 z.h.i, .int .u32 z.h.v, .int .u32 z.h.q, .int .i64 z.h.s, .int .i64 z.h.n, .slice z.A z.l.length z.c] from rfl] at rz9
    have Tz : Hid (Below Xd.heap.size Xd Zz) := Lib.hid (hTT.trans (kpz.below (fun j hj => hj) hTT.size))
    have Oz : Hid (Ob 40 9 (Xd.heap.size ≤ ·) Zz (some ⟨gz9, 0, none⟩) cz9 (aflat (itk M x k ++ [z]))) := Lib.hid (.inr ⟨gz9, (by rcases hgz with q | q; exact q; have h1 := hTT.size; show Xd.heap.size ≤ gz9; omega), rfl, by rw [aflat_snoc]; exact rgz⟩)
    clear rgz kpz hgz
    have EQ : Hid (itk M x (k + 1) = itk M x k ++ [z]) := Lib.hid (HPW.out (by omega))
    have QZ : Hid ((itk M x (k + 1)).length = q + 1) := Lib.hid (by rw [EQ.out, List.length_append, hq.out]; rfl)
    have OQ : Hid (Ob 40 9 (Xd.heap.size ≤ ·) Zz (some ⟨gz9, 0, none⟩) cz9 (aflat (itk M x (k + 1)))) := Lib.hid (by rw [EQ.out]; exact Oz.out)
    have BQ : Hid (false = decide (ipl M x.h < k + 1)) := Lib.hid (by rw [HP.out]; simp; omega)
    have lti : (k : Int) < (n4 : Int) := lt0
    clear br hTT
    rw [← hA] at r1
    subst hA
    go_wp2_with (at_builtin; refine wpList_runb _ rfl (.tmp 45) (.tmp 51) 26 rfl rfl rfl rz9 ?_)
    go_roundg gf
    case measure => omega
    case rel => exact ⟨k + 1, q + 1, false, some ⟨gz9, 0, none⟩, cz9, rfl, rfl, by go_num, Lib.hid (by omega), Tz, QZ, BQ, OQ⟩
end Go.Proofs.YtadcicmccdphkaaGreat
namespace Go.Proofs.YtadcicmccdphkaaGreat
open Go.RowKit Go.Joins

theorem filt_one {C : List Ct} (ha : Asc C) {y : Hd} {j : Nat} (hj : j < C.length) (h : kq y (C[j]).1 = true) : C.filter (fun z => !kq y z.1) = C.take j ++ C.drop (j + 1) := by
 have other : ∀ i (hi : i < C.length), i ≠ j → kq y (C[i]).1 = false := fun i hi hne => by
  cases q : kq y (C[i]).1 with
  | false => rfl
  | true =>
   refine absurd (one_key ha hi hj ?_) hne
   rw [← kq_left q, h]
 have e : C = C.take j ++ C[j] :: C.drop (j + 1) := by rw [List.getElem_cons_drop, List.take_append_drop]
 have f1 : (C.take j).filter (fun z => !kq y z.1) = C.take j := List.filter_eq_self.2 fun z hz => by
  obtain ⟨i, hi, rfl⟩ := List.getElem_of_mem hz
  rw [List.length_take] at hi
  rw [List.getElem_take, other i (by omega) (by omega)]
  rfl
 have f2 : (C.drop (j + 1)).filter (fun z => !kq y z.1) = C.drop (j + 1) := List.filter_eq_self.2 fun z hz => by
  obtain ⟨i, hi, rfl⟩ := List.getElem_of_mem hz
  rw [List.length_drop] at hi
  rw [List.getElem_drop, other (j + 1 + i) (by omega) (by omega)]
  rfl
 conv => lhs; rw [e]
 rw [List.filter_append, List.filter_cons, if_neg (by rw [h]; simp), f1, f2]
theorem filt_same {C : List Ct} {y : Hd} (h : ∀ z ∈ C, kq y z.1 = false) : C.filter (fun z => !kq y z.1) = C := List.filter_eq_self.2 fun z hz => by rw [h z hz]; rfl
end Go.Proofs.YtadcicmccdphkaaGreat
namespace Go.Proofs.YtadcicmccdphkaaGreat
open Go.RowKit Go.Joins

theorem intoC_set {C : List Ct} (ha : Asc C) {x : Ct} {j : Nat} (hj : j < C.length) (h : kq x.1 (C[j]).1 = true) : intoC C x = C.set j x := by
 have ha' : Asc (C.set j x) := asc_set ha hj h
 have hf := filt_one ha hj h
 have hp : (C.take j ++ C.drop (j + 1)).findIdx (fun z => lessK x.1 z.1) = j := by
  have h1 : (C.take j).length = j := by rw [List.length_take]; omega
  have h2 : ∀ z ∈ C.take j, lessK x.1 z.1 = false := fun z hz => by
   obtain ⟨i, hi, rfl⟩ := List.getElem_of_mem hz
   rw [List.length_take] at hi
   rw [List.getElem_take]
   have h3 := List.pairwise_iff_getElem.1 ha i j (by omega) hj (by omega)
   rw [lessK_left h]
   cases q : lessK (C[j]).1 (C[i]).1 with
   | false => rfl
   | true => have h4 := lessK_trans h3 q; rw [lessK_self] at h4; cases h4
  rw [List.findIdx_append, List.findIdx_eq_length.2 h2, h1]
  by_cases hd : j + 1 < C.length
  ·rw [List.drop_eq_getElem_cons hd, List.findIdx_cons]
   have h3 := List.pairwise_iff_getElem.1 ha j (j + 1) hj hd (by omega)
   rw [lessK_left h, h3]
   simp
  ·rw [List.drop_eq_nil_of_le (by omega)]
   simp
 rw [intoC, hf, hp, List.set_eq_take_append_cons_drop, if_pos hj]
 have h1 : (C.take j).length = j := by rw [List.length_take]; omega
 rw [List.take_left' h1, List.drop_left' h1]
theorem findIdx_same {α : Type} {p q : α → Bool} : ∀ (l : List α), (∀ x ∈ l, p x = q x) → l.findIdx p = l.findIdx q
 | [], _ => rfl
 | x :: l, h => by
  rw [List.findIdx_cons, List.findIdx_cons, h x (List.mem_cons_self ..), findIdx_same l fun y hy => h y (List.mem_cons_of_mem _ hy)]
theorem intoC_ins {C : List Ct} {x : Ct} (h : ∀ z ∈ C, kq x.1 z.1 = false) : intoC C x = C.take (plcC C x.1) ++ x :: C.drop (plcC C x.1) := by
 have hp : C.findIdx (fun z => lessK x.1 z.1) = plcC C x.1 := findIdx_same C fun z hz => by
  have h0 := h z hz
  cases q : lessK x.1 z.1 with
  | true =>
   cases r : lessK z.1 x.1 with
   | false => rfl
   | true => have h4 := lessK_trans q r; rw [lessK_self] at h4; cases h4
  | false =>
   cases r : lessK z.1 x.1 with
   | true => rfl
   | false => rw [kq_of_not q r] at h0; cases h0
 rw [intoC, filt_same h, hp]
end Go.Proofs.YtadcicmccdphkaaGreat
