/-
  The contract of store.Tick. No statement is proved here; no conditions.
-/
import Derived.Test.YtadcicmccdphkaaGreatG27
import Derived.Test.YtadcicmccdphkaaGreatG14
import Derived.Test.YtadcicmccdphkaaGreatG06
namespace Go.Proofs.YtadcicmccdphkaaGreat
open Go.RowKit Go.Joins
open List (getElem_toArray getElem_cons_zero getElem_cons_succ setIfInBounds_toArray set_cons_zero set_cons_succ)

theorem Ob.kpo {e e2 : TypeId} {sz sz2 : Nat} {S S2 : Nat → Prop} {w w' : World} {A B : Option Addr} {c cB : Nat} {cs cs2 : List Value} (h : Ob e sz S w A c cs) (ho : Ob e2 sz2 S2 w B cB cs2) (hne : e ≠ e2) (k : Kp (fun j => B = some ⟨j, 0, none⟩) w w') : Ob e sz S w' A c cs :=
 (h.self.keep fun j hj hlt => k.block j hlt fun hB => by
  obtain ⟨cur, mm, h1⟩ := h.typed hj
  obtain ⟨cur2, m2, h2⟩ := ho.typed hB
  rw [h1] at h2
  injection h2 with h2
  injection h2 with _ h3 _
  exact hne h3).more fun _ hj _ => h.at hj
theorem Aro.kpo {e : TypeId} {sz : Nat} {S : Nat → Prop} {base : Nat} {w w' : World} {A B : Option Addr} {c cB : Nat} {cs : List Value} {L : List Ae} (h : Aro base w A c L) (ho : Ob e sz S w B cB cs) (h1 : e ≠ 5) (h2 : 40 ≠ e) (k : Kp (fun j => B = some ⟨j, 0, none⟩) w w') : Aro base w' A c L :=
 ⟨Ob.kpo h.row ho h2 k, fun x hx => (h.bod x hx).keep k.size fun b off e1 hl => k.block b ((h.bod x hx).2 b off e1 hl).1 (Bu.apart (h.bod x hx) ho h1 b off e1 hl)⟩
structure QS (w : World) (rb : Nat) (m : Int) (A3 : Option Addr) (n c3 : Nat) (o : Bool) (L3 : List Ae) (kO : Nat) (V : World) : Prop where
 GC : Bk V rb (.cells #[Value.int .i64 0, .slice none 0 0, .bool false] 28)
 GO : Bk V kO (.cells #[.int .i64 m, .slice A3 n c3, .bool o] 28)
 HA : Aro (rb + 1) V A3 c3 L3
 HB : Below w.heap.size w V
 HK : rb < kO
 HR : w.heap.size ≤ rb
theorem QS.step {V' : World} {w V : World} {rb : Nat} {m : Int} {A3 : Option Addr} {n c3 : Nat} {o : Bool} {L3 : List Ae} {kO : Nat} (h : QS w rb m A3 n c3 o L3 kO V) (u : Below V.heap.size V V') : QS w rb m A3 n c3 o L3 kO V' :=
 ⟨h.GC.step u, h.GO.step u, h.HA.step u, h.HB.trans (u.mono h.HB.size), h.HK, h.HR⟩
theorem QS.ret {w V : World} {rb : Nat} {m : Int} {A3 : Option Addr} {n c3 : Nat} {o : Bool} {L3 : List Ae} {kO : Nat} (h : QS w rb m A3 n c3 o L3 kO V) : Aro w.heap.size ((((V).setCell ⟨rb, 0, none⟩ (.int .i64 m)).setCell ⟨rb, 1, none⟩ (.slice A3 n c3)).setCell ⟨rb, 2, none⟩ (.bool o)) A3 c3 L3 ∧ Below w.heap.size w ((((V).setCell ⟨rb, 0, none⟩ (.int .i64 m)).setCell ⟨rb, 1, none⟩ (.slice A3 n c3)).setCell ⟨rb, 2, none⟩ (.bool o)) :=
 ⟨(((h.HA.set h.GC (by decide) (by decide) (.int .i64 m)).set (i := 1) (Bk.set3 (i := 0) h.GC) (by decide) (by decide) (.slice A3 n c3)).set (i := 2) (Bk.set3 (i := 1) (Bk.set3 (i := 0) h.GC)) (by decide) (by decide) (.bool o)).lower (by have := h.HR; omega), below_st3 h.HB h.HR _ _ _⟩
theorem QS.row {V' : World} {L4 : List Ae} {w V : World} {rb : Nat} {m : Int} {A3 : Option Addr} {n c3 : Nat} {o : Bool} {L3 : List Ae} {kO : Nat} (h : QS w rb m A3 n c3 o L3 kO V) (k : Kp (fun j => A3 = some ⟨j, 0, none⟩) V V') (h4 : Aro (rb + 1) V' A3 c3 L4) : QS w rb m A3 n c3 o L4 kO V' :=
 ⟨(k.block _ h.GC.lt fun e => by have h3 : rb + 1 ≤ rb := h.HA.row.at e; omega).trans h.GC, h.GO.kp h.HA (by decide) k, h4, h.HB.trans (k.below (fun j hj => by have h3 : rb + 1 ≤ j := h.HA.row.at hj; have := h.HR; omega) h.HB.size), h.HK, h.HR⟩
theorem QS.key {V' : World} {Ae_ : Option Addr} {ce : Nat} {cs : List Value} {w V : World} {rb : Nat} {m : Int} {A3 : Option Addr} {n c3 : Nat} {o : Bool} {L3 : List Ae} {kO : Nat} (h : QS w rb m A3 n c3 o L3 kO V) (ho : Ob 25 3 (kO < ·) V Ae_ ce cs) (k : Kp (fun j => Ae_ = some ⟨j, 0, none⟩) V V') : QS w rb m A3 n c3 o L3 kO V' :=
 ⟨(k.block _ h.GC.lt fun e => by have h3 : kO < rb := ho.at e; have := h.HK; omega).trans h.GC, (k.block _ h.GO.lt fun e => by have h3 : kO < kO := ho.at e; omega).trans h.GO, h.HA.kpo ho (by decide) (by decide) k, h.HB.trans (k.below (fun j hj => by have h3 : kO < j := ho.at hj; have := h.HR; have := h.HK; omega) h.HB.size), h.HK, h.HR⟩
def tickC (C : List Ct) (y : Int) : List Ct := C.map fun x => (old x.1 y, x.2)
def fin (y : Int) (x : Ct) : Bool := !decide (x.1.a = 3600) && decide ((old x.1 y).a = 3600)
def ends (C : List Ct) (y : Int) : List Ky := (C.filter (fin y)).map fun x => kyo x.1
theorem tickC_snoc (C : List Ct) (y : Int) (x : Ct) : tickC (C ++ [x]) y = tickC C y ++ [(old x.1 y, x.2)] := by simp [tickC]
theorem tickC_len (C : List Ct) (y : Int) : (tickC C y).length = C.length := by simp [tickC]
theorem ends_snoc (C : List Ct) (y : Int) (x : Ct) : ends (C ++ [x]) y = ends C y ++ if fin y x = true then [kyo x.1] else [] := by
 simp only [ends, List.filter_append, List.map_append]
 congr 1
 by_cases h : fin y x = true <;> simp [h]
theorem ends_len (C : List Ct) (y : Int) : (ends C y).length ≤ C.length := by simp [ends]; exact List.length_filter_le _ _
structure TJ (w : World) (rb : Nat) (m : Int) (A3 : Option Addr) (n c3 : Nat) (o : Bool) (kO : Nat) (C : List Ct) (y : Int) (k : Nat) (Ak : Option Addr) (ck q : Nat) (M : List Ae) (V : World) : Prop where
 qs : QS w rb m A3 n c3 o M kO V
 kl : cons M = tickC (C.take k) y ++ C.drop k
 ko : Ob 25 3 (kO < ·) V Ak ck (kflat (ends (C.take k) y))
 kq : (ends (C.take k) y).length = q
def TkP (m : Int) (o : Bool) (C : List Ct) (ks : List Ky) (base : Nat) (w : World) (e : Ending) (w' : World) : Prop := ∃ A' c' n' L' A2 c2 n2, e = .returned (.tuple #[.agg #[.int .i64 m, .slice A' n' c', .bool o], .slice A2 n2 c2]) ∧ L'.length = n' ∧ cons L' = C ∧ Aro base w' A' c' L' ∧ ks.length = n2 ∧ kRr w' A2 ks ∧ Below base w w'
theorem TJ.fin {w V : World} {rb : Nat} {m : Int} {A3 : Option Addr} {n c3 : Nat} {o : Bool} {kO : Nat} {C : List Ct} {y : Int} {k : Nat} {Ak : Option Addr} {ck q : Nat} {M : List Ae} (h : TJ w rb m A3 n c3 o kO C y k Ak ck q M V) (hk : C.length = k) (hM : M.length = n) :
  TkP m o (tickC C y) (ends C y) w.heap.size w (.returned (.tuple #[.agg #[.int .i64 m, .slice A3 n c3, .bool o], .slice Ak q ck])) ((((V).setCell ⟨rb, 0, none⟩ (.int .i64 m)).setCell ⟨rb, 1, none⟩ (.slice A3 n c3)).setCell ⟨rb, 2, none⟩ (.bool o)) := by
 obtain ⟨h1, h2, h3, h4⟩ := h
 have e1 : C.take k = C := List.take_of_length_le (by omega)
 have e2 : C.drop k = [] := List.drop_of_length_le (by omega)
 rw [e1] at h2 h3 h4
 rw [e2, List.append_nil] at h2
 exact ⟨A3, c3, n, M, Ak, ck, q, rfl, hM, h2, h1.ret.1, h4, Ob.rd (h3.keep fun j hj hlt => far_st3 (by have h5 : kO < j := hj; have := h1.HK; omega) _ _ _), h1.ret.2⟩
set_option maxRecDepth 100000 in
set_option maxHeartbeats 8000000 in
theorem stick_any (y : Int) (m : Int) (A : Option Addr) (n c : Nat) (o : Bool) (L : List Ae) (w : World) (hn : L.length = n) (hl : Arr w A L) (hll : n ≤ 9000) (hsm : ∀ x ∈ L, x.l.length ≤ 5000) (hag : ∀ x ∈ L, 0 ≤ x.h.a ∧ x.h.a ≤ 3600) :
  Calls Tryz.prog 29 #[.agg #[.int .i64 m, .slice A n c, .bool o], .int .i64 y] w fun e w' => TkP m o (tickC (cons L) y) (ends (cons L) y) w.heap.size w e w' := by
 obtain ⟨W0, hW0⟩ : ∃ V, w.alloc (.cells #[.int .i64 m, .slice A n c, .bool o] 28) = V := ⟨_, rfl⟩
 have bW0 : Below w.heap.size w W0 := by rw [← hW0]; exact below_alloc1 _ _
 have sW0 : W0.heap.size = w.heap.size + 1 := by rw [← hW0]; simp
 have KX : Hid (∀ V, Below W0.heap.size W0 V → V.cell? ⟨w.heap.size, 0, none⟩ = some (.int .i64 m) ∧ V.cell? ⟨w.heap.size, 1, none⟩ = some (.slice A n c) ∧ V.cell? ⟨w.heap.size, 2, none⟩ = some (.bool o)) := Lib.hid (fun V hV => kb3_new hW0 hV)
 obtain ⟨W1, hW1⟩ : ∃ V, W0.alloc (.cells #[Value.int .i64 0, .slice none 0 0, .bool false] 28) = V := ⟨_, rfl⟩
 have bW1 : Below W0.heap.size W0 W1 := by rw [← hW1]; exact below_alloc1 _ _
 have sW1 : W1.heap.size = w.heap.size + 2 := by rw [← hW1]; simp; omega
 have b2 : Below w.heap.size w W1 := bW0.trans (bW1.mono bW0.size)
 have G2 : Bk W1 (w.heap.size + 1) (.cells #[Value.int .i64 0, .slice none 0 0, .bool false] 28) := by have := Bk.mk hW1; rwa [sW0] at this
 obtain ⟨k0, k1, k2⟩ := KX.out _ bW1
 have CF := sfresh_any m A n c o L W1 hn (hl.step b2) (by omega) (fun x hx => by have := hsm x hx; omega)
 have HB := Lib.hid b2
 have HN := Lib.hid hn
 have HL := Lib.hid hl
 have HSM := Lib.hid hsm
 have HAG := Lib.hid hag
 have S1 := Lib.hid sW1
 have GX : Hid (∀ V, Below W1.heap.size W1 V → V.cell? ⟨w.heap.size, 0, none⟩ = some (.int .i64 m) ∧ V.cell? ⟨w.heap.size, 1, none⟩ = some (.slice A n c) ∧ V.cell? ⟨w.heap.size, 2, none⟩ = some (.bool o)) := Lib.hid (fun V hV => KX.out V (bW1.trans (hV.mono bW1.size)))
 clear KX bW0 bW1 b2 hl hn hsm hag
 go_enter Tryz.func29, Tryz.ntmps29
 go_wp2_with fail
 refine CF.mono ?_
 rintro e W3 ⟨A3, c3, L3, rfl, hc3, ha3, u3⟩
 have hn3 : L3.length = n := by have := congrArg List.length hc3; rw [cons_length, cons_length, HN.out] at this; exact this
 have HC3 := Lib.hid hc3
 have HN3 := Lib.hid hn3
 have T3 := Lib.hid (HB.out.trans (u3.mono HB.out.size))
 obtain ⟨kO, hkO⟩ : ∃ q, W3.heap.size = q := ⟨_, rfl⟩
 obtain ⟨W4, hW4⟩ : ∃ V, W3.alloc (.cells #[Value.int .i64 0, .slice none 0 0, .bool false] 28) = V := ⟨_, rfl⟩
 have u4 : Below W3.heap.size W3 W4 := by rw [← hW4]; exact below_alloc1 _ _
 have GO4 : Bk W4 kO (.cells #[Value.int .i64 0, .slice none 0 0, .bool false] 28) := by rw [← hkO]; exact Bk.mk hW4
 obtain ⟨W5, hW5⟩ : ∃ V, ((W4.setCell ⟨kO, 0, none⟩ (.int .i64 m)).setCell ⟨kO, 1, none⟩ (.slice A3 n c3)).setCell ⟨kO, 2, none⟩ (.bool o) = V := ⟨_, rfl⟩
 have k45 : Kp (· = kO) W4 W5 := by rw [← hW5]; exact ((Kp.setCell (S := (· = kO)) W4 ⟨kO, 0, none⟩ _ rfl).then_set ⟨kO, 1, none⟩ _ rfl).then_set ⟨kO, 2, none⟩ _ rfl
 have hkl : w.heap.size + 2 ≤ kO := by have := u3.size; have := S1.out; omega
 have up5 : ∀ (b : Nat) (ob : Obj), Bk W1 b ob → b < kO → Bk W5 b ob := fun b ob hb hlt => (k45.block b (by have := ((hb.step u3).step u4).lt; exact this) (by omega)).trans ((hb.step u3).step u4)
 have ha4 := ha3.step u4
 have qs5 : QS w (w.heap.size + 1) m A3 n c3 o L3 kO W5 := ⟨up5 _ _ G2 (by omega), by rw [← hW5]; exact kz3_set GO4 _ _ _, by
  have e : w.heap.size + 1 + 1 = W1.heap.size := S1.out.symm
  rw [← hW5, e]
  exact ((ha4.set GO4 (by decide) (by decide) _).set (i := 1) (Bk.set3 (i := 0) GO4) (by decide) (by decide) _).set (i := 2) (Bk.set3 (i := 1) (Bk.set3 (i := 0) GO4)) (by decide) (by decide) _, (T3.out.trans (u4.mono T3.out.size)).trans (k45.below (fun j hj => by rw [hj]; omega) (T3.out.trans (u4.mono T3.out.size)).size), by omega, by omega⟩
 have hw15 : Below W1.heap.size W1 W5 := (u3.trans (u4.mono u3.size)).trans (k45.below (fun j hj => by rw [hj, ← hkO]; exact u3.size) (u3.trans (u4.mono u3.size)).size)
 obtain ⟨p0, p1, p2⟩ := GX.out _ hw15
 have J0 : Hid (TJ w (w.heap.size + 1) m A3 n c3 o kO (cons L) y 0 none 0 0 L3 W5) := Lib.hid ⟨qs5, by rw [HC3.out]; simp [tickC], .inl ⟨rfl, rfl, rfl⟩, rfl⟩
 obtain ⟨y0, y1, y2, f0, f1, f2, hz2⟩ := kz3_at GO4
 clear CF ha3 u3 hc3 u4 k45 up5 ha4 qs5 G2 GO4 hkl hn3 HB T3 k0 k1 k2 hw15 sW0 sW1
 go_wp2_with fail
 clear y0 y1 y2 f0 f1 f2 hz2 p0 p1 p2 hW1 hW0 hW4 hkO
 go_loopg [7, 15] n (fun gf v7 v15 wx => ∃ (k q : Nat) (Ak : Option Addr) (ck : Nat), v7 = .slice Ak q ck ∧ v15 = .int .i64 (k : Int) ∧ Hid (gf + k = n) ∧ Hid (∃ M, TJ w (w.heap.size + 1) m A3 n c3 o kO (cons L) y k Ak ck q M wx))
 case atStart => exact ⟨0, 0, none, 0, rfl, rfl, Lib.hid (by omega), Lib.hid ⟨_, J0.out⟩⟩
 case round =>
  obtain ⟨k, q, Ak, ck, rfl, rfl, hk, hJJ⟩ := hrel
  obtain ⟨M, hj⟩ := hJJ.out
  have HJ := Lib.hid hj
  have hk' := hk.out
  have HML : Hid (M.length = n) := Lib.hid (by have h1 := congrArg List.length hj.kl; rw [List.length_append, tickC_len, List.length_take, List.length_drop, cons_length, cons_length, HN.out] at h1; omega)
  clear hj hJJ J0 hW5
  cases gk with
  | zero =>
   obtain rfl : k = n := by omega
   have lt0 : decide ((k : Int) < (k : Int)) = false := by simp
   have lt1 : decide (k < k) = false := by simp
   obtain ⟨o0, o1, o2, -⟩ := kz3_at HJ.out.qs.GO
   obtain ⟨z0, z1, z2, g0, g1, g2, hzl⟩ := kz3_at HJ.out.qs.GC
   go_wp2
   obtain ⟨r0, r1, r2⟩ := kz3_get HJ.out.qs.GC (Value.int .i64 m) (.slice A3 k c3) (.bool o)
   refine bodyPost_ret (v := .tuple #[.agg #[.int .i64 m, .slice A3 k c3, .bool o], .slice Ak q ck]) (by simp [results, Tryz.results29, go_sem, r0, r1, r2]) rfl (HJ.out.fin (by rw [cons_length, HN.out]) HML.out)
  | succ gf =>
   have hqk : q ≤ k := by have h1 := ends_len ((cons L).take k) y; have h2 := HJ.out.kq; rw [List.length_take] at h1; omega
   have hkl : k < L.length := by rw [HN.out]; omega
   have lt0 : (k : Int) < (n : Int) := by omega
   have hw1 : (k : Int) + 1 ≤ 10000 := by omega
   have har := Arr.step HL.out HJ.out.qs.HB
   obtain ⟨b, off, hA, _, e0, e1, e2, e3, e4, e5, e6, e7, e8⟩ := ard_at har.1 hkl
   have HBB := Lib.hid (har.2 _ (ag_mem hkl))
   have hage := HAG.out _ (ag_mem hkl)
   have hsml := HSM.out _ (ag_mem hkl)
   have HCT : Hid ((cons L).take (k + 1) = (cons L).take k ++ [con (ag L k)] ∧ (cons L).drop k = con (ag L k) :: (cons L).drop (k + 1)) := Lib.hid (by
    rw [ag_eq hkl]
    have hkc : k < (cons L).length := by rw [cons_length]; exact hkl
    have e : (cons L)[k] = con L[k] := by simp [cons]
    exact ⟨by rw [List.take_succ_eq_append_getElem hkc, e], by rw [List.drop_eq_getElem_cons hkc, e]⟩)
   obtain ⟨h, hy⟩ : ∃ y, (ag L k).h = y := ⟨_, rfl⟩
   obtain ⟨B, hB⟩ : ∃ B, (ag L k).l = B := ⟨_, rfl⟩
   obtain ⟨mB, hmB⟩ : ∃ q, B.length = q := ⟨_, rfl⟩
   have hcon : con (ag L k) = (h, B) := by rw [con, hy, hB]
   rw [hcon] at HCT
   rw [hy] at e0 e1 e2 e3 e4 e5 e6 e7 hage
   rw [hB, hmB] at e8 hsml
   rw [hB] at HBB
   generalize (ag L k).A = Ab at *
   generalize (ag L k).c = d at *
   subst hA
   clear hy hB hcon har
   have HMB := Lib.hid hmB
   obtain ⟨g, hg⟩ := HJ.out.qs.HA.some_of (by rw [HML.out]; omega)
   subst hg
   have hkM : k < M.length := by rw [HML.out]; omega
   have HKM := Lib.hid hkM
   have hgr : g < wr.heap.size := by obtain ⟨cur, mm, h1⟩ := HJ.out.qs.HA.row.typed rfl; exact lt_of_block h1
   obtain ⟨W6, hW6⟩ : ∃ V, wr.alloc (.cells #[Value.int .i64 h.a, .int .i64 h.o, .int .i64 h.t, .int .u32 h.i, .int .u32 h.v, .int .u32 h.q, .int .i64 h.s, .int .i64 h.n, .slice Ab mB d] 40) = V := ⟨_, rfl⟩
   have u6 : Below wr.heap.size wr W6 := by rw [← hW6]; exact below_alloc1 _ _
   obtain ⟨ka, hka⟩ : ∃ q, wr.heap.size = q := ⟨_, rfl⟩
   have G6 : Bk W6 ka (.cells #[Value.int .i64 h.a, .int .i64 h.o, .int .i64 h.t, .int .u32 h.i, .int .u32 h.v, .int .u32 h.q, .int .i64 h.s, .int .i64 h.n, .slice Ab mB d] 40) := by rw [← hka]; exact Bk.mk hW6
   obtain ⟨z0, z1, z2, z3, z4, z5, z6, z7, z8, f0, f1, f2, f3, f4, f5, f6, f7, f8, hzl⟩ := kz9_at G6
   have Q6 := Lib.hid (HJ.out.qs.step u6)
   have K6 := Lib.hid (HJ.out.ko.below u6)
   have KQ := Lib.hid HJ.out.kq
   have KL := Lib.hid HJ.out.kl
   have HKG : Hid (g ≠ ka ∧ kO ≠ ka) := Lib.hid ⟨by omega, by have := HJ.out.qs.GO.lt; omega⟩
   have HBX : Hid (∀ V, Below W6.heap.size W6 V → Bt V Ab B) := Lib.hid (fun V hV => (HBB.out.step u6).step hV)
   clear u6 HJ hgr
   go_upto_region 6 with fail
   clear z0 z1 z2 z3 z4 z5 z6 z7 z8 f0 f1 f2 f3 f4 f5 f6 f7 f8 hzl hW6 hka e0 e1 e2 e3 e4 e5 e6 e7 e8
   have HG6 := Lib.hid G6
   clear G6
   have KS : Hid (∀ V, Below W6.heap.size W6 V → (V.cell? ⟨kO, 0, none⟩ = some (.int .i64 m) ∧ V.cell? ⟨kO, 1, none⟩ = some (.slice (some ⟨g, 0, none⟩) n c3) ∧ V.cell? ⟨kO, 2, none⟩ = some (.bool o)) ∧ (V.cell? ⟨ka, 0, none⟩ = some (.int .i64 h.a) ∧ V.cell? ⟨ka, 1, none⟩ = some (.int .i64 h.o) ∧ V.cell? ⟨ka, 2, none⟩ = some (.int .i64 h.t) ∧ V.cell? ⟨ka, 3, none⟩ = some (.int .u32 h.i) ∧ V.cell? ⟨ka, 4, none⟩ = some (.int .u32 h.v) ∧ V.cell? ⟨ka, 5, none⟩ = some (.int .u32 h.q) ∧ V.cell? ⟨ka, 6, none⟩ = some (.int .i64 h.s) ∧ V.cell? ⟨ka, 7, none⟩ = some (.int .i64 h.n) ∧ V.cell? ⟨ka, 8, none⟩ = some (.slice Ab mB d))) := Lib.hid (fun V hV => by
    obtain ⟨q0, q1, q2, q3, q4, q5, q6, q7, q8, -⟩ := kz9_at (HG6.out.step hV)
    obtain ⟨o0, o1, o2, -⟩ := kz3_at (Q6.out.GO.step hV)
    exact ⟨⟨o0, o1, o2⟩, q0, q1, q2, q3, q4, q5, q6, q7, q8⟩)
   have tt : Below W6.heap.size W6 W6 := Below.refl _ _
   refine wp_region_held_drew (S := fun V => (V.cell? ⟨kO, 0, none⟩ = some (.int .i64 m) ∧ V.cell? ⟨kO, 1, none⟩ = some (.slice (some ⟨g, 0, none⟩) n c3) ∧ V.cell? ⟨kO, 2, none⟩ = some (.bool o)) ∧ (V.cell? ⟨ka, 0, none⟩ = some (.int .i64 h.a) ∧ V.cell? ⟨ka, 1, none⟩ = some (.int .i64 h.o) ∧ V.cell? ⟨ka, 2, none⟩ = some (.int .i64 h.t) ∧ V.cell? ⟨ka, 3, none⟩ = some (.int .u32 h.i) ∧ V.cell? ⟨ka, 4, none⟩ = some (.int .u32 h.v) ∧ V.cell? ⟨ka, 5, none⟩ = some (.int .u32 h.q) ∧ V.cell? ⟨ka, 6, none⟩ = some (.int .i64 h.s) ∧ V.cell? ⟨ka, 7, none⟩ = some (.int .i64 h.n) ∧ V.cell? ⟨ka, 8, none⟩ = some (.slice Ab mB d))) (by kernel_rfl) (KS.out _ tt.drew) (fun hHeld => ?_)
   replace tt : Below W6.heap.size W6 W6.drew := tt.drew
   generalize hX0 : W6.drew = U0 at tt hHeld ⊢
   clear hX0
   refine wpAnyH_take (i := 0) (v := ?_) rfl (by kernel_rfl) (by kernel_rfl) (by kernel_rfl) (fun _ _ _ h => h) (Or.inl ⟨by rfl, ?_⟩) (by assumption) ?_
   rotate_left
   ·(intro w' hSw; (try dsimp only at hSw); go_simp; try with_reducible rfl)
   simp only [Act.put, getElem_toArray, getElem_cons_zero, setIfInBounds_toArray, set_cons_zero, set_cons_succ]
   refine wpAnyH_take (i := 1) (v := ?_) rfl (by kernel_rfl) (by kernel_rfl) (by kernel_rfl) (fun _ _ _ h => h) (Or.inl ⟨by rfl, ?_⟩) (by assumption) ?_
   rotate_left
   ·(intro w' hSw; (try dsimp only at hSw); go_simp; try with_reducible rfl)
   simp only [Act.put, getElem_toArray, getElem_cons_zero, getElem_cons_succ, setIfInBounds_toArray, set_cons_zero, set_cons_succ]
   refine wpAnyH_take (i := 2) (v := ?_) rfl (by kernel_rfl) (by kernel_rfl) (by kernel_rfl) (fun _ _ _ h => h) (Or.inl ⟨by rfl, ?_⟩) (by assumption) ?_
   rotate_left
   ·(intro w' hSw; (try dsimp only at hSw); go_simp; try with_reducible rfl)
   simp only [Act.put, getElem_toArray, getElem_cons_zero, getElem_cons_succ, setIfInBounds_toArray, set_cons_zero, set_cons_succ]
   refine wpAnyH_take (i := 3) (v := ?_) rfl (by kernel_rfl) (by kernel_rfl) (by kernel_rfl) (fun _ _ _ h => h) (Or.inl ⟨by rfl, ?_⟩) (by assumption) ?_
   rotate_left
   ·(intro w' hSw; (try dsimp only at hSw); go_simp; try with_reducible rfl)
   simp only [Act.put, getElem_toArray, getElem_cons_zero, getElem_cons_succ, setIfInBounds_toArray, set_cons_zero, set_cons_succ]
   refine wpAnyH_take (i := 4) (v := ?_) rfl (by kernel_rfl) (by kernel_rfl) (by kernel_rfl) (fun _ _ _ h => h) (Or.inl ⟨by rfl, ?_⟩) (by assumption) ?_
   rotate_left
   ·(intro w' hSw; (try dsimp only at hSw); go_simp; try with_reducible rfl)
   simp only [Act.put, getElem_toArray, getElem_cons_zero, getElem_cons_succ, setIfInBounds_toArray, set_cons_zero, set_cons_succ]
   refine wpAnyH_ready (rs := [5]) (by kernel_rfl) (by simp) ?_
   refine AllReadyH.cons rfl (fun K hK => ?_) AllReadyH.nil
   go_simp
   go_at_call 57
   refine (older_any h y Ab mB d B U0 HMB.out (HBX.out _ tt) hsml hage.1 hage.2).mono ?_
   rintro e Y1 ⟨A8, c8, rfl, o8, u1⟩
   have t_Y1 : Below W6.heap.size W6 Y1 := tt.trans (u1.mono tt.size)
   have O8 := Lib.hid o8
   clear o8
   have b8 : Bu Y1 ⟨old h y, A8, c8, B⟩ := Bu.of_own (x := ⟨old h y, A8, c8, B⟩) O8.out
   have Q8 := Lib.hid (Q6.out.step t_Y1)
   have K8 := Lib.hid (K6.out.below t_Y1)
   have G8 := Lib.hid (HG6.out.step t_Y1)
   obtain ⟨e0, e1, e2, e3, e4, e5, e6, e7, e8, f0, f1, f2, f3, f4, f5, f6, f7, f8⟩ := rg_at Q8.out.HA.row_of.2 HKM.out
   refine hK.out _ _ (KS.out _ t_Y1) (fun _ => ?_)
   clear hK K
   refine wpAnyH_take (i := 6) (v := ?_) rfl (by kernel_rfl) (by kernel_rfl) (by kernel_rfl) (fun _ _ _ h => h) (Or.inl ⟨by rfl, ?_⟩) (by assumption) ?_
   rotate_left
   ·(intro w' hSw; (try dsimp only at hSw); go_simp; try with_reducible rfl)
   simp only [Act.put, getElem_toArray, getElem_cons_zero, getElem_cons_succ, setIfInBounds_toArray, set_cons_zero, set_cons_succ]
   refine wpAnyH_ready (rs := [7]) (by kernel_rfl) (by simp) ?_
   refine AllReadyH.cons rfl (fun K hK => ?_) AllReadyH.nil
   go_simp
   have HLX : M.length = n := HML.out
   have ha9 := aro_setA Q8.out.HA HKM.out ⟨old h y, A8, c8, B⟩ b8
   simp only [HMB.out] at ha9
   have kp9 : Kp (fun j => (some ⟨g, 0, none⟩ : Option Addr) = some ⟨j, 0, none⟩) Y1 ((((((((((Y1).setCell ⟨g, k * 9, none⟩ (.int .i64 (old h y).a)).setCell ⟨g, k * 9 + 1, none⟩ (.int .i64 (old h y).o)).setCell ⟨g, k * 9 + 2, none⟩ (.int .i64 (old h y).t)).setCell ⟨g, k * 9 + 3, none⟩ (.int .u32 (old h y).i)).setCell ⟨g, k * 9 + 4, none⟩ (.int .u32 (old h y).v)).setCell ⟨g, k * 9 + 5, none⟩ (.int .u32 (old h y).q)).setCell ⟨g, k * 9 + 6, none⟩ (.int .i64 (old h y).s)).setCell ⟨g, k * 9 + 7, none⟩ (.int .i64 (old h y).n)).setCell ⟨g, k * 9 + 8, none⟩ (.slice A8 mB c8)) := (kp_stA Y1 g (k * 9) (.int .i64 (old h y).a) (.int .i64 (old h y).o) (.int .i64 (old h y).t) (.int .u32 (old h y).i) (.int .u32 (old h y).v) (.int .u32 (old h y).q) (.int .i64 (old h y).s) (.int .i64 (old h y).n) (.slice A8 mB c8)).mono fun j hj => by rw [hj]
   have QX9 : Hid (QS w (w.heap.size + 1) m (some ⟨g, 0, none⟩) n c3 o (M.set k ⟨old h y, A8, c8, B⟩) kO ((((((((((Y1).setCell ⟨g, k * 9, none⟩ (.int .i64 (old h y).a)).setCell ⟨g, k * 9 + 1, none⟩ (.int .i64 (old h y).o)).setCell ⟨g, k * 9 + 2, none⟩ (.int .i64 (old h y).t)).setCell ⟨g, k * 9 + 3, none⟩ (.int .u32 (old h y).i)).setCell ⟨g, k * 9 + 4, none⟩ (.int .u32 (old h y).v)).setCell ⟨g, k * 9 + 5, none⟩ (.int .u32 (old h y).q)).setCell ⟨g, k * 9 + 6, none⟩ (.int .i64 (old h y).s)).setCell ⟨g, k * 9 + 7, none⟩ (.int .i64 (old h y).n)).setCell ⟨g, k * 9 + 8, none⟩ (.slice A8 mB c8))) := Lib.hid (Q8.out.row kp9 ha9)
   have KX9 : Hid (Ob 25 3 (kO < ·) ((((((((((Y1).setCell ⟨g, k * 9, none⟩ (.int .i64 (old h y).a)).setCell ⟨g, k * 9 + 1, none⟩ (.int .i64 (old h y).o)).setCell ⟨g, k * 9 + 2, none⟩ (.int .i64 (old h y).t)).setCell ⟨g, k * 9 + 3, none⟩ (.int .u32 (old h y).i)).setCell ⟨g, k * 9 + 4, none⟩ (.int .u32 (old h y).v)).setCell ⟨g, k * 9 + 5, none⟩ (.int .u32 (old h y).q)).setCell ⟨g, k * 9 + 6, none⟩ (.int .i64 (old h y).s)).setCell ⟨g, k * 9 + 7, none⟩ (.int .i64 (old h y).n)).setCell ⟨g, k * 9 + 8, none⟩ (.slice A8 mB c8)) Ak ck (kflat (ends ((cons L).take k) y))) := Lib.hid (K8.out.kpo Q8.out.HA.row (by decide) kp9)
   have GX9 : Hid (Bk ((((((((((Y1).setCell ⟨g, k * 9, none⟩ (.int .i64 (old h y).a)).setCell ⟨g, k * 9 + 1, none⟩ (.int .i64 (old h y).o)).setCell ⟨g, k * 9 + 2, none⟩ (.int .i64 (old h y).t)).setCell ⟨g, k * 9 + 3, none⟩ (.int .u32 (old h y).i)).setCell ⟨g, k * 9 + 4, none⟩ (.int .u32 (old h y).v)).setCell ⟨g, k * 9 + 5, none⟩ (.int .u32 (old h y).q)).setCell ⟨g, k * 9 + 6, none⟩ (.int .i64 (old h y).s)).setCell ⟨g, k * 9 + 7, none⟩ (.int .i64 (old h y).n)).setCell ⟨g, k * 9 + 8, none⟩ (.slice A8 mB c8)) ka (.cells #[Value.int .i64 h.a, .int .i64 h.o, .int .i64 h.t, .int .u32 h.i, .int .u32 h.v, .int .u32 h.q, .int .i64 h.s, .int .i64 h.n, .slice Ab mB d] 40)) := Lib.hid ((kp9.block _ G8.out.lt fun e => by injection e with e; injection e with e; exact HKG.out.1 e).trans G8.out)
   have KG : Hid ((((((((((((Y1).setCell ⟨g, k * 9, none⟩ (.int .i64 (old h y).a)).setCell ⟨g, k * 9 + 1, none⟩ (.int .i64 (old h y).o)).setCell ⟨g, k * 9 + 2, none⟩ (.int .i64 (old h y).t)).setCell ⟨g, k * 9 + 3, none⟩ (.int .u32 (old h y).i)).setCell ⟨g, k * 9 + 4, none⟩ (.int .u32 (old h y).v)).setCell ⟨g, k * 9 + 5, none⟩ (.int .u32 (old h y).q)).setCell ⟨g, k * 9 + 6, none⟩ (.int .i64 (old h y).s)).setCell ⟨g, k * 9 + 7, none⟩ (.int .i64 (old h y).n)).setCell ⟨g, k * 9 + 8, none⟩ (.slice A8 mB c8)).cell? ⟨kO, 0, none⟩ = some (.int .i64 m) ∧ ((((((((((Y1).setCell ⟨g, k * 9, none⟩ (.int .i64 (old h y).a)).setCell ⟨g, k * 9 + 1, none⟩ (.int .i64 (old h y).o)).setCell ⟨g, k * 9 + 2, none⟩ (.int .i64 (old h y).t)).setCell ⟨g, k * 9 + 3, none⟩ (.int .u32 (old h y).i)).setCell ⟨g, k * 9 + 4, none⟩ (.int .u32 (old h y).v)).setCell ⟨g, k * 9 + 5, none⟩ (.int .u32 (old h y).q)).setCell ⟨g, k * 9 + 6, none⟩ (.int .i64 (old h y).s)).setCell ⟨g, k * 9 + 7, none⟩ (.int .i64 (old h y).n)).setCell ⟨g, k * 9 + 8, none⟩ (.slice A8 mB c8)).cell? ⟨kO, 1, none⟩ = some (.slice (some ⟨g, 0, none⟩) n c3) ∧ ((((((((((Y1).setCell ⟨g, k * 9, none⟩ (.int .i64 (old h y).a)).setCell ⟨g, k * 9 + 1, none⟩ (.int .i64 (old h y).o)).setCell ⟨g, k * 9 + 2, none⟩ (.int .i64 (old h y).t)).setCell ⟨g, k * 9 + 3, none⟩ (.int .u32 (old h y).i)).setCell ⟨g, k * 9 + 4, none⟩ (.int .u32 (old h y).v)).setCell ⟨g, k * 9 + 5, none⟩ (.int .u32 (old h y).q)).setCell ⟨g, k * 9 + 6, none⟩ (.int .i64 (old h y).s)).setCell ⟨g, k * 9 + 7, none⟩ (.int .i64 (old h y).n)).setCell ⟨g, k * 9 + 8, none⟩ (.slice A8 mB c8)).cell? ⟨kO, 2, none⟩ = some (.bool o)) ∧ (((((((((((Y1).setCell ⟨g, k * 9, none⟩ (.int .i64 (old h y).a)).setCell ⟨g, k * 9 + 1, none⟩ (.int .i64 (old h y).o)).setCell ⟨g, k * 9 + 2, none⟩ (.int .i64 (old h y).t)).setCell ⟨g, k * 9 + 3, none⟩ (.int .u32 (old h y).i)).setCell ⟨g, k * 9 + 4, none⟩ (.int .u32 (old h y).v)).setCell ⟨g, k * 9 + 5, none⟩ (.int .u32 (old h y).q)).setCell ⟨g, k * 9 + 6, none⟩ (.int .i64 (old h y).s)).setCell ⟨g, k * 9 + 7, none⟩ (.int .i64 (old h y).n)).setCell ⟨g, k * 9 + 8, none⟩ (.slice A8 mB c8)).cell? ⟨ka, 0, none⟩ = some (.int .i64 h.a) ∧ ((((((((((Y1).setCell ⟨g, k * 9, none⟩ (.int .i64 (old h y).a)).setCell ⟨g, k * 9 + 1, none⟩ (.int .i64 (old h y).o)).setCell ⟨g, k * 9 + 2, none⟩ (.int .i64 (old h y).t)).setCell ⟨g, k * 9 + 3, none⟩ (.int .u32 (old h y).i)).setCell ⟨g, k * 9 + 4, none⟩ (.int .u32 (old h y).v)).setCell ⟨g, k * 9 + 5, none⟩ (.int .u32 (old h y).q)).setCell ⟨g, k * 9 + 6, none⟩ (.int .i64 (old h y).s)).setCell ⟨g, k * 9 + 7, none⟩ (.int .i64 (old h y).n)).setCell ⟨g, k * 9 + 8, none⟩ (.slice A8 mB c8)).cell? ⟨ka, 1, none⟩ = some (.int .i64 h.o) ∧ ((((((((((Y1).setCell ⟨g, k * 9, none⟩ (.int .i64 (old h y).a)).setCell ⟨g, k * 9 + 1, none⟩ (.int .i64 (old h y).o)).setCell ⟨g, k * 9 + 2, none⟩ (.int .i64 (old h y).t)).setCell ⟨g, k * 9 + 3, none⟩ (.int .u32 (old h y).i)).setCell ⟨g, k * 9 + 4, none⟩ (.int .u32 (old h y).v)).setCell ⟨g, k * 9 + 5, none⟩ (.int .u32 (old h y).q)).setCell ⟨g, k * 9 + 6, none⟩ (.int .i64 (old h y).s)).setCell ⟨g, k * 9 + 7, none⟩ (.int .i64 (old h y).n)).setCell ⟨g, k * 9 + 8, none⟩ (.slice A8 mB c8)).cell? ⟨ka, 2, none⟩ = some (.int .i64 h.t) ∧ ((((((((((Y1).setCell ⟨g, k * 9, none⟩ (.int .i64 (old h y).a)).setCell ⟨g, k * 9 + 1, none⟩ (.int .i64 (old h y).o)).setCell ⟨g, k * 9 + 2, none⟩ (.int .i64 (old h y).t)).setCell ⟨g, k * 9 + 3, none⟩ (.int .u32 (old h y).i)).setCell ⟨g, k * 9 + 4, none⟩ (.int .u32 (old h y).v)).setCell ⟨g, k * 9 + 5, none⟩ (.int .u32 (old h y).q)).setCell ⟨g, k * 9 + 6, none⟩ (.int .i64 (old h y).s)).setCell ⟨g, k * 9 + 7, none⟩ (.int .i64 (old h y).n)).setCell ⟨g, k * 9 + 8, none⟩ (.slice A8 mB c8)).cell? ⟨ka, 3, none⟩ = some (.int .u32 h.i) ∧ ((((((((((Y1).setCell ⟨g, k * 9, none⟩ (.int .i64 (old h y).a)).setCell ⟨g, k * 9 + 1, none⟩ (.int .i64 (old h y).o)).setCell ⟨g, k * 9 + 2, none⟩ (.int .i64 (old h y).t)).setCell ⟨g, k * 9 + 3, none⟩ (.int .u32 (old h y).i)).setCell ⟨g, k * 9 + 4, none⟩ (.int .u32 (old h y).v)).setCell ⟨g, k * 9 + 5, none⟩ (.int .u32 (old h y).q)).setCell ⟨g, k * 9 + 6, none⟩ (.int .i64 (old h y).s)).setCell ⟨g, k * 9 + 7, none⟩ (.int .i64 (old h y).n)).setCell ⟨g, k * 9 + 8, none⟩ (.slice A8 mB c8)).cell? ⟨ka, 4, none⟩ = some (.int .u32 h.v) ∧ ((((((((((Y1).setCell ⟨g, k * 9, none⟩ (.int .i64 (old h y).a)).setCell ⟨g, k * 9 + 1, none⟩ (.int .i64 (old h y).o)).setCell ⟨g, k * 9 + 2, none⟩ (.int .i64 (old h y).t)).setCell ⟨g, k * 9 + 3, none⟩ (.int .u32 (old h y).i)).setCell ⟨g, k * 9 + 4, none⟩ (.int .u32 (old h y).v)).setCell ⟨g, k * 9 + 5, none⟩ (.int .u32 (old h y).q)).setCell ⟨g, k * 9 + 6, none⟩ (.int .i64 (old h y).s)).setCell ⟨g, k * 9 + 7, none⟩ (.int .i64 (old h y).n)).setCell ⟨g, k * 9 + 8, none⟩ (.slice A8 mB c8)).cell? ⟨ka, 5, none⟩ = some (.int .u32 h.q) ∧ ((((((((((Y1).setCell ⟨g, k * 9, none⟩ (.int .i64 (old h y).a)).setCell ⟨g, k * 9 + 1, none⟩ (.int .i64 (old h y).o)).setCell ⟨g, k * 9 + 2, none⟩ (.int .i64 (old h y).t)).setCell ⟨g, k * 9 + 3, none⟩ (.int .u32 (old h y).i)).setCell ⟨g, k * 9 + 4, none⟩ (.int .u32 (old h y).v)).setCell ⟨g, k * 9 + 5, none⟩ (.int .u32 (old h y).q)).setCell ⟨g, k * 9 + 6, none⟩ (.int .i64 (old h y).s)).setCell ⟨g, k * 9 + 7, none⟩ (.int .i64 (old h y).n)).setCell ⟨g, k * 9 + 8, none⟩ (.slice A8 mB c8)).cell? ⟨ka, 6, none⟩ = some (.int .i64 h.s) ∧ ((((((((((Y1).setCell ⟨g, k * 9, none⟩ (.int .i64 (old h y).a)).setCell ⟨g, k * 9 + 1, none⟩ (.int .i64 (old h y).o)).setCell ⟨g, k * 9 + 2, none⟩ (.int .i64 (old h y).t)).setCell ⟨g, k * 9 + 3, none⟩ (.int .u32 (old h y).i)).setCell ⟨g, k * 9 + 4, none⟩ (.int .u32 (old h y).v)).setCell ⟨g, k * 9 + 5, none⟩ (.int .u32 (old h y).q)).setCell ⟨g, k * 9 + 6, none⟩ (.int .i64 (old h y).s)).setCell ⟨g, k * 9 + 7, none⟩ (.int .i64 (old h y).n)).setCell ⟨g, k * 9 + 8, none⟩ (.slice A8 mB c8)).cell? ⟨ka, 7, none⟩ = some (.int .i64 h.n) ∧ ((((((((((Y1).setCell ⟨g, k * 9, none⟩ (.int .i64 (old h y).a)).setCell ⟨g, k * 9 + 1, none⟩ (.int .i64 (old h y).o)).setCell ⟨g, k * 9 + 2, none⟩ (.int .i64 (old h y).t)).setCell ⟨g, k * 9 + 3, none⟩ (.int .u32 (old h y).i)).setCell ⟨g, k * 9 + 4, none⟩ (.int .u32 (old h y).v)).setCell ⟨g, k * 9 + 5, none⟩ (.int .u32 (old h y).q)).setCell ⟨g, k * 9 + 6, none⟩ (.int .i64 (old h y).s)).setCell ⟨g, k * 9 + 7, none⟩ (.int .i64 (old h y).n)).setCell ⟨g, k * 9 + 8, none⟩ (.slice A8 mB c8)).cell? ⟨ka, 8, none⟩ = some (.slice Ab mB d))) := Lib.hid (by
    obtain ⟨q0, q1, q2, q3, q4, q5, q6, q7, q8, -⟩ := kz9_at GX9.out
    obtain ⟨o0, o1, o2, -⟩ := kz3_at QX9.out.GO
    exact ⟨⟨o0, o1, o2⟩, q0, q1, q2, q3, q4, q5, q6, q7, q8⟩)
   clear ha9 b8 kp9
   refine hK.out _ _ KG.out (fun _ => ?_)
   clear hK K
   refine wpAnyH_done (by kernel_rfl) ?_ _
   obtain ⟨ZX, hZX⟩ : ∃ V9, (((((((((Y1).setCell ⟨g, k * 9, none⟩ (.int .i64 (old h y).a)).setCell ⟨g, k * 9 + 1, none⟩ (.int .i64 (old h y).o)).setCell ⟨g, k * 9 + 2, none⟩ (.int .i64 (old h y).t)).setCell ⟨g, k * 9 + 3, none⟩ (.int .u32 (old h y).i)).setCell ⟨g, k * 9 + 4, none⟩ (.int .u32 (old h y).v)).setCell ⟨g, k * 9 + 5, none⟩ (.int .u32 (old h y).q)).setCell ⟨g, k * 9 + 6, none⟩ (.int .i64 (old h y).s)).setCell ⟨g, k * 9 + 7, none⟩ (.int .i64 (old h y).n)).setCell ⟨g, k * 9 + 8, none⟩ (.slice A8 mB c8) = V9 := ⟨_, rfl⟩
   rw [hZX] at QX9 KX9 GX9 ⊢
   clear e0 e1 e2 e3 e4 e5 e6 e7 e8 f0 f1 f2 f3 f4 f5 f6 f7 f8 hZX KG KS Q8 K8 G8 Q6 K6 HG6
   have HCM : Hid (cons (M.set k ⟨old h y, A8, c8, B⟩) = tickC ((cons L).take (k + 1)) y ++ (cons L).drop (k + 1)) := Lib.hid (by
    rw [cons_set, KL.out, HCT.out.1, HCT.out.2, tickC_snoc]
    have e : k = (tickC ((cons L).take k) y).length := by rw [tickC_len, List.length_take, cons_length, HN.out]; omega
    conv => lhs; arg 2; rw [e]
    rw [List.set_append_right _ _ (Nat.le_refl _), Nat.sub_self, List.set_cons_zero, List.append_assoc]
    rfl)
   have HEN : Hid (ends ((cons L).take (k + 1)) y = ends ((cons L).take k) y ++ if (!decide (h.a = 3600) && decide ((old h y).a = 3600)) = true then [kyo h] else []) := Lib.hid (by rw [HCT.out.1, ends_snoc]; rfl)
   obtain ⟨z0, z1, z2, z3, z4, z5, z6, z7, z8, -⟩ := kz9_at GX9.out
   obtain ⟨o0, o1, o2, -⟩ := kz3_at QX9.out.GO
   have hkM : k < (M.set k ⟨old h y, A8, c8, B⟩).length := by rw [List.length_set]; exact HKM.out
   obtain ⟨e0, e1, e2, e3, e4, e5, e6, e7, e8, -⟩ := rg_at QX9.out.HA.row_of.2 hkM
   have hag2 : ag (M.set k ⟨old h y, A8, c8, B⟩) k = ⟨old h y, A8, c8, B⟩ := by rw [ag_eq hkM]; simp
   rw [hag2] at e0
   clear hkM hag2 e1 e2 e3 e4 e5 e6 e7 e8
   by_cases hfin : ¬ h.a = 3600 ∧ (old h y).a = 3600
   ·obtain ⟨h1, h2⟩ := hfin
    have HD1 : Hid (ends ((cons L).take (k + 1)) y = ends ((cons L).take k) y ++ [kyo h]) := Lib.hid (by rw [HEN.out, if_pos (by simp [h1, h2])])
    replace e0 : ZX.cell? ⟨g, k * 9, none⟩ = some (.int .i64 3600) := by rw [e0]; simp [h2]
    have hb1 : (h.a == 3600) = false := by simpa using h1
    have hb2 : (h.a != 3600) = true := by simpa using h1
    obtain ⟨i0, hi0, hz0, hz1, hz2⟩ := info_of infoK
    have CK := key_any h ZX
    clear h2 HEN
    go_wp2_with fail
    refine CK.mono ?_
    rintro e W7 ⟨rfl, u7⟩
    obtain ⟨n0, hn0⟩ : ∃ q, W7.heap.size = q := ⟨_, rfl⟩
    have K7 := KX9.out.below u7
    obtain ⟨g9, c9, Z9, r9, rg9, kp9, hg9⟩ := app_one (P := Tryz.prog) (S := fun j => Ak = some ⟨j, 0, none⟩) Tryz.underlying58 hi0 hz0 hz1 hz2 rfl (by decide) (by decide) K7.self (n := q) (by rw [kflat_length, KQ.out]) (kcs (kyo h)) rfl (kcs_one _) (by omega) n0 hn0
    have Q9 := (QX9.out.step u7).key K7 kp9
    have J9 : Hid (TJ w (w.heap.size + 1) m (some ⟨g, 0, none⟩) n c3 o kO (cons L) y (k + 1) (some ⟨g9, 0, none⟩) c9 (q + 1) (M.set k ⟨old h y, A8, c8, B⟩) Z9) := Lib.hid ⟨Q9, HCM.out, .inr ⟨g9, (by rcases hg9 with q | q; exact K7.at q; have h1 := (QX9.out.step u7).GO.lt; show kO < g9; omega), rfl, by rw [HD1.out, kflat_snoc]; exact rg9⟩, by rw [HD1.out, List.length_append, KQ.out]; rfl⟩
    rw [show (kcs (kyo h)).toArray = #[Value.int .i64 h.t, .int .u32 h.i, .int .u32 h.v] from rfl] at r9
    clear rg9 kp9 hg9 u7 CK Q9 K7
    go_wp2_with (at_builtin; refine wpList_runb _ rfl (.tmp 41) (.tmp 45) 58 rfl rfl rfl r9 ?_)
    go_roundg gf
    case measure => omega
    case rel => exact ⟨k + 1, q + 1, some ⟨g9, 0, none⟩, c9, rfl, by go_num, Lib.hid (by omega), Lib.hid ⟨_, J9.out⟩⟩
   ·have HD1 : Hid (ends ((cons L).take (k + 1)) y = ends ((cons L).take k) y) := Lib.hid (by rw [HEN.out, if_neg (by simp only [Bool.and_eq_true, Bool.not_eq_true', decide_eq_true_eq, decide_eq_false_iff_not]; exact hfin), List.append_nil])
    have J9 : Hid (TJ w (w.heap.size + 1) m (some ⟨g, 0, none⟩) n c3 o kO (cons L) y (k + 1) Ak ck q (M.set k ⟨old h y, A8, c8, B⟩) ZX) := Lib.hid ⟨QX9.out, HCM.out, by rw [HD1.out]; exact KX9.out, by rw [HD1.out]; exact KQ.out⟩
    clear HEN HD1 HCM
    by_cases h1 : h.a = 3600
    ·have hb1 : (h.a == 3600) = true := by simpa using h1
     have hb2 : (h.a != 3600) = false := by simpa using h1
     clear hfin
     go_wp2
     go_roundg gf
     case measure => omega
     case rel => exact ⟨k + 1, q, Ak, ck, rfl, by go_num, Lib.hid (by omega), Lib.hid ⟨_, J9.out⟩⟩
    ·have hb1 : (h.a == 3600) = false := by simpa using h1
     have hb2 : (h.a != 3600) = true := by simpa using h1
     have h2 : ¬ (old h y).a = 3600 := fun q => hfin ⟨h1, q⟩
     have hb3 : ((old h y).a == 3600) = false := by simpa using h2
     generalize (old h y).a = r at *
     clear hfin
     go_wp2
     go_roundg gf
     case measure => omega
     case rel => exact ⟨k + 1, q, Ak, ck, rfl, by go_num, Lib.hid (by omega), Lib.hid ⟨_, J9.out⟩⟩
end Go.Proofs.YtadcicmccdphkaaGreat
