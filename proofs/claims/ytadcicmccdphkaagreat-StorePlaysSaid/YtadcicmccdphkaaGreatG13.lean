/-
  Rows of advertisements that are changed in place; slices.DeleteFunc. store.New and store.Find. No statement is proved here; no conditions.
-/
import Derived.Test.YtadcicmccdphkaaGreatG11
import Derived.Test.YtadcicmccdphkaaGreatG12
namespace Go.Proofs.YtadcicmccdphkaaGreat
open Go.RowKit Go.Joins

theorem set_at (P T : List Value) (j : Nat) (v : Value) : (P ++ T).set (P.length + j) v = P ++ T.set j v := by
 rw [List.set_append_right _ _ (by omega), Nat.add_sub_cancel_left]
theorem set9 (P R : List Value) (a0 a1 a2 a3 a4 a5 a6 a7 a8 v0 v1 v2 v3 v4 v5 v6 v7 v8 : Value) (o : Nat) (h : P.length = o) : ((((((((((P ++ (a0 :: a1 :: a2 :: a3 :: a4 :: a5 :: a6 :: a7 :: a8 :: R)).set (o) v0).set (o + 1) v1).set (o + 2) v2).set (o + 3) v3).set (o + 4) v4).set (o + 5) v5).set (o + 6) v6).set (o + 7) v7).set (o + 8) v8) = P ++ (v0 :: v1 :: v2 :: v3 :: v4 :: v5 :: v6 :: v7 :: v8 :: R) := by
 subst h
 have e0 : ∀ (T : List Value) (v : Value), (P ++ T).set P.length v = P ++ T.set 0 v := fun T v => set_at P T 0 v
 simp only [e0, set_at, List.set_cons_zero, List.set_cons_succ]
abbrev stA (W : World) (g o : Nat) (u0 u1 u2 u3 u4 u5 u6 u7 u8 : Value) : World := (((((((((W).setCell ⟨g, o, none⟩ (u0)).setCell ⟨g, o + 1, none⟩ (u1)).setCell ⟨g, o + 2, none⟩ (u2)).setCell ⟨g, o + 3, none⟩ (u3)).setCell ⟨g, o + 4, none⟩ (u4)).setCell ⟨g, o + 5, none⟩ (u5)).setCell ⟨g, o + 6, none⟩ (u6)).setCell ⟨g, o + 7, none⟩ (u7)).setCell ⟨g, o + 8, none⟩ (u8)
theorem kp_stA (W : World) (g o : Nat) (u0 u1 u2 u3 u4 u5 u6 u7 u8 : Value) : Kp (· = g) W (stA W g o u0 u1 u2 u3 u4 u5 u6 u7 u8) :=
 ((((((((Kp.setCell (S := (· = g)) W ⟨g, o, none⟩ u0 rfl).then_set ⟨g, o + 1, none⟩ u1 rfl).then_set ⟨g, o + 2, none⟩ u2 rfl).then_set ⟨g, o + 3, none⟩ u3 rfl).then_set ⟨g, o + 4, none⟩ u4 rfl).then_set ⟨g, o + 5, none⟩ u5 rfl).then_set ⟨g, o + 6, none⟩ u6 rfl).then_set ⟨g, o + 7, none⟩ u7 rfl).then_set ⟨g, o + 8, none⟩ u8 rfl
theorem aflat_set {L : List Ae} {q : Nat} (hq : q < L.length) (x : Ae) : aflat (L.set q x) = aflat (L.take q) ++ (acs x ++ aflat (L.drop (q + 1))) := by
 rw [List.set_eq_take_append_cons_drop, if_pos hq, aflat, List.flatMap_append, List.flatMap_cons]
 rfl
theorem aflat_here {L : List Ae} {q : Nat} (hq : q < L.length) : aflat L = aflat (L.take q) ++ (acs (ag L q) ++ aflat (L.drop (q + 1))) := by
 have h : L.set q (ag L q) = L := by rw [ag_eq hq]; exact List.set_getElem_self hq
 rw [← aflat_set hq, h]
theorem rg_setA {w : World} {g c : Nat} {L : List Ae} (h : Rg 40 9 w g c (aflat L)) {q : Nat} (hq : q < L.length) (x : Ae) : Rg 40 9 ((((((((((w).setCell ⟨g, q * 9, none⟩ (.int .i64 x.h.a)).setCell ⟨g, q * 9 + 1, none⟩ (.int .i64 x.h.o)).setCell ⟨g, q * 9 + 2, none⟩ (.int .i64 x.h.t)).setCell ⟨g, q * 9 + 3, none⟩ (.int .u32 x.h.i)).setCell ⟨g, q * 9 + 4, none⟩ (.int .u32 x.h.v)).setCell ⟨g, q * 9 + 5, none⟩ (.int .u32 x.h.q)).setCell ⟨g, q * 9 + 6, none⟩ (.int .i64 x.h.s)).setCell ⟨g, q * 9 + 7, none⟩ (.int .i64 x.h.n)).setCell ⟨g, q * 9 + 8, none⟩ (.slice x.A x.l.length x.c)) g c (aflat (L.set q x)) := by
 have k := ((((((((h.set (q * 9) (.int .i64 x.h.a)).set (q * 9 + 1) (.int .i64 x.h.o)).set (q * 9 + 2) (.int .i64 x.h.t)).set (q * 9 + 3) (.int .u32 x.h.i)).set (q * 9 + 4) (.int .u32 x.h.v)).set (q * 9 + 5) (.int .u32 x.h.q)).set (q * 9 + 6) (.int .i64 x.h.s)).set (q * 9 + 7) (.int .i64 x.h.n)).set (q * 9 + 8) (.slice x.A x.l.length x.c)
 have e : (aflat (L.take q)).length = q * 9 := by rw [aflat_length, List.length_take, Nat.min_eq_left (by omega)]
 rw [aflat_here hq] at k
 rw [aflat_set hq]
 have h9 := set9 (aflat (L.take q)) (aflat (L.drop (q + 1))) (.int .i64 (ag L q).h.a) (.int .i64 (ag L q).h.o) (.int .i64 (ag L q).h.t) (.int .u32 (ag L q).h.i) (.int .u32 (ag L q).h.v) (.int .u32 (ag L q).h.q) (.int .i64 (ag L q).h.s) (.int .i64 (ag L q).h.n) (.slice (ag L q).A (ag L q).l.length (ag L q).c) (.int .i64 x.h.a) (.int .i64 x.h.o) (.int .i64 x.h.t) (.int .u32 x.h.i) (.int .u32 x.h.v) (.int .u32 x.h.q) (.int .i64 x.h.s) (.int .i64 x.h.n) (.slice x.A x.l.length x.c) (q * 9) e
 exact h9 ▸ k
theorem rg_at {w : World} {g c : Nat} {L : List Ae} (h : Rg 40 9 w g c (aflat L)) {q : Nat} (hq : q < L.length) : w.cell? ⟨g, q * 9, none⟩ = some (.int .i64 (ag L q).h.a) ∧ w.cell? ⟨g, q * 9 + 1, none⟩ = some (.int .i64 (ag L q).h.o) ∧ w.cell? ⟨g, q * 9 + 2, none⟩ = some (.int .i64 (ag L q).h.t) ∧ w.cell? ⟨g, q * 9 + 3, none⟩ = some (.int .u32 (ag L q).h.i) ∧ w.cell? ⟨g, q * 9 + 4, none⟩ = some (.int .u32 (ag L q).h.v) ∧ w.cell? ⟨g, q * 9 + 5, none⟩ = some (.int .u32 (ag L q).h.q) ∧ w.cell? ⟨g, q * 9 + 6, none⟩ = some (.int .i64 (ag L q).h.s) ∧ w.cell? ⟨g, q * 9 + 7, none⟩ = some (.int .i64 (ag L q).h.n) ∧ w.cell? ⟨g, q * 9 + 8, none⟩ = some (.slice (ag L q).A (ag L q).l.length (ag L q).c) ∧ w.frozen? ⟨g, q * 9, none⟩ = false ∧ w.frozen? ⟨g, q * 9 + 1, none⟩ = false ∧ w.frozen? ⟨g, q * 9 + 2, none⟩ = false ∧ w.frozen? ⟨g, q * 9 + 3, none⟩ = false ∧ w.frozen? ⟨g, q * 9 + 4, none⟩ = false ∧ w.frozen? ⟨g, q * 9 + 5, none⟩ = false ∧ w.frozen? ⟨g, q * 9 + 6, none⟩ = false ∧ w.frozen? ⟨g, q * 9 + 7, none⟩ = false ∧ w.frozen? ⟨g, q * 9 + 8, none⟩ = false := by
 have k : ∀ j u, (acs (ag L q))[j]? = some u → w.cell? ⟨g, q * 9 + j, none⟩ = some u := fun j u hu => h.cell (by
  have hj := (List.getElem?_eq_some_iff.1 hu).1
  have := fm_get (f := acs) acs_len (l := L) (i := q) (j := j) hq hj
  rw [aflat, this, ← ag_eq hq]
  exact hu)
 exact ⟨k 0 _ rfl, k 1 _ rfl, k 2 _ rfl, k 3 _ rfl, k 4 _ rfl, k 5 _ rfl, k 6 _ rfl, k 7 _ rfl, k 8 _ rfl, h.frozen _, h.frozen _, h.frozen _, h.frozen _, h.frozen _, h.frozen _, h.frozen _, h.frozen _, h.frozen _⟩
theorem Aro.row_of {base : Nat} {w : World} {g c : Nat} {L : List Ae} (h : Aro base w (some ⟨g, 0, none⟩) c L) : base ≤ g ∧ Rg 40 9 w g c (aflat L) := by
 rcases h.row with ⟨e, _, _⟩ | ⟨g', h1, h2, h3⟩
 ·cases e
 ·injection h2 with h2
  injection h2 with h2
  subst h2
  exact ⟨h1, h3⟩
theorem Aro.some_of {base : Nat} {w : World} {A : Option Addr} {c : Nat} {L : List Ae} (h : Aro base w A c L) (hl : 0 < L.length) : ∃ g, A = some ⟨g, 0, none⟩ := by
 rcases h.row with ⟨_, _, e⟩ | ⟨g', _, h2, _⟩
 ·have := congrArg List.length e
  rw [aflat_length] at this
  simp at this
  omega
 ·exact ⟨g', h2⟩
theorem aro_setA {base : Nat} {w : World} {g c : Nat} {L : List Ae} (h : Aro base w (some ⟨g, 0, none⟩) c L) {q : Nat} (hq : q < L.length) (x : Ae) (hx : Bu w x) : Aro base ((((((((((w).setCell ⟨g, q * 9, none⟩ (.int .i64 x.h.a)).setCell ⟨g, q * 9 + 1, none⟩ (.int .i64 x.h.o)).setCell ⟨g, q * 9 + 2, none⟩ (.int .i64 x.h.t)).setCell ⟨g, q * 9 + 3, none⟩ (.int .u32 x.h.i)).setCell ⟨g, q * 9 + 4, none⟩ (.int .u32 x.h.v)).setCell ⟨g, q * 9 + 5, none⟩ (.int .u32 x.h.q)).setCell ⟨g, q * 9 + 6, none⟩ (.int .i64 x.h.s)).setCell ⟨g, q * 9 + 7, none⟩ (.int .i64 x.h.n)).setCell ⟨g, q * 9 + 8, none⟩ (.slice x.A x.l.length x.c)) (some ⟨g, 0, none⟩) c (L.set q x) := by
 have k := kp_stA w g (q * 9) (.int .i64 x.h.a) (.int .i64 x.h.o) (.int .i64 x.h.t) (.int .u32 x.h.i) (.int .u32 x.h.v) (.int .u32 x.h.q) (.int .i64 x.h.s) (.int .i64 x.h.n) (.slice x.A x.l.length x.c)
 refine ⟨.inr ⟨g, h.row_of.1, rfl, rg_setA h.row_of.2 hq x⟩, fun y hy => ?_⟩
 have hy' : Bu w y := by
  rcases List.mem_or_eq_of_mem_set hy with z | rfl
  ·exact h.bod y z
  ·exact hx
 refine hy'.keep k.size fun b off e hl => k.block b (hy'.2 b off e hl).1 (fun hb => ?_)
 exact hy'.apart h.row (by decide) b off e hl (by rw [hb])
theorem cons_set (L : List Ae) (q : Nat) (x : Ae) : cons (L.set q x) = (cons L).set q (con x) := by simp [cons, List.map_set]
theorem run_clr {P : Program} (w : World) (t ty e : TypeId) (i : TypeInfo) (z : Value) (sz : Nat) (ht : P.underlying t = some (.slice e)) (hi : P.info? e = some i) (hz : i.zero = some z) (hzs : z.cells.size = sz) (hz1 : ∀ u ∈ z.cells.toList, u.oneCell' = true) (g o n c : Nat) (cur : Array Value) (hn : 0 < n)
  (hg : w.heap[g]? = some (.cells cur e (0, 0))) (hfit : o + n * sz ≤ cur.size) :
  ∃ Z : List Value, Z.length = n * sz ∧ (Builtin.clear_ #[t] ty #[.slice (some ⟨g, o, none⟩) n c]).run P w = .ok (.tuple #[]) (w.setRow g (cur.toList.take o ++ Z ++ cur.toList.drop (o + n * sz)).toArray) := by
 have hl : (Builtin.zeroCells z.cells n).toList.length = n * sz := by rw [Array.length_toList, size_zeroCells, hzs]
 have ho : ∀ u ∈ (Builtin.zeroCells z.cells n).toList, u.oneCell' = true := by
  intro u hu
  simp only [Builtin.zeroCells] at hu
  simp at hu
  obtain ⟨a, ha, rfl⟩ := hu
  have hpos : 0 < z.cells.size := by
   rcases Nat.eq_zero_or_pos z.cells.size with q | q
   ·rw [q] at ha; omega
   ·exact q
  have hlt := Nat.mod_lt a hpos
  rw [getElem!_pos z.cells _ hlt]
  exact hz1 _ (by simp)
 have hst := run_storeCells_at P g o e (Builtin.zeroCells z.cells n).toList 0 cur w hg (by rw [hl]; simpa using hfit) ho
 rw [hl] at hst
 refine ⟨_, hl, ?_⟩
 cases n with
 | zero => omega
 | succ n =>
  simp [Builtin.clear_, run_underlying ht, zeroValue, typeInfo, hi, hz] at hst ⊢
  simp [hst]
theorem wpList_clr {P : Program} {w : World} {ops : Array Oper} {rest : List Oper} {o : Oper} {a : Act} {Q : Exit → Act → World → Prop} (hgd : o.guard = none) (s : Operand) (t : TypeId)
  (ho : o.op = .call { callee := .builtin .clear, args := #[s], argTypes := #[t] }) {vs v : Value} {w' : World} (hs : a.eval s = vs)
  (hrun : (Builtin.clear_ #[t] o.type #[vs]).run P w = .ok v w') (h : wpList P ops Q rest (a.put o.dst v) w') : wpList P ops Q (o :: rest) a w :=
 wpList_plain hgd fun K hK => by
  unfold Oper.wp execOp
  simp only [ho, resolve, invoke, builtin, Sem.run_bind, Sem.run_pure, Result.andThen_ok, List.map_toArray, List.map_cons, List.map_nil, hs, hrun]
  exact hK _ _ h
structure DJ (w : World) (L : List Ae) (pr : Ae → Bool) (g c k q : Nat) (wx : World) : Prop where
 row : ∃ M, M.length = L.length ∧ M.drop k = L.drop k ∧ M.take q = (L.take k).filter (fun x => !pr x) ∧ (∀ y ∈ M, y ∈ L) ∧ Rg 40 9 wx g c (aflat M)
 kp : Kp (· = g) w wx
 num : q < k
def DP (base : Nat) (A : Option Addr) (M : List Ae) (w : World) (e : Ending) (w' : World) : Prop := ∃ A' c', e = .returned (.slice A' M.length c') ∧ Aro base w' A' c' M ∧ Kp (fun j => A = some ⟨j, 0, none⟩) w w' ∧ Below base w w'
theorem filt_take {L : List Ae} {p : Ae → Bool} {k : Nat} (h : k < L.length) : (L.take (k + 1)).filter p = (L.take k).filter p ++ if p (ag L k) = true then [ag L k] else [] := by
 rw [atake h, List.filter_append]
 congr 1
 by_cases hp : p (ag L k) = true <;> simp [hp]
set_option maxRecDepth 100000 in
set_option maxHeartbeats 4000000 in
theorem del_any {base : Nat} (A : Option Addr) (n c : Nat) (L : List Ae) (F : Nat) (p1 : Value) (pr : Ae → Bool) (w : World) (h : Aro base w A c L) (hbase : base ≤ w.heap.size) (hn : L.length = n) (hll : n ≤ 10000)
  (hF : ∀ (args : Array Value) (w' : World), (callFunc F args).run Tryz.prog w' = .ok (.enter F args) w')
  (hp : ∀ V x, x ∈ L → Kp (fun j => A = some ⟨j, 0, none⟩) w V → Calls Tryz.prog F #[av x, p1] V fun e V' => e = .returned (.bool (pr x)) ∧ Below V.heap.size V V') :
  Calls Tryz.prog 56 #[.slice A n c, .func (.func F) #[] #[p1]] w fun e w' => DP base A (L.filter fun x => !pr x) w e w' := by
 have CI := aix_any A n c L F p1 pr w hn h.arr hll hF (fun V x hx hV => hp V x hx (Kp.of_below hV (Nat.le_refl _)))
 have HF : Hid (fix pr L = if L.findIdx pr < n then (L.findIdx pr : Int) else -1) := Lib.hid (by rw [fix, hn])
 rw [HF.out] at CI
 have HA := Lib.hid h
 have HP := Lib.hid hp
 by_cases hq : L.findIdx pr < n
 case neg =>
  rw [if_neg hq] at CI
  have hfl : L.filter (fun x => !pr x) = L := List.filter_eq_self.2 fun x hx => by
   have := List.findIdx_eq_length.1 (show L.findIdx pr = L.length by have := List.findIdx_le_length (p := pr) (xs := L); omega) x hx
   simp [this]
  rw [hfl]
  have HN := Lib.hid hn
  clear hp h HF hq hfl hn
  go_enter Tryz.func56, Tryz.ntmps56
  go_wp2_with fail
  refine CI.mono ?_
  rintro e W1 ⟨rfl, u1⟩
  go_wp2
  go_ret
  exact ⟨A, c, by rw [HN.out]; rfl, HA.out.step u1, Kp.of_below u1 (Nat.le_refl _), u1.mono hbase⟩
 rw [if_pos hq] at CI
 obtain ⟨g, hg⟩ := h.some_of (show 0 < L.length by omega)
 subst hg
 obtain ⟨hbg, hrg⟩ := h.row_of
 have hnc : n ≤ c := by have := hrg.cap; rw [aflat_length, hn] at this; omega
 have hcm : c ≤ 9223372036854775807 := by have := hrg.max; unfold maxLen at this; omega
 have hgl := hrg.lt
 have HN := Lib.hid hn
 have J0 : ∀ V, Below w.heap.size w V → Hid (DJ w L pr g c (L.findIdx pr + 1) (L.findIdx pr) V) := fun V hV => Lib.hid ⟨⟨L, rfl, rfl, by
  have hlt : L.findIdx pr < L.length := by omega
  rw [filt_take hlt, if_neg (by rw [ag_eq hlt]; simp [List.findIdx_getElem (w := hlt)]), List.append_nil]
  exact (List.filter_eq_self.2 fun x hx => by
   obtain ⟨i, hi, rfl⟩ := List.getElem_of_mem hx
   rw [List.length_take] at hi
   rw [List.getElem_take]
   have := List.not_of_lt_findIdx (p := pr) (xs := L) (i := i) (by omega)
   simpa using this).symm, fun y hy => hy, hrg.below' hV⟩, Kp.of_below hV (Nat.le_refl _), by omega⟩
 have hw0 : IntKind.i64.wrap ((L.findIdx pr : Int) + 1) = (L.findIdx pr : Int) + 1 := wrap_i64 (by omega) (by omega)
 have hne : ¬ ((L.findIdx pr : Int) = -1) := by omega
 generalize L.findIdx pr = q0 at *
 have HLN : Hid (L.length = n) := HN
 clear hp h HF hrg hn
 go_enter Tryz.func56, Tryz.ntmps56
 go_wp2_with fail
 refine CI.mono ?_
 rintro e W1 ⟨rfl, u1⟩
 have J1 := J0 W1 u1
 clear J0 u1 CI
 go_wp2_with fail
 go_loopg [5, 6] (n - (q0 + 1)) (fun gf v5 v6 wx => ∃ (k q : Nat), v5 = .int .i64 (q : Int) ∧ v6 = .int .i64 (k : Int) ∧ Hid (gf + k = n) ∧ Hid (DJ w L pr g c k q wx))
 case atStart => exact ⟨q0 + 1, q0, rfl, by go_num, Lib.hid (by omega), J1⟩
 case round =>
  obtain ⟨k, q, rfl, rfl, hk, hJ⟩ := hrel
  have hk' := hk.out
  obtain ⟨⟨M, hml, hmd, hmt, hmm, hmr⟩, hkp, hqk⟩ := hJ.out
  have HML := Lib.hid hml
  have HMD := Lib.hid hmd
  have HMT := Lib.hid hmt
  have HMM := Lib.hid hmm
  have HMR := Lib.hid hmr
  have HKP := Lib.hid hkp
  have HKP2 : Hid (Kp (fun j => (some ⟨g, 0, none⟩ : Option Addr) = some ⟨j, 0, none⟩) w wr) := Lib.hid (hkp.mono fun j hj => by rw [hj])
  cases gk with
  | zero =>
   obtain rfl : k = n := by omega
   have lt0 : decide ((k : Int) < (k : Int)) = false := by simp
   have hcq : ¬ (c = q) := by omega
   have hqc : (q : Int) ≤ (k : Int) := by omega
   have hqc2 : (q : Int) ≤ (c : Int) := by omega
   obtain ⟨i0, hi0, hz0, hz1, hz2⟩ := info_of infoA
   obtain ⟨cur, hc1, hc2, hc3, hc4, hc5⟩ := hmr
   have hq9 : q * 9 + (k - q) * 9 = k * 9 := by rw [← Nat.add_mul]; congr 1; omega
   have hk9 : k * 9 ≤ c * 9 := Nat.mul_le_mul_right 9 hnc
   obtain ⟨Z, hZl, hZr⟩ := run_clr (P := Tryz.prog) wr 26 0 40 i0 _ 9 Tryz.underlying26 hi0 hz0 rfl (by intro u hu; simp [Value.cells] at hu; rcases hu with h | h | h | h <;> rw [h] <;> rfl) g (q * 9) (k - q) (c - q) cur (by omega) hc1 (by rw [hc4]; omega)
   obtain ⟨W9, hW9⟩ : ∃ V, wr.setRow g (cur.toList.take (q * 9) ++ Z ++ cur.toList.drop (q * 9 + (k - q) * 9)).toArray = V := ⟨_, rfl⟩
   rw [hW9] at hZr
   have HFL : Hid (L.filter (fun x => !pr x) = M.take q) := Lib.hid (by rw [HMT.out, List.take_of_length_le (by rw [HLN.out]; omega)])
   have hMq : (M.take q).length = q := by rw [List.length_take, HML.out, HLN.out]; omega
   have HMQ := Lib.hid hMq
   have K9 : Hid (Kp (fun j => (some ⟨g, 0, none⟩ : Option Addr) = some ⟨j, 0, none⟩) w W9) := Lib.hid (by
    rw [← hW9]
    exact HKP2.out.trans (Kp.setRow (S := (· = g)) wr g _ rfl) (fun j hj => .inl (by rw [hj])))
   have R9 : Hid (Rg 40 9 W9 g c (aflat (M.take q))) := Lib.hid (by
    have hcl : cur.toList.length = c * 9 := by rw [Array.length_toList, hc4]
    refine ⟨_, by rw [← hW9]; exact setRow_heap wr g _ _ _ _ hc1, ?_, hc3, ?_, ?_⟩
    ·rw [aflat_length, hMq]; omega
    ·simp only [List.size_toArray, List.length_append, List.length_take, List.length_drop, hZl, hcl]
     omega
    ·rw [aflat_length, hMq]
     have e1 : cur.toList.take (q * 9) = aflat (M.take q) := by
      have e2 : (cur.toList.take (aflat M).length).take (q * 9) = (aflat M).take (q * 9) := by rw [hc5]
      rw [List.take_take, aflat_length, HML.out, HLN.out, Nat.min_eq_left (by omega)] at e2
      rw [e2, aflat_split M q, List.take_left' (by rw [aflat_length, hMq])]
     show List.take _ (cur.toList.take (q * 9) ++ Z ++ _) = _
     rw [List.append_assoc, List.take_left' (by rw [List.length_take, hcl]; omega), e1])
   clear hW9 hml hmd hmt hmm hc1 hc2 hc5 hkp hJ hMq
   go_wp2_with (at_builtin; refine wpList_clr rfl (.tmp 38) 26 rfl rfl hZr ?_)
   go_ret
   exact ⟨_, c, by rw [HFL.out, HMQ.out]; rfl, by rw [HFL.out]; exact HA.out.of_row K9.out R9.out hbg (fun y hy => HA.out.bod y (HMM.out y (List.mem_of_mem_take hy))), K9.out, K9.out.below (fun j hj => HA.out.row.at hj) hbase⟩
  | succ gf =>
   have hkl : k < L.length := by rw [HLN.out]; omega
   have hkm : k < M.length := by rw [hml]; exact hkl
   have hqm : q < M.length := by rw [hml]; omega
   have lt0 : (k : Int) < (n : Int) := by omega
   have ltq : (q : Int) < (n : Int) := by omega
   have hw1 : IntKind.i64.wrap ((k : Int) + 1) = (k : Int) + 1 := wrap_i64 (by omega) (by omega)
   have hw2 : IntKind.i64.wrap ((q : Int) + 1) = (q : Int) + 1 := wrap_i64 (by omega) (by omega)
   have hagm : ag M k = ag L k := by
    have := congrArg (fun l : List Ae => l[0]?) hmd
    simp only [List.getElem?_drop, Nat.add_zero] at this
    rw [List.getElem?_eq_getElem hkm, List.getElem?_eq_getElem hkl] at this
    rw [ag_eq hkm, ag_eq hkl]
    injection this
   have hFT := filt_take (p := fun x => !pr x) hkl
   obtain ⟨e0, e1, e2, e3, e4, e5, e6, e7, e8, -⟩ := rg_at hmr hkm
   obtain ⟨i0, i1, i2, i3, i4, i5, i6, i7, i8, f0, f1, f2, f3, f4, f5, f6, f7, f8⟩ := rg_at hmr hqm
   rw [hagm] at e0 e1 e2 e3 e4 e5 e6 e7 e8
   have hmem := ag_mem hkl
   obtain ⟨x, hx⟩ : ∃ x, ag L k = x := ⟨_, rfl⟩
   rw [hx] at e0 e1 e2 e3 e4 e5 e6 e7 e8 hmem hFT
   obtain ⟨y, hy⟩ : ∃ y, ag M q = y := ⟨_, rfl⟩
   rw [hy] at i0 i1 i2 i3 i4 i5 i6 i7 i8
   generalize y.h = yh at *
   generalize y.A = yA at *
   generalize y.l.length = yn at *
   generalize y.c = yc at *
   have HX := Lib.hid hmem
   have HFT := Lib.hid hFT
   have HBX := Lib.hid (HA.out.bod x hmem)
   clear hml hmd hmt hmm hJ hFT hy hx hagm hmem hmr hkp
   obtain ⟨W2, hW2⟩ : ∃ V, wr.alloc (.cells #[Value.int .i64 x.h.a, .int .i64 x.h.o, .int .i64 x.h.t, .int .u32 x.h.i, .int .u32 x.h.v, .int .u32 x.h.q, .int .i64 x.h.s, .int .i64 x.h.n, .slice x.A x.l.length x.c] 40) = V := ⟨_, rfl⟩
   have u2 : Below wr.heap.size wr W2 := by rw [← hW2]; exact below_alloc1 _ _
   have G2 : Bk W2 wr.heap.size _ := Bk.mk hW2
   have HLT : Hid (wr.heap.size < W2.heap.size) := Lib.hid G2.lt
   have HKP3 := Lib.hid (HKP2.out.then_below u2 (Nat.le_refl _))
   have see := HP.out W2 x HX.out HKP3.out
   have hf1 := hF #[av x, p1] W2
   obtain ⟨z0, z1, z2, z3, z4, z5, z6, z7, z8, -⟩ := kz9_at G2
   have U2 := Lib.hid u2
   have HGL : Hid (g < wr.heap.size) := Lib.hid HMR.out.lt
   clear u2
   go_wp2_with fail
   refine see.mono ?_
   rintro e W3 ⟨rfl, u3⟩
   have G3 := G2.step u3
   have HU3 := Lib.hid (U2.out.trans (u3.mono U2.out.size))
   have HR3 := Lib.hid (HMR.out.below' HU3.out)
   have HK3 := Lib.hid (HKP3.out.then_below u3 (Nat.le_refl _))
   clear e0 e1 e2 e3 e4 e5 e6 e7 e8 i0 i1 i2 i3 i4 i5 i6 i7 i8 f0 f1 f2 f3 f4 f5 f6 f7 f8 z0 z1 z2 z3 z4 z5 z6 z7 z8 G2 see hf1 u3
   cases hpr : pr x with
   | true =>
    have HJ : Hid (DJ w L pr g c (k + 1) q W3) := Lib.hid ⟨⟨M, HML.out, by rw [← List.drop_drop, HMD.out, List.drop_drop], by rw [HFT.out, hpr, HMT.out]; simp, HMM.out, HR3.out⟩, HK3.out.mono fun j hj => by injection hj with hj; injection hj with hj; exact hj.symm, by omega⟩
    clear G3
    go_wp2
    go_roundg gf
    case measure => omega
    case rel => exact ⟨k + 1, q, rfl, by go_num, Lib.hid (by omega), HJ⟩
   | false =>
    obtain ⟨i0, i1, i2, i3, i4, i5, i6, i7, i8, f0, f1, f2, f3, f4, f5, f6, f7, f8⟩ := rg_at HR3.out hqm
    obtain ⟨z0, z1, z2, z3, z4, z5, z6, z7, z8, -⟩ := kz9_at G3
    have HJ : Hid (DJ w L pr g c (k + 1) (q + 1) ((((((((((W3).setCell ⟨g, q * 9, none⟩ (.int .i64 x.h.a)).setCell ⟨g, q * 9 + 1, none⟩ (.int .i64 x.h.o)).setCell ⟨g, q * 9 + 2, none⟩ (.int .i64 x.h.t)).setCell ⟨g, q * 9 + 3, none⟩ (.int .u32 x.h.i)).setCell ⟨g, q * 9 + 4, none⟩ (.int .u32 x.h.v)).setCell ⟨g, q * 9 + 5, none⟩ (.int .u32 x.h.q)).setCell ⟨g, q * 9 + 6, none⟩ (.int .i64 x.h.s)).setCell ⟨g, q * 9 + 7, none⟩ (.int .i64 x.h.n)).setCell ⟨g, q * 9 + 8, none⟩ (.slice x.A x.l.length x.c))) := Lib.hid ⟨⟨M.set q x, by rw [List.length_set, HML.out], by rw [List.drop_set_of_lt (by omega), ← List.drop_drop, HMD.out, List.drop_drop], (by
     rw [List.take_succ_eq_append_getElem (by rw [List.length_set]; exact hqm), List.take_set_of_le (Nat.le_refl _), List.getElem_set_self, HMT.out, HFT.out, hpr]
     rfl), (fun y hy => by
     rcases List.mem_or_eq_of_mem_set hy with z | rfl
     ·exact HMM.out y z
     ·exact HX.out), rg_setA HR3.out hqm x⟩, (HK3.out.mono fun j hj => by injection hj with hj; injection hj with hj; exact hj.symm).trans (kp_stA W3 g (q * 9) (.int .i64 x.h.a) (.int .i64 x.h.o) (.int .i64 x.h.t) (.int .u32 x.h.i) (.int .u32 x.h.v) (.int .u32 x.h.q) (.int .i64 x.h.s) (.int .i64 x.h.n) (.slice x.A x.l.length x.c)) (fun j hj => .inl hj), by omega⟩
    clear G3
    go_wp2
    go_roundg gf
    case measure => omega
    case rel => exact ⟨k + 1, q + 1, by go_num, by go_num, Lib.hid (by omega), HJ⟩
end Go.Proofs.YtadcicmccdphkaaGreat
namespace Go.Proofs.YtadcicmccdphkaaGreat
open Go.RowKit Go.Joins
open List (getElem_toArray getElem_cons_zero getElem_cons_succ setIfInBounds_toArray set_cons_zero set_cons_succ)

theorem smayMax_any (m : Int) (w : World) : Calls Tryz.prog 22 #[.int .i64 m] w fun e w' => e = .returned (.bool (win m 1 2000)) ∧ w = w' := by
 by_cases h1 : 1 ≤ m
 ·have d1 : decide (m ≥ 1) = true := by simpa using h1
  go_enter Tryz.func22, Tryz.ntmps22
  go_wp2
  go_ret
  exact ⟨ret_bool (by simp [win, h1]), rfl⟩
 ·have d1 : decide (m ≥ 1) = false := by simpa using h1
  go_enter Tryz.func22, Tryz.ntmps22
  go_wp2
  go_ret
  exact ⟨ret_bool (by rw [win, show decide (1 ≤ m) = false by simpa using h1]; rfl), rfl⟩
def nwM (m : Int) : Int := if win m 1 2000 = true then m else 0
def nwE (m : Int) : Int := if win m 1 2000 = true then 0 else 1
set_option maxRecDepth 100000 in
theorem snew_any (m : Int) (w : World) : Calls Tryz.prog 4 #[.int .i64 m] w fun e w' => e = .returned (.tuple #[.agg #[.int .i64 (nwM m), .slice none 0 0, .bool false], .int .i64 (nwE m)]) ∧ Below w.heap.size w w' := by
 obtain ⟨W0, hW0⟩ : ∃ V, w.alloc (.cells #[Value.int .i64 0, .slice none 0 0, .bool false] 28) = V := ⟨_, rfl⟩
 have bW0 : Below w.heap.size w W0 := by rw [← hW0]; exact below_alloc1 _ _
 have G := Bk.mk hW0
 obtain ⟨y0, y1, y2, f0, f1, f2, hlt⟩ := kz3_at G
 have HM : Hid (nwM m = if win m 1 2000 = true then m else 0) := Lib.hid rfl
 have HE : Hid (nwE m = if win m 1 2000 = true then 0 else 1) := Lib.hid rfl
 rw [HM.out, HE.out]
 have CM := smayMax_any m W0
 clear HM HE
 cases hw : win m 1 2000
 ·rw [hw] at CM
  obtain ⟨r0, r1, r2⟩ := kz3_get G (Value.int .i64 0) (.slice none 0 0) (.bool false)
  have HF : Hid (Below w.heap.size w (st3 W0 w.heap.size (Value.int .i64 0) (.slice none 0 0) (.bool false))) := Lib.hid (below_st3 bW0 (Nat.le_refl _) _ _ _)
  clear bW0 hw G
  go_enter Tryz.func4, Tryz.ntmps4
  go_wp2_with fail
  refine CM.mono ?_
  rintro e _ ⟨rfl, rfl⟩
  go_wp2
  refine bodyPost_ret (v := .tuple #[.agg #[.int .i64 0, .slice none 0 0, .bool false], .int .i64 1]) (by simp [results, Tryz.results4, go_sem, r0, r1, r2]) rfl ⟨by simp, HF.out⟩
 ·rw [hw] at CM
  obtain ⟨r0, r1, r2⟩ := kz3_get G (Value.int .i64 m) (.slice none 0 0) (.bool false)
  have HF : Hid (Below w.heap.size w (st3 W0 w.heap.size (Value.int .i64 m) (.slice none 0 0) (.bool false))) := Lib.hid (below_st3 bW0 (Nat.le_refl _) _ _ _)
  clear bW0 hw G
  go_enter Tryz.func4, Tryz.ntmps4
  go_wp2_with fail
  refine CM.mono ?_
  rintro e _ ⟨rfl, rfl⟩
  go_wp2
  refine bodyPost_ret (v := .tuple #[.agg #[.int .i64 m, .slice none 0 0, .bool false], .int .i64 0]) (by simp [results, Tryz.results4, go_sem, r0, r1, r2]) rfl ⟨by simp, HF.out⟩
def idx (L : List Ae) (y : Hd) : Nat := L.findIdx fun x => kq y x.h
def fnd (L : List Ct) (y : Hd) : Ct := L.getD (L.findIdx fun x => kq y x.1) (⟨0, 0, 0, 0, 0, 0, 0, 0⟩, [])
def isin (L : List Ct) (y : Hd) : Bool := decide ((L.findIdx fun x => kq y x.1) < L.length)
theorem idx_cons (L : List Ae) (y : Hd) : (cons L).findIdx (fun x => kq y x.1) = idx L y := by
 rw [idx, cons, List.findIdx_map]
 rfl
def FP (L : List Ae) (y : Hd) (w : World) (e : Ending) (w' : World) : Prop := ∃ A' c', e = .returned (.tuple #[.agg #[.int .i64 (fnd (cons L) y).1.a, .int .i64 (fnd (cons L) y).1.o, .int .i64 (fnd (cons L) y).1.t, .int .u32 (fnd (cons L) y).1.i, .int .u32 (fnd (cons L) y).1.v, .int .u32 (fnd (cons L) y).1.q, .int .i64 (fnd (cons L) y).1.s, .int .i64 (fnd (cons L) y).1.n, .slice A' (fnd (cons L) y).2.length c'], .bool (isin (cons L) y)]) ∧ Own .u8 5 w' w.heap.size A' c' (fnd (cons L) y).2 ∧ Below w.heap.size w w'
set_option maxRecDepth 100000 in
set_option maxHeartbeats 4000000 in
theorem sfind_any (y : Hd) (m : Int) (A : Option Addr) (n c : Nat) (o : Bool) (L : List Ae) (w : World) (hn : L.length = n) (hl : Arr w A L) (hll : n ≤ 10000) (hsm : ∀ x ∈ L, x.l.length ≤ 100000) :
  Calls Tryz.prog 10 #[.agg #[.int .i64 m, .slice A n c, .bool o], .agg #[.int .i64 y.t, .int .u32 y.i, .int .u32 y.v]] w fun e w' => FP L y w e w' := by
 obtain ⟨W0, hW0⟩ : ∃ V, w.alloc (.cells #[.int .i64 m, .slice A n c, .bool o] 28) = V := ⟨_, rfl⟩
 have bW0 : Below w.heap.size w W0 := by rw [← hW0]; exact below_alloc1 _ _
 have sW0 : W0.heap.size = w.heap.size + 1 := by rw [← hW0]; simp
 have KX : Hid (∀ V, Below W0.heap.size W0 V → V.cell? ⟨w.heap.size, 0, none⟩ = some (.int .i64 m) ∧ V.cell? ⟨w.heap.size, 1, none⟩ = some (.slice A n c) ∧ V.cell? ⟨w.heap.size, 2, none⟩ = some (.bool o)) := Lib.hid (fun V hV => kb3_new hW0 hV)
 obtain ⟨W1, hW1⟩ : ∃ V, W0.alloc (.cells #[.int .i64 y.t, .int .u32 y.i, .int .u32 y.v] 25) = V := ⟨_, rfl⟩
 have bW1 : Below W0.heap.size W0 W1 := by rw [← hW1]; exact below_alloc1 _ _
 have sW1 : W1.heap.size = W0.heap.size + 1 := by rw [← hW1]; simp
 have KY : Hid (∀ V, Below W1.heap.size W1 V → V.cell? ⟨W0.heap.size, 0, none⟩ = some (.int .i64 y.t) ∧ V.cell? ⟨W0.heap.size, 1, none⟩ = some (.int .u32 y.i) ∧ V.cell? ⟨W0.heap.size, 2, none⟩ = some (.int .u32 y.v)) := Lib.hid (fun V hV => kb3_new hW1 hV)
 obtain ⟨W2, hW2⟩ : ∃ V, W1.alloc (.cells #[Value.int .i64 0, .int .i64 0, .int .i64 0, .int .u32 0, .int .u32 0, .int .u32 0, .int .i64 0, .int .i64 0, .slice none 0 0] 40) = V := ⟨_, rfl⟩
 have bW2 : Below W1.heap.size W1 W2 := by rw [← hW2]; exact below_alloc1 _ _
 have sW2 : W2.heap.size = w.heap.size + 3 := by rw [← hW2]; simp; omega
 have b02 : Below W0.heap.size W0 W2 := bW1.trans (bW2.mono bW1.size)
 have HB : Hid (Below w.heap.size w W2) := Lib.hid (bW0.trans (b02.mono bW0.size))
 have KS : Hid (∀ V, Below W2.heap.size W2 V → (V.cell? ⟨w.heap.size, 0, none⟩ = some (.int .i64 m) ∧ V.cell? ⟨w.heap.size, 1, none⟩ = some (.slice A n c) ∧ V.cell? ⟨w.heap.size, 2, none⟩ = some (.bool o)) ∧ (V.cell? ⟨w.heap.size + 1, 0, none⟩ = some (.int .i64 y.t) ∧ V.cell? ⟨w.heap.size + 1, 1, none⟩ = some (.int .u32 y.i) ∧ V.cell? ⟨w.heap.size + 1, 2, none⟩ = some (.int .u32 y.v))) := Lib.hid (fun V hV => ⟨KX.out V (b02.trans (hV.mono b02.size)), by have := KY.out V (bW2.trans (hV.mono bW2.size)); rwa [sW0] at this⟩)
 have KZ : Hid (∀ V, Below W2.heap.size W2 V → Bk V (w.heap.size + 2) (.cells #[Value.int .i64 0, .int .i64 0, .int .i64 0, .int .u32 0, .int .u32 0, .int .u32 0, .int .i64 0, .int .i64 0, .slice none 0 0] 40)) := Lib.hid (fun V hV => (show Bk W2 _ _ by have := Bk.mk hW2; rwa [show W1.heap.size = w.heap.size + 2 by omega] at this).step hV)
 have tt : Below W2.heap.size W2 W2 := Below.refl _ _
 have HN := Lib.hid hn
 have HL := Lib.hid hl
 have HS := Lib.hid hsm
 have HI : Hid (fix (fun x : Ae => kq y x.h) L = if idx L y < n then (idx L y : Int) else -1) := Lib.hid (by rw [fix, hn]; rfl)
 have HQ1 := Lib.hid sW2
 have HQ0 := Lib.hid sW0
 clear hl hn hsm KX KY bW0 bW1 bW2 b02
 go_enter Tryz.func10, Tryz.ntmps10
 go_upto_region 1 with fail
 refine wp_region_held_drew (S := fun V => (V.cell? ⟨w.heap.size, 0, none⟩ = some (.int .i64 m) ∧ V.cell? ⟨w.heap.size, 1, none⟩ = some (.slice A n c) ∧ V.cell? ⟨w.heap.size, 2, none⟩ = some (.bool o)) ∧ (V.cell? ⟨w.heap.size + 1, 0, none⟩ = some (.int .i64 y.t) ∧ V.cell? ⟨w.heap.size + 1, 1, none⟩ = some (.int .u32 y.i) ∧ V.cell? ⟨w.heap.size + 1, 2, none⟩ = some (.int .u32 y.v))) (by kernel_rfl) (KS.out _ tt.drew) (fun hHeld => ?_)
 replace tt : Below W2.heap.size W2 W2.drew := tt.drew
 generalize hX0 : W2.drew = Y0 at tt hHeld ⊢
 clear hX0
 refine wpAnyH_take (i := 0) (v := ?_) rfl (by kernel_rfl) (by kernel_rfl) (by kernel_rfl) (fun _ _ _ h => h) (Or.inl ⟨by rfl, ?_⟩) (by assumption) ?_
 rotate_left
 ·(intro w' hSw; (try dsimp only at hSw); go_simp; try with_reducible rfl)
 simp only [Act.put, getElem_toArray, getElem_cons_zero, setIfInBounds_toArray, set_cons_zero, set_cons_succ]
 refine wpAnyH_take (i := 1) (v := ?_) rfl (by kernel_rfl) (by kernel_rfl) (by kernel_rfl) (fun _ _ _ h => h) (Or.inl ⟨by rfl, ?_⟩) (by assumption) ?_
 rotate_left
 ·(intro w' hSw; (try dsimp only at hSw); go_simp; try with_reducible rfl)
 simp only [Act.put, getElem_toArray, getElem_cons_zero, getElem_cons_succ, setIfInBounds_toArray, set_cons_zero, set_cons_succ]
 refine wpAnyH_take (i := 2) (v := ?_) rfl (by kernel_rfl) (by kernel_rfl) (by kernel_rfl) (fun _ _ _ h => h) (Or.inl ⟨by rfl, ?_⟩) (by assumption) ?_
 rotate_left
 ·(intro w' hSw; (try dsimp only at hSw); go_simp; try with_reducible rfl)
 simp only [Act.put, getElem_toArray, getElem_cons_zero, getElem_cons_succ, setIfInBounds_toArray, set_cons_zero, set_cons_succ]
 refine wpAnyH_ready (rs := [3]) (by kernel_rfl) (by simp) ?_
 refine AllReadyH.cons rfl (fun K hK => ?_) AllReadyH.nil
 obtain ⟨hb0, hhb0⟩ : ∃ q, Y0.heap.size = q := ⟨_, rfl⟩
 have CH := has_any y Y0
 rw [hhb0] at CH
 go_simp
 go_at_call 41
 refine CH.mono ?_
 rintro e Y1 ⟨rfl, hbk, u1⟩
 rw [← hhb0] at u1
 have t_Y1 : Below W2.heap.size W2 Y1 := tt.trans (u1.mono tt.size)
 refine hK.out _ _ (KS.out _ t_Y1) (fun _ => ?_)
 clear hK K
 refine wpAnyH_ready (rs := [4]) (by kernel_rfl) (by simp) ?_
 refine AllReadyH.cons rfl (fun K hK => ?_) AllReadyH.nil
 go_simp
 go_at_call 40
 refine (aix_any A n c L 66 (.pointer (some ⟨hb0, 0, none⟩)) (fun x => kq y x.h) Y1 HN.out (HL.out.step (HB.out.trans (t_Y1.mono HB.out.size))) hll enters_has1 (fun V x hx hV => has1_any y hb0 x V (hbk.step hV))).mono ?_
 rintro e Y2 ⟨rfl, u2⟩
 have t_Y2 : Below W2.heap.size W2 Y2 := t_Y1.trans (u2.mono t_Y1.size)
 replace hbk := hbk.step u2
 refine hK.out _ _ (KS.out _ t_Y2) (fun _ => ?_)
 clear hK K
 refine wpAnyH_ready (rs := [5]) (by kernel_rfl) (by simp) ?_
 refine AllReadyH.cons rfl (fun K hK => ?_) AllReadyH.nil
 go_simp
 refine hK.out _ _ (KS.out _ t_Y2) (fun _ => ?_)
 clear hK K
 refine wpAnyH_done (by kernel_rfl) ?_ _
 rw [HI.out]
 have T := Lib.hid (HB.out.trans (t_Y2.mono HB.out.size))
 obtain ⟨⟨k0, k1, k2⟩, -⟩ := KS.out _ t_Y2
 have GZ := KZ.out _ t_Y2
 have HH : Hid (w.heap.size + 2 < Y2.heap.size) := Lib.hid GZ.lt
 clear hbk hhb0 CH
 by_cases hq : idx L y < n
 ·rw [if_pos hq]
  have g0 : ¬ ((idx L y : Int) < 0) := by omega
  have hkl : idx L y < L.length := by rw [HN.out]; exact hq
  have HF : Hid (fnd (cons L) y = con (ag L (idx L y)) ∧ isin (cons L) y = true) := Lib.hid ⟨by rw [fnd, idx_cons, ag_eq hkl, cons, List.getD, List.getElem?_map, List.getElem?_eq_getElem hkl]; rfl, by rw [isin, idx_cons, cons_length]; simpa using hkl⟩
  have har := Arr.step HL.out T.out
  obtain ⟨b, off, hA, _, e0, e1, e2, e3, e4, e5, e6, e7, e8⟩ := ard_at har.1 hkl
  have HBT := Lib.hid (har.2 _ (ag_mem hkl))
  have hm1 := HS.out _ (ag_mem hkl)
  obtain ⟨x, hx⟩ : ∃ x, ag L (idx L y) = x := ⟨_, rfl⟩
  rw [hx] at e0 e1 e2 e3 e4 e5 e6 e7 e8 HF HBT hm1
  generalize idx L y = j at *
  obtain ⟨h, hh⟩ : ∃ h, x.h = h := ⟨_, rfl⟩
  obtain ⟨B, hB⟩ : ∃ B, x.l = B := ⟨_, rfl⟩
  obtain ⟨mB, hmB⟩ : ∃ mB, B.length = mB := ⟨_, rfl⟩
  have HC : Hid (con x = (h, B)) := Lib.hid (by rw [con, hh, hB])
  rw [hh] at e0 e1 e2 e3 e4 e5 e6 e7
  rw [hB, hmB] at e8 hm1
  rw [hB] at HBT
  generalize x.A = Ab at *
  generalize x.c = d at *
  have CF := fad_any h Ab mB d B Y2 hmB HBT.out hm1
  subst hA
  have HMB := Lib.hid hmB
  have hqi : (j : Int) < (n : Int) := by omega
  clear hh hB hmB hx hkl har HI KS KZ HL HS HBT
  go_wp2_with fail
  refine CF.mono ?_
  rintro e W8 ⟨A8, c8, rfl, o8, u8⟩
  have G8 := GZ.step u8
  have T8 := Lib.hid (T.out.trans (u8.mono T.out.size))
  have O8 := Lib.hid o8
  obtain ⟨z0, z1, z2, z3, z4, z5, z6, z7, z8, f0, f1, f2, f3, f4, f5, f6, f7, f8, hzl⟩ := kz9_at G8
  have HG8 := Lib.hid G8
  have KR := Lib.hid (And.intro (below_st9 T8.out (show w.heap.size ≤ w.heap.size + 2 by omega) (Value.int .i64 h.a) (.int .i64 h.o) (.int .i64 h.t) (.int .u32 h.i) (.int .u32 h.v) (.int .u32 h.q) (.int .i64 h.s) (.int .i64 h.n) (.slice A8 mB c8)) ((O8.out.far9 HH.out (Value.int .i64 h.a) (.int .i64 h.o) (.int .i64 h.t) (.int .u32 h.i) (.int .u32 h.v) (.int .u32 h.q) (.int .i64 h.s) (.int .i64 h.n) (.slice A8 mB c8)).lower (T.out.size)))
  clear GZ o8 u8 CF G8 e0 e1 e2 e3 e4 e5 e6 e7 e8 k0 k1 k2
  go_wp2
  obtain ⟨r0, r1, r2, r3, r4, r5, r6, r7, r8⟩ := kz9_get HG8.out (Value.int .i64 h.a) (.int .i64 h.o) (.int .i64 h.t) (.int .u32 h.i) (.int .u32 h.v) (.int .u32 h.q) (.int .i64 h.s) (.int .i64 h.n) (.slice A8 mB c8)
  refine bodyPost_ret (v := .tuple #[.agg #[.int .i64 h.a, .int .i64 h.o, .int .i64 h.t, .int .u32 h.i, .int .u32 h.v, .int .u32 h.q, .int .i64 h.s, .int .i64 h.n, .slice A8 mB c8], .bool true]) (by simp [results, Tryz.results10, go_sem, r0, r1, r2, r3, r4, r5, r6, r7, r8]) rfl ⟨A8, c8, by rw [HF.out.1, HF.out.2, HC.out]; simp only [HMB.out], ?_⟩
  rw [HF.out.1, HC.out]
  exact ⟨KR.out.2, KR.out.1⟩
 ·rw [if_neg hq]
  have HF : Hid (fnd (cons L) y = (⟨0, 0, 0, 0, 0, 0, 0, 0⟩, []) ∧ isin (cons L) y = false) := Lib.hid ⟨by rw [fnd, idx_cons, List.getD, List.getElem?_eq_none (by rw [cons_length, HN.out]; omega)]; rfl, by rw [isin, idx_cons, cons_length, HN.out]; simpa using hq⟩
  obtain ⟨z0, z1, z2, z3, z4, z5, z6, z7, z8, f0, f1, f2, f3, f4, f5, f6, f7, f8, hzl⟩ := kz9_at GZ
  have HGZ := Lib.hid GZ
  have KR := Lib.hid (below_st9 T.out (show w.heap.size ≤ w.heap.size + 2 by omega) (Value.int .i64 0) (.int .i64 0) (.int .i64 0) (.int .u32 0) (.int .u32 0) (.int .u32 0) (.int .i64 0) (.int .i64 0) (.slice none 0 0))
  clear GZ KS KZ hq HI
  go_wp2
  obtain ⟨r0, r1, r2, r3, r4, r5, r6, r7, r8⟩ := kz9_get HGZ.out (Value.int .i64 0) (.int .i64 0) (.int .i64 0) (.int .u32 0) (.int .u32 0) (.int .u32 0) (.int .i64 0) (.int .i64 0) (.slice none 0 0)
  refine bodyPost_ret (v := .tuple #[.agg #[Value.int .i64 0, .int .i64 0, .int .i64 0, .int .u32 0, .int .u32 0, .int .u32 0, .int .i64 0, .int .i64 0, .slice none 0 0], .bool false]) (by simp [results, Tryz.results10, go_sem, r0, r1, r2, r3, r4, r5, r6, r7, r8]) rfl ⟨none, 0, by rw [HF.out.1, HF.out.2]; rfl, ?_⟩
  rw [HF.out.1]
  exact ⟨Own.nil _ _, KR.out⟩
end Go.Proofs.YtadcicmccdphkaaGreat
