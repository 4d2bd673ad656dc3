/-
  Rows of advertisements that are changed in place; slices.DeleteFunc. No statement is proved here; no conditions.
-/
import Derived.Test.YtadcicmccdphkaaFh
import Derived.Test.YtadcicmccdphkaaIn
namespace Go.Proofs.Ytadcicmccdphkaa
open Go.RowKit Go.Joins

theorem set_at (P T : List Value) (j : Nat) (v : Value) : (P ++ T).set (P.length + j) v = P ++ T.set j v := by
  rw [List.set_append_right _ _ (by omega), Nat.add_sub_cancel_left]
theorem set9 (P R : List Value) (a0 a1 a2 a3 a4 a5 a6 a7 a8 v0 v1 v2 v3 v4 v5 v6 v7 v8 : Value) (o : Nat) (h : P.length = o) : ((((((((((P ++ (a0 :: a1 :: a2 :: a3 :: a4 :: a5 :: a6 :: a7 :: a8 :: R)).set (o) v0).set (o + 1) v1).set (o + 2) v2).set (o + 3) v3).set (o + 4) v4).set (o + 5) v5).set (o + 6) v6).set (o + 7) v7).set (o + 8) v8) = P ++ (v0 :: v1 :: v2 :: v3 :: v4 :: v5 :: v6 :: v7 :: v8 :: R) := by
  subst h
  have e0 : ∀ (T : List Value) (v : Value), (P ++ T).set P.length v = P ++ T.set 0 v := fun T v => set_at P T 0 v
  simp only [e0, set_at, List.set_cons_zero, List.set_cons_succ]
/-- A structure stored into a row. -/
abbrev stA (W : World) (g o : Nat) (u0 u1 u2 u3 u4 u5 u6 u7 u8 : Value) : World := (((((((((W).setCell ⟨g, o, none⟩ (u0)).setCell ⟨g, o + 1, none⟩ (u1)).setCell ⟨g, o + 2, none⟩ (u2)).setCell ⟨g, o + 3, none⟩ (u3)).setCell ⟨g, o + 4, none⟩ (u4)).setCell ⟨g, o + 5, none⟩ (u5)).setCell ⟨g, o + 6, none⟩ (u6)).setCell ⟨g, o + 7, none⟩ (u7)).setCell ⟨g, o + 8, none⟩ (u8)
theorem kp_stA (W : World) (g o : Nat) (u0 u1 u2 u3 u4 u5 u6 u7 u8 : Value) : Kp (· = g) W (stA W g o u0 u1 u2 u3 u4 u5 u6 u7 u8) :=
  ((((((((Kp.setCell (S := (· = g)) W ⟨g, o, none⟩ u0 rfl).then_set ⟨g, o + 1, none⟩ u1 rfl).then_set ⟨g, o + 2, none⟩ u2 rfl).then_set ⟨g, o + 3, none⟩ u3 rfl).then_set ⟨g, o + 4, none⟩ u4 rfl).then_set ⟨g, o + 5, none⟩ u5 rfl).then_set ⟨g, o + 6, none⟩ u6 rfl).then_set ⟨g, o + 7, none⟩ u7 rfl).then_set ⟨g, o + 8, none⟩ u8 rfl
theorem aflat_set {L : List Ae} {q : Nat} (hq : q < L.length) (x : Ae) : aflat (L.set q x) = aflat (L.take q) ++ (acs x ++ aflat (L.drop (q + 1))) := by
  rw [List.set_eq_take_append_cons_drop, if_pos hq, aflat, List.flatMap_append, List.flatMap_cons]
  rfl
theorem aflat_here {L : List Ae} {q : Nat} (hq : q < L.length) : aflat L = aflat (L.take q) ++ (acs (ag L q) ++ aflat (L.drop (q + 1))) := by
  have h : L.set q (ag L q) = L := by rw [ag_eq hq]; exact List.set_getElem_self hq
  rw [← aflat_set hq, h]
theorem rg_setA {w : World} {g c : Nat} {L : List Ae} (h : Rg 34 9 w g c (aflat L)) {q : Nat} (hq : q < L.length) (x : Ae) : Rg 34 9 ((((((((((w).setCell ⟨g, q * 9, none⟩ (.int .i64 x.h.a)).setCell ⟨g, q * 9 + 1, none⟩ (.int .i64 x.h.o)).setCell ⟨g, q * 9 + 2, none⟩ (.int .i64 x.h.t)).setCell ⟨g, q * 9 + 3, none⟩ (.int .u32 x.h.i)).setCell ⟨g, q * 9 + 4, none⟩ (.int .u32 x.h.v)).setCell ⟨g, q * 9 + 5, none⟩ (.int .u32 x.h.q)).setCell ⟨g, q * 9 + 6, none⟩ (.int .i64 x.h.s)).setCell ⟨g, q * 9 + 7, none⟩ (.int .i64 x.h.n)).setCell ⟨g, q * 9 + 8, none⟩ (.slice x.A x.l.length x.c)) g c (aflat (L.set q x)) := by
  have k := ((((((((h.set (q * 9) (.int .i64 x.h.a)).set (q * 9 + 1) (.int .i64 x.h.o)).set (q * 9 + 2) (.int .i64 x.h.t)).set (q * 9 + 3) (.int .u32 x.h.i)).set (q * 9 + 4) (.int .u32 x.h.v)).set (q * 9 + 5) (.int .u32 x.h.q)).set (q * 9 + 6) (.int .i64 x.h.s)).set (q * 9 + 7) (.int .i64 x.h.n)).set (q * 9 + 8) (.slice x.A x.l.length x.c)
  have e : (aflat (L.take q)).length = q * 9 := by rw [aflat_length, List.length_take, Nat.min_eq_left (by omega)]
  rw [aflat_here hq] at k
  rw [aflat_set hq]
  have h9 := set9 (aflat (L.take q)) (aflat (L.drop (q + 1))) (.int .i64 (ag L q).h.a) (.int .i64 (ag L q).h.o) (.int .i64 (ag L q).h.t) (.int .u32 (ag L q).h.i) (.int .u32 (ag L q).h.v) (.int .u32 (ag L q).h.q) (.int .i64 (ag L q).h.s) (.int .i64 (ag L q).h.n) (.slice (ag L q).A (ag L q).l.length (ag L q).c) (.int .i64 x.h.a) (.int .i64 x.h.o) (.int .i64 x.h.t) (.int .u32 x.h.i) (.int .u32 x.h.v) (.int .u32 x.h.q) (.int .i64 x.h.s) (.int .i64 x.h.n) (.slice x.A x.l.length x.c) (q * 9) e
  exact h9 ▸ k
/-- The cells of one advertisement of a row. -/
theorem rg_at {w : World} {g c : Nat} {L : List Ae} (h : Rg 34 9 w g c (aflat L)) {q : Nat} (hq : q < L.length) : w.cell? ⟨g, q * 9, none⟩ = some (.int .i64 (ag L q).h.a) ∧ w.cell? ⟨g, q * 9 + 1, none⟩ = some (.int .i64 (ag L q).h.o) ∧ w.cell? ⟨g, q * 9 + 2, none⟩ = some (.int .i64 (ag L q).h.t) ∧ w.cell? ⟨g, q * 9 + 3, none⟩ = some (.int .u32 (ag L q).h.i) ∧ w.cell? ⟨g, q * 9 + 4, none⟩ = some (.int .u32 (ag L q).h.v) ∧ w.cell? ⟨g, q * 9 + 5, none⟩ = some (.int .u32 (ag L q).h.q) ∧ w.cell? ⟨g, q * 9 + 6, none⟩ = some (.int .i64 (ag L q).h.s) ∧ w.cell? ⟨g, q * 9 + 7, none⟩ = some (.int .i64 (ag L q).h.n) ∧ w.cell? ⟨g, q * 9 + 8, none⟩ = some (.slice (ag L q).A (ag L q).l.length (ag L q).c) ∧ w.frozen? ⟨g, q * 9, none⟩ = false ∧ w.frozen? ⟨g, q * 9 + 1, none⟩ = false ∧ w.frozen? ⟨g, q * 9 + 2, none⟩ = false ∧ w.frozen? ⟨g, q * 9 + 3, none⟩ = false ∧ w.frozen? ⟨g, q * 9 + 4, none⟩ = false ∧ w.frozen? ⟨g, q * 9 + 5, none⟩ = false ∧ w.frozen? ⟨g, q * 9 + 6, none⟩ = false ∧ w.frozen? ⟨g, q * 9 + 7, none⟩ = false ∧ w.frozen? ⟨g, q * 9 + 8, none⟩ = false := by
  have k : ∀ j u, (acs (ag L q))[j]? = some u → w.cell? ⟨g, q * 9 + j, none⟩ = some u := fun j u hu => h.cell (by
    have hj := (List.getElem?_eq_some_iff.1 hu).1
    have := fm_get (f := acs) acs_len (l := L) (i := q) (j := j) hq hj
    rw [aflat, this, ← ag_eq hq]
    exact hu)
  exact ⟨k 0 _ rfl, k 1 _ rfl, k 2 _ rfl, k 3 _ rfl, k 4 _ rfl, k 5 _ rfl, k 6 _ rfl, k 7 _ rfl, k 8 _ rfl, h.frozen _, h.frozen _, h.frozen _, h.frozen _, h.frozen _, h.frozen _, h.frozen _, h.frozen _, h.frozen _⟩
theorem Aro.row_of {base : Nat} {w : World} {g c : Nat} {L : List Ae} (h : Aro base w (some ⟨g, 0, none⟩) c L) : base ≤ g ∧ Rg 34 9 w g c (aflat L) := by
  rcases h.row with ⟨e, _, _⟩ | ⟨g', h1, h2, h3⟩
  · cases e
  · injection h2 with h2
    injection h2 with h2
    subst h2
    exact ⟨h1, h3⟩
theorem Aro.some_of {base : Nat} {w : World} {A : Option Addr} {c : Nat} {L : List Ae} (h : Aro base w A c L) (hl : 0 < L.length) : ∃ g, A = some ⟨g, 0, none⟩ := by
  rcases h.row with ⟨_, _, e⟩ | ⟨g', _, h2, _⟩
  · have := congrArg List.length e
    rw [aflat_length] at this
    simp at this
    omega
  · exact ⟨g', h2⟩
/-- One advertisement of a row is another one. -/
theorem aro_setA {base : Nat} {w : World} {g c : Nat} {L : List Ae} (h : Aro base w (some ⟨g, 0, none⟩) c L) {q : Nat} (hq : q < L.length) (x : Ae) (hx : Bu w x) : Aro base ((((((((((w).setCell ⟨g, q * 9, none⟩ (.int .i64 x.h.a)).setCell ⟨g, q * 9 + 1, none⟩ (.int .i64 x.h.o)).setCell ⟨g, q * 9 + 2, none⟩ (.int .i64 x.h.t)).setCell ⟨g, q * 9 + 3, none⟩ (.int .u32 x.h.i)).setCell ⟨g, q * 9 + 4, none⟩ (.int .u32 x.h.v)).setCell ⟨g, q * 9 + 5, none⟩ (.int .u32 x.h.q)).setCell ⟨g, q * 9 + 6, none⟩ (.int .i64 x.h.s)).setCell ⟨g, q * 9 + 7, none⟩ (.int .i64 x.h.n)).setCell ⟨g, q * 9 + 8, none⟩ (.slice x.A x.l.length x.c)) (some ⟨g, 0, none⟩) c (L.set q x) := by
  have k := kp_stA w g (q * 9) (.int .i64 x.h.a) (.int .i64 x.h.o) (.int .i64 x.h.t) (.int .u32 x.h.i) (.int .u32 x.h.v) (.int .u32 x.h.q) (.int .i64 x.h.s) (.int .i64 x.h.n) (.slice x.A x.l.length x.c)
  refine ⟨.inr ⟨g, h.row_of.1, rfl, rg_setA h.row_of.2 hq x⟩, fun y hy => ?_⟩
  have hy' : Bu w y := by
    rcases List.mem_or_eq_of_mem_set hy with z | rfl
    · exact h.bod y z
    · exact hx
  refine hy'.keep k.size fun b off e hl => k.block b (hy'.2 b off e hl).1 (fun hb => ?_)
  exact hy'.apart h.row (by decide) b off e hl (by rw [hb])
theorem cons_set (L : List Ae) (q : Nat) (x : Ae) : cons (L.set q x) = (cons L).set q (con x) := by simp [cons, List.map_set]
theorem run_clr {P : Program} (w : World) (t ty e : TypeId) (i : TypeInfo) (z : Value) (sz : Nat) (ht : P.underlying t = some (.slice e)) (hi : P.info? e = some i) (hz : i.zero = some z) (hzs : z.cells.size = sz) (hz1 : ∀ u ∈ z.cells.toList, u.oneCell' = true) (g o n c : Nat) (cur : Array Value) (hn : 0 < n)
    (hg : w.heap[g]? = some (.cells cur e (0, 0))) (hfit : o + n * sz ≤ cur.size) :
    ∃ Z : List Value, Z.length = n * sz ∧ (Builtin.clear_ #[t] ty #[.slice (some ⟨g, o, none⟩) n c]).run P w = .ok (.tuple #[]) (w.setRow g (cur.toList.take o ++ Z ++ cur.toList.drop (o + n * sz)).toArray) := by
  have hl : (Builtin.zeroCells z.cells n).toList.length = n * sz := by rw [Array.length_toList, size_zeroCells, hzs]
  have ho : ∀ u ∈ (Builtin.zeroCells z.cells n).toList, u.oneCell' = true := by
    intro u hu
    simp only [Builtin.zeroCells] at hu
    simp at hu
    obtain ⟨a, ha, rfl⟩ := hu
    have hpos : 0 < z.cells.size := by
      rcases Nat.eq_zero_or_pos z.cells.size with q | q
      · rw [q] at ha; omega
      · exact q
    have hlt := Nat.mod_lt a hpos
    rw [getElem!_pos z.cells _ hlt]
    exact hz1 _ (by simp)
  have hst := run_storeCells_at P g o e (Builtin.zeroCells z.cells n).toList 0 cur w hg (by rw [hl]; simpa using hfit) ho
  rw [hl] at hst
  refine ⟨_, hl, ?_⟩
  cases n with
  | zero => omega
  | succ n =>
    simp [Builtin.clear_, run_underlying ht, zeroValue, typeInfo, hi, hz] at hst ⊢
    simp [hst]
theorem wpList_clr {P : Program} {w : World} {ops : Array Oper} {rest : List Oper} {o : Oper} {a : Act} {Q : Exit → Act → World → Prop} (hgd : o.guard = none) (s : Operand) (t : TypeId)
    (ho : o.op = .call { callee := .builtin .clear, args := #[s], argTypes := #[t] }) {vs v : Value} {w' : World} (hs : a.eval s = vs)
    (hrun : (Builtin.clear_ #[t] o.type #[vs]).run P w = .ok v w') (h : wpList P ops Q rest (a.put o.dst v) w') : wpList P ops Q (o :: rest) a w :=
  wpList_plain hgd fun K hK => by
    unfold Oper.wp execOp
    simp only [ho, resolve, invoke, builtin, Sem.run_bind, Sem.run_pure, Result.andThen_ok, List.map_toArray, List.map_cons, List.map_nil, hs, hrun]
    exact hK _ _ h
/-- What holds between two rounds: the first q that stay are in their places, those behind k are as they were. -/
structure DJ (w : World) (L : List Ae) (pr : Ae → Bool) (g c k q : Nat) (wx : World) : Prop where
  row : ∃ M, M.length = L.length ∧ M.drop k = L.drop k ∧ M.take q = (L.take k).filter (fun x => !pr x) ∧ (∀ y ∈ M, y ∈ L) ∧ Rg 34 9 wx g c (aflat M)
  kp : Kp (· = g) w wx
  num : q < k
/-- What DeleteFunc leaves. -/
def DP (base : Nat) (A : Option Addr) (M : List Ae) (w : World) (e : Ending) (w' : World) : Prop := ∃ A' c', e = .returned (.slice A' M.length c') ∧ Aro base w' A' c' M ∧ Kp (fun j => A = some ⟨j, 0, none⟩) w w' ∧ Below base w w'
theorem filt_take {L : List Ae} {p : Ae → Bool} {k : Nat} (h : k < L.length) : (L.take (k + 1)).filter p = (L.take k).filter p ++ if p (ag L k) = true then [ag L k] else [] := by
  rw [atake h, List.filter_append]
  congr 1
  by_cases hp : p (ag L k) = true <;> simp [hp]
set_option maxRecDepth 100000 in
set_option maxHeartbeats 4000000 in
theorem del_any {base : Nat} (A : Option Addr) (n c : Nat) (L : List Ae) (F : Nat) (p1 : Value) (pr : Ae → Bool) (w : World) (h : Aro base w A c L) (hbase : base ≤ w.heap.size) (hn : L.length = n) (hll : n ≤ 10000)
    (hF : ∀ (args : Array Value) (w' : World), (callFunc F args).run Try.prog w' = .ok (.enter F args) w')
    (hp : ∀ V x, x ∈ L → Kp (fun j => A = some ⟨j, 0, none⟩) w V → Calls Try.prog F #[av x, p1] V fun e V' => e = .returned (.bool (pr x)) ∧ Below V.heap.size V V') :
    Calls Try.prog 34 #[.slice A n c, .func (.func F) #[] #[p1]] w fun e w' => DP base A (L.filter fun x => !pr x) w e w' := by
  have CI := aix_any A n c L F p1 pr w hn h.arr hll hF (fun V x hx hV => hp V x hx (Kp.of_below hV (Nat.le_refl _)))
  have HF : Hid (fix pr L = if L.findIdx pr < n then (L.findIdx pr : Int) else -1) := Lib.hid (by rw [fix, hn])
  rw [HF.out] at CI
  have HA := Lib.hid h
  have HP := Lib.hid hp
  by_cases hq : L.findIdx pr < n
  case neg =>
    rw [if_neg hq] at CI
    have hfl : L.filter (fun x => !pr x) = L := List.filter_eq_self.2 fun x hx => by
      have := List.findIdx_eq_length.1 (show L.findIdx pr = L.length by have := List.findIdx_le_length (p := pr) (xs := L); omega) x hx
      simp [this]
    rw [hfl]
    have HN := Lib.hid hn
    clear hp h HF hq hfl hn
    go_enter Try.func34, Try.ntmps34
    go_wp2_with fail
    refine CI.mono ?_
    rintro e W1 ⟨rfl, u1⟩
    go_wp2
    go_ret
    exact ⟨A, c, by rw [HN.out]; rfl, HA.out.step u1, Kp.of_below u1 (Nat.le_refl _), u1.mono hbase⟩
  rw [if_pos hq] at CI
  obtain ⟨g, hg⟩ := h.some_of (show 0 < L.length by omega)
  subst hg
  obtain ⟨hbg, hrg⟩ := h.row_of
  have hnc : n ≤ c := by have := hrg.cap; rw [aflat_length, hn] at this; omega
  have hcm : c ≤ 9223372036854775807 := by have := hrg.max; unfold maxLen at this; omega
  have hgl := hrg.lt
  have HN := Lib.hid hn
  have J0 : ∀ V, Below w.heap.size w V → Hid (DJ w L pr g c (L.findIdx pr + 1) (L.findIdx pr) V) := fun V hV => Lib.hid ⟨⟨L, rfl, rfl, by
    have hlt : L.findIdx pr < L.length := by omega
    rw [filt_take hlt, if_neg (by rw [ag_eq hlt]; simp [List.findIdx_getElem (w := hlt)]), List.append_nil]
    exact (List.filter_eq_self.2 fun x hx => by
      obtain ⟨i, hi, rfl⟩ := List.getElem_of_mem hx
      rw [List.length_take] at hi
      rw [List.getElem_take]
      have := List.not_of_lt_findIdx (p := pr) (xs := L) (i := i) (by omega)
      simpa using this).symm, fun y hy => hy, hrg.below' hV⟩, Kp.of_below hV (Nat.le_refl _), by omega⟩
  have hw0 : IntKind.i64.wrap ((L.findIdx pr : Int) + 1) = (L.findIdx pr : Int) + 1 := wrap_i64 (by omega) (by omega)
  have hne : ¬ ((L.findIdx pr : Int) = -1) := by omega
  generalize L.findIdx pr = q0 at *
  have HLN : Hid (L.length = n) := HN
  clear hp h HF hrg hn
  go_enter Try.func34, Try.ntmps34
  go_wp2_with fail
  refine CI.mono ?_
  rintro e W1 ⟨rfl, u1⟩
  have J1 := J0 W1 u1
  clear J0 u1 CI
  go_wp2_with fail
  go_loopg [5, 6] (n - (q0 + 1)) (fun gf v5 v6 wx => ∃ (k q : Nat), v5 = .int .i64 (q : Int) ∧ v6 = .int .i64 (k : Int) ∧ Hid (gf + k = n) ∧ Hid (DJ w L pr g c k q wx))
  case atStart => exact ⟨q0 + 1, q0, rfl, by go_num, Lib.hid (by omega), J1⟩
  case round =>
    obtain ⟨k, q, rfl, rfl, hk, hJ⟩ := hrel
    have hk' := hk.out
    obtain ⟨⟨M, hml, hmd, hmt, hmm, hmr⟩, hkp, hqk⟩ := hJ.out
    have HML := Lib.hid hml
    have HMD := Lib.hid hmd
    have HMT := Lib.hid hmt
    have HMM := Lib.hid hmm
    have HMR := Lib.hid hmr
    have HKP := Lib.hid hkp
    have HKP2 : Hid (Kp (fun j => (some ⟨g, 0, none⟩ : Option Addr) = some ⟨j, 0, none⟩) w wr) := Lib.hid (hkp.mono fun j hj => by rw [hj])
    cases gk with
    | zero =>
      obtain rfl : k = n := by omega
      have lt0 : decide ((k : Int) < (k : Int)) = false := by simp
      have hcq : ¬ (c = q) := by omega
      have hqc : (q : Int) ≤ (k : Int) := by omega
      have hqc2 : (q : Int) ≤ (c : Int) := by omega
      obtain ⟨i0, hi0, hz0, hz1, hz2⟩ := info_of infoA
      obtain ⟨cur, hc1, hc2, hc3, hc4, hc5⟩ := hmr
      have hq9 : q * 9 + (k - q) * 9 = k * 9 := by rw [← Nat.add_mul]; congr 1; omega
      have hk9 : k * 9 ≤ c * 9 := Nat.mul_le_mul_right 9 hnc
      obtain ⟨Z, hZl, hZr⟩ := run_clr (P := Try.prog) wr 22 0 34 i0 _ 9 Try.underlying22 hi0 hz0 rfl (by intro u hu; simp [Value.cells] at hu; rcases hu with h | h | h | h <;> rw [h] <;> rfl) g (q * 9) (k - q) (c - q) cur (by omega) hc1 (by rw [hc4]; omega)
      obtain ⟨W9, hW9⟩ : ∃ V, wr.setRow g (cur.toList.take (q * 9) ++ Z ++ cur.toList.drop (q * 9 + (k - q) * 9)).toArray = V := ⟨_, rfl⟩
      rw [hW9] at hZr
      have HFL : Hid (L.filter (fun x => !pr x) = M.take q) := Lib.hid (by rw [HMT.out, List.take_of_length_le (by rw [HLN.out]; omega)])
      have hMq : (M.take q).length = q := by rw [List.length_take, HML.out, HLN.out]; omega
      have HMQ := Lib.hid hMq
      have K9 : Hid (Kp (fun j => (some ⟨g, 0, none⟩ : Option Addr) = some ⟨j, 0, none⟩) w W9) := Lib.hid (by
        rw [← hW9]
        exact HKP2.out.trans (Kp.setRow (S := (· = g)) wr g _ rfl) (fun j hj => .inl (by rw [hj])))
      have R9 : Hid (Rg 34 9 W9 g c (aflat (M.take q))) := Lib.hid (by
        have hcl : cur.toList.length = c * 9 := by rw [Array.length_toList, hc4]
        refine ⟨_, by rw [← hW9]; exact setRow_heap wr g _ _ _ _ hc1, ?_, hc3, ?_, ?_⟩
        · rw [aflat_length, hMq]; omega
        · simp only [List.size_toArray, List.length_append, List.length_take, List.length_drop, hZl, hcl]
          omega
        · rw [aflat_length, hMq]
          have e1 : cur.toList.take (q * 9) = aflat (M.take q) := by
            have e2 : (cur.toList.take (aflat M).length).take (q * 9) = (aflat M).take (q * 9) := by rw [hc5]
            rw [List.take_take, aflat_length, HML.out, HLN.out, Nat.min_eq_left (by omega)] at e2
            rw [e2, aflat_split M q, List.take_left' (by rw [aflat_length, hMq])]
          show List.take _ (cur.toList.take (q * 9) ++ Z ++ _) = _
          rw [List.append_assoc, List.take_left' (by rw [List.length_take, hcl]; omega), e1])
      clear hW9 hml hmd hmt hmm hc1 hc2 hc5 hkp hJ hMq
      go_wp2_with (at_builtin; refine wpList_clr rfl (.tmp 38) 22 rfl rfl hZr ?_)
      go_ret
      exact ⟨_, c, by rw [HFL.out, HMQ.out]; rfl, by rw [HFL.out]; exact HA.out.of_row K9.out R9.out hbg (fun y hy => HA.out.bod y (HMM.out y (List.mem_of_mem_take hy))), K9.out, K9.out.below (fun j hj => HA.out.row.at hj) hbase⟩
    | succ gf =>
      have hkl : k < L.length := by rw [HLN.out]; omega
      have hkm : k < M.length := by rw [hml]; exact hkl
      have hqm : q < M.length := by rw [hml]; omega
      have lt0 : (k : Int) < (n : Int) := by omega
      have ltq : (q : Int) < (n : Int) := by omega
      have hw1 : IntKind.i64.wrap ((k : Int) + 1) = (k : Int) + 1 := wrap_i64 (by omega) (by omega)
      have hw2 : IntKind.i64.wrap ((q : Int) + 1) = (q : Int) + 1 := wrap_i64 (by omega) (by omega)
      have hagm : ag M k = ag L k := by
        have := congrArg (fun l : List Ae => l[0]?) hmd
        simp only [List.getElem?_drop, Nat.add_zero] at this
        rw [List.getElem?_eq_getElem hkm, List.getElem?_eq_getElem hkl] at this
        rw [ag_eq hkm, ag_eq hkl]
        injection this
      have hFT := filt_take (p := fun x => !pr x) hkl
      obtain ⟨e0, e1, e2, e3, e4, e5, e6, e7, e8, -⟩ := rg_at hmr hkm
      obtain ⟨i0, i1, i2, i3, i4, i5, i6, i7, i8, f0, f1, f2, f3, f4, f5, f6, f7, f8⟩ := rg_at hmr hqm
      rw [hagm] at e0 e1 e2 e3 e4 e5 e6 e7 e8
      have hmem := ag_mem hkl
      obtain ⟨x, hx⟩ : ∃ x, ag L k = x := ⟨_, rfl⟩
      rw [hx] at e0 e1 e2 e3 e4 e5 e6 e7 e8 hmem hFT
      obtain ⟨y, hy⟩ : ∃ y, ag M q = y := ⟨_, rfl⟩
      rw [hy] at i0 i1 i2 i3 i4 i5 i6 i7 i8
      generalize y.h = yh at *
      generalize y.A = yA at *
      generalize y.l.length = yn at *
      generalize y.c = yc at *
      have HX := Lib.hid hmem
      have HFT := Lib.hid hFT
      have HBX := Lib.hid (HA.out.bod x hmem)
      clear hml hmd hmt hmm hJ hFT hy hx hagm hmem hmr hkp
      obtain ⟨W2, hW2⟩ : ∃ V, wr.alloc (.cells #[Value.int .i64 x.h.a, .int .i64 x.h.o, .int .i64 x.h.t, .int .u32 x.h.i, .int .u32 x.h.v, .int .u32 x.h.q, .int .i64 x.h.s, .int .i64 x.h.n, .slice x.A x.l.length x.c] 34) = V := ⟨_, rfl⟩
      have u2 : Below wr.heap.size wr W2 := by rw [← hW2]; exact below_alloc1 _ _
      have G2 : Bk W2 wr.heap.size _ := Bk.mk hW2
      have HLT : Hid (wr.heap.size < W2.heap.size) := Lib.hid G2.lt
      have HKP3 := Lib.hid (HKP2.out.then_below u2 (Nat.le_refl _))
      have see := HP.out W2 x HX.out HKP3.out
      have hf1 := hF #[av x, p1] W2
      obtain ⟨z0, z1, z2, z3, z4, z5, z6, z7, z8, -⟩ := kz9_at G2
      have U2 := Lib.hid u2
      have HGL : Hid (g < wr.heap.size) := Lib.hid HMR.out.lt
      clear u2
      go_wp2_with fail
      refine see.mono ?_
      rintro e W3 ⟨rfl, u3⟩
      have G3 := G2.step u3
      have HU3 := Lib.hid (U2.out.trans (u3.mono U2.out.size))
      have HR3 := Lib.hid (HMR.out.below' HU3.out)
      have HK3 := Lib.hid (HKP3.out.then_below u3 (Nat.le_refl _))
      clear e0 e1 e2 e3 e4 e5 e6 e7 e8 i0 i1 i2 i3 i4 i5 i6 i7 i8 f0 f1 f2 f3 f4 f5 f6 f7 f8 z0 z1 z2 z3 z4 z5 z6 z7 z8 G2 see hf1 u3
      cases hpr : pr x with
      | true =>
        have HJ : Hid (DJ w L pr g c (k + 1) q W3) := Lib.hid ⟨⟨M, HML.out, by rw [← List.drop_drop, HMD.out, List.drop_drop], by rw [HFT.out, hpr, HMT.out]; simp, HMM.out, HR3.out⟩, HK3.out.mono fun j hj => by injection hj with hj; injection hj with hj; exact hj.symm, by omega⟩
        clear G3
        go_wp2
        go_roundg gf
        case measure => omega
        case rel => exact ⟨k + 1, q, rfl, by go_num, Lib.hid (by omega), HJ⟩
      | false =>
        obtain ⟨i0, i1, i2, i3, i4, i5, i6, i7, i8, f0, f1, f2, f3, f4, f5, f6, f7, f8⟩ := rg_at HR3.out hqm
        obtain ⟨z0, z1, z2, z3, z4, z5, z6, z7, z8, -⟩ := kz9_at G3
        have HJ : Hid (DJ w L pr g c (k + 1) (q + 1) ((((((((((W3).setCell ⟨g, q * 9, none⟩ (.int .i64 x.h.a)).setCell ⟨g, q * 9 + 1, none⟩ (.int .i64 x.h.o)).setCell ⟨g, q * 9 + 2, none⟩ (.int .i64 x.h.t)).setCell ⟨g, q * 9 + 3, none⟩ (.int .u32 x.h.i)).setCell ⟨g, q * 9 + 4, none⟩ (.int .u32 x.h.v)).setCell ⟨g, q * 9 + 5, none⟩ (.int .u32 x.h.q)).setCell ⟨g, q * 9 + 6, none⟩ (.int .i64 x.h.s)).setCell ⟨g, q * 9 + 7, none⟩ (.int .i64 x.h.n)).setCell ⟨g, q * 9 + 8, none⟩ (.slice x.A x.l.length x.c))) := Lib.hid ⟨⟨M.set q x, by rw [List.length_set, HML.out], by rw [List.drop_set_of_lt (by omega), ← List.drop_drop, HMD.out, List.drop_drop], (by
          rw [List.take_succ_eq_append_getElem (by rw [List.length_set]; exact hqm), List.take_set_of_le (Nat.le_refl _), List.getElem_set_self, HMT.out, HFT.out, hpr]
          rfl), (fun y hy => by
          rcases List.mem_or_eq_of_mem_set hy with z | rfl
          · exact HMM.out y z
          · exact HX.out), rg_setA HR3.out hqm x⟩, (HK3.out.mono fun j hj => by injection hj with hj; injection hj with hj; exact hj.symm).trans (kp_stA W3 g (q * 9) (.int .i64 x.h.a) (.int .i64 x.h.o) (.int .i64 x.h.t) (.int .u32 x.h.i) (.int .u32 x.h.v) (.int .u32 x.h.q) (.int .i64 x.h.s) (.int .i64 x.h.n) (.slice x.A x.l.length x.c)) (fun j hj => .inl hj), by omega⟩
        clear G3
        go_wp2
        go_roundg gf
        case measure => omega
        case rel => exact ⟨k + 1, q + 1, by go_num, by go_num, Lib.hid (by omega), HJ⟩
end Go.Proofs.Ytadcicmccdphkaa
