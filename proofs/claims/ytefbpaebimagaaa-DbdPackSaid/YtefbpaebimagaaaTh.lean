/-
  The contract of dbd.takeHeads. No statement is proved here; no conditions.
-/
import Derived.RangeFuncBox
import Derived.RangeFuncCalls
import Derived.RangeFuncLeaves
import Derived.RangeFuncBound
import Derived.Shelf.Abstract
import Derived.Shelf.RegionOpen
import Derived.WalkKit
import Derived.OwnWalkIn
import Derived.TacticsInMore
import Derived.LoopNIn
import Derived.LoopIn
import Derived.Test.YtefbpaebimagaaaCh
import Derived.Test.YtefbpaebimagaaaDe
import Derived.Test.YtefbpaebimagaaaRRh
namespace Go.Proofs.Ytefbpaebimagaaa
open Go.RowKit Go.Joins

attribute [local go_sem] Oper.semAt_some

/-- The headers that bytes say, twenty bytes each. -/
def rdHs (l : List Int) (m : Nat) : List Hd := (List.range m).map fun k => rdf (sub l (k * 20) 20)
theorem rdHs_length (l : List Int) (m : Nat) : (rdHs l m).length = m := by simp [rdHs]
theorem rdHs_succ (l : List Int) (m : Nat) : rdHs l (m + 1) = rdHs l m ++ [rdf (sub l (m * 20) 20)] := by simp [rdHs, List.range_succ]
/-- Why these bytes are not headers, from a to b of them; 0 if they are. -/
def thE (l : List Int) (a b : Int) : Int := if l.length % 20 ≠ 0 then 2 else if (win ((l.length / 20 : Nat) : Int) a b && mays (rdHs l (l.length / 20))) = true then 0 else 3
def thL (l : List Int) (a b : Int) : List Hd := if thE l a b = 0 then rdHs l (l.length / 20) else []
theorem thE_short {l : List Int} {a b : Int} (h : l.length % 20 ≠ 0) : thE l a b = 2 ∧ thL l a b = [] := by
  have e : thE l a b = 2 := by rw [thE, if_pos h]
  exact ⟨e, by rw [thL, e]; rfl⟩
theorem thE_no {l : List Int} {a b : Int} (h : l.length % 20 = 0) (h2 : (win ((l.length / 20 : Nat) : Int) a b && mays (rdHs l (l.length / 20))) = false) : thE l a b = 3 ∧ thL l a b = [] := by
  have e : thE l a b = 3 := by rw [thE, if_neg (by omega), if_neg (by rw [h2]; decide)]
  exact ⟨e, by rw [thL, e]; rfl⟩
theorem thE_yes {l : List Int} {a b : Int} (h : l.length % 20 = 0) (h1 : win ((l.length / 20 : Nat) : Int) a b = true) (h2 : mays (rdHs l (l.length / 20)) = true) : thE l a b = 0 ∧ thL l a b = rdHs l (l.length / 20) := by
  have e : thE l a b = 0 := by rw [thE, if_neg (by omega), h1, h2]; rfl
  exact ⟨e, by rw [thL, if_pos e]⟩
theorem rdHs_ok {l : List Int} (hy : Byt l) {m : Nat} (h : m * 20 ≤ l.length) : ∀ x ∈ rdHs l m, Okd x := by
  intro x hx
  simp only [rdHs, List.mem_map, List.mem_range] at hx
  obtain ⟨k, hk, rfl⟩ := hx
  exact rdf_ok (sub_byt hy _ _) (sub_len (by omega))
theorem infoH : (Try.prog.info? 85).map (fun i => (i.zero, i.size, i.bytes)) = some (some (.agg #[.int .i64 0, .int .i64 0, .int .i64 0, .int .u32 0, .int .u32 0, .int .u32 0, .int .i64 0, .int .i64 0]), 8, 56) := by kernel_rfl
/-- Two variables, laid one behind the other, are set. -/
abbrev st11 (W : World) (b : Nat) (u1 u2 : Value) : World := (W.setCell ⟨b, 0, none⟩ u1).setCell ⟨b + 1, 0, none⟩ u2
theorem far_st11 {W : World} {b k : Nat} (h1 : k ≠ b) (h2 : k ≠ b + 1) (u1 u2 : Value) : (st11 W b u1 u2).heap[k]? = W.heap[k]? := by
  unfold st11
  rw [Below.heap_setCell _ _ _ _ h2, Below.heap_setCell _ _ _ _ h1]
theorem set11 {W : World} {b : Nat} {t1 t2 : TypeId} {v1 v2 : Value} (h1 : Boxed W b t1 v1) (h2 : Boxed W (b + 1) t2 v2) (u1 u2 : Value) : Boxed (st11 W b u1 u2) b t1 u1 ∧ Boxed (st11 W b u1 u2) (b + 1) t2 u2 := by
  refine ⟨?_, ?_⟩
  · exact (Below.heap_setCell _ _ _ _ (show b ≠ b + 1 by omega)).trans (h1.set u1)
  · exact Boxed.set u2 ((Below.heap_setCell _ _ _ _ (show b + 1 ≠ b by omega)).trans h2)
theorem below_st11 {W W' : World} {B b : Nat} (h : Below B W W') (hb : B ≤ b) (u1 u2 : Value) : Below B W (st11 W' b u1 u2) := (h.setCell (p := ⟨b, 0, none⟩) hb u1).setCell (p := ⟨b + 1, 0, none⟩) (by show B ≤ b + 1; omega) u2
section
variable {F : Fence} {n : Nat} {P : Program}
/-- 'append' by its run equation, inside a fence. -/
theorem wpListIn_runb (w : World) {ops : Array Oper} {rest : List Oper} {o : Oper} {a : Act} {Q : Exit → Act → World → Prop} (hgd : o.guard = none) (s x : Operand) (t : TypeId)
    (ho : o.op = .call { callee := .builtin .append, args := #[s, x], argTypes := #[t, t] }) {vs vx v : Value} {w' : World} (hs : a.eval s = vs) (hx : a.eval x = vx)
    (hrun : (Builtin.append_ #[t, t] o.type #[vs, vx]).run P w = .ok v w') (h : wpListIn F n P ops Q rest (a.put o.dst v) w') : wpListIn F n P ops Q (o :: rest) a w := by
  refine wpListIn_plain hgd fun K hK' => ?_
  unfold Oper.wpIn
  refine ⟨?_, ?_⟩
  · simp [Oper.about, ho, resolve, Target.leads, Sem.run_pure]
  · rw [Oper.semAt_plain F _ _ (by rw [ho]; intro c hc'; cases hc')]
    simp [execOp, ho, resolve, invoke, builtin, hs, hx, hrun, Result.andThen]
    exact hK' _ _ h
end
theorem Ob.self {e : TypeId} {sz : Nat} {S : Nat → Prop} {w : World} {A : Option Addr} {c : Nat} {cs : List Value} (h : Ob e sz S w A c cs) : Ob e sz (fun j => A = some ⟨j, 0, none⟩) w A c cs := by
  rcases h with h | ⟨g, _, rfl, h3⟩
  · exact .inl h
  · exact .inr ⟨g, rfl, rfl, h3⟩
theorem Ob.at {e : TypeId} {sz : Nat} {S : Nat → Prop} {w : World} {A : Option Addr} {c : Nat} {cs : List Value} (h : Ob e sz S w A c cs) {j : Nat} (hj : A = some ⟨j, 0, none⟩) : S j := by
  rcases h with ⟨rfl, _, _⟩ | ⟨g, hg, rfl, _⟩
  · cases hj
  · injection hj with hj
    injection hj with hj
    exact hj ▸ hg
theorem Ob.cells {e : TypeId} {sz : Nat} {S : Nat → Prop} {w : World} {A : Option Addr} {c : Nat} {cs : List Value} (h : Ob e sz S w A c cs) {j : Nat} (hj : A = some ⟨j, 0, none⟩) {o : Obj} (ho : w.heap[j]? = some o) : o.isCells = true := by
  rcases h with ⟨rfl, _, _⟩ | ⟨g, hg, rfl, cur, hc, _⟩
  · cases hj
  · injection hj with hj
    injection hj with hj
    subst hj
    rw [hc] at ho
    cases ho
    rfl
/-- One element more; only the row's own block changes. -/
theorem app_oneA {P : Program} {S : Nat → Prop} {w : World} {A : Option Addr} {c n : Nat} {cs : List Value} {e t : TypeId} {sz by_ : Nat} {z : Value} {i : TypeInfo} (ht : P.underlying t = some (.slice e)) (hi : P.info? e = some i) (hz : i.zero = some z) (hsize : i.size = sz) (hby : i.bytes = by_) (hzs : z.cells.size = sz) (hsz : 0 < sz) (hb100 : by_ ≤ 200)
    (h : Ob e sz S w A c cs) (hn : cs.length = n * sz) (xs : List Value) (hl2 : xs.length = sz) (h1 : ∀ u ∈ xs, u.oneCell' = true) (hb : n ≤ 100000) (n0 : Nat) (hn0 : w.heap.size = n0) :
    ∃ g' c' w', (Builtin.append_ #[t, t] t #[.slice A n c, .slice (some ⟨n0, 0, none⟩) 1 1]).run P (w.alloc (.cells xs.toArray e)) = .ok (.slice (some ⟨g', 0, none⟩) (n + 1) c') w' ∧ Rg e sz w' g' c' (cs ++ xs) ∧ Kp (fun j => A = some ⟨j, 0, none⟩) w w' ∧ (S g' ∨ n0 < g') := by
  obtain ⟨g', c', w', r1, r2, r3, r4⟩ := app_one (P := P) ht hi hz hsize hby hzs hsz hb100 h.self hn xs hl2 h1 hb n0 hn0
  refine ⟨g', c', w', r1, r2, r3, ?_⟩
  rcases r4 with q | q
  · exact .inl (h.at q)
  · exact .inr q
theorem keeps_kp {S : Nat → Prop} {W W' : World} (B : Nat) (h : Kp S W W') (hS : ∀ j o, S j → W.heap[j]? = some o → o.isCells = true) : KeepsFrom B W W' :=
  ⟨h.size, fun k o _ hk ho => (h.block k (lt_of_block hk) (fun s => by rw [hS k o s hk] at ho; cases ho)).trans hk⟩
theorem keeps_below {W W' : World} (B : Nat) (h : Below W.heap.size W W') : KeepsFrom B W W' := ⟨h.size, fun k _ _ hk _ => (h.block k (lt_of_block hk)).trans hk⟩
theorem own_boxed {B b : Nat} {t : TypeId} {v : Value} {W W' : World} {row : Option Nat} (h : Boxed W b t v) (hg : W.grownBy W' row) (hr : ∀ r, row = some r → B ≤ r ∧ ∃ o : Obj, W.heap[r]? = some o ∧ o.isCells = false) : Boxed W' b t v :=
  h.kept hg (fun e => by
    obtain ⟨_, o, ho, hc⟩ := hr b e.symm
    rw [show W.heap[b]? = _ from h] at ho
    cases ho
    cases hc)
theorem own_ob {B : Nat} {e : TypeId} {sz : Nat} {S : Nat → Prop} {A : Option Addr} {c : Nat} {cs : List Value} {W W' : World} {row : Option Nat} (h : Ob e sz S W A c cs) (hg : W.grownBy W' row) (hr : ∀ r, row = some r → B ≤ r ∧ ∃ o : Obj, W.heap[r]? = some o ∧ o.isCells = false) : Ob e sz S W' A c cs := by
  rcases h with h | ⟨g, h1, h2, h3⟩
  · exact .inl h
  · refine .inr ⟨g, h1, h2, h3.keep (hg.block g h3.lt (fun e => ?_))⟩
    obtain ⟨_, o, ho, hc⟩ := hr g e.symm
    obtain ⟨cur, hq, _⟩ := h3
    rw [hq] at ho
    cases ho
    cases hc
set_option maxRecDepth 100000 in
set_option maxHeartbeats 8000000 in
theorem takeheads_any (a b : Int) (A : Option Addr) (n c : Nat) (l : List Int) (w : World) (hn : l.length = n) (hb : Bt w A l) (hy : Byt l) (hc : n ≤ c) (hl : n ≤ 5000) :
    Calls Try.prog 40 #[.slice A n c, .int .i64 a, .int .i64 b] w fun e w' => ∃ A' c', e = .returned (.tuple #[.slice A' (thL l a b).length c', .int .i64 (thE l a b)]) ∧ hRr w' A' (thL l a b) ∧ Below w.heap.size w w' := by
  obtain ⟨W1, hW1⟩ : ∃ V, (w.alloc (.cells #[Value.slice none 0 0] 23)).alloc (.cells #[Value.int .i64 0] 28) = V := ⟨_, rfl⟩
  have bW1 : Below w.heap.size w W1 := by rw [← hW1]; exact (below_alloc1 _ _).trans ((below_alloc1 _ _).mono (by simp))
  have sW1 : W1.heap.size = w.heap.size + 2 := by rw [← hW1]; simp
  have KZ1 : Hid (Boxed W1 w.heap.size 23 (Value.slice none 0 0)) := Lib.hid (by rw [← hW1]; exact (Boxed.new _ _ _).alloc _)
  have KZ2 : Hid (Boxed W1 (w.heap.size + 1) 28 (Value.int .i64 0)) := Lib.hid (by rw [← hW1]; have := Boxed.new (w.alloc (.cells #[Value.slice none 0 0] 23)) 28 (Value.int .i64 0); rwa [World.size_alloc] at this)
  have HB := Lib.hid bW1
  by_cases hm : n % 20 = 0
  case neg =>
    obtain ⟨e1, e2⟩ := thE_short (a := a) (b := b) (show l.length % 20 ≠ 0 by omega)
    rw [e1, e2]
    have d : (((n : Int) % 20) == 0) = false := by simp; omega
    have d2 : (((n : Int) % 20) != 0) = true := by simp [bne, d]
    have z1 := KZ1.out
    have z2 := KZ2.out
    have c1 := z1.cell
    have c2 := z2.cell
    have f1 := z1.frozen
    have f2 := z2.frozen
    have SS := Lib.hid <| set11 z1 z2 (.slice none 0 0) (.int .i64 2)
    have TF := Lib.hid <| below_st11 HB.out (Nat.le_refl _) (.slice none 0 0) (.int .i64 2)
    clear z1 z2 KZ1 KZ2 e1 e2 hb hy bW1 hm
    go_enter Try.func40, Try.ntmps40
    go_wp2
    have r1 := SS.out.1.cell
    have r2 := SS.out.2.cell
    refine bodyPost_ret (v := .tuple #[.slice none 0 0, .int .i64 2]) (by simp [results, Try.results40, go_sem, r1, r2]) rfl ⟨none, 0, rfl, Rd.nil _, TF.out⟩
  obtain ⟨m, hmm⟩ : ∃ m, n / 20 = m := ⟨_, rfl⟩
  have hnm : n = m * 20 := by omega
  have d : (((n : Int) % 20) == 0) = true := by simp; omega
  have d2 : (((n : Int) % 20) != 0) = false := by simp [bne, d]
  have hdv : (n : Int) / 20 = (m : Int) := by omega
  have hdt : (n : Int).tdiv 20 = (m : Int) := by rw [Int.tdiv_eq_ediv_of_nonneg (by omega)]; exact hdv
  obtain ⟨E, hE⟩ : ∃ E, thE l a b = E := ⟨_, rfl⟩
  obtain ⟨P, hP⟩ : ∃ P, thL l a b = P := ⟨_, rfl⟩
  have HNo : Hid ((win (m : Int) a b && mays (rdHs l m)) = false → E = 3 ∧ P = []) := Lib.hid (fun h => by rw [← hE, ← hP]; exact thE_no (by omega) (by rw [hn, hmm]; exact h))
  have HYes : Hid (win (m : Int) a b = true → mays (rdHs l m) = true → E = 0 ∧ P = rdHs l m) := Lib.hid (fun h h2 => by
    rw [← hE, ← hP]
    have := thE_yes (l := l) (a := a) (b := b) (by omega) (by rw [hn, hmm]; exact h) (by rw [hn, hmm]; exact h2)
    rwa [hn, hmm] at this)
  rw [hE, hP]
  clear hE hP
  obtain ⟨q, hq⟩ : ∃ q, win (m : Int) a b = q := ⟨_, rfl⟩
  cases q with
  | false =>
    obtain ⟨e1, e2⟩ := HNo.out (by rw [hq]; rfl)
    subst e1 e2
    have z1 := KZ1.out
    have z2 := KZ2.out
    have c1 := z1.cell
    have c2 := z2.cell
    have f1 := z1.frozen
    have f2 := z2.frozen
    have SS := Lib.hid <| set11 z1 z2 (.slice none 0 0) (.int .i64 3)
    have TF := Lib.hid <| below_st11 HB.out (Nat.le_refl _) (.slice none 0 0) (.int .i64 3)
    clear z1 z2 KZ1 KZ2 HNo HYes hb hy bW1 hm hnm hmm
    go_enter Try.func40, Try.ntmps40
    go_wp2_with fail
    refine (dwithin_any _ _ _ _).mono ?_
    rintro e _ ⟨rfl, rfl⟩
    rw [hq]
    go_wp2
    have r1 := SS.out.1.cell
    have r2 := SS.out.2.cell
    refine bodyPost_ret (v := .tuple #[.slice none 0 0, .int .i64 3]) (by simp [results, Try.results40, go_sem, r1, r2]) rfl ⟨none, 0, rfl, Rd.nil _, TF.out⟩
  | true =>
    have HQ := Lib.hid hq
    have HNM := Lib.hid hnm
    have HY := Lib.hid hy
    have HLN := Lib.hid hn
    have hlq := hb
    clear hq hnm hmm hy hn hm
    refine (callsIn_wide (n := 4)).1 ?_
    refine callsIn_of_wp_marks Try.func40 rfl trivial ?_ rfl
    simp only [Try.ntmps40, List.size_toArray, List.length_cons, List.length_nil, Nat.reduceAdd, Nat.reduceSub, Array.replicate_succ, Array.replicate_zero, List.push_toArray, List.append_toArray, List.nil_append, List.cons_append]
    gi_wp2_with fail
    refine ⟨trivial, (callsIn_wide.2 (dwithin_any _ _ _ _)).mono ?_⟩
    rintro e _ ⟨rfl, rfl⟩
    rw [HQ.out]
    obtain ⟨W2, hW2⟩ : ∃ V, W1.alloc (.cells #[Value.slice none 0 0] 23) = V := ⟨_, rfl⟩
    have bW2 : Below W1.heap.size W1 W2 := by rw [← hW2]; exact below_alloc1 _ _
    have sW2 : W2.heap.size = w.heap.size + 3 := by rw [← hW2]; simp [sW1]
    gi_wp2_with fail
    refine ⟨trivial, (callsIn_wide.2 (chb_any A n c 20 (by omega) _)).mono ?_⟩
    rintro e W4 ⟨rfl, hW4⟩
    rw [sW2]
    gi_wp2_with fail
    replace hW4 : W4 = (W2.alloc (.cells #[.slice A n c] 26)).alloc (.cells #[.int .i64 20] 3) := hW4
    rw [← hW4]
    obtain ⟨bb, off, hA⟩ : ∃ bb off, m ≠ 0 → A = some ⟨bb, off, none⟩ := by
      by_cases h0 : m = 0
      · exact ⟨0, 0, fun h => absurd h0 h⟩
      · obtain ⟨bb, off, h, _⟩ := hlq (by rintro rfl; have q1 := HLN.out; have q2 := HNM.out; simp only [List.length_nil] at q1; omega)
        exact ⟨bb, off, fun _ => h⟩
    have sW4 : W4.heap.size = w.heap.size + 5 := by rw [hW4, World.size_alloc, World.size_alloc, sW2]
    have b24 : Below W2.heap.size W2 W4 := by rw [hW4]; exact (below_alloc1 _ _).trans ((below_alloc1 _ _).mono (by simp))
    have b14 : Below W1.heap.size W1 W4 := bW2.trans (b24.mono bW2.size)
    have B4 : Below w.heap.size w W4 := HB.out.trans (b14.mono HB.out.size)
    have y1 : Boxed W4 w.heap.size 23 (Value.slice none 0 0) := (b14.block _ (by omega)).trans KZ1.out
    have y2 : Boxed W4 (w.heap.size + 1) 28 (Value.int .i64 0) := (b14.block _ (by omega)).trans KZ2.out
    have y3 : Boxed W4 (w.heap.size + 2) 23 (Value.slice none 0 0) := (b24.block _ (by omega)).trans (by have := Boxed.new W1 23 (Value.slice none 0 0); rwa [hW2, sW1] at this)
    have y4 : Boxed W4 (w.heap.size + 3) 26 (.slice A n c) := by rw [hW4]; have := (Boxed.new W2 26 (.slice A n c)).alloc (.cells #[.int .i64 20] 3); rw [sW2] at this; exact this
    have y5 : Boxed W4 (w.heap.size + 4) 3 (.int .i64 20) := by rw [hW4]; have := Boxed.new (W2.alloc (.cells #[.slice A n c] 26)) 3 (.int .i64 20); rw [World.size_alloc, sW2] at this; exact this
    have c4 := y4.cell
    have c5 := y5.cell
    refine wpIn_rangeFunc_ownG rfl (by omega) (gf := 79) (lb := #[.pointer (some ⟨w.heap.size + 3, 0, none⟩), .pointer (some ⟨w.heap.size + 3 + 1, 0, none⟩)]) rfl trivial (enters_of Try.func79 (by kernel_rfl) rfl)
      (chb_stops Fence.wide _ trivial rfl (by omega) (w.heap.size + 3) (w.heap.size + 4) A bb off n c 20 m (by omega) (by omega) HNM.out (by omega) hc W4 (by omega) (by omega) c4 c5 hA) (fun h k => h.trans k) (Keep2.put (by omega) (by omega)) (Below.refl _ _) (fun _ => rfl)
      (fun pre W => ∃ A' c', Boxed W (w.heap.size + 2) 23 (.slice A' pre.length c') ∧ Ob 85 8 (w.heap.size + 5 ≤ ·) W A' c' (hflat (pre.map fun x => rdf (sub l (x.val * 20) 20))) ∧ Boxed W w.heap.size 23 (Value.slice none 0 0) ∧ Boxed W (w.heap.size + 1) 28 (Value.int .i64 0) ∧ (∀ x ∈ pre, mayd (rdf (sub l (x.val * 20) 20)) = true) ∧ Below w.heap.size w W ∧ W4.heap.size ≤ W.heap.size)
      (fun cc _ W => cc = .ret ∧ Boxed W w.heap.size 23 (Value.slice none 0 0) ∧ Boxed W (w.heap.size + 1) 28 (Value.int .i64 3) ∧ (∃ x : Fin m, mayd (rdf (sub l (x.val * 20) 20)) = false) ∧ Below w.heap.size w W ∧ W4.heap.size ≤ W.heap.size)
      (by
        rintro pre V V' row ⟨A', c', h1, h2, h3, h4, h5, h6, h7⟩ hg hr
        exact ⟨A', c', own_boxed h1 hg hr, own_ob h2 hg hr, own_boxed h3 hg hr, own_boxed h4 hg hr, h5, ownFrom_below (β := Unit) (Nat.le_refl _) (show w.heap.size ≤ W4.heap.size by omega) () V V' row h6 hg hr, Nat.le_trans h7 hg.size⟩)
      (by
        rintro cc pre V V' row ⟨h1, h3, h4, h5, h6, h7⟩ hg hr
        exact ⟨h1, own_boxed h3 hg hr, own_boxed h4 hg hr, h5, ownFrom_below (β := Unit) (Nat.le_refl _) (show w.heap.size ≤ W4.heap.size by omega) () V V' row h6 hg hr, Nat.le_trans h7 hg.size⟩)
      ⟨none, 0, y3, .inl ⟨rfl, rfl, rfl⟩, y1, y2, by simp, B4, Nat.le_refl _⟩
      (fun x => { tmps := #[.slice A n c, .int .i64 a, .int .i64 b, undef, undef, undef, .pointer (some ⟨w.heap.size, 0, none⟩), .pointer (some ⟨w.heap.size + 1, 0, none⟩), .pointer (some ⟨w.heap.size + 2, 0, none⟩), .slice (some ⟨bb, off + x.val * 20, none⟩) 20 20, undef, undef, undef, .slice A n c, .int .i64 n, .int .i64 ((n : Int) % 20), .bool false, .slice A n c, .int .i64 n, .int .i64 m, .int .i64 a, .int .i64 b, .bool true, .bool false, .slice A n c, .func (.func 79) #[] #[.pointer (some ⟨w.heap.size + 3, 0, none⟩), .pointer (some ⟨w.heap.size + 3 + 1, 0, none⟩)], .slice (some ⟨bb, off + x.val * 20, none⟩) 20 20, undef, undef, undef, undef, undef, undef, undef, undef, undef, undef, undef, undef, undef, undef], defers := [] }) ?assign ?body ?done ?stop
    case assign =>
      intro lp x V K hK
      gi_wp2
      exact hK
    case body =>
      rintro lp pre x V ⟨A', c', h1, h2, h3, h4, h5, h6, hVW⟩ hpl
      obtain rfl := hA (by have := x.2; omega)
      have hxl : x.val * 20 + 20 ≤ l.length := by
        have := Nat.mul_le_mul_right 20 (show x.val + 1 ≤ m from x.2)
        have := HLN.out
        have := HNM.out
        omega
      obtain ⟨Fb, hFb⟩ : ∃ Fb, sub l (x.val * 20) 20 = Fb := ⟨_, rfl⟩
      have fl : Fb.length = 20 := by rw [← hFb]; exact sub_len hxl
      have fy : Byt Fb := by rw [← hFb]; exact sub_byt HY.out _ _
      have qF : Bt V (some ⟨bb, off + x.val * 20, none⟩) Fb := by rw [← hFb]; exact (Bs.step hlq h6).sub _ _
      have ft : Fb.take 20 = Fb := List.take_of_length_le (by omega)
      have CR := readhead_any (some ⟨bb, off + x.val * 20, none⟩) 20 20 Fb V fl qF fy (Nat.le_refl _) (by decide)
      have HFB := Lib.hid hFb
      have hpl2 : pre.length ≤ 250 := by have := HNM.out; omega
      clear hFb qF fy hxl c4 c5 hW2 hW4
      have d1 : Below w.heap.size w W4 := B4
      by_cases hm : mayd (rdf Fb) = true
      case neg =>
        have e4 : rdE Fb = 3 := by rw [rdE, if_neg (by omega), ft, if_neg hm]
        have e5 : rdp Fb = zhd := by rw [rdp, e4]; rfl
        have e6 : rdr Fb = [] := by rw [rdr, e4]; rfl
        rw [e4, e5, e6] at CR
        have CR2 : Calls Try.prog 63 #[.slice (some ⟨bb, off + x.val * 20, none⟩) 20 20] V fun e w' => ∃ A' c', e = .returned (.tuple #[.agg #[.int .i64 0, .int .i64 0, .int .i64 0, .int .u32 0, .int .u32 0, .int .u32 0, .int .i64 0, .int .i64 0], .slice A' 0 c', .int .i64 3]) ∧ Own .u8 5 w' V.heap.size A' c' [] ∧ Below V.heap.size V w' := CR
        clear e4 e5 e6 CR
        gi_wp2_with fail
        refine ⟨trivial, (CallsIn.inRound lp (callsIn_wide.2 CR2)).mono ?_⟩
        rintro e Z1 ⟨A1, c1, rfl, -, u1⟩
        obtain ⟨Z2, hZ2⟩ : ∃ V', Z1.alloc (.cells #[Value.int .i64 0, .int .i64 0, .int .i64 0, .int .u32 0, .int .u32 0, .int .u32 0, .int .i64 0, .int .i64 0] 85) = V' := ⟨_, rfl⟩
        have u2 : Below Z1.heap.size Z1 Z2 := by rw [← hZ2]; exact below_alloc1 _ _
        have t2 : Below V.heap.size V Z2 := u1.trans (u2.mono u1.size)
        have g3 : Boxed Z2 w.heap.size 23 (Value.slice none 0 0) := (t2.block _ h3.lt).trans h3
        have g4 : Boxed Z2 (w.heap.size + 1) 28 (Value.int .i64 0) := (t2.block _ h4.lt).trans h4
        have a1 := g3.cell
        have a2 := g4.cell
        have f1 := g3.frozen
        have f2 := g4.frozen
        have SS := Lib.hid <| set11 g3 g4 (.slice none 0 0) (.int .i64 3)
        have TF := Lib.hid <| below_st11 (h6.trans (t2.mono h6.size)) (Nat.le_refl _) (.slice none 0 0) (.int .i64 3)
        have KF := Lib.hid <| (keeps_below W4.heap.size t2).trans (((KeepsOthers.setCell Z2 ⟨w.heap.size, 0, none⟩ (.slice none 0 0)).trans (KeepsOthers.setCell _ ⟨w.heap.size + 1, 0, none⟩ (.int .i64 3))).from _)
        have SZ : Hid (W4.heap.size ≤ (st11 Z2 w.heap.size (.slice none 0 0) (.int .i64 3)).heap.size) := Lib.hid (Nat.le_trans hVW KF.out.size)
        clear g3 g4 t2 u2 u1
        subst hZ2
        gi_wp2
        exact ⟨KF.out, rfl, SS.out.1, SS.out.2, ⟨x, by rw [HFB.out]; simpa using hm⟩, TF.out, SZ.out⟩
      have e4 : rdE Fb = 0 := by rw [rdE, if_neg (by omega), ft, if_pos hm]
      have e5 : rdp Fb = rdf Fb := by rw [rdp, if_pos e4, ft]
      rw [e4, e5] at CR
      clear e4 e5 ft
      obtain ⟨y, hy⟩ : ∃ y, rdf Fb = y := ⟨_, rfl⟩
      have HYY := Lib.hid hy
      rw [hy] at CR hm
      have HM := Lib.hid hm
      clear hy hm
      obtain ⟨i0, hi0, hz0, hz1, hz2⟩ := info_of infoH
      gi_wp2_with fail
      refine ⟨trivial, (CallsIn.inRound lp (callsIn_wide.2 CR)).mono ?_⟩
      rintro e Z1 ⟨A1, c1, rfl, -, u1⟩
      obtain ⟨Z2, hZ2⟩ : ∃ V', Z1.alloc (.cells #[Value.int .i64 y.a, .int .i64 y.o, .int .i64 y.t, .int .u32 y.i, .int .u32 y.v, .int .u32 y.q, .int .i64 y.s, .int .i64 y.n] 85) = V' := ⟨_, rfl⟩
      have u2 : Below Z1.heap.size Z1 Z2 := by rw [← hZ2]; exact below_alloc1 _ _
      obtain ⟨y0, y1, y2, y3, y4, y5, y6, y7⟩ := kb8_new hZ2 (Below.refl _ _)
      have t2 : Below V.heap.size V Z2 := u1.trans (u2.mono u1.size)
      have g1 : Boxed Z2 (w.heap.size + 2) 23 (.slice A' pre.length c') := (t2.block _ h1.lt).trans h1
      have ob2 := Ob.below h2 t2
      have a1 := g1.cell
      have q1 := h1.lt
      obtain ⟨k2, hk2⟩ : ∃ k, Z2.heap.size = k := ⟨_, rfl⟩
      obtain ⟨g9, c9, Z9, r9, rg9, kp9, hg9⟩ := app_oneA (P := Try.prog) (S := (w.heap.size + 5 ≤ ·)) Try.underlying23 hi0 hz0 hz1 hz2 rfl (by decide) (by decide) ob2 (n := pre.length) (by rw [hflat_length, List.length_map]) (hcs y) rfl (hcs_one y) (by omega) k2 hk2
      rw [show (hcs y).toArray = #[Value.int .i64 y.a, .int .i64 y.o, .int .i64 y.t, .int .u32 y.i, .int .u32 y.v, .int .u32 y.q, .int .i64 y.s, .int .i64 y.n] from rfl] at r9
      have hna : ¬ (A' = some ⟨w.heap.size + 2, 0, none⟩) := fun hj => by have := ob2.at hj; omega
      have gb : Boxed Z9 (w.heap.size + 2) 23 (.slice A' pre.length c') := (kp9.block _ g1.lt hna).trans g1
      have b1 := gb.cell
      have f1 := gb.frozen
      have hg9' : w.heap.size + 5 ≤ g9 := by
        rcases hg9 with q | q
        · exact q
        · have := h4.lt; have := t2.size; have := h6.size; have := sW4; have q2 := u1.size; have q3 := u2.size; have q4 : W4.heap.size ≤ V.heap.size := hVW; omega
      obtain ⟨vv, hvv⟩ : ∃ v : Value, .slice (some ⟨g9, 0, none⟩) (pre.length + 1) c9 = v := ⟨_, rfl⟩
      have HF : Hid (∃ A' c', Boxed (Z9.setCell ⟨w.heap.size + 2, 0, none⟩ (.slice (some ⟨g9, 0, none⟩) (pre.length + 1) c9)) (w.heap.size + 2) 23 (.slice A' (pre ++ [x]).length c') ∧ Ob 85 8 (w.heap.size + 5 ≤ ·) (Z9.setCell ⟨w.heap.size + 2, 0, none⟩ (.slice (some ⟨g9, 0, none⟩) (pre.length + 1) c9)) A' c' (hflat ((pre ++ [x]).map fun x => rdf (sub l (x.val * 20) 20)))) := Lib.hid (by
        refine ⟨some ⟨g9, 0, none⟩, c9, ?_, .inr ⟨g9, hg9', rfl, ?_⟩⟩
        · have := gb.set (.slice (some ⟨g9, 0, none⟩) (pre.length + 1) c9)
          simpa using this
        · have e : hflat ((pre ++ [x]).map fun x => rdf (sub l (x.val * 20) 20)) = hflat (pre.map fun x => rdf (sub l (x.val * 20) 20)) ++ hcs y := by
            rw [List.map_append, List.map_cons, List.map_nil, hflat_snoc, HFB.out, HYY.out]
          rw [e]
          exact rg9.keep (Below.heap_setCell _ _ _ _ (fun e => by simp at e; omega)))
      have KK : Hid (Kp (fun j => A' = some ⟨j, 0, none⟩) V Z9) := Lib.hid ((Kp.of_below t2 (Nat.le_refl _)).trans kp9 (fun _ h => .inl h))
      have KF := Lib.hid <| ((keeps_kp W4.heap.size KK.out (fun j o hj ho => h2.cells hj ho)).trans ((KeepsOthers.setCell Z9 ⟨w.heap.size + 2, 0, none⟩ (.slice (some ⟨g9, 0, none⟩) (pre.length + 1) c9)).from _))
      have K2 : Hid (Keep2 (w.heap.size + 3) (w.heap.size + 4) V (Z9.setCell ⟨w.heap.size + 2, 0, none⟩ (.slice (some ⟨g9, 0, none⟩) (pre.length + 1) c9))) := Lib.hid ⟨
        (Below.heap_setCell _ _ _ _ (by simp)).trans (KK.out.block _ (by have := hVW; omega) (fun hj => by have := h2.at hj; omega)),
        (Below.heap_setCell _ _ _ _ (by simp)).trans (KK.out.block _ (by have := hVW; omega) (fun hj => by have := h2.at hj; omega))⟩
      have R1 : Hid (Boxed (Z9.setCell ⟨w.heap.size + 2, 0, none⟩ (.slice (some ⟨g9, 0, none⟩) (pre.length + 1) c9)) w.heap.size 23 (Value.slice none 0 0)) := Lib.hid
        ((Below.heap_setCell _ _ _ _ (by simp)).trans ((KK.out.block _ h3.lt (fun hj => by have := h2.at hj; omega)).trans h3))
      have R2 : Hid (Boxed (Z9.setCell ⟨w.heap.size + 2, 0, none⟩ (.slice (some ⟨g9, 0, none⟩) (pre.length + 1) c9)) (w.heap.size + 1) 28 (Value.int .i64 0)) := Lib.hid
        ((Below.heap_setCell _ _ _ _ (by simp)).trans ((KK.out.block _ h4.lt (fun hj => by have := h2.at hj; omega)).trans h4))
      have TF : Hid (Below w.heap.size w (Z9.setCell ⟨w.heap.size + 2, 0, none⟩ (.slice (some ⟨g9, 0, none⟩) (pre.length + 1) c9))) := Lib.hid
        ((h6.trans (KK.out.below (fun j hj => by have := h2.at hj; omega) h6.size)).setCell (p := ⟨w.heap.size + 2, 0, none⟩) (by show w.heap.size ≤ w.heap.size + 2; omega) _)
      clear rg9 kp9 gb ob2 g1 t2 u2 u1 hvv vv
      gi_wp2_with (gi_at_builtin; refine wpListIn_runb _ rfl (.tmp 36) (.tmp 38) 23 rfl rfl rfl r9 ?_)
      obtain ⟨A3, c3, hb3, ho3⟩ := HF.out
      exact ⟨KF.out, K2.out, A3, c3, hb3, ho3, R1.out, R2.out, fun z hz => by
        rcases List.mem_append.1 hz with q | q
        · exact h5 z q
        · obtain rfl := List.mem_singleton.1 q
          rw [HFB.out, HYY.out]
          exact HM.out, TF.out, Nat.le_trans hVW KF.out.size⟩
    case done =>
      rintro D ys V hD hys ⟨A', c', h1, h2, h3, h4, h5, h6, hVW⟩ hK
      have hyl : ys.length = m := by have := congrArg List.length hys; simpa using this
      have hmp : (ys.map fun x => rdf (sub l (x.val * 20) 20)) = rdHs l m := by
        rw [rdHs, ← hys, List.map_map]
        rfl
      rw [hmp] at h2
      rw [hyl] at h1
      obtain ⟨eE, eP⟩ := HYes.out HQ.out ((mays_iff _).2 (fun z hz => by
        rw [← hmp] at hz
        obtain ⟨x, hx, rfl⟩ := List.mem_map.1 hz
        exact h5 x hx))
      have HEE := Lib.hid eE
      have HEP := Lib.hid eP
      clear eE eP
      have a1 := h1.cell
      have a3 := h3.cell
      have a4 := h4.cell
      have f3 := h3.frozen
      have f4 := h4.frozen
      have SS := Lib.hid <| set11 h3 h4 (.slice A' m c') (.int .i64 0)
      have TF := Lib.hid <| below_st11 h6 (Nat.le_refl _) (.slice A' m c') (.int .i64 0)
      have hK' := Lib.hid <| ((KeepsOthers.setCell V ⟨w.heap.size, 0, none⟩ (.slice A' m c')).trans (KeepsOthers.setCell _ ⟨w.heap.size + 1, 0, none⟩ (.int .i64 0))).same D _ hK rfl
      have HR := Lib.hid (Ob.keep h2 (w' := st11 V w.heap.size (.slice A' m c') (.int .i64 0)) (fun j hj _ => far_st11 (by omega) (by omega) _ _))
      gi_wp2
      refine ⟨by simp, .inl ⟨_, _, rfl, run_takeDeferred hK'.out, ?_⟩⟩
      rw [HEE.out, HEP.out, rdHs_length]
      have hD2 : w.heap.size + 5 ≤ D := by omega
      have r1 := (SS.out.1.kept (grownBy_putObj' _ D (.deferred none)) (by simp; omega)).cell
      have r2 := (SS.out.2.kept (grownBy_putObj' _ D (.deferred none)) (by simp; omega)).cell
      refine ⟨.tuple #[.slice A' m c', .int .i64 0], by simp [results, Try.results40, go_sem, r1, r2], A', c', rfl, ?_, ?_⟩
      · exact Ob.rd (own_ob (B := 0) HR.out (grownBy_putObj' _ D (.deferred none)) (fun r e => ⟨Nat.zero_le _, by cases e; exact ⟨_, hK'.out, rfl⟩⟩))
      · exact TF.out.trans (belowK_b (w := w) (Nat.le_refl _) _ D _ _ (by omega) hK'.out rfl rfl)
    case stop =>
      rintro D cc pre V hD _ ⟨rfl, h3, h4, ⟨x, hx⟩, h6, hVW⟩ hK
      obtain ⟨e1, e2⟩ := HNo.out (by
        rw [mays_no (x := rdf (sub l (x.val * 20) 20)) (by simp only [rdHs, List.mem_map, List.mem_range]; exact ⟨x.val, x.2, rfl⟩) hx]
        simp)
      have HEE := Lib.hid e1
      have HEP := Lib.hid e2
      have HK := Lib.hid hK
      clear e1 e2 hK
      gi_wp2
      refine ⟨by simp, .inl ⟨_, _, rfl, run_takeDeferred HK.out, ?_⟩⟩
      rw [HEE.out, HEP.out]
      have hD2 : w.heap.size + 5 ≤ D := by omega
      have r1 := (h3.kept (grownBy_putObj' _ D (.deferred none)) (by simp; omega)).cell
      have r2 := (h4.kept (grownBy_putObj' _ D (.deferred none)) (by simp; omega)).cell
      refine ⟨.tuple #[.slice none 0 0, .int .i64 3], by simp [results, Try.results40, go_sem, r1, r2], none, 0, rfl, Rd.nil _, ?_⟩
      exact h6.trans (belowK_b (w := w) (Nat.le_refl _) _ D _ _ (by omega) HK.out rfl rfl)
end Go.Proofs.Ytefbpaebimagaaa
