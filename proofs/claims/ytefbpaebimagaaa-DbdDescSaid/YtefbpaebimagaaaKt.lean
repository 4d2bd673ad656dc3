/-
  The contract of dbd.TakeAsk. No statement is proved here; no conditions.
-/
import Derived.RangeFuncBox
import Derived.RangeFuncCalls
import Derived.RangeFuncLeaves
import Derived.RangeFuncBound
import Derived.Shelf.Abstract
import Derived.Shelf.RegionOpen
import Derived.WalkKit
import Derived.OwnWalkIn
import Derived.TacticsInMore
import Derived.LoopNIn
import Derived.LoopIn
import Derived.Test.YtefbpaebimagaaaCv
import Derived.Test.YtefbpaebimagaaaTh
import Derived.Test.YtefbpaebimagaaaKa
namespace Go.Proofs.Ytefbpaebimagaaa
open Go.RowKit Go.Joins

attribute [local go_sem] Oper.semAt_some

def ky (l : List Int) (k : Nat) : Ky := ⟨num (sub l (k * 12) 4), num (sub l (k * 12 + 4) 4), num (sub l (k * 12 + 8) 4)⟩
/-- The keys that bytes say, twelve bytes each. -/
def rdK (l : List Int) (m : Nat) : List Ky := (List.range m).map (ky l)
theorem rdK_length (l : List Int) (m : Nat) : (rdK l m).length = m := by simp [rdK]
theorem rdK_succ (l : List Int) (m : Nat) : rdK l (m + 1) = rdK l m ++ [ky l m] := by simp [rdK, List.range_succ]
def taE (l : List Int) : Int := if l.length % 12 ≠ 0 then 2 else if (decide (l.length ≤ 1200) && mayq (rdK l (l.length / 12))) = true then 0 else 3
def taL (l : List Int) : List Ky := if taE l = 0 then rdK l (l.length / 12) else []
theorem taE_short {l : List Int} (h : l.length % 12 ≠ 0) : taE l = 2 ∧ taL l = [] := by
  have e : taE l = 2 := by rw [taE, if_pos h]
  exact ⟨e, by rw [taL, e]; rfl⟩
theorem taE_no {l : List Int} (h : l.length % 12 = 0) (h2 : ¬ l.length ≤ 1200 ∨ mayq (rdK l (l.length / 12)) = false) : taE l = 3 ∧ taL l = [] := by
  have e : taE l = 3 := by
    rw [taE, if_neg (by omega), if_neg]
    rcases h2 with h2 | h2
    · rw [decide_eq_false h2]; simp
    · rw [h2]; simp
  exact ⟨e, by rw [taL, e]; rfl⟩
theorem taE_yes {l : List Int} (h : l.length % 12 = 0) (h1 : l.length ≤ 1200) (h2 : mayq (rdK l (l.length / 12)) = true) : taE l = 0 ∧ taL l = rdK l (l.length / 12) := by
  have e : taE l = 0 := by rw [taE, if_neg (by omega), h2, decide_eq_true h1]; rfl
  exact ⟨e, by rw [taL, if_pos e]⟩
theorem ky_ok {l : List Int} (hy : Byt l) {k : Nat} (h : k * 12 + 12 ≤ l.length) : (0 ≤ (ky l k).t ∧ (ky l k).t < 4294967296) ∧ Okk (ky l k) :=
  ⟨num_four (sub_byt hy _ _) (sub_len (by omega)), num_four (sub_byt hy _ _) (sub_len (by omega)), num_four (sub_byt hy _ _) (sub_len (by omega))⟩
theorem nums_getD (k q : Nat) (l : List Int) (i : Nat) (hi : i < q) : (nums k q l).getD i 0 = num (sub l (i * k) k) := by
  induction q with
  | zero => omega
  | succ q ih =>
    rw [nums]
    rcases Nat.lt_or_ge i q with h | h
    · simp only [List.getD]
      rw [List.getElem?_append_left (by rw [nums_length]; exact h)]
      exact ih h
    · obtain rfl : i = q := by omega
      simp only [List.getD]
      rw [List.getElem?_append_right (by rw [nums_length]; exact Nat.le_refl _), nums_length]
      simp [sub]
theorem infoK : (Try.prog.info? 76).map (fun i => (i.zero, i.size, i.bytes)) = some (some (.agg #[.int .i64 0, .int .u32 0, .int .u32 0]), 3, 16) := by kernel_rfl
/-- An end without a way out of memory. -/
def strictQ (Q : Exit → Act → World → Prop) (e : Exit) (a : Act) (w : World) : Prop := e ≠ .outgrown ∧ Q e a w
section
variable {n lp : Nat} {P : Program} {o : Oper} {a : Act} {K : Act → World → Prop} {Q : Exit → Act → World → Prop} {ops : Array Oper} {md : Region.Mode}
theorem strictQ_out (h : LetsOut (strictQ Q)) : False := by
  obtain ⟨a, w, h, _⟩ := h
  exact h rfl
theorem upon_in {r : Result Next} (h : o.upon P a K Q r) : o.uponIn (Fence.wide.inRound lp) n P a K Q r := by
  cases r with
  | ok x w' =>
    cases x <;> first
      | exact h
      | exact h.elim
      | exact ⟨fun q => by simp [Fence.wide] at q, CallsIn.inRound lp (callsIn_wide.2 h)⟩
      | exact ⟨fun q => by simp [Fence.wide] at q, fun c cs _ => let ⟨v, w', r, s⟩ := h c cs; ⟨v, w', r, stepsIn_wide.2 s⟩⟩
  | halt x w' => cases x <;> first | exact h | exact h.elim
theorem wp_in {w : World} (hd : ∀ c, o.op ≠ .defer c) (h : o.wp P a w K Q) : o.wpIn (Fence.wide.inRound lp) n P a w K Q :=
  ⟨fun _ _ => trivial, by rw [Oper.semAt_plain _ _ _ hd]; exact upon_in h⟩
def plainOp (o : Oper) : Bool := match o.op with | .defer _ => false | _ => true
theorem plainOp_ne (h : plainOp o = true) : ∀ c, o.op ≠ .defer c := fun c e => by unfold plainOp at h; rw [e] at h; cases h
theorem wpOp_in {w : World} {i : Nat} (hd : ops.all plainOp = true) (h : wpOp P ops (strictQ Q) i K a w) : wpOpIn (Fence.wide.inRound lp) n P ops (strictQ Q) i K a w := by
  unfold wpOp at h
  unfold wpOpIn
  split
  · rename_i q
    rw [q] at h
    exact h
  · rename_i o q
    rw [q] at h
    have hp : plainOp o = true := by
      have hm : o ∈ ops := Array.mem_of_getElem? q
      exact (Array.all_eq_true_iff_forall_mem.1 hd) o hm
    simp only at h
    split
    · rename_i z
      rw [if_pos z] at h
      rcases h with h | h
      · exact wp_in (plainOp_ne hp) h
      · exact (strictQ_out h.2).elim
    · rename_i z
      rw [if_neg z] at h
      exact ⟨fun _ _ => trivial, h⟩
theorem wpAny_in (hd : ops.all plainOp = true) : ∀ (fuel : Nat) (listed : Array Bool) (a : Act) (w : World), wpAny P md ops (strictQ Q) fuel listed a w → wpAnyIn (Fence.wide.inRound lp) n P md ops (strictQ Q) fuel listed a w
  | 0, _, _, _, h => h
  | fuel + 1, _, _, _, h => ⟨h.1, fun i hi => wpOpIn_mono (fun a' w' h' => wpAny_in hd fuel _ a' w' h') (wpOp_in hd (h.2 i hi))⟩
/-- A region that draws its order, in a round of a loop over a function. -/
theorem wpIn_region_held {id : Nat} {S : World → Prop} {w : World} (hm : P.follows .mixedOrders = true) (hd : ops.all plainOp = true) (hS : S w.drew)
    (h : S w.drew → wpAnyH P .any ops (strictQ Q) S ops.size (Array.replicate ops.size false) a w.drew) : (Code.region id ops true).wpIn (Fence.wide.inRound lp) n P Q a w :=
  wpIn_mono (wpIn_region_any hm (wpAny_in hd _ _ _ _ (wpAny_of_held _ _ _ _ (h hS)))) fun _ _ _ h => h.2
end
theorem cell_st3 {W : World} {b : Nat} {p : Addr} (h : p.block ≠ b) (u0 u1 u2 : Value) : (st3 W b u0 u1 u2).cell? p = W.cell? p := World.cell?_of_block (far_st3 h u0 u1 u2)
set_option maxRecDepth 100000 in
set_option maxHeartbeats 8000000 in
theorem takeask_any (A : Option Addr) (n c : Nat) (l : List Int) (w : World) (hn : l.length = n) (hb : Bt w A l) (hy : Byt l) (hc : n ≤ c) (hl : n ≤ 5000) :
    Calls Try.prog 17 #[.slice A n c] w fun e w' => ∃ A' c', e = .returned (.tuple #[.slice A' (taL l).length c', .int .i64 (taE l)]) ∧ kRr w' A' (taL l) ∧ Below w.heap.size w w' := by
  obtain ⟨W1, hW1⟩ : ∃ V, (w.alloc (.cells #[Value.slice none 0 0] 40)).alloc (.cells #[Value.int .i64 0] 28) = V := ⟨_, rfl⟩
  have bW1 : Below w.heap.size w W1 := by rw [← hW1]; exact (below_alloc1 _ _).trans ((below_alloc1 _ _).mono (by simp))
  have sW1 : W1.heap.size = w.heap.size + 2 := by rw [← hW1]; simp
  have KZ1 : Hid (Boxed W1 w.heap.size 40 (Value.slice none 0 0)) := Lib.hid (by rw [← hW1]; exact (Boxed.new _ _ _).alloc _)
  have KZ2 : Hid (Boxed W1 (w.heap.size + 1) 28 (Value.int .i64 0)) := Lib.hid (by rw [← hW1]; have := Boxed.new (w.alloc (.cells #[Value.slice none 0 0] 40)) 28 (Value.int .i64 0); rwa [World.size_alloc] at this)
  have HB := Lib.hid bW1
  by_cases hm : n % 12 = 0
  case neg =>
    obtain ⟨e1, e2⟩ := taE_short (show l.length % 12 ≠ 0 by omega)
    rw [e1, e2]
    have d : (((n : Int) % 12) == 0) = false := by simp; omega
    have d2 : (((n : Int) % 12) != 0) = true := by simp [bne, d]
    have z1 := KZ1.out
    have z2 := KZ2.out
    have c1 := z1.cell
    have c2 := z2.cell
    have f1 := z1.frozen
    have f2 := z2.frozen
    have SS := Lib.hid <| set11 z1 z2 (.slice none 0 0) (.int .i64 2)
    have TF := Lib.hid <| below_st11 HB.out (Nat.le_refl _) (.slice none 0 0) (.int .i64 2)
    clear z1 z2 KZ1 KZ2 e1 e2 hb hy bW1 hm
    go_enter Try.func17, Try.ntmps17
    go_wp2
    have r1 := SS.out.1.cell
    have r2 := SS.out.2.cell
    refine bodyPost_ret (v := .tuple #[.slice none 0 0, .int .i64 2]) (by simp [results, Try.results17, go_sem, r1, r2]) rfl ⟨none, 0, rfl, Rd.nil _, TF.out⟩
  have d : (((n : Int) % 12) == 0) = true := by simp; omega
  have d2 : (((n : Int) % 12) != 0) = false := by simp [bne, d]
  by_cases h12 : (n : Int) > 1200
  · obtain ⟨e1, e2⟩ := taE_no (l := l) (by omega) (.inl (by omega))
    rw [e1, e2]
    have z1 := KZ1.out
    have z2 := KZ2.out
    have c1 := z1.cell
    have c2 := z2.cell
    have f1 := z1.frozen
    have f2 := z2.frozen
    have SS := Lib.hid <| set11 z1 z2 (.slice none 0 0) (.int .i64 3)
    have TF := Lib.hid <| below_st11 HB.out (Nat.le_refl _) (.slice none 0 0) (.int .i64 3)
    clear z1 z2 KZ1 KZ2 e1 e2 hb hy bW1 hm
    go_enter Try.func17, Try.ntmps17
    go_wp2
    have r1 := SS.out.1.cell
    have r2 := SS.out.2.cell
    refine bodyPost_ret (v := .tuple #[.slice none 0 0, .int .i64 3]) (by simp [results, Try.results17, go_sem, r1, r2]) rfl ⟨none, 0, rfl, Rd.nil _, TF.out⟩
  obtain ⟨m, hmm⟩ : ∃ m, n / 12 = m := ⟨_, rfl⟩
  have hnm : n = m * 12 := by omega
  have hm100 : m ≤ 100 := by omega
  obtain ⟨E, hE⟩ : ∃ E, taE l = E := ⟨_, rfl⟩
  obtain ⟨P, hP⟩ : ∃ P, taL l = P := ⟨_, rfl⟩
  have HNo : Hid (mayq (rdK l m) = false → E = 3 ∧ P = []) := Lib.hid (fun h => by rw [← hE, ← hP]; exact taE_no (by omega) (.inr (by rw [hn, hmm]; exact h)))
  have HYes : Hid (mayq (rdK l m) = true → E = 0 ∧ P = rdK l m) := Lib.hid (fun h2 => by
    rw [← hE, ← hP]
    have := taE_yes (l := l) (by omega) (by omega) (by rw [hn, hmm]; exact h2)
    rwa [hn, hmm] at this)
  rw [hE, hP]
  have CR := rows_any A c l W1.heap.size 4 W1 (hb.step bW1) hy (by omega) (Nat.le_refl _) (by omega)
  have r1 : rowsE l 4 = 0 := by
    unfold rowsE
    rw [if_neg (by omega), if_neg]
    rw [hn]
    simp
    omega
  have r2 : rowsL l 4 = nums 4 (m * 3) l := by
    simp only [rowsL, r1, if_true]
    rw [hn, hnm]
    congr 1
    show m * 12 / 4 = m * 3
    omega
  rw [r1, r2, nums_length, hn] at CR
  have HN : Hid (∀ i, i < m * 3 → (nums 4 (m * 3) l).getD i 0 = num (sub l (i * 4) 4)) := Lib.hid (fun i hi => nums_getD _ _ _ _ hi)
  have HNL : Hid ((nums 4 (m * 3) l).length = m * 3) := Lib.hid (nums_length _ _ _)
  generalize nums 4 (m * 3) l = N at *
  have HNM := Lib.hid hnm
  have HY := Lib.hid hy
  have HLN := Lib.hid hn
  clear hE hP hnm hy hn hb bW1 hmm hm r1 r2
  refine (callsIn_wide (n := 4)).1 ?_
  refine callsIn_of_wp_marks Try.func17 rfl trivial ?_ rfl
  simp only [Try.ntmps17, List.size_toArray, List.length_cons, List.length_nil, Nat.reduceAdd, Nat.reduceSub, Array.replicate_succ, Array.replicate_zero, List.push_toArray, List.append_toArray, List.nil_append, List.cons_append]
  gi_wp2_with fail
  refine ⟨trivial, (callsIn_wide.2 CR).mono ?_⟩
  rintro e Y1 ⟨A1, c1, rfl, o1, u1⟩
  have hc1 := o1.cap_le
  rw [HNL.out] at hc1
  have z1 : Boxed Y1 w.heap.size 40 (Value.slice none 0 0) := (u1.block _ (by omega)).trans KZ1.out
  have z2 : Boxed Y1 (w.heap.size + 1) 28 (Value.int .i64 0) := (u1.block _ (by omega)).trans KZ2.out
  have BY : Below w.heap.size w Y1 := HB.out.trans (u1.mono HB.out.size)
  have hlq : Bs .u32 Y1 Y1.heap.size A1 N := o1.bs
  obtain ⟨k1, hk1⟩ : ∃ k, Y1.heap.size = k := ⟨_, rfl⟩
  have hwk1 : w.heap.size + 2 ≤ k1 := by have := u1.size; omega
  obtain ⟨W2, hW2⟩ : ∃ V, Y1.alloc (.cells #[Value.slice none 0 0] 40) = V := ⟨_, rfl⟩
  have bW2 : Below Y1.heap.size Y1 W2 := by rw [← hW2]; exact below_alloc1 _ _
  have sW2 : W2.heap.size = k1 + 1 := by rw [← hW2, World.size_alloc, hk1]
  have hk3 : (m * 3 : Nat) = m * 3 := rfl
  clear o1 u1 CR hk3
  gi_wp2_with fail
  refine ⟨trivial, (callsIn_wide.2 (chw_any A1 (m * 3) c1 3 (by omega) _)).mono ?_⟩
  rintro e W4 ⟨rfl, hW4⟩
  rw [sW2]
  gi_wp2_with fail
  replace hW4 : W4 = (W2.alloc (.cells #[.slice A1 (m * 3) c1] 74)).alloc (.cells #[.int .i64 3] 3) := hW4
  rw [← hW4]
  obtain ⟨bb, off, hA⟩ : ∃ bb off, m ≠ 0 → A1 = some ⟨bb, off, none⟩ := by
    by_cases h0 : m = 0
    · exact ⟨0, 0, fun h => absurd h0 h⟩
    · obtain ⟨bb, off, h, _⟩ := hlq (by rintro rfl; have q1 := HNL.out; simp only [List.length_nil] at q1; omega)
      exact ⟨bb, off, fun _ => h⟩
  have sW4 : W4.heap.size = k1 + 3 := by rw [hW4, World.size_alloc, World.size_alloc, sW2]
  have b24 : Below W2.heap.size W2 W4 := by rw [hW4]; exact (below_alloc1 _ _).trans ((below_alloc1 _ _).mono (by simp))
  have b14 : Below k1 Y1 W4 := by rw [← hk1]; exact bW2.trans (b24.mono bW2.size)
  have y3 : Boxed W4 k1 40 (Value.slice none 0 0) := (b24.block _ (by omega)).trans (by have := Boxed.new Y1 40 (Value.slice none 0 0); rwa [hW2, hk1] at this)
  have y4 : Boxed W4 (k1 + 1) 74 (.slice A1 (m * 3) c1) := by rw [hW4]; have := (Boxed.new W2 74 (.slice A1 (m * 3) c1)).alloc (.cells #[.int .i64 3] 3); rw [sW2] at this; exact this
  have y5 : Boxed W4 (k1 + 1 + 1) 3 (.int .i64 3) := by rw [hW4]; have := Boxed.new (W2.alloc (.cells #[.slice A1 (m * 3) c1] 74)) 3 (.int .i64 3); rw [World.size_alloc, sW2] at this; exact this
  have c4 := y4.cell
  have c5 := y5.cell
  refine wpIn_rangeFunc_ownG rfl (by omega) (gf := 69) (lb := #[.pointer (some ⟨k1 + 1, 0, none⟩), .pointer (some ⟨k1 + 1 + 1, 0, none⟩)]) rfl trivial (enters_of Try.func69 (by kernel_rfl) rfl)
    (chw_stops Fence.wide _ trivial rfl (by omega) (k1 + 1) (k1 + 1 + 1) A1 bb off (m * 3) c1 3 m (by omega) (by omega) rfl (by omega) hc1 W4 (by omega) (by omega) c4 c5 hA) (fun h k => h.trans k) (Keep2.put (by omega) (by omega)) (Below.refl _ _) (fun _ => rfl)
    (fun pre W => ∃ A' c', Boxed W k1 40 (.slice A' pre.length c') ∧ Ob 76 3 (k1 + 3 ≤ ·) W A' c' (kflat (pre.map fun x => ky l x.val)) ∧ (∀ x ∈ pre, win (ky l x.val).t 1 7 = true) ∧ Below k1 Y1 W ∧ W4.heap.size ≤ W.heap.size)
    (fun cc _ W => cc = .ret ∧ Boxed W w.heap.size 40 (Value.slice none 0 0) ∧ Boxed W (w.heap.size + 1) 28 (Value.int .i64 3) ∧ (∃ x : Fin m, win (ky l x.val).t 1 7 = false) ∧ Below w.heap.size w W ∧ W4.heap.size ≤ W.heap.size)
    (by
      rintro pre V V' row ⟨A', c', h1, h2, h5, h6, h7⟩ hg hr
      exact ⟨A', c', own_boxed h1 hg hr, own_ob h2 hg hr, h5, ownFrom_below (β := Unit) (w₀ := Y1) (n₀ := k1) (by omega) (show k1 ≤ W4.heap.size by omega) () V V' row h6 hg hr, Nat.le_trans h7 hg.size⟩)
    (by
      rintro cc pre V V' row ⟨h1, h3, h4, h5, h6, h7⟩ hg hr
      exact ⟨h1, own_boxed h3 hg hr, own_boxed h4 hg hr, h5, ownFrom_below (β := Unit) (Nat.le_refl _) (show w.heap.size ≤ W4.heap.size by omega) () V V' row h6 hg hr, Nat.le_trans h7 hg.size⟩)
    ⟨none, 0, y3, .inl ⟨rfl, rfl, rfl⟩, by simp, b14, Nat.le_refl _⟩
    (fun x => { tmps := #[.slice A n c, undef, .pointer (some ⟨w.heap.size, 0, none⟩), .pointer (some ⟨w.heap.size + 1, 0, none⟩), .slice A1 (m * 3) c1, .int .i64 0, .pointer (some ⟨k1, 0, none⟩), .slice (some ⟨bb, off + x.val * 3, none⟩) 3 3, undef, .slice A n c, .int .i64 n, .int .i64 ((n : Int) % 12), .bool false, .slice A n c, .int .i64 n, .bool false, .tuple #[.slice A1 (m * 3) c1, .int .i64 0], .slice A n c, .tuple #[.slice A1 (m * 3) c1, .int .i64 0], .slice A1 (m * 3) c1, .int .i64 0, .slice A1 (m * 3) c1, .func (.func 69) #[] #[.pointer (some ⟨k1 + 1, 0, none⟩), .pointer (some ⟨k1 + 1 + 1, 0, none⟩)], .slice (some ⟨bb, off + x.val * 3, none⟩) 3 3, undef, undef, undef, undef, undef, undef, undef, undef, undef, undef, undef, undef, undef, undef, undef, undef, undef, undef, undef], defers := [] }) ?assign ?body ?done ?stop
  case assign =>
    intro lp x V K hK
    gi_wp2
    exact hK
  case body =>
    rintro lp pre x V ⟨A', c', h1, h2, h5, h6, hVW⟩ hpl
    obtain rfl := hA (by have := x.2; omega)
    have hxl : x.val * 12 + 12 ≤ l.length := by
      have := Nat.mul_le_mul_right 12 (show x.val + 1 ≤ m from x.2)
      have := HLN.out
      have := HNM.out
      omega
    have hx3 : x.val * 3 + 3 ≤ m * 3 := by
      have := Nat.mul_le_mul_right 3 (show x.val + 1 ≤ m from x.2)
      omega
    have hV : Below Y1.heap.size Y1 V := by rw [hk1]; exact h6
    have qw := (Bs.step hlq hV)
    have g0 := qw.get (i := x.val * 3) (by rw [HNL.out]; omega)
    have g1 := qw.get (i := x.val * 3 + 1) (by rw [HNL.out]; omega)
    have g2 := qw.get (i := x.val * 3 + 2) (by rw [HNL.out]; omega)
    rw [HN.out _ (by omega), show x.val * 3 * 4 = x.val * 12 by omega] at g0
    rw [HN.out _ (by omega), show (x.val * 3 + 1) * 4 = x.val * 12 + 4 by omega] at g1
    rw [HN.out _ (by omega), show (x.val * 3 + 2) * 4 = x.val * 12 + 8 by omega] at g2
    obtain ⟨⟨ot0, ot1⟩, -⟩ := ky_ok HY.out hxl
    have hky : ky l x.val = ⟨num (sub l (x.val * 12) 4), num (sub l (x.val * 12 + 4) 4), num (sub l (x.val * 12 + 8) 4)⟩ := rfl
    have e1 : num (sub l (x.val * 12) 4) = (ky l x.val).t := rfl
    have e2 : num (sub l (x.val * 12 + 4) 4) = (ky l x.val).i := rfl
    have e3 : num (sub l (x.val * 12 + 8) 4) = (ky l x.val).v := rfl
    rw [e1] at g0
    rw [e2, ← Nat.add_assoc] at g1
    rw [e3, ← Nat.add_assoc] at g2
    obtain ⟨y, hy⟩ : ∃ y, ky l x.val = y := ⟨_, rfl⟩
    rw [hy] at g0 g1 g2 ot0 ot1
    have HYY := Lib.hid hy
    have hpl2 : pre.length ≤ 100 := by omega
    have hwt : IntKind.i64.wrap y.t = y.t := by
      simp [IntKind.wrap, IntKind.bits, IntKind.signed]
      omega
    have hmx : Try.prog.follows .mixedOrders = true := by kernel_rfl
    clear hky e1 e2 e3 hy hxl hx3 c4 c5 hW2 hW4 qw
    have tt : Below V.heap.size V V := Below.refl _ _
    have hbb := (Bs.step hlq hV).blk (by rintro rfl; have q1 := HNL.out; have := x.2; simp only [List.length_nil] at q1; omega)
    have KS : Hid (∀ W, Below V.heap.size V W → W.cell? ⟨bb, off + x.val * 3, none⟩ = some (.int .u32 y.t) ∧ W.cell? ⟨bb, off + x.val * 3 + 1, none⟩ = some (.int .u32 y.i) ∧ W.cell? ⟨bb, off + x.val * 3 + 2, none⟩ = some (.int .u32 y.v)) := Lib.hid (fun W hW => ⟨(hW.cell (p := ⟨bb, off + x.val * 3, none⟩) hbb).trans g0, (hW.cell (p := ⟨bb, off + x.val * 3 + 1, none⟩) hbb).trans g1, (hW.cell (p := ⟨bb, off + x.val * 3 + 2, none⟩) hbb).trans g2⟩)
    clear g0 g1 g2
    have HBB := Lib.hid hbb
    clear hbb
    gi_wp2
    refine wpIn_region_held (S := fun V' => V'.cell? ⟨bb, off + x.val * 3, none⟩ = some (.int .u32 y.t) ∧ V'.cell? ⟨bb, off + x.val * 3 + 1, none⟩ = some (.int .u32 y.i) ∧ V'.cell? ⟨bb, off + x.val * 3 + 2, none⟩ = some (.int .u32 y.v)) hmx (by kernel_rfl) (KS.out _ tt.drew) (fun hHeld => ?_)
    replace tt : Below V.heap.size V V.drew := tt.drew
    generalize hX0 : V.drew = X0 at tt hHeld ⊢
    clear hX0
    refine wpAnyH_take (i := 0) (v := ?_) rfl (by kernel_rfl) (by kernel_rfl) (by kernel_rfl) (fun _ _ _ h => h) (Or.inl ⟨by rfl, ?_⟩) (by assumption) ?_
    rotate_left
    · (intro w' hSw; (try dsimp only at hSw); go_simp; try with_reducible rfl)
    simp only [Act.put, List.getElem_toArray, List.getElem_cons_zero, List.setIfInBounds_toArray, List.set_cons_zero, List.set_cons_succ]
    refine wpAnyH_take (i := 1) (v := ?_) rfl (by kernel_rfl) (by kernel_rfl) (by kernel_rfl) (fun _ _ _ h => h) (Or.inl ⟨by rfl, ?_⟩) (by assumption) ?_
    rotate_left
    · (intro w' hSw; (try dsimp only at hSw); go_simp; try with_reducible rfl)
    simp only [Act.put, List.getElem_toArray, List.getElem_cons_zero, List.getElem_cons_succ, List.setIfInBounds_toArray, List.set_cons_zero, List.set_cons_succ]
    refine wpAnyH_take (i := 2) (v := ?_) rfl (by kernel_rfl) (by kernel_rfl) (by kernel_rfl) (fun _ _ _ h => h) (Or.inl ⟨by rfl, ?_⟩) (by assumption) ?_
    rotate_left
    · (intro w' hSw; (try dsimp only at hSw); go_simp; try with_reducible rfl)
    simp only [Act.put, List.getElem_toArray, List.getElem_cons_zero, List.getElem_cons_succ, List.setIfInBounds_toArray, List.set_cons_zero, List.set_cons_succ]
    refine wpAnyH_take (i := 3) (v := .int .i64 y.t) rfl (by kernel_rfl) (by kernel_rfl) (by kernel_rfl) (fun _ _ _ h => h) (Or.inl ⟨by rfl, ?_⟩) (by assumption) ?_
    · (intro w' hSw; (try dsimp only at hSw); go_simp; try rw [hwt])
    simp only [Act.put, List.getElem_toArray, List.getElem_cons_zero, List.getElem_cons_succ, List.setIfInBounds_toArray, List.set_cons_zero, List.set_cons_succ]
    refine wpAnyH_take (i := 4) (v := ?_) rfl (by kernel_rfl) (by kernel_rfl) (by kernel_rfl) (fun _ _ _ h => h) (Or.inl ⟨by rfl, ?_⟩) (by assumption) ?_
    rotate_left
    · (intro w' hSw; (try dsimp only at hSw); go_simp; try with_reducible rfl)
    simp only [Act.put, List.getElem_toArray, List.getElem_cons_zero, List.getElem_cons_succ, List.setIfInBounds_toArray, List.set_cons_zero, List.set_cons_succ]
    refine wpAnyH_take (i := 5) (v := ?_) rfl (by kernel_rfl) (by kernel_rfl) (by kernel_rfl) (fun _ _ _ h => h) (Or.inl ⟨by rfl, ?_⟩) (by assumption) ?_
    rotate_left
    · (intro w' hSw; (try dsimp only at hSw); go_simp; try with_reducible rfl)
    simp only [Act.put, List.getElem_toArray, List.getElem_cons_zero, List.getElem_cons_succ, List.setIfInBounds_toArray, List.set_cons_zero, List.set_cons_succ]
    refine wpAnyH_take (i := 6) (v := ?_) rfl (by kernel_rfl) (by kernel_rfl) (by kernel_rfl) (fun _ _ _ h => h) (Or.inl ⟨by rfl, ?_⟩) (by assumption) ?_
    rotate_left
    · (intro w' hSw; (try dsimp only at hSw); go_simp; try with_reducible rfl)
    simp only [Act.put, List.getElem_toArray, List.getElem_cons_zero, List.getElem_cons_succ, List.setIfInBounds_toArray, List.set_cons_zero, List.set_cons_succ]
    refine wpAnyH_take (i := 7) (v := ?_) rfl (by kernel_rfl) (by kernel_rfl) (by kernel_rfl) (fun _ _ _ h => h) (Or.inl ⟨by rfl, ?_⟩) (by assumption) ?_
    rotate_left
    · (intro w' hSw; (try dsimp only at hSw); go_simp; try with_reducible rfl)
    simp only [Act.put, List.getElem_toArray, List.getElem_cons_zero, List.getElem_cons_succ, List.setIfInBounds_toArray, List.set_cons_zero, List.set_cons_succ]
    refine wpAnyH_take (i := 8) (v := ?_) rfl (by kernel_rfl) (by kernel_rfl) (by kernel_rfl) (fun _ _ _ h => h) (Or.inl ⟨by rfl, ?_⟩) (by assumption) ?_
    rotate_left
    · (intro w' hSw; (try dsimp only at hSw); go_simp; try with_reducible rfl)
    simp only [Act.put, List.getElem_toArray, List.getElem_cons_zero, List.getElem_cons_succ, List.setIfInBounds_toArray, List.set_cons_zero, List.set_cons_succ]
    refine wpAnyH_take (i := 9) (v := ?_) rfl (by kernel_rfl) (by kernel_rfl) (by kernel_rfl) (fun _ _ _ h => h) (Or.inl ⟨by rfl, ?_⟩) (by assumption) ?_
    rotate_left
    · (intro w' hSw; (try dsimp only at hSw); go_simp; try with_reducible rfl)
    simp only [Act.put, List.getElem_toArray, List.getElem_cons_zero, List.getElem_cons_succ, List.setIfInBounds_toArray, List.set_cons_zero, List.set_cons_succ]
    refine wpAnyH_take (i := 10) (v := .agg #[.int .i64 y.t, .int .u32 y.i, .int .u32 y.v]) rfl (by kernel_rfl) (by kernel_rfl) (by kernel_rfl) (fun _ _ _ h => h) (Or.inl ⟨by rfl, ?_⟩) (by assumption) ?_
    · (intro w' hSw; (try dsimp only at hSw); go_simp; try rfl)
    simp only [Act.put, List.getElem_toArray, List.getElem_cons_zero, List.getElem_cons_succ, List.setIfInBounds_toArray, List.set_cons_zero, List.set_cons_succ]
    refine wpAnyH_ready (rs := [11]) (by kernel_rfl) (by simp) ?_
    refine AllReadyH.cons rfl (fun K hK => ?_) AllReadyH.nil
    go_simp
    obtain ⟨Y11, hY11⟩ : ∃ V, X0.alloc (.cells #[Value.int .i64 0, .int .u32 0, .int .u32 0] 76) = V := ⟨_, rfl⟩
    have u11 : Below X0.heap.size X0 Y11 := by rw [← hY11]; exact below_alloc1 _ _
    have kz := At.mk hY11
    have t_Y11 : Below V.heap.size V Y11 := tt.trans (u11.mono tt.size)
    obtain ⟨k11, hk11⟩ : ∃ k, X0.heap.size = k := ⟨_, rfl⟩
    rw [hk11] at kz
    have ga : Hid (V.heap.size ≤ k11) := Lib.hid (by rw [← hk11]; exact tt.size)
    try rw [hY11]
    try rw [hk11]
    clear hY11 hk11
    refine hK.out _ _ (KS.out _ t_Y11) (fun _ => ?_)
    clear hK K
    refine wpAnyH_ready (rs := [12]) (by kernel_rfl) (by simp) ?_
    refine AllReadyH.cons rfl (fun K hK => ?_) AllReadyH.nil
    obtain ⟨a0, a1, a2, f0, f1, f2, hzl⟩ := kz3_at kz
    have KR : Hid (At (st3 Y11 k11 (Value.int .i64 y.t) (.int .u32 y.i) (.int .u32 y.v)) k11 (.cells #[.int .i64 y.t, .int .u32 y.i, .int .u32 y.v] 76)) := Lib.hid (kz3_set kz (Value.int .i64 y.t) (.int .u32 y.i) (.int .u32 y.v))
    have TF : Hid (Below V.heap.size V (st3 Y11 k11 (Value.int .i64 y.t) (.int .u32 y.i) (.int .u32 y.v))) := Lib.hid (below_st3 t_Y11 ga.out _ _ _)
    have hnb : bb ≠ k11 := by have := HBB.out; have := ga.out; omega
    have KF : Hid ((st3 Y11 k11 (Value.int .i64 y.t) (.int .u32 y.i) (.int .u32 y.v)).cell? ⟨bb, off + x.val * 3, none⟩ = some (.int .u32 y.t) ∧ (st3 Y11 k11 (Value.int .i64 y.t) (.int .u32 y.i) (.int .u32 y.v)).cell? ⟨bb, off + x.val * 3 + 1, none⟩ = some (.int .u32 y.i) ∧ (st3 Y11 k11 (Value.int .i64 y.t) (.int .u32 y.i) (.int .u32 y.v)).cell? ⟨bb, off + x.val * 3 + 2, none⟩ = some (.int .u32 y.v)) := Lib.hid <| by
      obtain ⟨e0, e1, e2⟩ := KS.out _ t_Y11
      exact ⟨(cell_st3 (p := ⟨bb, off + x.val * 3, none⟩) hnb _ _ _).trans e0, (cell_st3 (p := ⟨bb, off + x.val * 3 + 1, none⟩) hnb _ _ _).trans e1, (cell_st3 (p := ⟨bb, off + x.val * 3 + 2, none⟩) hnb _ _ _).trans e2⟩
    clear hHeld
    go_simp
    refine hK.out _ _ KF.out (fun _ => ?_)
    clear hK K
    refine wpAnyH_done (by kernel_rfl) ?_ _
    refine ⟨by simp, ?_⟩
    obtain ⟨Z1, hZ1⟩ : ∃ Z, (((Y11.setCell ⟨k11, 0, none⟩ (Value.int .i64 y.t)).setCell ⟨k11, 1, none⟩ (Value.int .u32 y.i)).setCell ⟨k11, 2, none⟩ (Value.int .u32 y.v)) = Z := ⟨_, rfl⟩
    rw [hZ1]
    have K1 : Hid (∀ W, Below Z1.heap.size Z1 W → W.heap[k11]? = some (.cells #[.int .i64 y.t, .int .u32 y.i, .int .u32 y.v] 76)) := Lib.hid (fun W hW => by
      have q : At Z1 k11 (.cells #[.int .i64 y.t, .int .u32 y.i, .int .u32 y.v] 76) := by rw [← hZ1]; exact KR.out
      exact (hW.block _ (lt_of_block q)).trans q)
    have T1 : Hid (Below V.heap.size V Z1) := Lib.hid (by rw [← hZ1]; exact TF.out)
    clear hZ1 KR TF KF kz ga t_Y11 KS HBB hnb
    have CM := mayask_any y Z1
    obtain ⟨a0, a1, a2, f0, f1, f2, hzl⟩ := kz3_at (K1.out _ (Below.refl _ _))
    obtain ⟨qm, hqm⟩ : ∃ q, win y.t 1 7 = q := ⟨_, rfl⟩
    rw [hqm] at CM
    have HBV := Lib.hid (BY.trans (hV.mono BY.size))
    cases qm with
    | false =>
      gi_wp2_with fail
      refine ⟨trivial, (CallsIn.inRound lp (callsIn_wide.2 CM)).mono ?_⟩
      rintro e Z2 ⟨rfl, u2⟩
      have t2 : Below V.heap.size V Z2 := T1.out.trans (u2.mono T1.out.size)
      have g3 : Boxed Z2 w.heap.size 40 (Value.slice none 0 0) := (t2.block _ (by have := HBV.out.size; have := z1.lt; have := hV.size; omega)).trans ((hV.block _ z1.lt).trans z1)
      have g4 : Boxed Z2 (w.heap.size + 1) 28 (Value.int .i64 0) := (t2.block _ (by have := HBV.out.size; have := z2.lt; have := hV.size; omega)).trans ((hV.block _ z2.lt).trans z2)
      have b1 := g3.cell
      have b2 := g4.cell
      have d1 := g3.frozen
      have d2 := g4.frozen
      have SS := Lib.hid <| set11 g3 g4 (.slice none 0 0) (.int .i64 3)
      have TF := Lib.hid <| below_st11 (HBV.out.trans (t2.mono HBV.out.size)) (Nat.le_refl _) (.slice none 0 0) (.int .i64 3)
      have KF := Lib.hid <| (keeps_below W4.heap.size t2).trans (((KeepsOthers.setCell Z2 ⟨w.heap.size, 0, none⟩ (.slice none 0 0)).trans (KeepsOthers.setCell _ ⟨w.heap.size + 1, 0, none⟩ (.int .i64 3))).from _)
      have SZ : Hid (W4.heap.size ≤ (st11 Z2 w.heap.size (.slice none 0 0) (.int .i64 3)).heap.size) := Lib.hid (Nat.le_trans hVW KF.out.size)
      clear g3 g4 t2 u2 a0 a1 a2 f0 f1 f2
      gi_wp2
      exact ⟨KF.out, rfl, SS.out.1, SS.out.2, ⟨x, by rw [HYY.out]; exact hqm⟩, TF.out, SZ.out⟩
    | true =>
      have HM := Lib.hid hqm
      obtain ⟨i0, hi0, hz0, hz1, hz2⟩ := info_of infoK
      clear hqm
      gi_wp2_with fail
      refine ⟨trivial, (CallsIn.inRound lp (callsIn_wide.2 CM)).mono ?_⟩
      rintro e Z2 ⟨rfl, u2⟩
      clear a0 a1 a2 f0 f1 f2 hzl CM
      obtain ⟨a0, a1, a2, f0, f1, f2, hzl⟩ := kz3_at (K1.out _ u2)
      have t2 : Below V.heap.size V Z2 := T1.out.trans (u2.mono T1.out.size)
      have g1 : Boxed Z2 k1 40 (.slice A' pre.length c') := (t2.block _ h1.lt).trans h1
      have ob2 := Ob.below h2 t2
      have c1' := g1.cell
      obtain ⟨k2, hk2⟩ : ∃ k, Z2.heap.size = k := ⟨_, rfl⟩
      obtain ⟨g9, c9, Z9, r9, rg9, kp9, hg9⟩ := app_oneA (P := Try.prog) (S := (k1 + 3 ≤ ·)) Try.underlying40 hi0 hz0 hz1 hz2 rfl (by decide) (by decide) ob2 (n := pre.length) (by rw [kflat_length, List.length_map]) (kcs y) rfl (kcs_one y) (by omega) k2 hk2
      rw [show (kcs y).toArray = #[Value.int .i64 y.t, .int .u32 y.i, .int .u32 y.v] from rfl] at r9
      have hna : ¬ (A' = some ⟨k1, 0, none⟩) := fun hj => by have := ob2.at hj; omega
      have gb : Boxed Z9 k1 40 (.slice A' pre.length c') := (kp9.block _ g1.lt hna).trans g1
      have b1 := gb.cell
      have d1 := gb.frozen
      have hg9' : k1 + 3 ≤ g9 := by
        rcases hg9 with q | q
        · exact q
        · have := t2.size; have := sW4; omega
      obtain ⟨ZF, hZF⟩ : ∃ Z, Z9.setCell ⟨k1, 0, none⟩ (.slice (some ⟨g9, 0, none⟩) (pre.length + 1) c9) = Z := ⟨_, rfl⟩
      have HF : Hid (∃ A' c', Boxed ZF k1 40 (.slice A' (pre ++ [x]).length c') ∧ Ob 76 3 (k1 + 3 ≤ ·) ZF A' c' (kflat ((pre ++ [x]).map fun x => ky l x.val))) := Lib.hid (by
        rw [← hZF]
        refine ⟨some ⟨g9, 0, none⟩, c9, ?_, .inr ⟨g9, hg9', rfl, ?_⟩⟩
        · have := gb.set (.slice (some ⟨g9, 0, none⟩) (pre.length + 1) c9)
          simpa using this
        · have e : kflat ((pre ++ [x]).map fun x => ky l x.val) = kflat (pre.map fun x => ky l x.val) ++ kcs y := by
            rw [List.map_append, List.map_cons, List.map_nil, kflat_snoc, HYY.out]
          rw [e]
          exact rg9.keep (Below.heap_setCell _ _ _ _ (fun e => by simp at e; omega)))
      have KK : Hid (Kp (fun j => A' = some ⟨j, 0, none⟩) V Z9) := Lib.hid ((Kp.of_below t2 (Nat.le_refl _)).trans kp9 (fun _ h => .inl h))
      have KF : Hid (KeepsFrom W4.heap.size V ZF) := Lib.hid (by rw [← hZF]; exact (keeps_kp W4.heap.size KK.out (fun j o hj ho => h2.cells hj ho)).trans ((KeepsOthers.setCell Z9 ⟨k1, 0, none⟩ (.slice (some ⟨g9, 0, none⟩) (pre.length + 1) c9)).from _))
      have K2 : Hid (Keep2 (k1 + 1) (k1 + 1 + 1) V ZF) := Lib.hid (by
        rw [← hZF]
        exact ⟨(Below.heap_setCell _ _ _ _ (by simp)).trans (KK.out.block _ (by have := hVW; omega) (fun hj => by have := h2.at hj; omega)),
          (Below.heap_setCell _ _ _ _ (by simp; omega)).trans (KK.out.block _ (by have := hVW; omega) (fun hj => by have := h2.at hj; omega))⟩)
      have TF : Hid (Below k1 Y1 ZF) := Lib.hid (by
        rw [← hZF]
        exact (h6.trans (KK.out.below (fun j hj => by have := h2.at hj; omega) (by have := h6.size; omega))).setCell (p := ⟨k1, 0, none⟩) (Nat.le_refl _) _)
      clear rg9 kp9 gb ob2 g1 t2 u2 K1 T1
      gi_wp2_with (gi_at_builtin; refine wpListIn_runb _ rfl (.tmp 38) (.tmp 40) 40 rfl rfl rfl r9 ?_)
      try rw [hZF]
      obtain ⟨A3, c3, hb3, ho3⟩ := HF.out
      exact ⟨KF.out, K2.out, A3, c3, hb3, ho3, fun z hz => by
        rcases List.mem_append.1 hz with q | q
        · exact h5 z q
        · obtain rfl := List.mem_singleton.1 q
          rw [HYY.out]
          exact HM.out, TF.out, Nat.le_trans hVW KF.out.size⟩
  case done =>
    rintro D ys V hD hys ⟨A', c', h1, h2, h5, h6, hVW⟩ hK
    have hyl : ys.length = m := by have := congrArg List.length hys; simpa using this
    have hmp : (ys.map fun x => ky l x.val) = rdK l m := by
      rw [rdK, ← hys, List.map_map]
      rfl
    rw [hmp] at h2
    rw [hyl] at h1
    obtain ⟨eE, eP⟩ := HYes.out ((mayq_iff _).2 (fun z hz => by
      rw [← hmp] at hz
      obtain ⟨x, hx, rfl⟩ := List.mem_map.1 hz
      exact h5 x hx))
    have HEE := Lib.hid eE
    have HEP := Lib.hid eP
    have hV : Below Y1.heap.size Y1 V := by rw [hk1]; exact h6
    have h3 : Boxed V w.heap.size 40 (Value.slice none 0 0) := (hV.block _ z1.lt).trans z1
    have h4 : Boxed V (w.heap.size + 1) 28 (Value.int .i64 0) := (hV.block _ z2.lt).trans z2
    clear eE eP
    have a1 := h1.cell
    have a3 := h3.cell
    have a4 := h4.cell
    have f3 := h3.frozen
    have f4 := h4.frozen
    have SS := Lib.hid <| set11 h3 h4 (.slice A' m c') (.int .i64 0)
    have TF := Lib.hid <| below_st11 (BY.trans (hV.mono BY.size)) (Nat.le_refl _) (.slice A' m c') (.int .i64 0)
    have hK' := Lib.hid <| ((KeepsOthers.setCell V ⟨w.heap.size, 0, none⟩ (.slice A' m c')).trans (KeepsOthers.setCell _ ⟨w.heap.size + 1, 0, none⟩ (.int .i64 0))).same D _ hK rfl
    have HR := Lib.hid (Ob.keep h2 (w' := st11 V w.heap.size (.slice A' m c') (.int .i64 0)) (fun j hj _ => far_st11 (by omega) (by omega) _ _))
    gi_wp2
    refine ⟨by simp, .inl ⟨_, _, rfl, run_takeDeferred hK'.out, ?_⟩⟩
    rw [HEE.out, HEP.out, rdK_length]
    have hD2 : k1 + 3 ≤ D := by omega
    have r1 := (SS.out.1.kept (grownBy_putObj' _ D (.deferred none)) (by simp; omega)).cell
    have r2 := (SS.out.2.kept (grownBy_putObj' _ D (.deferred none)) (by simp; omega)).cell
    refine ⟨.tuple #[.slice A' m c', .int .i64 0], by simp [results, Try.results17, go_sem, r1, r2], A', c', rfl, ?_, ?_⟩
    · exact Ob.rd (own_ob (B := 0) HR.out (grownBy_putObj' _ D (.deferred none)) (fun r e => ⟨Nat.zero_le _, by cases e; exact ⟨_, hK'.out, rfl⟩⟩))
    · exact TF.out.trans (belowK_b (w := w) (Nat.le_refl _) _ D _ _ (by omega) hK'.out rfl rfl)
  case stop =>
    rintro D cc pre V hD _ ⟨rfl, h3, h4, ⟨x, hx⟩, h6, hVW⟩ hK
    obtain ⟨e1, e2⟩ := HNo.out (mayq_no (x := ky l x.val) (by simp only [rdK, List.mem_map, List.mem_range]; exact ⟨x.val, x.2, rfl⟩) hx)
    have HEE := Lib.hid e1
    have HEP := Lib.hid e2
    have HK := Lib.hid hK
    clear e1 e2 hK
    gi_wp2
    refine ⟨by simp, .inl ⟨_, _, rfl, run_takeDeferred HK.out, ?_⟩⟩
    rw [HEE.out, HEP.out]
    have hD2 : k1 + 3 ≤ D := by omega
    have r1 := (h3.kept (grownBy_putObj' _ D (.deferred none)) (by simp; omega)).cell
    have r2 := (h4.kept (grownBy_putObj' _ D (.deferred none)) (by simp; omega)).cell
    refine ⟨.tuple #[.slice none 0 0, .int .i64 3], by simp [results, Try.results17, go_sem, r1, r2], none, 0, rfl, Rd.nil _, ?_⟩
    exact h6.trans (belowK_b (w := w) (Nat.le_refl _) _ D _ _ (by omega) HK.out rfl rfl)
end Go.Proofs.Ytefbpaebimagaaa
