/-
  Contracts of slices.Chunk at bytes and at numbers of 32 bits. No statement is proved here; no conditions.
-/
import Derived.RangeFuncBox
import Derived.RangeFuncCalls
import Derived.RangeFuncLeaves
import Derived.RangeFuncBound
import Derived.Shelf.Abstract
import Derived.Shelf.RegionOpen
import Derived.WalkKit
import Derived.OwnWalkIn
import Derived.TacticsInMore
import Derived.LoopNIn
import Derived.LoopIn
import Derived.Test.YtefbpaebimagaaaDh
namespace Go.Proofs.Ytefbpaebimagaaa
open Go.RowKit Go.Joins

attribute [local go_sem] Oper.semAt_some

/-- These two blocks are as they were. -/
structure Keep2 (x y : Nat) (W W' : World) : Prop where
  b1 : W'.heap[x]? = W.heap[x]?
  b2 : W'.heap[y]? = W.heap[y]?
theorem Keep2.refl (x y : Nat) (W : World) : Keep2 x y W W := ⟨rfl, rfl⟩
theorem Keep2.trans {x y : Nat} {A B C : World} (h : Keep2 x y A B) (k : Keep2 x y B C) : Keep2 x y A C := ⟨k.b1.trans h.b1, k.b2.trans h.b2⟩
theorem Keep2.c1 {x y i : Nat} {A B : World} (h : Keep2 x y A B) : B.cell? ⟨x, i, none⟩ = A.cell? ⟨x, i, none⟩ := World.cell?_of_block h.b1
theorem Keep2.c2 {x y i : Nat} {A B : World} (h : Keep2 x y A B) : B.cell? ⟨y, i, none⟩ = A.cell? ⟨y, i, none⟩ := World.cell?_of_block h.b2
theorem Keep2.put {x y : Nat} {w : World} (hx : x < w.heap.size) (hy : y < w.heap.size) (W : World) (l : Nat) (o o' : Obj) (hl : w.heap.size ≤ l) (_h : W.heap[l]? = some o) (_h2 : o.isCells = false) (_h3 : o.isWalk = false) : Keep2 x y W (W.putObj l o') :=
  ⟨World.putObj_heap_other (by omega), World.putObj_heap_other (by omega)⟩
/-! ### slices.Chunk of bytes -/
set_option maxRecDepth 100000 in
set_option maxHeartbeats 4000000 in
theorem chb1_in (Fe : Fence) (d : Nat) (hF : Fe.fn 79) (hro : Fe.round = none) (hd : 1 ≤ d) (y Bs Bn : Nat) (A : Option Addr) (b off len cap k m : Nat) (hk : 1 ≤ k) (hk2 : k ≤ 1000) (hm : len = m * k) (hl : len ≤ 100000) (hc : len ≤ cap)
    (J Jx : List (Fin m) → World → Prop)
    (hY : ∀ pre (x : Fin m) W, J pre W → pre.length < m → YieldAt Fe (d - 1) Try.prog y #[.slice (some ⟨b, off + x.val * k, none⟩) k k] W fun e W' =>
      (e = .returned (.bool true) ∧ J (pre ++ [x]) W' ∧ Keep2 Bs Bn W W') ∨ (e = .returned (.bool false) ∧ Jx (pre ++ [x]) W'))
    (W : World) (hBs : W.cell? ⟨Bs, 0, none⟩ = some (.slice A len cap)) (hBn : W.cell? ⟨Bn, 0, none⟩ = some (.int .i64 (k : Int))) (hA : m ≠ 0 → A = some ⟨b, off, none⟩) (hJ : AbidesFrom W.heap.size J) (h0 : J [] W) :
    CallsIn Fe d Try.prog 79 #[.func (.yield y) #[] #[], .pointer (some ⟨Bs, 0, none⟩), .pointer (some ⟨Bn, 0, none⟩)] W fun e W' => (∃ v, e = .returned v) ∧
      ((∃ ys : List (Fin m), ys.map Fin.val = List.range m ∧ J ys W') ∨ (∃ pre : List (Fin m), True ∧ Jx pre W')) := by
  have HM := Lib.hid hm
  clear hm
  have hmx : Try.prog.follows .mixedOrders = true := by kernel_rfl
  refine callsIn_of_wp Try.func79 rfl hF ?_ hro
  simp only [Try.ntmps79, List.size_toArray, List.length_cons, List.length_nil, Nat.reduceAdd, Nat.reduceSub, Array.replicate_succ, Array.replicate_zero, List.push_toArray, List.append_toArray, List.nil_append, List.cons_append]
  gi_wp2
  gi_loopw [4] (fun i wr => ∃ (j p : Nat) (pre : List (Fin m)), j ≤ m ∧ i = .int .i64 (p : Int) ∧ Hid (p = j * k) ∧ pre.map Fin.val = List.range j ∧ J pre wr ∧ Keep2 Bs Bn W wr)
    (fun i _ => len - (intOf i).toNat)
  case atStart => exact ⟨0, 0, [], Nat.zero_le _, rfl, Lib.hid (by simp), rfl, h0, Keep2.refl _ _ _⟩
  case round =>
    obtain ⟨j, p, pre, hj, rfl, hp, hpre, hJs, hnx⟩ := hrel
    have hs1 := hnx.c1.trans hBs
    have hn1 := hnx.c2.trans hBn
    by_cases hlt : j < m
    · obtain rfl := hA (by omega)
      have hpk : p + k ≤ len := by
        have := Nat.mul_le_mul_right k (show j + 1 ≤ m from hlt)
        rw [Nat.succ_mul] at this
        have := hp.out
        have := HM.out
        omega
      have hlen : pre.length = j := by
        have := congrArg List.length hpre
        simpa using this
      obtain ⟨fn, tmps, assign, body, hy, hR⟩ := hY pre ⟨j, hlt⟩ wr.drew (hJ _ _ _ none hJs ⟨rfl, rfl, rfl, Nat.le_refl _, fun _ _ _ => rfl⟩ (fun r e => by cases e)) (by omega)
      have hpj : j * k = p := hp.out.symm
      dsimp only at hy
      rw [hpj] at hy
      have hplt : p < len := by omega
      have hpi : (p : Int) < (len : Int) := by omega
      have hpc : ¬ (p = cap) := by omega
      have hcp : ¬ (cap = p) := by omega
      have hmin : ¬ (len - p < k) := by omega
      have hle : p ≤ len := by omega
      have hpk2 : (p : Int) + (k : Int) ≤ (len : Int) := by omega
      have hpk3 : (p : Int) + (k : Int) ≤ (cap : Int) := by omega
      have hpk4 : p + k - p = k := by omega
      have hpk5 : (p : Int) + (k : Int) ≤ 100000 := by omega
      have hd1 : Keep2 Bs Bn wr wr.drew := ⟨rfl, rfl⟩
      have hn2 : wr.drew.cell? ⟨Bn, 0, none⟩ = some (.int .i64 (k : Int)) := hn1
      have hs2 : wr.drew.cell? ⟨Bs, 0, none⟩ = some (.slice (some ⟨b, off, none⟩) len cap) := hs1
      clear hpj hpk
      gi_wp2
      gi_region
      all_goals gi_wp2
      all_goals (
        refine hR.mono ?_
        rintro e W3 (⟨rfl, hJ3, hk3⟩ | ⟨rfl, hJx3⟩)
        · have hn3 := hk3.c2.trans hn2
          gi_wp2
          go_roundw
          case rel => exact ⟨j + 1, p + k, pre ++ [⟨j, hlt⟩], by omega, by go_num, Lib.hid (by rw [Nat.succ_mul, hp.out]), by simp [hpre, List.range_succ], hJ3, hnx.trans (hd1.trans hk3)⟩
          case measure => simp [intOf]; omega
        · gi_wp2
          refine bodyPost_ret (results_none rfl _ _ _) rfl ?_
          exact ⟨⟨_, rfl⟩, .inr ⟨_, trivial, hJx3⟩⟩)
    · obtain rfl : j = m := by omega
      have hpl : p = len := by rw [hp.out, HM.out]
      have hl0 : decide ((len : Int) < (len : Int)) = false := by simp
      subst hpl
      gi_wp2
      go_end0
      exact ⟨⟨_, rfl⟩, .inl ⟨_, hpre, hJs⟩⟩
set_option maxHeartbeats 1000000 in
theorem chb_any (A : Option Addr) (len cap k : Nat) (hk : 1 ≤ k) (w : World) :
    Calls Try.prog 62 #[.slice A len cap, .int .i64 (k : Int)] w fun e w' => e = .returned (.func (.func 79) #[] #[.pointer (some ⟨w.heap.size, 0, none⟩), .pointer (some ⟨w.heap.size + 1, 0, none⟩)]) ∧ w' = (w.alloc (.cells #[.slice A len cap] 26)).alloc (.cells #[.int .i64 (k : Int)] 3) := by
  have hk1 : ¬ ((k : Int) < 1) := by omega
  go_enter Try.func62, Try.ntmps62
  go_wp2
  go_ret
  exact ⟨rfl, rfl⟩
theorem chb_stops (Fe : Fence) (d : Nat) (hF : Fe.fn 79) (hro : Fe.round = none) (hd : 1 ≤ d) (Bs Bn : Nat) (A : Option Addr) (b off len cap k m : Nat) (hk : 1 ≤ k) (hk2 : k ≤ 1000) (hm : len = m * k) (hl : len ≤ 100000) (hc : len ≤ cap) (w : World) (hs : Bs < w.heap.size) (hn : Bn < w.heap.size)
    (hBs : w.cell? ⟨Bs, 0, none⟩ = some (.slice A len cap)) (hBn : w.cell? ⟨Bn, 0, none⟩ = some (.int .i64 (k : Int))) (hA : m ≠ 0 → A = some ⟨b, off, none⟩) :
    SeqStopsK Fe d Try.prog 79 #[.pointer (some ⟨Bs, 0, none⟩), .pointer (some ⟨Bn, 0, none⟩)] (fun x : Fin m => #[.slice (some ⟨b, off + x.val * k, none⟩) k k]) (Keep2 Bs Bn) (fun ys => ys.map Fin.val = List.range m) (fun _ => True) m w := fun l J Jx W hW hJ _ hY h0 => by
  exact chb1_in Fe d hF hro hd l Bs Bn A b off len cap k m hk hk2 hm hl hc J Jx hY W ((hW.cell (p := ⟨Bs, 0, none⟩) hs).trans hBs) ((hW.cell (p := ⟨Bn, 0, none⟩) hn).trans hBn) hA hJ h0
end Go.Proofs.Ytefbpaebimagaaa
