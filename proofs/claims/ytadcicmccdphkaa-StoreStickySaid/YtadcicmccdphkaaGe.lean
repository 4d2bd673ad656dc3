/-
  General lemmas on bytes, pieces of rows and strings out of bytes that are read. No statement is proved here; no conditions.
-/
import Derived.Test.YtadcicmccdphkaaCat
import Derived.Test.YtadcicmccdphkaaOct
import Derived.Test.YtadcicmccdphkaaPlace
import Derived.Deep.DeepCutAuto
import Derived.Lib.QuietBelow
import Derived.Deep.RegionHeldLaw
namespace Go.Proofs.Ytadcicmccdphkaa
open Go.RowKit Go.Joins

theorem wrap_u32 {n : Int} (h0 : 0 ≤ n) (h1 : n < 4294967296) : IntKind.u32.wrap n = n := by
  simp [IntKind.wrap, IntKind.bits, IntKind.signed]
  omega
theorem wrap_i64 {n : Int} (h0 : 0 ≤ n) (h1 : n < 9223372036854775808) : IntKind.i64.wrap n = n := by
  simp [IntKind.wrap, IntKind.bits, IntKind.signed]
  omega
theorem wrap_u8 {n : Int} (h0 : 0 ≤ n) (h1 : n < 256) : IntKind.u8.wrap n = n := by
  simp [IntKind.wrap, IntKind.bits, IntKind.signed]
  omega
theorem ret_bool {a b : Bool} (h : a = b) : Ending.returned (.bool a) = .returned (.bool b) := by rw [h]

theorem byt_lit (l : List Int) (h : l.all (fun x => decide (0 ≤ x ∧ x < 256)) = true) : Byt l := fun x hx => by
  have := List.all_eq_true.1 h x hx
  simpa using this
theorem concat_n (P0 : Option Addr) (n pc : Nat) (ps : List Pc) (w : World) (hn : n = ps.length) (hP : Ps w P0 ps) (hr : ∀ p ∈ ps, Bt w p.a p.l) (hpl : ps.length ≤ 100) (hll : (cat ps).length ≤ 10000) :
    Calls Try.prog 54 #[.slice P0 n pc] w fun e w' => ∃ A' c', e = .returned (.slice A' (cat ps).length c') ∧ Own .u8 5 w' w.heap.size A' c' (cat ps) ∧ Below w.heap.size w w' := by
  subst hn
  exact concat_any P0 pc ps w hP hr hpl hll
theorem Ps.mk (w : World) (e : TypeId) (ps : List Pc) (vs : Array Value) (n : Nat) (hn : w.heap.size = n) (hv : vs = (ps.map pv).toArray) : Ps (w.alloc (.cells vs e)) (some ⟨n, 0, none⟩) ps := by
  subst hv hn
  exact Ps.lit w e ps
/-- A row of numbers in a new block. -/
theorem Bs.mk (k : IntKind) (w : World) (e : TypeId) (l : List Int) (vs : Array Value) (n : Nat) (hn : w.heap.size = n) (hl : l.length ≤ maxLen) (hv : vs = (l.map (Value.int k)).toArray) : Bs k (w.alloc (.cells vs e)) (w.alloc (.cells vs e)).heap.size (some ⟨n, 0, none⟩) l := by
  subst hv hn
  exact (Own.lit (e := e) w 0 (Nat.zero_le _) l hl).bs
/-- k bytes from place i on. -/
def sub (l : List Int) (i k : Nat) : List Int := (l.drop i).take k
theorem sub_byt {l : List Int} (hy : Byt l) (i k : Nat) : Byt (sub l i k) := (hy.drop i).take k
theorem sub_len {l : List Int} {i k : Nat} (h : i + k ≤ l.length) : (sub l i k).length = k := by simp [sub]; omega
theorem num_two {l : List Int} (hy : Byt l) (h : l.length = 2) : 0 ≤ num l ∧ num l < 65536 := by
  have := num_bd l hy
  rw [h] at this
  simpa using this
theorem num_four {l : List Int} (hy : Byt l) (h : l.length = 4) : 0 ≤ num l ∧ num l < 4294967296 := by
  have := num_bd l hy
  rw [h] at this
  simpa using this
/-- A piece of bytes that are read. -/
theorem Bs.sub {k : IntKind} {w : World} {B b off : Nat} {l : List Int} (h : Bs k w B (some ⟨b, off, none⟩) l) (i j : Nat) : Bs k w B (some ⟨b, off + i, none⟩) (sub l i j) :=
  (h.drop i (some ⟨b, off + i, none⟩) (fun _ => by simp [addr_add])).take j
theorem byt_getD {l : List Int} (hy : Byt l) (i : Nat) : 0 ≤ l.getD i 0 ∧ l.getD i 0 < 256 := by
  by_cases h : i < l.length
  · have := hy l[i] (List.getElem_mem h)
    simpa [List.getD, h] using this
  · simp [List.getD, List.getElem?_eq_none (Nat.le_of_not_lt h)]
theorem Bs.get {k : IntKind} {w : World} {B b off : Nat} {l : List Int} (h : Bs k w B (some ⟨b, off, none⟩) l) {i : Nat} (hi : i < l.length) : w.cell? ⟨b, off + i, none⟩ = some (.int k (l.getD i 0)) := by
  obtain ⟨b', off', e, _, h⟩ := h.at_ hi
  simp only [Option.some.injEq, Addr.mk.injEq] at e
  obtain ⟨rfl, rfl, _⟩ := e
  exact h
theorem Bs.blk {k : IntKind} {w : World} {B g o : Nat} {l : List Int} (h : Bs k w B (some ⟨g, o, none⟩) l) (hl : l ≠ []) : g < B := by
  obtain ⟨b, off, hA, hb, -⟩ := h hl
  injection hA with hA
  injection hA with h1 _
  omega
theorem take_sub (l : List Int) (i k : Nat) : l.take (i + k) = l.take i ++ sub l i k := by
  unfold sub
  exact List.take_add
theorem be_sub {l : List Int} (hy : Byt l) (i k : Nat) (h : i + k ≤ l.length) : be (num (sub l i k)) k = sub l i k := by
  have := be_num (sub l i k) (sub_byt hy i k)
  rwa [sub_len h] at this
theorem sub_one {l : List Int} (i : Nat) (h : i < l.length) : sub l i 1 = [l.getD i 0] := by
  apply List.ext_getElem?
  intro j
  rcases j with _ | j
  · simp [sub, List.getD, h]
  · simp [sub]
    omega
theorem sub_mid (X M Y : List Int) (i k : Nat) (h1 : X.length = i) (h2 : M.length = k) : sub (X ++ (M ++ Y)) i k = M := by
  unfold sub
  rw [List.drop_left' h1, List.take_left' h2]
theorem getD_app {X Y : List Int} {i j : Nat} (h : X.length = i) : (X ++ Y).getD (i + j) 0 = Y.getD j 0 := by
  simp only [List.getD]
  rw [List.getElem?_append_right (by omega), h, Nat.add_sub_cancel_left]
theorem num_pair (l : List Int) (h : l.length = 2) : num l = l.getD 0 0 * 256 + l.getD 1 0 := by
  match l, h with
  | [x, y], _ => simp [num]
theorem be1 (n : Int) (h0 : 0 ≤ n) (h1 : n < 256) : be n 1 = [n] := by
  simp [be]
  omega
theorem be2 (n : Int) (h0 : 0 ≤ n) (h1 : n < 65536) : be n 2 = [n / 256, n % 256] := by
  simp [be]
  omega
theorem be4 (n : Int) (h0 : 0 ≤ n) (h1 : n < 4294967296) : be n 4 = [n / 16777216, n / 65536 % 256, n / 256 % 256, n % 256] := by
  simp [be]
  omega
/-- A string out of bytes that are read, in every world of the class. -/
theorem str_regrown {w : World} {A : Option Addr} {l : List Int} {n c : Nat} (h : Bt w A l) (hn : n = l.length) (d : Nat) (os : Array Obj) : (convert 32 9 (.slice A n c)).run Try.prog (Go.Sort.grow (redrawn w d) os) = .ok (.string (strOfNums l)) (Go.Sort.grow (redrawn w d) os) := by
  subst hn
  exact run_str _ 32 5 9 Try.underlying32 Try.underlying5 Try.underlying9 _ A c l (h.step (below_regrown w d os))
end Go.Proofs.Ytadcicmccdphkaa
