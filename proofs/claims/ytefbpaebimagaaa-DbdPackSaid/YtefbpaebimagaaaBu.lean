/-
  Rows of advertisements that grow. No statement is proved here; no conditions.
-/
import Derived.Test.YtefbpaebimagaaaFg
import Derived.Test.YtefbpaebimagaaaTh
namespace Go.Proofs.Ytefbpaebimagaaa
open Go.RowKit Go.Joins

/-- The body lies in a block of bytes. -/
def Bu (w : World) (x : Ae) : Prop := Bt w x.A x.l ∧ ∀ b off, x.A = some ⟨b, off, none⟩ → x.l ≠ [] → b < w.heap.size ∧ ∃ cur m, w.heap[b]? = some (.cells cur 5 m)
theorem Bu.keep {w w' : World} {x : Ae} (h : Bu w x) (hs : w.heap.size ≤ w'.heap.size) (hk : ∀ b off, x.A = some ⟨b, off, none⟩ → x.l ≠ [] → w'.heap[b]? = w.heap[b]?) : Bu w' x := by
  refine ⟨fun hl => ?_, fun b off e hl => ?_⟩
  · obtain ⟨b, off, e, hb, hc⟩ := h.1 hl
    exact ⟨b, off, e, by omega, fun i hi => (World.cell?_of_block (hk b off e hl)).trans (hc i hi)⟩
  · obtain ⟨h1, cur, m, h2⟩ := h.2 b off e hl
    exact ⟨by omega, cur, m, (hk b off e hl).trans h2⟩
theorem Bu.step {w w' : World} {x : Ae} (h : Bu w x) (k : Below w.heap.size w w') : Bu w' x := h.keep k.size fun b off e hl => k.block b (h.2 b off e hl).1
theorem Bu.of_own {w : World} {base c : Nat} {x : Ae} (h : Own .u8 5 w base x.A c x.l) : Bu w x := by
  refine ⟨h.bs, fun b off e hl => ?_⟩
  rcases h.form with ⟨_, _, h0⟩ | ⟨g, cur, hA, _, hlt, hg, _⟩
  · exact absurd h0 hl
  · rw [hA] at e
    injection e with e
    injection e with e1 _
    subst e1
    exact ⟨hlt, cur, _, hg⟩
/-- A row of the call's own, in a block from base on; its bodies lie in blocks of bytes. -/
structure Aro (base : Nat) (w : World) (A : Option Addr) (c : Nat) (L : List Ae) : Prop where
  row : Ob 87 9 (base ≤ ·) w A c (aflat L)
  bod : ∀ x ∈ L, Bu w x
theorem Aro.nil (base : Nat) (w : World) : Aro base w none 0 [] := ⟨.inl ⟨rfl, rfl, rfl⟩, fun x hx => by cases hx⟩
theorem Aro.step {base : Nat} {w w' : World} {A : Option Addr} {c : Nat} {L : List Ae} (h : Aro base w A c L) (k : Below w.heap.size w w') : Aro base w' A c L := ⟨Ob.below h.row k, fun x hx => (h.bod x hx).step k⟩
theorem Aro.arr {base : Nat} {w : World} {A : Option Addr} {c : Nat} {L : List Ae} (h : Aro base w A c L) : Arr w A L := ⟨Ob.rd h.row, fun x hx => (h.bod x hx).1⟩
theorem infoA : (Try.prog.info? 87).map (fun i => (i.zero, i.size, i.bytes)) = some (some (.agg #[.int .i64 0, .int .i64 0, .int .i64 0, .int .u32 0, .int .u32 0, .int .u32 0, .int .i64 0, .int .i64 0, .slice none 0 0]), 9, 80) := by kernel_rfl
theorem Ob.typed {e : TypeId} {sz : Nat} {S : Nat → Prop} {w : World} {A : Option Addr} {c : Nat} {cs : List Value} (h : Ob e sz S w A c cs) {j : Nat} (hj : A = some ⟨j, 0, none⟩) : ∃ cur m, w.heap[j]? = some (.cells cur e m) := by
  rcases h with ⟨rfl, _, _⟩ | ⟨g, hg, rfl, cur, hc, _⟩
  · cases hj
  · injection hj with hj
    injection hj with hj
    subst hj
    exact ⟨cur, _, hc⟩
/-- A body's block is none of advertisements. -/
theorem Bu.apart {w : World} {x : Ae} (h : Bu w x) {e : TypeId} {sz : Nat} {S : Nat → Prop} {A : Option Addr} {c : Nat} {cs : List Value} (ho : Ob e sz S w A c cs) (hne : e ≠ 5) : ∀ b off, x.A = some ⟨b, off, none⟩ → x.l ≠ [] → ¬ (A = some ⟨b, 0, none⟩) := by
  intro b off e1 hl hA
  obtain ⟨_, cur, m, h2⟩ := h.2 b off e1 hl
  obtain ⟨cur2, m2, h3⟩ := ho.typed hA
  rw [h2] at h3
  injection h3 with h3
  injection h3 with _ h4 _
  exact hne h4.symm
/-- A row one advertisement longer. -/
theorem aro_app {base : Nat} {w : World} {A : Option Addr} {c n : Nat} {L : List Ae} (h : Aro base w A c L) (hn : L.length = n) (x : Ae) (hx : Bu w x) (hb : n ≤ 100000) (n0 : Nat) (hn0 : w.heap.size = n0) (hbase : base ≤ w.heap.size) :
    ∃ g' c' w', (Builtin.append_ #[51, 51] 51 #[.slice A n c, .slice (some ⟨n0, 0, none⟩) 1 1]).run Try.prog (w.alloc (.cells (acs x).toArray 87)) = .ok (.slice (some ⟨g', 0, none⟩) (n + 1) c') w' ∧ Aro base w' (some ⟨g', 0, none⟩) c' (L ++ [x]) ∧ Below base w w' ∧ Kp (fun j => A = some ⟨j, 0, none⟩) w w' := by
  obtain ⟨i0, hi0, hz0, hz1, hz2⟩ := info_of infoA
  obtain ⟨g9, c9, Z9, r9, rg9, kp9, hg9⟩ := app_oneA (P := Try.prog) (S := (base ≤ ·)) Try.underlying51 hi0 hz0 hz1 hz2 rfl (by decide) (by decide) h.row (n := n) (by rw [aflat_length, hn]) (acs x) rfl (acs_one x) hb n0 hn0
  have bu : ∀ y, Bu w y → Bu Z9 y := fun y hy => hy.keep kp9.size fun b off e hl => kp9.block b (hy.2 b off e hl).1 (hy.apart h.row (by decide) b off e hl)
  refine ⟨g9, c9, Z9, r9, ⟨.inr ⟨g9, ?_, rfl, by rw [aflat_snoc]; exact rg9⟩, fun y hy => ?_⟩, kp9.below (fun j hj => h.row.at hj) hbase, kp9⟩
  · rcases hg9 with q | q
    · exact q
    · show base ≤ g9; omega
  · rcases List.mem_append.1 hy with q | q
    · exact bu y (h.bod y q)
    · obtain rfl := List.mem_singleton.1 q
      exact bu y hx
end Go.Proofs.Ytefbpaebimagaaa
