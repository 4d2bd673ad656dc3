/-
  Contracts of package heap: Len, Top, Pop, Push, New. No statement is proved here; no conditions.
-/
import Derived.Test.YtkpmdfgjaodlaaaRise
import Derived.Test.YtkpmdfgjaodlaaaSink
import Derived.Test.YtkpmdfgjaodlaaaPut
namespace Go.Proofs.Ytkpmdfgjaodlaaa
open Go.RowKit Go.Joins

/-- Behind block hb lies a heap, in row g, whose items in order are m. -/
def Hp (w : World) (hb g : Nat) (m : List It) : Prop := ∃ A c d, Hr w hb A g c d ∧ Hpf 0 d ∧ Asc m ∧ m.Perm d
section
variable {S : Nat → Prop} {w w' : World} {hb g : Nat} {m : List It}
theorem Hp.lt (h : Hp w hb g m) : hb < w.heap.size := by obtain ⟨A, c, d, h, _⟩ := h; exact h.lt
theorem Hp.glt (h : Hp w hb g m) : g < w.heap.size := by obtain ⟨A, c, d, h, _⟩ := h; exact h.glt
theorem Hp.asc (h : Hp w hb g m) : Asc m := by obtain ⟨A, c, d, _, _, h, _⟩ := h; exact h
theorem Hp.kp (h : Hp w hb g m) (k : Kp S w w') (h1 : ¬ S hb) (h2 : ¬ S g) : Hp w' hb g m := by obtain ⟨A, c, d, h, r⟩ := h; exact ⟨A, c, d, h.kp k h1 h2, r⟩
theorem Hp.below {B : Nat} (h : Hp w hb g m) (k : Below B w w') (hB : w.heap.size ≤ B) : Hp w' hb g m := by obtain ⟨A, c, d, h, r⟩ := h; exact ⟨A, c, d, h.below k hB, r⟩
end
theorem blk2 {w : World} {b : Nat} {u v : Value} {t : TypeId} (h : w.heap[b]? = some (.cells #[u, v] t (0, 0))) : w.cell? ⟨b, 0, none⟩ = some u ∧ w.cell? ⟨b, 1, none⟩ = some v ∧ w.frozen? ⟨b, 0, none⟩ = false ∧ w.frozen? ⟨b, 1, none⟩ = false :=
  ⟨(cell_of_row w b 0 _ _ _ h).trans rfl, (cell_of_row w b 1 _ _ _ h).trans rfl, by simp [World.frozen?, h], by simp [World.frozen?, h]⟩
theorem blk2_set {w : World} {b : Nat} {u v : Value} {t : TypeId} (x y : Value) (h : w.heap[b]? = some (.cells #[u, v] t (0, 0))) : ((w.setCell ⟨b, 0, none⟩ x).setCell ⟨b, 1, none⟩ y).heap[b]? = some (.cells #[x, y] t (0, 0)) := by
  have h1 : (w.setCell ⟨b, 0, none⟩ x).heap[b]? = some (.cells #[x, v] t (0, 0)) := by
    rw [setCell_eq_setRow w b 0 _ t (0, 0) x h]
    exact setRow_heap w b _ _ t (0, 0) h
  rw [setCell_eq_setRow _ b 1 _ t (0, 0) y h1]
  exact setRow_heap _ b _ _ t (0, 0) h1
/-- The first one, or nothing. -/
def hd (m : List It) : It := m.headD (0, 0)
def some_ (m : List It) : Bool := !m.isEmpty

theorem len_nil (w : World) : Calls Try.prog 48 #[.pointer none] w fun e w' => e = .returned (.int .i64 0) ∧ w' = w := by
  go_enter Try.func48, Try.ntmps48
  go_wp2
  go_ret
  exact ⟨rfl, rfl⟩
theorem len_raw (hb : Nat) (A : Option Addr) (g c : Nat) (d : List It) (w : World) (h : Hr w hb A g c d) : Calls Try.prog 48 #[.pointer (some ⟨hb, 0, none⟩)] w fun e w' => e = .returned (.int .i64 d.length) ∧ w' = w := by
  have c0 := h.cell0
  clear h
  go_enter Try.func48, Try.ntmps48
  go_wp2
  go_ret
  exact ⟨rfl, rfl⟩
theorem len_any (hb g : Nat) (m : List It) (w : World) (h : Hp w hb g m) : Calls Try.prog 48 #[.pointer (some ⟨hb, 0, none⟩)] w fun e w' => e = .returned (.int .i64 m.length) ∧ w' = w := by
  obtain ⟨A, c, d, h1, _, _, h2⟩ := h
  rw [h2.length_eq]
  exact len_raw hb A g c d w h1
theorem top_nil (w : World) : Calls Try.prog 41 #[.pointer none] w fun e w' => e = .returned (.tuple #[iv (0, 0), .bool false]) ∧ Below w.heap.size w w' := by
  go_enter Try.func41, Try.ntmps41
  go_wp2_with fail
  refine (len_nil _).mono ?_
  rintro e W ⟨rfl, hW⟩
  subst hW
  go_wp2
  exact bodyPost_ret (v := .tuple #[iv (0, 0), .bool false]) (by simp [results, Try.results41, go_sem]) rfl ⟨rfl, below_alloc1 _ _⟩
theorem top_any (hb g : Nat) (m : List It) (w : World) (h : Hp w hb g m) : Calls Try.prog 41 #[.pointer (some ⟨hb, 0, none⟩)] w fun e w' => e = .returned (.tuple #[iv (hd m), .bool (some_ m)]) ∧ Below w.heap.size w w' := by
  obtain ⟨A, c, d, h1, h2, h3, h4⟩ := h
  cases m with
  | nil =>
    obtain rfl : d = [] := List.nil_perm.1 h4
    have ln : ∀ W, Below w.heap.size w W → _ := fun W hW => len_raw hb A g c [] W (h1.below hW (Nat.le_refl _))
    clear h1 h2 h3 h4
    go_enter Try.func41, Try.ntmps41
    go_wp2_with fail
    refine (ln _ (below_alloc1 _ _)).mono ?_
    rintro e W ⟨rfl, hW⟩
    subst hW
    go_wp2
    exact bodyPost_ret (v := .tuple #[iv (0, 0), .bool false]) (by simp [results, Try.results41, go_sem]) rfl ⟨rfl, below_alloc1 _ _⟩
  | cons x m =>
    have h5 := top_eq h2 h3 h4
    have hpos : 0 < d.length := by have := h4.length_eq; simp at this; omega
    obtain ⟨rfl, hR⟩ := h1.row hpos
    have ln : ∀ W, Below w.heap.size w W → _ := fun W hW => len_raw hb _ g c d W (h1.below hW (Nat.le_refl _))
    have b1 := below_alloc1 w (.cells #[.int .u64 0, .int .i64 0] 60)
    have c0 := (h1.below b1 (Nat.le_refl _)).cell0
    have c1 := ((hR.below b1 hR.lt).cell hpos).1
    have c2 := ((hR.below b1 hR.lt).cell hpos).2
    rw [h5] at c1 c2
    have hz : (((d.length : Nat) : Int) == 0) = false := by simp; intro h0; simp [h0] at hpos
    have hz2 : (0 : Int) < (d.length : Int) := by omega
    clear h1 h2 h3 h4 h5 hR
    go_enter Try.func41, Try.ntmps41
    go_wp2_with fail
    refine (ln _ b1).mono ?_
    rintro e W ⟨rfl, hW⟩
    subst hW
    go_wp2
    exact bodyPost_ret (v := .tuple #[iv x, .bool true]) (by simp [results, Try.results41, go_sem]) rfl ⟨rfl, below_alloc1 _ _⟩

theorem blk_alloc {w : World} {b : Nat} {o o' : Obj} (h : w.heap[b]? = some o) : (w.alloc o').heap[b]? = some o := (Below.heap_alloc w o' b (lt_of_block h)).trans h
theorem pop_nil (w : World) : Calls Try.prog 30 #[.pointer none] w fun e w' => e = .returned (.tuple #[iv (0, 0), .bool false]) ∧ Below w.heap.size w w' := by
  go_enter Try.func30, Try.ntmps30
  go_wp2_with fail
  refine (top_nil _).mono ?_
  rintro e W ⟨rfl, hW⟩
  have h0 := blk_alloc (o' := .cells #[.int .u64 0, .int .i64 0] 60) ((hW.block w.heap.size (by simp)).trans (Go.heap_alloc_new w _))
  obtain ⟨c0, c1, f0, f1⟩ := blk2 h0
  have r2 := blk2 (blk2_set (.int .u64 0) (.int .i64 0) h0)
  have H := Lib.hid (((below_alloc1 w _).trans (hW.mono (by simp))).trans ((below_alloc1 W (.cells #[.int .u64 0, .int .i64 0] 60)).mono (by have := hW.size; simp at this; omega)))
  clear h0 hW
  go_wp2
  refine bodyPost_ret (v := .tuple #[iv (0, 0), .bool false]) (by simp [results, Try.results30, go_sem, r2]) rfl ⟨rfl, ?_⟩
  exact (H.out.setCell (Nat.le_refl _) _).setCell (Nat.le_refl _) _
end Go.Proofs.Ytkpmdfgjaodlaaa
