/-
  A trie in memory: its nodes and entries by their keys, and what a store does to them. No statement is proved here; no conditions.
-/
import Derived.Test.YtlmcgjdenfnkmaaEnt2
import Derived.Laws.Rows
namespace Go.Proofs.Ytlmcgjdenfnkmaa
open Go.RowKit Go.Joins

/-- A pointer to a block, or nil. -/
abbrev po (o : Option Nat) : Value := .pointer (o.map fun g => (⟨g, 0, none⟩ : Addr))
/-- A node's block; the root's (key 1) has the count behind it. -/
def nbo (k : Nat) (a b e : Value) (c : Int) : Obj := if k = 1 then .cells #[a, b, e, .int .i64 c] 66 (0, 0) else .cells #[a, b, e] 64 (0, 0)
/-- An entry's block. -/
abbrev ebo (x : En) : Obj := .cells #[.int .u32 (x.A : Int), .int .i64 x.N, .int .i64 x.V] 39 (0, 0)
section
variable {w : World} {g k : Nat} {a b e : Value} {c : Int}
theorem nbo_cell (h : w.heap[g]? = some (nbo k a b e c)) : w.cell? ⟨g, 0, none⟩ = some a ∧ w.cell? ⟨g, 1, none⟩ = some b ∧ w.cell? ⟨g, 2, none⟩ = some e ∧ w.frozen? ⟨g, 0, none⟩ = false ∧ w.frozen? ⟨g, 1, none⟩ = false ∧ w.frozen? ⟨g, 2, none⟩ = false := by
  unfold nbo at h
  split at h
  all_goals exact ⟨(cell_of_row w g 0 _ _ _ h).trans rfl, (cell_of_row w g 1 _ _ _ h).trans rfl, (cell_of_row w g 2 _ _ _ h).trans rfl, by simp [World.frozen?, h], by simp [World.frozen?, h], by simp [World.frozen?, h]⟩
theorem nbo_set0 (h : w.heap[g]? = some (nbo k a b e c)) (v : Value) : (w.setCell ⟨g, 0, none⟩ v).heap[g]? = some (nbo k v b e c) := by
  unfold nbo at h ⊢
  split at h
  all_goals (rw [heap_setCell_same w g 0 _ _ v h]; simp [*])
theorem nbo_set1 (h : w.heap[g]? = some (nbo k a b e c)) (v : Value) : (w.setCell ⟨g, 1, none⟩ v).heap[g]? = some (nbo k a v e c) := by
  unfold nbo at h ⊢
  split at h
  all_goals (rw [heap_setCell_same w g 1 _ _ v h]; simp [*])
theorem nbo_set2 (h : w.heap[g]? = some (nbo k a b e c)) (v : Value) : (w.setCell ⟨g, 2, none⟩ v).heap[g]? = some (nbo k a b v c) := by
  unfold nbo at h ⊢
  split at h
  all_goals (rw [heap_setCell_same w g 2 _ _ v h]; simp [*])
theorem nbo_count (h : w.heap[g]? = some (nbo 1 a b e c)) : w.cell? ⟨g, 3, none⟩ = some (.int .i64 c) ∧ w.frozen? ⟨g, 3, none⟩ = false := by
  unfold nbo at h
  rw [if_pos rfl] at h
  exact ⟨(cell_of_row w g 3 _ _ _ h).trans rfl, by simp [World.frozen?, h]⟩
theorem nbo_set3 (h : w.heap[g]? = some (nbo 1 a b e c)) (d : Int) : (w.setCell ⟨g, 3, none⟩ (.int .i64 d)).heap[g]? = some (nbo 1 a b e d) := by
  unfold nbo at h ⊢
  rw [if_pos rfl] at h ⊢
  rw [heap_setCell_same w g 3 _ _ _ h]
  simp
theorem nbo_ebo {f : Nat} {x : En} (h : w.heap[g]? = some (nbo k a b e c)) (hf : w.heap[f]? = some (ebo x)) : f ≠ g := by
  rintro rfl
  rw [h] at hf
  unfold nbo at hf
  split at hf <;> simp at hf
theorem ebo_cell {x : En} (h : w.heap[g]? = some (ebo x)) : w.cell? ⟨g, 0, none⟩ = some (.int .u32 (x.A : Int)) ∧ w.cell? ⟨g, 1, none⟩ = some (.int .i64 x.N) ∧ w.cell? ⟨g, 2, none⟩ = some (.int .i64 x.V) :=
  ⟨(cell_of_row w g 0 _ _ _ h).trans rfl, (cell_of_row w g 1 _ _ _ h).trans rfl, (cell_of_row w g 2 _ _ _ h).trans rfl⟩
theorem nbo_any (hk : k ≠ 1) (c d : Int) : nbo k a b e c = nbo k a b e d := by
  unfold nbo
  rw [if_neg hk, if_neg hk]
end

/-- A function with one place changed. -/
def upd (f : Nat → Option Nat) (k : Nat) (v : Option Nat) : Nat → Option Nat := fun j => if j = k then v else f j
theorem upd_at (f : Nat → Option Nat) (k : Nat) (v : Option Nat) : upd f k v k = v := by simp [upd]
theorem upd_ne {f : Nat → Option Nat} {k j : Nat} (v : Option Nat) (h : j ≠ k) : upd f k v j = f j := by simp [upd, h]

/-- The trie at block tb: nodes nd and entries en by their keys; the entries are m, and the count is c. -/
structure Tn (w : World) (tb : Nat) (nd en : Nat → Option Nat) (m : List En) (c : Int) : Prop where
  om : Om m
  root : nd 1 = some tb
  node : ∀ k g, nd k = some g → w.heap[g]? = some (nbo k (po (nd (2 * k))) (po (nd (2 * k + 1))) (po (en k)) c)
  pos : ∀ k g, nd k = some g → 0 < k ∧ k < 8589934592
  up : ∀ k b, b < 2 → 0 < k → nd k = none → nd (2 * k + b) = none
  inj : ∀ k k' g, nd k = some g → nd k' = some g → k = k'
  enof : ∀ k e, en k = some e → nd k ≠ none ∧ ∃ x ∈ m, kx x = k ∧ w.heap[e]? = some (ebo x)
  all : ∀ x ∈ m, en (kx x) ≠ none
/-- The trie's blocks. -/
def Bk (nd en : Nat → Option Nat) (j : Nat) : Prop := (∃ k, nd k = some j) ∨ ∃ k, en k = some j
section
variable {w w' : World} {tb g k b : Nat} {nd en : Nat → Option Nat} {m : List En} {c : Int}
theorem Tn.lt (h : Tn w tb nd en m c) {j : Nat} (hj : Bk nd en j) : j < w.heap.size := by
  rcases hj with ⟨k, hk⟩ | ⟨k, hk⟩
  · exact lt_of_block (h.node k j hk)
  · obtain ⟨_, x, _, _, hx⟩ := h.enof k j hk
    exact lt_of_block hx
theorem Tn.keep (h : Tn w tb nd en m c) (hk : ∀ j, Bk nd en j → w'.heap[j]? = w.heap[j]?) : Tn w' tb nd en m c where
  om := h.om
  root := h.root
  node k g hg := (hk g (.inl ⟨k, hg⟩)).trans (h.node k g hg)
  pos := h.pos
  up := h.up
  inj := h.inj
  enof k e he := by
    obtain ⟨h1, x, h2, h3, h4⟩ := h.enof k e he
    exact ⟨h1, x, h2, h3, (hk e (.inr ⟨k, he⟩)).trans h4⟩
  all := h.all
theorem Tn.below (h : Tn w tb nd en m c) (hb : Below w.heap.size w w') : Tn w' tb nd en m c := h.keep fun j hj => hb.block j (h.lt hj)
theorem Tn.kp {S : Nat → Prop} (h : Tn w tb nd en m c) (hb : Kp S w w') (hS : ∀ j, Bk nd en j → ¬ S j) : Tn w' tb nd en m c := h.keep fun j hj => hb.block j (h.lt hj) (hS j hj)
theorem Tn.alloc (h : Tn w tb nd en m c) (o : Obj) : Tn (w.alloc o) tb nd en m c := h.keep fun _ hj => Below.heap_alloc w o _ (h.lt hj)
theorem Tn.drew (h : Tn w tb nd en m c) : Tn w.drew tb nd en m c := h.keep fun _ _ => rfl
theorem Tn.cells (h : Tn w tb nd en m c) (hg : nd k = some g) : w.cell? ⟨g, 0, none⟩ = some (po (nd (2 * k))) ∧ w.cell? ⟨g, 1, none⟩ = some (po (nd (2 * k + 1))) ∧ w.cell? ⟨g, 2, none⟩ = some (po (en k)) ∧ w.frozen? ⟨g, 0, none⟩ = false ∧ w.frozen? ⟨g, 1, none⟩ = false ∧ w.frozen? ⟨g, 2, none⟩ = false := nbo_cell (h.node k g hg)
theorem Tn.child (h : Tn w tb nd en m c) (hg : nd k = some g) (hb : b < 2) : w.cell? ⟨g, b, none⟩ = some (po (nd (2 * k + b))) ∧ w.frozen? ⟨g, b, none⟩ = false := by
  obtain ⟨h0, h1, _, f0, f1, _⟩ := h.cells hg
  obtain rfl | rfl : b = 0 ∨ b = 1 := by omega
  · exact ⟨h0, f0⟩
  · exact ⟨h1, f1⟩
theorem Tn.cnt (h : Tn w tb nd en m c) : w.cell? ⟨tb, 3, none⟩ = some (.int .i64 c) ∧ w.frozen? ⟨tb, 3, none⟩ = false := nbo_count (h.node 1 tb h.root)
theorem Tn.entry (h : Tn w tb nd en m c) {e : Nat} (he : en k = some e) : ∃ x, x ∈ m ∧ kx x = k ∧ atk m k = some x ∧ w.heap[e]? = some (ebo x) := by
  obtain ⟨_, x, h1, h2, h3⟩ := h.enof k e he
  exact ⟨x, h1, h2, (atk_some h.om).2 ⟨h1, h2⟩, h3⟩
theorem Tn.noentry (h : Tn w tb nd en m c) (he : en k = none) : atk m k = none := by
  rw [atk_none]
  rintro x hx rfl
  exact h.all x hx he
theorem Tn.nonode (h : Tn w tb nd en m c) (hg : nd k = none) : en k = none := by
  cases e : en k with
  | none => rfl
  | some x => exact absurd hg (h.enof k x e).1
/-- What is not there has nothing behind it. -/
theorem Tn.dead (h : Tn w tb nd en m c) {A n : Nat} (hn : nd (ky A n) = none) : ∀ i, n ≤ i → i ≤ 32 → nd (ky A i) = none := by
  intro i hi
  induction i with
  | zero => intro _; rwa [show n = 0 by omega] at hn
  | succ i ih =>
    intro h32
    rcases Nat.lt_or_ge i n with q | q
    · rwa [show n = i + 1 by omega] at hn
    · rw [ky_succ (by omega)]
      exact h.up _ _ (bt_lt _ _) (ky_pos (by omega)) (ih q (by omega))
/-- Whoever has an entry under a key has a node there. -/
theorem Tn.under (h : Tn w tb nd en m c) {n : Nat} {x : En} (hx : x ∈ m) (hn : n ≤ cl x.N) : nd (ky x.A n) ≠ none := by
  intro e
  have h1 := h.dead e (cl x.N) hn (cl_le _)
  exact h.all x hx (h.nonode h1)

/-- A new node as a child. -/
theorem Tn.grow (h : Tn w tb nd en m c) (hg : nd k = some g) (hb : b < 2) (hn : nd (2 * k + b) = none) (hK : 2 * k + b < 8589934592) :
    Tn ((w.alloc (.cells #[po none, po none, po none] 64)).setCell ⟨g, b, none⟩ (po (some w.heap.size))) tb (upd nd (2 * k + b) (some w.heap.size)) en m c := by
  have hk := h.pos k g hg
  have hgl := h.lt (.inl ⟨k, hg⟩)
  have ha := h.alloc (.cells #[po none, po none, po none] 64)
  have hsz : ∀ j, Bk nd en j → j ≠ w.heap.size := fun j hj e => by have := h.lt hj; omega
  have hblk : ∀ j, j ≠ g → ((w.alloc (.cells #[po none, po none, po none] 64)).setCell ⟨g, b, none⟩ (po (some w.heap.size))).heap[j]? = (w.alloc (.cells #[po none, po none, po none] 64)).heap[j]? := fun j hj => heap_setCell_other _ _ _ _ hj
  have hnew : (w.alloc (.cells #[po none, po none, po none] 64)).heap[w.heap.size]? = some (.cells #[po none, po none, po none] 64) := heap_alloc_new w _
  have hup := fun b' hb' => h.up (2 * k + b) b' hb' (by omega) hn
  refine ⟨h.om, ?_, ?_, ?_, ?_, ?_, ?_, h.all⟩
  · rw [upd_ne _ (by omega)]; exact h.root
  · intro j i hj
    by_cases e : j = 2 * k + b
    · subst e
      rw [upd_at] at hj
      obtain rfl : w.heap.size = i := by simpa using hj
      rw [hblk _ (by omega), hnew, upd_ne _ (by omega), upd_ne _ (by omega), show nd (2 * (2 * k + b)) = none from hup 0 (by omega), hup 1 (by omega), h.nonode hn]
      unfold nbo
      rw [if_neg (by omega)]
    · rw [upd_ne _ e] at hj
      by_cases ei : j = k
      · subst ei
        obtain rfl : g = i := by rw [hg] at hj; simpa using hj
        have hq := ha.node j g hj
        obtain rfl | rfl : b = 0 ∨ b = 1 := by omega
        · rw [nbo_set0 hq, show upd nd (2 * j + 0) _ (2 * j) = _ from upd_at _ _ _, upd_ne _ (by omega)]
        · rw [nbo_set1 hq, upd_at, upd_ne _ (by omega)]
      · have h1 := ha.node j i hj
        have h2 := h.pos j i hj
        rw [hblk _ (fun e2 => ei (h.inj j k g (e2 ▸ hj) hg)), h1, upd_ne _ (by omega), upd_ne _ (by omega)]
  · intro j i hj
    by_cases e : j = 2 * k + b
    · subst e; omega
    · rw [upd_ne _ e] at hj; exact h.pos j i hj
  · intro j b' hb' hj0 hj
    by_cases e : j = 2 * k + b
    · subst e
      rw [upd_at] at hj
      cases hj
    · rw [upd_ne _ e] at hj
      have h2 := h.up j b' hb' hj0 hj
      by_cases e2 : 2 * j + b' = 2 * k + b
      · have : j = k := by omega
        subst this
        rw [hg] at hj
        cases hj
      · rw [upd_ne _ e2]; exact h2
  · intro j j' i hj hj'
    by_cases e : j = 2 * k + b <;> by_cases e' : j' = 2 * k + b
    · omega
    · rw [upd_ne _ e'] at hj'
      subst e
      rw [upd_at] at hj
      exact absurd (by simpa using hj.symm) (hsz i (.inl ⟨_, hj'⟩))
    · rw [upd_ne _ e] at hj
      subst e'
      rw [upd_at] at hj'
      exact absurd (by simpa using hj'.symm) (hsz i (.inl ⟨_, hj⟩))
    · rw [upd_ne _ e] at hj
      rw [upd_ne _ e'] at hj'
      exact h.inj j j' i hj hj'
  · intro j e he
    obtain ⟨h1, x, h2, h3, h4⟩ := ha.enof j e he
    refine ⟨?_, x, h2, h3, ?_⟩
    · by_cases ej : j = 2 * k + b
      · rw [ej, upd_at]; simp
      · rw [upd_ne _ ej]; exact h1
    · rw [hblk _ (nbo_ebo (ha.node k g hg) h4)]
      exact h4
theorem Tn.setCount (h : Tn w tb nd en m c) (d : Int) : Tn (w.setCell ⟨tb, 3, none⟩ (.int .i64 d)) tb nd en m d := by
  have hblk : ∀ j, j ≠ tb → (w.setCell ⟨tb, 3, none⟩ (.int .i64 d)).heap[j]? = w.heap[j]? := fun j hj => heap_setCell_other _ _ _ _ hj
  refine ⟨h.om, h.root, ?_, h.pos, h.up, h.inj, ?_, h.all⟩
  · intro j i hj
    by_cases e : j = 1
    · subst e
      obtain rfl : tb = i := by rw [h.root] at hj; simpa using hj
      exact nbo_set3 (h.node 1 tb hj) d
    · rw [hblk _ (fun e2 => e (h.inj j 1 tb (e2 ▸ hj) h.root)), h.node j i hj, nbo_any e c d]
  · intro j e he
    obtain ⟨h1, x, h2, h3, h4⟩ := h.enof j e he
    exact ⟨h1, x, h2, h3, (hblk _ (nbo_ebo (h.node 1 tb h.root) h4)).trans h4⟩
/-- Another entry at a node. -/
theorem Tn.put (h : Tn w tb nd en m c) {x : En} {e : Nat} (ho : okp x.A x.N = true) (hx : x.A < 4294967296) (hg : nd (kx x) = some g) (he : w.heap[e]? = some (ebo x)) :
    Tn (w.setCell ⟨g, 2, none⟩ (po (some e))) tb nd (upd en (kx x) (some e)) (setm m x) c := by
  have hblk : ∀ j, j ≠ g → (w.setCell ⟨g, 2, none⟩ (po (some e))).heap[j]? = w.heap[j]? := fun j hj => heap_setCell_other _ _ _ _ hj
  refine ⟨h.om.set ho hx, h.root, ?_, h.pos, h.up, h.inj, ?_, ?_⟩
  · intro j i hj
    by_cases ej : j = kx x
    · subst ej
      obtain rfl : g = i := by rw [hg] at hj; simpa using hj
      rw [upd_at]
      exact nbo_set2 (h.node _ g hj) _
    · rw [hblk _ (fun e2 => ej (h.inj j _ g (e2 ▸ hj) hg)), h.node j i hj, upd_ne _ ej]
  · intro j f hf
    by_cases ej : j = kx x
    · subst ej
      rw [upd_at] at hf
      obtain rfl : e = f := by simpa using hf
      exact ⟨by rw [hg]; simp, x, mem_setm.2 (.inl rfl), rfl, (hblk _ (nbo_ebo (h.node _ g hg) he)).trans he⟩
    · rw [upd_ne _ ej] at hf
      obtain ⟨h1, y, h2, h3, h4⟩ := h.enof j f hf
      refine ⟨h1, y, mem_setm.2 (.inr ⟨h2, ?_⟩), h3, (hblk _ (nbo_ebo (h.node _ g hg) h4)).trans h4⟩
      cases hs : sp x.A x.N y with
      | false => rfl
      | true => exact absurd (h3.symm.trans ((key_sp hx ho (h.om.lt y h2) (h.om.ok y h2)).2 hs)) ej
  · intro y hy
    by_cases ej : kx y = kx x
    · rw [ej, upd_at]; simp
    · rw [upd_ne _ ej]
      rcases mem_setm.1 hy with rfl | hy
      · exact absurd rfl ej
      · exact h.all y hy.1
/-- No entry at a node. -/
theorem Tn.del (h : Tn w tb nd en m c) {x : En} (hxm : x ∈ m) (hg : nd (kx x) = some g) :
    Tn (w.setCell ⟨g, 2, none⟩ (po none)) tb nd (upd en (kx x) none) (dropm m x.A x.N) c := by
  have hblk : ∀ j, j ≠ g → (w.setCell ⟨g, 2, none⟩ (po none)).heap[j]? = w.heap[j]? := fun j hj => heap_setCell_other _ _ _ _ hj
  refine ⟨h.om.drop _ _, h.root, ?_, h.pos, h.up, h.inj, ?_, ?_⟩
  · intro j i hj
    by_cases ej : j = kx x
    · subst ej
      obtain rfl : g = i := by rw [hg] at hj; simpa using hj
      rw [upd_at]
      exact nbo_set2 (h.node _ g hj) _
    · rw [hblk _ (fun e2 => ej (h.inj j _ g (e2 ▸ hj) hg)), h.node j i hj, upd_ne _ ej]
  · intro j f hf
    by_cases ej : j = kx x
    · subst ej
      rw [upd_at] at hf
      cases hf
    · rw [upd_ne _ ej] at hf
      obtain ⟨h1, y, h2, h3, h4⟩ := h.enof j f hf
      refine ⟨h1, y, mem_dropm.2 ⟨h2, ?_⟩, h3, (hblk _ (nbo_ebo (h.node _ g hg) h4)).trans h4⟩
      cases hs : sp x.A x.N y with
      | false => rfl
      | true => exact absurd (h3.symm.trans ((key_sp (h.om.lt x hxm) (h.om.ok x hxm) (h.om.lt y h2) (h.om.ok y h2)).2 hs)) ej
  · intro y hy
    obtain ⟨hy1, hy2⟩ := mem_dropm.1 hy
    by_cases ej : kx y = kx x
    · rw [(key_sp (h.om.lt x hxm) (h.om.ok x hxm) (h.om.lt y hy1) (h.om.ok y hy1)).1 ej] at hy2
      cases hy2
    · rw [upd_ne _ ej]
      exact h.all y hy1
/-- A node that leads to nothing is cut off. -/
theorem Tn.prune (h : Tn w tb nd en m c) (hg : nd k = some g) (hb : b < 2) (hk : 0 < k) (h0 : nd (2 * (2 * k + b)) = none) (h1 : nd (2 * (2 * k + b) + 1) = none) (he : en (2 * k + b) = none) :
    Tn (w.setCell ⟨g, b, none⟩ (po none)) tb (upd nd (2 * k + b) none) en m c := by
  have hblk : ∀ j, j ≠ g → (w.setCell ⟨g, b, none⟩ (po none)).heap[j]? = w.heap[j]? := fun j hj => heap_setCell_other _ _ _ _ hj
  refine ⟨h.om, ?_, ?_, ?_, ?_, ?_, ?_, h.all⟩
  · rw [upd_ne _ (by omega)]; exact h.root
  · intro j i hj
    by_cases e : j = 2 * k + b
    · subst e
      rw [upd_at] at hj
      cases hj
    · rw [upd_ne _ e] at hj
      by_cases ei : j = k
      · subst ei
        obtain rfl : g = i := by rw [hg] at hj; simpa using hj
        have hq := h.node j g hj
        obtain rfl | rfl : b = 0 ∨ b = 1 := by omega
        · rw [nbo_set0 hq, show upd nd (2 * j + 0) _ (2 * j) = _ from upd_at _ _ _, upd_ne _ (by omega)]
        · rw [nbo_set1 hq, upd_at, upd_ne _ (by omega)]
      · have h1 := h.node j i hj
        have h2 := h.pos j i hj
        rw [hblk _ (fun e2 => ei (h.inj j k g (e2 ▸ hj) hg)), h1, upd_ne _ (by omega), upd_ne _ (by omega)]
  · intro j i hj
    by_cases e : j = 2 * k + b
    · subst e; rw [upd_at] at hj; cases hj
    · rw [upd_ne _ e] at hj; exact h.pos j i hj
  · intro j b' hb' hj0 hj
    by_cases e : j = 2 * k + b
    · subst e
      rw [upd_ne _ (by omega)]
      obtain rfl | rfl : b' = 0 ∨ b' = 1 := by omega
      · exact h0
      · exact h1
    · rw [upd_ne _ e] at hj
      have h2 := h.up j b' hb' hj0 hj
      by_cases e2 : 2 * j + b' = 2 * k + b
      · rw [e2, upd_at]
      · rw [upd_ne _ e2]; exact h2
  · intro j j' i hj hj'
    by_cases e : j = 2 * k + b
    · subst e; rw [upd_at] at hj; cases hj
    · by_cases e' : j' = 2 * k + b
      · subst e'; rw [upd_at] at hj'; cases hj'
      · rw [upd_ne _ e] at hj
        rw [upd_ne _ e'] at hj'
        exact h.inj j j' i hj hj'
  · intro j e' he'
    obtain ⟨q1, x, q2, q3, q4⟩ := h.enof j e' he'
    refine ⟨?_, x, q2, q3, ?_⟩
    · by_cases ej : j = 2 * k + b
      · subst ej
        rw [he] at he'
        cases he'
      · rw [upd_ne _ ej]; exact q1
    · rw [hblk _ (nbo_ebo (h.node k g hg) q4)]
      exact q4
end

/-- The trie at block tb has the entries m; all its blocks are of S. -/
def Tz (S : Nat → Prop) (w : World) (tb : Nat) (m : List En) : Prop := ∃ nd en, Tn w tb nd en m (m.length : Int) ∧ ∀ j, Bk nd en j → S j
/-- Whatever was done to it, it has now the entries m. -/
def Grew (S : Nat → Prop) (w : World) (tb : Nat) (m : List En) (w' : World) : Prop := ∃ S' : Nat → Prop, Tz S' w' tb m ∧ Kp S w w' ∧ ∀ j, S' j → S j ∨ w.heap.size ≤ j ∧ j < w'.heap.size
section
variable {S T : Nat → Prop} {w w' : World} {tb : Nat} {m : List En}
theorem Tz.om (h : Tz S w tb m) : Om m := by obtain ⟨_, _, h, _⟩ := h; exact h.om
theorem Tz.below (h : Tz S w tb m) (hb : Below w.heap.size w w') : Tz S w' tb m := by
  obtain ⟨nd, en, h1, h2⟩ := h
  exact ⟨nd, en, h1.below hb, h2⟩
theorem Tz.kp (h : Tz S w tb m) (hb : Kp T w w') (hS : ∀ j, S j → ¬ T j) : Tz S w' tb m := by
  obtain ⟨nd, en, h1, h2⟩ := h
  exact ⟨nd, en, h1.kp hb fun j hj => hS j (h2 j hj), h2⟩
end
end Go.Proofs.Ytlmcgjdenfnkmaa
