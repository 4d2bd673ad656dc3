/-
  The law of append once more, saying that no block but the row's own has changed. No statement is proved here; no conditions.
-/
import Derived.Test.YtpfppacmldjioaaMem
namespace Go.Proofs.Ytpfppacmldjioaa
open Go.RowKit

/-- The block of an address. -/
def blk (A : Option Addr) : Option Nat := A.map (·.block)

section
variable {k : IntKind} {e : TypeId} {w w' : World} {base : Nat} {A : Option Addr} {c : Nat} {l : List Int}
theorem Own.grown {row : Option Nat} (h : Own k e w base A c l) (hg : w.grownBy w' row) (hne : ∀ g, A = some ⟨g, 0, none⟩ → row ≠ some g) : Own k e w' base A c l := by
  rcases h.form with ⟨rfl, rfl, rfl⟩ | ⟨g, cur, rfl, hb, hlt, hg', h1, h2, h3, h4⟩
  · exact Own.nil _ _
  · exact Own.of_form hb ((hg.block g hlt (fun h => hne g rfl h.symm)).trans hg') h1 h2 h3 h4
theorem Own.blk_lt (h : Own k e w base A c l) : ∀ g, blk A = some g → base ≤ g ∧ g < w.heap.size := by
  intro g hg
  rcases h.form with ⟨rfl, _, _⟩ | ⟨g', cur, rfl, hb, hlt, _⟩
  · cases hg
  · simp [blk] at hg; omega
theorem Own.place (h : Own k e w base A c l) {g : Nat} (hA : blk A = some g) : A = some ⟨g, 0, none⟩ := by
  rcases h.form with ⟨rfl, _, _⟩ | ⟨g', cur, rfl, _⟩
  · cases hA
  · simp [blk] at hA; rw [hA]
theorem grown_below {row : Option Nat} (hg : w.grownBy w' row) (hB : base ≤ w.heap.size) (hr : ∀ g, row = some g → base ≤ g) : Below base w w' := (Below.refl base w).grown hg hB hr
end

section
variable {P : Program} (w : World)
theorem run_appg (base : Nat) (t ty e : TypeId) (k : IntKind) (i : TypeInfo) (z : Value) (bytes : Nat) (ht : P.underlying t = some (.slice e)) (hi : P.info? e = some i) (hz : i.zero = some z)
    (hsize : i.size = 1) (hby : i.bytes = bytes) (hzs : z.cells.size = 1) (A : Option Addr) (c : Nat) (l : List Int) (hown : Own k e w base A c l)
    (B : Nat) (A2 : Option Addr) (c2 : Nat) (l2 : List Int) (hr : Bs k w B A2 l2)
    (h63 : l.length + l2.length ≤ maxLen) (hbytes : (l.length + l2.length) * bytes ≤ 140737488355328) (hbase : base ≤ w.heap.size) :
    ∃ A' c' w', (Builtin.append_ #[t, t] ty #[.slice A l.length c, .slice A2 l2.length c2]).run P w = .ok (.slice A' (l ++ l2).length c') w' ∧ Own k e w' base A' c' (l ++ l2) ∧ w.grownBy w' (blk A) ∧ (blk A' = blk A ∨ blk A' = some w.heap.size) := by
  by_cases hl : l2 = []
  · subst hl
    refine ⟨A, c, w, ?_, by simpa using hown, World.grownBy.refl _ _, .inl rfl⟩
    rcases hown.form with ⟨rfl, rfl, rfl⟩ | ⟨g, cur, rfl, hb, hlt, hg, h1, h2, h3, h4⟩
    · cases A2 <;> simp [Builtin.append_, run_underlying ht, sizeOf, typeInfo, hi, Builtin.lenOf, Builtin.firstCells, run_load0]
    · cases A2 <;> simp [Builtin.append_, run_underlying ht, sizeOf, typeInfo, hi, Builtin.lenOf, Builtin.firstCells, run_load0, storeCells, h1]
  · obtain ⟨b, off, rfl, hb, hc⟩ := hr.cells hl
    obtain ⟨v', w', hrun, h2, h3, _, h5⟩ := run_append_own_at (P := P) w base t ty e i z 1 bytes ht hi hz hsize hby hzs (by decide) _ _ _ hown ⟨b, off, none⟩ l2.length c2 (l2.map (Value.int k)) (by simp) hc (ints_one k l2) h63 hbytes hbase
    rw [← List.map_append] at h2
    obtain ⟨A', c', rfl, ho⟩ := own_of_row h2
    have hob : ∀ (X : Option Addr) (n c : Nat), (Value.slice X n c).ownBlock = blk X := by intro X n c; cases X <;> rfl
    rw [hob] at h3
    rw [hob, hob] at h5
    exact ⟨A', c', w', hrun, ho, h3, h5⟩

theorem wp_appg {o : Oper} {a : Act} {K : Act → World → Prop} {Q : Exit → Act → World → Prop} (s x : Operand) (t : TypeId)
    (ho : o.op = .call { callee := .builtin .append, args := #[s, x], argTypes := #[t, t] })
    (base : Nat) (e : TypeId) (k : IntKind) (i : TypeInfo) (z : Value) (bytes : Nat) (ht : P.underlying t = some (.slice e)) (hi : P.info? e = some i) (hz : i.zero = some z)
    (hsize : i.size = 1) (hby : i.bytes = bytes) (hzs : z.cells.size = 1) (A : Option Addr) (c : Nat) (l : List Int) (hs : a.eval s = .slice A l.length c) (hown : Own k e w base A c l)
    (B : Nat) (A2 : Option Addr) (n2 c2 : Nat) (l2 : List Int) (hx : a.eval x = .slice A2 n2 c2) (hn2 : n2 = l2.length) (hr : Bs k w B A2 l2)
    (h63 : l.length + l2.length ≤ maxLen) (hbytes : (l.length + l2.length) * bytes ≤ 140737488355328) (hbase : base ≤ w.heap.size)
    (h : ∀ l3 A' c' w', Hid (l3 = l ++ l2) → Own k e w' base A' c' l3 → w.grownBy w' (blk A) → (blk A' = blk A ∨ blk A' = some w.heap.size) → K (a.put o.dst (.slice A' l3.length c')) w') : o.wp P a w K Q := by
  subst hn2
  obtain ⟨A', c', w', hrun, h2, h3, h4⟩ := run_appg (P := P) w base t o.type e k i z bytes ht hi hz hsize hby hzs A c l hown B A2 c2 l2 hr h63 hbytes hbase
  unfold Oper.wp execOp
  simp only [ho, resolve, invoke, builtin, Sem.run_bind, Sem.run_pure, Result.andThen_ok, List.map_toArray, List.map_cons, List.map_nil, hs, hx, hrun]
  exact h _ A' c' w' rfl h2 h3 h4

theorem wpList_appg {ops : Array Oper} {rest : List Oper} {o : Oper} {a : Act} {Q : Exit → Act → World → Prop} (hgd : o.guard = none) (s x : Operand) (t : TypeId)
    (ho : o.op = .call { callee := .builtin .append, args := #[s, x], argTypes := #[t, t] })
    (base : Nat) (e : TypeId) (k : IntKind) (i : TypeInfo) (z : Value) (bytes : Nat) (ht : P.underlying t = some (.slice e)) (hi : P.info? e = some i) (hz : i.zero = some z)
    (hsize : i.size = 1) (hby : i.bytes = bytes) (hzs : z.cells.size = 1) (A : Option Addr) (c : Nat) (l : List Int) (hs : a.eval s = .slice A l.length c) (hown : Own k e w base A c l)
    (B : Nat) (A2 : Option Addr) (n2 c2 : Nat) (l2 : List Int) (hx : a.eval x = .slice A2 n2 c2) (hn2 : n2 = l2.length) (hr : Bs k w B A2 l2)
    (h63 : l.length + l2.length ≤ maxLen) (hbytes : (l.length + l2.length) * bytes ≤ 140737488355328) (hbase : base ≤ w.heap.size)
    (h : ∀ l3 A' c' w', Hid (l3 = l ++ l2) → Own k e w' base A' c' l3 → w.grownBy w' (blk A) → (blk A' = blk A ∨ blk A' = some w.heap.size) → wpList P ops Q rest (a.put o.dst (.slice A' l3.length c')) w') : wpList P ops Q (o :: rest) a w :=
  wpList_plain hgd fun _ hK => wp_appg w s x t ho base e k i z bytes ht hi hz hsize hby hzs A c l hs hown B A2 n2 c2 l2 hx hn2 hr h63 hbytes hbase fun l3 A' c' w' h1 h2 h3 h4 => hK _ _ (h l3 A' c' w' h1 h2 h3 h4)

theorem step_appg {ops : Array Oper} {o : Oper} {a : Act} {K : Act → World → Prop} {Q : Exit → Act → World → Prop} {E : Prop} (hgd : o.guard = none) (s x : Operand) (t : TypeId)
    (ho : o.op = .call { callee := .builtin .append, args := #[s, x], argTypes := #[t, t] })
    (base : Nat) (e : TypeId) (k : IntKind) (i : TypeInfo) (z : Value) (bytes : Nat) (ht : P.underlying t = some (.slice e)) (hi : P.info? e = some i) (hz : i.zero = some z)
    (hsize : i.size = 1) (hby : i.bytes = bytes) (hzs : z.cells.size = 1) (A : Option Addr) (c : Nat) (l : List Int) (hs : a.eval s = .slice A l.length c) (hown : Own k e w base A c l)
    (B : Nat) (A2 : Option Addr) (n2 c2 : Nat) (l2 : List Int) (hx : a.eval x = .slice A2 n2 c2) (hn2 : n2 = l2.length) (hr : Bs k w B A2 l2)
    (h63 : l.length + l2.length ≤ maxLen) (hbytes : (l.length + l2.length) * bytes ≤ 140737488355328) (hbase : base ≤ w.heap.size)
    (h : ∀ l3 A' c' w', Hid (l3 = l ++ l2) → Own k e w' base A' c' l3 → w.grownBy w' (blk A) → (blk A' = blk A ∨ blk A' = some w.heap.size) → K (a.put o.dst (.slice A' l3.length c')) w') :
    if Region.wanted o (yielded ops a.tmps) = true then Oper.wp P o a w K Q else E := by
  rw [if_pos (by simp [Region.wanted, hgd])]
  exact wp_appg w s x t ho base e k i z bytes ht hi hz hsize hby hzs A c l hs hown B A2 n2 c2 l2 hx hn2 hr h63 hbytes hbase h
end
end Go.Proofs.Ytpfppacmldjioaa
