/-
  Laws of the walk for append, make, copy and string conversion, where the slices are 'Own' or 'Bs' of the text Lib. No statement is proved here; no conditions.
-/
import Derived.Test.YtpfppacmldjioaaLib
namespace Go.Proofs.Ytpfppacmldjioaa
open Go.RowKit

theorem ints_one (k : IntKind) (l : List Int) : ∀ u ∈ l.map (Value.int k), u.oneCell' = true := by
  intro u hu
  obtain ⟨x, _, rfl⟩ := List.mem_map.1 hu
  rfl

section
variable {k : IntKind} {e : TypeId} {w w' : World} {base : Nat} {A : Option Addr} {c : Nat} {l : List Int}
theorem Own.alloc (h : Own k e w base A c l) (o : Obj) : Own k e (w.alloc o) base A c l := World.ownsRow.alloc h o
theorem Own.drew (h : Own k e w base A c l) : Own k e w.drew base A c l := h
theorem Own.drewN (h : Own k e w base A c l) (n : Nat) : Own k e (w.drewN n) base A c l := h
theorem Own.lit (w : World) (base : Nat) (h : base ≤ w.heap.size) (l : List Int) (hl : l.length ≤ maxLen) : Own k e (w.alloc (.cells (l.map (Value.int k)).toArray e)) base (some ⟨w.heap.size, 0, none⟩) l.length l :=
  Own.of_form h (heap_alloc_new w _) (Nat.le_refl _) hl (by simp) (List.take_of_length_le (by simp))
/-- An owned row from its value: whatever 'ownsRow' says, in this spelling. -/
theorem own_of_row {v : Value} {n : Nat} (h : w.ownsRow base e 1 v n (l.map (Value.int k))) : ∃ A c, v = .slice A l.length c ∧ Own k e w base A c l := by
  have hn : n = l.length := by have := h.1; simp at this; omega
  subst hn
  rcases h.2 with ⟨rfl, hn⟩ | ⟨g, cap, cur, rfl, r⟩
  · have : l = [] := List.eq_nil_of_length_eq_zero hn
    subst this
    exact ⟨none, 0, rfl, Own.nil _ _⟩
  · exact ⟨_, cap, rfl, h⟩
end

theorem below_drewN {B : Nat} {a w : World} (h : Below B a w) (n : Nat) : Below B a (w.drewN n) := ⟨h.os, h.tape, h.output, h.size, h.block⟩
theorem Own.one (w : World) (base : Nat) (h : base ≤ w.heap.size) (k : IntKind) (e : TypeId) (x : Int) : Own k e (w.alloc (.cells #[.int k x] e)) base (some ⟨w.heap.size, 0, none⟩) 1 [x] := Own.lit w base h [x] (by simp [maxLen])
theorem Own.empty (w : World) (base : Nat) (h : base ≤ w.heap.size) (k : IntKind) (e : TypeId) : Own k e (w.alloc (.cells #[] e)) base (some ⟨w.heap.size, 0, none⟩) 0 [] := Own.lit w base h [] (by simp)
theorem Bs.one (w : World) (k : IntKind) (e : TypeId) (x : Int) : Bs k (w.alloc (.cells #[.int k x] e)) (w.alloc (.cells #[.int k x] e)).heap.size (some ⟨w.heap.size, 0, none⟩) [x] := (Own.one w 0 (Nat.zero_le _) k e x).bs

theorem run_load0 {P : Program} (w : World) (a : Addr) : (loadCells a 0).run P w = .ok #[] w := run_loadCells_list (P := P) w a [] (by simp)

section
variable {P : Program} (w : World)

theorem run_app (base : Nat) (t ty e : TypeId) (k : IntKind) (i : TypeInfo) (z : Value) (bytes : Nat) (ht : P.underlying t = some (.slice e)) (hi : P.info? e = some i) (hz : i.zero = some z)
    (hsize : i.size = 1) (hby : i.bytes = bytes) (hzs : z.cells.size = 1) (A : Option Addr) (c : Nat) (l : List Int) (hown : Own k e w base A c l)
    (B : Nat) (A2 : Option Addr) (c2 : Nat) (l2 : List Int) (hr : Bs k w B A2 l2)
    (h63 : l.length + l2.length ≤ maxLen) (hbytes : (l.length + l2.length) * bytes ≤ 140737488355328) (hbase : base ≤ w.heap.size) :
    ∃ A' c' w', (Builtin.append_ #[t, t] ty #[.slice A l.length c, .slice A2 l2.length c2]).run P w = .ok (.slice A' (l ++ l2).length c') w' ∧ Own k e w' base A' c' (l ++ l2) ∧ Below base w w' := by
  by_cases hl : l2 = []
  · subst hl
    refine ⟨A, c, w, ?_, by simpa using hown, Below.refl _ _⟩
    rcases hown.form with ⟨rfl, rfl, rfl⟩ | ⟨g, cur, rfl, hb, hlt, hg, h1, h2, h3, h4⟩
    · cases A2 <;> simp [Builtin.append_, run_underlying ht, sizeOf, typeInfo, hi, Builtin.lenOf, Builtin.firstCells, run_load0]
    · cases A2 <;> simp [Builtin.append_, run_underlying ht, sizeOf, typeInfo, hi, Builtin.lenOf, Builtin.firstCells, run_load0, storeCells, h1]
  · obtain ⟨b, off, rfl, hb, hc⟩ := hr.cells hl
    obtain ⟨v', w', hrun, h2, h3, _, _⟩ := run_append_own_at (P := P) w base t ty e i z 1 bytes ht hi hz hsize hby hzs (by decide) _ _ _ hown ⟨b, off, none⟩ l2.length c2 (l2.map (Value.int k)) (by simp) hc (ints_one k l2) h63 hbytes hbase
    rw [← List.map_append] at h2
    obtain ⟨A', c', rfl, ho⟩ := own_of_row h2
    refine ⟨A', c', w', hrun, ho, ⟨h3.os, h3.tape, h3.output, h3.size, fun j hj => h3.block j (by omega) ?_⟩⟩
    rcases hown.form with ⟨rfl, _, _⟩ | ⟨g, cur, rfl, hg, _⟩
    · simp [Value.ownBlock]
    · simp [Value.ownBlock]; omega

theorem wp_app {o : Oper} {a : Act} {K : Act → World → Prop} {Q : Exit → Act → World → Prop} (s x : Operand) (t : TypeId)
    (ho : o.op = .call { callee := .builtin .append, args := #[s, x], argTypes := #[t, t] })
    (base : Nat) (e : TypeId) (k : IntKind) (i : TypeInfo) (z : Value) (bytes : Nat) (ht : P.underlying t = some (.slice e)) (hi : P.info? e = some i) (hz : i.zero = some z)
    (hsize : i.size = 1) (hby : i.bytes = bytes) (hzs : z.cells.size = 1) (A : Option Addr) (c : Nat) (l : List Int) (hs : a.eval s = .slice A l.length c) (hown : Own k e w base A c l)
    (B : Nat) (A2 : Option Addr) (c2 : Nat) (l2 : List Int) (hx : a.eval x = .slice A2 l2.length c2) (hr : Bs k w B A2 l2)
    (h63 : l.length + l2.length ≤ maxLen) (hbytes : (l.length + l2.length) * bytes ≤ 140737488355328) (hbase : base ≤ w.heap.size)
    (h : ∀ l3 A' c' w', Hid (l3 = l ++ l2) → Own k e w' base A' c' l3 → Below base w w' → K (a.put o.dst (.slice A' l3.length c')) w') : o.wp P a w K Q := by
  obtain ⟨A', c', w', hrun, h2, h3⟩ := run_app (P := P) w base t o.type e k i z bytes ht hi hz hsize hby hzs A c l hown B A2 c2 l2 hr h63 hbytes hbase
  unfold Oper.wp execOp
  simp only [ho, resolve, invoke, builtin, Sem.run_bind, Sem.run_pure, Result.andThen_ok, List.map_toArray, List.map_cons, List.map_nil, hs, hx, hrun]
  exact h _ A' c' w' rfl h2 h3

theorem wpList_app {ops : Array Oper} {rest : List Oper} {o : Oper} {a : Act} {Q : Exit → Act → World → Prop} (hgd : o.guard = none) (s x : Operand) (t : TypeId)
    (ho : o.op = .call { callee := .builtin .append, args := #[s, x], argTypes := #[t, t] })
    (base : Nat) (e : TypeId) (k : IntKind) (i : TypeInfo) (z : Value) (bytes : Nat) (ht : P.underlying t = some (.slice e)) (hi : P.info? e = some i) (hz : i.zero = some z)
    (hsize : i.size = 1) (hby : i.bytes = bytes) (hzs : z.cells.size = 1) (A : Option Addr) (c : Nat) (l : List Int) (hs : a.eval s = .slice A l.length c) (hown : Own k e w base A c l)
    (B : Nat) (A2 : Option Addr) (c2 : Nat) (l2 : List Int) (hx : a.eval x = .slice A2 l2.length c2) (hr : Bs k w B A2 l2)
    (h63 : l.length + l2.length ≤ maxLen) (hbytes : (l.length + l2.length) * bytes ≤ 140737488355328) (hbase : base ≤ w.heap.size)
    (h : ∀ l3 A' c' w', Hid (l3 = l ++ l2) → Own k e w' base A' c' l3 → Below base w w' → wpList P ops Q rest (a.put o.dst (.slice A' l3.length c')) w') : wpList P ops Q (o :: rest) a w :=
  wpList_plain hgd fun _ hK => wp_app w s x t ho base e k i z bytes ht hi hz hsize hby hzs A c l hs hown B A2 c2 l2 hx hr h63 hbytes hbase fun l3 A' c' w' h1 h2 h3 => hK _ _ (h l3 A' c' w' h1 h2 h3)

/-- The same where the source's length is spelled in another way. -/
theorem wpList_appn {ops : Array Oper} {rest : List Oper} {o : Oper} {a : Act} {Q : Exit → Act → World → Prop} (hgd : o.guard = none) (s x : Operand) (t : TypeId)
    (ho : o.op = .call { callee := .builtin .append, args := #[s, x], argTypes := #[t, t] })
    (base : Nat) (e : TypeId) (k : IntKind) (i : TypeInfo) (z : Value) (bytes : Nat) (ht : P.underlying t = some (.slice e)) (hi : P.info? e = some i) (hz : i.zero = some z)
    (hsize : i.size = 1) (hby : i.bytes = bytes) (hzs : z.cells.size = 1) (A : Option Addr) (c : Nat) (l : List Int) (hs : a.eval s = .slice A l.length c) (hown : Own k e w base A c l)
    (B : Nat) (A2 : Option Addr) (n2 c2 : Nat) (l2 : List Int) (hx : a.eval x = .slice A2 n2 c2) (hn2 : n2 = l2.length) (hr : Bs k w B A2 l2)
    (h63 : l.length + l2.length ≤ maxLen) (hbytes : (l.length + l2.length) * bytes ≤ 140737488355328) (hbase : base ≤ w.heap.size)
    (h : ∀ l3 A' c' w', Hid (l3 = l ++ l2) → Own k e w' base A' c' l3 → Below base w w' → wpList P ops Q rest (a.put o.dst (.slice A' l3.length c')) w') : wpList P ops Q (o :: rest) a w := by
  subst hn2
  exact wpList_app w hgd s x t ho base e k i z bytes ht hi hz hsize hby hzs A c l hs hown B A2 c2 l2 hx hr h63 hbytes hbase h

theorem step_app {ops : Array Oper} {o : Oper} {a : Act} {K : Act → World → Prop} {Q : Exit → Act → World → Prop} {E : Prop} (hgd : o.guard = none) (s x : Operand) (t : TypeId)
    (ho : o.op = .call { callee := .builtin .append, args := #[s, x], argTypes := #[t, t] })
    (base : Nat) (e : TypeId) (k : IntKind) (i : TypeInfo) (z : Value) (bytes : Nat) (ht : P.underlying t = some (.slice e)) (hi : P.info? e = some i) (hz : i.zero = some z)
    (hsize : i.size = 1) (hby : i.bytes = bytes) (hzs : z.cells.size = 1) (A : Option Addr) (c : Nat) (l : List Int) (hs : a.eval s = .slice A l.length c) (hown : Own k e w base A c l)
    (B : Nat) (A2 : Option Addr) (c2 : Nat) (l2 : List Int) (hx : a.eval x = .slice A2 l2.length c2) (hr : Bs k w B A2 l2)
    (h63 : l.length + l2.length ≤ maxLen) (hbytes : (l.length + l2.length) * bytes ≤ 140737488355328) (hbase : base ≤ w.heap.size)
    (h : ∀ l3 A' c' w', Hid (l3 = l ++ l2) → Own k e w' base A' c' l3 → Below base w w' → K (a.put o.dst (.slice A' l3.length c')) w') :
    if Region.wanted o (yielded ops a.tmps) = true then Oper.wp P o a w K Q else E := by
  rw [if_pos (by simp [Region.wanted, hgd])]
  exact wp_app w s x t ho base e k i z bytes ht hi hz hsize hby hzs A c l hs hown B A2 c2 l2 hx hr h63 hbytes hbase h

/-- 'make([]T, n, c)': zeroes. -/
theorem run_mk (t e : TypeId) (k : IntKind) (i : TypeInfo) (ht : P.underlying t = some (.slice e)) (hi : P.info? e = some i) (hz : i.zero = some (.int k 0)) (hsize : i.size = 1)
    (kl kc : IntKind) (n c : Nat) (hnc : n ≤ c) (hbytes : i.bytes * c ≤ 281474976710656) (h63 : c ≤ 9223372036854775807) :
    (Instr.makeSlice t (.int kl (n : Int)) (.int kc (c : Int))).run P w = .ok (.slice (some ⟨w.heap.size, 0, none⟩) n c) (w.alloc (.cells ((List.replicate c (0 : Int)).map (Value.int k)).toArray e)) := by
  have hb : (i.bytes : Int) * (c : Int) ≤ 281474976710656 := by
    have h : ((i.bytes * c : Nat) : Int) ≤ 281474976710656 := by omega
    rwa [Int.natCast_mul] at h
  have hr := run_make (P := P) w t e i _ ht hi hz kl kc n c (by omega) (by omega) hb (by omega)
  simp only [Int.toNat_natCast, hsize, Nat.mul_one] at hr
  rw [hr]
  have : (madeCells (Value.int k 0).cells c) = ((List.replicate c (0 : Int)).map (Value.int k)).toArray := by
    apply Array.toList_inj.1
    rw [show (Value.int k 0).cells = #[.int k 0] from rfl, toList_madeCells_one]
    simp
  rw [this]

/-- 'make([]T, n, c)': some row of that length, owned. -/
theorem mk_own (t e : TypeId) (k : IntKind) (i : TypeInfo) (ht : P.underlying t = some (.slice e)) (hi : P.info? e = some i) (hz : i.zero = some (.int k 0)) (hsize : i.size = 1)
    (kl kc : IntKind) (L C : Int) (n c : Nat) (hL : L = n) (hC : C = c) (hnc : n ≤ c) (hbytes : i.bytes * c ≤ 281474976710656) (h63 : c ≤ maxLen) :
    ∃ z w1, z.length = n ∧ (Instr.makeSlice t (.int kl L) (.int kc C)).run P w = .ok (.slice (some ⟨w.heap.size, 0, none⟩) z.length c) w1 ∧ Own k e w1 w.heap.size (some ⟨w.heap.size, 0, none⟩) c z ∧ Below w.heap.size w w1 := by
  subst hL hC
  refine ⟨List.replicate n 0, w.alloc (.cells ((List.replicate c (0 : Int)).map (Value.int k)).toArray e), by simp, ?_, ?_, (Below.refl _ _).alloc (Nat.le_refl _) _⟩
  · rw [List.length_replicate]
    exact run_mk w t e k i ht hi hz hsize kl kc n c hnc hbytes (by unfold maxLen at h63; omega)
  · refine Own.of_form (Nat.le_refl _) (heap_alloc_new w _) (by simpa using hnc) h63 (by simp) ?_
    simp [List.take_replicate, Nat.min_eq_left hnc]

/-- 'copy(dst, src)' where dst is owned and src is no longer than dst. -/
theorem run_cp (base : Nat) (t s ty e : TypeId) (k : IntKind) (ht : P.underlying t = some (.slice e)) (hsz : (P.info? e).map (·.size) = some 1)
    (A : Option Addr) (c : Nat) (l : List Int) (hown : Own k e w base A c l) (B : Nat) (A2 : Option Addr) (c2 : Nat) (l2 : List Int) (hr : Bs k w B A2 l2) (hlen : l2.length ≤ l.length) :
    ∃ w', (Builtin.copy_ #[t, s] ty #[.slice A l.length c, .slice A2 l2.length c2]).run P w = .ok (goInt l2.length) w' ∧ Own k e w' base A c (l2 ++ l.drop l2.length) ∧ Below base w w' := by
  by_cases hl : l2 = []
  · subst hl
    exact ⟨w, run_copy_none w t s ty e A A2 l.length c 0 c2 ht hsz (by simp), by simpa using hown, Below.refl _ _⟩
  · have hpos : 0 < l2.length := List.length_pos_iff.2 hl
    obtain ⟨b, off, rfl, hb, hc⟩ := hr.cells hl
    rcases hown.form with ⟨rfl, rfl, rfl⟩ | ⟨g, cur, rfl, hg0, hlt, hg, h1, h2, h3, h4⟩
    · simp at hlen; exact absurd hlen hl
    · have hrun := run_copy_row (P := P) w t s ty e g 0 l.length c ⟨b, off, none⟩ l2.length c2 cur e (l2.map (Value.int k)) ht hsz hg (by simp [hlen]) hc (by simp [h3]; omega) (ints_one k l2)
      refine ⟨w.setRow g ((l2.map (Value.int k) ++ cur.toList.drop l2.length)).toArray, by simpa using hrun, ?_, ⟨rfl, rfl, rfl, by simp [World.setRow], fun j hj => setRow_other w g j _ (by omega)⟩⟩
      have hll : (l2 ++ l.drop l2.length).length = l.length := by simp; omega
      have hh := setRow_heap w g cur ((l2.map (Value.int k) ++ cur.toList.drop l2.length)).toArray e (0, 0) hg
      have hO : Own k e (w.setRow g ((l2.map (Value.int k) ++ cur.toList.drop l2.length)).toArray) base (some ⟨g, 0, none⟩) c (l2 ++ l.drop l2.length) := by
        refine Own.of_form hg0 hh (by rw [hll]; exact h1) h2 (by simp [h3]; omega) ?_
        rw [hll]
        have hm : (l.drop l2.length).map (Value.int k) = (cur.toList.take l.length).drop l2.length := by rw [h4, List.map_drop]
        rw [List.map_append, hm, List.take_append, List.drop_take, List.take_of_length_le (by simpa using hlen)]
        simp
      exact hO

theorem wpList_cp {ops : Array Oper} {rest : List Oper} {o : Oper} {a : Act} {Q : Exit → Act → World → Prop} (hgd : o.guard = none) (d s : Operand) (dT sT : TypeId)
    (ho : o.op = .call { callee := .builtin .copy, args := #[d, s], argTypes := #[dT, sT] })
    (base : Nat) (e : TypeId) (k : IntKind) (ht : P.underlying dT = some (.slice e)) (hsz : (P.info? e).map (·.size) = some 1)
    (A : Option Addr) (c : Nat) (l : List Int) (hd : a.eval d = .slice A l.length c) (hown : Own k e w base A c l)
    (B : Nat) (A2 : Option Addr) (c2 : Nat) (l2 : List Int) (hs : a.eval s = .slice A2 l2.length c2) (hr : Bs k w B A2 l2) (hlen : l2.length ≤ l.length)
    (h : ∀ w', Own k e w' base A c (l2 ++ l.drop l2.length) → Below base w w' → wpList P ops Q rest (a.put o.dst (goInt l2.length)) w') : wpList P ops Q (o :: rest) a w := by
  refine wpList_plain hgd fun K hK => ?_
  obtain ⟨w', hrun, h2, h3⟩ := run_cp (P := P) w base dT sT o.type e k ht hsz A c l hown B A2 c2 l2 hr hlen
  unfold Oper.wp execOp
  simp only [ho, resolve, invoke, builtin, Sem.run_bind, Sem.run_pure, Result.andThen_ok, List.map_toArray, List.map_cons, List.map_nil, hd, hs, hrun]
  exact hK _ _ (h w' h2 h3)

/-- 'string(b)'. -/
theorem run_str (src e dst : TypeId) (hs : P.underlying src = some (.slice e)) (he : P.underlying e = some (.int .u8)) (hd : P.underlying dst = some .string) (B : Nat) (A : Option Addr) (c : Nat) (l : List Int) (hb : Bs .u8 w B A l) :
    (convert src dst (.slice A l.length c)).run P w = .ok (.string (strOfNums l)) w := by
  by_cases hl : l = []
  · subst hl
    cases A with
    | none => rw [run_convert_bytes_nil w src e hs he _ _ dst hd]; rfl
    | some a =>
      rw [run_convert_bytes_string w src dst e _ _ _ hs he hd, run_bytesToString w a _ _ [] (by simpa using run_load0 w a)]
      rfl
  · obtain ⟨b, off, rfl, _, hc⟩ := hb hl
    exact run_convert_bytes_arg w src e hs he b off l.length c l rfl hc dst hd
end
end Go.Proofs.Ytpfppacmldjioaa
