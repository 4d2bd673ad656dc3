/-
  A map keyed by two numbers. No statement is proved here; no conditions.
-/
import Derived.Test.YtkpmdfgjaodlaaaRow
import Derived.WideKeyEntry
import Derived.Laws.StructEq
namespace Go.Proofs.Ytkpmdfgjaodlaaa
open Go.RowKit Go.Joins

/-- Two numbers as a key. -/
abbrev kv (a b : Int) : Value := .agg #[.int .i64 a, .int .i64 b]
theorem kv_inj {a b c d : Int} (h : kv a b = kv c d) : a = c ∧ b = d := by simpa using h
theorem ht72 : Try.prog.underlying 72 = some (.struct (Try.prog.fieldsOf 72)) := by kernel_rfl
theorem hp72 : Try.prog.stoodInHeld 72 = false := by kernel_rfl
theorem eq72 (w : World) (a b c d : Int) : (Op.equal 72 (kv a b) (kv c d)).run Try.prog w = .ok (a == c && b == d) w := by
  have h := run_equalIn_agg (P := Try.prog) w 9999 72 #[.int .i64 a, .int .i64 b] #[.int .i64 c, .int .i64 d] ht72 hp72
  show (Op.equalIn (9999 + 1) 72 (kv a b) (kv c d)).run Try.prog w = _
  rw [h]
  simp [go_sem, Op.eqFields]
  by_cases h1 : a = c <;> by_cases h2 : b = d <;> simp [h1, h2]
theorem check72n (n : Nat) (w : World) (em : Bool) (a b : Int) : (Instr.checkKey em (n + 2) 72 (kv a b)).run Try.prog w = .ok () w := by
  simp [Instr.checkKey, go_sem, run_underlying Try.underlying72, run_underlying Try.underlying3]
theorem check72 (w : World) (em : Bool) (a b : Int) : (Instr.checkKey em 10000 72 (kv a b)).run Try.prog w = .ok () w := check72n 9998 w em a b
theorem stays72 (w : World) (a b : Int) : (Instr.keyThatStays (kv a b) (kv a b)).run Try.prog w = .ok (kv a b) w := by
  simp [Instr.keyThatStays, Instr.sameBits]
theorem ask72 (w : World) (a b : Int) : ∀ (es : List MapEntry) (i : Nat), (∀ e ∈ es, ∃ c d, e.key = kv c d) →
    ((Instr.findAsking 72 (kv a b) es i).run Try.prog w = .ok none w ∧ ∀ e ∈ es, e.key ≠ kv a b) ∨ ∃ j e, (Instr.findAsking 72 (kv a b) es i).run Try.prog w = .ok (some (i + j, e.val)) w ∧ es[j]? = some e ∧ e.key = kv a b
  | [], i, _ => .inl ⟨rfl, by simp⟩
  | x :: es, i, h => by
    obtain ⟨c, d, hx⟩ := h x (by simp)
    have hq := eq72 w a b c d
    by_cases e : a = c ∧ b = d
    · obtain ⟨rfl, rfl⟩ := e
      refine .inr ⟨0, x, ?_, rfl, hx⟩
      simp [Instr.findAsking, hx, hq]
    · have hf : (a == c && b == d) = false := by
        by_cases h1 : a = c
        · have h2 : b ≠ d := fun z => e ⟨h1, z⟩
          simp [h2]
        · simp [h1]
      rw [hf] at hq
      rcases ask72 w a b es (i + 1) (fun y hy => h y (by simp [hy])) with ⟨h1, h2⟩ | ⟨j, y, h1, h2, h3⟩
      · refine .inl ⟨by simp [Instr.findAsking, hx, hq, h1], fun y hy => ?_⟩
        rcases List.mem_cons.1 hy with rfl | hy
        · rw [hx]; intro z; obtain ⟨z1, z2⟩ := kv_inj z; exact e ⟨z1.symm, z2.symm⟩
        · exact h2 y hy
      · refine .inr ⟨j + 1, y, ?_, by simpa using h2, h3⟩
        rw [show i + (j + 1) = i + 1 + j by omega]
        simp [Instr.findAsking, hx, hq, h1]
theorem find72 (w : World) (a b : Int) (es : List MapEntry) (h : ∀ e ∈ es, ∃ c d, e.key = kv c d) :
    ((Instr.findKey 72 (kv a b) es).run Try.prog w = .ok none w ∧ ∀ e ∈ es, e.key ≠ kv a b) ∨ ∃ j e, (Instr.findKey 72 (kv a b) es).run Try.prog w = .ok (some (j, e.val)) w ∧ es[j]? = some e ∧ e.key = kv a b := by
  cases es with
  | nil => exact .inl ⟨by simp [Instr.findKey, run_underlying ht72, Instr.findNow], by simp⟩
  | cons x es =>
    obtain ⟨c, d, hx⟩ := h x (by simp)
    have hn : Instr.findNow (.struct (Try.prog.fieldsOf 72)) (kv a b) (x :: es) 0 = none := by simp [Instr.findNow, hx, Instr.sameNow]
    have := ask72 w a b (x :: es) 0 h
    simp only [Nat.zero_add] at this
    rcases this with ⟨h1, h2⟩ | ⟨j, y, h1, h2, h3⟩
    · exact .inl ⟨by simp only [Instr.findKey, Sem.run_bind, run_underlying ht72, Result.andThen_ok, hn]; exact h1, h2⟩
    · exact .inr ⟨j, y, by simp only [Instr.findKey, Sem.run_bind, run_underlying ht72, Result.andThen_ok, hn]; exact h1, h2, h3⟩

/-- Block B is a map of counts, from 1 to k; its keys are those of S. -/
def Mp (w : World) (B k : Nat) (S : Int → Int → Prop) : Prop :=
  ∃ es clock, w.heap[B]? = some (.map es clock) ∧ (∀ e ∈ es.toList, ∃ (a b : Int) (n : Nat), e.key = kv a b ∧ e.val = .int .i64 (n : Int) ∧ 1 ≤ n ∧ n ≤ k) ∧ (∀ a b, S a b ↔ ∃ e ∈ es.toList, e.key = kv a b) ∧ (∀ e ∈ es.toList, e.born < clock) ∧ (es.toList.map (·.born)).Nodup
theorem Mp.keep {w w' : World} {B k : Nat} {S : Int → Int → Prop} (h : Mp w B k S) (hk : w'.heap[B]? = w.heap[B]?) : Mp w' B k S := by
  obtain ⟨es, clock, h1, h2⟩ := h
  exact ⟨es, clock, hk.trans h1, h2⟩
theorem Mp.lt {w : World} {B k : Nat} {S : Int → Int → Prop} (h : Mp w B k S) : B < w.heap.size := by obtain ⟨es, clock, h1, _⟩ := h; exact lt_of_block h1
theorem zero3 (w : World) : (zeroValue 3).run Try.prog w = .ok (.int .i64 0) w := by kernel_rfl
theorem Mp.look {w : World} {B k : Nat} {S : Int → Int → Prop} (h : Mp w B k S) (a b : Int) : ∃ n : Nat, (Instr.lookup 70 (.map (some B)) (kv a b) false).run Try.prog w = .ok (.int .i64 (n : Int)) w ∧ n ≤ k ∧ (0 < n ↔ S a b) := by
  obtain ⟨es, clock, h1, h2, h3, _, _⟩ := h
  have hkey : ∀ e ∈ es.toList, ∃ c d, e.key = kv c d := fun e he => by obtain ⟨a, b, _, h, _⟩ := h2 e he; exact ⟨a, b, h⟩
  rcases find72 w a b es.toList hkey with ⟨q1, q2⟩ | ⟨j, e, q1, q2, q3⟩
  · refine ⟨0, ?_, Nat.zero_le _, ⟨fun h => by omega, fun h => ?_⟩⟩
    · simp [Instr.lookup, run_underlying Try.underlying70, MapKept.run_getObj_map h1, check72, q1, zero3]
    · obtain ⟨e, he, hek⟩ := (h3 a b).1 h
      exact absurd hek (q2 e he)
  · have he := List.mem_of_getElem? q2
    obtain ⟨_, _, n, _, hv, hn1, hn2⟩ := h2 e he
    refine ⟨n, ?_, hn2, ⟨fun _ => (h3 a b).2 ⟨e, he, q3⟩, fun _ => hn1⟩⟩
    simp [Instr.lookup, run_underlying Try.underlying70, MapKept.run_getObj_map h1, check72, q1, hv]
/-- 'm[k]++' by an entry; the look-up may come behind it. -/
theorem Mp.put {w : World} {B k : Nat} {S : Int → Int → Prop} (h : Mp w B k S) (a b : Int) : ∃ (n0 s : Nat) (v0 : Value) (st : Nat) (w1 w2 : World), s = n0 + 1 ∧ n0 ≤ k ∧ (Instr.lookup 70 (.map (some B)) (kv a b) false).run Try.prog w = .ok (.int .i64 (n0 : Int)) w ∧ (Instr.mapEntry 70 (.map (some B)) (kv a b)).run Try.prog w = .ok (.tuple #[v0, .int .i64 (st : Int)]) w1 ∧
    (Instr.lookup 70 (.map (some B)) (kv a b) false).run Try.prog w1 = .ok (.int .i64 (n0 : Int)) w1 ∧ (Instr.entryStore 70 (.map (some B)) (.int .i64 (st : Int)) (.int .i64 (s : Int))).run Try.prog w1 = .ok () w2 ∧
    Kp (· = B) w w1 ∧ Kp (· = B) w w2 ∧ Mp w2 B (k + 1) (fun x y => S x y ∨ (x = a ∧ y = b)) := by
  obtain ⟨n, lk, hnk, hnS⟩ := h.look a b
  obtain ⟨s, hs⟩ : ∃ s, s = n + 1 := ⟨_, rfl⟩
  have hn : 1 ≤ s ∧ s ≤ k + 1 := by omega
  obtain ⟨es, clock, h1, h2, h3, h4, h5⟩ := h
  have hlt := lt_of_block h1
  have hkey : ∀ e ∈ es.toList, ∃ c d, e.key = kv c d := fun e he => by obtain ⟨a, b, _, h, _⟩ := h2 e he; exact ⟨a, b, h⟩
  have kpo : ∀ (u : World) (o : Obj), Kp (· = B) u { u with heap := u.heap.setIfInBounds B o } := fun u o => ⟨rfl, rfl, rfl, by simp, fun j _ hj => by simp only [Array.getElem?_setIfInBounds]; rw [if_neg (fun e : B = j => hj e.symm)]⟩
  rcases find72 w a b es.toList hkey with ⟨q1, q2⟩ | ⟨j, e, q1, q2, q3⟩
  · have g1 : ({ w with heap := w.heap.setIfInBounds B (.map (es.push ⟨kv a b, .int .i64 0, clock⟩) (clock + 1)) } : World).heap[B]? = some (.map (es.push ⟨kv a b, .int .i64 0, clock⟩) (clock + 1)) := by simp [hlt]
    have hidx : (es.push (⟨kv a b, .int .i64 0, clock⟩ : MapEntry)).findIdx? (fun e => ((e.born : Nat) : Int) == ((clock : Nat) : Int)) = some es.size := by
      rw [WideElems.findIdx_arr]
      have := WideElems.findIdx_born (l := (es.push (⟨kv a b, .int .i64 0, clock⟩ : MapEntry)).toList) (j := es.size) (e0 := ⟨kv a b, .int .i64 0, clock⟩) (by
        simp only [Array.toList_push, List.map_append, List.map_cons, List.map_nil]
        refine List.nodup_append.2 ⟨h5, by simp, fun x hx y hy e1 => ?_⟩
        simp only [List.mem_singleton] at hy
        obtain ⟨z, hz, rfl⟩ := List.mem_map.1 hx
        have := h4 z hz
        omega) (by simp)
      exact this
    have hmod : ((es.push (⟨kv a b, .int .i64 0, clock⟩ : MapEntry)).modify es.size fun e => { e with val := .int .i64 (s : Int) }) = es.push ⟨kv a b, .int .i64 (s : Int), clock⟩ := by
      apply Array.ext'
      simp only [Array.toList_modify, Array.toList_push]
      have := WideElems.modify_last (fun e : MapEntry => { e with val := .int .i64 (s : Int) }) ⟨kv a b, .int .i64 0, clock⟩ es.toList
      simpa using this
    have hn0 : n = 0 := by
      rcases Nat.eq_zero_or_pos n with z | z
      · exact z
      · obtain ⟨e, he, hk⟩ := (h3 a b).1 (hnS.1 z)
        exact absurd hk (q2 e he)
    have lk1 : (Instr.lookup 70 (.map (some B)) (kv a b) false).run Try.prog ({ w with heap := w.heap.setIfInBounds B (.map (es.push ⟨kv a b, .int .i64 0, clock⟩) (clock + 1)) } : World) = .ok (.int .i64 (n : Int)) ({ w with heap := w.heap.setIfInBounds B (.map (es.push ⟨kv a b, .int .i64 0, clock⟩) (clock + 1)) } : World) := by
      rcases find72 ({ w with heap := w.heap.setIfInBounds B (.map (es.push ⟨kv a b, .int .i64 0, clock⟩) (clock + 1)) } : World) a b (es.push (⟨kv a b, .int .i64 0, clock⟩ : MapEntry)).toList (fun e he => by
        rw [Array.toList_push, List.mem_append, List.mem_singleton] at he
        rcases he with he | rfl
        · exact hkey e he
        · exact ⟨a, b, rfl⟩) with ⟨p1, p2⟩ | ⟨j, e, p1, p2, p3⟩
      · exact absurd rfl (p2 ⟨kv a b, .int .i64 0, clock⟩ (by rw [Array.toList_push, List.mem_append]; exact .inr (List.mem_singleton.2 rfl)))
      · have he := List.mem_of_getElem? p2
        rw [Array.toList_push, List.mem_append, List.mem_singleton] at he
        rcases he with he | rfl
        · exact absurd p3 (q2 e he)
        · rw [hn0]
          simp only [Array.toList_push] at p1
          simp [Instr.lookup, run_underlying Try.underlying70, MapKept.run_getObj_map g1, check72, p1]
    refine ⟨n, s, .int .i64 0, clock, ({ w with heap := w.heap.setIfInBounds B (.map (es.push ⟨kv a b, .int .i64 0, clock⟩) (clock + 1)) } : World), { ({ w with heap := w.heap.setIfInBounds B (.map (es.push ⟨kv a b, .int .i64 0, clock⟩) (clock + 1)) } : World) with heap := ({ w with heap := w.heap.setIfInBounds B (.map (es.push ⟨kv a b, .int .i64 0, clock⟩) (clock + 1)) } : World).heap.setIfInBounds B (.map (es.push ⟨kv a b, .int .i64 (s : Int), clock⟩) (clock + 1)) }, hs, hnk, lk, ?_, lk1, ?_, kpo w _, (kpo w _).trans (kpo _ _) (fun _ h => .inl h), ?_⟩
    · simp [Instr.mapEntry, run_underlying Try.underlying70, MapKept.run_getObj_map h1, check72, q1, zero3, MapKept.run_setObj_map _ h1]
      rfl
    · simp only [Instr.entryStore, Sem.run_bind, MapKept.run_getObj_map g1, Result.andThen_ok]
      simp [goInt, asInt, asIntOf, hidx, hmod, MapKept.run_setObj_map _ g1]
    · refine ⟨es.push ⟨kv a b, .int .i64 (s : Int), clock⟩, clock + 1, by simp [hlt], fun x hx => ?_, fun x y => ?_, fun x hx => ?_, ?_⟩
      · rw [Array.toList_push, List.mem_append, List.mem_singleton] at hx
        rcases hx with hx | rfl
        · obtain ⟨a', b', n', z1, z2, z3, z4⟩ := h2 x hx
          exact ⟨a', b', n', z1, z2, z3, by omega⟩
        · exact ⟨a, b, s, rfl, rfl, hn⟩
      · constructor
        · rintro (hs | ⟨rfl, rfl⟩)
          · obtain ⟨e, he, hk⟩ := (h3 x y).1 hs
            exact ⟨e, by simp [Array.toList_push, he], hk⟩
          · exact ⟨_, by rw [Array.toList_push, List.mem_append]; exact .inr (List.mem_singleton.2 rfl), rfl⟩
        · rintro ⟨e, he, hk⟩
          rw [Array.toList_push, List.mem_append, List.mem_singleton] at he
          rcases he with he | rfl
          · exact .inl ((h3 x y).2 ⟨e, he, hk⟩)
          · obtain ⟨z1, z2⟩ := kv_inj hk
            exact .inr ⟨z1.symm, z2.symm⟩
      · rw [Array.toList_push, List.mem_append, List.mem_singleton] at hx
        rcases hx with hx | rfl
        · have := h4 x hx; omega
        · simp
      · simp only [Array.toList_push, List.map_append, List.map_cons, List.map_nil]
        refine List.nodup_append.2 ⟨h5, by simp, fun x hx y hy e1 => ?_⟩
        simp only [List.mem_singleton] at hy
        obtain ⟨z, hz, rfl⟩ := List.mem_map.1 hx
        have := h4 z hz
        omega
  · have hes : (es.modify j fun e => { e with key := kv a b }) = es := by
      apply Array.ext'
      rw [Array.toList_modify]
      apply List.ext_getElem?
      intro i
      rw [List.getElem?_modify]
      by_cases hi : j = i
      · subst hi
        rw [q2]
        obtain ⟨ek, ev, eb⟩ := e
        simp only at q3
        subst q3
        simp
      · simp [hi]
    have g1 : ({ w with heap := w.heap.setIfInBounds B (.map es clock) } : World).heap[B]? = some (.map es clock) := by simp [hlt]
    have hq2 : es[j]? = some e := by simpa using q2
    have hidx : es.findIdx? (fun x => ((x.born : Nat) : Int) == ((e.born : Nat) : Int)) = some j := by
      rw [WideElems.findIdx_arr]
      exact WideElems.findIdx_born h5 q2
    have hmem := List.mem_of_getElem? q2
    have lk1 : (Instr.lookup 70 (.map (some B)) (kv a b) false).run Try.prog ({ w with heap := w.heap.setIfInBounds B (.map es clock) } : World) = .ok (.int .i64 (n : Int)) ({ w with heap := w.heap.setIfInBounds B (.map es clock) } : World) := by
      have hw : ({ w with heap := w.heap.setIfInBounds B (.map es clock) } : World) = w := by
        obtain ⟨hp, tp, dr, os, ou⟩ := w
        simp only [World.mk.injEq, and_true]
        apply Array.ext_getElem?
        intro i
        rw [Array.getElem?_setIfInBounds]
        by_cases hi : B = i
        · subst hi
          rw [if_pos rfl, if_pos hlt]
          exact h1.symm
        · rw [if_neg hi]
      rw [hw]
      exact lk
    refine ⟨n, s, e.val, e.born, ({ w with heap := w.heap.setIfInBounds B (.map es clock) } : World), { ({ w with heap := w.heap.setIfInBounds B (.map es clock) } : World) with heap := ({ w with heap := w.heap.setIfInBounds B (.map es clock) } : World).heap.setIfInBounds B (.map (es.modify j fun x => { x with val := .int .i64 (s : Int) }) clock) }, hs, hnk, lk, ?_, lk1, ?_, kpo w _, (kpo w _).trans (kpo _ _) (fun _ h => .inl h), ?_⟩
    · simp [Instr.mapEntry, run_underlying Try.underlying70, MapKept.run_getObj_map h1, check72, q1, MapKept.run_setObj_map _ h1, hq2, q3, stays72, hes]
      rfl
    · simp only [Instr.entryStore, Sem.run_bind, MapKept.run_getObj_map g1, Result.andThen_ok]
      simp [goInt, asInt, asIntOf, hidx, MapKept.run_setObj_map _ g1]
    · have hget : ∀ i, (es.modify j fun x => { x with val := .int .i64 (s : Int) }).toList[i]? = if j = i then some { e with val := .int .i64 (s : Int) } else es.toList[i]? := fun i => by
        rw [Array.toList_modify, List.getElem?_modify]
        by_cases hi : j = i
        · subst hi; rw [q2]; simp
        · simp [hi]
      have hm : ∀ x ∈ (es.modify j fun x => { x with val := .int .i64 (s : Int) }).toList, x = { e with val := .int .i64 (s : Int) } ∨ x ∈ es.toList := fun x hx => by
        obtain ⟨i, hi⟩ := List.mem_iff_getElem?.1 hx
        rw [hget] at hi
        split at hi
        · exact .inl (Option.some.inj hi).symm
        · exact .inr (List.mem_of_getElem? hi)
      have hm2 : ∀ x ∈ es.toList, ∃ y ∈ (es.modify j fun x => { x with val := .int .i64 (s : Int) }).toList, y.key = x.key := fun x hx => by
        obtain ⟨i, hi⟩ := List.mem_iff_getElem?.1 hx
        by_cases hji : j = i
        · subst hji
          rw [q2] at hi
          obtain rfl := Option.some.inj hi
          exact ⟨{ e with val := .int .i64 (s : Int) }, List.mem_of_getElem? (i := j) (by rw [hget, if_pos rfl]), rfl⟩
        · exact ⟨x, List.mem_of_getElem? (by rw [hget, if_neg hji]; exact hi), rfl⟩
      refine ⟨es.modify j fun x => { x with val := .int .i64 (s : Int) }, clock, by simp [hlt], fun x hx => ?_, fun x y => ?_, fun x hx => ?_, ?_⟩
      · rcases hm x hx with rfl | hx
        · exact ⟨a, b, s, q3, rfl, hn⟩
        · obtain ⟨a', b', n', z1, z2, z3, z4⟩ := h2 x hx
          exact ⟨a', b', n', z1, z2, z3, by omega⟩
      · constructor
        · rintro (hs | ⟨rfl, rfl⟩)
          · obtain ⟨x', he, hk⟩ := (h3 x y).1 hs
            obtain ⟨y', hy', hk'⟩ := hm2 x' he
            exact ⟨y', hy', hk'.trans hk⟩
          · obtain ⟨y', hy', hk'⟩ := hm2 e hmem
            exact ⟨y', hy', hk'.trans q3⟩
        · rintro ⟨x', he, hk⟩
          rcases hm x' he with rfl | he
          · obtain ⟨z1, z2⟩ := kv_inj (q3.symm.trans hk)
            exact .inr ⟨z1.symm, z2.symm⟩
          · exact .inl ((h3 x y).2 ⟨x', he, hk⟩)
      · rcases hm x hx with rfl | hx
        · exact h4 e hmem
        · exact h4 x hx
      · have : (es.modify j fun x => { x with val := .int .i64 (s : Int) }).toList.map (·.born) = es.toList.map (·.born) := by
          apply List.ext_getElem?
          intro i
          rw [List.getElem?_map, List.getElem?_map, hget]
          split
          · next e' => subst e'; rw [q2]; rfl
          · rfl
        rw [this]
        exact h5
end Go.Proofs.Ytkpmdfgjaodlaaa
