/-
  What the laws' walks share: acts, what a trie and the reference's row are behind them. No statement is proved here; no conditions.
-/
import Derived.Test.YtlmcgjdenfnkmaaNil
namespace Go.Proofs.Ytlmcgjdenfnkmaa
open Go.RowKit Go.Joins

/-- A prefix is set. -/
def putm (m : List En) (A : Nat) (N V : Int) : List En := if okp A N = true then setm m ⟨A, N, V⟩ else m
/-- An act is done. -/
def actm (m : List En) (x : Ac) : List En := if x.d = true then dropm m x.A x.N else putm m x.A x.N x.V
/-- The entries behind the first k acts. -/
def mk6 (s : List Ac) (k : Nat) : List En := (s.take k).foldl actm []
theorem mk6_zero (s : List Ac) : mk6 s 0 = [] := by simp [mk6]
theorem mk6_succ {s : List Ac} {k : Nat} (h : k < s.length) : mk6 s (k + 1) = actm (mk6 s k) (ga s k) := by
  unfold mk6
  rw [List.take_succ_eq_append_getElem h, List.foldl_append, ga_eq h]
  rfl
theorem Om.put {m : List En} (h : Om m) {A : Nat} (N V : Int) (hA : A < 4294967296) : Om (putm m A N V) := by
  unfold putm
  split
  · rename_i hp
    exact h.set hp hA
  · exact h
theorem put_len {m : List En} (h : Om m) (A : Nat) (N V : Int) : (putm m A N V).length ≤ m.length + 1 := by
  unfold putm
  split
  · rw [setm_len h]
    split <;> omega
  · omega
theorem drop_is {m : List En} (h : Om m) (A : Nat) (N : Int) : decide ((dropm m A N).length < m.length) = (getm m A N).isSome := by
  cases e : getm m A N with
  | none =>
    rw [drop_self (getm_none.1 e)]
    simp
  | some x =>
    obtain ⟨h1, h2⟩ := (getm_some h).1 e
    have := drop_len h h1 h2
    simp
    omega
theorem drop_no {m : List En} {A : Nat} {N : Int} (e : getm m A N = none) : dropm m A N = m := drop_self (getm_none.1 e)
/-- The number of an error. -/
def ern (A : Nat) (N : Int) : Int := if okp A N = true then 0 else 1
theorem Grew.of_below {S : Nat → Prop} {w w' : World} {tb : Nat} {m : List En} (h : Tz S w tb m) (hb : Below w.heap.size w w') : Grew S w tb m w' := ⟨S, h.below hb, Kp.of_below hb (Nat.le_refl _), fun _ h => .inl h⟩
theorem tset_all (S : Nat → Prop) (tb A : Nat) (N V : Int) (m : List En) (w : World) (h : Tz S w tb m) (hA : A < 4294967296) (hm : m.length < 5000) :
    Calls Try.prog 12 #[.pointer (some ⟨tb, 0, none⟩), pf A N, .int .i64 V] w fun e w' => e = .returned (.int .i64 (ern A N)) ∧ Grew S w tb (putm m A N V) w' := by
  cases hp : okp A N with
  | true =>
    rw [show ern A N = 0 by simp [ern, hp], show putm m A N V = setm m ⟨A, N, V⟩ by simp [putm, hp]]
    exact set_any S tb A N V m w h hA hp hm
  | false =>
    rw [show ern A N = 1 by simp [ern, hp], show putm m A N V = m by simp [putm, hp]]
    exact (set_bad tb A N V w hA hp).mono fun e w' ⟨h1, h2⟩ => ⟨h1, Grew.of_below h h2⟩
theorem tdrop_all (S : Nat → Prop) (tb A : Nat) (N : Int) (m : List En) (w : World) (h : Tz S w tb m) (hA : A < 4294967296) (hm : m.length ≤ 5000) :
    Calls Try.prog 10 #[.pointer (some ⟨tb, 0, none⟩), pf A N] w fun e w' => e = .returned (.bool (getm m A N).isSome) ∧ Grew S w tb (dropm m A N) w' := by
  cases hp : getm m A N with
  | some x => exact drop_any S tb A N m x w h hA hp hm
  | none =>
    rw [drop_no hp]
    exact (drop_none S tb A N m w h hA hp).mono fun e w' ⟨h1, h2⟩ => ⟨h1, Grew.of_below h h2⟩
/-- What the reference's Set leaves: the row itself, or a new one. -/
def RPut (w : World) (A0 : Option Addr) (c : Nat) (m : List En) (A : Nat) (N V : Int) (e : Ending) (w' : World) : Prop :=
  ∃ A' c', e = .returned (.tuple #[.slice A' (putm m A N V).length c', .int .i64 (ern A N)]) ∧ Below w.heap.size w w' ∧ ((A' = A0 ∧ c' = c ∧ putm m A N V = m) ∨ Orw (w.heap.size ≤ ·) w' A' c' (putm m A N V))
theorem rset_all (S : Nat → Prop) (A0 : Option Addr) (c : Nat) (l : List En) (A : Nat) (N V : Int) (w : World) (hl : Rd S w A0 (eflat l)) (hll : l.length < 5000) (hA : A < 4294967296) :
    Calls Try.prog 13 #[.slice A0 l.length c, pf A N, .int .i64 V] w fun e w' => RPut w A0 c l A N V e w' := by
  cases hp : okp A N with
  | true =>
    refine (rset_any S A0 c l A N V w hl hll hA hp).mono fun e w' ⟨A', c', h1, h2, h3⟩ => ?_
    refine ⟨A', c', ?_, h3, .inr ?_⟩
    · rw [show ern A N = 0 by simp [ern, hp], show putm l A N V = setm l ⟨A, N, V⟩ by simp [putm, hp]]
      exact h1
    · rw [show putm l A N V = setm l ⟨A, N, V⟩ by simp [putm, hp]]
      exact h2
  | false =>
    refine (rset_bad S A0 c l A N V w hl hA hp).mono fun e w' ⟨h1, h2⟩ => ?_
    have e1 : putm l A N V = l := by simp [putm, hp]
    refine ⟨A0, c, ?_, h2, .inl ⟨rfl, rfl, e1⟩⟩
    rw [show ern A N = 1 by simp [ern, hp], e1]
    exact h1

/-- A trie of the entries mt, and a row of mr that is none of its blocks; all of it was made behind w0. -/
structure Ls (w0 : World) (tb : Nat) (mt mr : List En) (A : Option Addr) (S : Nat → Prop) (wx : World) : Prop where
  tz : Tz S wx tb mt
  own : ∀ j, S j → w0.heap.size ≤ j ∧ j < wx.heap.size
  row : Rd (fun j => w0.heap.size ≤ j ∧ j < wx.heap.size ∧ ¬ S j) wx A (eflat mr)
  bel : Below w0.heap.size w0 wx
section
variable {w0 w w' : World} {tb : Nat} {mt mr mt' mr' : List En} {A A' : Option Addr} {S : Nat → Prop} {c' : Nat}
theorem Ls.below (h : Ls w0 tb mt mr A S w) (hb : Below w.heap.size w w') : Ls w0 tb mt mr A S w' :=
  ⟨h.tz.below hb, fun j hj => ⟨(h.own j hj).1, Nat.lt_of_lt_of_le (h.own j hj).2 hb.size⟩, (h.row.keep hb.size (fun j _ hj => hb.block j hj)).more (fun _j hj _ => ⟨hj.1, Nat.lt_of_lt_of_le hj.2.1 hb.size, hj.2.2⟩), h.bel.trans (hb.mono h.bel.size)⟩
theorem Ls.grew (h : Ls w0 tb mt mr A S w) (hg : Grew S w tb mt' w') : ∃ S', Ls w0 tb mt' mr A S' w' := by
  obtain ⟨S', h1, h2, h3⟩ := hg
  have hs := h2.size
  have hw := h.bel.size
  refine ⟨S', h1, fun j hj => ?_, (h.row.kp h2 (fun j hj => hj.2.2)).more (fun j hj _ => ⟨hj.1, by omega, fun hq => ?_⟩), h.bel.trans (h2.below (fun j hj => (h.own j hj).1) h.bel.size)⟩
  · rcases h3 j hj with q | q
    · have := h.own j q; omega
    · omega
  · rcases h3 j hq with q | q
    · exact hj.2.2 q
    · omega
theorem Ls.new (h : Ls w0 tb mt mr A S w) (hb : Below w.heap.size w w') (ho : Orw (w.heap.size ≤ ·) w' A' c' mr') : Ls w0 tb mt mr' A' S w' := by
  have h2 := h.below hb
  have hw := h.bel.size
  exact ⟨h2.tz, h2.own, ho.rd.more (fun j hj hl => ⟨by omega, hl, fun hq => by have := h.own j hq; omega⟩), h2.bel⟩
theorem Ls.put (h : Ls w0 tb mt mr A S w) {c : Nat} {B : Nat} {N V : Int} {x : Value} (hr : ∃ c', x = .tuple #[.slice A' (putm mr B N V).length c', .int .i64 (ern B N)] ∧ Below w.heap.size w w' ∧ ((A' = A ∧ c' = c ∧ putm mr B N V = mr) ∨ Orw (w.heap.size ≤ ·) w' A' c' (putm mr B N V))) : Ls w0 tb mt (putm mr B N V) A' S w' := by
  obtain ⟨c', _, hb, ⟨rfl, rfl, e⟩ | ho⟩ := hr
  · rw [e]; exact h.below hb
  · exact h.new hb ho
theorem Ls.start (w0 : World) (h : Tz (· = w0.heap.size) w w0.heap.size []) (hb : Below w0.heap.size w0 w) (hs : w.heap.size = w0.heap.size + 1) (A : Option Addr) : Ls w0 w0.heap.size [] [] A (· = w0.heap.size) w :=
  ⟨h, fun j hj => by omega, Rd.nil _, hb⟩
end
end Go.Proofs.Ytlmcgjdenfnkmaa
