/-
  Rows of headers, keys and advertisements; contracts of the small functions of package dbd. No statement is proved here; no conditions.
-/
import Derived.Test.YtadcicmccdphkaaLs
import Derived.Lib.SliceRun
namespace Go.Proofs.Ytadcicmccdphkaa
open Go.RowKit Go.Joins

/-- A key. -/
structure Ky where
  (t i v : Int)
/-- An advertisement in memory. -/
structure Ae where
  h : Hd
  A : Option Addr
  c : Nat
  l : List Int
/-! ### Rows of h -/
abbrev hcs (x : Hd) : List Value := [.int .i64 x.a, .int .i64 x.o, .int .i64 x.t, .int .u32 x.i, .int .u32 x.v, .int .u32 x.q, .int .i64 x.s, .int .i64 x.n]
theorem hcs_len (x : Hd) : (hcs x).length = 8 := rfl
def hflat (L : List Hd) : List Value := L.flatMap hcs
theorem hflat_length (L : List Hd) : (hflat L).length = L.length * 8 := fm_len hcs_len L
theorem hflat_snoc (L : List Hd) (x : Hd) : hflat (L ++ [x]) = hflat L ++ hcs x := by simp [hflat]
theorem hcs_one (x : Hd) : ∀ u ∈ hcs x, u.oneCell' = true := by
  intro u hu
  simp only [hcs, List.mem_cons, List.not_mem_nil, or_false] at hu
  rcases hu with rfl | rfl | rfl | rfl | rfl | rfl | rfl | rfl <;> rfl
def hg (L : List Hd) (k : Nat) : Hd := L.getD k ⟨0, 0, 0, 0, 0, 0, 0, 0⟩
theorem hg_eq {L : List Hd} {k : Nat} (h : k < L.length) : hg L k = L[k] := by simp [hg, List.getD, h]
theorem hg_mem {L : List Hd} {k : Nat} (h : k < L.length) : hg L k ∈ L := by rw [hg_eq h]; exact List.getElem_mem h
theorem htake {L : List Hd} {k : Nat} (h : k < L.length) : L.take (k + 1) = L.take k ++ [hg L k] := by rw [List.take_succ_eq_append_getElem h, hg_eq h]
theorem hrd_at {w : World} {A : Option Addr} {L : List Hd} (h : Rd (fun _ => True) w A (hflat L)) {i : Nat} (hi : i < L.length) :
    ∃ b off, A = some ⟨b, off, none⟩ ∧ b < w.heap.size ∧ w.cell? ⟨b, off + i * 8, none⟩ = some (.int .i64 (hg L i).a) ∧ w.cell? ⟨b, off + i * 8 + 1, none⟩ = some (.int .i64 (hg L i).o) ∧ w.cell? ⟨b, off + i * 8 + 2, none⟩ = some (.int .i64 (hg L i).t) ∧ w.cell? ⟨b, off + i * 8 + 3, none⟩ = some (.int .u32 (hg L i).i) ∧ w.cell? ⟨b, off + i * 8 + 4, none⟩ = some (.int .u32 (hg L i).v) ∧ w.cell? ⟨b, off + i * 8 + 5, none⟩ = some (.int .u32 (hg L i).q) ∧ w.cell? ⟨b, off + i * 8 + 6, none⟩ = some (.int .i64 (hg L i).s) ∧ w.cell? ⟨b, off + i * 8 + 7, none⟩ = some (.int .i64 (hg L i).n) := by
  obtain ⟨b, off, rfl, hlt, hc⟩ := fm_at hcs_len (by omega) h hi
  rw [hg_eq hi]
  exact ⟨b, off, rfl, hlt, hc 0 _ rfl, hc 1 _ rfl, hc 2 _ rfl, hc 3 _ rfl, hc 4 _ rfl, hc 5 _ rfl, hc 6 _ rfl, hc 7 _ rfl⟩
/-! ### Rows of k -/
abbrev kcs (x : Ky) : List Value := [.int .i64 x.t, .int .u32 x.i, .int .u32 x.v]
theorem kcs_len (x : Ky) : (kcs x).length = 3 := rfl
def kflat (L : List Ky) : List Value := L.flatMap kcs
theorem kflat_length (L : List Ky) : (kflat L).length = L.length * 3 := fm_len kcs_len L
theorem kflat_snoc (L : List Ky) (x : Ky) : kflat (L ++ [x]) = kflat L ++ kcs x := by simp [kflat]
theorem kcs_one (x : Ky) : ∀ u ∈ kcs x, u.oneCell' = true := by
  intro u hu
  simp only [kcs, List.mem_cons, List.not_mem_nil, or_false] at hu
  rcases hu with rfl | rfl | rfl <;> rfl
def kg (L : List Ky) (k : Nat) : Ky := L.getD k ⟨0, 0, 0⟩
theorem kg_eq {L : List Ky} {k : Nat} (h : k < L.length) : kg L k = L[k] := by simp [kg, List.getD, h]
theorem kg_mem {L : List Ky} {k : Nat} (h : k < L.length) : kg L k ∈ L := by rw [kg_eq h]; exact List.getElem_mem h
theorem ktake {L : List Ky} {k : Nat} (h : k < L.length) : L.take (k + 1) = L.take k ++ [kg L k] := by rw [List.take_succ_eq_append_getElem h, kg_eq h]
theorem krd_at {w : World} {A : Option Addr} {L : List Ky} (h : Rd (fun _ => True) w A (kflat L)) {i : Nat} (hi : i < L.length) :
    ∃ b off, A = some ⟨b, off, none⟩ ∧ b < w.heap.size ∧ w.cell? ⟨b, off + i * 3, none⟩ = some (.int .i64 (kg L i).t) ∧ w.cell? ⟨b, off + i * 3 + 1, none⟩ = some (.int .u32 (kg L i).i) ∧ w.cell? ⟨b, off + i * 3 + 2, none⟩ = some (.int .u32 (kg L i).v) := by
  obtain ⟨b, off, rfl, hlt, hc⟩ := fm_at kcs_len (by omega) h hi
  rw [kg_eq hi]
  exact ⟨b, off, rfl, hlt, hc 0 _ rfl, hc 1 _ rfl, hc 2 _ rfl⟩
/-! ### Rows of a -/
abbrev acs (x : Ae) : List Value := [.int .i64 x.h.a, .int .i64 x.h.o, .int .i64 x.h.t, .int .u32 x.h.i, .int .u32 x.h.v, .int .u32 x.h.q, .int .i64 x.h.s, .int .i64 x.h.n, .slice x.A x.l.length x.c]
theorem acs_len (x : Ae) : (acs x).length = 9 := rfl
def aflat (L : List Ae) : List Value := L.flatMap acs
theorem aflat_length (L : List Ae) : (aflat L).length = L.length * 9 := fm_len acs_len L
theorem aflat_snoc (L : List Ae) (x : Ae) : aflat (L ++ [x]) = aflat L ++ acs x := by simp [aflat]
theorem acs_one (x : Ae) : ∀ u ∈ acs x, u.oneCell' = true := by
  intro u hu
  simp only [acs, List.mem_cons, List.not_mem_nil, or_false] at hu
  rcases hu with rfl | rfl | rfl | rfl | rfl | rfl | rfl | rfl | rfl <;> rfl
def ag (L : List Ae) (k : Nat) : Ae := L.getD k ⟨⟨0, 0, 0, 0, 0, 0, 0, 0⟩, none, 0, []⟩
theorem ag_eq {L : List Ae} {k : Nat} (h : k < L.length) : ag L k = L[k] := by simp [ag, List.getD, h]
theorem ag_mem {L : List Ae} {k : Nat} (h : k < L.length) : ag L k ∈ L := by rw [ag_eq h]; exact List.getElem_mem h
theorem atake {L : List Ae} {k : Nat} (h : k < L.length) : L.take (k + 1) = L.take k ++ [ag L k] := by rw [List.take_succ_eq_append_getElem h, ag_eq h]
theorem ard_at {w : World} {A : Option Addr} {L : List Ae} (h : Rd (fun _ => True) w A (aflat L)) {i : Nat} (hi : i < L.length) :
    ∃ b off, A = some ⟨b, off, none⟩ ∧ b < w.heap.size ∧ w.cell? ⟨b, off + i * 9, none⟩ = some (.int .i64 (ag L i).h.a) ∧ w.cell? ⟨b, off + i * 9 + 1, none⟩ = some (.int .i64 (ag L i).h.o) ∧ w.cell? ⟨b, off + i * 9 + 2, none⟩ = some (.int .i64 (ag L i).h.t) ∧ w.cell? ⟨b, off + i * 9 + 3, none⟩ = some (.int .u32 (ag L i).h.i) ∧ w.cell? ⟨b, off + i * 9 + 4, none⟩ = some (.int .u32 (ag L i).h.v) ∧ w.cell? ⟨b, off + i * 9 + 5, none⟩ = some (.int .u32 (ag L i).h.q) ∧ w.cell? ⟨b, off + i * 9 + 6, none⟩ = some (.int .i64 (ag L i).h.s) ∧ w.cell? ⟨b, off + i * 9 + 7, none⟩ = some (.int .i64 (ag L i).h.n) ∧ w.cell? ⟨b, off + i * 9 + 8, none⟩ = some (.slice (ag L i).A (ag L i).l.length (ag L i).c) := by
  obtain ⟨b, off, rfl, hlt, hc⟩ := fm_at acs_len (by omega) h hi
  rw [ag_eq hi]
  exact ⟨b, off, rfl, hlt, hc 0 _ rfl, hc 1 _ rfl, hc 2 _ rfl, hc 3 _ rfl, hc 4 _ rfl, hc 5 _ rfl, hc 6 _ rfl, hc 7 _ rfl, hc 8 _ rfl⟩
/-- The row is read at A. -/
def hRr (w : World) (A : Option Addr) (L : List Hd) : Prop := Rd (fun _ => True) w A (hflat L)
theorem hRr.step {w w' : World} {A : Option Addr} {L : List Hd} (h : hRr w A L) (k : Below w.heap.size w w') : hRr w' A L := Rd.keep h k.size fun j _ hj => k.block j hj
theorem hRr.nil (w : World) (A : Option Addr) : hRr w A [] := Rd.nil A
/-- The row is read at A. -/
def kRr (w : World) (A : Option Addr) (L : List Ky) : Prop := Rd (fun _ => True) w A (kflat L)
theorem kRr.step {w w' : World} {A : Option Addr} {L : List Ky} (h : kRr w A L) (k : Below w.heap.size w w') : kRr w' A L := Rd.keep h k.size fun j _ hj => k.block j hj
theorem kRr.nil (w : World) (A : Option Addr) : kRr w A [] := Rd.nil A
/-- The encodings of headers. -/
def encs (L : List Hd) : List Int := L.flatMap ehd
theorem encs_snoc (L : List Hd) (x : Hd) : encs (L ++ [x]) = encs L ++ ehd x := by simp [encs]
theorem encs_length (L : List Hd) : (encs L).length = L.length * 20 := by
  induction L with
  | nil => rfl
  | cons x L ih =>
    have : encs (x :: L) = ehd x ++ encs L := by simp [encs]
    rw [this, List.length_append, ih, ehd_length, List.length_cons]
    omega
theorem encs_byt (L : List Hd) : Byt (encs L) := by
  intro y hy
  obtain ⟨x, _, h⟩ := List.mem_flatMap.1 hy
  exact ehd_byt x y h
def mays (L : List Hd) : Bool := L.all mayd
theorem mays_iff (L : List Hd) : mays L = true ↔ ∀ x ∈ L, mayd x = true := by simp [mays]
theorem mays_no {L : List Hd} {x : Hd} (h : x ∈ L) (hx : mayd x = false) : mays L = false := by
  cases q : mays L with
  | false => rfl
  | true => rw [(mays_iff L).1 q x h] at hx; cases hx
/-- Why these headers are not written; 0 if they are; as what. -/
def phE (L : List Hd) (a b : Int) : Int := if (win (L.length : Int) a b && mays L) = true then 0 else 1
def phL (L : List Hd) (a b : Int) : List Int := if phE L a b = 0 then encs L else []
theorem phE_no {L : List Hd} {a b : Int} (h : (win (L.length : Int) a b && mays L) = false) : phE L a b = 1 ∧ phL L a b = [] := by
  have e : phE L a b = 1 := by rw [phE, if_neg (by rw [h]; decide)]
  exact ⟨e, by rw [phL, if_neg (by omega)]⟩
theorem phE_yes {L : List Hd} {a b : Int} (h : win (L.length : Int) a b = true) (h2 : mays L = true) : phE L a b = 0 ∧ phL L a b = encs L := by
  have e : phE L a b = 0 := by rw [phE, h, h2]; rfl
  exact ⟨e, by rw [phL, if_pos e]⟩
/-! ### Contracts -/
end Go.Proofs.Ytadcicmccdphkaa
