/-
  Rows of rows of advertisements; what advertisements are packed as. No statement is proved here; no conditions.
-/
import Derived.Test.YtefbpaebimagaaaBu
import Derived.Test.YtefbpaebimagaaaRH
import Derived.Test.YtefbpaebimagaaaPa
namespace Go.Proofs.Ytefbpaebimagaaa
open Go.RowKit Go.Joins

/-! ### The document's words -/
/-- One advertisement more: rows that are closed, the row under way, its bytes. -/
def pstep (s : List (List Ct) × List Ct × Int) (x : Ct) : List (List Ct) × List Ct × Int :=
  if s.2.1.length = 50 ∨ 1472 < s.2.2 + x.1.n then (s.1 ++ [s.2.1], [x], x.1.n) else (s.1, s.2.1 ++ [x], s.2.2 + x.1.n)
def pst (L : List Ct) : List (List Ct) × List Ct × Int := L.foldl pstep ([], [], 0)
theorem pst_snoc (L : List Ct) (x : Ct) : pst (L ++ [x]) = pstep (pst L) x := by simp [pst]
def pkE (L : List Ct) : Int := if whs L = true then 0 else 1
def pkL (L : List Ct) : List (List Ct) := if whs L = true then (if (pst L).2.1 = [] then (pst L).1 else (pst L).1 ++ [(pst L).2.1]) else []
/-- A row that may be sent: not empty, at most 50, whole, at most 1472 bytes. -/
structure Fitr (l : List Ct) : Prop where
  pos : l ≠ []
  few : l.length ≤ 50
  who : whs l = true
  len : (ecs l).length ≤ 1472
theorem Fitr.put {l : List Ct} (h : Fitr l) : puE l = 0 := (puE_yes h.few h.who h.len).1
/-- What holds of the rows so far. -/
structure Pkd (L : List Ct) (s : List (List Ct) × List Ct × Int) : Prop where
  all : s.1.flatten ++ s.2.1 = L
  fit : ∀ l ∈ s.1, Fitr l
  few : s.2.1.length ≤ 50
  len : s.2.2 = ((ecs s.2.1).length : Int)
  big : s.2.2 ≤ 1472
  who : whs s.2.1 = true
  emp : s.2.1 = [] → s.1 = []
theorem whs_app {a b : List Ct} (h1 : whs a = true) (h2 : whs b = true) : whs (a ++ b) = true :=
  (whs_iff _).2 fun x hx => by
    rcases List.mem_append.1 hx with q | q
    · exact (whs_iff _).1 h1 x q
    · exact (whs_iff _).1 h2 x q
theorem pkd_pst (L : List Ct) (h : whs L = true) : Pkd L (pst L) := by
  have key : ∀ (n : Nat) (M : List Ct), M.length = n → whs M = true → Pkd M (pst M) := by
    intro n
    induction n with
    | zero =>
      intro M hM _
      obtain rfl : M = [] := List.eq_nil_of_length_eq_zero hM
      exact ⟨rfl, fun l hl => (by cases hl), by simp [pst], by simp [pst, ecs], by simp [pst], rfl, fun _ => rfl⟩
    | succ n ih =>
      intro M hM hw
      obtain ⟨N, x, rfl⟩ : ∃ N x, M = N ++ [x] := ⟨M.dropLast, M.getLast (by rintro rfl; simp at hM), (List.dropLast_concat_getLast _).symm⟩
      have hN : N.length = n := by simpa using hM
      have hwN : whs N = true := (whs_iff _).2 fun y hy => (whs_iff _).1 hw y (by simp [hy])
      have hx : wh x = true := (whs_iff _).1 hw x (by simp)
      obtain ⟨x1, x2, x3⟩ := may_len (wh_may hx)
      have p := ih N hN hwN
      rw [pst_snoc]
      generalize pst N = s at *
      obtain ⟨rs, l, n⟩ := s
      obtain ⟨p1, p2, p3, p4, p5, p6, p7⟩ := p
      have wx : whs [x] = true := (whs_iff _).2 fun y hy => by obtain rfl := List.mem_singleton.1 hy; exact hx
      have ex : ecs [x] = ec x := by simp [ecs]
      have ea : ecs (l ++ [x]) = ecs l ++ ec x := ecs_snoc _ _
      unfold pstep
      simp only at p1 p2 p3 p4 p5 p6 p7 ⊢
      split
      · rename_i q
        have hl : l ≠ [] := by
          rintro rfl
          rcases q with q | q
          · simp at q
          · simp [ecs] at p4
            omega
        refine ⟨by simp [← p1], fun z hz => ?_, by simp, by show x.1.n = ((ecs [x]).length : Int); rw [ex]; omega, by show x.1.n ≤ 1472; omega, wx, fun h => by simp at h⟩
        rcases List.mem_append.1 hz with r | r
        · exact p2 z r
        · obtain rfl := List.mem_singleton.1 r
          exact ⟨hl, p3, p6, by omega⟩
      · rename_i q
        refine ⟨by rw [← List.append_assoc, p1], p2, by rw [List.length_append, List.length_singleton]; omega, by rw [ea, List.length_append]; push_cast; omega, by show n + x.1.n ≤ 1472; omega, whs_app p6 wx, fun h => by simp at h⟩
  exact key L.length L rfl h
/-- What advertisements are packed as: rows that may be sent; together they are all. -/
theorem pk_ok {L : List Ct} (h : whs L = true) : (pkL L).flatten = L ∧ ∀ l ∈ pkL L, Fitr l := by
  obtain ⟨p1, p2, p3, p4, p5, p6, p7⟩ := pkd_pst L h
  rw [pkL, if_pos h]
  split
  · rename_i q
    rw [q] at p1
    exact ⟨by simpa using p1, p2⟩
  · rename_i q
    refine ⟨by simpa using p1, fun z hz => ?_⟩
    rcases List.mem_append.1 hz with r | r
    · exact p2 z r
    · obtain rfl := List.mem_singleton.1 r
      exact ⟨q, p3, p6, by omega⟩
/-! ### Rows of rows in memory -/
/-- A row as a cell holds it. -/
structure Sr where
  A : Option Addr
  c : Nat
  L : List Ae
abbrev rcs (r : Sr) : List Value := [.slice r.A r.L.length r.c]
theorem rcs_len (r : Sr) : (rcs r).length = 1 := rfl
theorem rcs_one (r : Sr) : ∀ u ∈ rcs r, u.oneCell' = true := by
  intro u hu
  obtain rfl := List.mem_singleton.1 hu
  rfl
def rflt (rs : List Sr) : List Value := rs.flatMap rcs
theorem rflt_length (rs : List Sr) : (rflt rs).length = rs.length * 1 := fm_len rcs_len rs
theorem rflt_snoc (rs : List Sr) (r : Sr) : rflt (rs ++ [r]) = rflt rs ++ rcs r := by simp [rflt]
theorem Ob.under {e : TypeId} {sz : Nat} {S : Nat → Prop} {w w' : World} {A : Option Addr} {c B : Nat} {cs : List Value} (h : Ob e sz S w A c cs) (k : Below B w w') (hS : ∀ j, S j → j < B) : Ob e sz S w' A c cs := by
  rcases h with h | ⟨g, hg, rfl, h3⟩
  · exact .inl h
  · exact .inr ⟨g, hg, rfl, h3.below k (hS g hg)⟩
theorem Ob.weak {e : TypeId} {sz : Nat} {S T : Nat → Prop} {w : World} {A : Option Addr} {c : Nat} {cs : List Value} (h : Ob e sz S w A c cs) (hST : ∀ j, S j → j < w.heap.size → T j) : Ob e sz T w A c cs := by
  rcases h with h | ⟨g, hg, rfl, h3⟩
  · exact .inl h
  · exact .inr ⟨g, hST g hg h3.lt, rfl, h3⟩
/-- A row of another type's block changes: this one stays. -/
theorem Ob.other {e e2 : TypeId} {sz sz2 : Nat} {S S2 : Nat → Prop} {w w' : World} {A A2 : Option Addr} {c c2 : Nat} {cs cs2 : List Value} (h : Ob e sz S w A c cs) (h2 : Ob e2 sz2 S2 w A2 c2 cs2) (hne : e ≠ e2) (k : Kp (fun j => A2 = some ⟨j, 0, none⟩) w w') : Ob e sz S w' A c cs := by
  rcases h with h | ⟨g, hg, rfl, h3⟩
  · exact .inl h
  · refine .inr ⟨g, hg, rfl, h3.kp k ?_⟩
    intro hj
    rcases h2 with ⟨rfl, _, _⟩ | ⟨g2, _, rfl, h4⟩
    · cases hj
    · injection hj with hj
      injection hj with hj
      exact h3.ne_type h4 hne hj.symm
theorem Bu.other {w w' : World} {x : Ae} (h : Bu w x) {e : TypeId} {sz : Nat} {S : Nat → Prop} {A : Option Addr} {c : Nat} {cs : List Value} (ho : Ob e sz S w A c cs) (hne : e ≠ 5) (k : Kp (fun j => A = some ⟨j, 0, none⟩) w w') : Bu w' x :=
  h.keep k.size fun b off e hl => k.block b (h.2 b off e hl).1 (h.apart ho hne b off e hl)
theorem Bu.under {w w' : World} {x : Ae} {B : Nat} (h : Bu w x) (hB : ∀ b off, x.A = some ⟨b, off, none⟩ → x.l ≠ [] → b < B) (k : Below B w w') : Bu w' x := h.keep k.size fun b off e hl => k.block b (hB b off e hl)
/-- A row that is closed: it lies below bl. -/
structure Clo (bl : Nat) (w : World) (r : Sr) : Prop where
  row : Ob 87 9 (· < bl) w r.A r.c (aflat r.L)
  bod : ∀ x ∈ r.L, Bu w x ∧ ∀ b off, x.A = some ⟨b, off, none⟩ → x.l ≠ [] → b < bl
theorem Clo.under {bl : Nat} {w w' : World} {r : Sr} (h : Clo bl w r) (k : Below bl w w') : Clo bl w' r :=
  ⟨h.row.under k (fun _ hj => hj), fun x hx => ⟨(h.bod x hx).1.under (h.bod x hx).2 k, (h.bod x hx).2⟩⟩
theorem Clo.more {bl bl' : Nat} {w : World} {r : Sr} (h : Clo bl w r) (hb : bl ≤ bl') : Clo bl' w r :=
  ⟨h.row.weak (fun j hj _ => by omega), fun x hx => ⟨(h.bod x hx).1, fun b off e hl => by have := (h.bod x hx).2 b off e hl; omega⟩⟩
theorem Clo.other {bl : Nat} {w w' : World} {r : Sr} (h : Clo bl w r) {S : Nat → Prop} {A : Option Addr} {c : Nat} {cs : List Value} (ho : Ob 51 1 S w A c cs) (k : Kp (fun j => A = some ⟨j, 0, none⟩) w w') : Clo bl w' r :=
  ⟨h.row.other ho (by decide) k, fun x hx => ⟨(h.bod x hx).1.other ho (by decide) k, (h.bod x hx).2⟩⟩
theorem Clo.of_aro {bl bl' : Nat} {w : World} {A : Option Addr} {c : Nat} {L : List Ae} (h : Aro bl w A c L) (hb : w.heap.size ≤ bl') : Clo bl' w ⟨A, c, L⟩ :=
  ⟨h.row.weak (fun j _ hj => by omega), fun x hx => ⟨h.bod x hx, fun b off e hl => by have := ((h.bod x hx).2 b off e hl).1; omega⟩⟩
theorem Clo.arr {bl : Nat} {w : World} {r : Sr} (h : Clo bl w r) : Arr w r.A r.L := ⟨Ob.rd h.row, fun x hx => (h.bod x hx).1.1⟩
theorem infoR : (Try.prog.info? 51).map (fun i => (i.zero, i.size, i.bytes)) = some (some (.slice none 0 0), 1, 24) := by kernel_rfl
/-- The rows that are closed, in a row of their own. -/
structure Rows1 (base bl : Nat) (w : World) (A : Option Addr) (c : Nat) (rs : List Sr) : Prop where
  row : Ob 51 1 (fun j => base ≤ j ∧ j < bl) w A c (rflt rs)
  clo : ∀ r ∈ rs, Clo bl w r
theorem Rows1.nil (base bl : Nat) (w : World) : Rows1 base bl w none 0 [] := ⟨.inl ⟨rfl, rfl, rfl⟩, fun r hr => by cases hr⟩
theorem Rows1.under {base bl : Nat} {w w' : World} {A : Option Addr} {c : Nat} {rs : List Sr} (h : Rows1 base bl w A c rs) (k : Below bl w w') : Rows1 base bl w' A c rs :=
  ⟨h.row.under k (fun _ hj => hj.2), fun r hr => (h.clo r hr).under k⟩
theorem Rows1.more {base bl bl' : Nat} {w : World} {A : Option Addr} {c : Nat} {rs : List Sr} (h : Rows1 base bl w A c rs) (hb : bl ≤ bl') : Rows1 base bl' w A c rs :=
  ⟨h.row.weak (fun j hj _ => ⟨hj.1, by omega⟩), fun r hr => (h.clo r hr).more hb⟩
/-- The row under way is closed. -/
theorem rows_app {base bl : Nat} {w : World} {A : Option Addr} {c n : Nat} {rs : List Sr} (h : Rows1 base bl w A c rs) (hn : rs.length = n) {B : Option Addr} {d : Nat} {L : List Ae} (hl : Aro bl w B d L) (hb : n ≤ 100000) (n0 : Nat) (hn0 : w.heap.size = n0) (hbase : base ≤ w.heap.size) (hbl : bl ≤ w.heap.size) :
    ∃ g' c' w', (Builtin.append_ #[58, 58] 58 #[.slice A n c, .slice (some ⟨n0, 0, none⟩) 1 1]).run Try.prog (w.alloc (.cells #[.slice B L.length d] 51)) = .ok (.slice (some ⟨g', 0, none⟩) (n + 1) c') w' ∧ Rows1 base w'.heap.size w' (some ⟨g', 0, none⟩) c' (rs ++ [⟨B, d, L⟩]) ∧ Below base w w' ∧ Kp (fun j => A = some ⟨j, 0, none⟩) w w' := by
  obtain ⟨i0, hi0, hz0, hz1, hz2⟩ := info_of infoR
  obtain ⟨g9, c9, Z9, r9, rg9, kp9, hg9⟩ := app_oneA (P := Try.prog) (S := fun j => base ≤ j ∧ j < bl) Try.underlying58 hi0 hz0 hz1 hz2 rfl (by decide) (by decide) h.row (n := n) (by rw [rflt_length, hn]) (rcs ⟨B, d, L⟩) rfl (rcs_one _) hb n0 hn0
  have hs := kp9.size
  refine ⟨g9, c9, Z9, r9, ⟨.inr ⟨g9, ⟨?_, rg9.lt⟩, rfl, by rw [rflt_snoc]; exact rg9⟩, fun r hr => ?_⟩, kp9.below (fun j hj => (h.row.at hj).1) hbase, kp9⟩
  · rcases hg9 with q | q
    · exact q.1
    · omega
  · rcases List.mem_append.1 hr with q | q
    · exact ((h.clo r q).other h.row kp9).more (by omega)
    · obtain rfl := List.mem_singleton.1 q
      exact ((Clo.of_aro (bl' := Z9.heap.size) hl (by omega)).other h.row kp9)
end Go.Proofs.Ytefbpaebimagaaa
