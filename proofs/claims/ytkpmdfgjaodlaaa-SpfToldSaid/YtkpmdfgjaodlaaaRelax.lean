/-
  The contract of the function with which Dist visits an edge. No statement is proved here; no conditions.
-/
import Derived.Test.YtkpmdfgjaodlaaaDj
namespace Go.Proofs.Ytkpmdfgjaodlaaa
open Go.RowKit Go.Joins

theorem Rg.nat_cell {w : World} {g c : Nat} {d : List Nat} (h : Rg 3 1 w g c (nts d)) {u : Nat} (hu : u < d.length) : w.cell? ⟨g, u, none⟩ = some (.int .i64 (gw d u : Int)) :=
  h.cell (by rw [List.getElem?_map, List.getElem?_eq_getElem hu, gw_eq hu]; rfl)
theorem Rg.nat_set {w : World} {g c : Nat} {d : List Nat} (h : Rg 3 1 w g c (nts d)) (u x : Nat) : Rg 3 1 (w.setCell ⟨g, u, none⟩ (.int .i64 (x : Int))) g c (nts (d.set u x)) := by
  have := h.set u (.int .i64 (x : Int))
  rwa [nts_set] at this
/-- The distances and what waits, behind an edge to t of that length. -/
def rxd (d : List Nat) (t long : Nat) : List Nat := if long < gw d t then d.set t long else d
def rxm (d : List Nat) (m : List It) (t long : Nat) : List It := if long < gw d t then ins (itm long t) m else m
/-- What an edge leaves. -/
def Relaxed (N hb g gd : Nat) (d : List Nat) (m : List It) (w w' : World) : Prop :=
  ∃ g', Rg 3 1 w' gd N (nts d) ∧ Hp w' hb g' m ∧ (g' = g ∨ w.heap.size ≤ g') ∧ Kp (fun j => j = gd ∨ j = hb ∨ j = g) w w'

set_option maxRecDepth 100000 in
theorem relax_any (N : Nat) (G : List NE) (d : List Nat) (m : List It) (b0 dc xb qc gd hb g v i n c : Nat) (A : Option Addr) (S : Nat → Prop) (w : World)
    (c1 : w.cell? ⟨b0, 1, none⟩ = some (.slice A n c)) (hn : n = G.length) (hE : Rd S w A (nflat G)) (c2 : w.cell? ⟨dc, 0, none⟩ = some (.slice (some ⟨gd, 0, none⟩) N N)) (c3 : w.cell? ⟨xb, 1, none⟩ = some (.int .i64 (v : Int)))
    (c4 : w.cell? ⟨qc, 0, none⟩ = some (.pointer (some ⟨hb, 0, none⟩))) (hd : Rg 3 1 w gd N (nts d)) (hdl : d.length = N) (hh : Hp w hb g m) (h1 : gd ≠ hb) (h2 : gd ≠ g) (__h3 : dc ≠ gd) (h4 : qc ≠ gd) (hm : m.length < 1000000)
    (hi : i < G.length) (hv : v < N) (ht : (gn G i).t < N) (hc : (gn G i).c ≤ 65535) (hub : gw d v ≤ inf) (_hN : N ≤ 64) (_hG : G.length ≤ 400) :
    Calls Try.prog 31 #[.int .i64 (i : Int), .pointer (some ⟨b0, 0, none⟩), .pointer (some ⟨dc, 0, none⟩), .pointer (some ⟨xb, 0, none⟩), .pointer (some ⟨qc, 0, none⟩)] w fun e w' =>
      e = .returned (.tuple #[]) ∧ Relaxed N hb g gd (rxd d (gn G i).t (gw d v + (gn G i).c)) (rxm d m (gn G i).t (gw d v + (gn G i).c)) w w' := by
  obtain ⟨b, off, rfl, _, _, e0, e1, e2⟩ := hE.nedge hi
  obtain ⟨x, hx⟩ : ∃ x, gn G i = x := ⟨_, rfl⟩
  rw [hx] at e0 e1 e2 ht hc ⊢
  have k1 := hd.nat_cell (u := v) (by omega)
  have k2 := hd.nat_cell (u := x.t) (by omega)
  have hii : (i : Int) < (n : Int) := by omega
  have hvi : (v : Int) < (N : Int) := by omega
  have hti : (x.t : Int) < (N : Int) := by omega
  obtain ⟨lg, hlg⟩ : ∃ lg, gw d v + x.c = lg := ⟨_, rfl⟩
  have wl : IntKind.i64.wrap ((gw d v : Int) + (x.c : Int)) = (lg : Int) := by rw [IntKind.wrap_i64]; unfold inf at hub; omega
  have fz := hd.frozen x.t
  have HD := Lib.hid hd
  have HH := Lib.hid hh
  clear hE hd hh hx
  rw [hlg]
  by_cases hlt : lg < gw d x.t
  · have hlti : (lg : Int) < (gw d x.t : Int) := by omega
    have RD : Hid (Rg 3 1 (w.setCell ⟨gd, x.t, none⟩ (.int .i64 (lg : Int))) gd N (nts (d.set x.t lg))) := Lib.hid (HD.out.nat_set x.t lg)
    have RH : Hid (Hp (w.setCell ⟨gd, x.t, none⟩ (.int .i64 (lg : Int))) hb g m) := Lib.hid (HH.out.kp (Kp.setCell (S := (· = gd)) w _ _ rfl) (fun e => h1 e.symm) (fun e => h2 e.symm))
    go_enter Try.func31, Try.ntmps31
    go_wp2_with fail
    go_quiet (fail)
    have w64 : IntKind.u64.wrap (lg : Int) = (lg : Int) := by rw [IntKind.wrap_u64]; unfold inf at hub; omega
    go_wp2_with fail
    refine (push_any hb g m (itm lg x.t) _ (show Hp ((w.drewN nq).setCell ⟨gd, x.t, none⟩ (.int .i64 (lg : Int))) hb g m from RH.out) hm).mono ?_
    rintro e W1 ⟨rfl, g', q1, q2, q3⟩
    have k0 : Kp (fun j => j = gd ∨ j = hb ∨ j = g) w ((w.drewN nq).setCell ⟨gd, x.t, none⟩ (.int .i64 (lg : Int))) := ⟨rfl, rfl, rfl, by simp [World.setCell], fun j _ hj => Below.heap_setCell _ _ _ _ (fun e => hj (.inl e))⟩
    have rd : Rg 3 1 W1 gd N (nts (d.set x.t lg)) := (show Rg 3 1 ((w.drewN nq).setCell ⟨gd, x.t, none⟩ (.int .i64 (lg : Int))) gd N (nts (d.set x.t lg)) from RD.out).kp q3 (fun e => by rcases e with e | e; exact h1 e; exact h2 e)
    have Q1 := Lib.hid q1
    have Q3 := Lib.hid (k0.trans q3 (fun j hj => .inl (.inr hj)))
    have Q4 := Lib.hid rd
    have Q2 : Hid (g' = g ∨ w.heap.size ≤ g') := Lib.hid (q2.imp id (fun h => by simpa [World.setCell] using h))
    clear q1 q3 q2 rd k0
    go_wp2
    go_end0
    refine ⟨rfl, g', ?_, ?_, Q2.out, Q3.out⟩
    · rw [rxd, if_pos hlt]; exact Q4.out
    · rw [rxm, if_pos hlt]; exact Q1.out
  · have hlti : decide ((lg : Int) < (gw d x.t : Int)) = false := by simp; omega
    go_enter Try.func31, Try.ntmps31
    go_wp2_with fail
    go_quiet (fail)
    go_wp2_with fail
    go_end0
    refine ⟨rfl, g, ?_, ?_, .inl rfl, ⟨rfl, rfl, rfl, Nat.le_refl _, fun _ _ _ => rfl⟩⟩
    · rw [rxd, if_neg hlt]; exact HD.out
    · rw [rxm, if_neg hlt]; exact HH.out
end Go.Proofs.Ytkpmdfgjaodlaaa
