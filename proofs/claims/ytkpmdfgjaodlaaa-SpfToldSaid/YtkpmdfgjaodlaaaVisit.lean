/-
  The contract of the function that visitor hands back, for whatever function it is given. No statement is proved here; no conditions.
-/
import Derived.Test.YtkpmdfgjaodlaaaVis
namespace Go.Proofs.Ytkpmdfgjaodlaaa
open Go.RowKit Go.Joins

/-- Number k of a row. -/
def gw (l : List Nat) (k : Nat) : Nat := l.getD k 0
theorem gw_eq {l : List Nat} {k : Nat} (h : k < l.length) : gw l k = l[k] := by simp [gw, List.getD, h]
theorem Rd.nat_at {S : Nat → Prop} {w : World} {A : Option Addr} {l : List Nat} (h : Rd S w A (nts l)) {k : Nat} (hk : k < l.length) : ∃ b off, A = some ⟨b, off, none⟩ ∧ w.cell? ⟨b, off + k, none⟩ = some (.int .i64 (gw l k : Int)) := by
  obtain ⟨b, off, e, _, _, hc⟩ := h (by intro e; have := congrArg List.length e; simp at this; subst this; simp at hk)
  exact ⟨b, off, e, hc k _ (by rw [List.getElem?_map, List.getElem?_eq_getElem hk, gw_eq hk]; rfl)⟩

set_option maxRecDepth 100000 in
theorem visit_any (S : Nat → Prop) (v u : Nat) (L : List (List Nat)) (F : Nat) (p1 p2 p3 p4 : Value) (Inv : Nat → World → Prop) (w : World) (hu : u < L.length) (hF : ∀ (args : Array Value) (w' : World), (callFunc F args).run Try.prog w' = .ok (.enter F args) w') (hv : Vs S w v L) (hl : (gl L u).length ≤ 100000) (h0 : Inv 0 w)
    (hkeep : ∀ k w', Inv k w' → w.heap.size ≤ w'.heap.size ∧ ∀ j, S j → j < w.heap.size → w'.heap[j]? = w.heap[j]?)
    (hsee : ∀ k w', k < (gl L u).length → Inv k w' → Calls Try.prog F #[.int .i64 (gw (gl L u) k : Int), p1, p2, p3, p4] w' fun e w'' => e = .returned (.tuple #[]) ∧ Inv (k + 1) w'') :
    Calls Try.prog 38 #[.int .i64 (u : Int), .func (.func F) #[] #[p1, p2, p3, p4], .pointer (some ⟨v, 0, none⟩)] w fun e w' => e = .returned (.tuple #[]) ∧ Inv (gl L u).length w' := by
  obtain ⟨gr, h1, h2, h3, h4, h5, h6⟩ := hv
  obtain ⟨A, c, q1, q2⟩ := h6 u hu
  have hui : (u : Int) < (L.length : Int) := by omega
  have Q2 := Lib.hid q2
  have K := Lib.hid hkeep
  have SEE := Lib.hid hsee
  have H0 := Lib.hid h0
  clear h1 h2 h3 h4 h6 q2 hkeep hsee h0
  obtain ⟨l, el⟩ : ∃ l, gl L u = l := ⟨_, rfl⟩
  rw [el] at q1 Q2 SEE hl ⊢
  go_enter Try.func38, Try.ntmps38
  go_wp2_with fail
  go_loopg [12] l.length (fun gf v wx => ∃ k, v = .int .i64 ((k : Nat) : Int) ∧ Hid (gf + k = l.length) ∧ Hid (Inv k wx))
  case atStart => exact ⟨0, rfl, Lib.hid (by omega), H0⟩
  case round =>
    obtain ⟨k, rfl, hk, hi⟩ := hrel
    have hk' := hk.out
    clear H0 h5 q1
    cases gk with
    | zero =>
      have e1 : k = l.length := by omega
      have lt0 : decide ((k : Int) < (l.length : Int)) = false := by simp; omega
      go_wp2
      go_end0
      exact ⟨rfl, e1 ▸ hi.out⟩
    | succ gf =>
      have hkl : k < l.length := by omega
      have lt0 : (k : Int) < (l.length : Int) := by omega
      obtain ⟨k1, k2⟩ := K.out k wr hi.out
      obtain ⟨b, off, rfl, e0⟩ := (Q2.out.keep k1 k2).nat_at hkl
      have see := SEE.out k wr hkl hi.out
      clear k1 k2
      have hf1 := hF #[.int .i64 (gw l k : Int), p1, p2, p3, p4] wr
      go_wp2_with fail
      refine see.mono ?_
      rintro e W1 ⟨rfl, hi1⟩
      have HI := Lib.hid hi1
      clear hi1 see hf1
      go_wp2
      go_roundg gf
      case measure => omega
      case rel => exact ⟨k + 1, by go_num, Lib.hid (by omega), HI⟩
theorem enters31 (args : Array Value) (w' : World) : (callFunc 31 args).run Try.prog w' = .ok (.enter 31 args) w' := by simp [callFunc, Try.func31, Try.f31, mark]
theorem enters34 (args : Array Value) (w' : World) : (callFunc 34 args).run Try.prog w' = .ok (.enter 34 args) w' := by simp [callFunc, Try.func34, Try.f34, mark]
theorem enters43 (args : Array Value) (w' : World) : (callFunc 43 args).run Try.prog w' = .ok (.enter 43 args) w' := by simp [callFunc, Try.func43, Try.f43, mark]
end Go.Proofs.Ytkpmdfgjaodlaaa
