/-
  Contracts of the small functions of package spf: among, May, unreached. No statement is proved here; no conditions.
-/
import Derived.Test.YtkpmdfgjaodlaaaRow
namespace Go.Proofs.Ytkpmdfgjaodlaaa
open Go.RowKit Go.Joins

theorem among_any (x n : Int) (w : World) : Calls Try.prog 26 #[.int .i64 x, .int .i64 n] w fun e w' => e = .returned (.bool (decide (0 ≤ x ∧ x < n))) ∧ w' = w := by
  by_cases h1 : 0 ≤ x
  · by_cases h2 : x < n
    · have d1 : decide (x ≥ 0) = true := by simpa using h1
      have d2 : decide (x < n) = true := by simpa using h2
      go_enter Try.func26, Try.ntmps26
      go_wp2
      go_ret
      exact ⟨ret_bool (by simp [h1, h2]), rfl⟩
    · have d1 : decide (x ≥ 0) = true := by simpa using h1
      have d2 : decide (x < n) = false := by simpa using h2
      go_enter Try.func26, Try.ntmps26
      go_wp2
      go_ret
      exact ⟨ret_bool (by simp), rfl⟩
  · have d1 : decide (x ≥ 0) = false := by simpa using h1
    go_enter Try.func26, Try.ntmps26
    go_wp2
    go_ret
    exact ⟨ret_bool (by simp), rfl⟩

/-- An edge between nodes, of a cost that may be. -/
def okE (N : Int) (e : Ed) : Bool := decide (0 ≤ e.f ∧ e.f < N ∧ 0 ≤ e.t ∧ e.t < N ∧ 0 ≤ e.c ∧ e.c ≤ 65535)
def may (N : Int) (E : List Ed) : Bool := decide (1 ≤ N ∧ N ≤ 64 ∧ E.length ≤ 400) && E.all (okE N)
theorem box2_at {w : World} {u v : Value} {t : TypeId} {B : Nat} (hB : w.heap.size < B) : ∀ W, Below B (w.alloc (.cells #[u, v] t)) W → W.cell? ⟨w.heap.size, 0, none⟩ = some u ∧ W.cell? ⟨w.heap.size, 1, none⟩ = some v ∧ W.frozen? ⟨w.heap.size, 0, none⟩ = false ∧ W.frozen? ⟨w.heap.size, 1, none⟩ = false := fun _W h =>
  blk2 ((h.block _ hB).trans (Go.heap_alloc_new w _))
theorem take_all {α : Type} (p : α → Bool) (l : List α) (k : Nat) (hk : k < l.length) : (l.take (k + 1)).all p = ((l.take k).all p && p l[k]) := by
  rw [List.take_succ_eq_append_getElem hk, List.all_append]
  simp

set_option maxRecDepth 100000 in
theorem may_any (N : Int) (A : Option Addr) (c : Nat) (E : List Ed) (B : Nat) (w : World) (hE : Rd (· < B) w A (eflat E)) (hB : B ≤ w.heap.size) (hl : E.length ≤ 100000) :
    Calls Try.prog 17 #[gv N A E.length c] w fun e w' => e = .returned (.bool (may N E)) ∧ Below w.heap.size w w' := by
  have K := box2_at (w := w) (u := .int .i64 N) (v := .slice A E.length c) (t := 24) (B := w.heap.size + 1) (by omega)
  obtain ⟨c0, c1, _, _⟩ := K _ (Below.refl _ _)
  have B0 := below_alloc1 w (.cells #[.int .i64 N, .slice A E.length c] 24)
  by_cases h1 : 1 ≤ N
  · by_cases h2 : N ≤ 64
    · by_cases h3 : E.length ≤ 400
      · have d1 : decide (N < 1) = false := by simpa using h1
        have d2 : decide (N > 64) = false := by simpa using h2
        have d3 : decide ((E.length : Int) > 400) = false := by simp; omega
        go_enter Try.func17, Try.ntmps17
        go_wp2_with fail
        go_loopg [22] (E.length) (fun gf v wx => ∃ k, v = .int .i64 ((k : Nat) : Int) ∧ Hid (gf + k = E.length) ∧ Hid ((E.take k).all (okE N) = true) ∧ Hid (Below (w.heap.size + 1) (w.alloc (.cells #[.int .i64 N, .slice A E.length c] 24)) wx))
        case atStart => exact ⟨0, rfl, Lib.hid (by omega), Lib.hid (by simp), Lib.hid (Below.refl _ _)⟩
        case round =>
          obtain ⟨k, rfl, hk, hall, hb⟩ := hrel
          have hk' := hk.out
          cases gk with
          | zero =>
            have e1 : k = E.length := by omega
            have lt0 : decide ((k : Int) < (E.length : Int)) = false := by simp; omega
            go_wp2
            go_ret
            refine ⟨ret_bool ?_, (B0.trans (hb.out.mono (by omega)))⟩
            have := hall.out
            rw [e1, List.take_length] at this
            simp [may, h1, h2, h3, this]
          | succ gf =>
            have hkl : k < E.length := by omega
            have lt0 : (k : Int) < (E.length : Int) := by omega
            have hEx : Rd (· < B) wr A (eflat E) := (hE.below B0 (fun j hj _ => by omega)).below hb.out (fun j hj _ => by omega)
            obtain ⟨b, off, hA, hbB, hbs, e0, e1, e2⟩ := hEx.edge hkl
            have hsz := hb.out.size
            simp at hsz
            obtain ⟨x, hx⟩ : ∃ x, ge E k = x := ⟨_, rfl⟩
            rw [hx] at e0 e1 e2
            have hbx : Below (w.heap.size + 1) (w.alloc (.cells #[.int .i64 N, .slice A E.length c] 24)) (wr.alloc (.cells #[.int .i64 x.f, .int .i64 x.t, .int .i64 x.c] 50)) := hb.out.alloc (by omega) _
            obtain ⟨k0, _⟩ := K _ hbx
            have am := fun y W => among_any y N W
            subst hA
            clear hEx hE K c0 c1 d1 d2 d3
            have HB := Lib.hid hbx
            have HX := Lib.hid hx
            clear hbx hx hb
            cases ho : okE N x with
            | true =>
              have ho' := ho
              simp only [okE, decide_eq_true_eq] at ho'
              have a1 : decide (0 ≤ x.f ∧ x.f < N) = true := by simp; omega
              have a2 : decide (0 ≤ x.t ∧ x.t < N) = true := by simp; omega
              have a3 : decide (x.c < 0) = false := by simp; omega
              have a4 : decide (x.c > 65535) = false := by simp; omega
              clear ho'
              go_wp2_with (go_at_call 26; refine (am _ _).mono ?_; rintro e W ⟨rfl, rfl⟩)
              go_roundg gf
              case measure => omega
              case rel =>
                refine ⟨k + 1, by go_num, Lib.hid (by omega), Lib.hid ?_, HB⟩
                rw [take_all _ _ _ hkl, hall.out, ← ge_eq hkl, HX.out, ho]
                rfl
            | false =>
              have hbad : may N E = false := by
                have : E.all (okE N) = false := by
                  rw [List.all_eq_false]
                  exact ⟨x, by rw [← HX.out, ge_eq hkl]; exact List.getElem_mem _, by simp [ho]⟩
                simp [may, this]
              have ho' := ho
              simp only [okE, decide_eq_false_iff_not] at ho'
              by_cases q1 : 0 ≤ x.f ∧ x.f < N
              · have a1 : decide (0 ≤ x.f ∧ x.f < N) = true := by simpa using q1
                by_cases q2 : 0 ≤ x.t ∧ x.t < N
                · have a2 : decide (0 ≤ x.t ∧ x.t < N) = true := by simpa using q2
                  by_cases q3 : x.c < 0
                  · have a3 : decide (x.c < 0) = true := by simpa using q3
                    clear ho' q1 q2
                    go_wp2_with (go_at_call 26; refine (am _ _).mono ?_; rintro e W ⟨rfl, rfl⟩)
                    go_ret
                    exact ⟨ret_bool hbad.symm, B0.trans (HB.out.mono (by omega))⟩
                  · have a3 : decide (x.c < 0) = false := by simpa using q3
                    have a4 : decide (x.c > 65535) = true := by simp; omega
                    clear ho' q1 q2
                    go_wp2_with (go_at_call 26; refine (am _ _).mono ?_; rintro e W ⟨rfl, rfl⟩)
                    go_ret
                    exact ⟨ret_bool hbad.symm, B0.trans (HB.out.mono (by omega))⟩
                · have a2 : decide (0 ≤ x.t ∧ x.t < N) = false := by simpa using q2
                  clear ho' q1 q2
                  go_wp2_with (go_at_call 26; refine (am _ _).mono ?_; rintro e W ⟨rfl, rfl⟩)
                  go_ret
                  exact ⟨ret_bool hbad.symm, B0.trans (HB.out.mono (by omega))⟩
              · have a1 : decide (0 ≤ x.f ∧ x.f < N) = false := by simpa using q1
                clear ho' q1
                go_wp2_with (go_at_call 26; refine (am _ _).mono ?_; rintro e W ⟨rfl, rfl⟩)
                go_ret
                exact ⟨ret_bool hbad.symm, B0.trans (HB.out.mono (by omega))⟩
      · have d1 : decide (N < 1) = false := by simpa using h1
        have d2 : decide (N > 64) = false := by simpa using h2
        have d3 : decide ((E.length : Int) > 400) = true := by simp; omega
        go_enter Try.func17, Try.ntmps17
        go_wp2
        go_ret
        exact ⟨ret_bool (by rw [may, decide_eq_false (by omega), Bool.false_and]), B0⟩
    · have d1 : decide (N < 1) = false := by simpa using h1
      have d2 : decide (N > 64) = true := by simpa using h2
      go_enter Try.func17, Try.ntmps17
      go_wp2
      go_ret
      exact ⟨ret_bool (by rw [may, decide_eq_false (by omega), Bool.false_and]), B0⟩
  · have d1 : decide (N < 1) = true := by simpa using h1
    go_enter Try.func17, Try.ntmps17
    go_wp2
    go_ret
    exact ⟨ret_bool (by rw [may, decide_eq_false (by omega), Bool.false_and]), B0⟩

/-- A distance that is none. -/
abbrev inf : Nat := 1099511627776
theorem rep_set (k n : Nat) (h : k < n) : (List.replicate k inf ++ List.replicate (n - k) 0).set k inf = List.replicate (k + 1) inf ++ List.replicate (n - (k + 1)) 0 := by
  apply List.ext_getElem
  · simp; omega
  · intro i h1 h2
    simp only [List.getElem_set, List.getElem_append, List.getElem_replicate, List.length_replicate]
    split <;> split <;> (try split) <;> first | rfl | omega
theorem nts_set (l : List Nat) (i x : Nat) : (nts l).set i (.int .i64 (x : Int)) = nts (l.set i x) := by simp [nts, List.map_set]
set_option maxRecDepth 100000 in
theorem unreached_any (n : Nat) (w : World) (hn : n ≤ 1000) : Calls Try.prog 27 #[.int .i64 (n : Int)] w fun e w' => e = .returned (.slice (some ⟨w.heap.size, 0, none⟩) n n) ∧ Rg 3 1 w' w.heap.size n (nts (List.replicate n inf)) ∧ Below w.heap.size w w' := by
  obtain ⟨i, hi, hz, hsz, hby⟩ := info3
  obtain ⟨W1, hmk, r1, r2, _⟩ := run_mkr w 26 3 i _ 1 8 Try.underlying26 hi hz hsz hby n (by omega) (by omega)
  rw [Nat.mul_one, made_one _ rfl] at r1
  have R1 : Hid (Rg 3 1 W1 w.heap.size n (nts (List.replicate 0 inf ++ List.replicate (n - 0) 0))) := Lib.hid (by simpa [nts] using r1)
  have R2 := Lib.hid r2
  clear hi hz hsz hby r1 r2
  go_enter Try.func27, Try.ntmps27
  go_wp2_with fail
  go_loopg [9] n (fun gf v wx => ∃ k, v = .int .i64 ((k : Nat) : Int) ∧ Hid (gf + k = n) ∧ Hid (Rg 3 1 wx w.heap.size n (nts (List.replicate k inf ++ List.replicate (n - k) 0))) ∧ Hid (Below w.heap.size w wx))
  case atStart => exact ⟨0, rfl, Lib.hid (by omega), R1, R2⟩
  case round =>
    obtain ⟨k, rfl, hk, hr, hb⟩ := hrel
    have hk' := hk.out
    cases gk with
    | zero =>
      have e1 : k = n := by omega
      have lt0 : decide ((k : Int) < (n : Int)) = false := by simp; omega
      go_wp2
      go_ret
      refine ⟨rfl, ?_, hb.out⟩
      have := hr.out
      rw [e1] at this
      simpa using this
    | succ gf =>
      have hkl : k < n := by omega
      have lt0 : (k : Int) < (n : Int) := by omega
      have fz := hr.out.frozen k
      have cl : wr.cell? ⟨w.heap.size, k, none⟩ = some (.int .i64 0) := hr.out.cell (by
        rw [List.getElem?_map, List.getElem?_append_right (by simp), List.getElem?_replicate, if_pos (by simp; omega)]
        rfl)
      go_wp2
      go_roundg gf
      case measure => omega
      case rel =>
        refine ⟨k + 1, by go_num, Lib.hid (by omega), Lib.hid ?_, Lib.hid (hb.out.setCell (by simp) _)⟩
        have := hr.out.set k (.int .i64 (inf : Int))
        rwa [nts_set, rep_set k n hkl] at this
end Go.Proofs.Ytkpmdfgjaodlaaa
