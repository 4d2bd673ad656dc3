/-
  The contract of the reference's May. No statement is proved here; no conditions.
-/
import Derived.Test.YtkpmdfgjaodlaaaLeaf
namespace Go.Proofs.Ytkpmdfgjaodlaaa
open Go.RowKit Go.Joins

set_option maxRecDepth 100000 in
theorem rmay_any (N : Int) (A : Option Addr) (c : Nat) (E : List Ed) (B : Nat) (w : World) (hE : Rd (· < B) w A (eflat E)) (hB : B ≤ w.heap.size) (hl : E.length ≤ 100000) :
    Calls Try.prog 18 #[gv N A E.length c] w fun e w' => e = .returned (.bool (may N E)) ∧ Below w.heap.size w w' := by
  have K := box2_at (w := w) (u := .int .i64 N) (v := .slice A E.length c) (t := 31) (B := w.heap.size + 1) (by omega)
  obtain ⟨c0, c1, _, _⟩ := K _ (Below.refl _ _)
  have B0 := below_alloc1 w (.cells #[.int .i64 N, .slice A E.length c] 31)
  by_cases h1 : 1 ≤ N
  · by_cases h2 : N ≤ 64
    · by_cases h3 : E.length ≤ 400
      · have d1 : decide (N < 1) = false := by simpa using h1
        have d2 : decide (N > 64) = false := by simpa using h2
        have d3 : decide ((E.length : Int) > 400) = false := by simp; omega
        go_enter Try.func18, Try.ntmps18
        go_wp2_with fail
        go_loopg [3] (E.length) (fun gf v wx => ∃ k, v = .int .i64 ((k : Nat) : Int) ∧ Hid (gf + k = E.length) ∧ Hid ((E.take k).all (okE N) = true) ∧ Hid (Below (w.heap.size + 1) (w.alloc (.cells #[.int .i64 N, .slice A E.length c] 31)) wx))
        case atStart => exact ⟨0, rfl, Lib.hid (by omega), Lib.hid (by simp), Lib.hid (Below.refl _ _)⟩
        case round =>
          obtain ⟨k, rfl, hk, hall, hb⟩ := hrel
          have hk' := hk.out
          obtain ⟨z0, z1, _, _⟩ := K _ hb.out
          cases gk with
          | zero =>
            have e1 : k = E.length := by omega
            have lt0 : decide ((k : Int) < (E.length : Int)) = false := by simp; omega
            go_wp2
            go_ret
            refine ⟨ret_bool ?_, (B0.trans (hb.out.mono (by omega)))⟩
            have := hall.out
            rw [e1, List.take_length] at this
            simp [may, h1, h2, h3, this]
          | succ gf =>
            have hkl : k < E.length := by omega
            have lt0 : (k : Int) < (E.length : Int) := by omega
            have hEx : Rd (· < B) wr A (eflat E) := (hE.below B0 (fun j hj _ => by omega)).below hb.out (fun j hj _ => by omega)
            obtain ⟨b, off, hA, hbB, hbs, e0, e1, e2⟩ := hEx.edge hkl
            have hsz := hb.out.size
            simp at hsz
            obtain ⟨x, hx⟩ : ∃ x, ge E k = x := ⟨_, rfl⟩
            rw [hx] at e0 e1 e2
            have hbx : Below (w.heap.size + 1) (w.alloc (.cells #[.int .i64 N, .slice A E.length c] 31)) (wr.alloc (.cells #[.int .i64 x.f, .int .i64 x.t, .int .i64 x.c] 50)) := hb.out.alloc (by omega) _
            obtain ⟨k0, k1, _, _⟩ := K _ hbx
            subst hA
            clear hEx hE K c0 c1 d1 d2 d3
            have HB := Lib.hid hbx
            have HX := Lib.hid hx
            clear hbx hx hb
            cases ho : okE N x with
            | true =>
              have ho' := ho
              simp only [okE, decide_eq_true_eq] at ho'
              have a1 : decide (x.f < 0) = false := by simp; omega
              have a1' : decide (x.f ≥ N) = false := by simp; omega
              have a2 : decide (x.t < 0) = false := by simp; omega
              have a2' : decide (x.t ≥ N) = false := by simp; omega
              have a3 : decide (x.c < 0) = false := by simp; omega
              have a4 : decide (x.c > 65535) = false := by simp; omega
              clear ho'
              go_wp2
              go_roundg gf
              case measure => omega
              case rel =>
                refine ⟨k + 1, by go_num, Lib.hid (by omega), Lib.hid ?_, HB⟩
                rw [take_all _ _ _ hkl, hall.out, ← ge_eq hkl, HX.out, ho]
                rfl
            | false =>
              have hbad : may N E = false := by
                have : E.all (okE N) = false := by
                  rw [List.all_eq_false]
                  exact ⟨x, by rw [← HX.out, ge_eq hkl]; exact List.getElem_mem _, by simp [ho]⟩
                simp [may, this]
              have ho' := ho
              simp only [okE, decide_eq_false_iff_not] at ho'
              by_cases qa : x.f < 0
              · have qa' : decide (x.f < 0) = true := by simpa using qa
                clear ho'
                go_wp2
                go_ret
                exact ⟨by first | rfl | exact ret_bool hbad.symm, B0.trans (HB.out.mono (by omega))⟩
              · have qa' : decide (x.f < 0) = false := by simpa using qa
                by_cases qb : x.f ≥ N
                · have qb' : decide (x.f ≥ N) = true := by simpa using qb
                  clear ho'
                  go_wp2
                  go_ret
                  exact ⟨by first | rfl | exact ret_bool hbad.symm, B0.trans (HB.out.mono (by omega))⟩
                · have qb' : decide (x.f ≥ N) = false := by simpa using qb
                  by_cases qc : x.t < 0
                  · have qc' : decide (x.t < 0) = true := by simpa using qc
                    clear ho'
                    go_wp2
                    go_ret
                    exact ⟨by first | rfl | exact ret_bool hbad.symm, B0.trans (HB.out.mono (by omega))⟩
                  · have qc' : decide (x.t < 0) = false := by simpa using qc
                    by_cases qd : x.t ≥ N
                    · have qd' : decide (x.t ≥ N) = true := by simpa using qd
                      clear ho'
                      go_wp2
                      go_ret
                      exact ⟨by first | rfl | exact ret_bool hbad.symm, B0.trans (HB.out.mono (by omega))⟩
                    · have qd' : decide (x.t ≥ N) = false := by simpa using qd
                      by_cases qe : x.c < 0
                      · have qe' : decide (x.c < 0) = true := by simpa using qe
                        clear ho'
                        go_wp2
                        go_ret
                        exact ⟨by first | rfl | exact ret_bool hbad.symm, B0.trans (HB.out.mono (by omega))⟩
                      · have qe' : decide (x.c < 0) = false := by simpa using qe
                        have qf' : decide (x.c > 65535) = true := by simp; omega
                        clear ho'
                        go_wp2
                        go_ret
                        exact ⟨by first | rfl | exact ret_bool hbad.symm, B0.trans (HB.out.mono (by omega))⟩
      · have d1 : decide (N < 1) = false := by simpa using h1
        have d2 : decide (N > 64) = false := by simpa using h2
        have d3 : decide ((E.length : Int) > 400) = true := by simp; omega
        go_enter Try.func18, Try.ntmps18
        go_wp2
        go_ret
        exact ⟨ret_bool (by rw [may, decide_eq_false (by omega), Bool.false_and]), B0⟩
    · have d1 : decide (N < 1) = false := by simpa using h1
      have d2 : decide (N > 64) = true := by simpa using h2
      go_enter Try.func18, Try.ntmps18
      go_wp2
      go_ret
      exact ⟨ret_bool (by rw [may, decide_eq_false (by omega), Bool.false_and]), B0⟩
  · have d1 : decide (N < 1) = true := by simpa using h1
    go_enter Try.func18, Try.ntmps18
    go_wp2
    go_ret
    exact ⟨ret_bool (by rw [may, decide_eq_false (by omega), Bool.false_and]), B0⟩

end Go.Proofs.Ytkpmdfgjaodlaaa
