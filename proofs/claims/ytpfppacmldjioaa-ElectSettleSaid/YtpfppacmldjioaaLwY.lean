/-
  The walk of ElectSettle. No statement is proved here; no conditions.
-/
import Derived.Test.YtpfppacmldjioaaAl3
namespace Go.Proofs.Ytpfppacmldjioaa
open Go.RowKit Go.Joins

set_option maxRecDepth 100000 in
set_option maxHeartbeats 4000000 in
theorem settle_walk (A0 : Option Addr) (n c : Nat) (L : List Ca) (w : World) (hn : L.length = n) (hw : Okws L) (hl : Cr w A0 L) :
    Calls Try.prog 4 #[.slice A0 n c] w fun e w' => e = .returned (.bool true) ∧ Below w.heap.size w w' := by
  rcases Nat.lt_or_ge 60 n with h60 | h60
  · have d0 : decide ((n : Int) > 60) = true := by simp; omega
    have CA := alive_any w
    clear hl hn hw h60
    go_enter Try.func4, Try.ntmps4
    go_wp2_with fail
    refine CA.mono ?_
    rintro e W1 ⟨rfl, u1⟩
    go_wp2
    go_ret
    exact ⟨rfl, u1⟩
  have d0 : decide ((n : Int) > 60) = false := by simp; omega
  have CA := alive_any w
  have C1 : Hid (∀ V, Below w.heap.size w V → _) := Lib.hid (fun V hV => settle_any A0 n c L V hn (hl.step hV) hw)
  have C3 : Hid (∀ V, Below w.heap.size w V → _) := Lib.hid (fun V hV => rows_any A0 n c L V hn (hl.step hV) (by omega))
  have HN := Lib.hid hn
  have HU := Lib.hid h60
  clear hl hn hw h60
  go_enter Try.func4, Try.ntmps4
  go_wp2_with fail
  refine CA.mono ?_
  rintro e W1 ⟨rfl, u1⟩
  have T1 := Lib.hid u1
  have K1 := C1.out _ T1.out
  clear u1
  go_wp2_with fail
  refine K1.mono ?_
  rintro e W2 ⟨A2, m2, c2, hm2, rfl, o2, u2⟩
  have T2 := Lib.hid (T1.out.trans (u2.mono T1.out.size))
  have HM2 := Lib.hid hm2
  have HLE : Hid (m2 ≤ 1000) := Lib.hid (by
    rw [hm2, stl]
    have := HN.out
    have := HU.out
    split
    · rw [List.length_map]; omega
    · simp)
  have K2 := rows_any A2 m2 c2 (stl L) W2 HM2.out.symm o2.cr HLE.out
  clear u2 o2 K1 hm2
  go_wp2_with fail
  refine K2.mono ?_
  rintro e W3 ⟨A3, c3, rfl, o3, u3⟩
  have T3 := Lib.hid (T2.out.trans (u3.mono T2.out.size))
  have O3 := Lib.hid o3.cr
  have K3 := C3.out _ T3.out
  clear u3 o3 K2
  go_wp2_with fail
  refine K3.mono ?_
  rintro e W4 ⟨A4, c4, rfl, o4, u4⟩
  have T4 := Lib.hid (T3.out.trans (u4.mono T3.out.size))
  have O4 := Lib.hid (O3.out.step u4)
  have K4 := rsettle_any A4 n c4 L W4 HN.out o4.cr
  clear u4 o4 K3
  go_wp2_with fail
  refine K4.mono ?_
  rintro e W5 ⟨A5, m5, c5, hm5, rfl, o5, u5⟩
  have hmm : m5 = m2 := by rw [hm5, HM2.out]
  subst hmm
  have T5 := Lib.hid (T4.out.trans (u5.mono T4.out.size))
  have K5 := same_any A3 A5 m5 c3 c5 (stl L) W5 HM2.out.symm (O4.out.step u5) o5.cr HLE.out
  clear u5 o5 K4 hm5
  go_wp2_with fail
  refine K5.mono ?_
  rintro e W6 ⟨rfl, u6⟩
  have T6 := Lib.hid (T5.out.trans (u6.mono T5.out.size))
  clear u6 K5
  go_wp2
  go_ret
  exact ⟨rfl, T6.out⟩
end Go.Proofs.Ytpfppacmldjioaa
