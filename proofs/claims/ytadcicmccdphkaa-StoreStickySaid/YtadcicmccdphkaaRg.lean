/-
  Contracts of both Rights, of the law's conversion of routers' bodies, of SameRouter; the live question. No statement is proved here; no conditions.
-/
import Derived.Test.YtadcicmccdphkaaRs
import Derived.Test.YtadcicmccdphkaaRn
import Derived.Test.YtadcicmccdphkaaRr
namespace Go.Proofs.Ytadcicmccdphkaa
open Go.RowKit Go.Joins

def rE (t : Int) (l : List Int) : Int := if t = 1 then rdRE l else if t = 2 then rdNE l else if t = 3 ∨ t = 4 then rdSE l else if t = 5 ∨ t = 7 then rdXE l else 3
/-- Whether bytes are a body of this type. -/
def rgt (t : Int) (l : List Int) : Bool := (rE t l == 0)
set_option maxRecDepth 100000 in
set_option maxHeartbeats 4000000 in
theorem right_any (a o t i v q s z : Int) (A : Option Addr) (n c : Nat) (l : List Int) (w : World) (hn : l.length = n) (hb : Bt w A l) (hy : Byt l) (hc : n ≤ c) (hl : n ≤ 5000) :
    Calls Try.prog 19 #[.agg #[.int .i64 a, .int .i64 o, .int .i64 t, .int .u32 i, .int .u32 v, .int .u32 q, .int .i64 s, .int .i64 z, .slice A n c]] w fun e w' => e = .returned (.bool (rgt t l)) ∧ Below w.heap.size w w' := by
  obtain ⟨W0, hW0⟩ : ∃ V, w.alloc (.cells #[.int .i64 a, .int .i64 o, .int .i64 t, .int .u32 i, .int .u32 v, .int .u32 q, .int .i64 s, .int .i64 z, .slice A n c] 34) = V := ⟨_, rfl⟩
  have bW0 : Below w.heap.size w W0 := by rw [← hW0]; exact below_alloc1 _ _
  have sW0 : W0.heap.size = w.heap.size + 1 := by rw [← hW0]; simp
  have KX : Hid (∀ V, Below W0.heap.size W0 V → V.cell? ⟨w.heap.size, 0, none⟩ = some (.int .i64 a) ∧ V.cell? ⟨w.heap.size, 1, none⟩ = some (.int .i64 o) ∧ V.cell? ⟨w.heap.size, 2, none⟩ = some (.int .i64 t) ∧ V.cell? ⟨w.heap.size, 3, none⟩ = some (.int .u32 i) ∧ V.cell? ⟨w.heap.size, 4, none⟩ = some (.int .u32 v) ∧ V.cell? ⟨w.heap.size, 5, none⟩ = some (.int .u32 q) ∧ V.cell? ⟨w.heap.size, 6, none⟩ = some (.int .i64 s) ∧ V.cell? ⟨w.heap.size, 7, none⟩ = some (.int .i64 z) ∧ V.cell? ⟨w.heap.size, 8, none⟩ = some (.slice A n c)) := Lib.hid (fun V hV => kb9_new hW0 hV)
  have q0 := hb.step bW0
  have HB := Lib.hid bW0
  have C1 := readrouter_any A n c l W0 hn q0 hy hc hl
  have C2 := readnetwork_any A n c l W0 hn q0 hy hc hl
  have C3 := readsummary_any A n c l W0 hn q0 hy hc hl
  have C4 := readexternal_any A n c l W0 hn q0 hy hc hl
  have E1 : Hid (rgt 1 l = (rdRE l == 0)) := Lib.hid rfl
  have E2 : Hid (rgt 2 l = (rdNE l == 0)) := Lib.hid rfl
  have E3 : Hid (rgt 3 l = (rdSE l == 0)) := Lib.hid rfl
  have E4 : Hid (rgt 4 l = (rdSE l == 0)) := Lib.hid rfl
  have E5 : Hid (rgt 5 l = (rdXE l == 0)) := Lib.hid rfl
  have E7 : Hid (rgt 7 l = (rdXE l == 0)) := Lib.hid rfl
  generalize rdRE l = e1 at *
  generalize rdNE l = e2 at *
  generalize rdSE l = e3 at *
  generalize rdXE l = e4 at *
  generalize rdRF l = f1 at *
  generalize rdRL l = f2 at *
  generalize rdNM l = f3 at *
  generalize rdNL l = f4 at *
  generalize rdSM l = f5 at *
  generalize rdSC l = f6 at *
  generalize rdX l = f7 at *
  obtain ⟨k0, k1, k2, k3, k4, k5, k6, k7, k8⟩ := KX.out _ (Below.refl _ _)
  clear hn hb bW0 q0 hy KX
  by_cases h1 : t = 1
  · subst h1
    rw [E1.out]
    go_enter Try.func19, Try.ntmps19
    go_wp2_with fail
    refine C1.mono ?_
    rintro e Y1 ⟨A1, m1, c1, -, rfl, -, u1⟩
    go_wp2
    go_ret
    exact ⟨rfl, HB.out.trans (u1.mono HB.out.size)⟩
  by_cases h2 : t = 2
  · subst h2
    rw [E2.out]
    go_enter Try.func19, Try.ntmps19
    go_wp2_with fail
    refine C2.mono ?_
    rintro e Y1 ⟨A1, m1, c1, -, rfl, -, u1⟩
    go_wp2
    go_ret
    exact ⟨rfl, HB.out.trans (u1.mono HB.out.size)⟩
  by_cases h3 : t = 3
  · subst h3
    rw [E3.out]
    go_enter Try.func19, Try.ntmps19
    go_wp2_with fail
    refine C3.mono ?_
    rintro e Y1 ⟨rfl, u1⟩
    go_wp2
    go_ret
    exact ⟨rfl, HB.out.trans (u1.mono HB.out.size)⟩
  by_cases h4 : t = 4
  · subst h4
    rw [E4.out]
    go_enter Try.func19, Try.ntmps19
    go_wp2_with fail
    refine C3.mono ?_
    rintro e Y1 ⟨rfl, u1⟩
    go_wp2
    go_ret
    exact ⟨rfl, HB.out.trans (u1.mono HB.out.size)⟩
  by_cases h5 : t = 5
  · subst h5
    rw [E5.out]
    go_enter Try.func19, Try.ntmps19
    go_wp2_with fail
    refine C4.mono ?_
    rintro e Y1 ⟨rfl, u1⟩
    go_wp2
    go_ret
    exact ⟨rfl, HB.out.trans (u1.mono HB.out.size)⟩
  by_cases h7 : t = 7
  · subst h7
    rw [E7.out]
    go_enter Try.func19, Try.ntmps19
    go_wp2_with fail
    refine C4.mono ?_
    rintro e Y1 ⟨rfl, u1⟩
    go_wp2
    go_ret
    exact ⟨rfl, HB.out.trans (u1.mono HB.out.size)⟩
  have E0 : Hid (rgt t l = false) := Lib.hid (by
    unfold rgt rE
    rw [if_neg h1, if_neg h2, if_neg (by omega), if_neg (by omega)]
    rfl)
  have d1 : (t == 1) = false := by simpa using h1
  have d2 : (t == 2) = false := by simpa using h2
  have d3 : (t == 3) = false := by simpa using h3
  have d4 : (t == 4) = false := by simpa using h4
  have d5 : (t == 5) = false := by simpa using h5
  have d7 : (t == 7) = false := by simpa using h7
  rw [E0.out]
  clear h1 h2 h3 h4 h5 h7 C1 C2 C3 C4
  go_enter Try.func19, Try.ntmps19
  go_wp2
  go_ret
  exact ⟨rfl, HB.out⟩
end Go.Proofs.Ytadcicmccdphkaa
