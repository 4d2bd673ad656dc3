/-
  store.has, store.place and its closures. No statement is proved here; no conditions.
-/
import Derived.Test.YtadcicmccdphkaaIx
import Derived.Test.YtadcicmccdphkaaLe
import Derived.Test.YtadcicmccdphkaaFa
namespace Go.Proofs.Ytadcicmccdphkaa
open Go.RowKit Go.Joins

set_option maxRecDepth 100000 in
theorem has_any (y : Hd) (w : World) :
    Calls Try.prog 27 #[.agg #[.int .i64 y.t, .int .u32 y.i, .int .u32 y.v]] w fun e w' => e = .returned (.func (.func 49) #[] #[.pointer (some ⟨w.heap.size, 0, none⟩)]) ∧ Bk w' w.heap.size (.cells #[.int .i64 y.t, .int .u32 y.i, .int .u32 y.v] 40) ∧ Below w.heap.size w w' := by
  obtain ⟨W0, hW0⟩ : ∃ V, w.alloc (.cells #[.int .i64 y.t, .int .u32 y.i, .int .u32 y.v] 40) = V := ⟨_, rfl⟩
  have bW0 : Below w.heap.size w W0 := by rw [← hW0]; exact below_alloc1 _ _
  have HB := Lib.hid (Bk.mk hW0)
  go_enter Try.func27, Try.ntmps27
  go_wp2
  go_ret
  exact ⟨rfl, HB.out, bW0⟩
theorem enters_put1 (args : Array Value) (w' : World) : (callFunc 21 args).run Try.prog w' = .ok (.enter 21 args) w' := by simp [callFunc, Try.func21, Try.f21, mark]
theorem enters_place1 (args : Array Value) (w' : World) : (callFunc 44 args).run Try.prog w' = .ok (.enter 44 args) w' := by simp [callFunc, Try.func44, Try.f44, mark]
set_option maxRecDepth 100000 in
theorem put1_any (h y : Hd) (b : Nat) (w : World) (hb : Bk w b (.cells #[.int .i64 y.t, .int .u32 y.i, .int .u32 y.v] 40)) :
    Calls Try.prog 21 #[.agg #[.int .i64 h.t, .int .u32 h.i, .int .u32 h.v], .pointer (some ⟨b, 0, none⟩)] w fun e w' => e = .returned (.bool (lessK h y)) ∧ Below w.heap.size w w' := by
  obtain ⟨W0, hW0⟩ : ∃ V, w.alloc (.cells #[.int .i64 h.t, .int .u32 h.i, .int .u32 h.v] 40) = V := ⟨_, rfl⟩
  have bW0 : Below w.heap.size w W0 := by rw [← hW0]; exact below_alloc1 _ _
  have sW0 : W0.heap.size = w.heap.size + 1 := by rw [← hW0]; simp
  have KX : Hid (∀ V, Below W0.heap.size W0 V → V.cell? ⟨w.heap.size, 0, none⟩ = some (.int .i64 h.t) ∧ V.cell? ⟨w.heap.size, 1, none⟩ = some (.int .u32 h.i) ∧ V.cell? ⟨w.heap.size, 2, none⟩ = some (.int .u32 h.v)) := Lib.hid (fun V hV => kb3_new hW0 hV)
  obtain ⟨k0, k1, k2⟩ := KX.out _ (Below.refl _ _)
  obtain ⟨j0, j1, j2, f0, f1, f2, hlt⟩ := kz3_at (hb.step bW0)
  have CL := less_any h y W0
  clear KX sW0 hb
  go_enter Try.func21, Try.ntmps21
  go_wp2_with fail
  refine CL.mono ?_
  rintro e W1 ⟨rfl, u1⟩
  go_wp2
  go_ret
  exact ⟨rfl, bW0.trans (u1.mono bW0.size)⟩
/-- The order of keys as a closure. -/
abbrev cl1 (kb : Nat) : Value := .func (.func 21) #[] #[.pointer (some ⟨kb, 0, none⟩)]
set_option maxRecDepth 100000 in
theorem place1_any (y : Hd) (kb pb : Nat) (x : Ae) (w : World) (hk : Bk w kb (.cells #[.int .i64 y.t, .int .u32 y.i, .int .u32 y.v] 40)) (hp : Bk w pb (.cells #[cl1 kb] 58)) :
    Calls Try.prog 44 #[av x, .pointer (some ⟨pb, 0, none⟩)] w fun e w' => e = .returned (.bool (!lessK x.h y)) ∧ Below w.heap.size w w' := by
  obtain ⟨h, hh⟩ : ∃ h, x.h = h := ⟨_, rfl⟩
  obtain ⟨A, hA⟩ : ∃ A, x.A = A := ⟨_, rfl⟩
  obtain ⟨n, hn⟩ : ∃ n, x.l.length = n := ⟨_, rfl⟩
  obtain ⟨c, hc⟩ : ∃ c, x.c = c := ⟨_, rfl⟩
  rw [av, hh, hA, hn, hc]
  clear hh hA hn hc
  obtain ⟨W0, hW0⟩ : ∃ V, w.alloc (.cells #[.int .i64 h.a, .int .i64 h.o, .int .i64 h.t, .int .u32 h.i, .int .u32 h.v, .int .u32 h.q, .int .i64 h.s, .int .i64 h.n, .slice A n c] 34) = V := ⟨_, rfl⟩
  have bW0 : Below w.heap.size w W0 := by rw [← hW0]; exact below_alloc1 _ _
  have sW0 : W0.heap.size = w.heap.size + 1 := by rw [← hW0]; simp
  have KX : Hid (∀ V, Below W0.heap.size W0 V → V.cell? ⟨w.heap.size, 0, none⟩ = some (.int .i64 h.a) ∧ V.cell? ⟨w.heap.size, 1, none⟩ = some (.int .i64 h.o) ∧ V.cell? ⟨w.heap.size, 2, none⟩ = some (.int .i64 h.t) ∧ V.cell? ⟨w.heap.size, 3, none⟩ = some (.int .u32 h.i) ∧ V.cell? ⟨w.heap.size, 4, none⟩ = some (.int .u32 h.v) ∧ V.cell? ⟨w.heap.size, 5, none⟩ = some (.int .u32 h.q) ∧ V.cell? ⟨w.heap.size, 6, none⟩ = some (.int .i64 h.s) ∧ V.cell? ⟨w.heap.size, 7, none⟩ = some (.int .i64 h.n) ∧ V.cell? ⟨w.heap.size, 8, none⟩ = some (.slice A n c)) := Lib.hid (fun V hV => kb9_new hW0 hV)
  obtain ⟨k0, k1, k2, k3, k4, k5, k6, k7, k8⟩ := KX.out _ (Below.refl _ _)
  have hp0 := hp.step bW0
  have hk0 := hk.step bW0
  have p0 : W0.cell? ⟨pb, 0, none⟩ = some (cl1 kb) := (cell_of_block hp0 0).trans rfl
  have T0 := Lib.hid bW0
  have KS : Hid (∀ V, Below W0.heap.size W0 V → (V.cell? ⟨w.heap.size, 0, none⟩ = some (.int .i64 h.a) ∧ V.cell? ⟨w.heap.size, 1, none⟩ = some (.int .i64 h.o) ∧ V.cell? ⟨w.heap.size, 2, none⟩ = some (.int .i64 h.t) ∧ V.cell? ⟨w.heap.size, 3, none⟩ = some (.int .u32 h.i) ∧ V.cell? ⟨w.heap.size, 4, none⟩ = some (.int .u32 h.v) ∧ V.cell? ⟨w.heap.size, 5, none⟩ = some (.int .u32 h.q) ∧ V.cell? ⟨w.heap.size, 6, none⟩ = some (.int .i64 h.s) ∧ V.cell? ⟨w.heap.size, 7, none⟩ = some (.int .i64 h.n) ∧ V.cell? ⟨w.heap.size, 8, none⟩ = some (.slice A n c)) ∧ V.cell? ⟨pb, 0, none⟩ = some (cl1 kb)) := Lib.hid (fun V hV => ⟨KX.out V hV, (cell_of_block (hp0.step hV) 0).trans rfl⟩)
  have tt : Below W0.heap.size W0 W0 := Below.refl _ _
  clear KX sW0 hp hk hp0 p0 bW0 k0 k1 k2 k3 k4 k5 k6 k7 k8
  go_enter Try.func44, Try.ntmps44
  go_wp2_with fail
  refine wp_region_held_drew (S := fun V => (V.cell? ⟨w.heap.size, 0, none⟩ = some (.int .i64 h.a) ∧ V.cell? ⟨w.heap.size, 1, none⟩ = some (.int .i64 h.o) ∧ V.cell? ⟨w.heap.size, 2, none⟩ = some (.int .i64 h.t) ∧ V.cell? ⟨w.heap.size, 3, none⟩ = some (.int .u32 h.i) ∧ V.cell? ⟨w.heap.size, 4, none⟩ = some (.int .u32 h.v) ∧ V.cell? ⟨w.heap.size, 5, none⟩ = some (.int .u32 h.q) ∧ V.cell? ⟨w.heap.size, 6, none⟩ = some (.int .i64 h.s) ∧ V.cell? ⟨w.heap.size, 7, none⟩ = some (.int .i64 h.n) ∧ V.cell? ⟨w.heap.size, 8, none⟩ = some (.slice A n c)) ∧ V.cell? ⟨pb, 0, none⟩ = some (cl1 kb)) (by kernel_rfl) (KS.out _ tt.drew) (fun hHeld => ?_)
  replace hk0 := hk0.step tt.drew
  replace tt : Below W0.heap.size W0 W0.drew := tt.drew
  generalize hX0 : W0.drew = Y0 at tt hk0 hHeld ⊢
  clear hX0
  refine wpAnyH_take (i := 0) (v := ?_) rfl (by kernel_rfl) (by kernel_rfl) (by kernel_rfl) (fun _ _ _ h => h) (Or.inl ⟨by rfl, ?_⟩) (by assumption) ?_
  rotate_left
  · (intro w' hSw; (try dsimp only at hSw); go_simp; try with_reducible rfl)
  simp only [Act.put, List.getElem_toArray, List.getElem_cons_zero, List.setIfInBounds_toArray, List.set_cons_zero, List.set_cons_succ]
  refine wpAnyH_take (i := 1) (v := ?_) rfl (by kernel_rfl) (by kernel_rfl) (by kernel_rfl) (fun _ _ _ h => h) (Or.inl ⟨by rfl, ?_⟩) (by assumption) ?_
  rotate_left
  · (intro w' hSw; (try dsimp only at hSw); go_simp; try with_reducible rfl)
  simp only [Act.put, List.getElem_toArray, List.getElem_cons_zero, List.getElem_cons_succ, List.setIfInBounds_toArray, List.set_cons_zero, List.set_cons_succ]
  refine wpAnyH_take (i := 2) (v := ?_) rfl (by kernel_rfl) (by kernel_rfl) (by kernel_rfl) (fun _ _ _ h => h) (Or.inl ⟨by rfl, ?_⟩) (by assumption) ?_
  rotate_left
  · (intro w' hSw; (try dsimp only at hSw); go_simp; try with_reducible rfl)
  simp only [Act.put, List.getElem_toArray, List.getElem_cons_zero, List.getElem_cons_succ, List.setIfInBounds_toArray, List.set_cons_zero, List.set_cons_succ]
  refine wpAnyH_ready (rs := [3]) (by kernel_rfl) (by simp) ?_
  refine AllReadyH.cons rfl (fun K hK => ?_) AllReadyH.nil
  go_simp
  go_at_call 9
  refine (key_any h Y0).mono ?_
  rintro e Y1 ⟨rfl, u1⟩
  have t_Y1 : Below W0.heap.size W0 Y1 := tt.trans (u1.mono tt.size)
  replace hk0 := hk0.step u1
  refine hK.out _ _ (KS.out _ t_Y1) (fun _ => ?_)
  clear hK K
  refine wpAnyH_ready (rs := [4]) (by kernel_rfl) (by simp) ?_
  refine AllReadyH.cons rfl (fun K hK => ?_) AllReadyH.nil
  go_simp
  have hf2 := enters_put1 #[.agg #[.int .i64 h.t, .int .u32 h.i, .int .u32 h.v]] Y1
  go_at_call 21
  refine (put1_any h y kb Y1 hk0).mono ?_
  rintro e Y2 ⟨rfl, u2⟩
  have t_Y2 : Below W0.heap.size W0 Y2 := t_Y1.trans (u2.mono t_Y1.size)
  replace hk0 := hk0.step u2
  refine hK.out _ _ (KS.out _ t_Y2) (fun _ => ?_)
  clear hK K
  refine wpAnyH_take (i := 5) (v := ?_) rfl (by kernel_rfl) (by kernel_rfl) (by kernel_rfl) (fun _ _ _ h => h) (Or.inl ⟨by rfl, ?_⟩) (by assumption) ?_
  rotate_left
  · (intro w' hSw; (try dsimp only at hSw); go_simp; try with_reducible rfl)
  simp only [Act.put, List.getElem_toArray, List.getElem_cons_zero, List.getElem_cons_succ, List.setIfInBounds_toArray, List.set_cons_zero, List.set_cons_succ]
  refine wpAnyH_ready (rs := [6]) (by kernel_rfl) (by simp) ?_
  refine AllReadyH.cons rfl (fun K hK => ?_) AllReadyH.nil
  go_simp
  refine hK.out _ _ (KS.out _ t_Y2) (fun _ => ?_)
  clear hK K
  refine wpAnyH_done (by kernel_rfl) ?_ _
  have HT := Lib.hid (T0.out.trans (t_Y2.mono T0.out.size))
  go_wp2
  go_ret
  exact ⟨rfl, HT.out⟩
/-- How many there are before the first one whose key is not before that of y. -/
def plc (L : List Ae) (y : Hd) : Nat := L.findIdx fun x => !lessK x.h y
theorem plc_le (L : List Ae) (y : Hd) : plc L y ≤ L.length := List.findIdx_le_length
set_option maxRecDepth 100000 in
theorem place_any (y : Hd) (kb : Nat) (A : Option Addr) (n c : Nat) (L : List Ae) (w : World) (hn : L.length = n) (hl : Arr w A L) (hll : n ≤ 10000) (hk : Bk w kb (.cells #[.int .i64 y.t, .int .u32 y.i, .int .u32 y.v] 40)) :
    Calls Try.prog 20 #[.slice A n c, cl1 kb] w fun e w' => e = .returned (.int .i64 (plc L y)) ∧ Below w.heap.size w w' := by
  obtain ⟨W0, hW0⟩ : ∃ V, w.alloc (.cells #[cl1 kb] 58) = V := ⟨_, rfl⟩
  have bW0 : Below w.heap.size w W0 := by rw [← hW0]; exact below_alloc1 _ _
  have G0 := Bk.mk hW0
  have HL := Lib.hid (plc_le L y)
  have HF : Hid (fix (fun x : Ae => !lessK x.h y) L = if plc L y < n then (plc L y : Int) else -1) := Lib.hid (by rw [fix, hn]; rfl)
  have CI := aix_any A n c L 44 (.pointer (some ⟨w.heap.size, 0, none⟩)) (fun x => !lessK x.h y) W0 hn (hl.step bW0) hll enters_place1 (fun V x hx hV => place1_any y kb w.heap.size x V ((hk.step bW0).step hV) (G0.step hV))
  rw [HF.out] at CI
  rw [hn] at HL
  generalize plc L y = q at *
  have hq : q ≤ n := HL.out
  clear HF HL G0 hk hl hn
  go_enter Try.func20, Try.ntmps20
  by_cases h : q < n
  · rw [if_pos h] at CI
    have g0 : ¬ ((q : Int) < 0) := by omega
    go_wp2_with fail
    refine CI.mono ?_
    rintro e W1 ⟨rfl, u1⟩
    go_wp2
    go_ret
    exact ⟨rfl, bW0.trans (u1.mono bW0.size)⟩
  · rw [if_neg h] at CI
    obtain rfl : q = n := by omega
    go_wp2_with fail
    refine CI.mono ?_
    rintro e W1 ⟨rfl, u1⟩
    go_wp2
    go_ret
    exact ⟨rfl, bW0.trans (u1.mono bW0.size)⟩
end Go.Proofs.Ytadcicmccdphkaa
