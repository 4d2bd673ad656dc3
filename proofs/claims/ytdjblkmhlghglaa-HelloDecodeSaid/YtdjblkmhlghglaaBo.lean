/-
  Contracts of Both, of the program and of the reference. No statement is proved here; no conditions.
-/
import Derived.Test.YtdjblkmhlghglaaGe
namespace Go.Proofs.Ytdjblkmhlghglaa
open Go.RowKit Go.Joins

theorem mem_take_succ {l : List Int} {k : Nat} (hk : k < l.length) (x : Int) : x ∈ l.take (k + 1) ↔ x ∈ l.take k ∨ x = l.getD k 0 := by
  rw [List.take_succ_eq_append_getElem hk, List.mem_append, List.mem_singleton]
  simp [List.getD, hk]
set_option maxRecDepth 100000 in
theorem index_any (A : Option Addr) (n c : Nat) (l : List Int) (x : Int) (w : World) (hn : l.length = n) (hb : Wt w A l) (hl : n ≤ 100000) :
    Calls Try.prog 41 #[.slice A n c, .int .u32 x] w fun e w' => ∃ r : Int, e = .returned (.int .i64 r) ∧ (0 ≤ r ↔ x ∈ l) ∧ w = w' := by
  have HN := Lib.hid hn
  have HW := Lib.hid hb
  clear hb hn
  go_enter Try.func41, Try.ntmps41
  go_wp2_with fail
  go_loopg [8] n (fun gf v8 wx => ∃ k : Nat, v8 = .int .i64 (k : Int) ∧ Hid (gf + k = n) ∧ Hid (x ∉ l.take k) ∧ wx = w)
  case atStart => exact ⟨0, rfl, Lib.hid (by omega), Lib.hid (by simp), rfl⟩
  case round =>
    obtain ⟨k, rfl, hk, hx, hwx⟩ := hrel
    replace hwx := hwx.symm
    subst hwx
    have hk' := hk.out
    cases gk with
    | zero =>
      have lt0 : decide ((k : Int) < (n : Int)) = false := by simp; omega
      have lt1 : decide (k < n) = false := by simp; omega
      have HX : Hid (x ∉ l) := Lib.hid (by
        have := hx.out
        rwa [List.take_of_length_le (by rw [HN.out]; omega)] at this)
      go_wp2
      go_ret
      exact ⟨-1, rfl, ⟨fun q => absurd q (by decide), fun q => absurd q HX.out⟩, rfl⟩
    | succ gf =>
      have hkl : k < l.length := by rw [HN.out]; omega
      have lt0 : (k : Int) < (n : Int) := by omega
      have hw1 : (k : Int) + 1 ≤ 1000000 := by omega
      obtain ⟨b, off, rfl, _, hcl⟩ := HW.out.at_ hkl
      have hm := mem_take_succ hkl x
      have hmm : l.getD k 0 ∈ l := by
        simp only [List.getD, List.getElem?_eq_getElem hkl, Option.getD_some]
        exact List.getElem_mem hkl
      obtain ⟨v, hv⟩ : ∃ v, l.getD k 0 = v := ⟨_, rfl⟩
      rw [hv] at hcl hm hmm
      have HM := Lib.hid hm
      have HMM := Lib.hid hmm
      clear hv hm hmm hkl
      by_cases hxv : x = v
      · subst hxv
        have d : (x == x) = true := by simp
        go_wp2
        go_ret
        exact ⟨_, rfl, ⟨fun _ => HMM.out, fun _ => by omega⟩, rfl⟩
      · have d : (x == v) = false := by simpa using hxv
        have HX : Hid (x ∉ l.take (k + 1)) := Lib.hid (fun q => by
          rcases HM.out.1 q with q | q
          · exact hx.out q
          · exact hxv q)
        go_wp2
        go_roundg gf
        case measure => omega
        case rel => exact ⟨k + 1, by go_num, Lib.hid (by omega), HX, rfl⟩
theorem contains_any (A : Option Addr) (n c : Nat) (l : List Int) (x : Int) (w : World) (hn : l.length = n) (hb : Wt w A l) (hl : n ≤ 100000) :
    Calls Try.prog 33 #[.slice A n c, .int .u32 x] w fun e w' => e = .returned (.bool (decide (x ∈ l))) ∧ w = w' := by
  have cc := index_any A n c l x w hn hb hl
  clear hb hl hn
  go_enter Try.func33, Try.ntmps33
  go_wp2_with fail
  refine cc.mono ?_
  rintro e w' ⟨r, rfl, hr, rfl⟩
  have HR := Lib.hid hr
  by_cases q : r ≥ 0
  · have e : decide (x ∈ l) = true := by simpa using hr.1 q
    have E := Lib.hid e
    clear e hr
    go_wp2
    go_ret
    exact ⟨ret_bool (by first | (rw [E.out]; done) | (rw [E.out]; simp <;> omega)), rfl⟩
  · have e : decide (x ∈ l) = false := by simpa using fun m => q (hr.2 m)
    have E := Lib.hid e
    clear e hr
    go_wp2
    go_ret
    exact ⟨ret_bool (by first | (rw [E.out]; done) | (rw [E.out]; simp <;> omega)), rfl⟩
set_option maxRecDepth 100000 in
theorem both_any (f : If) (h : He) (A : Option Addr) (n c : Nat) (w : World) (hn : h.s.length = n) (hb : Wt w A h.s) (hl : n ≤ 100000) :
    Calls Try.prog 19 #[.agg #[.int .u32 f.m, .int .i64 f.i, .int .i64 f.o, .int .u32 f.d, .int .u32 f.r, .bool f.pp], .agg #[.int .u32 h.m, .int .i64 h.i, .int .i64 h.o, .int .i64 h.p, .int .u32 h.d, .int .u32 h.r, .int .u32 h.b, .slice A n c]] w fun e w' => e = .returned (.bool (decide (f.r ∈ h.s))) ∧ Below w.heap.size w w' := by
  obtain ⟨W0, hW0⟩ : ∃ V, w.alloc (.cells #[.int .u32 f.m, .int .i64 f.i, .int .i64 f.o, .int .u32 f.d, .int .u32 f.r, .bool f.pp] 43) = V := ⟨_, rfl⟩
  have bW0 : Below w.heap.size w W0 := by rw [← hW0]; exact below_alloc1 _ _
  have sW0 : W0.heap.size = w.heap.size + 1 := by rw [← hW0]; simp
  have KX : Hid (∀ V, Below W0.heap.size W0 V → V.cell? ⟨w.heap.size, 0, none⟩ = some (.int .u32 f.m) ∧ V.cell? ⟨w.heap.size, 1, none⟩ = some (.int .i64 f.i) ∧ V.cell? ⟨w.heap.size, 2, none⟩ = some (.int .i64 f.o) ∧ V.cell? ⟨w.heap.size, 3, none⟩ = some (.int .u32 f.d) ∧ V.cell? ⟨w.heap.size, 4, none⟩ = some (.int .u32 f.r) ∧ V.cell? ⟨w.heap.size, 5, none⟩ = some (.bool f.pp)) := Lib.hid (fun V hV => kb6_new hW0 hV)
  obtain ⟨W1, hW1⟩ : ∃ V, W0.alloc (.cells #[.int .u32 h.m, .int .i64 h.i, .int .i64 h.o, .int .i64 h.p, .int .u32 h.d, .int .u32 h.r, .int .u32 h.b, .slice A n c] 25) = V := ⟨_, rfl⟩
  have bW1 : Below W0.heap.size W0 W1 := by rw [← hW1]; exact below_alloc1 _ _
  have sW1 : W1.heap.size = W0.heap.size + 1 := by rw [← hW1]; simp
  have KY : Hid (∀ V, Below W1.heap.size W1 V → V.cell? ⟨W0.heap.size, 0, none⟩ = some (.int .u32 h.m) ∧ V.cell? ⟨W0.heap.size, 1, none⟩ = some (.int .i64 h.i) ∧ V.cell? ⟨W0.heap.size, 2, none⟩ = some (.int .i64 h.o) ∧ V.cell? ⟨W0.heap.size, 3, none⟩ = some (.int .i64 h.p) ∧ V.cell? ⟨W0.heap.size, 4, none⟩ = some (.int .u32 h.d) ∧ V.cell? ⟨W0.heap.size, 5, none⟩ = some (.int .u32 h.r) ∧ V.cell? ⟨W0.heap.size, 6, none⟩ = some (.int .u32 h.b) ∧ V.cell? ⟨W0.heap.size, 7, none⟩ = some (.slice A n c)) := Lib.hid (fun V hV => kb8_new hW1 hV)
  have b2 : Below w.heap.size w W1 := bW0.trans (bW1.mono bW0.size)
  obtain ⟨k0, k1, k2, k3, k4, k5⟩ := KX.out _ bW1
  have kj := KY.out _ (Below.refl _ _)
  rw [sW0] at kj
  obtain ⟨j0, j1, j2, j3, j4, j5, j6, j7⟩ := kj
  have cc := contains_any A n c h.s f.r W1 hn (hb.step b2) hl
  clear hn hb hl KX KY bW0 bW1
  go_enter Try.func19, Try.ntmps19
  go_wp2_with fail
  refine cc.mono ?_
  rintro e w' ⟨rfl, rfl⟩
  go_wp2
  go_ret
  exact ⟨rfl, b2⟩
theorem val_bool {a b : Bool} (h : a = b) : Value.bool a = .bool b := by rw [h]
set_option maxRecDepth 100000 in
set_option maxHeartbeats 1000000 in
theorem rboth_any (f : If) (h : He) (A : Option Addr) (n c : Nat) (w : World) (hn : h.s.length = n) (hb : Wt w A h.s) (hl : n ≤ 100000) :
    Calls Try.prog 20 #[.agg #[.int .u32 f.m, .int .i64 f.i, .int .i64 f.o, .int .u32 f.d, .int .u32 f.r, .bool f.pp], .agg #[.int .u32 h.m, .int .i64 h.i, .int .i64 h.o, .int .i64 h.p, .int .u32 h.d, .int .u32 h.r, .int .u32 h.b, .slice A n c]] w fun e w' => e = .returned (.bool (decide (f.r ∈ h.s))) ∧ Below w.heap.size w w' := by
  obtain ⟨W0, hW0⟩ : ∃ V, w.alloc (.cells #[.int .u32 f.m, .int .i64 f.i, .int .i64 f.o, .int .u32 f.d, .int .u32 f.r, .bool f.pp] 46) = V := ⟨_, rfl⟩
  have bW0 : Below w.heap.size w W0 := by rw [← hW0]; exact below_alloc1 _ _
  have sW0 : W0.heap.size = w.heap.size + 1 := by rw [← hW0]; simp
  have KX : Hid (∀ V, Below W0.heap.size W0 V → V.cell? ⟨w.heap.size, 0, none⟩ = some (.int .u32 f.m) ∧ V.cell? ⟨w.heap.size, 1, none⟩ = some (.int .i64 f.i) ∧ V.cell? ⟨w.heap.size, 2, none⟩ = some (.int .i64 f.o) ∧ V.cell? ⟨w.heap.size, 3, none⟩ = some (.int .u32 f.d) ∧ V.cell? ⟨w.heap.size, 4, none⟩ = some (.int .u32 f.r) ∧ V.cell? ⟨w.heap.size, 5, none⟩ = some (.bool f.pp)) := Lib.hid (fun V hV => kb6_new hW0 hV)
  obtain ⟨W1, hW1⟩ : ∃ V, W0.alloc (.cells #[.int .u32 h.m, .int .i64 h.i, .int .i64 h.o, .int .i64 h.p, .int .u32 h.d, .int .u32 h.r, .int .u32 h.b, .slice A n c] 32) = V := ⟨_, rfl⟩
  have bW1 : Below W0.heap.size W0 W1 := by rw [← hW1]; exact below_alloc1 _ _
  have sW1 : W1.heap.size = W0.heap.size + 1 := by rw [← hW1]; simp
  have KY : Hid (∀ V, Below W1.heap.size W1 V → V.cell? ⟨W0.heap.size, 0, none⟩ = some (.int .u32 h.m) ∧ V.cell? ⟨W0.heap.size, 1, none⟩ = some (.int .i64 h.i) ∧ V.cell? ⟨W0.heap.size, 2, none⟩ = some (.int .i64 h.o) ∧ V.cell? ⟨W0.heap.size, 3, none⟩ = some (.int .i64 h.p) ∧ V.cell? ⟨W0.heap.size, 4, none⟩ = some (.int .u32 h.d) ∧ V.cell? ⟨W0.heap.size, 5, none⟩ = some (.int .u32 h.r) ∧ V.cell? ⟨W0.heap.size, 6, none⟩ = some (.int .u32 h.b) ∧ V.cell? ⟨W0.heap.size, 7, none⟩ = some (.slice A n c)) := Lib.hid (fun V hV => kb8_new hW1 hV)
  have b2 : Below w.heap.size w W1 := bW0.trans (bW1.mono bW0.size)
  have HN := Lib.hid hn
  have HW := Lib.hid (hb.step b2)
  have B2 := Lib.hid b2
  have S0 := Lib.hid sW0
  have KZ : Hid (∀ V, Below W1.heap.size W1 V → V.cell? ⟨w.heap.size + 1, 7, none⟩ = some (.slice A n c) ∧ V.cell? ⟨w.heap.size, 4, none⟩ = some (.int .u32 f.r)) := Lib.hid (fun V hV => by
    obtain ⟨k0, k1, k2, k3, k4, k5⟩ := KX.out V (bW1.trans (hV.mono bW1.size))
    have kj := KY.out V hV
    rw [sW0] at kj
    obtain ⟨j0, j1, j2, j3, j4, j5, j6, j7⟩ := kj
    exact ⟨j7, k4⟩)
  clear hn hb KX KY bW0 bW1 b2
  have D0 : Hid (Below W1.heap.size W1 W1) := Lib.hid (Below.refl _ _)
  go_enter Try.func20, Try.ntmps20
  go_wp2_with fail
  clear hW0 hW1 sW1
  go_loopg [5, 6] n (fun gf v5 v6 wx => ∃ k : Nat, v5 = .bool (decide (f.r ∈ h.s.take k)) ∧ v6 = .int .i64 (k : Int) ∧ Hid (gf + k = n) ∧ Hid (Below W1.heap.size W1 wx))
  case atStart => exact ⟨0, by simp, rfl, Lib.hid (by omega), D0⟩
  case round =>
    obtain ⟨k, rfl, rfl, hk, HB⟩ := hrel
    have hk' := hk.out
    clear D0
    obtain ⟨cj, ck⟩ := KZ.out _ HB.out
    cases gk with
    | zero =>
      have lt0 : decide ((k : Int) < (n : Int)) = false := by simp; omega
      have lt1 : decide (k < n) = false := by simp; omega
      have HX : Hid (decide (f.r ∈ h.s.take k) = decide (f.r ∈ h.s)) := Lib.hid (by rw [List.take_of_length_le (by rw [HN.out]; omega)])
      rw [HX.out]
      go_wp2
      go_ret
      exact ⟨rfl, B2.out.trans (HB.out.mono B2.out.size)⟩
    | succ gf =>
      have hkl : k < h.s.length := by rw [HN.out]; omega
      have lt0 : (k : Int) < (n : Int) := by omega
      have hw1 : (k : Int) + 1 ≤ 1000000 := by omega
      have hk0 : (0 : Int) ≤ (k : Int) := by omega
      obtain ⟨b, off, rfl, _, hcl⟩ := (HW.out.step HB.out).at_ hkl
      have hm := mem_take_succ hkl f.r
      obtain ⟨v, hv⟩ : ∃ v, h.s.getD k 0 = v := ⟨_, rfl⟩
      rw [hv] at hcl hm
      have HM := Lib.hid hm
      clear hv hm hkl
      by_cases hi : f.r ∈ h.s.take k
      · have HV : Hid (true = decide (f.r ∈ h.s.take (k + 1))) := Lib.hid (by
          have := HM.out.2 (.inl hi)
          simpa using this)
        rw [decide_eq_true hi]
        clear hi
        go_wp2_with fail
        refine wp_region_held_drew (S := fun V => V.cell? ⟨b, off + k, none⟩ = some (.int .u32 v) ∧ V.cell? ⟨w.heap.size + 1, 7, none⟩ = some (.slice (some ⟨b, off, none⟩) n c) ∧ V.cell? ⟨w.heap.size, 4, none⟩ = some (.int .u32 f.r)) (by kernel_rfl) ⟨hcl, cj, ck⟩ (fun hHeld => ?_)
        refine wpAnyH_take (i := 0) (v := ?_) rfl (by kernel_rfl) (by kernel_rfl) (by kernel_rfl) (fun _ _ _ h => h) (Or.inl ⟨by rfl, ?_⟩) (by assumption) ?_
        rotate_left
        · (intro w' hSw; (try dsimp only at hSw); go_simp; try with_reducible rfl)
        simp only [Act.put, List.getElem_toArray, List.getElem_cons_zero, List.setIfInBounds_toArray, List.set_cons_zero, List.set_cons_succ]
        refine wpAnyH_take (i := 1) (v := ?_) rfl (by kernel_rfl) (by kernel_rfl) (by kernel_rfl) (fun _ _ _ h => h) (Or.inl ⟨by rfl, ?_⟩) (by assumption) ?_
        rotate_left
        · (intro w' hSw; (try dsimp only at hSw); go_simp; try with_reducible rfl)
        simp only [Act.put, List.getElem_toArray, List.getElem_cons_zero, List.getElem_cons_succ, List.setIfInBounds_toArray, List.set_cons_zero, List.set_cons_succ]
        refine wpAnyH_take (i := 2) (v := undef) rfl (by kernel_rfl) (by kernel_rfl) (by kernel_rfl) (fun _ _ _ h => h) (Or.inr ⟨by rfl, rfl⟩) (by assumption) ?_
        simp only [Act.put, List.getElem_toArray, List.getElem_cons_zero, List.getElem_cons_succ, List.setIfInBounds_toArray, List.set_cons_zero, List.set_cons_succ]
        refine wpAnyH_take (i := 3) (v := undef) rfl (by kernel_rfl) (by kernel_rfl) (by kernel_rfl) (fun _ _ _ h => h) (Or.inr ⟨by rfl, rfl⟩) (by assumption) ?_
        simp only [Act.put, List.getElem_toArray, List.getElem_cons_zero, List.getElem_cons_succ, List.setIfInBounds_toArray, List.set_cons_zero, List.set_cons_succ]
        refine wpAnyH_take (i := 4) (v := undef) rfl (by kernel_rfl) (by kernel_rfl) (by kernel_rfl) (fun _ _ _ h => h) (Or.inr ⟨by rfl, rfl⟩) (by assumption) ?_
        simp only [Act.put, List.getElem_toArray, List.getElem_cons_zero, List.getElem_cons_succ, List.setIfInBounds_toArray, List.set_cons_zero, List.set_cons_succ]
        refine wpAnyH_take (i := 5) (v := undef) rfl (by kernel_rfl) (by kernel_rfl) (by kernel_rfl) (fun _ _ _ h => h) (Or.inr ⟨by rfl, rfl⟩) (by assumption) ?_
        simp only [Act.put, List.getElem_toArray, List.getElem_cons_zero, List.getElem_cons_succ, List.setIfInBounds_toArray, List.set_cons_zero, List.set_cons_succ]
        refine wpAnyH_take (i := 6) (v := undef) rfl (by kernel_rfl) (by kernel_rfl) (by kernel_rfl) (fun _ _ _ h => h) (Or.inr ⟨by rfl, rfl⟩) (by assumption) ?_
        simp only [Act.put, List.getElem_toArray, List.getElem_cons_zero, List.getElem_cons_succ, List.setIfInBounds_toArray, List.set_cons_zero, List.set_cons_succ]
        refine wpAnyH_take (i := 7) (v := undef) rfl (by kernel_rfl) (by kernel_rfl) (by kernel_rfl) (fun _ _ _ h => h) (Or.inr ⟨by rfl, rfl⟩) (by assumption) ?_
        simp only [Act.put, List.getElem_toArray, List.getElem_cons_zero, List.getElem_cons_succ, List.setIfInBounds_toArray, List.set_cons_zero, List.set_cons_succ]
        refine wpAnyH_take (i := 8) (v := undef) rfl (by kernel_rfl) (by kernel_rfl) (by kernel_rfl) (fun _ _ _ h => h) (Or.inr ⟨by rfl, rfl⟩) (by assumption) ?_
        simp only [Act.put, List.getElem_toArray, List.getElem_cons_zero, List.getElem_cons_succ, List.setIfInBounds_toArray, List.set_cons_zero, List.set_cons_succ]
        refine wpAnyH_take (i := 9) (v := undef) rfl (by kernel_rfl) (by kernel_rfl) (by kernel_rfl) (fun _ _ _ h => h) (Or.inr ⟨by rfl, rfl⟩) (by assumption) ?_
        simp only [Act.put, List.getElem_toArray, List.getElem_cons_zero, List.getElem_cons_succ, List.setIfInBounds_toArray, List.set_cons_zero, List.set_cons_succ]
        refine wpAnyH_take (i := 10) (v := ?_) rfl (by kernel_rfl) (by kernel_rfl) (by kernel_rfl) (fun _ _ _ h => h) (Or.inl ⟨by rfl, ?_⟩) (by assumption) ?_
        rotate_left
        · (intro w' hSw; (try dsimp only at hSw); go_simp; try with_reducible rfl)
        simp only [Act.put, List.getElem_toArray, List.getElem_cons_zero, List.getElem_cons_succ, List.setIfInBounds_toArray, List.set_cons_zero, List.set_cons_succ]
        refine wpAnyH_ready (rs := [11]) (by kernel_rfl) (by simp) ?_
        refine AllReadyH.cons rfl (fun K hK => ?_) AllReadyH.nil
        go_simp
        refine hK.out _ _ ⟨hcl, cj, ck⟩ (fun _ => ?_)
        clear hK K
        refine wpAnyH_done (by kernel_rfl) ?_ _
        go_wp2
        go_roundg gf
        case measure => omega
        case rel => exact ⟨k + 1, by first | exact val_bool HV.out | (simp only [Bool.true_or]; exact val_bool HV.out), by go_num, Lib.hid (by omega), Lib.hid (HB.out.drew)⟩
      · have HV : Hid ((v == f.r) = decide (f.r ∈ h.s.take (k + 1))) := Lib.hid (by
          have q := HM.out
          by_cases hvr : f.r = v
          · rw [decide_eq_true (q.2 (.inr hvr))]; simp [hvr]
          · rw [decide_eq_false (fun m => by rcases q.1 m with m | m; exact hi m; exact hvr m)]; simpa using fun m => hvr m.symm)
        rw [decide_eq_false hi]
        clear hi
        go_wp2_with fail
        refine wp_region_held_drew (S := fun V => V.cell? ⟨b, off + k, none⟩ = some (.int .u32 v) ∧ V.cell? ⟨w.heap.size + 1, 7, none⟩ = some (.slice (some ⟨b, off, none⟩) n c) ∧ V.cell? ⟨w.heap.size, 4, none⟩ = some (.int .u32 f.r)) (by kernel_rfl) ⟨hcl, cj, ck⟩ (fun hHeld => ?_)
        refine wpAnyH_take (i := 0) (v := ?_) rfl (by kernel_rfl) (by kernel_rfl) (by kernel_rfl) (fun _ _ _ h => h) (Or.inl ⟨by rfl, ?_⟩) (by assumption) ?_
        rotate_left
        · (intro w' hSw; (try dsimp only at hSw); go_simp; try with_reducible rfl)
        simp only [Act.put, List.getElem_toArray, List.getElem_cons_zero, List.setIfInBounds_toArray, List.set_cons_zero, List.set_cons_succ]
        refine wpAnyH_take (i := 1) (v := ?_) rfl (by kernel_rfl) (by kernel_rfl) (by kernel_rfl) (fun _ _ _ h => h) (Or.inl ⟨by rfl, ?_⟩) (by assumption) ?_
        rotate_left
        · (intro w' hSw; (try dsimp only at hSw); go_simp; try with_reducible rfl)
        simp only [Act.put, List.getElem_toArray, List.getElem_cons_zero, List.getElem_cons_succ, List.setIfInBounds_toArray, List.set_cons_zero, List.set_cons_succ]
        refine wpAnyH_take (i := 2) (v := ?_) rfl (by kernel_rfl) (by kernel_rfl) (by kernel_rfl) (fun _ _ _ h => h) (Or.inl ⟨by rfl, ?_⟩) (by assumption) ?_
        rotate_left
        · (intro w' hSw; (try dsimp only at hSw); go_simp; try with_reducible rfl)
        simp only [Act.put, List.getElem_toArray, List.getElem_cons_zero, List.getElem_cons_succ, List.setIfInBounds_toArray, List.set_cons_zero, List.set_cons_succ]
        refine wpAnyH_take (i := 3) (v := ?_) rfl (by kernel_rfl) (by kernel_rfl) (by kernel_rfl) (fun _ _ _ h => h) (Or.inl ⟨by rfl, ?_⟩) (by assumption) ?_
        rotate_left
        · (intro w' hSw; (try dsimp only at hSw); go_simp; try with_reducible rfl)
        simp only [Act.put, List.getElem_toArray, List.getElem_cons_zero, List.getElem_cons_succ, List.setIfInBounds_toArray, List.set_cons_zero, List.set_cons_succ]
        refine wpAnyH_take (i := 4) (v := ?_) rfl (by kernel_rfl) (by kernel_rfl) (by kernel_rfl) (fun _ _ _ h => h) (Or.inl ⟨by rfl, ?_⟩) (by assumption) ?_
        rotate_left
        · (intro w' hSw; (try dsimp only at hSw); go_simp; try with_reducible rfl)
        simp only [Act.put, List.getElem_toArray, List.getElem_cons_zero, List.getElem_cons_succ, List.setIfInBounds_toArray, List.set_cons_zero, List.set_cons_succ]
        refine wpAnyH_take (i := 5) (v := ?_) rfl (by kernel_rfl) (by kernel_rfl) (by kernel_rfl) (fun _ _ _ h => h) (Or.inl ⟨by rfl, ?_⟩) (by assumption) ?_
        rotate_left
        · (intro w' hSw; (try dsimp only at hSw); go_simp; try with_reducible rfl)
        simp only [Act.put, List.getElem_toArray, List.getElem_cons_zero, List.getElem_cons_succ, List.setIfInBounds_toArray, List.set_cons_zero, List.set_cons_succ]
        refine wpAnyH_take (i := 6) (v := ?_) rfl (by kernel_rfl) (by kernel_rfl) (by kernel_rfl) (fun _ _ _ h => h) (Or.inl ⟨by rfl, ?_⟩) (by assumption) ?_
        rotate_left
        · (intro w' hSw; (try dsimp only at hSw); go_simp; try with_reducible rfl)
        simp only [Act.put, List.getElem_toArray, List.getElem_cons_zero, List.getElem_cons_succ, List.setIfInBounds_toArray, List.set_cons_zero, List.set_cons_succ]
        refine wpAnyH_take (i := 7) (v := ?_) rfl (by kernel_rfl) (by kernel_rfl) (by kernel_rfl) (fun _ _ _ h => h) (Or.inl ⟨by rfl, ?_⟩) (by assumption) ?_
        rotate_left
        · (intro w' hSw; (try dsimp only at hSw); go_simp; try with_reducible rfl)
        simp only [Act.put, List.getElem_toArray, List.getElem_cons_zero, List.getElem_cons_succ, List.setIfInBounds_toArray, List.set_cons_zero, List.set_cons_succ]
        refine wpAnyH_take (i := 8) (v := ?_) rfl (by kernel_rfl) (by kernel_rfl) (by kernel_rfl) (fun _ _ _ h => h) (Or.inl ⟨by rfl, ?_⟩) (by assumption) ?_
        rotate_left
        · (intro w' hSw; (try dsimp only at hSw); go_simp; try with_reducible rfl)
        simp only [Act.put, List.getElem_toArray, List.getElem_cons_zero, List.getElem_cons_succ, List.setIfInBounds_toArray, List.set_cons_zero, List.set_cons_succ]
        refine wpAnyH_take (i := 9) (v := ?_) rfl (by kernel_rfl) (by kernel_rfl) (by kernel_rfl) (fun _ _ _ h => h) (Or.inl ⟨by rfl, ?_⟩) (by assumption) ?_
        rotate_left
        · (intro w' hSw; (try dsimp only at hSw); go_simp; try with_reducible rfl)
        simp only [Act.put, List.getElem_toArray, List.getElem_cons_zero, List.getElem_cons_succ, List.setIfInBounds_toArray, List.set_cons_zero, List.set_cons_succ]
        refine wpAnyH_take (i := 10) (v := ?_) rfl (by kernel_rfl) (by kernel_rfl) (by kernel_rfl) (fun _ _ _ h => h) (Or.inl ⟨by rfl, ?_⟩) (by assumption) ?_
        rotate_left
        · (intro w' hSw; (try dsimp only at hSw); go_simp; try with_reducible rfl)
        simp only [Act.put, List.getElem_toArray, List.getElem_cons_zero, List.getElem_cons_succ, List.setIfInBounds_toArray, List.set_cons_zero, List.set_cons_succ]
        refine wpAnyH_ready (rs := [11]) (by kernel_rfl) (by simp) ?_
        refine AllReadyH.cons rfl (fun K hK => ?_) AllReadyH.nil
        go_simp
        refine hK.out _ _ ⟨hcl, cj, ck⟩ (fun _ => ?_)
        clear hK K
        refine wpAnyH_done (by kernel_rfl) ?_ _
        go_wp2
        go_roundg gf
        case measure => omega
        case rel => exact ⟨k + 1, by first | exact val_bool HV.out | (simp only [Bool.true_or]; exact val_bool HV.out), by go_num, Lib.hid (by omega), Lib.hid (HB.out.drew)⟩
end Go.Proofs.Ytdjblkmhlghglaa
