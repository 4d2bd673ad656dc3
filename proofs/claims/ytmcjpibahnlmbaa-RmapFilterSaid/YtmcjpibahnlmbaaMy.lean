/-
  Contracts of the program's all, mayList, May and MayAll. No statement is proved here; no conditions.
-/
import Derived.Test.YtmcjpibahnlmbaaAl
import Derived.Test.YtmcjpibahnlmbaaAm
namespace Go.Proofs.Ytmcjpibahnlmbaa
open Go.RowKit Go.Joins

theorem any_not {α : Type} (p : α → Bool) (l : List α) : (!l.any fun x => !p x) = l.all p := by
  induction l with
  | nil => rfl
  | cons x l ih => simp only [List.any_cons, List.all_cons, Bool.not_or, Bool.not_not, ih]
/-- A function in a new block. -/
theorem fb_new {w W0 W : World} {t : TypeId} {v : Value} (h0 : w.alloc (.cells #[v] t) = W0) (h : Below W0.heap.size W0 W) : W.cell? ⟨w.heap.size, 0, none⟩ = some v := by
  subst h0
  have k := (h.block w.heap.size (by simp)).trans (alloc_at _ _ _ rfl)
  exact (cell_of_block k 0).trans rfl
set_option maxRecDepth 100000 in
theorem al1r_any (x : Ru) (b : Nat) (w : World) (hA : x.A < 4294967296) (hc : w.cell? ⟨b, 0, none⟩ = some (.func (.func 43) #[] #[])) :
    Calls Try.prog 51 #[rv x, .pointer (some ⟨b, 0, none⟩)] w fun e w' => e = .returned (.bool (!okr x)) ∧ Below w.heap.size w w' := by
  have cm : ∀ V, Below w.heap.size w V → _ := fun V hV => pmay_any x V hA
  obtain ⟨W0, hW0⟩ : ∃ W0, w.alloc (.cells #[.int .i64 x.s, .bool x.p, .int .u32 (x.A : Int), .int .i64 x.N, .int .i64 x.g, .int .i64 x.l] 75) = W0 := ⟨_, rfl⟩
  have b0 : Below w.heap.size w W0 := by rw [← hW0]; exact below_alloc1 _ _
  obtain ⟨k0, k1, k2, k3, k4, k5⟩ := rb_new hW0 (Below.refl _ _)
  have hc' : W0.cell? ⟨b, 0, none⟩ = some (.func (.func 43) #[] #[]) := by rw [World.cell?_of_block (b0.block b (World.block_lt_of_cell? _ _ hc))]; exact hc
  have hf1 := enters43 #[rv x] W0
  have cm0 := cm W0 b0
  generalize okr x = OK at *
  clear cm
  go_enter Try.func51, Try.ntmps51
  go_wp2_with fail
  refine cm0.mono ?_
  rintro e W2 ⟨rfl, hb2⟩
  go_wp2
  go_ret
  exact ⟨rfl, b0.trans (hb2.mono b0.size)⟩
set_option maxRecDepth 100000 in
theorem rall_any (A0 : Option Addr) (c : Nat) (l : List Ru) (w : World) (hl : Rr w A0 l) (hll : l.length ≤ 10000) (hA : ∀ x ∈ l, x.A < 4294967296) :
    Calls Try.prog 42 #[.slice A0 l.length c, .func (.func 43) #[] #[]] w fun e w' => e = .returned (.bool (l.all (okr))) ∧ Below w.heap.size w w' := by
  obtain ⟨W0, hW0⟩ : ∃ W0, w.alloc (.cells #[.func (.func 43) #[] #[]] 82) = W0 := ⟨_, rfl⟩
  have b0 : Below w.heap.size w W0 := by rw [← hW0]; exact below_alloc1 _ _
  have cf := rcf_any A0 c l 51 (.pointer (some ⟨w.heap.size, 0, none⟩)) (fun x => !(okr) x) W0 (hl.step b0) hll enters51' (fun V x hx hV => al1r_any x w.heap.size V (hA x hx) (fb_new hW0 hV))
  have he := any_not (okr) l
  generalize l.any (fun x => !(okr) x) = E at *
  generalize l.all (okr) = R at *
  generalize l.length = ln at *
  have HE := Lib.hid he
  clear he hl
  go_enter Try.func42, Try.ntmps42
  go_wp2_with fail
  refine cf.mono ?_
  rintro e W2 ⟨rfl, hb2⟩
  go_wp2
  go_ret
  exact ⟨ret_bool HE.out, b0.trans (hb2.mono b0.size)⟩
set_option maxRecDepth 100000 in
theorem mayList_any (A0 : Option Addr) (c : Nat) (l : List Ru) (w : World) (hl : Rr w A0 l) (hll : l.length ≤ 10000) (hA : ∀ x ∈ l, x.A < 4294967296) :
    Calls Try.prog 31 #[.slice A0 l.length c] w fun e w' => e = .returned (.bool (mayl none l)) ∧ Below w.heap.size w w' := by
  have c1 := rall_any A0 c l w hl hll hA
  have c2 := fun W (hW : Below w.heap.size w W) => rasc_any A0 c l W (hl.step hW) hll
  have he : mayl none l = (l.all (okr) && asc (fun i => (gr l i).s) l.length) := mayl_none l
  rw [he]
  generalize l.all (okr) = R at *
  generalize asc (fun i => (gr l i).s) l.length = S at *
  generalize l.length = ln at *
  clear he hl
  cases R
  · go_enter Try.func31, Try.ntmps31
    go_wp2_with fail
    refine c1.mono ?_
    rintro e W1 ⟨rfl, hb1⟩
    go_wp2
    go_ret
    exact ⟨rfl, hb1⟩
  · go_enter Try.func31, Try.ntmps31
    go_wp2_with fail
    refine c1.mono ?_
    rintro e W1 ⟨rfl, hb1⟩
    go_wp2_with fail
    refine (c2 _ hb1).mono ?_
    rintro e W2 ⟨rfl, hb2⟩
    go_wp2
    go_ret
    exact ⟨rfl, hb1.trans (hb2.mono hb1.size)⟩
set_option maxRecDepth 100000 in
theorem may8_any (x : Cl) (w : World) (hx : Cx w x) : Calls Try.prog 12 #[cv x] w fun e w' => e = .returned (.bool (okc x.c)) ∧ Below w.heap.size w w' := by
  have cl := fun W (hW : Below w.heap.size w W) => mayList_any x.LA x.Lc x.c.L W (hx.L.step hW) (by have := hx.nL; omega) hx.wf
  obtain ⟨⟨s, p, L, k, lo, hi, T, sc, sp, sk, st, tg⟩, LA, Lc, TA, Tc⟩ := x
  have ho : okc ⟨s, p, L, k, lo, hi, T, sc, sp, sk, st, tg⟩ = (win s 1 65535 && (win k (-1) 9 && win lo 0 hi && decide (hi ≤ 16777215)) && (win sc (-1) 16777215 && win sp 0 16777215 && win sk (-1) 9) && mayl none L) := rfl
  simp only at cl ⊢
  rw [ho]
  have c1 := fun W => within_any k (-1) 9 W
  have c2 := fun W => within_any lo 0 hi W
  have c3 := fun W => within_any sc (-1) 16777215 W
  have c4 := fun W => within_any sp 0 16777215 W
  have c5 := fun W => within_any sk (-1) 9 W
  have c6 := fun W => within_any s 1 65535 W
  generalize win k (-1) 9 = B1 at *
  generalize win lo 0 hi = B2 at *
  generalize win sc (-1) 16777215 = B3 at *
  generalize win sp 0 16777215 = B4 at *
  generalize win sk (-1) 9 = B5 at *
  generalize win s 1 65535 = B6 at *
  generalize mayl none L = ML at *
  clear ho hx
  obtain ⟨M1, hM1⟩ : ∃ M1, (B1 && B2 && decide (hi ≤ 16777215)) = M1 := ⟨_, rfl⟩
  obtain ⟨M2, hM2⟩ : ∃ M2, (B3 && B4 && B5) = M2 := ⟨_, rfl⟩
  rw [hM1, hM2]
  have HM1 := Lib.hid hM1
  have HM2 := Lib.hid hM2
  clear hM1 hM2
  obtain ⟨W0, hW0⟩ : ∃ W0, w.alloc (.cells #[.int .i64 s, .bool p, .slice LA L.length Lc, .int .i64 k, .int .i64 lo, .int .i64 hi, .slice TA T.length Tc, .int .i64 sc, .int .i64 sp, .int .i64 sk, .bool st, .int .u32 (tg : Int)] 37) = W0 := ⟨_, rfl⟩
  have b0 : Below w.heap.size w W0 := by rw [← hW0]; exact below_alloc1 _ _
  have HB0 := Lib.hid b0
  have cl0 := cl W0 b0
  clear cl b0
  obtain ⟨k0, k1, k2, k3, k4, k5, k6, k7, k8, k9, k10, k11⟩ := cb_new hW0 (Below.refl _ _)
  go_enter Try.func12, Try.ntmps12
  go_upto_region 1 with fail
  clear hW0
  go_cut [3] (fun v wx => v = .bool M1 ∧ wx = W0)
  case first =>
    cases B1
    · go_wp2_with fail
      refine (c1 _).mono ?_
      rintro e Wz ⟨rfl, hWz⟩
      rw [hWz]
      clear hWz Wz
      go_wp2_with fail
      go_meet
      case rel => exact ⟨by rw [← HM1.out]; rfl, rfl⟩
    · go_wp2_with fail
      refine (c1 _).mono ?_
      rintro e Wz ⟨rfl, hWz⟩
      rw [hWz]
      clear hWz Wz
      cases B2
      · go_wp2_with fail
        refine (c2 _).mono ?_
        rintro e Wz ⟨rfl, hWz⟩
        rw [hWz]
        clear hWz Wz
        go_wp2_with fail
        go_meet
        case rel => exact ⟨by rw [← HM1.out]; rfl, rfl⟩
      · go_wp2_with fail
        refine (c2 _).mono ?_
        rintro e Wz ⟨rfl, hWz⟩
        rw [hWz]
        clear hWz Wz
        go_wp2_with fail
        go_meet
        case rel => exact ⟨by rw [← HM1.out]; rfl, rfl⟩
  case rest =>
    obtain ⟨rfl, rfl⟩ := hcut
    clear HM1
    clear c1 c2
    go_upto_region 2 with fail
    go_cut [4] (fun v wx => v = .bool M2 ∧ wx = wc)
    case first =>
      cases B3
      · go_wp2_with fail
        refine (c3 _).mono ?_
        rintro e Wz ⟨rfl, hWz⟩
        rw [hWz]
        clear hWz Wz
        go_wp2_with fail
        go_meet
        case rel => exact ⟨by rw [← HM2.out]; rfl, rfl⟩
      · go_wp2_with fail
        refine (c3 _).mono ?_
        rintro e Wz ⟨rfl, hWz⟩
        rw [hWz]
        clear hWz Wz
        cases B4
        · go_wp2_with fail
          refine (c4 _).mono ?_
          rintro e Wz ⟨rfl, hWz⟩
          rw [hWz]
          clear hWz Wz
          go_wp2_with fail
          go_meet
          case rel => exact ⟨by rw [← HM2.out]; rfl, rfl⟩
        · go_wp2_with fail
          refine (c4 _).mono ?_
          rintro e Wz ⟨rfl, hWz⟩
          rw [hWz]
          clear hWz Wz
          go_wp2_with fail
          refine (c5 _).mono ?_
          rintro e Wz ⟨rfl, hWz⟩
          rw [hWz]
          clear hWz Wz
          go_wp2_with fail
          go_meet
          case rel => exact ⟨by rw [← HM2.out]; rfl, rfl⟩
    case rest =>
      obtain ⟨rfl, rfl⟩ := hcut
      clear HM2
      clear c3 c4 c5
      cases B6
      · go_wp2_with fail
        refine (c6 _).mono ?_
        rintro e Wz ⟨rfl, hWz⟩
        rw [hWz]
        clear hWz Wz
        go_wp2
        go_ret
        exact ⟨rfl, HB0.out⟩
      · cases M1
        · go_wp2_with fail
          refine (c6 _).mono ?_
          rintro e Wz ⟨rfl, hWz⟩
          rw [hWz]
          clear hWz Wz
          go_wp2
          go_ret
          exact ⟨rfl, HB0.out⟩
        · cases M2
          · go_wp2_with fail
            refine (c6 _).mono ?_
            rintro e Wz ⟨rfl, hWz⟩
            rw [hWz]
            clear hWz Wz
            go_wp2
            go_ret
            exact ⟨rfl, HB0.out⟩
          · go_wp2_with fail
            refine (c6 _).mono ?_
            rintro e Wz ⟨rfl, hWz⟩
            rw [hWz]
            clear hWz Wz
            go_wp2_with fail
            refine cl0.mono ?_
            rintro e W2 ⟨rfl, hb2⟩
            go_wp2
            go_ret
            exact ⟨rfl, HB0.out.trans (hb2.mono HB0.out.size)⟩
set_option maxRecDepth 100000 in
theorem al1c_any (x : Cl) (b : Nat) (w : World) (hx : Cx w x) (hc : w.cell? ⟨b, 0, none⟩ = some (.func (.func 12) #[] #[])) :
    Calls Try.prog 41 #[cv x, .pointer (some ⟨b, 0, none⟩)] w fun e w' => e = .returned (.bool (!okc x.c)) ∧ Below w.heap.size w w' := by
  have cm : ∀ V, Below w.heap.size w V → _ := fun V hV => may8_any x V (hx.step hV)
  obtain ⟨W0, hW0⟩ : ∃ W0, w.alloc (.cells #[.int .i64 x.c.s, .bool x.c.p, .slice x.LA x.c.L.length x.Lc, .int .i64 x.c.k, .int .i64 x.c.lo, .int .i64 x.c.hi, .slice x.TA x.c.T.length x.Tc, .int .i64 x.c.sc, .int .i64 x.c.sp, .int .i64 x.c.sk, .bool x.c.st, .int .u32 (x.c.tg : Int)] 37) = W0 := ⟨_, rfl⟩
  have b0 : Below w.heap.size w W0 := by rw [← hW0]; exact below_alloc1 _ _
  obtain ⟨k0, k1, k2, k3, k4, k5, k6, k7, k8, k9, k10, k11⟩ := cb_new hW0 (Below.refl _ _)
  have hc' : W0.cell? ⟨b, 0, none⟩ = some (.func (.func 12) #[] #[]) := by rw [World.cell?_of_block (b0.block b (World.block_lt_of_cell? _ _ hc))]; exact hc
  have hf1 := enters12 #[cv x] W0
  have cm0 := cm W0 b0
  generalize okc x.c = OK at *
  clear cm
  go_enter Try.func41, Try.ntmps41
  go_wp2_with fail
  refine cm0.mono ?_
  rintro e W2 ⟨rfl, hb2⟩
  go_wp2
  go_ret
  exact ⟨rfl, b0.trans (hb2.mono b0.size)⟩
set_option maxRecDepth 100000 in
theorem call_any (A0 : Option Addr) (c : Nat) (l : List Cl) (w : World) (hl : Cr w A0 l) (hll : l.length ≤ 10000)  :
    Calls Try.prog 27 #[.slice A0 l.length c, .func (.func 12) #[] #[]] w fun e w' => e = .returned (.bool (l.all (fun x => okc x.c))) ∧ Below w.heap.size w w' := by
  obtain ⟨W0, hW0⟩ : ∃ W0, w.alloc (.cells #[.func (.func 12) #[] #[]] 33) = W0 := ⟨_, rfl⟩
  have b0 : Below w.heap.size w W0 := by rw [← hW0]; exact below_alloc1 _ _
  have cf := ccf_any A0 c l 41 (.pointer (some ⟨w.heap.size, 0, none⟩)) (fun x => !(fun x => okc x.c) x) W0 (hl.step b0) hll enters41 (fun V x hx hV => al1c_any x w.heap.size V ((hl.step (b0.trans (hV.mono b0.size))).cx x hx) (fb_new hW0 hV))
  have he := any_not (fun x => okc x.c) l
  generalize l.any (fun x => !(fun x => okc x.c) x) = E at *
  generalize l.all (fun x => okc x.c) = R at *
  generalize l.length = ln at *
  have HE := Lib.hid he
  clear he hl
  go_enter Try.func27, Try.ntmps27
  go_wp2_with fail
  refine cf.mono ?_
  rintro e W2 ⟨rfl, hb2⟩
  go_wp2
  go_ret
  exact ⟨ret_bool HE.out, b0.trans (hb2.mono b0.size)⟩
theorem asc_same {f g : Nat → Int} {n : Nat} (h : ∀ i, i < n → f i = g i) : asc f n = asc g n := by
  rw [Bool.eq_iff_iff, asc_iff, asc_iff]
  constructor
  · intro q i hi
    rw [← h i (by omega), ← h (i + 1) hi]; exact q i hi
  · intro q i hi
    rw [h i (by omega), h (i + 1) hi]; exact q i hi
theorem mayc_cps (l : List Cl) : mayc none (cps l) = (l.all (fun x => okc x.c) && asc (fun i => (gc l i).c.s) l.length) := by
  rw [mayc_none, cps_len]
  congr 1
  · rw [cps, List.all_map]; rfl
  · exact asc_same fun i hi => by rw [gp_cps hi]
set_option maxRecDepth 100000 in
theorem mayAll8_any (A0 : Option Addr) (c : Nat) (l : List Cl) (w : World) (hl : Cr w A0 l) (hll : l.length ≤ 10000)  :
    Calls Try.prog 9 #[.slice A0 l.length c] w fun e w' => e = .returned (.bool (mayc none (cps l))) ∧ Below w.heap.size w w' := by
  have c1 := call_any A0 c l w hl hll
  have c2 := fun W (hW : Below w.heap.size w W) => casc_any A0 c l W (hl.step hW) hll
  have he : mayc none (cps l) = (l.all (fun x => okc x.c) && asc (fun i => (gc l i).c.s) l.length) := mayc_cps l
  rw [he]
  generalize l.all (fun x => okc x.c) = R at *
  generalize asc (fun i => (gc l i).c.s) l.length = S at *
  generalize l.length = ln at *
  clear he hl
  cases R
  · go_enter Try.func9, Try.ntmps9
    go_wp2_with fail
    refine c1.mono ?_
    rintro e W1 ⟨rfl, hb1⟩
    go_wp2
    go_ret
    exact ⟨rfl, hb1⟩
  · go_enter Try.func9, Try.ntmps9
    go_wp2_with fail
    refine c1.mono ?_
    rintro e W1 ⟨rfl, hb1⟩
    go_wp2_with fail
    refine (c2 _ hb1).mono ?_
    rintro e W2 ⟨rfl, hb2⟩
    go_wp2
    go_ret
    exact ⟨rfl, hb1.trans (hb2.mono hb1.size)⟩
end Go.Proofs.Ytmcjpibahnlmbaa
