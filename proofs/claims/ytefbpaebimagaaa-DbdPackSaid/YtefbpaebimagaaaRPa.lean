/-
  The contract of the reference's PutAds. No statement is proved here; no conditions.
-/
import Derived.Test.YtefbpaebimagaaaPa
namespace Go.Proofs.Ytefbpaebimagaaa
open Go.RowKit Go.Joins

set_option maxRecDepth 100000 in
set_option maxHeartbeats 8000000 in
theorem rputads_any (A : Option Addr) (n c : Nat) (L : List Ae) (w : World) (hn : L.length = n) (ok : Okas (cons L)) (hl : Arr w A L) (hll : n ≤ 100) :
    Calls Try.prog 27 #[.slice A n c] w fun e w' => ∃ A' c', e = .returned (.tuple #[.slice A' (puL (cons L)).length c', .int .i64 (puE (cons L))]) ∧ Own .u8 5 w' w.heap.size A' c' (puL (cons L)) ∧ Below w.heap.size w w' := by
  obtain ⟨E, hE⟩ : ∃ E, puE (cons L) = E := ⟨_, rfl⟩
  obtain ⟨P, hP⟩ : ∃ P, puL (cons L) = P := ⟨_, rfl⟩
  have hcl : (cons L).length = n := by rw [cons_length, hn]
  have HNo : Hid (¬ n ≤ 50 ∨ whs (cons L) = false ∨ ¬ (ecs (cons L)).length ≤ 1472 → E = 1 ∧ P = []) := Lib.hid (fun h => by rw [← hE, ← hP]; exact puE_no (by rw [hcl]; exact h))
  have HYes : Hid (n ≤ 50 → whs (cons L) = true → (ecs (cons L)).length ≤ 1472 → E = 0 ∧ P = be (n : Int) 4 ++ ecs (cons L)) := Lib.hid (fun h h2 h3 => by
    rw [← hE, ← hP]
    have := puE_yes (L := cons L) (by rw [hcl]; exact h) h2 h3
    rwa [hcl] at this)
  rw [hE, hP]
  clear hE hP hcl
  have hwn : IntKind.u32.wrap (n : Int) = (n : Int) := wrap_u32 (by omega) (by omega)
  obtain ⟨i0, hi0, hz0, hz1, hz2⟩ := info_of info5
  obtain ⟨W0, hW0⟩ : ∃ V, w.alloc (.cells #[] 5) = V := ⟨_, rfl⟩
  have bW0 : Below w.heap.size w W0 := by rw [← hW0]; exact below_alloc1 _ _
  have HO : Hid (Own .u8 5 W0 w.heap.size (some ⟨w.heap.size, 0, none⟩) 0 []) := Lib.hid (by rw [← hW0]; exact Own.empty w _ (Nat.le_refl _) _ _)
  have HB := Lib.hid bW0
  have HLN := Lib.hid hn
  have HL := Lib.hid hl
  have OK := Lib.hid ok
  clear hn hl ok bW0
  go_enter Try.func27, Try.ntmps27
  go_wp2_with fail
  go_loopg [4, 5] n (fun gf v4 v5 wx => ∃ (j x : Nat) (A' : Option Addr) (c' : Nat), v4 = .slice A' x c' ∧ v5 = .int .i64 (j : Int) ∧ Hid (gf + j = n) ∧ Hid ((ecs (cons (L.take j))).length = x ∧ x ≤ j * 1400) ∧ Hid (Own .u8 5 wx w.heap.size A' c' (ecs (cons (L.take j)))) ∧ Hid (∀ y ∈ L.take j, wh (con y) = true) ∧ Hid (Below w.heap.size w wx))
  case atStart => exact ⟨0, 0, _, _, rfl, rfl, Lib.hid (by omega), Lib.hid (by simp [cons, ecs]), Lib.hid (by simpa [cons, ecs] using HO.out), Lib.hid (by simp), HB⟩
  case round =>
    obtain ⟨j, x, A', c', rfl, rfl, hj, hx, ho, hm, hb⟩ := hrel
    have hj' := hj.out
    clear HO HB
    cases gk with
    | zero =>
      have lt0 : decide ((j : Int) < (n : Int)) = false := by simp; omega
      have lt1 : decide (j < n) = false := by simp; omega
      have HT : Hid (L.take j = L) := Lib.hid (List.take_of_length_le (by rw [HLN.out]; omega))
      have hwa : whs (cons L) = true := (whs_iff _).2 (by
        intro y hy
        obtain ⟨z, hz, rfl⟩ := List.mem_map.1 hy
        exact hm.out z (by rw [HT.out]; exact hz))
      have hxl := hx.out.1
      rw [HT.out] at hxl
      by_cases h50 : (n : Int) > 50
      · obtain ⟨e1, e2⟩ := HNo.out (.inl (by omega))
        have F1 := Lib.hid e1
        have F2 := Lib.hid e2
        clear e1 e2 hwa hxl
        go_wp2
        go_ret2
        rw [F1.out, F2.out]
        exact ⟨none, 0, rfl, Own.nil _ _, hb.out⟩
      by_cases hbig : (x : Int) > 1472
      · obtain ⟨e1, e2⟩ := HNo.out (.inr (.inr (by omega)))
        have F1 := Lib.hid e1
        have F2 := Lib.hid e2
        clear e1 e2 hwa hxl
        go_wp2
        go_ret2
        rw [F1.out, F2.out]
        exact ⟨none, 0, rfl, Own.nil _ _, hb.out⟩
      · have HF : Hid (E = 0 ∧ P = be (n : Int) 4 ++ ecs (cons L)) := Lib.hid (HYes.out (by omega) hwa (by omega))
        have HXL := Lib.hid hxl
        have HX : Hid (P.length = 4 + x) := Lib.hid (by rw [HF.out.2, List.length_append, be_length, hxl])
        have ho2 := ho.out
        rw [HT.out] at ho2
        have HO2 := Lib.hid ho2
        have CF := four_any (n : Int) wr (by omega) (by omega)
        clear hwa hxl ho2
        go_wp2_with fail
        refine CF.mono ?_
        rintro e Y1 ⟨A1, c1, rfl, o1, u1⟩
        have T1 := Lib.hid (hb.out.trans (u1.mono hb.out.size))
        have o1' := o1.lower (base' := w.heap.size) hb.out.size
        have q1 := Bs.step HO2.out.bs u1
        have hx2 : x ≤ 1472 := by omega
        obtain ⟨A4, c4, Y4, rY4, oY4, tY4⟩ := run_apn (P := Try.prog) Y1 w.heap.size 26 26 5 .u8 i0 _ 1 Try.underlying26 hi0 hz0 hz1 hz2 rfl _ _ _ o1' _ A' c' _ q1 4 x (be_length _ _) HXL.out (by unfold maxLen; omega) (by omega) T1.out.size
        have O4 := Lib.hid oY4
        have T4 := Lib.hid (T1.out.trans tY4)
        clear o1 o1' q1 u1 oY4 tY4 CF
        go_wp2_with (at_builtin; refine wpList_runb _ rfl (.tmp 47) (.tmp 48) 26 rfl rfl rfl rY4 ?_)
        go_ret2
        refine ⟨A4, c4, ?_, ?_, T4.out⟩
        · rw [HX.out, HF.out.1]
          rfl
        · rw [HF.out.2]
          exact O4.out
    | succ gf =>
      have hlt : j < L.length := by rw [HLN.out]; omega
      have lt0 : (j : Int) < (n : Int) := by omega
      have hw1 : (j : Int) + 1 ≤ 10000 := by omega
      have KE : Hid (∀ V, Below w.heap.size w V → ∃ bb off, A = some ⟨bb, off, none⟩ ∧ V.cell? ⟨bb, off + j * 9, none⟩ = some (.int .i64 (ag L j).h.a) ∧ V.cell? ⟨bb, off + j * 9 + 1, none⟩ = some (.int .i64 (ag L j).h.o) ∧ V.cell? ⟨bb, off + j * 9 + 2, none⟩ = some (.int .i64 (ag L j).h.t) ∧ V.cell? ⟨bb, off + j * 9 + 3, none⟩ = some (.int .u32 (ag L j).h.i) ∧ V.cell? ⟨bb, off + j * 9 + 4, none⟩ = some (.int .u32 (ag L j).h.v) ∧ V.cell? ⟨bb, off + j * 9 + 5, none⟩ = some (.int .u32 (ag L j).h.q) ∧ V.cell? ⟨bb, off + j * 9 + 6, none⟩ = some (.int .i64 (ag L j).h.s) ∧ V.cell? ⟨bb, off + j * 9 + 7, none⟩ = some (.int .i64 (ag L j).h.n) ∧ V.cell? ⟨bb, off + j * 9 + 8, none⟩ = some (.slice (ag L j).A (ag L j).l.length (ag L j).c)) := Lib.hid (fun V hV => by
        obtain ⟨bb, off, hA, -, e0, e1, e2, e3, e4, e5, e6, e7, e8⟩ := ard_at (Arr.step HL.out hV).1 hlt
        exact ⟨bb, off, hA, e0, e1, e2, e3, e4, e5, e6, e7, e8⟩)
      have hla := Arr.step HL.out hb.out
      have hmem := ag_mem hlt
      have HV : Hid (L.take (j + 1) = L.take j ++ [ag L j]) := Lib.hid (atake hlt)
      obtain ⟨y, hy⟩ : ∃ y, ag L j = y := ⟨_, rfl⟩
      rw [hy] at KE hmem HV
      obtain ⟨m, hym⟩ : ∃ m, y.l.length = m := ⟨_, rfl⟩
      rw [hym] at KE
      have oky := okas_at OK.out hmem
      have hm16 : m ≤ 1600 := by rw [← hym]; exact oky.n
      have hmk := Lib.hid hmem
      have qy := hla.2 y hmem
      have CE := rencode_any y.h y.A m y.c y.l wr hym oky.h qy (by omega)
      have CW := fun V (hV : Below wr.heap.size wr V) => rwhole_any y.h y.A m y.c y.l V hym oky.h (Bs.step qy hV) oky.y (by omega)
      have HYM := Lib.hid hym
      obtain ⟨bb, off, rfl, e0, e1, e2, e3, e4, e5, e6, e7, e8⟩ := KE.out _ hb.out
      clear hy hmem hlt hla hym oky qy
      obtain ⟨qm, hqm⟩ : ∃ q, maya y.h y.l = q := ⟨_, rfl⟩
      cases qm with
      | false =>
        have e1' : encAE y.h y.l = 1 := by simp [encAE, hqm]
        have e2' : encA y.h y.l = [] := by simp [encA, hqm]
        rw [e1', e2'] at CE
        obtain ⟨f1, f2⟩ := HNo.out (.inr (.inl (whs_no (x := con y) (List.mem_map.2 ⟨y, hmk.out, rfl⟩) (by show whl y.h y.l = false; rw [whl, hqm]; rfl))))
        have F1 := Lib.hid f1
        have F2 := Lib.hid f2
        clear e1' e2' hqm f1 f2 CW
        go_wp2_with fail
        refine CE.mono ?_
        rintro e Y2 ⟨A2, c2, rfl, -, u2⟩
        clear e0 e1 e2 e3 e4 e5 e6 e7 e8
        go_wp2
        go_ret2
        rw [F1.out, F2.out]
        exact ⟨none, 0, rfl, Own.nil _ _, hb.out.trans (u2.mono hb.out.size)⟩
      | true =>
        have e1' : encAE y.h y.l = 0 := by simp [encAE, hqm]
        have e2' : encA y.h y.l = ehd y.h ++ y.l := by simp [encA, hqm]
        have hle : (ehd y.h ++ y.l).length = 20 + m := by rw [List.length_append, ehd_length, HYM.out]
        rw [e1', e2', hle] at CE
        have hm1380 := (may_len (x := con y) hqm).1
        have hm2 : m ≤ 1380 := by rw [← HYM.out]; exact hm1380
        have HLE := Lib.hid hle
        clear e1' e2' hqm hle hm1380
        go_wp2_with fail
        refine CE.mono ?_
        rintro e Y2 ⟨A2, c2, rfl, o2, u2⟩
        clear e0 e1 e2 e3 e4 e5 e6 e7 e8 CE
        have CW2 := CW Y2 u2
        have HB2 : Hid (Below w.heap.size w Y2) := Lib.hid (hb.out.trans (u2.mono hb.out.size))
        obtain ⟨bb', off', hA', e0, e1, e2, e3, e4, e5, e6, e7, e8⟩ := KE.out _ HB2.out
        injection hA' with hA'
        injection hA' with q1 q2
        subst q1 q2
        obtain ⟨qw, hqw⟩ : ∃ q, whl y.h y.l = q := ⟨_, rfl⟩
        rw [hqw] at CW2
        cases qw with
        | false =>
          obtain ⟨f1, f2⟩ := HNo.out (.inr (.inl (whs_no (x := con y) (List.mem_map.2 ⟨y, hmk.out, rfl⟩) hqw)))
          have F1 := Lib.hid f1
          have F2 := Lib.hid f2
          clear hqw f1 f2 CW
          go_wp2_with fail
          refine CW2.mono ?_
          rintro e Y3 ⟨rfl, u3⟩
          clear e0 e1 e2 e3 e4 e5 e6 e7 e8
          go_wp2
          go_ret2
          rw [F1.out, F2.out]
          exact ⟨none, 0, rfl, Own.nil _ _, HB2.out.trans (u3.mono HB2.out.size)⟩
        | true =>
          have HM := Lib.hid hqw
          clear hqw CW
          go_wp2_with fail
          refine CW2.mono ?_
          rintro e Y3 ⟨rfl, u3⟩
          clear e0 e1 e2 e3 e4 e5 e6 e7 e8 CW2
          have u23 := u2.trans (u3.mono u2.size)
          have HB3 : Hid (Below w.heap.size w Y3) := Lib.hid (HB2.out.trans (u3.mono HB2.out.size))
          have hx2 : x ≤ 140000 := by have := hx.out.2; omega
          have q2 := Bs.step o2.bs u3
          obtain ⟨A4, c4, Y4, rY4, oY4, tY4⟩ := run_apn (P := Try.prog) Y3 w.heap.size 26 26 5 .u8 i0 _ 1 Try.underlying26 hi0 hz0 hz1 hz2 rfl _ _ _ (Own.step ho.out u23) _ A2 c2 _ q2 x (20 + m) hx.out.1 HLE.out (by unfold maxLen; omega) (by omega) HB3.out.size
          have HB4 : Hid (Below w.heap.size w Y4) := Lib.hid (HB3.out.trans tY4)
          have HO4 := Lib.hid oY4
          have HEC : Hid (ecs (cons (L.take (j + 1))) = ecs (cons (L.take j)) ++ (ehd y.h ++ y.l)) := Lib.hid (by rw [HV.out, cons_snoc, ecs_snoc]; rfl)
          clear u2 u3 u23 q2 o2 tY4 oY4 KE
          go_wp2_with (at_builtin; refine wpList_runb _ rfl (.tmp 33) (.tmp 34) 26 rfl rfl rfl rY4 ?_)
          go_roundg gf
          case measure => omega
          case rel => exact ⟨j + 1, x + (20 + m), A4, c4, rfl, by go_num, Lib.hid (by omega), Lib.hid ⟨by rw [HEC.out, List.length_append, hx.out.1, HLE.out], by have := hx.out.2; omega⟩, Lib.hid (by rw [HEC.out]; exact HO4.out), Lib.hid (by rw [HV.out]; intro z hz; rcases List.mem_append.1 hz with q | q; exact hm.out z q; obtain rfl := List.mem_singleton.1 q; exact HM.out), HB4⟩
end Go.Proofs.Ytefbpaebimagaaa
