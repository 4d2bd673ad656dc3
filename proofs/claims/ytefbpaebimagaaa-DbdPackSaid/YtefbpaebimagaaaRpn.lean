/-
  The contract of the reference's Pack. No statement is proved here; no conditions.
-/
import Derived.Test.YtefbpaebimagaaaPn
import Derived.Test.YtefbpaebimagaaaRWe
namespace Go.Proofs.Ytefbpaebimagaaa
open Go.RowKit Go.Joins

theorem aflat_cons (x : Ae) (L : List Ae) : aflat (x :: L) = acs x ++ aflat L := by simp [aflat]
theorem aflat_drop : ∀ (i : Nat) (L : List Ae), aflat (L.drop i) = (aflat L).drop (i * 9)
  | 0, L => by simp
  | i + 1, [] => by simp [aflat]
  | i + 1, x :: L => by
    rw [List.drop_succ_cons, aflat_drop i L, aflat_cons, show (i + 1) * 9 = 9 + i * 9 by omega, ← List.drop_drop, List.drop_left' (acs_len x)]
theorem aflat_take : ∀ (i : Nat) (L : List Ae), aflat (L.take i) = (aflat L).take (i * 9)
  | 0, L => by simp [aflat]
  | i + 1, [] => by simp [aflat]
  | i + 1, x :: L => by
    rw [List.take_succ_cons, aflat_cons, aflat_take i L, aflat_cons, show (i + 1) * 9 = 9 + i * 9 by omega, List.take_add, List.take_left' (acs_len x), List.drop_left' (acs_len x)]
/-- A piece of a row. -/
theorem Arr.sub {w : World} {b off : Nat} {L : List Ae} (h : Arr w (some ⟨b, off, none⟩) L) (i m : Nat) : Arr w (some ⟨b, off + i * 9, none⟩) ((L.drop i).take m) := by
  refine ⟨fun hne => ?_, fun x hx => h.2 x (List.mem_of_mem_drop (List.mem_of_mem_take hx))⟩
  have hne2 : aflat L ≠ [] := by
    intro q
    apply hne
    rw [aflat_take, aflat_drop, q]
    simp
  obtain ⟨b', off', e, _, hlt, hc⟩ := h.1 hne2
  injection e with e
  injection e with e1 e2
  subst e1 e2
  refine ⟨b, off + i * 9, rfl, trivial, hlt, fun j u hu => ?_⟩
  rw [aflat_take, aflat_drop] at hu
  have hu2 : (aflat L)[i * 9 + j]? = some u := by
    rw [List.getElem?_take] at hu
    split at hu
    · rwa [List.getElem?_drop] at hu
    · cases hu
  have := hc (i * 9 + j) u hu2
  rwa [← Nat.add_assoc] at this
/-- What holds between two rounds. -/
structure RP (w : World) (b off c : Nat) (L : List Ae) (i fr q : Nat) (u : Int) (Ao : Option Addr) (co : Nat) (wx : World) : Prop where
  ex : ∃ (rs : List Sr), rs.length = q ∧ Ob 51 1 (w.heap.size ≤ ·) wx Ao co (rflt rs) ∧ (∀ r ∈ rs, Arr w r.A r.L) ∧ pst (cons (L.take i)) = (rs.map (fun r => cons r.L), cons ((L.drop fr).take (i - fr)), u)
  who : whs (cons (L.take i)) = true
  bel : Below w.heap.size w wx
  num : q ≤ i ∧ fr ≤ i
theorem cons_piece {L : List Ae} {fr i : Nat} (h : i < L.length) (hf : fr ≤ i) : cons ((L.drop fr).take (i + 1 - fr)) = cons ((L.drop fr).take (i - fr)) ++ [con (ag L i)] := by
  have h2 : i - fr < (L.drop fr).length := by rw [List.length_drop]; omega
  rw [show i + 1 - fr = (i - fr) + 1 by omega, cons_take1 h2, ag_eq h2, ag_eq h, List.getElem_drop]
  congr 4
  omega
theorem PO.good2 {C : List Ct} {w w' : World} {A : Option Addr} {c m : Nat} {rs : List Sr} {S : Nat → Prop} (h : whs C = true) (hm : rs.length = m) (hrs : rs.map (fun r : Sr => cons r.L) = pkL C) (hr : Ob 51 1 S w' A c (rflt rs)) (ha : ∀ r ∈ rs, Arr w r.A r.L) (hb : Below w.heap.size w w') : PO C w (.returned (.tuple #[.slice A m c, .int .i64 0])) w' := by
  have e1 : pkE C = 0 := by rw [pkE, h]; rfl
  exact ⟨A, c, m, rs, by rw [e1], hm, hrs, Ob.rd hr, fun r h => Arr.step (ha r h) hb, hb⟩
set_option maxRecDepth 100000 in
set_option maxHeartbeats 8000000 in
theorem rpack_any (A : Option Addr) (n c : Nat) (L : List Ae) (w : World) (hn : L.length = n) (ok : Okas (cons L)) (hr : Arr w A L) (hc : n ≤ c) (hll : n ≤ 1000) :
    Calls Try.prog 32 #[.slice A n c] w fun e w' => PO (cons L) w e w' := by
  have O0 : Ob 51 1 (w.heap.size ≤ ·) (w.alloc (.cells #[] 51)) (some ⟨w.heap.size, 0, none⟩) 0 (rflt []) := .inr ⟨w.heap.size, Nat.le_refl _, rfl, Rg.lit w 51 1 0 #[] [] rfl rfl (by simp [maxLen])⟩
  have B0 : Below w.heap.size w (w.alloc (.cells #[] 51)) := below_alloc1 _ _
  by_cases h0 : n = 0
  · subst h0
    obtain rfl : L = [] := List.eq_nil_of_length_eq_zero hn
    have O1 := Lib.hid O0
    have B1 := Lib.hid B0
    clear O0 B0 ok hr hn hc
    go_enter Try.func32, Try.ntmps32
    go_wp2_with fail
    go_loopg [4, 5, 6, 7] 0 (fun gf v4 v5 v6 v7 wx => v4 = .slice (some ⟨w.heap.size, 0, none⟩) 0 0 ∧ v5 = .int .i64 0 ∧ v6 = .int .i64 0 ∧ v7 = .int .i64 0 ∧ Hid (wx = w.alloc (.cells #[] 51)))
    case atStart => exact ⟨rfl, rfl, rfl, rfl, Lib.hid rfl⟩
    case round =>
      obtain ⟨rfl, rfl, rfl, rfl, hx⟩ := hrel
      go_wp2
      go_ret2
      rw [hx.out]
      exact PO.good2 rfl rfl rfl O1.out (fun r hr => (by cases hr)) B1.out
  obtain ⟨b, off, rfl, -⟩ := hr.1 (by intro q; have := congrArg List.length q; rw [aflat_length] at this; simp at this; omega)
  have HN := Lib.hid hn
  have HR := Lib.hid hr
  have OK := Lib.hid ok
  have hJ0 : Hid (RP w b off c L 0 0 0 0 (some ⟨w.heap.size, 0, none⟩) 0 (w.alloc (.cells #[] 51))) := Lib.hid ⟨⟨[], rfl, O0, fun r hr => (by cases hr), rfl⟩, rfl, B0, ⟨Nat.le_refl _, Nat.le_refl _⟩⟩
  obtain ⟨i0, hi0, hz0, hz1, hz2⟩ := info_of infoR
  clear hn hr ok O0 B0
  go_enter Try.func32, Try.ntmps32
  go_wp2_with fail
  go_loopg [4, 5, 6, 7] n (fun gf v4 v5 v6 v7 wx => ∃ (i fr q : Nat) (u : Int) (Ao : Option Addr) (co : Nat), v4 = .slice Ao q co ∧ v5 = .int .i64 (fr : Int) ∧ v6 = .int .i64 u ∧ v7 = .int .i64 (i : Int) ∧ Hid (gf + i = n) ∧ Hid (RP w b off c L i fr q u Ao co wx))
  case atStart => exact ⟨0, 0, 0, 0, _, _, rfl, rfl, rfl, rfl, Lib.hid (by omega), hJ0⟩
  case round =>
    obtain ⟨i, fr, q, u, Ao, co, rfl, rfl, rfl, rfl, hk, hJ⟩ := hrel
    have hk' := hk.out
    obtain ⟨⟨rs, hq, hrs, har, hps⟩, hwho, hbel, hq1, hfr⟩ := hJ.out
    have hpk := pkd_pst _ hwho
    rw [hps] at hpk
    have hin : i ≤ L.length := by rw [HN.out]; omega
    have hlen : (cons ((L.drop fr).take (i - fr))).length = i - fr := by rw [cons_length, List.length_take, List.length_drop]; omega
    have hi50 : i - fr ≤ 50 := by have := hpk.few; simp only at this; omega
    have hu : 0 ≤ u ∧ u ≤ 1472 := by
      have h1 := hpk.len
      have h2 := hpk.big
      simp only at h1 h2
      omega
    have hu0 : i = fr → u = 0 := fun h => by
      have h1 := hpk.len
      simp only [h, Nat.sub_self, List.take_zero] at h1
      simpa [cons, ecs] using h1
    have HU0 := Lib.hid hu0
    have HQ := Lib.hid hq
    have HRS := Lib.hid hrs
    have HAR := Lib.hid har
    have HPS := Lib.hid hps
    have HW := Lib.hid hwho
    have HB := Lib.hid hbel
    have HLN := Lib.hid hlen
    obtain ⟨hu1, hu2⟩ := hu
    clear hJ hJ0 hq hrs har hps hwho hbel hpk hlen hu0 hin
    cases gk with
    | zero =>
      have lt0 : decide ((i : Int) < (n : Int)) = false := by simp; omega
      have lt1 : decide (i < n) = false := by simp; omega
      have ht : L.take i = L := List.take_of_length_le (by rw [HN.out]; omega)
      rw [ht] at HW HPS
      obtain rfl : i = n := by omega
      by_cases h9 : (i : Int) > (fr : Int)
      · have HF : Hid ((rs ++ [(⟨some ⟨b, off + fr * 9, none⟩, c - fr, (L.drop fr).take (i - fr)⟩ : Sr)]).map (fun r : Sr => cons r.L) = pkL (cons L)) := Lib.hid (by
          rw [pkL, if_pos HW.out, HPS.out, if_neg (by show ¬ cons _ = []; intro h; have h2 := congrArg List.length h; rw [HLN.out] at h2; simp at h2; omega)]
          simp)
        have hs1 : ((L.drop fr).take (i - fr)).length = i - fr := by have := HLN.out; rwa [cons_length] at this
        obtain ⟨n0, hn0⟩ : ∃ n0, wr.heap.size = n0 := ⟨_, rfl⟩
        obtain ⟨g7, c7, W7, r7, rg7, kp7, hg7⟩ := app_oneA (P := Try.prog) (S := (w.heap.size ≤ ·)) Try.underlying58 hi0 hz0 hz1 hz2 rfl (by decide) (by decide) HRS.out (n := q) (by rw [rflt_length, HQ.out]) (rcs ⟨some ⟨b, off + fr * 9, none⟩, c - fr, (L.drop fr).take (i - fr)⟩) rfl (rcs_one _) (by omega) n0 hn0
        rw [show (rcs ⟨some ⟨b, off + fr * 9, none⟩, c - fr, (L.drop fr).take (i - fr)⟩).toArray = #[.slice (some ⟨b, off + fr * 9, none⟩) (i - fr) (c - fr)] from by simp [hs1]] at r7
        have HR7 : Hid (Ob 51 1 (w.heap.size ≤ ·) W7 (some ⟨g7, 0, none⟩) c7 (rflt (rs ++ [(⟨some ⟨b, off + fr * 9, none⟩, c - fr, (L.drop fr).take (i - fr)⟩ : Sr)]))) := Lib.hid (.inr ⟨g7, (by rcases hg7 with h | h; exact h; have := HB.out.size; omega), rfl, by rw [rflt_snoc]; exact rg7⟩)
        have HB7 : Hid (Below w.heap.size w W7) := Lib.hid (HB.out.trans (kp7.below (fun j hj => HRS.out.at hj) HB.out.size))
        have HA7 : Hid (∀ r ∈ rs ++ [(⟨some ⟨b, off + fr * 9, none⟩, c - fr, (L.drop fr).take (i - fr)⟩ : Sr)], Arr w r.A r.L) := Lib.hid (fun r hr => by
          rcases List.mem_append.1 hr with h | h
          · exact HAR.out r h
          · obtain rfl := List.mem_singleton.1 h
            exact HR.out.sub fr (i - fr))
        have hfn : fr ≤ c := by omega
        have hfi : (fr : Int) ≤ (i : Int) := by omega
        have hne : ¬ (c = fr) := by omega
        clear rg7 kp7 hg7 hs1 ht
        go_wp2_with (at_builtin; refine wpList_runb _ rfl (.tmp 61) (.tmp 65) 58 rfl rfl rfl r7 ?_)
        go_ret2
        exact PO.good2 HW.out (by rw [List.length_append, HQ.out]; rfl) HF.out HR7.out HA7.out HB7.out
      · have HF : Hid (rs.map (fun r : Sr => cons r.L) = pkL (cons L)) := Lib.hid (by
          have e0 : cons ((L.drop fr).take (i - fr)) = [] := List.eq_nil_of_length_eq_zero (by rw [HLN.out]; omega)
          rw [pkL, if_pos HW.out, HPS.out, if_pos e0])
        clear ht
        go_wp2
        go_ret2
        exact PO.good2 HW.out HQ.out HF.out HRS.out HAR.out HB.out
    | succ gf =>
      have hkl : i < L.length := by rw [HN.out]; omega
      have lt0 : (i : Int) < (n : Int) := by omega
      have hw1 : (i : Int) + 1 ≤ 10000 := by omega
      obtain ⟨b', off', hA, _, e0, e1, e2, e3, e4, e5, e6, e7, e8⟩ := ard_at (Arr.step HR.out HB.out).1 hkl
      injection hA with hA
      injection hA with q1 q2
      subst q1 q2
      have okx := okas_at OK.out (ag_mem hkl)
      have HCT : Hid (cons (L.take (i + 1)) = cons (L.take i) ++ [con (ag L i)]) := Lib.hid (cons_take1 hkl)
      have HCS : Hid (cons ((L.drop fr).take (i + 1 - fr)) = cons ((L.drop fr).take (i - fr)) ++ [con (ag L i)]) := Lib.hid (cons_piece hkl hfr)
      have HC1 : Hid (cons ((L.drop i).take (i + 1 - i)) = [con (ag L i)]) := Lib.hid (by rw [cons_piece hkl (Nat.le_refl _)]; simp [cons])
      have hmem := ag_mem hkl
      have HBT : Hid (∀ V, Below w.heap.size w V → Bt V (ag L i).A (ag L i).l) := Lib.hid (fun V hV => (Arr.step HR.out hV).2 _ hmem)
      have HNW : Hid (wh (con (ag L i)) = false → whs (cons L) = false) := Lib.hid (fun h => whs_no (List.mem_map.2 ⟨_, hmem, rfl⟩) h)
      have KE : Hid (∀ V, Below w.heap.size w V → V.cell? ⟨b, off + i * 9 + 7, none⟩ = some (.int .i64 (ag L i).h.n)) := Lib.hid (fun V hV => by
        obtain ⟨b2, off2, hA2, _, _, _, _, _, _, _, _, h7, _⟩ := ard_at (Arr.step HR.out hV).1 hkl
        injection hA2 with hA2
        injection hA2 with q1 q2
        subst q1 q2
        exact h7)
      obtain ⟨y, hy⟩ : ∃ y, (ag L i).h = y := ⟨_, rfl⟩
      obtain ⟨B, hB⟩ : ∃ B, (ag L i).l = B := ⟨_, rfl⟩
      have hcon : con (ag L i) = (y, B) := by rw [con, hy, hB]
      rw [hcon] at okx HCT HNW HCS HC1
      rw [hy] at e0 e1 e2 e3 e4 e5 e6 e7 KE
      rw [hB] at e8 HBT
      obtain ⟨mB, hmB⟩ : ∃ mB, B.length = mB := ⟨_, rfl⟩
      rw [hmB] at e8
      generalize (ag L i).A = Ab at *
      generalize (ag L i).c = d at *
      have hmB1 : mB ≤ 1600 := by have := okx.n; simp only at this; omega
      have HMB := Lib.hid hmB
      have HOK := Lib.hid okx
      clear hkl hmem hy hB hcon okx hmB
      have CW := rwhole_any y Ab mB d B wr HMB.out HOK.out.h (HBT.out _ HB.out) HOK.out.y (by omega)
      go_wp2_with fail
      refine CW.mono ?_
      rintro e W2 ⟨rfl, u2⟩
      have T2 := Lib.hid u2
      have TB2 := Lib.hid (HB.out.trans (u2.mono HB.out.size))
      clear e0 e1 e2 e3 e4 e5 e6 e7 e8 CW u2
      have x7 := KE.out _ TB2.out
      cases hw : whl y B with
      | false =>
        have HF := Lib.hid (HNW.out hw)
        clear hw
        go_wp2
        go_ret2
        exact PO.bad HF.out TB2.out
      | true =>
        have hx : wh (y, B) = true := hw
        obtain ⟨x1, x2, x3⟩ := may_len (wh_may hx)
        have HXN : Hid (20 ≤ y.n ∧ y.n ≤ 1400) := Lib.hid (by simp only at x1 x3; omega)
        obtain ⟨hn20, hn14⟩ := HXN.out
        have HWS : Hid (whs (cons (L.take (i + 1))) = true) := Lib.hid (by
          rw [HCT.out]
          exact whs_app HW.out ((whs_iff _).2 fun z hz => by obtain rfl := List.mem_singleton.1 hz; exact hx))
        have HPT : Hid (pst (cons (L.take (i + 1))) = pstep (rs.map (fun r => cons r.L), cons ((L.drop fr).take (i - fr)), u) (y, B)) := Lib.hid (by rw [HCT.out, pst_snoc, HPS.out])
        clear hw hx x1 x2 x3 HNW
        by_cases hif : i = fr
        · have hu3 := HU0.out hif
          subst hif hu3
          have HST : Hid (pst (cons (L.take (i + 1))) = (rs.map (fun r : Sr => cons r.L), cons ((L.drop i).take (i + 1 - i)), y.n)) := Lib.hid (by
            rw [HPT.out, pstep, if_neg (by simp only [Nat.sub_self, List.take_zero, cons, List.map_nil, List.length_nil]; omega), HC1.out]
            simp [cons])
          have HR2 := Lib.hid (Ob.below HRS.out T2.out)
          go_wp2
          go_roundg gf
          case measure => omega
          case rel => exact ⟨i + 1, i, q, y.n, Ao, co, rfl, rfl, by simp, by go_num, Lib.hid (by omega), Lib.hid ⟨⟨rs, HQ.out, HR2.out, HAR.out, HST.out⟩, HWS.out, TB2.out, by omega, by omega⟩⟩
        have g : (i : Int) > (fr : Int) := by omega
        by_cases hbig : u + y.n > 1472
        · -- it does not fit
          have HST : Hid (pst (cons (L.take (i + 1))) = ((rs ++ [(⟨some ⟨b, off + fr * 9, none⟩, c - fr, (L.drop fr).take (i - fr)⟩ : Sr)]).map (fun r : Sr => cons r.L), cons ((L.drop i).take (i + 1 - i)), y.n)) := Lib.hid (by
            rw [HPT.out, pstep, if_pos (.inr (by show 1472 < u + y.n; omega)), HC1.out]
            simp)
          have hs1 : ((L.drop fr).take (i - fr)).length = i - fr := by have := HLN.out; rwa [cons_length] at this
          obtain ⟨n0, hn0⟩ : ∃ n0, W2.heap.size = n0 := ⟨_, rfl⟩
          obtain ⟨g7, c7, W7, r7, rg7, kp7, hg7⟩ := app_oneA (P := Try.prog) (S := (w.heap.size ≤ ·)) Try.underlying58 hi0 hz0 hz1 hz2 rfl (by decide) (by decide) (Ob.below HRS.out T2.out) (n := q) (by rw [rflt_length, HQ.out]) (rcs ⟨some ⟨b, off + fr * 9, none⟩, c - fr, (L.drop fr).take (i - fr)⟩) rfl (rcs_one _) (by omega) n0 hn0
          rw [show (rcs ⟨some ⟨b, off + fr * 9, none⟩, c - fr, (L.drop fr).take (i - fr)⟩).toArray = #[.slice (some ⟨b, off + fr * 9, none⟩) (i - fr) (c - fr)] from by simp [hs1]] at r7
          have HR7 : Hid (Ob 51 1 (w.heap.size ≤ ·) W7 (some ⟨g7, 0, none⟩) c7 (rflt (rs ++ [(⟨some ⟨b, off + fr * 9, none⟩, c - fr, (L.drop fr).take (i - fr)⟩ : Sr)]))) := Lib.hid (.inr ⟨g7, (by rcases hg7 with h | h; exact h; have := TB2.out.size; omega), rfl, by rw [rflt_snoc]; exact rg7⟩)
          have HB7 : Hid (Below w.heap.size w W7) := Lib.hid (TB2.out.trans (kp7.below (fun j hj => HRS.out.at hj) TB2.out.size))
          have HA7 : Hid (∀ r ∈ rs ++ [(⟨some ⟨b, off + fr * 9, none⟩, c - fr, (L.drop fr).take (i - fr)⟩ : Sr)], Arr w r.A r.L) := Lib.hid (fun r hr => by
            rcases List.mem_append.1 hr with h | h
            · exact HAR.out r h
            · obtain rfl := List.mem_singleton.1 h
              exact HR.out.sub fr (i - fr))
          have hfn : fr ≤ c := by omega
          have hfi : (fr : Int) ≤ (i : Int) := by omega
          have hic : (i : Int) ≤ (c : Int) := by omega
          have hne : ¬ (c = fr) := by omega
          have z7 := KE.out _ HB7.out
          clear rg7 kp7 hg7 hs1
          go_wp2_with (at_builtin; refine wpList_runb _ rfl (.tmp 41) (.tmp 46) 58 rfl rfl rfl r7 ?_)
          go_roundg gf
          case measure => omega
          case rel => exact ⟨i + 1, i, q + 1, y.n, some ⟨g7, 0, none⟩, c7, rfl, rfl, by simp, by go_num, Lib.hid (by omega), Lib.hid ⟨⟨rs ++ [(⟨some ⟨b, off + fr * 9, none⟩, c - fr, (L.drop fr).take (i - fr)⟩ : Sr)], by rw [List.length_append, HQ.out]; rfl, HR7.out, HA7.out, HST.out⟩, HWS.out, HB7.out, by omega, by omega⟩⟩
        by_cases h50 : (i : Int) - (fr : Int) = 50
        · have hp50 : i - fr = 50 := by omega
          have HST : Hid (pst (cons (L.take (i + 1))) = ((rs ++ [(⟨some ⟨b, off + fr * 9, none⟩, c - fr, (L.drop fr).take (i - fr)⟩ : Sr)]).map (fun r : Sr => cons r.L), cons ((L.drop i).take (i + 1 - i)), y.n)) := Lib.hid (by
            rw [HPT.out, pstep, if_pos (.inl (by show (cons _).length = 50; rw [HLN.out]; omega)), HC1.out]
            simp)
          have hs1 : ((L.drop fr).take (i - fr)).length = i - fr := by have := HLN.out; rwa [cons_length] at this
          obtain ⟨n0, hn0⟩ : ∃ n0, W2.heap.size = n0 := ⟨_, rfl⟩
          obtain ⟨g7, c7, W7, r7, rg7, kp7, hg7⟩ := app_oneA (P := Try.prog) (S := (w.heap.size ≤ ·)) Try.underlying58 hi0 hz0 hz1 hz2 rfl (by decide) (by decide) (Ob.below HRS.out T2.out) (n := q) (by rw [rflt_length, HQ.out]) (rcs ⟨some ⟨b, off + fr * 9, none⟩, c - fr, (L.drop fr).take (i - fr)⟩) rfl (rcs_one _) (by omega) n0 hn0
          rw [show (rcs ⟨some ⟨b, off + fr * 9, none⟩, c - fr, (L.drop fr).take (i - fr)⟩).toArray = #[.slice (some ⟨b, off + fr * 9, none⟩) 50 (c - fr)] from by simp [hs1]; omega] at r7
          have HR7 : Hid (Ob 51 1 (w.heap.size ≤ ·) W7 (some ⟨g7, 0, none⟩) c7 (rflt (rs ++ [(⟨some ⟨b, off + fr * 9, none⟩, c - fr, (L.drop fr).take (i - fr)⟩ : Sr)]))) := Lib.hid (.inr ⟨g7, (by rcases hg7 with h | h; exact h; have := TB2.out.size; omega), rfl, by rw [rflt_snoc]; exact rg7⟩)
          have HB7 : Hid (Below w.heap.size w W7) := Lib.hid (TB2.out.trans (kp7.below (fun j hj => HRS.out.at hj) TB2.out.size))
          have HA7 : Hid (∀ r ∈ rs ++ [(⟨some ⟨b, off + fr * 9, none⟩, c - fr, (L.drop fr).take (i - fr)⟩ : Sr)], Arr w r.A r.L) := Lib.hid (fun r hr => by
            rcases List.mem_append.1 hr with h | h
            · exact HAR.out r h
            · obtain rfl := List.mem_singleton.1 h
              exact HR.out.sub fr (i - fr))
          have hfn : fr ≤ c := by omega
          have hfi : (fr : Int) ≤ (i : Int) := by omega
          have hic : (i : Int) ≤ (c : Int) := by omega
          have hne : ¬ (c = fr) := by omega
          have z7 := KE.out _ HB7.out
          clear rg7 kp7 hg7 hs1
          go_wp2_with (at_builtin; refine wpList_runb _ rfl (.tmp 41) (.tmp 46) 58 rfl rfl rfl r7 ?_)
          go_roundg gf
          case measure => omega
          case rel => exact ⟨i + 1, i, q + 1, y.n, some ⟨g7, 0, none⟩, c7, rfl, rfl, by simp, by go_num, Lib.hid (by omega), Lib.hid ⟨⟨rs ++ [(⟨some ⟨b, off + fr * 9, none⟩, c - fr, (L.drop fr).take (i - fr)⟩ : Sr)], by rw [List.length_append, HQ.out]; rfl, HR7.out, HA7.out, HST.out⟩, HWS.out, HB7.out, by omega, by omega⟩⟩
        · have h50b : ((i : Int) - (fr : Int) == 50) = false := by simpa using h50
          have HST : Hid (pst (cons (L.take (i + 1))) = (rs.map (fun r : Sr => cons r.L), cons ((L.drop fr).take (i + 1 - fr)), u + y.n)) := Lib.hid (by
            rw [HPT.out, pstep, if_neg (by simp only [HLN.out]; omega), HCS.out])
          have HR2 := Lib.hid (Ob.below HRS.out T2.out)
          go_wp2
          go_roundg gf
          case measure => omega
          case rel => exact ⟨i + 1, fr, q, u + y.n, Ao, co, rfl, rfl, by go_num, by go_num, Lib.hid (by omega), Lib.hid ⟨⟨rs, HQ.out, HR2.out, HAR.out, HST.out⟩, HWS.out, TB2.out, by omega, by omega⟩⟩
end Go.Proofs.Ytefbpaebimagaaa
