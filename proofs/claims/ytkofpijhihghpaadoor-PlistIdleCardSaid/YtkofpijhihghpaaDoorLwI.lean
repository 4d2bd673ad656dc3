/-
  The walk of the law PlistIdle. No statement is proved here; no conditions.
-/
import Derived.Test.YtkofpijhihghpaaDoorIdp
import Derived.Test.YtkofpijhihghpaaDoorAlv
import Derived.Test.YtkofpijhihghpaaDoorRx
namespace Go.Proofs.YtkofpijhihghpaaDoor
open Go.RowKit Go.Joins

/-- A copy of a list, made by 'append'. -/
theorem own_copy {w : World} {A0 : Option Addr} {c n : Nat} {l : List Ru} (hl : Rr w A0 l) (hn : l.length = n) (hll : n ≤ 10000) (n0 : Nat) (hn0 : w.heap.size = n0) :
    ∃ A' c' w', (Builtin.append_ #[42, 42] 42 #[.slice (some ⟨n0, 0, none⟩) 0 0, .slice A0 n c]).run Tryd.prog (w.alloc (.cells #[] 26)) = .ok (.slice A' n c') w' ∧ Sl w' A' c' l ∧ Below w.heap.size w w' := by
  subst hn0 hn
  have b0 := below_alloc1 w (.cells #[] 26)
  have o0 := Ob.lit0 w 26 6
  obtain ⟨ti, hi5, hz5, hsz5, hby5⟩ := info26
  rcases Nat.eq_zero_or_pos l.length with q | q
  · have hl0 : l = [] := List.eq_nil_of_length_eq_zero q
    subst hl0
    refine ⟨_, 0, _, app_zero (P := Tryd.prog) _ 42 42 26 ti Tryd.underlying42 hi5 _ 0 0 A0 c (by omega) (fun h => by cases h), ?_, b0⟩
    exact Ob.sl (l := []) o0
  · obtain ⟨g', c', W3, r1, r2, r3, r4⟩ := app_gen (P := Tryd.prog) Tryd.underlying42 hi5 hz5 hsz5 hby5 rfl (by omega) (by omega) o0 (n := 0) (by simp) A0 c l.length (rflat l) (hl.step b0) (by rw [rflat_length]) (rflat_one _) q (by omega)
    rw [Nat.zero_add] at r1
    refine ⟨_, c', W3, r1, ?_, b0.trans (r3.below (fun _ h => h) b0.size)⟩
    rw [List.nil_append] at r2
    exact Ob.sl (S := fun _ => True) (.inr ⟨g', trivial, rfl, r2⟩)
theorem nd_get {D : List Int} {i : Nat} (h : i < D.length) : D.getD i 0 = D[i] := by simp [List.getD, h]
set_option maxRecDepth 100000 in
set_option maxHeartbeats 2000000 in
theorem idle_walk (A0 : Option Addr) (c : Nat) (l : List Ru) (B : Nat) (M : Int) (w : World) (ht : Tab w) (hl : Sl w A0 c l) (hA : ∀ x ∈ l, x.A < 4294967296) (hB : B < 4294967296) : Calls Tryd.prog 6 #[.slice A0 l.length c, pf B M] w fun e w' => e = .returned (.bool true) ∧ Below w.heap.size w w' := by
  obtain ⟨W0, hW0⟩ : ∃ W0, w.alloc (.cells #[.int .u32 (B : Int), .int .i64 M] 24) = W0 := ⟨_, rfl⟩
  have b0 : Below w.heap.size w W0 := by rw [← hW0]; exact below_alloc1 _ _
  have HB0 := Lib.hid b0
  have HT := Lib.hid (ht.step b0)
  have KQ : Hid (∀ V, Below W0.heap.size W0 V → V.cell? ⟨w.heap.size, 0, none⟩ = some (.int .u32 (B : Int)) ∧ V.cell? ⟨w.heap.size, 1, none⟩ = some (.int .i64 M)) := Lib.hid (fun V hV => pb_new hW0 hV)
  have HL : Hid (∀ V, Below W0.heap.size W0 V → Sl V A0 c l) := Lib.hid (fun V hV => (hl.step b0).step hV)
  obtain ⟨ln, hln⟩ : ∃ ln, l.length = ln := ⟨_, rfl⟩
  have HLN := Lib.hid hln
  have hmx := hl.max
  have hcp := hl.cap
  rw [hln] at hcp
  rw [hln]
  clear b0 ht hl
  by_cases h1 : 210 < ln
  · have h2 : (ln : Int) > 210 := by omega
    go_enter Tryd.func6, Tryd.ntmps6
    go_wp2_with fail
    refine (alive_any _ HT.out).mono ?_
    rintro e W1 ⟨rfl, hb1⟩
    go_wp2
    go_ret
    exact ⟨rfl, HB0.out.trans (hb1.mono HB0.out.size)⟩
  have h2 : ¬ ((ln : Int) > 210) := by omega
  have cR : ∀ W, Rr W A0 l → _ := fun W hW => rows_any A0 c l W hW (by omega)
  have cM : ∀ W A' c', Rr W A' l → _ := fun W A' c' hW => mayall_any A' c' l W hW (by omega) hA
  have cI : ∀ W, Sl W A0 c l → _ := fun W hW => idle_any A0 c l W hW (by omega) hA
  have cV : ∀ W, Sl W A0 c l → _ := fun W hW => eval_any A0 c l B M W hW.rr (by omega) hA hB
  rw [hln] at cR cM cI cV
  have HA := Lib.hid hA
  clear hln hA
  obtain ⟨MA, hMA⟩ : ∃ v, mayl none l = v := ⟨_, rfl⟩
  rw [hMA] at cM
  have HMA := Lib.hid hMA
  clear hMA
  go_enter Tryd.func6, Tryd.ntmps6
  go_wp2_with fail
  refine (cR _ (HL.out _ (Below.refl _ _)).rr).mono ?_
  rintro e V1 ⟨A1, c1, rfl, s1, hv1⟩
  clear hW0
  rw [HLN.out]
  go_wp2_with fail
  refine (cM _ _ _ s1.rr).mono ?_
  rintro e V2 ⟨rfl, hv2⟩
  replace hv2 := hv1.trans (hv2.mono hv1.size)
  clear s1 hv1 cR cM
  cases MA with
  | false =>
    go_wp2_with fail
    refine (alive_any _ (HT.out.step hv2)).mono ?_
    rintro e V3 ⟨rfl, hv3⟩
    go_wp2
    go_ret
    exact ⟨rfl, HB0.out.trans ((hv2.trans (hv3.mono hv2.size)).mono HB0.out.size)⟩
  | true =>
    have hLs : Ls l := ((mayl_iff l none).1 HMA.out).1
    have hasc := idk_asc hLs (k := l.length) (Nat.le_refl _)
    have hmem : ∀ d ∈ idk l l.length, ∃ x ∈ l, x.s = d := fun d hd => by
      obtain ⟨i, a1, _, a3⟩ := idk_mem hd
      exact ⟨gr l i, by rw [gr_eq a1]; exact List.getElem_mem _, a3.symm⟩
    have hev := evl_idle hLs B M
    have hdl := idk_len l l.length
    rw [HLN.out] at hasc hmem hev hdl
    obtain ⟨D, hD⟩ : ∃ D, idk l ln = D := ⟨_, rfl⟩
    rw [hD] at cI hasc hmem hev hdl
    clear hD
    obtain ⟨nd, hnd⟩ : ∃ nd, D.length = nd := ⟨_, rfl⟩
    rw [hnd] at cI hdl
    have HND := Lib.hid hnd
    have HLS := Lib.hid hLs
    have HASC := Lib.hid hasc
    have HMEM := Lib.hid hmem
    have HEV := Lib.hid hev
    clear HMA hLs hasc hmem hev hnd
    go_wp2_with fail
    refine (cI _ (HL.out _ hv2)).mono ?_
    rintro e V3 ⟨A3, c3, rfl, r3, hv3⟩
    replace hv3 := hv2.trans (hv3.mono hv2.size)
    clear cI hv2
    obtain ⟨m3, hm3⟩ : ∃ m, V3.heap.size = m := ⟨_, rfl⟩
    obtain ⟨A4, c4, V4, q1, q2, q3⟩ := own_copy (c := c) (HL.out _ hv3).rr HLN.out (by omega) m3 hm3
    have hv4 := hv3.trans (q3.mono hv3.size)
    have HR4 : Hid (∀ V, Below V4.heap.size V4 V → Rd (fun _ => True) V A3 (its D)) := Lib.hid (fun V hV => (r3.keep q3.size (fun j _ hj => q3.block j hj)).keep hV.size (fun j _ hj => hV.block j hj))
    have HV4 := Lib.hid hv4
    have Q2 : Hid (Sl V4 A4 c4 (kp l (D.take 0))) := Lib.hid (by rw [List.take_zero, kp_nil]; exact q2)
    clear hv3 q2 q3 hv4 r3
    go_wp2_with (at_builtin; refine wpList_runb _ rfl (.tmp 26) (.tmp 27) 42 rfl rfl rfl q1 ?_)
    clear q1 hm3
    go_loopg [6, 7, 8] nd (fun gf v6 v7 v8 wx => ∃ (i n : Nat) (A' : Option Addr) (c' : Nat), v6 = .slice A' n c' ∧ v7 = .int .i64 (i : Int) ∧ Hid (gf + i = nd) ∧ Hid (n + i = ln) ∧ Hid ((kp l (D.take i)).length = n) ∧ Hid (Sl wx A' c' (kp l (D.take i))) ∧ Hid (Below V4.heap.size V4 wx))
    case atStart => exact ⟨0, ln, A4, c4, rfl, rfl, Lib.hid (by omega), Lib.hid (by omega), Lib.hid (by rw [List.take_zero, kp_nil]; exact HLN.out), Q2, Lib.hid (Below.refl _ _)⟩
    case round =>
      obtain ⟨i, n, A', c', rfl, rfl, hi, hni, hn, hs, hb⟩ := hrel
      have hi' := hi.out
      have hni' := hni.out
      clear Q2
      have T5 : Hid (Below W0.heap.size W0 wr) := Lib.hid (HV4.out.trans (hb.out.mono HV4.out.size))
      cases gk with
      | zero =>
        have e1 : i = nd := by omega
        have lt0 : decide ((i : Int) < (nd : Int)) = false := by simp; omega
        have lt1 : decide (i < nd) = false := by simp; omega
        have e2 : D.take i = D := List.take_of_length_le (by rw [HND.out]; omega)
        have hs2 := hs.out
        have hn2 := hn.out
        rw [e2] at hs2 hn2
        have hkA : ∀ x ∈ kp l D, x.A < 4294967296 := fun x hx => HA.out x ((List.mem_filter.1 hx).1)
        have cK : ∀ W, Rr W A' (kp l D) → _ := fun W hW => eval_any A' c' (kp l D) B M W hW (by omega) hkA hB
        rw [hn2, HEV.out] at cK
        obtain ⟨E, hE⟩ : ∃ E, evl l B M = E := ⟨_, rfl⟩
        rw [hE] at cK cV
        have HS2 := Lib.hid hs2
        obtain ⟨k0, k1⟩ := KQ.out _ T5.out
        clear hs2 hn2 hkA e2 hs hn HEV hE
        go_wp2_with fail
        refine (cV _ (HL.out _ T5.out)).mono ?_
        rintro e V6 ⟨rfl, hv6⟩
        have t6 := T5.out.trans (hv6.mono T5.out.size)
        clear k0 k1
        obtain ⟨k0, k1⟩ := KQ.out _ t6
        go_wp2_with fail
        refine (cK _ (HS2.out.step hv6).rr).mono ?_
        rintro e V7 ⟨rfl, hv7⟩
        have t7 := t6.trans (hv7.mono t6.size)
        have h9 : wrap64 ((ln : Int) - (nd : Int)) = (n : Int) := by unfold wrap64; omega
        have h9' : (ln : Int) - (nd : Int) = (n : Int) := by omega
        clear k0 k1 hv6 hv7 t6 cV cK
        go_wp2_with fail
        refine (alive_any _ (HT.out.step t7)).mono ?_
        rintro e V8 ⟨rfl, hv8⟩
        go_wp2
        go_ret
        exact ⟨ret_bool (by first | rfl | simp | (simp; omega)), HB0.out.trans ((t7.trans (hv8.mono t7.size)).mono HB0.out.size)⟩
      | succ gf =>
        have hid : i < D.length := by rw [HND.out]; omega
        have lt0 : (i : Int) < (nd : Int) := by omega
        have hw1 : (i : Int) + 1 ≤ 10000 := by omega
        obtain ⟨b, off, hA3, e0⟩ := (HR4.out _ hb.out).int_at hid
        subst hA3
        have hd1 := nd_get hid
        have hsn : D.take (i + 1) = D.take i ++ [D[i]] := List.take_succ_eq_append_getElem hid
        have hout : D[i] ∉ D.take i := fun hm => by
          obtain ⟨j, hj, e⟩ := List.mem_iff_getElem.1 hm
          simp only [List.length_take] at hj
          rw [List.getElem_take] at e
          have := List.pairwise_iff_getElem.1 HASC.out j i (by omega) hid (by omega)
          omega
        have hhq : hasq (kp l (D.take i)) D[i] = true := kp_has (HMEM.out _ (List.getElem_mem hid)) hout
        have hls := kp_ls HLS.out (D.take i)
        have hks := kp_snoc l (D.take i) D[i]
        have hkl := drl_len1 hls hhq
        have cD := drop_any A' c' (kp l (D.take i)) D[i] wr hs.out (by rw [hn.out]; omega) hls
        rw [hd1] at e0
        have hdr : dropr (kp l (D.take i)) D[i] = (kp l (D.take (i + 1)), 0) := by rw [dropr, hhq, hsn, hks]; rfl
        rw [hdr, hn.out] at cD
        rw [← hks, ← hsn, hn.out] at hkl
        generalize D[i] = d at *
        have HKL := Lib.hid hkl
        obtain ⟨n2, hn2⟩ : ∃ n2, (kp l (D.take (i + 1))).length = n2 := ⟨_, rfl⟩
        have HN2 := Lib.hid hn2
        rw [hn2] at hkl
        clear hd1 hsn hout hhq hls hks hdr hs hn hid
        go_wp2_with fail
        refine cD.mono ?_
        rintro e V6 ⟨A6, c6, rfl, s6, hv6⟩
        have HS6 := Lib.hid s6
        have HB6 := Lib.hid (hb.out.trans (hv6.mono hb.out.size))
        simp only [hn2]
        clear s6 hv6 cD e0 hb hn2
        go_wp2
        go_roundg gf
        case measure => omega
        case rel => exact ⟨i + 1, n2, A6, c6, rfl, by go_num, Lib.hid (by omega), Lib.hid (by omega), HN2, HS6, HB6⟩
end Go.Proofs.YtkofpijhihghpaaDoor
