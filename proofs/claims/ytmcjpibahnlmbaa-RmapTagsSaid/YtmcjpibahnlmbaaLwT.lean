/-
  The walk of the law RmapTags. No statement is proved here; no conditions.
-/
import Derived.Test.YtmcjpibahnlmbaaLw0
namespace Go.Proofs.Ytmcjpibahnlmbaa
open Go.RowKit Go.Joins

/-- A clause that sets a tag. -/
def stg (g : Nat) (x : Cl) : Cl := ⟨⟨x.c.s, x.c.p, x.c.L, x.c.k, x.c.lo, x.c.hi, x.c.T, x.c.sc, x.c.sp, x.c.sk, true, g⟩, x.LA, x.Lc, x.TA, x.Tc⟩
/-- A clause of another number. -/
def ssq (s : Int) (x : Cl) : Cl := ⟨⟨s, x.c.p, x.c.L, x.c.k, x.c.lo, x.c.hi, x.c.T, x.c.sc, x.c.sp, x.c.sk, x.c.st, x.c.tg⟩, x.LA, x.Lc, x.TA, x.Tc⟩
/-- The clause that denies a tag. -/
def dny (g bt : Nat) : Cl := ⟨⟨1, false, [], -1, 0, 16777215, [g], -1, 0, -1, false, 0⟩, none, 0, some ⟨bt, 0, none⟩, 1⟩
def kls (m : List Cl) (g : Nat) (k : Nat) : List Cl := (List.range k).map fun i => stg g (gc m i)
def dls (m : List Cl) (k : Nat) : List Cl := (List.range k).map fun (i : Nat) => ssq ((i : Int) + 2) (gc m i)
theorem kls_len (m : List Cl) (g k : Nat) : (kls m g k).length = k := by simp [kls]
theorem dls_len (m : List Cl) (k : Nat) : (dls m k).length = k := by simp [dls]
theorem kls_next (m : List Cl) (g k : Nat) : kls m g (k + 1) = kls m g k ++ [stg g (gc m k)] := by simp [kls, List.range_succ]
theorem dls_next (m : List Cl) (k : Nat) : dls m (k + 1) = dls m k ++ [ssq ((k : Int) + 2) (gc m k)] := by simp [dls, List.range_succ]
theorem kls_cx {w : World} {A : Option Addr} {m : List Cl} (h : Cr w A m) (g : Nat) : ∀ x ∈ kls m g m.length, Cx w x := by
  intro x hx
  simp only [kls, List.mem_map, List.mem_range] at hx
  obtain ⟨i, hi, rfl⟩ := hx
  have := h.cx (gc m i) (by rw [gc_eq hi]; exact List.getElem_mem _)
  exact ⟨this.L, this.T, this.wf, this.nL, this.nT⟩
theorem dls_cx {w : World} {A : Option Addr} {m : List Cl} (h : Cr w A m) : ∀ x ∈ dls m m.length, Cx w x := by
  intro x hx
  simp only [dls, List.mem_map, List.mem_range] at hx
  obtain ⟨i, hi, rfl⟩ := hx
  have := h.cx (gc m i) (by rw [gc_eq hi]; exact List.getElem_mem _)
  exact ⟨this.L, this.T, this.wf, this.nL, this.nT⟩
theorem kls_ok {m : List Cl} (h : Oks (cps m)) (g : Nat) : Oks (cps (kls m g m.length)) := by
  intro x hx
  simp only [cps, kls, List.map_map, List.mem_map, List.mem_range] at hx
  obtain ⟨i, hi, rfl⟩ := hx
  have := h (gc m i).c (by rw [gc_eq hi]; exact List.mem_map_of_mem (List.getElem_mem _))
  exact this
theorem dls_ok {m : List Cl} (h : Oks (cps m)) (hl : m.length ≤ 20) : Oks (cps (dls m m.length)) := by
  intro x hx
  simp only [cps, dls, List.map_map, List.mem_map, List.mem_range] at hx
  obtain ⟨i, hi, rfl⟩ := hx
  have := h (gc m i).c (by rw [gc_eq hi]; exact List.mem_map_of_mem (List.getElem_mem _))
  simp only [okc, Bool.and_eq_true] at this
  show okc (ssq ((i : Int) + 2) (gc m i)).c = true
  simp only [okc, Bool.and_eq_true]
  refine ⟨⟨⟨?_, this.1.1.2⟩, this.1.2⟩, this.2⟩
  rw [win_iff]
  show 1 ≤ (i : Int) + 2 ∧ (i : Int) + 2 ≤ 65535
  omega
theorem dny_ok (g bt : Nat) : okc (dny g bt).c = true := rfl
/-- What passes a map of which each clause sets a tag has it. -/
theorem kls_tag (m : List Cl) (g : Nat) (t : Rt) (h : (evm (cps (kls m g m.length)) t).2.1 = true) : (evm (cps (kls m g m.length)) t).1.t = g ∧ (evm (cps (kls m g m.length)) t).1.A = t.A ∧ (evm (cps (kls m g m.length)) t).1.N = t.N := by
  unfold evm at h ⊢
  split at h
  · rename_i x hx
    have hm := List.mem_of_find?_eq_some hx
    simp only [cps, kls, List.map_map, List.mem_map, List.mem_range] at hm
    obtain ⟨i, _, rfl⟩ := hm
    by_cases hp : (gc m i).c.p = true
    · have e : ans ((Cl.c ∘ fun i => stg g (gc m i)) i) t = (chg (stg g (gc m i)).c t, true, (gc m i).c.s) := if_pos hp
      rw [e]
      exact ⟨rfl, rfl, rfl⟩
    · have e : ans ((Cl.c ∘ fun i => stg g (gc m i)) i) t = (zr, false, (gc m i).c.s) := if_neg hp
      rw [e] at h
      cases h
  · cases h
/-- What passes a map that begins with a clause that denies a tag has not had it. -/
theorem dny_tag (m : List Cp) (g bt : Nat) (t : Rt) (ht : okt t = true) (h : (evm ((dny g bt).c :: m) t).2.1 = true) : ¬ t.t = g := by
  intro e
  obtain ⟨_, h1, h2⟩ := okt_iff.1 ht
  have hm : mtc (dny g bt).c t = true := by
    simp [mtc, dny, prm, tgs, win, e, h1, h2]
  rw [evm, List.find?_cons_of_pos (by exact hm)] at h
  cases h
set_option maxRecDepth 100000 in
set_option maxHeartbeats 8000000 in
theorem tags_walk (A0 : Option Addr) (c : Nat) (m : List Cl) (t : Rt) (g : Nat) (w : World) (hm : Cq w A0 m) (hB : t.A < 4294967296) (_hg : g < 4294967296) :
    Calls Try.prog 6 #[.slice A0 m.length c, tv t, .int .u32 (g : Int)] w fun e w' => e = .returned (.bool true) ∧ Below w.heap.size w w' := by
  obtain ⟨W0, hW0⟩ : ∃ W0, w.alloc (.cells #[Value.int .u32 (t.A : Int), Value.int .i64 t.N, Value.int .i64 t.k, Value.int .i64 t.c, Value.int .u32 (t.t : Int)] 27) = W0 := ⟨_, rfl⟩
  have b0 : Below w.heap.size w W0 := by rw [← hW0]; exact below_alloc1 _ _
  have HB0 := Lib.hid b0
  have KT : Hid (∀ V, Below W0.heap.size W0 V → V.cell? ⟨w.heap.size, 0, none⟩ = some (Value.int .u32 (t.A : Int)) ∧ V.cell? ⟨w.heap.size, 1, none⟩ = some (Value.int .i64 t.N) ∧ V.cell? ⟨w.heap.size, 2, none⟩ = some (Value.int .i64 t.k) ∧ V.cell? ⟨w.heap.size, 3, none⟩ = some (Value.int .i64 t.c) ∧ V.cell? ⟨w.heap.size, 4, none⟩ = some (Value.int .u32 (t.t : Int))) := Lib.hid (fun V hV => tb_new hW0 hV)
  have TB : Hid (Below W0.heap.size W0 W0) := Lib.hid (Below.refl _ _)
  have cs1 := small_any A0 c m W0 (Rd.keep hm.rd b0.size fun j _ hj => b0.block j hj)
  obtain ⟨q0, q1, q2, q3, q4⟩ := KT.out _ TB.out
  obtain ⟨S1, hS1⟩ : ∃ S, sml m = S := ⟨_, rfl⟩
  rw [hS1] at cs1
  clear b0
  go_enter Try.func6, Try.ntmps6
  cases S1
  · go_wp2_with fail
    refine (cs1).mono ?_
    rintro e Wz ⟨rfl, hWz⟩
    rw [hWz]
    clear hWz Wz
    go_wp2_with fail
    refine (alive_any _).mono ?_
    rintro e Va ⟨rfl, hva⟩
    go_wp2
    go_ret
    exact ⟨rfl, HB0.out.trans ((TB.out.trans (hva.mono TB.out.size)).mono HB0.out.size)⟩
  go_wp2_with fail
  refine (cs1).mono ?_
  rintro e Wz ⟨rfl, hWz⟩
  rw [hWz]
  clear hWz Wz
  have hcrm := hm.cr hS1
  have HMm : Hid (∀ V, Below W0.heap.size W0 V → Cr V A0 m) := Lib.hid (fun V hV => hcrm.1.step (HB0.out.trans (hV.mono HB0.out.size)))
  have hlm := hcrm.2
  have cRm := fun V (hV : Below W0.heap.size W0 V) => rows_cs A0 c m V (HMm.out V hV) hlm
  have cMm := fun V A' c' (h : Cs V A' m) => h.may c' hlm
  clear hcrm
  clear hS1 hm hW0 cs1
  obtain ⟨MA, hMA⟩ : ∃ v, mayc none (cps m) = v := ⟨_, rfl⟩
  obtain ⟨TA, hTA⟩ : ∃ v, okt t = v := ⟨_, rfl⟩
  have cT := fun V => mayRoute_any t V
  rw [hMA] at cMm
  rw [hTA] at cT
  have HMA := Lib.hid hMA
  have HTA := Lib.hid hTA
  obtain ⟨lm, hlm'⟩ : ∃ v, m.length = v := ⟨_, rfl⟩
  have hlm2 : lm ≤ 20 := by omega
  rw [hlm'] at cRm cMm ⊢
  have HLN := Lib.hid hlm'
  clear hlm hlm' hMA hTA
  go_wp2_with fail
  refine (cRm _ TB.out).mono ?_
  rintro e V1 ⟨A2, c2, rfl, s2, hv⟩
  replace TB := Lib.hid (TB.out.trans (hv.mono TB.out.size))
  clear hv
  go_wp2_with fail
  refine (cMm _ _ _ s2).mono ?_
  rintro e V2 ⟨rfl, hv⟩
  replace TB := Lib.hid (TB.out.trans (hv.mono TB.out.size))
  clear hv
  clear s2
  clear q0 q1 q2 q3 q4
  obtain ⟨q0, q1, q2, q3, q4⟩ := KT.out _ TB.out
  cases MA
  · go_wp2_with fail
    refine (alive_any _).mono ?_
    rintro e Va ⟨rfl, hva⟩
    go_wp2
    go_ret
    exact ⟨rfl, HB0.out.trans ((TB.out.trans (hva.mono TB.out.size)).mono HB0.out.size)⟩
  go_wp2_with fail
  refine (route_any t _).mono ?_
  rintro e V3 ⟨rfl, hv⟩
  replace TB := Lib.hid (TB.out.trans (hv.mono TB.out.size))
  clear hv
  go_wp2_with fail
  refine (cT _).mono ?_
  rintro e V4 ⟨rfl, hv⟩
  replace TB := Lib.hid (TB.out.trans (hv.mono TB.out.size))
  clear hv
  clear q0 q1 q2 q3 q4
  obtain ⟨q0, q1, q2, q3, q4⟩ := KT.out _ TB.out
  clear cRm cMm cT
  cases TA
  · go_wp2_with fail
    refine (alive_any _).mono ?_
    rintro e Va ⟨rfl, hva⟩
    go_wp2
    go_ret
    exact ⟨rfl, HB0.out.trans ((TB.out.trans (hva.mono TB.out.size)).mono HB0.out.size)⟩
  obtain ⟨V5, hV5⟩ : ∃ V5, V4.alloc (.cells #[] 37) = V5 := ⟨_, rfl⟩
  have O0 : Hid (Ob 37 12 (V4.heap.size ≤ ·) V5 (some ⟨V4.heap.size, 0, none⟩) 0 (cflat (kls m g 0))) := Lib.hid (by rw [← hV5]; exact Ob.lit0 V4 37 12)
  have B0 : Hid (Below V4.heap.size V4 V5) := Lib.hid (by rw [← hV5]; exact below_alloc1 _ _)
  go_wp2_with fail
  clear hV5 q0 q1 q2 q3 q4
  go_loopg [7, 8] lm (fun gf v5 v6 wx => ∃ (k : Nat) (A' : Option Addr) (c' : Nat), v5 = .slice A' (k) c' ∧ v6 = .int .i64 (k : Int) ∧ Hid (gf + k = lm) ∧ Hid (Ob 37 12 (V4.heap.size ≤ ·) wx A' c' (cflat (kls m g k))) ∧ Hid (Below V4.heap.size V4 wx))
  case atStart => exact ⟨0, _, _, rfl, rfl, Lib.hid (by omega), O0, B0⟩
  case round =>
    obtain ⟨k, A', c', rfl, rfl, hk, ho, hb⟩ := hrel
    have hk' := hk.out
    clear O0 B0
    have tb := TB.out.trans (hb.out.mono TB.out.size)
    cases gk with
    | succ gf =>
      have hkl : k < m.length := by rw [HLN.out]; omega
      have lt0 : (k : Int) < (lm : Int) := by omega
      have hw1 : (k : Int) + 1 ≤ 10000 := by omega
      have hw2 : (k : Int) + 2 ≤ 10000 := by omega
      obtain ⟨b, off, hA, _, _, e0, e1, e2, e3, e4, e5, e6, e7, e8, e9, e10, e11⟩ := (HMm.out _ tb).at hkl
      have hst := kls_next m g k
      obtain ⟨x, hx⟩ : ∃ x, gc m k = x := ⟨_, rfl⟩
      rw [hx] at e0 e1 e2 e3 e4 e5 e6 e7 e8 e9 e10 e11 hst
      have HA := Lib.hid hA
      have HST := Lib.hid hst
      have bx := below_alloc1 wr (.cells #[.int .i64 x.c.s, .bool x.c.p, .slice x.LA x.c.L.length x.Lc, .int .i64 x.c.k, .int .i64 x.c.lo, .int .i64 x.c.hi, .slice x.TA x.c.T.length x.Tc, .int .i64 x.c.sc, .int .i64 x.c.sp, .int .i64 x.c.sk, .bool true, .int .u32 (g : Int)] 37)
      have hsz := hb.out.size
      obtain ⟨g', c2', W3, r1, r2, r3, r4⟩ := cp_app (ho.out.below bx) (n := k) (by rw [kls_len]) (by omega) (stg g x) (wr.heap.size + 1) (by simp)
      have r1' : (Builtin.append_ #[22, 22] 22 #[.slice A' (k) c', .slice (some ⟨wr.heap.size + 1, 0, none⟩) 1 1]).run Try.prog ((wr.alloc (.cells #[.int .i64 x.c.s, .bool x.c.p, .slice x.LA x.c.L.length x.Lc, .int .i64 x.c.k, .int .i64 x.c.lo, .int .i64 x.c.hi, .slice x.TA x.c.T.length x.Tc, .int .i64 x.c.sc, .int .i64 x.c.sp, .int .i64 x.c.sk, .bool true, .int .u32 (g : Int)] 37)).alloc (.cells #[.int .i64 x.c.s, .bool x.c.p, .slice x.LA x.c.L.length x.Lc, .int .i64 x.c.k, .int .i64 x.c.lo, .int .i64 x.c.hi, .slice x.TA x.c.T.length x.Tc, .int .i64 x.c.sc, .int .i64 x.c.sp, .int .i64 x.c.sk, .bool true, .int .u32 (g : Int)] 37)) = .ok (.slice (some ⟨g', 0, none⟩) (k + 1) c2') W3 := r1
      have HO : Hid (Ob 37 12 (V4.heap.size ≤ ·) W3 (some ⟨g', 0, none⟩) c2' (cflat (kls m g (k + 1)))) := Lib.hid (by rw [HST.out]; exact Ob.next r2 r4 (by omega))
      have HB3 : Hid (Below V4.heap.size V4 W3) := Lib.hid ((hb.out.trans (bx.mono hsz)).trans (r3.below (fun _ h => h) (by simp; omega)))
      subst hA
      clear hx hst hkl tb bx r1 r2 r3 r4 ho hb HST HA
      go_wp2_with (at_builtin; refine wpList_runb _ rfl (.tmp 49) (.tmp 51) 22 rfl rfl rfl r1' ?_)
      go_wp2
      go_roundg gf
      case measure => omega
      case rel => exact ⟨k + 1, _, c2', by go_num, by go_num, Lib.hid (by omega), HO, HB3⟩
    | zero =>
      have e1 : lm = k := by omega
      have lt0 : decide ((k : Int) < (lm : Int)) = false := by simp; omega
      have lt1 : decide (k < lm) = false := by simp; omega
      subst e1
      have hkc : Cr wr A' (kls m g lm) := ⟨ho.out.rd, by have := kls_cx (HMm.out _ tb) g; rwa [HLN.out] at this⟩
      have hkt := kls_tag m g t
      have hko := kls_ok (mayc_oks HMA.out) g
      rw [HLN.out] at hkt hko
      have hke := evm_ok hko HTA.out
      have hkA : (evm (cps (kls m g lm)) t).1.A < 4294967296 := evm_A hB
      have cE := eval8_any A' c' (kls m g lm) t wr hkc (by rw [kls_len]; omega) hko HTA.out hB
      rw [kls_len] at cE
      obtain ⟨⟨r, b1, i1⟩, hE⟩ : ∃ v, evm (cps (kls m g lm)) t = v := ⟨_, rfl⟩
      rw [hE] at hkt hke hkA cE
      simp only at hkt hke hkA cE
      have HKT := Lib.hid hkt
      have HKE := Lib.hid hke
      replace TB := Lib.hid tb
      obtain ⟨q0, q1, q2, q3, q4⟩ := KT.out _ TB.out
      clear hkc hkt hko hke hkA hE ho hb tb
      go_wp2_with fail
      refine (cE).mono ?_
      rintro e U1 ⟨rfl, hv⟩
      replace TB := Lib.hid (TB.out.trans (hv.mono TB.out.size))
      clear hv
      obtain ⟨U2, hU2⟩ : ∃ U2, U1.alloc (.cells #[Value.int .u32 (r.A : Int), Value.int .i64 r.N, Value.int .i64 r.k, Value.int .i64 r.c, Value.int .u32 (r.t : Int)] 27) = U2 := ⟨_, rfl⟩
      have bb : Below U1.heap.size U1 U2 := by rw [← hU2]; exact below_alloc1 _ _
      replace TB := Lib.hid (TB.out.trans (bb.mono TB.out.size))
      have Ka10 : Hid (∀ V, Below U2.heap.size U2 V → V.cell? ⟨U1.heap.size, 0, none⟩ = some (Value.int .u32 (r.A : Int)) ∧ V.cell? ⟨U1.heap.size, 1, none⟩ = some (Value.int .i64 r.N) ∧ V.cell? ⟨U1.heap.size, 2, none⟩ = some (Value.int .i64 r.k) ∧ V.cell? ⟨U1.heap.size, 3, none⟩ = some (Value.int .i64 r.c) ∧ V.cell? ⟨U1.heap.size, 4, none⟩ = some (Value.int .u32 (r.t : Int))) := Lib.hid (fun V hV => tb_new hU2 hV)
      have Ta10 : Hid (Below U2.heap.size U2 U2) := Lib.hid (Below.refl _ _)
      clear bb
      obtain ⟨a10, ha10⟩ : ∃ v, U1.heap.size = v := ⟨_, rfl⟩
      rw [ha10] at Ka10
      go_upto_region 12 with fail
      clear hU2 ha10 cE q0 q1 q2 q3 q4 Ta10
      obtain ⟨bt, hbt⟩ : ∃ v, U2.heap.size = v := ⟨_, rfl⟩
      obtain ⟨U3, hU3⟩ : ∃ U3, U2.alloc (.cells #[.int .u32 (g : Int)] 23) = U3 := ⟨_, rfl⟩
      have s3 : U3.heap.size = bt + 1 := by rw [← hU3, ← hbt]; simp
      have b3 : Below U2.heap.size U2 U3 := by rw [← hU3]; exact below_alloc1 _ _
      have kb : U3.heap[bt]? = some (.cells #[.int .u32 (g : Int)] 23) := by rw [← hU3]; exact alloc_at _ _ _ hbt.symm
      obtain ⟨U4, hU4⟩ : ∃ U4, U3.alloc (.cells #[Value.int .i64 1, Value.bool false, Value.slice none 0 0, Value.int .i64 (-1), Value.int .i64 0, Value.int .i64 16777215, Value.slice (some ⟨bt, 0, none⟩) 1 1, Value.int .i64 (-1), Value.int .i64 0, Value.int .i64 (-1), Value.bool false, Value.int .u32 0] 37) = U4 := ⟨_, rfl⟩
      have O0 : Hid (Ob 37 12 (U3.heap.size ≤ ·) U4 (some ⟨bt + 1, 0, none⟩) 1 (cflat (dny g bt :: dls m 0))) := Lib.hid (by
        rw [← hU4, ← s3]
        exact .inr ⟨U3.heap.size, Nat.le_refl _, rfl, Rg.lit U3 37 12 1 _ _ rfl rfl (by unfold maxLen; omega)⟩)
      have B0 : Hid (Below U3.heap.size U3 U4) := Lib.hid (by rw [← hU4]; exact below_alloc1 _ _)
      replace Ka10 : Hid (∀ V, Below U3.heap.size U3 V → V.cell? ⟨a10, 0, none⟩ = some (Value.int .u32 (r.A : Int)) ∧ V.cell? ⟨a10, 1, none⟩ = some (Value.int .i64 r.N) ∧ V.cell? ⟨a10, 2, none⟩ = some (Value.int .i64 r.k) ∧ V.cell? ⟨a10, 3, none⟩ = some (Value.int .i64 r.c) ∧ V.cell? ⟨a10, 4, none⟩ = some (Value.int .u32 (r.t : Int))) := Lib.hid (fun V hV => Ka10.out V (b3.trans (hV.mono b3.size)))
      have KB : Hid (∀ V, Below U3.heap.size U3 V → V.heap[bt]? = some (.cells #[.int .u32 (g : Int)] 23)) := Lib.hid (fun V hV => (hV.block bt (by omega)).trans kb)
      replace TB := Lib.hid (TB.out.trans (b3.mono TB.out.size))
      clear b3 kb hk hk' lt0 lt1
      go_wp2_with fail
      clear hU3 hU4 s3 hbt
      go_loopg [13, 14] lm (fun gf v5 v6 wx => ∃ (k : Nat) (A' : Option Addr) (c' : Nat), v5 = .slice A' (k + 1) c' ∧ v6 = .int .i64 (k : Int) ∧ Hid (gf + k = lm) ∧ Hid (Ob 37 12 (U3.heap.size ≤ ·) wx A' c' (cflat (dny g bt :: dls m k))) ∧ Hid (Below U3.heap.size U3 wx))
      case atStart => exact ⟨0, _, _, rfl, rfl, Lib.hid (by omega), O0, B0⟩
      case round =>
        obtain ⟨k, A', c', rfl, rfl, hk, ho, hb⟩ := hrel
        have hk' := hk.out
        clear O0 B0
        have tb := TB.out.trans (hb.out.mono TB.out.size)
        cases gk with
        | succ gf =>
          have hkl : k < m.length := by rw [HLN.out]; omega
          have lt0 : (k : Int) < (lm : Int) := by omega
          have hw1 : (k : Int) + 1 ≤ 10000 := by omega
          have hw2 : (k : Int) + 2 ≤ 10000 := by omega
          obtain ⟨b, off, hA, _, _, e0, e1, e2, e3, e4, e5, e6, e7, e8, e9, e10, e11⟩ := (HMm.out _ tb).at hkl
          have hst := congrArg (dny g bt :: ·) (dls_next m k)
          obtain ⟨x, hx⟩ : ∃ x, gc m k = x := ⟨_, rfl⟩
          rw [hx] at e0 e1 e2 e3 e4 e5 e6 e7 e8 e9 e10 e11 hst
          have HA := Lib.hid hA
          have HST := Lib.hid hst
          have bx := below_alloc1 wr (.cells #[.int .i64 ((k : Int) + 2), .bool x.c.p, .slice x.LA x.c.L.length x.Lc, .int .i64 x.c.k, .int .i64 x.c.lo, .int .i64 x.c.hi, .slice x.TA x.c.T.length x.Tc, .int .i64 x.c.sc, .int .i64 x.c.sp, .int .i64 x.c.sk, .bool x.c.st, .int .u32 (x.c.tg : Int)] 37)
          have hsz := hb.out.size
          obtain ⟨g', c2', W3, r1, r2, r3, r4⟩ := cp_app (ho.out.below bx) (n := k + 1) (by rw [List.length_cons, dls_len]) (by omega) (ssq ((k : Int) + 2) x) (wr.heap.size + 1) (by simp)
          have r1' : (Builtin.append_ #[22, 22] 22 #[.slice A' (k + 1) c', .slice (some ⟨wr.heap.size + 1, 0, none⟩) 1 1]).run Try.prog ((wr.alloc (.cells #[.int .i64 ((k : Int) + 2), .bool x.c.p, .slice x.LA x.c.L.length x.Lc, .int .i64 x.c.k, .int .i64 x.c.lo, .int .i64 x.c.hi, .slice x.TA x.c.T.length x.Tc, .int .i64 x.c.sc, .int .i64 x.c.sp, .int .i64 x.c.sk, .bool x.c.st, .int .u32 (x.c.tg : Int)] 37)).alloc (.cells #[.int .i64 ((k : Int) + 2), .bool x.c.p, .slice x.LA x.c.L.length x.Lc, .int .i64 x.c.k, .int .i64 x.c.lo, .int .i64 x.c.hi, .slice x.TA x.c.T.length x.Tc, .int .i64 x.c.sc, .int .i64 x.c.sp, .int .i64 x.c.sk, .bool x.c.st, .int .u32 (x.c.tg : Int)] 37)) = .ok (.slice (some ⟨g', 0, none⟩) (k + 1 + 1) c2') W3 := r1
          have HO : Hid (Ob 37 12 (U3.heap.size ≤ ·) W3 (some ⟨g', 0, none⟩) c2' (cflat (dny g bt :: dls m (k + 1)))) := Lib.hid (by rw [HST.out]; exact Ob.next r2 r4 (by omega))
          have HB3 : Hid (Below U3.heap.size U3 W3) := Lib.hid ((hb.out.trans (bx.mono hsz)).trans (r3.below (fun _ h => h) (by simp; omega)))
          subst hA
          clear hx hst hkl tb bx r1 r2 r3 r4 ho hb HST HA
          go_wp2_with (at_builtin; refine wpList_runb _ rfl (.tmp 77) (.tmp 79) 22 rfl rfl rfl r1' ?_)
          go_wp2
          go_roundg gf
          case measure => omega
          case rel => exact ⟨k + 1, _, c2', by go_num, by go_num, Lib.hid (by omega), HO, HB3⟩
        | zero =>
          have e1 : lm = k := by omega
          have lt0 : decide ((k : Int) < (lm : Int)) = false := by simp; omega
          have lt1 : decide (k < lm) = false := by simp; omega
          subst e1
          have hbt := KB.out _ hb.out
          have hdc : Cr wr A' (dny g bt :: dls m lm) := ⟨ho.out.rd, fun x hx => by
            rcases List.mem_cons.1 hx with rfl | hx
            · refine ⟨Rr.nil _ _, fun _ => ⟨bt, 0, rfl, trivial, lt_of_block hbt, fun j u hu => ?_⟩, (fun r hr => by cases hr), by simp [dny], by simp [dny]⟩
              have hj : j = 0 := by
                have := (List.getElem?_eq_some_iff.1 hu).1
                simp [nts, dny] at this
                exact this
              subst hj
              have hu' : u = .int .u32 (g : Int) := by simpa [nts, dny] using hu.symm
              rw [hu']
              exact (cell_of_block hbt 0).trans rfl
            · have := dls_cx (HMm.out _ tb)
              rw [HLN.out] at this
              exact this x hx⟩
          have hdo : Oks (cps (dny g bt :: dls m lm)) := fun x hx => by
            rcases List.mem_cons.1 hx with rfl | hx
            · exact dny_ok g bt
            · have := dls_ok (mayc_oks HMA.out) (by rw [HLN.out]; exact hlm2)
              rw [HLN.out] at this
              exact this x hx
          have hdt := dny_tag (cps (dls m lm)) g bt t HTA.out
          have cE := eval8_any A' c' (dny g bt :: dls m lm) t wr hdc (by rw [List.length_cons, dls_len]; omega) hdo HTA.out hB
          rw [List.length_cons, dls_len] at cE
          have hcc : cps (dny g bt :: dls m lm) = (dny g bt).c :: cps (dls m lm) := rfl
          rw [hcc] at cE
          obtain ⟨⟨r2, b2, i2⟩, hE⟩ : ∃ v, evm ((dny g bt).c :: cps (dls m lm)) t = v := ⟨_, rfl⟩
          rw [hE] at hdt cE
          simp only at hdt cE
          have HDT := Lib.hid hdt
          replace TB := Lib.hid tb
          have T3 : Hid (Below U3.heap.size U3 wr) := hb
          obtain ⟨q0, q1, q2, q3, q4⟩ := KT.out _ TB.out
          clear hdc hdo hdt hcc hE ho hb tb hbt KB
          go_wp2_with fail
          refine (cE).mono ?_
          rintro e X1 ⟨rfl, hv⟩
          replace T3 := Lib.hid (T3.out.trans (hv.mono T3.out.size))
          replace TB := Lib.hid (TB.out.trans (hv.mono TB.out.size))
          clear hv
          obtain ⟨X2, hX2⟩ : ∃ X2, X1.alloc (.cells #[Value.int .u32 (r2.A : Int), Value.int .i64 r2.N, Value.int .i64 r2.k, Value.int .i64 r2.c, Value.int .u32 (r2.t : Int)] 27) = X2 := ⟨_, rfl⟩
          have bb : Below X1.heap.size X1 X2 := by rw [← hX2]; exact below_alloc1 _ _
          replace TB := Lib.hid (TB.out.trans (bb.mono TB.out.size))
          have Ka16 : Hid (∀ V, Below X2.heap.size X2 V → V.cell? ⟨X1.heap.size, 0, none⟩ = some (Value.int .u32 (r2.A : Int)) ∧ V.cell? ⟨X1.heap.size, 1, none⟩ = some (Value.int .i64 r2.N) ∧ V.cell? ⟨X1.heap.size, 2, none⟩ = some (Value.int .i64 r2.k) ∧ V.cell? ⟨X1.heap.size, 3, none⟩ = some (Value.int .i64 r2.c) ∧ V.cell? ⟨X1.heap.size, 4, none⟩ = some (Value.int .u32 (r2.t : Int))) := Lib.hid (fun V hV => tb_new hX2 hV)
          have Ta16 : Hid (Below X2.heap.size X2 X2) := Lib.hid (Below.refl _ _)
          replace T3 := Lib.hid (T3.out.trans (bb.mono T3.out.size))
          clear bb
          go_upto_region 20 with fail
          clear hX2 cE q0 q1 q2 q3 q4 Ka16 Ta16
          obtain ⟨d0, d1, d2, d3, d4⟩ := Ka10.out _ T3.out
          obtain ⟨q0, q1, q2, q3, q4⟩ := KT.out _ TB.out
          have cO := fun V => mayRoute_any r V
          rw [HKE.out] at cO
          cases b1
          · go_wp2_with fail
            refine (alive_any _).mono ?_
            rintro e Va ⟨rfl, hva⟩
            replace TB := Lib.hid (TB.out.trans (hva.mono TB.out.size))
            clear q0 q1 q2 q3 q4 hva
            obtain ⟨q0, q1, q2, q3, q4⟩ := KT.out _ TB.out
            cases b2
            · go_wp2
              go_ret
              exact ⟨rfl, HB0.out.trans (TB.out.mono HB0.out.size)⟩
            · have hne : ¬ t.t = g := HDT.out rfl
              have n1 : ((t.t : Int) != (g : Int)) = true := by simp; omega
              have n2 : (t.t != g) = true := by simpa using hne
              have n3 : ((t.t : Int) == (g : Int)) = false := by simp; omega
              have n4 : decide (t.t = g) = false := by simpa using hne
              go_wp2
              go_ret
              exact ⟨by simp, HB0.out.trans (TB.out.mono HB0.out.size)⟩
          · obtain ⟨t1, t2, t3⟩ := HKT.out rfl
            obtain ⟨rA, rN, rk, rc', rt⟩ := r
            simp only at t1 t2 t3 cO d0 d1 d2 d3 d4
            replace t1 := t1.symm
            subst t1 t2 t3
            go_wp2_with fail
            refine (route_any ⟨t.A, t.N, rk, rc', g⟩ _).mono ?_
            rintro e Xa ⟨rfl, hv⟩
            replace TB := Lib.hid (TB.out.trans (hv.mono TB.out.size))
            clear hv
            go_wp2_with fail
            refine (cO _).mono ?_
            rintro e Xb ⟨rfl, hv⟩
            replace TB := Lib.hid (TB.out.trans (hv.mono TB.out.size))
            clear hv d0 d1 d2 d3 d4
            clear q0 q1 q2 q3 q4
            obtain ⟨q0, q1, q2, q3, q4⟩ := KT.out _ TB.out
            go_wp2_with fail
            refine (alive_any _).mono ?_
            rintro e Va ⟨rfl, hva⟩
            replace TB := Lib.hid (TB.out.trans (hva.mono TB.out.size))
            clear q0 q1 q2 q3 q4 hva
            obtain ⟨q0, q1, q2, q3, q4⟩ := KT.out _ TB.out
            cases b2
            · go_wp2
              go_ret
              exact ⟨rfl, HB0.out.trans (TB.out.mono HB0.out.size)⟩
            · have hne : ¬ t.t = g := HDT.out rfl
              have n1 : ((t.t : Int) != (g : Int)) = true := by simp; omega
              have n2 : (t.t != g) = true := by simpa using hne
              have n3 : ((t.t : Int) == (g : Int)) = false := by simp; omega
              have n4 : decide (t.t = g) = false := by simpa using hne
              go_wp2
              go_ret
              exact ⟨by simp, HB0.out.trans (TB.out.mono HB0.out.size)⟩
end Go.Proofs.Ytmcjpibahnlmbaa
