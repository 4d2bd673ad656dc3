/-
  Contracts of dbd.putHeads and of the reference's heads. No statement is proved here; no conditions.
-/
import Derived.Test.YtefbpaebimagaaaDh
import Derived.Test.YtefbpaebimagaaaRHe
namespace Go.Proofs.Ytefbpaebimagaaa
open Go.RowKit Go.Joins

section
variable {P : Program} (w : World)
/-- 'append' with the lengths' names. -/
theorem run_apn (base : Nat) (t ty e : TypeId) (k : IntKind) (i : TypeInfo) (z : Value) (bytes : Nat) (ht : P.underlying t = some (.slice e)) (hi : P.info? e = some i) (hz : i.zero = some z)
    (hsize : i.size = 1) (hby : i.bytes = bytes) (hzs : z.cells.size = 1) (A : Option Addr) (c : Nat) (l : List Int) (hown : Own k e w base A c l)
    (B : Nat) (A2 : Option Addr) (c2 : Nat) (l2 : List Int) (hr : Bs k w B A2 l2) (x y : Nat) (hx : l.length = x) (hy : l2.length = y)
    (h63 : x + y ≤ maxLen) (hbytes : (x + y) * bytes ≤ 140737488355328) (hbase : base ≤ w.heap.size) :
    ∃ A' c' w', (Builtin.append_ #[t, t] ty #[.slice A x c, .slice A2 y c2]).run P w = .ok (.slice A' (x + y) c') w' ∧ Own k e w' base A' c' (l ++ l2) ∧ Below base w w' := by
  subst hx hy
  have h := run_app (P := P) w base t ty e k i z bytes ht hi hz hsize hby hzs A c l hown B A2 c2 l2 hr h63 hbytes hbase
  rwa [List.length_append] at h
theorem run_apgn (base : Nat) (t ty e : TypeId) (k : IntKind) (i : TypeInfo) (z : Value) (bytes : Nat) (ht : P.underlying t = some (.slice e)) (hi : P.info? e = some i) (hz : i.zero = some z)
    (hsize : i.size = 1) (hby : i.bytes = bytes) (hzs : z.cells.size = 1) (A : Option Addr) (c : Nat) (l : List Int) (hown : Own k e w base A c l)
    (B : Nat) (A2 : Option Addr) (c2 : Nat) (l2 : List Int) (hr : Bs k w B A2 l2) (x y : Nat) (hx : l.length = x) (hy : l2.length = y)
    (h63 : x + y ≤ maxLen) (hbytes : (x + y) * bytes ≤ 140737488355328) (hbase : base ≤ w.heap.size) :
    ∃ A' c' w', (Builtin.append_ #[t, t] ty #[.slice A x c, .slice A2 y c2]).run P w = .ok (.slice A' (x + y) c') w' ∧ Own k e w' base A' c' (l ++ l2) ∧ w.grownBy w' (blk A) ∧ (blk A' = blk A ∨ blk A' = some w.heap.size) := by
  subst hx hy
  have h := run_appg (P := P) w base t ty e k i z bytes ht hi hz hsize hby hzs A c l hown B A2 c2 l2 hr h63 hbytes hbase
  rwa [List.length_append] at h
end
set_option maxRecDepth 100000 in
set_option maxHeartbeats 4000000 in
theorem putheads_any (a b : Int) (A : Option Addr) (n c : Nat) (L : List Hd) (w : World) (hn : L.length = n) (ok : ∀ x ∈ L, Okd x) (hl : hRr w A L) (hll : n ≤ 10000) :
    Calls Try.prog 34 #[.slice A n c, .int .i64 a, .int .i64 b] w fun e w' => ∃ A' c', e = .returned (.tuple #[.slice A' (phL L a b).length c', .int .i64 (phE L a b)]) ∧ Own .u8 5 w' w.heap.size A' c' (phL L a b) ∧ Below w.heap.size w w' := by
  obtain ⟨E, hE⟩ : ∃ E, phE L a b = E := ⟨_, rfl⟩
  obtain ⟨P, hP⟩ : ∃ P, phL L a b = P := ⟨_, rfl⟩
  have HNo : Hid ((win (n : Int) a b && mays L) = false → E = 1 ∧ P = []) := Lib.hid (fun h => by rw [← hE, ← hP]; exact phE_no (by rw [hn]; exact h))
  have HYes : Hid (win (n : Int) a b = true → mays L = true → E = 0 ∧ P = encs L) := Lib.hid (fun h h2 => by rw [← hE, ← hP]; exact phE_yes (by rw [hn]; exact h) h2)
  rw [hE, hP]
  clear hE hP
  obtain ⟨q, hq⟩ : ∃ q, win (n : Int) a b = q := ⟨_, rfl⟩
  cases q with
  | false =>
    obtain ⟨e1, e2⟩ := HNo.out (by rw [hq]; rfl)
    subst e1 e2
    clear HNo HYes
    go_enter Try.func34, Try.ntmps34
    go_wp2_with fail
    refine (dwithin_any _ _ _ _).mono ?_
    rintro e _ ⟨rfl, rfl⟩
    rw [hq]
    go_wp2
    go_ret2
    exact ⟨none, 0, rfl, Own.nil _ _, Below.refl _ _⟩
  | true =>
    obtain ⟨i0, hi0, hz0, hz1, hz2⟩ := info_of info5
    obtain ⟨z, w1, hz, hmk, hO, hB1⟩ := mk_own (P := Try.prog) w 26 5 .u8 i0 Try.underlying26 hi0 hz0 hz1 .i64 .i64 0 ((n : Int) * 20) 0 (n * 20) rfl (by omega) (by omega) (by rw [hz2]; omega) (by unfold maxLen; omega)
    obtain rfl := List.eq_nil_of_length_eq_zero hz
    have hw20 : (n : Int) * 20 ≤ 200000 := by omega
    have HQ := Lib.hid hq
    have HLN := Lib.hid hn
    have HL := Lib.hid hl
    have OK := Lib.hid ok
    have HO := Lib.hid hO
    have HB := Lib.hid hB1
    clear hz hq hn hl ok hO hB1
    go_enter Try.func34, Try.ntmps34
    go_wp2_with fail
    refine (dwithin_any _ _ _ _).mono ?_
    rintro e _ ⟨rfl, rfl⟩
    rw [HQ.out]
    go_wp2_with fail
    clear hmk hw20
    go_loopg [8, 25] n (fun gf v8 v25 wx => ∃ (j x : Nat) (A' : Option Addr) (c' : Nat), v8 = .slice A' x c' ∧ v25 = .int .i64 (j : Int) ∧ Hid (gf + j = n) ∧ Hid (x = j * 20) ∧ Hid (Own .u8 5 wx w.heap.size A' c' (encs (L.take j))) ∧ Hid (∀ y ∈ L.take j, mayd y = true) ∧ Hid (Below w.heap.size w wx))
    case atStart => exact ⟨0, 0, _, _, rfl, rfl, Lib.hid (by omega), Lib.hid (by omega), Lib.hid (by simpa [encs] using HO.out), Lib.hid (by simp), HB⟩
    case round =>
      obtain ⟨j, x, A', c', rfl, rfl, hj, hx, ho, hm, hb⟩ := hrel
      have hj' := hj.out
      clear HO HB
      cases gk with
      | zero =>
        have lt0 : decide ((j : Int) < (n : Int)) = false := by simp; omega
        have lt1 : decide (j < n) = false := by simp; omega
        have HT : Hid (L.take j = L) := Lib.hid (List.take_of_length_le (by rw [HLN.out]; omega))
        have HF : Hid (E = 0 ∧ P = encs L) := Lib.hid (HYes.out HQ.out ((mays_iff L).2 (by have := hm.out; rwa [HT.out] at this)))
        have HX : Hid (P.length = x) := Lib.hid (by rw [HF.out.2, encs_length, HLN.out]; have := hx.out; omega)
        go_wp2
        go_ret2
        refine ⟨A', c', ?_, ?_, hb.out⟩
        · rw [HX.out, HF.out.1]
          rfl
        · rw [HF.out.2]
          have := ho.out
          rwa [HT.out] at this
      | succ gf =>
        have hlt : j < L.length := by rw [HLN.out]; omega
        have lt0 : (j : Int) < (n : Int) := by omega
        have hw1 : (j : Int) + 1 ≤ 10000 := by omega
        obtain ⟨bb, off, hA, _, e0, e1, e2, e3, e4, e5, e6, e7⟩ := hrd_at (hRr.step HL.out hb.out) hlt
        subst hA
        have hmem := hg_mem hlt
        have HV : Hid (L.take (j + 1) = L.take j ++ [hg L j]) := Lib.hid (htake hlt)
        obtain ⟨y, hy⟩ : ∃ y, hg L j = y := ⟨_, rfl⟩
        rw [hy] at e0 e1 e2 e3 e4 e5 e6 e7 hmem HV
        have HSL : Hid ((encs (L.take j)).length = x) := Lib.hid (by
          rw [encs_length, List.length_take, HLN.out]
          have := hx.out
          omega)
        obtain ⟨W1, hW1⟩ : ∃ V, wr.alloc (.cells #[Value.int .i64 y.a, .int .i64 y.o, .int .i64 y.t, .int .u32 y.i, .int .u32 y.v, .int .u32 y.q, .int .i64 y.s, .int .i64 y.n] 85) = V := ⟨_, rfl⟩
        have b1 : Below wr.heap.size wr W1 := by rw [← hW1]; exact below_alloc1 _ _
        have KY : Hid (∀ V, Below W1.heap.size W1 V → V.cell? ⟨wr.heap.size, 0, none⟩ = some (.int .i64 y.a) ∧ V.cell? ⟨wr.heap.size, 1, none⟩ = some (.int .i64 y.o) ∧ V.cell? ⟨wr.heap.size, 2, none⟩ = some (.int .i64 y.t) ∧ V.cell? ⟨wr.heap.size, 3, none⟩ = some (.int .u32 y.i) ∧ V.cell? ⟨wr.heap.size, 4, none⟩ = some (.int .u32 y.v) ∧ V.cell? ⟨wr.heap.size, 5, none⟩ = some (.int .u32 y.q) ∧ V.cell? ⟨wr.heap.size, 6, none⟩ = some (.int .i64 y.s) ∧ V.cell? ⟨wr.heap.size, 7, none⟩ = some (.int .i64 y.n)) := Lib.hid (fun V hV => kb8_new hW1 hV)
        have hmk := Lib.hid hmem
        have CH := head_any y W1 (OK.out y hmem)
        have HB1 : Hid (Below w.heap.size w W1) := Lib.hid (hb.out.trans (b1.mono hb.out.size))
        have ho1 := Lib.hid (Own.step ho.out b1)
        obtain ⟨y0, y1, y2, y3, y4, y5, y6, y7⟩ := KY.out _ (Below.refl _ _)
        clear hy hmem hlt b1 KY
        obtain ⟨qm, hqm⟩ : ∃ q, mayd y = q := ⟨_, rfl⟩
        cases qm with
        | false =>
          have e1 : encE y = 1 := by simp [encE, hqm]
          have e2 : encH y = [] := by simp [encH, hqm]
          rw [e1, e2] at CH
          obtain ⟨f1, f2⟩ := HNo.out (by rw [mays_no hmk.out hqm]; simp)
          have F1 := Lib.hid f1
          have F2 := Lib.hid f2
          clear e1 e2 hqm f1 f2
          go_wp2_with fail
          refine CH.mono ?_
          rintro e Y2 ⟨A2, c2, rfl, -, u2⟩
          go_wp2
          go_ret2
          rw [F1.out, F2.out]
          exact ⟨none, 0, rfl, Own.nil _ _, HB1.out.trans (u2.mono HB1.out.size)⟩
        | true =>
          have e1 : encE y = 0 := by simp [encE, hqm]
          have e2 : encH y = ehd y := by simp [encH, hqm]
          rw [e1, e2, ehd_length] at CH
          have HM := Lib.hid hqm
          have hx2 : x ≤ 200000 := by have := hx.out; omega
          clear e1 e2 hqm
          go_wp2_with fail
          refine CH.mono ?_
          rintro e Y2 ⟨A2, c2, rfl, o2, u2⟩
          clear y0 y1 y2 y3 y4 y5 y6 y7 e0 e1 e2 e3 e4 e5 e6 e7 CH
          have HB2 : Hid (Below w.heap.size w Y2) := Lib.hid (HB1.out.trans (u2.mono HB1.out.size))
          obtain ⟨A3, c3, Y3, rY3, oY3, tY3⟩ := run_apn (P := Try.prog) Y2 w.heap.size 26 26 5 .u8 i0 _ 1 Try.underlying26 hi0 hz0 hz1 hz2 rfl _ _ _ (Own.step ho1.out u2) _ A2 c2 _ o2.bs x 20 HSL.out (ehd_length _) (by unfold maxLen; omega) (by omega) HB2.out.size
          have HB3 : Hid (Below w.heap.size w Y3) := Lib.hid (HB2.out.trans tY3)
          have HO3 := Lib.hid oY3
          clear o2 u2 tY3 oY3 hW1
          go_wp2_with (at_builtin; refine wpList_runb _ rfl (.tmp 37) (.tmp 38) 26 rfl rfl rfl rY3 ?_)
          go_roundg gf
          case measure => omega
          case rel => exact ⟨j + 1, x + 20, A3, c3, rfl, by go_num, Lib.hid (by omega), Lib.hid (by have := hx.out; omega), Lib.hid (by rw [HV.out, encs_snoc]; exact HO3.out), Lib.hid (by rw [HV.out]; intro z hz; rcases List.mem_append.1 hz with q | q; exact hm.out z q; obtain rfl := List.mem_singleton.1 q; exact HM.out), HB3⟩
end Go.Proofs.Ytefbpaebimagaaa
