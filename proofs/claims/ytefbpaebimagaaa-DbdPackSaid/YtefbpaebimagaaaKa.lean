/-
  Keys as plain numbers; contracts of dbd.PutAsk and of the reference's. No statement is proved here; no conditions.
-/
import Derived.Test.YtefbpaebimagaaaPh
import Derived.Test.YtefbpaebimagaaaRRh
namespace Go.Proofs.Ytefbpaebimagaaa
open Go.RowKit Go.Joins

structure Okk (x : Ky) : Prop where
  i : 0 ≤ x.i ∧ x.i < 4294967296
  v : 0 ≤ x.v ∧ x.v < 4294967296
def ek (x : Ky) : List Int := be x.t 4 ++ (be x.i 4 ++ be x.v 4)
theorem ek_length (x : Ky) : (ek x).length = 12 := by simp [ek, be_length]
theorem ek_byt (x : Ky) : Byt (ek x) := (be_byt _ _).append ((be_byt _ _).append (be_byt _ _))
def eks (L : List Ky) : List Int := L.flatMap ek
theorem eks_snoc (L : List Ky) (x : Ky) : eks (L ++ [x]) = eks L ++ ek x := by simp [eks]
theorem eks_length (L : List Ky) : (eks L).length = L.length * 12 := by
  induction L with
  | nil => rfl
  | cons x L ih =>
    have : eks (x :: L) = ek x ++ eks L := by simp [eks]
    rw [this, List.length_append, ih, ek_length, List.length_cons]
    omega
theorem eks_byt (L : List Ky) : Byt (eks L) := by
  intro y hy
  obtain ⟨x, _, h⟩ := List.mem_flatMap.1 hy
  exact ek_byt x y h
/-- Their numbers in a row. -/
def kws (L : List Ky) : List Int := L.flatMap fun x => [x.t, x.i, x.v]
theorem kws_snoc (L : List Ky) (x : Ky) : kws (L ++ [x]) = kws L ++ [x.t, x.i, x.v] := by simp [kws]
theorem kws_length (L : List Ky) : (kws L).length = L.length * 3 := by
  induction L with
  | nil => rfl
  | cons x L ih =>
    have : kws (x :: L) = [x.t, x.i, x.v] ++ kws L := by simp [kws]
    rw [this, List.length_append, ih, List.length_cons]
    simp
    omega
theorem flat_app (k : Nat) (a b : List Int) : flat k (a ++ b) = flat k a ++ flat k b := by simp [flat]
theorem flat_kws (L : List Ky) : flat 4 (kws L) = eks L := by
  induction L with
  | nil => rfl
  | cons x L ih =>
    have e1 : kws (x :: L) = [x.t, x.i, x.v] ++ kws L := by simp [kws]
    have e2 : eks (x :: L) = ek x ++ eks L := by simp [eks]
    rw [e1, e2, flat_app, ih]
    simp [flat, ek]
def mayq (L : List Ky) : Bool := L.all fun x => win x.t 1 7
theorem mayq_iff (L : List Ky) : mayq L = true ↔ ∀ x ∈ L, win x.t 1 7 = true := by simp [mayq]
theorem mayq_no {L : List Ky} {x : Ky} (h : x ∈ L) (hx : win x.t 1 7 = false) : mayq L = false := by
  cases q : mayq L with
  | false => rfl
  | true => rw [(mayq_iff L).1 q x h] at hx; cases hx
def paE (L : List Ky) : Int := if (decide (L.length ≤ 100) && mayq L) = true then 0 else 1
def paL (L : List Ky) : List Int := if paE L = 0 then eks L else []
theorem paE_no {L : List Ky} (h : (decide (L.length ≤ 100) && mayq L) = false) : paE L = 1 ∧ paL L = [] := by
  have e : paE L = 1 := by rw [paE, if_neg (by rw [h]; decide)]
  exact ⟨e, by rw [paL, e]; rfl⟩
theorem paE_yes {L : List Ky} (h : L.length ≤ 100) (h2 : mayq L = true) : paE L = 0 ∧ paL L = eks L := by
  have e : paE L = 0 := by rw [paE, h2, decide_eq_true h]; rfl
  exact ⟨e, by rw [paL, if_pos e]⟩
theorem kws_wrd {L : List Ky} (ok : ∀ x ∈ L, Okk x) (hm : mayq L = true) : Wrd (kws L) := by
  intro y hy
  obtain ⟨x, hx, h⟩ := List.mem_flatMap.1 hy
  have ox := ok x hx
  have hw := (win_iff _ _ _).1 ((mayq_iff L).1 hm x hx)
  simp only [List.mem_cons, List.not_mem_nil, or_false] at h
  rcases h with rfl | rfl | rfl
  · omega
  · exact ox.i
  · exact ox.v
theorem mayask_any (x : Ky) (w : World) : Calls Try.prog 44 #[.agg #[.int .i64 x.t, .int .u32 x.i, .int .u32 x.v]] w fun e w' => e = .returned (.bool (win x.t 1 7)) ∧ Below w.heap.size w w' := by
  obtain ⟨W0, hW0⟩ : ∃ V, w.alloc (.cells #[.int .i64 x.t, .int .u32 x.i, .int .u32 x.v] 76) = V := ⟨_, rfl⟩
  have bW0 : Below w.heap.size w W0 := by rw [← hW0]; exact below_alloc1 _ _
  have sW0 : W0.heap.size = w.heap.size + 1 := by rw [← hW0]; simp
  have KX : Hid (∀ V, Below W0.heap.size W0 V → V.cell? ⟨w.heap.size, 0, none⟩ = some (.int .i64 x.t) ∧ V.cell? ⟨w.heap.size, 1, none⟩ = some (.int .u32 x.i) ∧ V.cell? ⟨w.heap.size, 2, none⟩ = some (.int .u32 x.v)) := Lib.hid (fun V hV => kb3_new hW0 hV)
  obtain ⟨k0, k1, k2⟩ := KX.out _ (Below.refl _ _)
  clear KX
  go_enter Try.func44, Try.ntmps44
  go_wp2_with fail
  refine (dwithin_any _ _ _ _).mono ?_
  rintro e _ ⟨rfl, rfl⟩
  go_wp2
  go_ret
  exact ⟨rfl, bW0⟩
set_option maxRecDepth 100000 in
set_option maxHeartbeats 4000000 in
theorem putask_any (A : Option Addr) (n c : Nat) (L : List Ky) (w : World) (hn : L.length = n) (ok : ∀ x ∈ L, Okk x) (hl : kRr w A L) (hll : n ≤ 10000) :
    Calls Try.prog 15 #[.slice A n c] w fun e w' => ∃ A' c', e = .returned (.tuple #[.slice A' (paL L).length c', .int .i64 (paE L)]) ∧ Own .u8 5 w' w.heap.size A' c' (paL L) ∧ Below w.heap.size w w' := by
  obtain ⟨E, hE⟩ : ∃ E, paE L = E := ⟨_, rfl⟩
  obtain ⟨P, hP⟩ : ∃ P, paL L = P := ⟨_, rfl⟩
  have HNo : Hid (¬ n ≤ 100 ∨ mayq L = false → E = 1 ∧ P = []) := Lib.hid (fun h => by
    rw [← hE, ← hP]
    refine paE_no ?_
    rw [hn]
    rcases h with h | h
    · rw [decide_eq_false h]; rfl
    · rw [h]; simp)
  have HYes : Hid (n ≤ 100 → mayq L = true → E = 0 ∧ P = eks L) := Lib.hid (fun h h2 => by rw [← hE, ← hP]; exact paE_yes (by rw [hn]; exact h) h2)
  rw [hE, hP]
  clear hE hP
  by_cases hq : (n : Int) > 100
  · obtain ⟨e1, e2⟩ := HNo.out (.inl (by omega))
    subst e1 e2
    clear HNo HYes
    go_enter Try.func15, Try.ntmps15
    go_wp2
    go_ret2
    exact ⟨none, 0, rfl, Own.nil _ _, Below.refl _ _⟩
  have hn100 : n ≤ 100 := by omega
  obtain ⟨i0, hi0, hz0, hz1, hz2⟩ := info_of info23
  obtain ⟨z, w1, hz, hmk, hO, hB1⟩ := mk_own (P := Try.prog) w 74 22 .u32 i0 Try.underlying74 hi0 hz0 hz1 .i64 .i64 0 ((n : Int) * 3) 0 (n * 3) rfl (by omega) (by omega) (by rw [hz2]; omega) (by unfold maxLen; omega)
  obtain rfl := List.eq_nil_of_length_eq_zero hz
  have hw20 : (n : Int) * 3 ≤ 300 := by omega
  have HLN := Lib.hid hn
  have HL := Lib.hid hl
  have OK := Lib.hid ok
  have HO := Lib.hid hO
  have HB := Lib.hid hB1
  clear hz hn hl ok hO hB1
  go_enter Try.func15, Try.ntmps15
  go_wp2_with fail
  clear hmk hw20
  go_loopg [4, 16] n (fun gf v4 v16 wx => ∃ (j x : Nat) (A' : Option Addr) (c' : Nat), v4 = .slice A' x c' ∧ v16 = .int .i64 (j : Int) ∧ Hid (gf + j = n) ∧ Hid (x = j * 3) ∧ Hid (Own .u32 22 wx w.heap.size A' c' (kws (L.take j))) ∧ Hid (∀ y ∈ L.take j, win y.t 1 7 = true) ∧ Hid (Below w.heap.size w wx))
  case atStart => exact ⟨0, 0, _, _, rfl, rfl, Lib.hid (by omega), Lib.hid (by omega), Lib.hid (by simpa [kws] using HO.out), Lib.hid (by simp), HB⟩
  case round =>
    obtain ⟨j, x, A', c', rfl, rfl, hj, hx, ho, hm, hb⟩ := hrel
    have hj' := hj.out
    clear HO HB
    cases gk with
    | zero =>
      have lt0 : decide ((j : Int) < (n : Int)) = false := by simp; omega
      have lt1 : decide (j < n) = false := by simp; omega
      have HT : Hid (L.take j = L) := Lib.hid (List.take_of_length_le (by rw [HLN.out]; omega))
      have hma : mayq L = true := (mayq_iff L).2 (by have := hm.out; rwa [HT.out] at this)
      have HF : Hid (E = 0 ∧ P = eks L) := Lib.hid (HYes.out hn100 hma)
      have ho2 := ho.out
      rw [HT.out] at ho2
      have hxl : (kws L).length = x := by rw [kws_length, HLN.out]; have := hx.out; omega
      have CR := row_any A' c' (kws L) wr.heap.size 4 wr ho2.bs (kws_wrd OK.out hma) (Nat.le_refl _) (by have := hx.out; omega)
      have e1 : rowE (kws L) 4 = 0 := rowE_fits (by decide) (by decide) (fun y hy => by have := (kws_wrd OK.out hma y hy).2; simpa using this)
      have e2 : rowL (kws L) 4 = eks L := by rw [rowL, if_pos e1]; exact flat_kws L
      rw [e1, e2, hxl] at CR
      obtain ⟨p, hp⟩ : ∃ p, (eks L).length = p := ⟨_, rfl⟩
      rw [hp] at CR
      have HP := Lib.hid hp
      clear hma ho2 hxl e1 e2 hp
      go_wp2_with fail
      refine CR.mono ?_
      rintro e Y2 ⟨A2, c2, rfl, o2, u2⟩
      go_wp2
      go_ret2
      rw [HF.out.1, HF.out.2, HP.out]
      exact ⟨A2, c2, rfl, o2.lower hb.out.size, hb.out.trans (u2.mono hb.out.size)⟩
    | succ gf =>
      have hlt : j < L.length := by rw [HLN.out]; omega
      have lt0 : (j : Int) < (n : Int) := by omega
      have hw1 : (j : Int) + 1 ≤ 10000 := by omega
      obtain ⟨bb, off, hA, _, e0, e1, e2⟩ := krd_at (kRr.step HL.out hb.out) hlt
      subst hA
      have hmem := kg_mem hlt
      have HV : Hid (L.take (j + 1) = L.take j ++ [kg L j]) := Lib.hid (ktake hlt)
      obtain ⟨y, hy⟩ : ∃ y, kg L j = y := ⟨_, rfl⟩
      rw [hy] at e0 e1 e2 hmem HV
      have HSL : Hid ((kws (L.take j)).length = x) := Lib.hid (by
        rw [kws_length, List.length_take, HLN.out]
        have := hx.out
        omega)
      obtain ⟨W1, hW1⟩ : ∃ V, wr.alloc (.cells #[Value.int .i64 y.t, .int .u32 y.i, .int .u32 y.v] 76) = V := ⟨_, rfl⟩
      have b1 : Below wr.heap.size wr W1 := by rw [← hW1]; exact below_alloc1 _ _
      have KY : Hid (∀ V, Below W1.heap.size W1 V → V.cell? ⟨wr.heap.size, 0, none⟩ = some (.int .i64 y.t) ∧ V.cell? ⟨wr.heap.size, 1, none⟩ = some (.int .u32 y.i) ∧ V.cell? ⟨wr.heap.size, 2, none⟩ = some (.int .u32 y.v)) := Lib.hid (fun V hV => kb3_new hW1 hV)
      have hmk := Lib.hid hmem
      obtain ⟨⟨oi0, oi1⟩, ov0, ov1⟩ := OK.out y hmem
      have CH := mayask_any y W1
      have HB1 : Hid (Below w.heap.size w W1) := Lib.hid (hb.out.trans (b1.mono hb.out.size))
      have ho1 := Lib.hid (Own.step ho.out b1)
      obtain ⟨y0, y1, y2⟩ := KY.out _ (Below.refl _ _)
      clear hy hmem hlt b1
      obtain ⟨qm, hqm⟩ : ∃ q, win y.t 1 7 = q := ⟨_, rfl⟩
      rw [hqm] at CH
      cases qm with
      | false =>
        obtain ⟨f1, f2⟩ := HNo.out (.inr (mayq_no hmk.out hqm))
        have F1 := Lib.hid f1
        have F2 := Lib.hid f2
        clear hqm f1 f2
        go_wp2_with fail
        refine CH.mono ?_
        rintro e Y2 ⟨rfl, u2⟩
        go_wp2
        go_ret2
        rw [F1.out, F2.out]
        exact ⟨none, 0, rfl, Own.nil _ _, HB1.out.trans (u2.mono HB1.out.size)⟩
      | true =>
        have HM := Lib.hid hqm
        have hwt := (win_iff _ _ _).1 hqm
        have hwk : IntKind.u32.wrap y.t = y.t := wrap_u32 (by omega) (by omega)
        have hx2 : x ≤ 300 := by have := hx.out; omega
        clear hqm
        go_wp2_with fail
        refine CH.mono ?_
        rintro e Y2 ⟨rfl, u2⟩
        clear y0 y1 y2 e0 e1 e2 CH
        obtain ⟨y0, y1, y2⟩ := KY.out _ u2
        obtain ⟨Y3, hY3⟩ : ∃ V, Y2.alloc (.cells #[.int .u32 y.t, .int .u32 y.i, .int .u32 y.v] 22) = V := ⟨_, rfl⟩
        have u3 : Below Y2.heap.size Y2 Y3 := by rw [← hY3]; exact below_alloc1 _ _
        obtain ⟨k3, hk3⟩ : ∃ k, Y2.heap.size = k := ⟨_, rfl⟩
        have zr : Bs .u32 Y3 Y3.heap.size (some ⟨k3, 0, none⟩) [y.t, y.i, y.v] := by
          rw [← hY3]
          exact Bs.mk _ _ _ _ _ _ hk3 (by simp [maxLen]) rfl
        have u23 := u2.trans (u3.mono u2.size)
        have HB3 : Hid (Below w.heap.size w Y3) := Lib.hid (HB1.out.trans (u23.mono HB1.out.size))
        obtain ⟨A4, c4, Y4, rY4, oY4, tY4⟩ := run_apn (P := Try.prog) Y3 w.heap.size 74 74 22 .u32 i0 _ 4 Try.underlying74 hi0 hz0 hz1 hz2 rfl _ _ _ (Own.step ho1.out u23) _ (some ⟨k3, 0, none⟩) 3 _ zr x 3 HSL.out rfl (by unfold maxLen; omega) (by omega) HB3.out.size
        have HB4 : Hid (Below w.heap.size w Y4) := Lib.hid (HB3.out.trans tY4)
        have HO4 := Lib.hid oY4
        clear u2 u3 u23 zr tY4 oY4 hW1 KY
        go_wp2_with (at_builtin; refine wpList_runb _ rfl (.tmp 23) (.tmp 31) 74 rfl rfl rfl rY4 ?_)
        go_roundg gf
        case measure => omega
        case rel => exact ⟨j + 1, x + 3, A4, c4, rfl, by go_num, Lib.hid (by omega), Lib.hid (by have := hx.out; omega), Lib.hid (by rw [HV.out, kws_snoc]; exact HO4.out), Lib.hid (by rw [HV.out]; intro z hz; rcases List.mem_append.1 hz with q | q; exact hm.out z q; obtain rfl := List.mem_singleton.1 q; exact HM.out), HB4⟩
set_option maxRecDepth 100000 in
set_option maxHeartbeats 4000000 in
theorem rputask_any (A : Option Addr) (n c : Nat) (L : List Ky) (w : World) (hn : L.length = n) (ok : ∀ x ∈ L, Okk x) (hl : kRr w A L) (hll : n ≤ 10000) :
    Calls Try.prog 16 #[.slice A n c] w fun e w' => ∃ A' c', e = .returned (.tuple #[.slice A' (paL L).length c', .int .i64 (paE L)]) ∧ Own .u8 5 w' w.heap.size A' c' (paL L) ∧ Below w.heap.size w w' := by
  obtain ⟨E, hE⟩ : ∃ E, paE L = E := ⟨_, rfl⟩
  obtain ⟨P, hP⟩ : ∃ P, paL L = P := ⟨_, rfl⟩
  have HNo : Hid (¬ n ≤ 100 ∨ mayq L = false → E = 1 ∧ P = []) := Lib.hid (fun h => by
    rw [← hE, ← hP]
    refine paE_no ?_
    rw [hn]
    rcases h with h | h
    · rw [decide_eq_false h]; rfl
    · rw [h]; simp)
  have HYes : Hid (n ≤ 100 → mayq L = true → E = 0 ∧ P = eks L) := Lib.hid (fun h h2 => by rw [← hE, ← hP]; exact paE_yes (by rw [hn]; exact h) h2)
  rw [hE, hP]
  clear hE hP
  by_cases hq : (n : Int) > 100
  · obtain ⟨e1, e2⟩ := HNo.out (.inl (by omega))
    subst e1 e2
    clear HNo HYes
    go_enter Try.func16, Try.ntmps16
    go_wp2
    go_ret2
    exact ⟨none, 0, rfl, Own.nil _ _, Below.refl _ _⟩
  have hn100 : n ≤ 100 := by omega
  obtain ⟨i0, hi0, hz0, hz1, hz2⟩ := info_of info5
  obtain ⟨W0, hW0⟩ : ∃ V, w.alloc (.cells #[] 5) = V := ⟨_, rfl⟩
  have bW0 : Below w.heap.size w W0 := by rw [← hW0]; exact below_alloc1 _ _
  have HO : Hid (Own .u8 5 W0 w.heap.size (some ⟨w.heap.size, 0, none⟩) 0 []) := Lib.hid (by rw [← hW0]; exact Own.empty w _ (Nat.le_refl _) _ _)
  have HB := Lib.hid bW0
  have HLN := Lib.hid hn
  have HL := Lib.hid hl
  have OK := Lib.hid ok
  clear hn hl ok bW0
  go_enter Try.func16, Try.ntmps16
  go_wp2_with fail
  go_loopg [4, 5] n (fun gf v4 v5 wx => ∃ (j x : Nat) (A' : Option Addr) (c' : Nat), v4 = .slice A' x c' ∧ v5 = .int .i64 (j : Int) ∧ Hid (gf + j = n) ∧ Hid (x = j * 12) ∧ Hid (Own .u8 5 wx w.heap.size A' c' (eks (L.take j))) ∧ Hid (∀ y ∈ L.take j, win y.t 1 7 = true) ∧ Hid (Below w.heap.size w wx))
  case atStart => exact ⟨0, 0, _, _, rfl, rfl, Lib.hid (by omega), Lib.hid (by omega), Lib.hid (by simpa [eks] using HO.out), Lib.hid (by simp), HB⟩
  case round =>
    obtain ⟨j, x, A', c', rfl, rfl, hj, hx, ho, hm, hb⟩ := hrel
    have hj' := hj.out
    clear HO HB
    cases gk with
    | zero =>
      have lt0 : decide ((j : Int) < (n : Int)) = false := by simp; omega
      have lt1 : decide (j < n) = false := by simp; omega
      have HT : Hid (L.take j = L) := Lib.hid (List.take_of_length_le (by rw [HLN.out]; omega))
      have HF : Hid (E = 0 ∧ P = eks L) := Lib.hid (HYes.out hn100 ((mayq_iff L).2 (by have := hm.out; rwa [HT.out] at this)))
      have HX : Hid (P.length = x) := Lib.hid (by rw [HF.out.2, eks_length, HLN.out]; have := hx.out; omega)
      go_wp2
      go_ret2
      refine ⟨A', c', ?_, ?_, hb.out⟩
      · rw [HX.out, HF.out.1]
        rfl
      · rw [HF.out.2]
        have := ho.out
        rwa [HT.out] at this
    | succ gf =>
      have hlt : j < L.length := by rw [HLN.out]; omega
      have lt0 : (j : Int) < (n : Int) := by omega
      have hw1 : (j : Int) + 1 ≤ 10000 := by omega
      obtain ⟨bb, off, hA, hbb, e0, e1, e2⟩ := krd_at (kRr.step HL.out hb.out) hlt
      have KE : Hid (∀ V, Below w.heap.size w V → V.cell? ⟨bb, off + j * 3, none⟩ = some (.int .i64 (kg L j).t) ∧ V.cell? ⟨bb, off + j * 3 + 1, none⟩ = some (.int .u32 (kg L j).i) ∧ V.cell? ⟨bb, off + j * 3 + 2, none⟩ = some (.int .u32 (kg L j).v)) := Lib.hid (fun V hV => by
        obtain ⟨b', off', hA', _, e0, e1, e2⟩ := krd_at (kRr.step HL.out hV) hlt
        rw [hA] at hA'
        injection hA' with hA'
        injection hA' with q1 q2
        subst q1 q2
        exact ⟨e0, e1, e2⟩)
      subst hA
      have hmem := kg_mem hlt
      have HV : Hid (L.take (j + 1) = L.take j ++ [kg L j]) := Lib.hid (ktake hlt)
      obtain ⟨y, hy⟩ : ∃ y, kg L j = y := ⟨_, rfl⟩
      rw [hy] at e0 e1 e2 hmem HV KE
      have HSL : Hid ((eks (L.take j)).length = x) := Lib.hid (by
        rw [eks_length, List.length_take, HLN.out]
        have := hx.out
        omega)
      have hmk := Lib.hid hmem
      obtain ⟨⟨oi0, oi1⟩, ov0, ov1⟩ := OK.out y hmem
      clear hy hmem hlt
      by_cases hq : win y.t 1 7 = true
      case neg =>
        have hq2 : win y.t 1 7 = false := by simpa using hq
        obtain ⟨f1, f2⟩ := HNo.out (.inr (mayq_no hmk.out hq2))
        have F1 := Lib.hid f1
        have F2 := Lib.hid f2
        have hqq : y.t < 1 ∨ 7 < y.t := by
          by_cases z : y.t < 1 ∨ 7 < y.t
          · exact z
          · exact absurd ((win_iff _ _ _).2 (by omega)) hq
        clear hq hq2 f1 f2
        rcases hqq with h3 | h4
        · go_wp2
          go_ret2
          rw [F1.out, F2.out]
          exact ⟨none, 0, rfl, Own.nil _ _, hb.out⟩
        · have h3 : ¬ (y.t < 1) := by omega
          have h5 : y.t > 7 := by omega
          go_wp2
          go_ret2
          rw [F1.out, F2.out]
          exact ⟨none, 0, rfl, Own.nil _ _, hb.out⟩
      have HM := Lib.hid hq
      have hwt := (win_iff _ _ _).1 hq
      have h3 : ¬ (y.t < 1) := by omega
      have h4 : ¬ (y.t > 7) := by omega
      have hwk : IntKind.u32.wrap y.t = y.t := wrap_u32 (by omega) (by omega)
      have hx2 : x ≤ 1200 := by have := hx.out; omega
      have tt : Below wr.heap.size wr wr := Below.refl _ _
      have HPE : Hid (((eks (L.take j) ++ be y.t 4) ++ be y.i 4) ++ be y.v 4 = eks (L.take (j + 1))) := Lib.hid (by rw [HV.out, eks_snoc, ek]; simp only [List.append_assoc])
      obtain ⟨P0, hP0⟩ : ∃ P0, eks (L.take j) = P0 := ⟨_, rfl⟩
      rw [hP0] at ho HSL HPE
      have HS1 : Hid ((P0 ++ be y.t 4).length = x + 4) := Lib.hid (by rw [List.length_append, be_length, HSL.out])
      have HS2 : Hid (((P0 ++ be y.t 4) ++ be y.i 4).length = x + 4 + 4) := Lib.hid (by rw [List.length_append, be_length, HS1.out])
      clear hq hP0
      go_wp2_with fail
      refine (four_any y.t _ (by omega) (by omega)).mono ?_
      rintro e Y1 ⟨A1, c1, rfl, o1, u1⟩
      clear e0 e1 e2
      have HB1 : Hid (Below w.heap.size w Y1) := Lib.hid (hb.out.trans (u1.mono hb.out.size))
      obtain ⟨A2, c2, Y2, rY2, oY2, tY2⟩ := run_apn (P := Try.prog) Y1 w.heap.size 26 26 5 .u8 i0 _ 1 Try.underlying26 hi0 hz0 hz1 hz2 rfl _ _ _ (Own.step ho.out u1) _ A1 c1 _ o1.bs x 4 HSL.out (be_length _ _) (by unfold maxLen; omega) (by omega) HB1.out.size
      have T2 : Hid (Below w.heap.size w Y2) := Lib.hid (HB1.out.trans tY2)
      have O2 := Lib.hid oY2
      clear o1 u1 tY2 oY2
      obtain ⟨e0, e1, e2⟩ := KE.out _ T2.out
      go_wp2_with (at_builtin; refine wpList_runb _ rfl (.tmp 30) (.tmp 37) 26 rfl rfl rfl rY2 ?_)
      clear rY2
      refine (four_any y.i _ (by omega) (by omega)).mono ?_
      rintro e Y3 ⟨A3, c3, rfl, o3, u3⟩
      clear e0 e1 e2
      have HB3 : Hid (Below w.heap.size w Y3) := Lib.hid (T2.out.trans (u3.mono T2.out.size))
      obtain ⟨A4, c4, Y4, rY4, oY4, tY4⟩ := run_apn (P := Try.prog) Y3 w.heap.size 26 26 5 .u8 i0 _ 1 Try.underlying26 hi0 hz0 hz1 hz2 rfl _ _ _ (Own.step O2.out u3) _ A3 c3 _ o3.bs (x + 4) 4 HS1.out (be_length _ _) (by unfold maxLen; omega) (by omega) HB3.out.size
      have T4 : Hid (Below w.heap.size w Y4) := Lib.hid (HB3.out.trans tY4)
      have O4 := Lib.hid oY4
      clear o3 u3 tY4 oY4
      obtain ⟨e0, e1, e2⟩ := KE.out _ T4.out
      go_wp2_with (at_builtin; refine wpList_runb _ rfl (.tmp 39) (.tmp 45) 26 rfl rfl rfl rY4 ?_)
      clear rY4
      refine (four_any y.v _ (by omega) (by omega)).mono ?_
      rintro e Y5 ⟨A5, c5, rfl, o5, u5⟩
      clear e0 e1 e2
      have HB5 : Hid (Below w.heap.size w Y5) := Lib.hid (T4.out.trans (u5.mono T4.out.size))
      obtain ⟨A6, c6, Y6, rY6, oY6, tY6⟩ := run_apn (P := Try.prog) Y5 w.heap.size 26 26 5 .u8 i0 _ 1 Try.underlying26 hi0 hz0 hz1 hz2 rfl _ _ _ (Own.step O4.out u5) _ A5 c5 _ o5.bs (x + 4 + 4) 4 HS2.out (be_length _ _) (by unfold maxLen; omega) (by omega) HB5.out.size
      have T6 : Hid (Below w.heap.size w Y6) := Lib.hid (HB5.out.trans tY6)
      have O6 := Lib.hid oY6
      clear o5 u5 tY6 oY6
      go_wp2_with (at_builtin; refine wpList_runb _ rfl (.tmp 47) (.tmp 53) 26 rfl rfl rfl rY6 ?_)
      go_roundg gf
      case measure => omega
      case rel => exact ⟨j + 1, x + 4 + 4 + 4, A6, c6, rfl, by go_num, Lib.hid (by omega), Lib.hid (by have := hx.out; omega), Lib.hid (by rw [← HPE.out]; exact O6.out), Lib.hid (by rw [HV.out]; intro z hz; rcases List.mem_append.1 hz with q | q; exact hm.out z q; obtain rfl := List.mem_singleton.1 q; exact HM.out), T6⟩
end Go.Proofs.Ytefbpaebimagaaa
