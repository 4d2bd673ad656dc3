/-
  Rows of advertisements; contracts of dbd.PutAds and of the reference's. No statement is proved here; no conditions.
-/
import Derived.Test.YtefbpaebimagaaaRWe
import Derived.Test.YtefbpaebimagaaaSp
import Derived.Test.YtefbpaebimagaaaPh
namespace Go.Proofs.Ytefbpaebimagaaa
open Go.RowKit Go.Joins

/-- What an advertisement says. -/
abbrev Ct := Hd × List Int
def con (x : Ae) : Ct := (x.h, x.l)
def cons (L : List Ae) : List Ct := L.map con
theorem cons_length (L : List Ae) : (cons L).length = L.length := by simp [cons]
/-- The row is read at A, and so are the bodies. -/
def Arr (w : World) (A : Option Addr) (L : List Ae) : Prop := Rd (fun _ => True) w A (aflat L) ∧ ∀ x ∈ L, Bt w x.A x.l
theorem Arr.step {w w' : World} {A : Option Addr} {L : List Ae} (h : Arr w A L) (k : Below w.heap.size w w') : Arr w' A L :=
  ⟨Rd.keep h.1 k.size fun j _ hj => k.block j hj, fun x hx => Bs.step (h.2 x hx) k⟩
theorem Arr.nil (w : World) (A : Option Addr) : Arr w A [] := ⟨Rd.nil A, fun x hx => by cases hx⟩
/-- Its numbers have their widths, its body is of bytes, and not too long. -/
structure Oka (x : Ct) : Prop where
  h : Okd x.1
  y : Byt x.2
  n : x.2.length ≤ 1600
def Okas (L : List Ct) : Prop := ∀ x ∈ L, Oka x
theorem okas_at {L : List Ae} (ok : Okas (cons L)) {x : Ae} (hx : x ∈ L) : Oka (con x) := ok _ (List.mem_map.2 ⟨x, hx, rfl⟩)
/-- The encodings of advertisements. -/
def ec (x : Ct) : List Int := ehd x.1 ++ x.2
def ecs (L : List Ct) : List Int := L.flatMap ec
theorem ecs_snoc (L : List Ct) (x : Ct) : ecs (L ++ [x]) = ecs L ++ ec x := by simp [ecs]
def wh (x : Ct) : Bool := whl x.1 x.2
def whs (L : List Ct) : Bool := L.all wh
theorem whs_iff (L : List Ct) : whs L = true ↔ ∀ x ∈ L, wh x = true := by simp [whs]
theorem whs_no {L : List Ct} {x : Ct} (h : x ∈ L) (hx : wh x = false) : whs L = false := by
  cases q : whs L with
  | false => rfl
  | true => rw [(whs_iff L).1 q x h] at hx; cases hx
theorem wh_may {x : Ct} (h : wh x = true) : maya x.1 x.2 = true := by
  unfold wh whl at h
  simp only [Bool.and_eq_true] at h
  exact h.1
theorem may_len {x : Ct} (h : maya x.1 x.2 = true) : x.2.length ≤ 1380 ∧ (ec x).length = 20 + x.2.length ∧ x.1.n = 20 + (x.2.length : Int) := by
  unfold maya at h
  simp only [Bool.and_eq_true, decide_eq_true_eq] at h
  have := (mayd_iff _).1 h.1
  refine ⟨by omega, by rw [ec, List.length_append, ehd_length], h.2⟩
theorem ecs_len {L : List Ct} (h : ∀ x ∈ L, (ec x).length ≤ 1400) : (ecs L).length ≤ L.length * 1400 := by
  induction L with
  | nil => simp [ecs]
  | cons x L ih =>
    have e : ecs (x :: L) = ec x ++ ecs L := by simp [ecs]
    have := ih (fun y hy => h y (by simp [hy]))
    have := h x (by simp)
    rw [e, List.length_append, List.length_cons]
    omega
theorem whs_len {L : List Ct} (h : whs L = true) : (ecs L).length ≤ L.length * 1400 := ecs_len fun x hx => by
  have := may_len (wh_may ((whs_iff L).1 h x hx))
  omega
theorem ec_byt {x : Ct} (ok : Oka x) : Byt (ec x) := (ehd_byt _).append ok.y
theorem ecs_byt {L : List Ct} (ok : Okas L) : Byt (ecs L) := by
  intro y hy
  obtain ⟨x, hx, h⟩ := List.mem_flatMap.1 hy
  exact ec_byt (ok x hx) y h
/-- Why these advertisements are not written; 0 if they are; as what. -/
def puE (L : List Ct) : Int := if (decide (L.length ≤ 50) && (whs L && decide ((ecs L).length ≤ 1472))) = true then 0 else 1
def puL (L : List Ct) : List Int := if puE L = 0 then be (L.length : Int) 4 ++ ecs L else []
theorem puE_no {L : List Ct} (h : ¬ L.length ≤ 50 ∨ whs L = false ∨ ¬ (ecs L).length ≤ 1472) : puE L = 1 ∧ puL L = [] := by
  have e : puE L = 1 := by
    rw [puE, if_neg]
    rcases h with h | h | h
    · rw [decide_eq_false h]; simp
    · rw [h]; simp
    · rw [decide_eq_false h]; simp
  exact ⟨e, by rw [puL, e]; rfl⟩
theorem puE_yes {L : List Ct} (h : L.length ≤ 50) (h1 : whs L = true) (h2 : (ecs L).length ≤ 1472) : puE L = 0 ∧ puL L = be (L.length : Int) 4 ++ ecs L := by
  have e : puE L = 0 := by rw [puE, h1, decide_eq_true h, decide_eq_true h2]; rfl
  exact ⟨e, by rw [puL, if_pos e]⟩
theorem cons_take (L : List Ae) (k : Nat) : cons (L.take k) = (cons L).take k := by simp [cons, List.map_take]
theorem cons_snoc (L : List Ae) (x : Ae) : cons (L ++ [x]) = cons L ++ [con x] := by simp [cons]
set_option maxRecDepth 100000 in
set_option maxHeartbeats 8000000 in
theorem putads_any (A : Option Addr) (n c : Nat) (L : List Ae) (w : World) (hn : L.length = n) (ok : Okas (cons L)) (hl : Arr w A L) (hll : n ≤ 10000) :
    Calls Try.prog 26 #[.slice A n c] w fun e w' => ∃ A' c', e = .returned (.tuple #[.slice A' (puL (cons L)).length c', .int .i64 (puE (cons L))]) ∧ Own .u8 5 w' w.heap.size A' c' (puL (cons L)) ∧ Below w.heap.size w w' := by
  obtain ⟨E, hE⟩ : ∃ E, puE (cons L) = E := ⟨_, rfl⟩
  obtain ⟨P, hP⟩ : ∃ P, puL (cons L) = P := ⟨_, rfl⟩
  have hcl : (cons L).length = n := by rw [cons_length, hn]
  have HNo : Hid (¬ n ≤ 50 ∨ whs (cons L) = false ∨ ¬ (ecs (cons L)).length ≤ 1472 → E = 1 ∧ P = []) := Lib.hid (fun h => by rw [← hE, ← hP]; exact puE_no (by rw [hcl]; exact h))
  have HYes : Hid (n ≤ 50 → whs (cons L) = true → (ecs (cons L)).length ≤ 1472 → E = 0 ∧ P = be (n : Int) 4 ++ ecs (cons L)) := Lib.hid (fun h h2 h3 => by
    rw [← hE, ← hP]
    have := puE_yes (L := cons L) (by rw [hcl]; exact h) h2 h3
    rwa [hcl] at this)
  rw [hE, hP]
  clear hE hP hcl
  by_cases hq : (n : Int) > 50
  · obtain ⟨e1, e2⟩ := HNo.out (.inl (by omega))
    subst e1 e2
    clear HNo HYes
    go_enter Try.func26, Try.ntmps26
    go_wp2
    go_ret2
    exact ⟨none, 0, rfl, Own.nil _ _, Below.refl _ _⟩
  have hn50 : n ≤ 50 := by omega
  have hwn : IntKind.u32.wrap (n : Int) = (n : Int) := wrap_u32 (by omega) (by omega)
  have CF := dfield_any (n : Int) 4 4 w rfl (by decide) (by decide) (by omega) (by omega) (by simp; omega)
  obtain ⟨i0, hi0, hz0, hz1, hz2⟩ := info_of info5
  have HLN := Lib.hid hn
  have HL := Lib.hid hl
  have OK := Lib.hid ok
  clear hn hl ok
  go_enter Try.func26, Try.ntmps26
  go_wp2_with fail
  refine CF.mono ?_
  rintro e Y0 ⟨A0, c0, rfl, o0, u0⟩
  have HO := Lib.hid o0
  have HB := Lib.hid u0
  clear o0 u0 CF
  go_wp2_with fail
  go_loopg [4, 18] n (fun gf v4 v18 wx => ∃ (j x : Nat) (A' : Option Addr) (c' : Nat), v4 = .slice A' x c' ∧ v18 = .int .i64 (j : Int) ∧ Hid (gf + j = n) ∧ Hid ((be (n : Int) 4 ++ ecs (cons (L.take j))).length = x ∧ x ≤ 4 + j * 1400) ∧ Hid (Own .u8 5 wx w.heap.size A' c' (be (n : Int) 4 ++ ecs (cons (L.take j)))) ∧ Hid (∀ y ∈ L.take j, wh (con y) = true) ∧ Hid (Below w.heap.size w wx))
  case atStart => exact ⟨0, 4, _, _, rfl, rfl, Lib.hid (by omega), Lib.hid (by simp [cons, ecs, be_length]), Lib.hid (by simpa [cons, ecs] using HO.out), Lib.hid (by simp), HB⟩
  case round =>
    obtain ⟨j, x, A', c', rfl, rfl, hj, hx, ho, hm, hb⟩ := hrel
    have hj' := hj.out
    clear HO HB
    cases gk with
    | zero =>
      have lt0 : decide ((j : Int) < (n : Int)) = false := by simp; omega
      have lt1 : decide (j < n) = false := by simp; omega
      have HT : Hid (L.take j = L) := Lib.hid (List.take_of_length_le (by rw [HLN.out]; omega))
      have hwa : whs (cons L) = true := (whs_iff _).2 (by
        intro y hy
        obtain ⟨z, hz, rfl⟩ := List.mem_map.1 hy
        exact hm.out z (by rw [HT.out]; exact hz))
      have hxl := hx.out.1
      rw [HT.out, List.length_append, be_length] at hxl
      by_cases hbig : (x : Int) > 1476
      · obtain ⟨e1, e2⟩ := HNo.out (.inr (.inr (by omega)))
        have F1 := Lib.hid e1
        have F2 := Lib.hid e2
        clear e1 e2 hwa hxl
        go_wp2
        go_ret2
        rw [F1.out, F2.out]
        exact ⟨none, 0, rfl, Own.nil _ _, hb.out⟩
      · have HF : Hid (E = 0 ∧ P = be (n : Int) 4 ++ ecs (cons L)) := Lib.hid (HYes.out hn50 hwa (by omega))
        have HX : Hid (P.length = x) := Lib.hid (by rw [HF.out.2, List.length_append, be_length]; exact hxl)
        clear hwa hxl
        go_wp2
        go_ret2
        refine ⟨A', c', ?_, ?_, hb.out⟩
        · rw [HX.out, HF.out.1]
          rfl
        · rw [HF.out.2]
          have := ho.out
          rwa [HT.out] at this
    | succ gf =>
      have hlt : j < L.length := by rw [HLN.out]; omega
      have lt0 : (j : Int) < (n : Int) := by omega
      have hw1 : (j : Int) + 1 ≤ 10000 := by omega
      have hla := Arr.step HL.out hb.out
      obtain ⟨bb, off, hA, _, e0, e1, e2, e3, e4, e5, e6, e7, e8⟩ := ard_at hla.1 hlt
      subst hA
      have hmem := ag_mem hlt
      have HV : Hid (L.take (j + 1) = L.take j ++ [ag L j]) := Lib.hid (atake hlt)
      obtain ⟨y, hy⟩ : ∃ y, ag L j = y := ⟨_, rfl⟩
      rw [hy] at e0 e1 e2 e3 e4 e5 e6 e7 e8 hmem HV
      obtain ⟨m, hym⟩ : ∃ m, y.l.length = m := ⟨_, rfl⟩
      rw [hym] at e8
      have oky := okas_at OK.out hmem
      have hm16 : m ≤ 1600 := by rw [← hym]; exact oky.n
      obtain ⟨W1, hW1⟩ : ∃ V, wr.alloc (.cells #[Value.int .i64 y.h.a, .int .i64 y.h.o, .int .i64 y.h.t, .int .u32 y.h.i, .int .u32 y.h.v, .int .u32 y.h.q, .int .i64 y.h.s, .int .i64 y.h.n, .slice y.A m y.c] 87) = V := ⟨_, rfl⟩
      have b1 : Below wr.heap.size wr W1 := by rw [← hW1]; exact below_alloc1 _ _
      have KY : Hid (∀ V, Below W1.heap.size W1 V → V.cell? ⟨wr.heap.size, 0, none⟩ = some (.int .i64 y.h.a) ∧ V.cell? ⟨wr.heap.size, 1, none⟩ = some (.int .i64 y.h.o) ∧ V.cell? ⟨wr.heap.size, 2, none⟩ = some (.int .i64 y.h.t) ∧ V.cell? ⟨wr.heap.size, 3, none⟩ = some (.int .u32 y.h.i) ∧ V.cell? ⟨wr.heap.size, 4, none⟩ = some (.int .u32 y.h.v) ∧ V.cell? ⟨wr.heap.size, 5, none⟩ = some (.int .u32 y.h.q) ∧ V.cell? ⟨wr.heap.size, 6, none⟩ = some (.int .i64 y.h.s) ∧ V.cell? ⟨wr.heap.size, 7, none⟩ = some (.int .i64 y.h.n) ∧ V.cell? ⟨wr.heap.size, 8, none⟩ = some (.slice y.A m y.c)) := Lib.hid (fun V hV => kb9_new hW1 hV)
      have hmk := Lib.hid hmem
      have qy := Bs.step (hla.2 y hmem) b1
      have CE := encode_any y.h y.A m y.c y.l W1 hym oky.h qy (by omega)
      have CW := fun V (hV : Below W1.heap.size W1 V) => whole_any y.h y.A m y.c y.l V hym oky.h (Bs.step qy hV) oky.y (by omega)
      have HB1 : Hid (Below w.heap.size w W1) := Lib.hid (hb.out.trans (b1.mono hb.out.size))
      have ho1 := Lib.hid (Own.step ho.out b1)
      have HYM := Lib.hid hym
      obtain ⟨y0, y1, y2, y3, y4, y5, y6, y7, y8⟩ := KY.out _ (Below.refl _ _)
      clear hy hmem hlt b1 hla hym oky qy
      obtain ⟨qm, hqm⟩ : ∃ q, maya y.h y.l = q := ⟨_, rfl⟩
      cases qm with
      | false =>
        have e1 : encAE y.h y.l = 1 := by simp [encAE, hqm]
        have e2 : encA y.h y.l = [] := by simp [encA, hqm]
        rw [e1, e2] at CE
        obtain ⟨f1, f2⟩ := HNo.out (.inr (.inl (whs_no (x := con y) (List.mem_map.2 ⟨y, hmk.out, rfl⟩) (by show whl y.h y.l = false; rw [whl, hqm]; rfl))))
        have F1 := Lib.hid f1
        have F2 := Lib.hid f2
        clear e1 e2 hqm f1 f2 CW
        go_wp2_with fail
        refine CE.mono ?_
        rintro e Y2 ⟨A2, c2, rfl, -, u2⟩
        clear y0 y1 y2 y3 y4 y5 y6 y7 y8 e0 e1 e2 e3 e4 e5 e6 e7 e8
        go_wp2
        go_ret2
        rw [F1.out, F2.out]
        exact ⟨none, 0, rfl, Own.nil _ _, HB1.out.trans (u2.mono HB1.out.size)⟩
      | true =>
        have e1 : encAE y.h y.l = 0 := by simp [encAE, hqm]
        have e2 : encA y.h y.l = ehd y.h ++ y.l := by simp [encA, hqm]
        have hle : (ehd y.h ++ y.l).length = 20 + m := by rw [List.length_append, ehd_length, HYM.out]
        rw [e1, e2, hle] at CE
        have hm1380 := (may_len (x := con y) hqm).1
        have hm2 : m ≤ 1380 := by rw [← HYM.out]; exact hm1380
        have HLE := Lib.hid hle
        clear e1 e2 hqm hle hm1380
        go_wp2_with fail
        refine CE.mono ?_
        rintro e Y2 ⟨A2, c2, rfl, o2, u2⟩
        clear y0 y1 y2 y3 y4 y5 y6 y7 y8 e0 e1 e2 e3 e4 e5 e6 e7 e8 CE
        have CW2 := CW Y2 u2
        obtain ⟨y0, y1, y2, y3, y4, y5, y6, y7, y8⟩ := KY.out _ u2
        obtain ⟨qw, hqw⟩ : ∃ q, whl y.h y.l = q := ⟨_, rfl⟩
        rw [hqw] at CW2
        cases qw with
        | false =>
          obtain ⟨f1, f2⟩ := HNo.out (.inr (.inl (whs_no (x := con y) (List.mem_map.2 ⟨y, hmk.out, rfl⟩) hqw)))
          have F1 := Lib.hid f1
          have F2 := Lib.hid f2
          clear hqw f1 f2 CW
          go_wp2_with fail
          refine CW2.mono ?_
          rintro e Y3 ⟨rfl, u3⟩
          clear y0 y1 y2 y3 y4 y5 y6 y7 y8
          go_wp2
          go_ret2
          rw [F1.out, F2.out]
          exact ⟨none, 0, rfl, Own.nil _ _, HB1.out.trans ((u2.trans (u3.mono u2.size)).mono HB1.out.size)⟩
        | true =>
          have HM := Lib.hid hqw
          clear hqw CW
          go_wp2_with fail
          refine CW2.mono ?_
          rintro e Y3 ⟨rfl, u3⟩
          clear y0 y1 y2 y3 y4 y5 y6 y7 y8 CW2
          have u23 := u2.trans (u3.mono u2.size)
          have HB3 : Hid (Below w.heap.size w Y3) := Lib.hid (HB1.out.trans (u23.mono HB1.out.size))
          have hx2 : x ≤ 80000 := by have := hx.out.2; omega
          have q2 := Bs.step o2.bs u3
          obtain ⟨A4, c4, Y4, rY4, oY4, tY4⟩ := run_apn (P := Try.prog) Y3 w.heap.size 26 26 5 .u8 i0 _ 1 Try.underlying26 hi0 hz0 hz1 hz2 rfl _ _ _ (Own.step ho1.out u23) _ A2 c2 _ q2 x (20 + m) hx.out.1 HLE.out (by unfold maxLen; omega) (by omega) HB3.out.size
          have HB4 : Hid (Below w.heap.size w Y4) := Lib.hid (HB3.out.trans tY4)
          have HO4 := Lib.hid oY4
          have HEC : Hid (be (n : Int) 4 ++ ecs (cons (L.take (j + 1))) = be (n : Int) 4 ++ ecs (cons (L.take j)) ++ (ehd y.h ++ y.l)) := Lib.hid (by rw [HV.out, cons_snoc, ecs_snoc, List.append_assoc]; rfl)
          clear u2 u3 u23 q2 o2 tY4 oY4 hW1 KY
          go_wp2_with (at_builtin; refine wpList_runb _ rfl (.tmp 34) (.tmp 35) 26 rfl rfl rfl rY4 ?_)
          go_roundg gf
          case measure => omega
          case rel => exact ⟨j + 1, x + (20 + m), A4, c4, rfl, by go_num, Lib.hid (by omega), Lib.hid ⟨by rw [HEC.out, List.length_append, hx.out.1, HLE.out], by have := hx.out.2; omega⟩, Lib.hid (by rw [HEC.out]; exact HO4.out), Lib.hid (by rw [HV.out]; intro z hz; rcases List.mem_append.1 hz with q | q; exact hm.out z q; obtain rfl := List.mem_singleton.1 q; exact HM.out), HB4⟩
end Go.Proofs.Ytefbpaebimagaaa
