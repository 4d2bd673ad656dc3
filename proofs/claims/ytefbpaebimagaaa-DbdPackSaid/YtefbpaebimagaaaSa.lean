/-
  Updates there and back; contracts of the law's short and of the reference's All. No statement is proved here; no conditions.
-/
import Derived.Test.YtefbpaebimagaaaRPa
import Derived.Test.YtefbpaebimagaaaBu
import Derived.Test.YtefbpaebimagaaaSm
namespace Go.Proofs.Ytefbpaebimagaaa
open Go.RowKit Go.Joins

theorem taf_puL {L : List Ct} (ok : Okas L) (h : puE L = 0) : taf (puL L) = (0, L, 0) := by
  have hg : (decide (L.length ≤ 50) && (whs L && decide ((ecs L).length ≤ 1472))) = true := by
    by_cases q : (decide (L.length ≤ 50) && (whs L && decide ((ecs L).length ≤ 1472))) = true
    · exact q
    · rw [puE, if_neg q] at h; omega
  simp only [Bool.and_eq_true, decide_eq_true_eq] at hg
  obtain ⟨h1, h2, h3⟩ := hg
  rw [(puE_yes h1 h2 h3).2]
  have key : ∀ (L : List Ct), Okas L → whs L = true → ∀ out odd, tkf L.length (ecs L) out odd = (0, out ++ L, odd) := by
    intro L
    induction L with
    | nil => intro _ _ out odd; simp [ecs, tkf]
    | cons x L ih =>
      intro ok hw out odd
      have ox := ok x (by simp)
      have hx := (whs_iff _).1 hw x (by simp)
      have hmx := wh_may hx
      obtain ⟨n1, n2, n3⟩ := may_len hmx
      have hmd : mayd x.1 = true := by
        unfold maya at hmx
        simp only [Bool.and_eq_true] at hmx
        exact hmx.1
      have e : ecs (x :: L) = ehd x.1 ++ (x.2 ++ ecs L) := by simp [ecs, ec]
      have t20 : (ecs (x :: L)).take 20 = ehd x.1 := by rw [e]; exact List.take_left' (ehd_length _)
      have r20 : rdf ((ecs (x :: L)).take 20) = x.1 := by rw [t20]; exact rdf_ehd ox.h hmd
      have len : (ecs (x :: L)).length = 20 + (x.2.length + (ecs L).length) := by rw [e, List.length_append, ehd_length, List.length_append]
      have hE : flE (ecs (x :: L)) = 0 := by rw [flE, if_neg (by omega), r20, if_pos hmd, if_neg (by omega)]
      have hb : sub (ecs (x :: L)) 20 (20 + x.2.length - 20) = x.2 := by
        rw [e, show 20 + x.2.length - 20 = x.2.length by omega]
        exact sub_mid _ _ _ 20 _ (ehd_length _) rfl
      have hd : (ecs (x :: L)).drop (20 + x.2.length) = ecs L := by
        rw [e, ← List.append_assoc]
        exact List.drop_left' (by rw [List.length_append, ehd_length])
      rw [List.length_cons, tkf_good (m := 20 + x.2.length) hE (by rw [r20]; omega), r20, hb, hd, if_pos (show whl x.1 x.2 = true from hx)]
      rw [ih (fun y hy => ok y (by simp [hy])) ((whs_iff _).2 fun y hy => (whs_iff _).1 hw y (by simp [hy]))]
      simp
  have e4 : (be (L.length : Int) 4 ++ ecs L).take 4 = be (L.length : Int) 4 := List.take_left' (be_length _ _)
  have d4 : (be (L.length : Int) 4 ++ ecs L).drop 4 = ecs L := List.drop_left' (be_length _ _)
  have nb : num (be (L.length : Int) 4) = (L.length : Int) := num_be _ 4 (by omega) (by omega)
  rw [taf, if_neg (by rw [List.length_append, be_length]; omega), e4, nb, if_neg (by omega), d4, show ((L.length : Int)).toNat = L.length by omega, key L ok h2]
  simp
theorem pu_byt {L : List Ct} (ok : Okas L) : Byt (puL L) := by
  unfold puL
  split
  · exact (be_byt _ _).append (ecs_byt ok)
  · intro z hz; cases hz
theorem pu_len (L : List Ct) : (puL L).length ≤ 4000 := by
  unfold puL
  split
  · rename_i h
    unfold puE at h
    split at h
    · rename_i q
      simp only [Bool.and_eq_true, decide_eq_true_eq] at q
      rw [List.length_append, be_length]
      omega
    · omega
  · simp
theorem tkf_len : ∀ (k : Nat) (D : List Int) (out : List Ct) (odd : Nat), (tkf k D out odd).2.1.length ≤ out.length + k
  | 0, D, out, odd => by
    rw [tkf]
    split <;> simp
  | k + 1, D, out, odd => by
    by_cases h : flE D = 0
    · rw [tkf_good h rfl]
      split
      · have := tkf_len k (D.drop (rdf (D.take 20)).n.toNat) (out ++ [(rdf (D.take 20), sub D 20 ((rdf (D.take 20)).n.toNat - 20))]) odd
        rw [List.length_append, List.length_singleton] at this
        omega
      · have := tkf_len k (D.drop (rdf (D.take 20)).n.toNat) out (odd + 1)
        omega
    · rw [tkf_bad h]
      simp
theorem taf_len (l : List Int) : (taf l).2.1.length ≤ 50 := by
  unfold taf
  split
  · simp
  · split
    · simp
    · have := tkf_len (num (l.take 4)).toNat (l.drop 4) [] 0
      simp only [List.length_nil] at this
      omega
/-- Are there few, none long? -/
def shq (L : List Ae) : Bool := decide (L.length ≤ 60) && L.all fun x => decide (x.l.length ≤ 1600)
theorem shq_iff (L : List Ae) : shq L = true ↔ L.length ≤ 60 ∧ ∀ x ∈ L, x.l.length ≤ 1600 := by simp [shq]
set_option maxRecDepth 100000 in
set_option maxHeartbeats 4000000 in
theorem short_any (A : Option Addr) (n c : Nat) (L : List Ae) (w : World) (hn : L.length = n) (hr : Arr w A L) : Calls Try.prog 25 #[.slice A n c] w fun e w' => e = .returned (.bool (shq L)) ∧ Below w.heap.size w w' := by
  obtain ⟨Q, hQ⟩ : ∃ Q, shq L = Q := ⟨_, rfl⟩
  have HNo : Hid (60 < n ∨ (∃ x ∈ L, 1600 < x.l.length) → Q = false) := Lib.hid (fun h => by
    rw [← hQ]
    cases q : shq L with
    | false => rfl
    | true =>
      obtain ⟨q1, q2⟩ := (shq_iff L).1 q
      rcases h with h | ⟨x, hx, h⟩
      · omega
      · have := q2 x hx; omega)
  have HYes : Hid (n ≤ 60 → (∀ x ∈ L.take n, x.l.length ≤ 1600) → Q = true) := Lib.hid (fun h h2 => by
    rw [← hQ]
    exact (shq_iff L).2 ⟨by omega, by rwa [List.take_of_length_le (by omega)] at h2⟩)
  rw [hQ]
  have HR := Lib.hid hr
  have HN := Lib.hid hn
  clear hr hn hQ
  go_enter Try.func25, Try.ntmps25
  go_wp2_with fail
  go_loopg [3] n (fun gf v3 wx => ∃ (k : Nat), v3 = .int .i64 (k : Int) ∧ Hid (gf + k = n) ∧ Hid (k ≤ 60 ∧ ∀ x ∈ L.take k, x.l.length ≤ 1600) ∧ Hid (Below w.heap.size w wx))
  case atStart => exact ⟨0, rfl, Lib.hid (by omega), Lib.hid ⟨by omega, fun x hx => by simp at hx⟩, Lib.hid (Below.refl _ _)⟩
  case round =>
    obtain ⟨k, rfl, hk, hx, hb⟩ := hrel
    have hk' := hk.out
    have hk6 := hx.out.1
    cases gk with
    | zero =>
      have e1 : k = n := by omega
      have lt0 : decide ((k : Int) < (n : Int)) = false := by simp; omega
      have lt1 : decide (k < n) = false := by simp; omega
      have e0 := HYes.out (by omega) (by rw [← e1]; exact hx.out.2)
      have E0 := Lib.hid e0
      clear e0 e1
      go_wp2
      go_ret
      exact ⟨by rw [E0.out]; rfl, hb.out⟩
    | succ gf =>
      have hkl : k < L.length := by rw [HN.out]; omega
      have lt0 : (k : Int) < (n : Int) := by omega
      by_cases h6 : k = 60
      · subst h6
        have E0 := Lib.hid (HNo.out (.inl (by omega)))
        clear hkl
        go_wp2
        go_ret
        exact ⟨by rw [E0.out]; rfl, hb.out⟩
      have h6' : ¬ ((k : Int) = 60) := by omega
      have h6b : ((k : Int) == 60) = false := by simpa using h6'
      have hw1 : (k : Int) + 1 ≤ 10000 := by omega
      obtain ⟨b, off, hA, _, e0, e1, e2, e3, e4, e5, e6, e7, e8⟩ := ard_at (Arr.step HR.out hb.out).1 hkl
      have hmem := ag_mem hkl
      have HV : Hid (L.take (k + 1) = L.take k ++ [ag L k]) := Lib.hid (atake hkl)
      obtain ⟨x, hxx⟩ : ∃ x, ag L k = x := ⟨_, rfl⟩
      rw [hxx] at e0 e1 e2 e3 e4 e5 e6 e7 e8 hmem HV
      have HM := Lib.hid hmem
      obtain ⟨y, hy⟩ : ∃ y, x.l.length = y := ⟨_, rfl⟩
      rw [hy] at e8
      have HY := Lib.hid hy
      subst hA
      clear hxx hkl hmem hy e0 e1 e2 e3 e4 e5 e6 e7
      by_cases h7 : 1600 < y
      · have h8 : (y : Int) > 1600 := by omega
        have E0 := Lib.hid (HNo.out (.inr ⟨x, HM.out, by rw [HY.out]; exact h7⟩))
        go_wp2
        go_ret
        exact ⟨by rw [E0.out]; rfl, hb.out⟩
      have h8 : ¬ ((y : Int) > 1600) := by omega
      go_wp2
      go_roundg gf
      case measure => omega
      case rel => exact ⟨k + 1, by go_num, Lib.hid (by omega), Lib.hid ⟨by omega, fun z hz => by
        rw [HV.out] at hz
        rcases List.mem_append.1 hz with q | q
        · exact hx.out.2 z q
        · obtain rfl := List.mem_singleton.1 q
          rw [HY.out]
          omega⟩, hb⟩
set_option maxRecDepth 100000 in
set_option maxHeartbeats 4000000 in
theorem all_any (A A' : Option Addr) (n c c' : Nat) (L L' : List Ae) (w : World) (hn : L.length = n) (hcc : cons L = cons L') (h1 : Arr w A L) (h2 : Arr w A' L') (hl : n ≤ 10000) :
    Calls Try.prog 30 #[.slice A n c, .slice A' n c'] w fun e w' => e = .returned (.bool true) ∧ Below w.heap.size w w' := by
  have hn2 : L'.length = n := by rw [← cons_length, ← hcc, cons_length, hn]
  have H1 := Lib.hid h1
  have H2 := Lib.hid h2
  have HN := Lib.hid hn
  have HN2 := Lib.hid hn2
  have HCC := Lib.hid hcc
  clear h1 h2 hn hn2 hcc
  go_enter Try.func30, Try.ntmps30
  go_wp2_with fail
  go_loopg [5] n (fun gf v5 wx => ∃ (k : Nat), v5 = .int .i64 (k : Int) ∧ Hid (gf + k = n) ∧ Hid (Below w.heap.size w wx))
  case atStart => exact ⟨0, rfl, Lib.hid (by omega), Lib.hid (Below.refl _ _)⟩
  case round =>
    obtain ⟨k, rfl, hk, hb⟩ := hrel
    have hk' := hk.out
    cases gk with
    | zero =>
      have e1 : k = n := by omega
      have lt0 : decide ((k : Int) < (n : Int)) = false := by simp; omega
      have lt1 : decide (k < n) = false := by simp; omega
      go_wp2
      go_ret
      exact ⟨rfl, hb.out⟩
    | succ gf =>
      have hkl : k < L.length := by rw [HN.out]; omega
      have hkl2 : k < L'.length := by rw [HN2.out]; omega
      have lt0 : (k : Int) < (n : Int) := by omega
      have hw1 : (k : Int) + 1 ≤ 10000 := by omega
      have a1 := Arr.step H1.out hb.out
      have a2 := Arr.step H2.out hb.out
      obtain ⟨b, off, hA, _, e0, e1, e2, e3, e4, e5, e6, e7, e8⟩ := ard_at a1.1 hkl
      obtain ⟨b2, off2, hA2, _, f0, f1, f2, f3, f4, f5, f6, f7, f8⟩ := ard_at a2.1 hkl2
      have q1 := a1.2 _ (ag_mem hkl)
      have q2 := a2.2 _ (ag_mem hkl2)
      have hc : con (ag L k) = con (ag L' k) := by
        have := congrArg (fun l : List Ct => l[k]?) HCC.out
        simp only [cons, List.getElem?_map] at this
        rw [List.getElem?_eq_getElem hkl, List.getElem?_eq_getElem hkl2] at this
        rw [ag_eq hkl, ag_eq hkl2]
        simpa using this
      have hh : (ag L' k).h = (ag L k).h := (congrArg Prod.fst hc).symm
      have hl2 : (ag L' k).l = (ag L k).l := (congrArg Prod.snd hc).symm
      rw [hh] at f0 f1 f2 f3 f4 f5 f6 f7
      rw [hl2] at f8
      rw [hl2] at q2
      obtain ⟨y, hy⟩ : ∃ y, (ag L k).h = y := ⟨_, rfl⟩
      obtain ⟨Y, hY⟩ : ∃ Y, (ag L k).l = Y := ⟨_, rfl⟩
      obtain ⟨m, hm⟩ : ∃ m, Y.length = m := ⟨_, rfl⟩
      rw [hy] at e0 e1 e2 e3 e4 e5 e6 e7 f0 f1 f2 f3 f4 f5 f6 f7
      rw [hY, hm] at e8 f8
      rw [hY] at q1 q2
      generalize (ag L k).A = B1 at *
      generalize (ag L' k).A = B2 at *
      generalize (ag L k).c = d1 at *
      generalize (ag L' k).c = d2 at *
      subst hA hA2
      clear hkl hkl2 a1 a2 hc hh hl2 hy hY
      go_upto_region 6 with fail
      refine wp_region_quiet_below (by kernel_rfl) (by kernel_rfl) ?_
      have gg0 := cell_regrown e0
      have gg1 := cell_regrown e1
      have gg2 := cell_regrown e2
      have gg3 := cell_regrown e3
      have gg4 := cell_regrown e4
      have gg5 := cell_regrown e5
      have gg6 := cell_regrown e6
      have gg7 := cell_regrown e7
      have gg8 := cell_regrown e8
      have gg9 := cell_regrown f0
      have gg10 := cell_regrown f1
      have gg11 := cell_regrown f2
      have gg12 := cell_regrown f3
      have gg13 := cell_regrown f4
      have gg14 := cell_regrown f5
      have gg15 := cell_regrown f6
      have gg16 := cell_regrown f7
      have gg17 := cell_regrown f8
      have zz0 : ∀ d os, _ := fun d os => Calls.regrown_of (w := wr) (d := d) (os := os) (same_any y B1 B2 m d1 d2 Y _ hm (q1.step (below_regrown wr d os)) (q2.step (below_regrown wr d os)))
      repeat (first | go_big_quiet_step (with_reducible exact zz0 _ _) | go_big_quiet_step (fail) | go_big_quiet_skip)
      refine wpQuiet_nil ?_
      intro W9 hw'
      obtain ⟨⟨dq, osq⟩, hw''⟩ := hw'
      have hbz := below_regrown wr dq osq
      rw [← hw''] at hbz
      clear hw'' gg0 gg1 gg2 gg3 gg4 gg5 gg6 gg7 gg8 gg9 gg10 gg11 gg12 gg13 gg14 gg15 gg16 gg17 zz0 
      go_wp2
      go_roundg gf
      case measure => omega
      case rel => exact ⟨k + 1, by go_num, Lib.hid (by omega), Lib.hid (hb.out.trans (hbz.mono hb.out.size))⟩
end Go.Proofs.Ytefbpaebimagaaa
