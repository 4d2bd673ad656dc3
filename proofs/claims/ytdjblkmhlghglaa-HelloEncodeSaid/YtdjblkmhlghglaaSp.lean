/-
  What is encoded is decoded, and the other way round. Plain numbers. No statement is proved here; no conditions.
-/
import Derived.Test.YtdjblkmhlghglaaRDe
import Derived.Test.YtdjblkmhlghglaaMk
import Derived.Test.YtdjblkmhlghglaaREn
import Derived.Test.YtdjblkmhlghglaaCk
import Derived.Test.YtdjblkmhlghglaaBo
namespace Go.Proofs.Ytdjblkmhlghglaa
open Go.RowKit Go.Joins

theorem flat_nums (k q : Nat) (l : List Int) (hy : Byt l) (h : q * k ≤ l.length) : flat k (nums k q l) = l.take (q * k) := by
  induction q with
  | zero => simp [nums, flat]
  | succ q ih =>
    have h1 : q * k + k ≤ l.length := by rw [← Nat.succ_mul]; exact h
    rw [nums, flat_snoc, ih (by omega), Nat.succ_mul, take_sub]
    congr 1
    exact be_sub hy (q * k) k h1
theorem nums_flat (k : Nat) (l : List Int) (hl : ∀ x ∈ l, 0 ≤ x ∧ x < 256 ^ k) : ∀ q, q ≤ l.length → nums k q (flat k l) = l.take q := by
  intro q
  induction q with
  | zero => intro _; simp [nums]
  | succ q ih =>
    intro hq
    have hlt : q < l.length := by omega
    rw [nums, ih (by omega), List.take_succ_eq_append_getElem hlt]
    congr 2
    have e : flat k l = flat k (l.take q) ++ (be l[q] k ++ flat k (l.drop (q + 1))) := by
      rw [← flat_cons, ← flat_append, ← List.drop_eq_getElem_cons hlt, List.take_append_drop]
    have e2 : (flat k (l.take q)).length = q * k := by rw [flat_length, List.length_take, Nat.min_eq_left (by omega)]
    have hx := hl l[q] (List.getElem_mem hlt)
    rw [e, List.drop_left' e2, List.take_left' (be_length _ _), num_be _ _ hx.1 hx.2]
theorem mayh_dec {l : List Int} (hy : Byt l) (hf : flt l = 0) : mayh (dec l) = true := by
  obtain ⟨h1, h2, q, h3, h4⟩ := flt_ok hf
  have v := num_two (sub_byt hy 4 2) (sub_len (by omega))
  have y6 := byt_getD hy 6
  have y7 := byt_getD hy 7
  rw [mayh_iff]
  simp only [dec, nums_length]
  omega
theorem enc_dec {l : List Int} (hy : Byt l) (hf : flt l = 0) : enc (dec l) = l := by
  obtain ⟨h1, h2, q, h3, h4⟩ := flt_ok hf
  have y6 := byt_getD hy 6
  have y7 := byt_getD hy 7
  have e0 := be_sub hy 0 4 (by omega)
  have e4 := be_sub hy 4 2 (by omega)
  have e8 := be_sub hy 8 4 (by omega)
  have e12 := be_sub hy 12 4 (by omega)
  have e16 := be_sub hy 16 4 (by omega)
  rw [show sub l 0 4 = l.take 4 by simp [sub]] at e0
  have e20 : flat 4 (nums 4 q (l.drop 20)) = l.drop 20 := by
    rw [flat_nums 4 q _ (hy.drop 20) (by simp; omega), List.take_of_length_le (by simp; omega)]
  have a : l.take 20 = l.take 4 ++ sub l 4 2 ++ sub l 6 1 ++ sub l 7 1 ++ sub l 8 4 ++ sub l 12 4 ++ sub l 16 4 := by
    rw [show (20 : Nat) = 16 + 4 by rfl, take_sub, show (16 : Nat) = 12 + 4 by rfl, take_sub l 12 4, show (12 : Nat) = 8 + 4 by rfl, take_sub l 8 4, show (8 : Nat) = 7 + 1 by rfl, take_sub l 7 1, show (7 : Nat) = 6 + 1 by rfl, take_sub l 6 1, show (6 : Nat) = 4 + 2 by rfl, take_sub l 4 2]
  have b : l = l.take 20 ++ l.drop 20 := (List.take_append_drop 20 l).symm
  unfold enc dec
  simp only [h4]
  rw [e0, e4, e20, be1 _ y6.1 y6.2, be1 _ y7.1 y7.2, ← sub_one 6 (by omega), ← sub_one 7 (by omega), flat_cons, flat_cons, flat_cons, flat_nil, e8, e12, e16]
  conv => rhs; rw [b, a]
  simp
theorem encL_decp {l : List Int} (hy : Byt l) (hf : flt l = 0) : encL (decp l) = l ∧ encE (decp l) = 0 := by
  have e : decp l = dec l := by simp [decp, hf]
  have m := mayh_dec hy hf
  rw [e]
  exact ⟨by simp [encL, m, enc_dec hy hf], by simp [encE, m]⟩
theorem flt_enc (h : He) (hm : mayh h = true) : flt (enc h) = 0 := by
  have := (mayh_iff h).1 hm
  unfold flt
  rw [enc_length, if_neg (by omega), if_neg (by omega)]
theorem dec_enc (h : He) (ok : Okh h) (hm : mayh h = true) : dec (enc h) = h := by
  obtain ⟨⟨hi0, hi1⟩, ⟨ho0, ho1⟩, ⟨hp0, hp1⟩, hl⟩ := (mayh_iff h).1 hm
  have a0 : (enc h).take 4 = be h.m 4 := by unfold enc; rw [List.take_left' (be_length _ _)]
  have a4 : sub (enc h) 4 2 = be h.i 2 := by unfold enc; exact sub_mid _ _ _ _ _ (be_length _ _) (be_length _ _)
  have e6 : enc h = (be h.m 4 ++ be h.i 2) ++ ([h.o] ++ ([h.p] ++ (flat 4 [h.d, h.r, h.b] ++ flat 4 h.s))) := by
    unfold enc; rw [be1 h.o ho0 (by omega), be1 h.p hp0 (by omega)]; simp
  have a6 : (enc h).getD 6 0 = h.o := by
    rw [e6, show (6 : Nat) = 6 + 0 by rfl, getD_app (by simp [be_length])]; rfl
  have a7 : (enc h).getD 7 0 = h.p := by
    rw [e6, show (7 : Nat) = 6 + 1 by rfl, getD_app (by simp [be_length])]; rfl
  have f3 : flat 4 [h.d, h.r, h.b] = be h.d 4 ++ (be h.r 4 ++ be h.b 4) := by simp [flat]
  have a8 : sub (enc h) 8 4 = be h.d 4 := by
    have e : enc h = (be h.m 4 ++ be h.i 2 ++ be h.o 1 ++ be h.p 1) ++ (be h.d 4 ++ (be h.r 4 ++ (be h.b 4 ++ flat 4 h.s))) := by unfold enc; rw [f3]; simp
    rw [e]; exact sub_mid _ _ _ _ _ (by simp [be_length]) (be_length _ _)
  have a12 : sub (enc h) 12 4 = be h.r 4 := by
    have e : enc h = (be h.m 4 ++ be h.i 2 ++ be h.o 1 ++ be h.p 1 ++ be h.d 4) ++ (be h.r 4 ++ (be h.b 4 ++ flat 4 h.s)) := by unfold enc; rw [f3]; simp
    rw [e]; exact sub_mid _ _ _ _ _ (by simp [be_length]) (be_length _ _)
  have a16 : sub (enc h) 16 4 = be h.b 4 := by
    have e : enc h = (be h.m 4 ++ be h.i 2 ++ be h.o 1 ++ be h.p 1 ++ be h.d 4 ++ be h.r 4) ++ (be h.b 4 ++ flat 4 h.s) := by unfold enc; rw [f3]; simp
    rw [e]; exact sub_mid _ _ _ _ _ (by simp [be_length]) (be_length _ _)
  have a20 : (enc h).drop 20 = flat 4 h.s := by
    have e : enc h = (be h.m 4 ++ be h.i 2 ++ be h.o 1 ++ be h.p 1 ++ be h.d 4 ++ be h.r 4 ++ be h.b 4) ++ flat 4 h.s := by unfold enc; rw [f3]; simp
    rw [e, List.drop_left' (by simp [be_length])]
  have ln : ((enc h).length - 20) / 4 = h.s.length := by rw [enc_length]; omega
  unfold dec
  rw [a0, a4, a6, a7, a8, a12, a16, a20, ln, nums_flat 4 _ (fun x hx => ok.s x hx) _ (Nat.le_refl _), List.take_of_length_le (Nat.le_refl _)]
  rw [num_be _ _ ok.m.1 ok.m.2, num_be _ _ hi0 (by omega), num_be _ _ ok.d.1 ok.d.2, num_be _ _ ok.r.1 ok.r.2, num_be _ _ ok.b.1 ok.b.2]
theorem decp_enc (h : He) (ok : Okh h) (hm : mayh h = true) : decp (enc h) = h := by
  rw [decp, if_pos (flt_enc h hm), dec_enc h ok hm]
/-! ### What is made -/
def mk (f : If) (p dr bdr : Int) (l : List Int) : He := ⟨f.m, f.i, f.o, p, f.d, dr, bdr, l⟩
theorem chk_mk (f : If) (p dr bdr : Int) (l : List Int) : chk f (mk f p dr bdr l) = 0 := by simp [chk, mk]
end Go.Proofs.Ytdjblkmhlghglaa
