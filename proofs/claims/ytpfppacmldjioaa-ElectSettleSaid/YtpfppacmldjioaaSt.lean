/-
  Settle. No statement is proved here; no conditions.
-/
import Derived.Test.YtpfppacmldjioaaEl
namespace Go.Proofs.Ytpfppacmldjioaa
open Go.RowKit Go.Joins

/-- A candidate with the declarations of what it elects. -/
def new (L : List Ca) (c : Ca) : Ca := ⟨c.i, c.p, eD L c.i, eB L c.i⟩
/-- The first k with their new declarations. -/
def mix (L : List Ca) (k : Nat) : List Ca := (L.take k).map (new L) ++ L.drop k
theorem mix_len (L : List Ca) (k : Nat) : (mix L k).length = L.length := by simp [mix]; omega
theorem mix_cg {L : List Ca} {k : Nat} (h : k < L.length) : cg (mix L k) k = cg L k := by
  simp only [cg, List.getD, mix]
  rw [List.getElem?_append_right (by rw [List.length_map, List.length_take]; omega), List.length_map, List.length_take, Nat.min_eq_left (by omega), Nat.sub_self]
  simp
theorem mix_next {L : List Ca} {k : Nat} (h : k < L.length) : set2 (mix L k) k (eD L (cg L k).i) (eB L (cg L k).i) = mix L (k + 1) := by
  have hl : ((L.take k).map (new L)).length = k := by simp; omega
  rw [set2, mix_cg h]
  unfold mix
  rw [List.set_append_right _ _ (by omega), hl, Nat.sub_self, ctake h, List.map_append, List.append_assoc, List.drop_eq_getElem_cons h, List.set_cons_zero]
  rfl
theorem mix_all (L : List Ca) (n : Nat) (h : L.length = n) : mix L n = L.map (new L) := by subst h; simp [mix]
theorem stl_yes {L : List Ca} (h : mayl L = true) : stl L = L.map (new L) := by rw [stl, if_pos h]; rfl
theorem stl_no {L : List Ca} (h : mayl L = false) : stl L = [] := by rw [stl, if_neg (by rw [h]; simp)]
/-- What Settle returns. -/
def SP (e : TypeId) (L : List Ca) (w : World) (x : Ending) (w' : World) : Prop := ∃ A' m c', m = (stl L).length ∧ x = .returned (.slice A' m c') ∧ Ow4 e w.heap.size w' A' c' (stl L) ∧ Below w.heap.size w w'
set_option maxRecDepth 100000 in
set_option maxHeartbeats 4000000 in
theorem settle_any (A0 : Option Addr) (n c : Nat) (L : List Ca) (w : World) (hn : L.length = n) (hl : Cr w A0 L) (hw : Okws L) :
    Calls Try.prog 17 #[.slice A0 n c] w fun e w' => SP 40 L w e w' := by
  have CM := may_any A0 n c L w hn hl hw
  cases hm : mayl L
  case false =>
    rw [hm] at CM
    have HS := Lib.hid (stl_no hm)
    clear hl hn hw hm
    go_enter Try.func17, Try.ntmps17
    go_wp2_with fail
    refine CM.mono ?_
    rintro e W1 ⟨rfl, u1⟩
    go_wp2
    go_ret
    exact ⟨none, 0, 0, by rw [HS.out]; rfl, rfl, by rw [HS.out]; exact Ow4.nil _ _ _, u1⟩
  rw [hm] at CM
  have h50 := (may_gd hm).2
  have hn50 : n ≤ 10000 := by omega
  have HC : Hid (∀ V, Below w.heap.size w V → _) := Lib.hid (fun V hV => clone_any A0 n c L V hn (hl.step hV) hn50)
  have HE : Hid (∀ V o, Below w.heap.size w V → _) := Lib.hid (fun V o hV => elect_any A0 n c L o V hn (hl.step hV) hw)
  have HS : Hid (stl L = mix L n) := Lib.hid (by rw [mix_all L n hn, stl_yes hm])
  have HN := Lib.hid hn
  have HL := Lib.hid hl
  have H50 := Lib.hid hn50
  have ML := Lib.hid (mix_len L)
  have M0 : Hid (mix L 0 = L) := Lib.hid (by simp [mix])
  clear hl hn hw hm h50
  go_enter Try.func17, Try.ntmps17
  go_wp2_with fail
  refine CM.mono ?_
  rintro e W1 ⟨rfl, u1⟩
  have K1 := HC.out _ u1
  have T1 := Lib.hid u1
  clear u1
  go_wp2_with fail
  refine K1.mono ?_
  rintro e W2 ⟨A', c', rfl, o2, u2⟩
  have O2 : Hid (Ow4 40 w.heap.size W2 A' c' (mix L 0)) := Lib.hid (by rw [M0.out]; exact o2.lower T1.out.size)
  have T2 := Lib.hid (T1.out.trans (u2.mono T1.out.size))
  have HCAP : Hid (n ≤ c') := Lib.hid (by have := o2.room; rw [HN.out] at this; exact this)
  clear u2 o2 hn50
  go_wp2_with fail
  go_loopg [13] n (fun gf v wx => ∃ (k : Nat), v = .int .i64 (k : Int) ∧ Hid (gf + k = n) ∧ Hid (Ow4 40 w.heap.size wx A' c' (mix L k)) ∧ Hid (Below w.heap.size w wx))
  case atStart => exact ⟨0, rfl, Lib.hid (by omega), O2, T2⟩
  case round =>
    obtain ⟨k, rfl, hk, hO, hb⟩ := hrel
    have hk' := hk.out
    cases gk with
    | zero =>
      have e1 : k = n := by omega
      have lt0 : decide ((k : Int) < (n : Int)) = false := by simp; omega
      have lt1 : decide (k < n) = false := by simp; omega
      subst e1
      go_wp2
      go_ret
      exact ⟨A', k, c', by rw [HS.out, ML.out, HN.out], rfl, by rw [HS.out]; exact hO.out, hb.out⟩
    | succ gf =>
      have hkl : k < L.length := by rw [HN.out]; omega
      have lt0 : (k : Int) < (n : Int) := by omega
      have hw1 : (k : Int) + 1 ≤ 10000 := by have := H50.out; omega
      obtain ⟨b, off, hA, _, e0, e1, e2, e3⟩ := crd_at (HL.out.step hb.out) hkl
      have HX := Lib.hid (mix_next hkl)
      have HMK : Hid (k < (mix L k).length) := Lib.hid (by rw [mix_len]; exact hkl)
      obtain ⟨x, hx⟩ : ∃ x, cg L k = x := ⟨_, rfl⟩
      rw [hx] at e0 e1 e2 e3 HX
      subst hA
      obtain ⟨W3, hW3⟩ : ∃ V, wr.alloc (.cells #[.int .u32 x.i, .int .i64 x.p, .int .u32 x.d, .int .u32 x.b] 40) = V := ⟨_, rfl⟩
      have bW3 : Below wr.heap.size wr W3 := by rw [← hW3]; exact below_alloc1 _ _
      have sW3 : W3.heap.size = wr.heap.size + 1 := by rw [← hW3]; simp
      have KX : Hid (∀ V, Below W3.heap.size W3 V → V.cell? ⟨wr.heap.size, 0, none⟩ = some (.int .u32 x.i) ∧ V.cell? ⟨wr.heap.size, 1, none⟩ = some (.int .i64 x.p) ∧ V.cell? ⟨wr.heap.size, 2, none⟩ = some (.int .u32 x.d) ∧ V.cell? ⟨wr.heap.size, 3, none⟩ = some (.int .u32 x.b)) := Lib.hid (fun V hV => kb4_new hW3 hV)
      have HB3 : Hid (Below w.heap.size w W3) := Lib.hid (hb.out.trans (bW3.mono hb.out.size))
      obtain ⟨g, hg, hgb, rg⟩ := Ow4.row hO.out (Nat.lt_of_le_of_lt (Nat.zero_le _) HMK.out)
      subst hg
      have hcap := HCAP.out
      have KE := HE.out W3 x.i HB3.out
      obtain ⟨vD, hvD⟩ : ∃ v, eD L x.i = v := ⟨_, rfl⟩
      obtain ⟨vB, hvB⟩ : ∃ v, eB L x.i = v := ⟨_, rfl⟩
      rw [hvD, hvB] at KE HX
      have hglt := rg.lt
      have RG := Lib.hid rg
      have HB13 := Lib.hid bW3
      obtain ⟨k0, k1, k2, k3⟩ := KX.out _ (Below.refl _ _)
      clear hx sW3 bW3 hO rg KX hvD hvB
      go_wp2_with fail
      refine KE.mono ?_
      rintro e W4 ⟨rfl, u4⟩
      have T34 := Lib.hid (HB13.out.trans (u4.mono HB13.out.size))
      have r4 : Rg 40 4 W4 g c' (cflat (mix L k)) := RG.out.below' T34.out
      obtain ⟨⟨y0, y1, y2, y3⟩, f0, f1, f2, f3⟩ := rgc_at r4 HMK.out
      have r5 := rg_set2 r4 HMK.out vD vB
      obtain ⟨W5, hW5⟩ : ∃ V, (W4.setCell ⟨g, k * 4 + 2, none⟩ (.int .u32 vD)).setCell ⟨g, k * 4 + 3, none⟩ (.int .u32 vB) = V := ⟨_, rfl⟩
      have T5 : Hid (Below w.heap.size w W5) := Lib.hid (by
        rw [← hW5]
        exact ((HB3.out.trans (u4.mono HB3.out.size)).setCell (p := ⟨g, k * 4 + 2, none⟩) hgb _).setCell (p := ⟨g, k * 4 + 3, none⟩) hgb _)
      rw [hW5, HX.out] at r5
      have O5 : Hid (Ow4 40 w.heap.size W5 (some ⟨g, 0, none⟩) c' (mix L (k + 1))) := Lib.hid (Ow4.of r5 hgb)
      clear u4 r4 r5 e0 e1 e2 e3 k0 k1 k2 k3 KE
      go_wp2
      go_roundg gf
      case measure => omega
      case rel => exact ⟨k + 1, by go_num, Lib.hid (by omega), O5, T5⟩
end Go.Proofs.Ytpfppacmldjioaa
