/-
  Contracts of lsa's Encode and Whole. No statement is proved here; no conditions.
-/
import Derived.Test.YtadcicmccdphkaaHe
import Derived.Test.YtadcicmccdphkaaFr
import Derived.Test.YtadcicmccdphkaaFit
namespace Go.Proofs.Ytadcicmccdphkaa
open Go.RowKit Go.Joins

theorem Own.step {k : IntKind} {e : TypeId} {w w' : World} {base c : Nat} {A : Option Addr} {l : List Int} (h : Own k e w base A c l) (u : Below w.heap.size w w') : Own k e w' base A c l := h.below u (Nat.le_refl _)
theorem Own.some {k : IntKind} {e : TypeId} {w : World} {base c : Nat} {A : Option Addr} {l : List Int} (h : Own k e w base A c l) (hl : 0 < l.length) : ∃ g, A = some ⟨g, 0, none⟩ ∧ base ≤ g ∧ g < w.heap.size := by
  rcases h.form with ⟨_, _, rfl⟩ | ⟨g, _, h1, h2, h3, _⟩
  · simp at hl
  · exact ⟨g, h1, h2, h3⟩
/-- May an advertisement be? Its encoding. -/
def maya (h : Hd) (l : List Int) : Bool := mayd h && decide (h.n = 20 + (l.length : Int))
def encAE (h : Hd) (l : List Int) : Int := if maya h l = true then 0 else 1
def encA (h : Hd) (l : List Int) : List Int := if maya h l = true then ehd h ++ l else []
/-- The bytes under the sum, and whether they fit. -/
def smd (h : Hd) (l : List Int) : List Int := (ehd h ++ l).drop 2
def fit (h : Hd) (l : List Int) : Bool := p0 (smd h l) == 0 && p1 (smd h l) == 0
def whl (h : Hd) (l : List Int) : Bool := maya h l && fit h l
set_option maxRecDepth 100000 in
set_option maxHeartbeats 2000000 in
theorem encode_any (h : Hd) (A : Option Addr) (n c : Nat) (l : List Int) (w : World) (hn : l.length = n) (ok : Okd h) (hb : Bt w A l) (hl : n ≤ 5000) :
    Calls Try.prog 36 #[.agg #[.int .i64 h.a, .int .i64 h.o, .int .i64 h.t, .int .u32 h.i, .int .u32 h.v, .int .u32 h.q, .int .i64 h.s, .int .i64 h.n, .slice A n c]] w fun e w' => ∃ A' c', e = .returned (.tuple #[.slice A' (encA h l).length c', .int .i64 (encAE h l)]) ∧ Own .u8 5 w' w.heap.size A' c' (encA h l) ∧ Below w.heap.size w w' := by
  obtain ⟨W0, hW0⟩ : ∃ V, w.alloc (.cells #[.int .i64 h.a, .int .i64 h.o, .int .i64 h.t, .int .u32 h.i, .int .u32 h.v, .int .u32 h.q, .int .i64 h.s, .int .i64 h.n, .slice A n c] 34) = V := ⟨_, rfl⟩
  have bW0 : Below w.heap.size w W0 := by rw [← hW0]; exact below_alloc1 _ _
  have sW0 : W0.heap.size = w.heap.size + 1 := by rw [← hW0]; simp
  have KX : Hid (∀ V, Below W0.heap.size W0 V → V.cell? ⟨w.heap.size, 0, none⟩ = some (.int .i64 h.a) ∧ V.cell? ⟨w.heap.size, 1, none⟩ = some (.int .i64 h.o) ∧ V.cell? ⟨w.heap.size, 2, none⟩ = some (.int .i64 h.t) ∧ V.cell? ⟨w.heap.size, 3, none⟩ = some (.int .u32 h.i) ∧ V.cell? ⟨w.heap.size, 4, none⟩ = some (.int .u32 h.v) ∧ V.cell? ⟨w.heap.size, 5, none⟩ = some (.int .u32 h.q) ∧ V.cell? ⟨w.heap.size, 6, none⟩ = some (.int .i64 h.s) ∧ V.cell? ⟨w.heap.size, 7, none⟩ = some (.int .i64 h.n) ∧ V.cell? ⟨w.heap.size, 8, none⟩ = some (.slice A n c)) := Lib.hid (fun V hV => kb9_new hW0 hV)
  have HB : Hid (Below w.heap.size w W0) := Lib.hid bW0
  have q0 := hb.step bW0
  have CH := head_any h W0 ok
  clear bW0 hb
  have hw : wrap64 (20 + (n : Int)) = 20 + (n : Int) := by unfold wrap64; omega
  have hw2 : IntKind.i64.wrap (20 + (n : Int)) = 20 + (n : Int) := wrap_i64 (by omega) (by omega)
  obtain ⟨k0, k1, k2, k3, k4, k5, k6, k7, k8⟩ := KX.out _ (Below.refl _ _)
  by_cases hm : mayd h = true
  case neg =>
    have e1 : encE h = 1 := by simp [encE, hm]
    have e2 : encH h = [] := by simp [encH, hm]
    have e3 : encAE h l = 1 := by simp [encAE, maya, hm]
    have e4 : encA h l = [] := by simp [encA, maya, hm]
    rw [e3, e4]
    rw [e1, e2] at CH
    clear e1 e2 e3 e4 hm
    go_enter Try.func36, Try.ntmps36
    go_wp2_with fail
    refine CH.mono ?_
    rintro e X0 ⟨A1, c1, rfl, -, t0⟩
    clear k0 k1 k2 k3 k4 k5 k6 k7 k8
    go_wp2
    go_ret2
    exact ⟨none, 0, rfl, Own.nil _ _, HB.out.trans (t0.mono HB.out.size)⟩
  have e1 : encE h = 0 := by simp [encE, hm]
  have e2 : encH h = ehd h := by simp [encH, hm]
  rw [e1, e2, ehd_length] at CH
  by_cases hq : h.n = 20 + (n : Int)
  case neg =>
    have e3 : encAE h l = 1 := by simp [encAE, maya, hn, hq]
    have e4 : encA h l = [] := by simp [encA, maya, hn, hq]
    have d : (h.n == 20 + (n : Int)) = false := by simpa using hq
    have d2 : (h.n != 20 + (n : Int)) = true := by simp [bne, d]
    rw [e3, e4]
    clear e1 e2 e3 e4 hm hq
    go_enter Try.func36, Try.ntmps36
    go_wp2_with fail
    refine CH.mono ?_
    rintro e X0 ⟨A1, c1, rfl, -, t0⟩
    clear k0 k1 k2 k3 k4 k5 k6 k7 k8
    obtain ⟨k0, k1, k2, k3, k4, k5, k6, k7, k8⟩ := KX.out _ t0
    go_wp2
    go_ret2
    exact ⟨none, 0, rfl, Own.nil _ _, HB.out.trans (t0.mono HB.out.size)⟩
  have e3 : encAE h l = 0 := by simp [encAE, maya, hn, hq, hm]
  have e4 : encA h l = ehd h ++ l := by simp [encA, maya, hn, hq, hm]
  have d : (h.n == 20 + (n : Int)) = true := by simpa using hq
  have d2 : (h.n != 20 + (n : Int)) = false := by simp [bne, d]
  rw [e3, e4, List.length_append, ehd_length, hn]
  have HN := Lib.hid hn
  clear e1 e2 e3 e4 hm hq hn
  go_enter Try.func36, Try.ntmps36
  go_wp2_with fail
  refine CH.mono ?_
  rintro e X1 ⟨A1, c1, rfl, o1, t1⟩
  clear k0 k1 k2 k3 k4 k5 k6 k7 k8 CH
  obtain ⟨k0, k1, k2, k3, k4, k5, k6, k7, k8⟩ := KX.out _ t1
  obtain ⟨X2, hX2⟩ : ∃ V, X1.alloc (.cells #[.slice A1 20 c1, .slice A n c] 32) = V := ⟨_, rfl⟩
  have t2 : Below X1.heap.size X1 X2 := by rw [← hX2]; exact below_alloc1 _ _
  have hP : Ps X2 (some ⟨X1.heap.size, 0, none⟩) [⟨A1, c1, ehd h⟩, ⟨A, c, l⟩] := by
    rw [← hX2]
    exact Ps.mk _ _ _ _ _ rfl (by simp [ehd_length, HN.out])
  have p1 := Bs.step o1.bs t2
  have p2 := Bs.step (Bs.step q0 t1) t2
  have cc := concat_n (some ⟨X1.heap.size, 0, none⟩) 2 2 _ X2 rfl hP (fun p' hp => by
    simp only [List.mem_cons, List.not_mem_nil, or_false] at hp
    rcases hp with rfl | rfl
    · exact p1
    · exact p2) (by simp) (by simp [cat, ehd_length, HN.out]; omega)
  have hcat : cat [⟨A1, c1, ehd h⟩, ⟨A, c, l⟩] = ehd h ++ l := by simp [cat]
  have hlen : (ehd h ++ l).length = 20 + n := by rw [List.length_append, ehd_length, HN.out]
  rw [hcat, hlen] at cc
  clear hcat hlen p1 p2 o1 q0 hP
  go_wp2_with fail
  refine cc.mono ?_
  rintro e X3 ⟨A3, c3, rfl, o3, t3⟩
  clear k0 k1 k2 k3 k4 k5 k6 k7 k8 cc hX2
  go_wp2
  go_ret2
  have t12 := t1.trans (t2.mono t1.size)
  have hs := HB.out.size
  have hs2 := t12.size
  exact ⟨A3, c3, rfl, o3.lower (by omega), HB.out.trans ((t12.trans (t3.mono t12.size)).mono HB.out.size)⟩
set_option maxRecDepth 100000 in
set_option maxHeartbeats 2000000 in
theorem whole_any (h : Hd) (A : Option Addr) (n c : Nat) (l : List Int) (w : World) (hn : l.length = n) (ok : Okd h) (hb : Bt w A l) (hy : Byt l) (hl : n ≤ 5000) :
    Calls Try.prog 18 #[.agg #[.int .i64 h.a, .int .i64 h.o, .int .i64 h.t, .int .u32 h.i, .int .u32 h.v, .int .u32 h.q, .int .i64 h.s, .int .i64 h.n, .slice A n c]] w fun e w' => e = .returned (.bool (whl h l)) ∧ Below w.heap.size w w' := by
  obtain ⟨W0, hW0⟩ : ∃ V, w.alloc (.cells #[.int .i64 h.a, .int .i64 h.o, .int .i64 h.t, .int .u32 h.i, .int .u32 h.v, .int .u32 h.q, .int .i64 h.s, .int .i64 h.n, .slice A n c] 34) = V := ⟨_, rfl⟩
  have bW0 : Below w.heap.size w W0 := by rw [← hW0]; exact below_alloc1 _ _
  have sW0 : W0.heap.size = w.heap.size + 1 := by rw [← hW0]; simp
  have KX : Hid (∀ V, Below W0.heap.size W0 V → V.cell? ⟨w.heap.size, 0, none⟩ = some (.int .i64 h.a) ∧ V.cell? ⟨w.heap.size, 1, none⟩ = some (.int .i64 h.o) ∧ V.cell? ⟨w.heap.size, 2, none⟩ = some (.int .i64 h.t) ∧ V.cell? ⟨w.heap.size, 3, none⟩ = some (.int .u32 h.i) ∧ V.cell? ⟨w.heap.size, 4, none⟩ = some (.int .u32 h.v) ∧ V.cell? ⟨w.heap.size, 5, none⟩ = some (.int .u32 h.q) ∧ V.cell? ⟨w.heap.size, 6, none⟩ = some (.int .i64 h.s) ∧ V.cell? ⟨w.heap.size, 7, none⟩ = some (.int .i64 h.n) ∧ V.cell? ⟨w.heap.size, 8, none⟩ = some (.slice A n c)) := Lib.hid (fun V hV => kb9_new hW0 hV)
  have HB : Hid (Below w.heap.size w W0) := Lib.hid bW0
  have CE := encode_any h A n c l W0 hn ok (hb.step bW0) hl
  clear bW0 hb
  obtain ⟨k0, k1, k2, k3, k4, k5, k6, k7, k8⟩ := KX.out _ (Below.refl _ _)
  by_cases hm : maya h l = true
  case neg =>
    have e1 : encAE h l = 1 := by simp [encAE, hm]
    have e2 : encA h l = [] := by simp [encA, hm]
    have e3 : whl h l = false := by simp [whl, hm]
    rw [e1, e2] at CE
    rw [e3]
    clear e1 e2 e3 hm
    go_enter Try.func18, Try.ntmps18
    go_wp2_with fail
    refine CE.mono ?_
    rintro e X0 ⟨A1, c1, rfl, -, t0⟩
    go_wp2
    go_ret
    exact ⟨rfl, HB.out.trans (t0.mono HB.out.size)⟩
  have e1 : encAE h l = 0 := by simp [encAE, hm]
  have e2 : encA h l = ehd h ++ l := by simp [encA, hm]
  have hlen : (ehd h ++ l).length = 20 + n := by rw [List.length_append, ehd_length, hn]
  rw [e1, e2, hlen] at CE
  have HW : Hid (whl h l = fit h l) := Lib.hid (by simp [whl, hm])
  have hyy : Byt (ehd h ++ l) := (ehd_byt h).append hy
  have HS : Hid (smd h l = (ehd h ++ l).drop 2) := Lib.hid rfl
  have HF : Hid (fit h l = (p0 (smd h l) == 0 && p1 (smd h l) == 0)) := Lib.hid rfl
  generalize hX : ehd h ++ l = X at *
  clear e1 e2 hm hX
  go_enter Try.func18, Try.ntmps18
  go_wp2_with fail
  refine CE.mono ?_
  rintro e X0 ⟨A1, c1, rfl, o1, t0⟩
  have hc1 := o1.cap_le
  obtain ⟨g, rfl, _, hg⟩ := o1.some (by omega)
  have qd : Bt X0 (some ⟨g, 2, none⟩) (X.drop 2) := o1.bs.drop 2 _ (fun _ => by simp [addr_add])
  have FT := fits_any (some ⟨g, 2, none⟩) (c1 - 2) (X.drop 2) X0.heap.size X0 qd (hyy.drop 2) (by simp; omega)
  have hl2 : (X.drop 2).length = 18 + n := by simp [hlen]; omega
  rw [hl2] at FT
  have hcn : ¬ (c1 = 2) := by omega
  have hci : (2 : Int) ≤ (c1 : Int) := by omega
  have hni : (2 : Int) ≤ 20 + (n : Int) := by omega
  have hn3 : (20 + n : Nat) - 2 = 18 + n := by omega
  have hn4 : (20 + (n : Int)) ≤ (c1 : Int) := by omega
  clear k0 k1 k2 k3 k4 k5 k6 k7 k8 CE o1 qd hl2
  go_wp2_with fail
  refine FT.mono ?_
  rintro e X1 ⟨rfl, rfl⟩
  go_wp2
  go_ret
  exact ⟨ret_bool (by rw [HW.out, HF.out, HS.out]), HB.out.trans (t0.mono HB.out.size)⟩
end Go.Proofs.Ytadcicmccdphkaa
