/-
  Contracts of lsa's Encode and Whole. The contract of lsa's Older. Contracts of lsa's Seal. No statement is proved here; no conditions.
-/
import Derived.Test.YtadcicmccdphkaaGreatG05
namespace Go.Proofs.YtadcicmccdphkaaGreat
open Go.RowKit Go.Joins

theorem Own.step {k : IntKind} {e : TypeId} {w w' : World} {base c : Nat} {A : Option Addr} {l : List Int} (h : Own k e w base A c l) (u : Below w.heap.size w w') : Own k e w' base A c l := h.below u (Nat.le_refl _)
theorem Own.some {k : IntKind} {e : TypeId} {w : World} {base c : Nat} {A : Option Addr} {l : List Int} (h : Own k e w base A c l) (hl : 0 < l.length) : ∃ g, A = some ⟨g, 0, none⟩ ∧ base ≤ g ∧ g < w.heap.size := by
 rcases h.form with ⟨_, _, rfl⟩ | ⟨g, _, h1, h2, h3, _⟩
 ·simp at hl
 ·exact ⟨g, h1, h2, h3⟩
def maya (h : Hd) (l : List Int) : Bool := mayd h && decide (h.n = 20 + (l.length : Int))
def encAE (h : Hd) (l : List Int) : Int := if maya h l = true then 0 else 1
def encA (h : Hd) (l : List Int) : List Int := if maya h l = true then ehd h ++ l else []
def smd (h : Hd) (l : List Int) : List Int := (ehd h ++ l).drop 2
def fit (h : Hd) (l : List Int) : Bool := p0 (smd h l) == 0 && p1 (smd h l) == 0
def whl (h : Hd) (l : List Int) : Bool := maya h l && fit h l
set_option maxRecDepth 100000 in
set_option maxHeartbeats 2000000 in
theorem encode_any (h : Hd) (A : Option Addr) (n c : Nat) (l : List Int) (w : World) (hn : l.length = n) (ok : Okd h) (hb : Bt w A l) (hl : n ≤ 5000) :
  Calls Tryz.prog 69 #[.agg #[.int .i64 h.a, .int .i64 h.o, .int .i64 h.t, .int .u32 h.i, .int .u32 h.v, .int .u32 h.q, .int .i64 h.s, .int .i64 h.n, .slice A n c]] w fun e w' => ∃ A' c', e = .returned (.tuple #[.slice A' (encA h l).length c', .int .i64 (encAE h l)]) ∧ Own .u8 5 w' w.heap.size A' c' (encA h l) ∧ Below w.heap.size w w' := by
 obtain ⟨W0, hW0⟩ : ∃ V, w.alloc (.cells #[.int .i64 h.a, .int .i64 h.o, .int .i64 h.t, .int .u32 h.i, .int .u32 h.v, .int .u32 h.q, .int .i64 h.s, .int .i64 h.n, .slice A n c] 40) = V := ⟨_, rfl⟩
 have bW0 : Below w.heap.size w W0 := by rw [← hW0]; exact below_alloc1 _ _
 have sW0 : W0.heap.size = w.heap.size + 1 := by rw [← hW0]; simp
 have KX : Hid (∀ V, Below W0.heap.size W0 V → V.cell? ⟨w.heap.size, 0, none⟩ = some (.int .i64 h.a) ∧ V.cell? ⟨w.heap.size, 1, none⟩ = some (.int .i64 h.o) ∧ V.cell? ⟨w.heap.size, 2, none⟩ = some (.int .i64 h.t) ∧ V.cell? ⟨w.heap.size, 3, none⟩ = some (.int .u32 h.i) ∧ V.cell? ⟨w.heap.size, 4, none⟩ = some (.int .u32 h.v) ∧ V.cell? ⟨w.heap.size, 5, none⟩ = some (.int .u32 h.q) ∧ V.cell? ⟨w.heap.size, 6, none⟩ = some (.int .i64 h.s) ∧ V.cell? ⟨w.heap.size, 7, none⟩ = some (.int .i64 h.n) ∧ V.cell? ⟨w.heap.size, 8, none⟩ = some (.slice A n c)) := Lib.hid (fun V hV => kb9_new hW0 hV)
 have HB : Hid (Below w.heap.size w W0) := Lib.hid bW0
 have q0 := hb.step bW0
 have CH := head_any h W0 ok
 clear bW0 hb
 have hw : wrap64 (20 + (n : Int)) = 20 + (n : Int) := by unfold wrap64; omega
 have hw2 : IntKind.i64.wrap (20 + (n : Int)) = 20 + (n : Int) := wrap_i64 (by omega) (by omega)
 obtain ⟨k0, k1, k2, k3, k4, k5, k6, k7, k8⟩ := KX.out _ (Below.refl _ _)
 by_cases hm : mayd h = true
 case neg =>
  have e1 : encE h = 1 := by simp [encE, hm]
  have e2 : encH h = [] := by simp [encH, hm]
  have e3 : encAE h l = 1 := by simp [encAE, maya, hm]
  have e4 : encA h l = [] := by simp [encA, maya, hm]
  rw [e3, e4]
  rw [e1, e2] at CH
  clear e1 e2 e3 e4 hm
  go_enter Tryz.func69, Tryz.ntmps69
  go_wp2_with fail
  refine CH.mono ?_
  rintro e X0 ⟨A1, c1, rfl, -, t0⟩
  clear k0 k1 k2 k3 k4 k5 k6 k7 k8
  go_wp2
  go_ret2
  exact ⟨none, 0, rfl, Own.nil _ _, HB.out.trans (t0.mono HB.out.size)⟩
 have e1 : encE h = 0 := by simp [encE, hm]
 have e2 : encH h = ehd h := by simp [encH, hm]
 rw [e1, e2, ehd_length] at CH
 by_cases hq : h.n = 20 + (n : Int)
 case neg =>
  have e3 : encAE h l = 1 := by simp [encAE, maya, hn, hq]
  have e4 : encA h l = [] := by simp [encA, maya, hn, hq]
  have d : (h.n == 20 + (n : Int)) = false := by simpa using hq
  have d2 : (h.n != 20 + (n : Int)) = true := by simp [bne, d]
  rw [e3, e4]
  clear e1 e2 e3 e4 hm hq
  go_enter Tryz.func69, Tryz.ntmps69
  go_wp2_with fail
  refine CH.mono ?_
  rintro e X0 ⟨A1, c1, rfl, -, t0⟩
  clear k0 k1 k2 k3 k4 k5 k6 k7 k8
  obtain ⟨k0, k1, k2, k3, k4, k5, k6, k7, k8⟩ := KX.out _ t0
  go_wp2
  go_ret2
  exact ⟨none, 0, rfl, Own.nil _ _, HB.out.trans (t0.mono HB.out.size)⟩
 have e3 : encAE h l = 0 := by simp [encAE, maya, hn, hq, hm]
 have e4 : encA h l = ehd h ++ l := by simp [encA, maya, hn, hq, hm]
 have d : (h.n == 20 + (n : Int)) = true := by simpa using hq
 have d2 : (h.n != 20 + (n : Int)) = false := by simp [bne, d]
 rw [e3, e4, List.length_append, ehd_length, hn]
 have HN := Lib.hid hn
 clear e1 e2 e3 e4 hm hq hn
 go_enter Tryz.func69, Tryz.ntmps69
 go_wp2_with fail
 refine CH.mono ?_
 rintro e X1 ⟨A1, c1, rfl, o1, t1⟩
 clear k0 k1 k2 k3 k4 k5 k6 k7 k8 CH
 obtain ⟨k0, k1, k2, k3, k4, k5, k6, k7, k8⟩ := KX.out _ t1
 obtain ⟨X2, hX2⟩ : ∃ V, X1.alloc (.cells #[.slice A1 20 c1, .slice A n c] 38) = V := ⟨_, rfl⟩
 have t2 : Below X1.heap.size X1 X2 := by rw [← hX2]; exact below_alloc1 _ _
 have hP : Ps X2 (some ⟨X1.heap.size, 0, none⟩) [⟨A1, c1, ehd h⟩, ⟨A, c, l⟩] := by
  rw [← hX2]
  exact Ps.mk _ _ _ _ _ rfl (by simp [ehd_length, HN.out])
 have p1 := Bs.step o1.bs t2
 have p2 := Bs.step (Bs.step q0 t1) t2
 have cc := concat_n (some ⟨X1.heap.size, 0, none⟩) 2 2 _ X2 rfl hP (fun p' hp => by
  simp only [List.mem_cons, List.not_mem_nil, or_false] at hp
  rcases hp with rfl | rfl
  ·exact p1
  ·exact p2) (by simp) (by simp [cat, ehd_length, HN.out]; omega)
 have hcat : cat [⟨A1, c1, ehd h⟩, ⟨A, c, l⟩] = ehd h ++ l := by simp [cat]
 have hlen : (ehd h ++ l).length = 20 + n := by rw [List.length_append, ehd_length, HN.out]
 rw [hcat, hlen] at cc
 clear hcat hlen p1 p2 o1 q0 hP
 go_wp2_with fail
 refine cc.mono ?_
 rintro e X3 ⟨A3, c3, rfl, o3, t3⟩
 clear k0 k1 k2 k3 k4 k5 k6 k7 k8 cc hX2
 go_wp2
 go_ret2
 have t12 := t1.trans (t2.mono t1.size)
 have hs := HB.out.size
 have hs2 := t12.size
 exact ⟨A3, c3, rfl, o3.lower (by omega), HB.out.trans ((t12.trans (t3.mono t12.size)).mono HB.out.size)⟩
set_option maxRecDepth 100000 in
set_option maxHeartbeats 2000000 in
theorem whole_any (h : Hd) (A : Option Addr) (n c : Nat) (l : List Int) (w : World) (hn : l.length = n) (ok : Okd h) (hb : Bt w A l) (hy : Byt l) (hl : n ≤ 5000) :
  Calls Tryz.prog 47 #[.agg #[.int .i64 h.a, .int .i64 h.o, .int .i64 h.t, .int .u32 h.i, .int .u32 h.v, .int .u32 h.q, .int .i64 h.s, .int .i64 h.n, .slice A n c]] w fun e w' => e = .returned (.bool (whl h l)) ∧ Below w.heap.size w w' := by
 obtain ⟨W0, hW0⟩ : ∃ V, w.alloc (.cells #[.int .i64 h.a, .int .i64 h.o, .int .i64 h.t, .int .u32 h.i, .int .u32 h.v, .int .u32 h.q, .int .i64 h.s, .int .i64 h.n, .slice A n c] 40) = V := ⟨_, rfl⟩
 have bW0 : Below w.heap.size w W0 := by rw [← hW0]; exact below_alloc1 _ _
 have sW0 : W0.heap.size = w.heap.size + 1 := by rw [← hW0]; simp
 have KX : Hid (∀ V, Below W0.heap.size W0 V → V.cell? ⟨w.heap.size, 0, none⟩ = some (.int .i64 h.a) ∧ V.cell? ⟨w.heap.size, 1, none⟩ = some (.int .i64 h.o) ∧ V.cell? ⟨w.heap.size, 2, none⟩ = some (.int .i64 h.t) ∧ V.cell? ⟨w.heap.size, 3, none⟩ = some (.int .u32 h.i) ∧ V.cell? ⟨w.heap.size, 4, none⟩ = some (.int .u32 h.v) ∧ V.cell? ⟨w.heap.size, 5, none⟩ = some (.int .u32 h.q) ∧ V.cell? ⟨w.heap.size, 6, none⟩ = some (.int .i64 h.s) ∧ V.cell? ⟨w.heap.size, 7, none⟩ = some (.int .i64 h.n) ∧ V.cell? ⟨w.heap.size, 8, none⟩ = some (.slice A n c)) := Lib.hid (fun V hV => kb9_new hW0 hV)
 have HB : Hid (Below w.heap.size w W0) := Lib.hid bW0
 have CE := encode_any h A n c l W0 hn ok (hb.step bW0) hl
 clear bW0 hb
 obtain ⟨k0, k1, k2, k3, k4, k5, k6, k7, k8⟩ := KX.out _ (Below.refl _ _)
 by_cases hm : maya h l = true
 case neg =>
  have e1 : encAE h l = 1 := by simp [encAE, hm]
  have e2 : encA h l = [] := by simp [encA, hm]
  have e3 : whl h l = false := by simp [whl, hm]
  rw [e1, e2] at CE
  rw [e3]
  clear e1 e2 e3 hm
  go_enter Tryz.func47, Tryz.ntmps47
  go_wp2_with fail
  refine CE.mono ?_
  rintro e X0 ⟨A1, c1, rfl, -, t0⟩
  go_wp2
  go_ret
  exact ⟨rfl, HB.out.trans (t0.mono HB.out.size)⟩
 have e1 : encAE h l = 0 := by simp [encAE, hm]
 have e2 : encA h l = ehd h ++ l := by simp [encA, hm]
 have hlen : (ehd h ++ l).length = 20 + n := by rw [List.length_append, ehd_length, hn]
 rw [e1, e2, hlen] at CE
 have HW : Hid (whl h l = fit h l) := Lib.hid (by simp [whl, hm])
 have hyy : Byt (ehd h ++ l) := (ehd_byt h).append hy
 have HS : Hid (smd h l = (ehd h ++ l).drop 2) := Lib.hid rfl
 have HF : Hid (fit h l = (p0 (smd h l) == 0 && p1 (smd h l) == 0)) := Lib.hid rfl
 generalize hX : ehd h ++ l = X at *
 clear e1 e2 hm hX
 go_enter Tryz.func47, Tryz.ntmps47
 go_wp2_with fail
 refine CE.mono ?_
 rintro e X0 ⟨A1, c1, rfl, o1, t0⟩
 have hc1 := o1.cap_le
 obtain ⟨g, rfl, _, hg⟩ := o1.some (by omega)
 have qd : Bt X0 (some ⟨g, 2, none⟩) (X.drop 2) := o1.bs.drop 2 _ (fun _ => by simp [addr_add])
 have FT := fits_any (some ⟨g, 2, none⟩) (c1 - 2) (X.drop 2) X0.heap.size X0 qd (hyy.drop 2) (by simp; omega)
 have hl2 : (X.drop 2).length = 18 + n := by simp [hlen]; omega
 rw [hl2] at FT
 have hcn : ¬ (c1 = 2) := by omega
 have hci : (2 : Int) ≤ (c1 : Int) := by omega
 have hni : (2 : Int) ≤ 20 + (n : Int) := by omega
 have hn3 : (20 + n : Nat) - 2 = 18 + n := by omega
 have hn4 : (20 + (n : Int)) ≤ (c1 : Int) := by omega
 clear k0 k1 k2 k3 k4 k5 k6 k7 k8 CE o1 qd hl2
 go_wp2_with fail
 refine FT.mono ?_
 rintro e X1 ⟨rfl, rfl⟩
 go_wp2
 go_ret
 exact ⟨ret_bool (by rw [HW.out, HF.out, HS.out]), HB.out.trans (t0.mono HB.out.size)⟩
end Go.Proofs.YtadcicmccdphkaaGreat
namespace Go.Proofs.YtadcicmccdphkaaGreat
open Go.RowKit Go.Joins

def old (h : Hd) (y : Int) : Hd := if 0 < y then ⟨h.a + min y (3600 - h.a), h.o, h.t, h.i, h.v, h.q, h.s, h.n⟩ else h
theorem old_may {h : Hd} {y : Int} (hm : mayd h = true) : mayd (old h y) = true := by
 obtain ⟨h1, h2, h3, h4, h5, h6⟩ := (mayd_iff h).1 hm
 unfold old
 split
 ·refine (mayd_iff _).2 ⟨?_, h2, h3, h4, h5, h6⟩
  show 0 ≤ h.a + min y (3600 - h.a) ∧ h.a + min y (3600 - h.a) ≤ 3600
  omega
 ·exact hm
theorem old_n (h : Hd) (y : Int) : (old h y).n = h.n := by
 unfold old
 split <;> rfl
theorem old_ok {h : Hd} {y : Int} (ok : Okd h) : Okd (old h y) := by
 unfold old
 split
 ·exact ⟨ok.i, ok.v, ok.q⟩
 ·exact ok
theorem old_smd (h : Hd) (y : Int) (l : List Int) : smd (old h y) l = smd h l := by
 have e : ∀ (h : Hd), smd h l = be h.o 1 ++ (be h.t 1 ++ (be h.i 4 ++ (be h.v 4 ++ (be h.q 4 ++ (be h.s 2 ++ be h.n 2))))) ++ l := fun h => by
  unfold smd ehd
  rw [List.append_assoc, List.drop_left' (be_length _ _)]
 rw [e, e]
 unfold old
 split <;> rfl
theorem old_whl {h : Hd} {l : List Int} (y : Int) (hw : whl h l = true) : whl (old h y) l = true := by
 unfold whl maya fit at *
 rw [old_smd, old_n]
 simp only [Bool.and_eq_true] at hw ⊢
 exact ⟨⟨old_may hw.1.1, hw.1.2⟩, hw.2⟩
set_option maxRecDepth 100000 in
set_option maxHeartbeats 2000000 in
theorem older_any (h : Hd) (y : Int) (A : Option Addr) (n c : Nat) (l : List Int) (w : World) (hn : l.length = n) (hb : Bt w A l) (hl : n ≤ 5000) (h0 : 0 ≤ h.a) (h1 : h.a ≤ 3600) :
  Calls Tryz.prog 57 #[.agg #[.int .i64 h.a, .int .i64 h.o, .int .i64 h.t, .int .u32 h.i, .int .u32 h.v, .int .u32 h.q, .int .i64 h.s, .int .i64 h.n, .slice A n c], .int .i64 y] w fun e w' => ∃ A' c', e = .returned (.agg #[.int .i64 (old h y).a, .int .i64 (old h y).o, .int .i64 (old h y).t, .int .u32 (old h y).i, .int .u32 (old h y).v, .int .u32 (old h y).q, .int .i64 (old h y).s, .int .i64 (old h y).n, .slice A' n c']) ∧ Own .u8 5 w' w.heap.size A' c' l ∧ Below w.heap.size w w' := by
 obtain ⟨W0, hW0⟩ : ∃ V, w.alloc (.cells #[.int .i64 h.a, .int .i64 h.o, .int .i64 h.t, .int .u32 h.i, .int .u32 h.v, .int .u32 h.q, .int .i64 h.s, .int .i64 h.n, .slice A n c] 40) = V := ⟨_, rfl⟩
 have bW0 : Below w.heap.size w W0 := by rw [← hW0]; exact below_alloc1 _ _
 have sW0 : W0.heap.size = w.heap.size + 1 := by rw [← hW0]; simp
 have KX : Hid (∀ V, Below W0.heap.size W0 V → V.cell? ⟨w.heap.size, 0, none⟩ = some (.int .i64 h.a) ∧ V.cell? ⟨w.heap.size, 1, none⟩ = some (.int .i64 h.o) ∧ V.cell? ⟨w.heap.size, 2, none⟩ = some (.int .i64 h.t) ∧ V.cell? ⟨w.heap.size, 3, none⟩ = some (.int .u32 h.i) ∧ V.cell? ⟨w.heap.size, 4, none⟩ = some (.int .u32 h.v) ∧ V.cell? ⟨w.heap.size, 5, none⟩ = some (.int .u32 h.q) ∧ V.cell? ⟨w.heap.size, 6, none⟩ = some (.int .i64 h.s) ∧ V.cell? ⟨w.heap.size, 7, none⟩ = some (.int .i64 h.n) ∧ V.cell? ⟨w.heap.size, 8, none⟩ = some (.slice A n c)) := Lib.hid (fun V hV => kb9_new hW0 hV)
 obtain ⟨W1, hW1⟩ : ∃ V, W0.alloc (.cells #[Value.int .i64 0, .int .i64 0, .int .i64 0, .int .u32 0, .int .u32 0, .int .u32 0, .int .i64 0, .int .i64 0, .slice none 0 0] 40) = V := ⟨_, rfl⟩
 have bW1 : Below W0.heap.size W0 W1 := by rw [← hW1]; exact below_alloc1 _ _
 have sW1 : W1.heap.size = W0.heap.size + 1 := by rw [← hW1]; simp
 have KZ : Hid (∀ V, Below W1.heap.size W1 V → V.heap[w.heap.size + 1]? = some (.cells #[Value.int .i64 0, .int .i64 0, .int .i64 0, .int .u32 0, .int .u32 0, .int .u32 0, .int .i64 0, .int .i64 0, .slice none 0 0] 40)) :=
  Lib.hid (fun V hV => by rw [hV.block _ (by omega), ← hW1]; exact alloc_at _ _ _ (by omega))
 have HB : Hid (Below w.heap.size w W1) := Lib.hid (bW0.trans (bW1.mono bW0.size))
 have q0 := hb.step HB.out
 have hs1 : W1.heap.size = w.heap.size + 2 := by omega
 have HS1 := Lib.hid hs1
 have HN := Lib.hid hn
 have CC := copy_any h A n c l W1 hn q0 (by omega)
 obtain ⟨k0, k1, k2, k3, k4, k5, k6, k7, k8⟩ := KX.out _ bW1
 clear hb bW0 bW1 KX hn hs1 q0
 go_enter Tryz.func57, Tryz.ntmps57
 go_wp2_with fail
 refine CC.mono ?_
 rintro e Y1 ⟨A1, c1, rfl, o1, u1⟩
 clear k0 k1 k2 k3 k4 k5 k6 k7 k8 CC hW0 hW1 sW0 sW1
 obtain ⟨k, hk⟩ : ∃ k, Y1.heap.size = k := ⟨_, rfl⟩
 have hkb : w.heap.size + 2 ≤ k := by
  have := u1.size
  have := HS1.out
  omega
 obtain ⟨X1, hX1⟩ : ∃ V, Y1.alloc (.cells #[.int .i64 h.a, .int .i64 h.o, .int .i64 h.t, .int .u32 h.i, .int .u32 h.v, .int .u32 h.q, .int .i64 h.s, .int .i64 h.n, .slice A1 n c1] 40) = V := ⟨_, rfl⟩
 have v1 : Below Y1.heap.size Y1 X1 := by rw [← hX1]; exact below_alloc1 _ _
 have T1 : Below W1.heap.size W1 X1 := u1.trans (v1.mono u1.size)
 have g1 : X1.heap[k]? = some (.cells #[Value.int .i64 h.a, .int .i64 h.o, .int .i64 h.t, .int .u32 h.i, .int .u32 h.v, .int .u32 h.q, .int .i64 h.s, .int .i64 h.n, .slice A1 n c1] 40) := by rw [← hX1]; exact alloc_at _ _ _ hk.symm
 obtain ⟨a0, a1, a2, a3, a4, a5, a6, a7, a8, f0, f1, f2, f3, f4, f5, f6, f7, f8, hkl⟩ := kz9_at g1
 have p1 := o1.step v1
 have hne : w.heap.size + 1 ≠ k := by omega
 by_cases hy : 0 < y
 case neg =>
  have HE : Hid (old h y = h) := Lib.hid (by simp [old, hy])
  have hyy : ¬ (y > 0) := hy
  have z1 := KZ.out _ T1
  have KR := Lib.hid <| kz9_get z1 (Value.int .i64 h.a) (.int .i64 h.o) (.int .i64 h.t) (.int .u32 h.i) (.int .u32 h.v) (.int .u32 h.q) (.int .i64 h.s) (.int .i64 h.n) (.slice A1 n c1)
  have OF := Lib.hid <| (p1.far9 (b := w.heap.size + 1) (by have := HS1.out; omega) (Value.int .i64 h.a) (.int .i64 h.o) (.int .i64 h.t) (.int .u32 h.i) (.int .u32 h.v) (.int .u32 h.q) (.int .i64 h.s) (.int .i64 h.n) (.slice A1 n c1)).lower (base' := w.heap.size) (by have := HS1.out; omega)
  have TF := Lib.hid <| below_st9 (HB.out.trans (T1.mono HB.out.size)) (show w.heap.size ≤ w.heap.size + 1 by omega) (Value.int .i64 h.a) (.int .i64 h.o) (.int .i64 h.t) (.int .u32 h.i) (.int .u32 h.v) (.int .u32 h.q) (.int .i64 h.s) (.int .i64 h.n) (.slice A1 n c1)
  obtain ⟨b0, b1, b2, b3, b4, b5, b6, b7, b8, d0, d1, d2, d3, d4, d5, d6, d7, d8, hzl⟩ := kz9_at z1
  clear hy g1 p1 o1 z1 hne KZ
  try rw [hX1]
  try rw [hk]
  go_wp2
  obtain ⟨r0, r1, r2, r3, r4, r5, r6, r7, r8⟩ := KR.out
  refine bodyPost_ret (v := .agg #[.int .i64 h.a, .int .i64 h.o, .int .i64 h.t, .int .u32 h.i, .int .u32 h.v, .int .u32 h.q, .int .i64 h.s, .int .i64 h.n, .slice A1 n c1]) (by simp [results, Tryz.results57, go_sem, r0, r1, r2, r3, r4, r5, r6, r7, r8]) rfl ⟨A1, c1, ?_, OF.out, TF.out⟩
  rw [HE.out]
 have hyy : y > 0 := hy
 by_cases hq : y ≤ 3600 - h.a
 ·have hq2 : ¬ (3600 - h.a < y) := by omega
  have hmin : min y (3600 - h.a) = y := by omega
  have HE : Hid (old h y = ⟨h.a + y, h.o, h.t, h.i, h.v, h.q, h.s, h.n⟩) := Lib.hid (by simp only [old, if_pos hy]; rw [hmin])
  clear hmin
  have hm1 : h.a + y ≤ 3600 := by omega
  have hm2 : 0 ≤ h.a + y := by omega
  obtain ⟨X2, hX2⟩ : ∃ V, X1.setCell ⟨k, 0, none⟩ (.int .i64 (h.a + y)) = V := ⟨_, rfl⟩
  have g2 : X2.heap[k]? = some (.cells #[Value.int .i64 (h.a + y), .int .i64 h.o, .int .i64 h.t, .int .u32 h.i, .int .u32 h.v, .int .u32 h.q, .int .i64 h.s, .int .i64 h.n, .slice A1 n c1] 40) := by rw [← hX2, block_setCell (i := 0) g1]; rfl
  have U2 : Below Y1.heap.size Y1 X2 := by rw [← hX2]; exact v1.setCell (p := ⟨k, 0, none⟩) (Nat.le_of_eq hk) _
  have T2 : Below W1.heap.size W1 X2 := u1.trans (U2.mono u1.size)
  have p2 := o1.below U2 (Nat.le_refl _)
  have z2 := KZ.out _ T2
  have KR := Lib.hid <| kz9_get z2 (Value.int .i64 (h.a + y)) (.int .i64 h.o) (.int .i64 h.t) (.int .u32 h.i) (.int .u32 h.v) (.int .u32 h.q) (.int .i64 h.s) (.int .i64 h.n) (.slice A1 n c1)
  have OF := Lib.hid <| (p2.far9 (b := w.heap.size + 1) (by have := HS1.out; omega) (Value.int .i64 (h.a + y)) (.int .i64 h.o) (.int .i64 h.t) (.int .u32 h.i) (.int .u32 h.v) (.int .u32 h.q) (.int .i64 h.s) (.int .i64 h.n) (.slice A1 n c1)).lower (base' := w.heap.size) (by have := HS1.out; omega)
  have TF := Lib.hid <| below_st9 (HB.out.trans (T2.mono HB.out.size)) (show w.heap.size ≤ w.heap.size + 1 by omega) (Value.int .i64 (h.a + y)) (.int .i64 h.o) (.int .i64 h.t) (.int .u32 h.i) (.int .u32 h.v) (.int .u32 h.q) (.int .i64 h.s) (.int .i64 h.n) (.slice A1 n c1)
  obtain ⟨x0, x1, x2, x3, x4, x5, x6, x7, x8, y0, y1, y2, y3, y4, y5, y6, y7, y8, hkl2⟩ := kz9_at g2
  obtain ⟨b0, b1, b2, b3, b4, b5, b6, b7, b8, d0, d1, d2, d3, d4, d5, d6, d7, d8, hzl⟩ := kz9_at z2
  clear hy g1 g2 p1 p2 o1 z2 KZ T2 U2 T1
  try rw [hX1]
  try rw [hk]
  go_wp2
  obtain ⟨r0, r1, r2, r3, r4, r5, r6, r7, r8⟩ := KR.out
  refine bodyPost_ret (v := .agg #[.int .i64 (h.a + y), .int .i64 h.o, .int .i64 h.t, .int .u32 h.i, .int .u32 h.v, .int .u32 h.q, .int .i64 h.s, .int .i64 h.n, .slice A1 n c1]) (by simp [results, Tryz.results57, go_sem, r0, r1, r2, r3, r4, r5, r6, r7, r8]) rfl ⟨A1, c1, ?_, OF.out, TF.out⟩
  rw [HE.out]
 ·have hq3 : 3600 - h.a < y := by omega
  have hmin : min y (3600 - h.a) = (3600 - h.a) := by omega
  have HE : Hid (old h y = ⟨h.a + (3600 - h.a), h.o, h.t, h.i, h.v, h.q, h.s, h.n⟩) := Lib.hid (by simp only [old, if_pos hy]; rw [hmin])
  clear hmin
  have hm1 : h.a + (3600 - h.a) ≤ 3600 := by omega
  have hm2 : 0 ≤ h.a + (3600 - h.a) := by omega
  obtain ⟨X2, hX2⟩ : ∃ V, X1.setCell ⟨k, 0, none⟩ (.int .i64 (h.a + (3600 - h.a))) = V := ⟨_, rfl⟩
  have g2 : X2.heap[k]? = some (.cells #[Value.int .i64 (h.a + (3600 - h.a)), .int .i64 h.o, .int .i64 h.t, .int .u32 h.i, .int .u32 h.v, .int .u32 h.q, .int .i64 h.s, .int .i64 h.n, .slice A1 n c1] 40) := by rw [← hX2, block_setCell (i := 0) g1]; rfl
  have U2 : Below Y1.heap.size Y1 X2 := by rw [← hX2]; exact v1.setCell (p := ⟨k, 0, none⟩) (Nat.le_of_eq hk) _
  have T2 : Below W1.heap.size W1 X2 := u1.trans (U2.mono u1.size)
  have p2 := o1.below U2 (Nat.le_refl _)
  have z2 := KZ.out _ T2
  have KR := Lib.hid <| kz9_get z2 (Value.int .i64 (h.a + (3600 - h.a))) (.int .i64 h.o) (.int .i64 h.t) (.int .u32 h.i) (.int .u32 h.v) (.int .u32 h.q) (.int .i64 h.s) (.int .i64 h.n) (.slice A1 n c1)
  have OF := Lib.hid <| (p2.far9 (b := w.heap.size + 1) (by have := HS1.out; omega) (Value.int .i64 (h.a + (3600 - h.a))) (.int .i64 h.o) (.int .i64 h.t) (.int .u32 h.i) (.int .u32 h.v) (.int .u32 h.q) (.int .i64 h.s) (.int .i64 h.n) (.slice A1 n c1)).lower (base' := w.heap.size) (by have := HS1.out; omega)
  have TF := Lib.hid <| below_st9 (HB.out.trans (T2.mono HB.out.size)) (show w.heap.size ≤ w.heap.size + 1 by omega) (Value.int .i64 (h.a + (3600 - h.a))) (.int .i64 h.o) (.int .i64 h.t) (.int .u32 h.i) (.int .u32 h.v) (.int .u32 h.q) (.int .i64 h.s) (.int .i64 h.n) (.slice A1 n c1)
  obtain ⟨x0, x1, x2, x3, x4, x5, x6, x7, x8, y0, y1, y2, y3, y4, y5, y6, y7, y8, hkl2⟩ := kz9_at g2
  obtain ⟨b0, b1, b2, b3, b4, b5, b6, b7, b8, d0, d1, d2, d3, d4, d5, d6, d7, d8, hzl⟩ := kz9_at z2
  clear hy g1 g2 p1 p2 o1 z2 KZ T2 U2 T1
  try rw [hX1]
  try rw [hk]
  go_wp2
  obtain ⟨r0, r1, r2, r3, r4, r5, r6, r7, r8⟩ := KR.out
  refine bodyPost_ret (v := .agg #[.int .i64 (h.a + (3600 - h.a)), .int .i64 h.o, .int .i64 h.t, .int .u32 h.i, .int .u32 h.v, .int .u32 h.q, .int .i64 h.s, .int .i64 h.n, .slice A1 n c1]) (by simp [results, Tryz.results57, go_sem, r0, r1, r2, r3, r4, r5, r6, r7, r8]) rfl ⟨A1, c1, ?_, OF.out, TF.out⟩
  rw [HE.out]
end Go.Proofs.YtadcicmccdphkaaGreat
namespace Go.Proofs.YtadcicmccdphkaaGreat
open Go.RowKit Go.Joins

def sl (h : Hd) (s n : Int) : Hd := ⟨h.a, h.o, h.t, h.i, h.v, h.q, s, n⟩
def sck (h : Hd) (l : List Int) (n : Nat) : Int := num (sub (placed (smd (sl h 0 (20 + (n : Int))) l) 14) 14 2)
theorem sl_ok {h : Hd} (ok : Okd h) (s n : Int) : Okd (sl h s n) := ⟨ok.i, ok.v, ok.q⟩
theorem smd_length (h : Hd) (l : List Int) : (smd h l).length = 18 + l.length := by
 simp [smd, ehd_length]
 omega
theorem smd_byt (h : Hd) {l : List Int} (hy : Byt l) : Byt (smd h l) := ((ehd_byt h).append hy).drop 2
theorem placed_byt {l : List Int} (hy : Byt l) (a : Nat) : Byt (placed l a) := two_byt hy a _ _ (by have := placeX_bd l a; omega) (by have := placeY_bd l a; omega)
set_option maxRecDepth 100000 in
set_option maxHeartbeats 4000000 in
theorem seal_bad (h : Hd) (A : Option Addr) (n c : Nat) (l : List Int) (w : World) (hn : l.length = n) (ok : Okd h) (hb : Bt w A l) (_hy : Byt l) (hl : n ≤ 3000) (hm : mayd (sl h 0 (20 + (n : Int))) = false) :
  Calls Tryz.prog 44 #[.agg #[.int .i64 h.a, .int .i64 h.o, .int .i64 h.t, .int .u32 h.i, .int .u32 h.v, .int .u32 h.q, .int .i64 h.s, .int .i64 h.n, .slice A n c]] w fun e w' => e = .returned (.tuple #[.agg #[Value.int .i64 0, .int .i64 0, .int .i64 0, .int .u32 0, .int .u32 0, .int .u32 0, .int .i64 0, .int .i64 0, .slice none 0 0], .int .i64 1]) ∧ Below w.heap.size w w' := by
 obtain ⟨W0, hW0⟩ : ∃ V, w.alloc (.cells #[.int .i64 h.a, .int .i64 h.o, .int .i64 h.t, .int .u32 h.i, .int .u32 h.v, .int .u32 h.q, .int .i64 h.s, .int .i64 h.n, .slice A n c] 40) = V := ⟨_, rfl⟩
 have bW0 : Below w.heap.size w W0 := by rw [← hW0]; exact below_alloc1 _ _
 have sW0 : W0.heap.size = w.heap.size + 1 := by rw [← hW0]; simp
 have KX : Hid (∀ V, Below W0.heap.size W0 V → V.cell? ⟨w.heap.size, 0, none⟩ = some (.int .i64 h.a) ∧ V.cell? ⟨w.heap.size, 1, none⟩ = some (.int .i64 h.o) ∧ V.cell? ⟨w.heap.size, 2, none⟩ = some (.int .i64 h.t) ∧ V.cell? ⟨w.heap.size, 3, none⟩ = some (.int .u32 h.i) ∧ V.cell? ⟨w.heap.size, 4, none⟩ = some (.int .u32 h.v) ∧ V.cell? ⟨w.heap.size, 5, none⟩ = some (.int .u32 h.q) ∧ V.cell? ⟨w.heap.size, 6, none⟩ = some (.int .i64 h.s) ∧ V.cell? ⟨w.heap.size, 7, none⟩ = some (.int .i64 h.n) ∧ V.cell? ⟨w.heap.size, 8, none⟩ = some (.slice A n c)) := Lib.hid (fun V hV => kb9_new hW0 hV)
 obtain ⟨W1, hW1⟩ : ∃ V, W0.alloc (.cells #[Value.int .i64 0, .int .i64 0, .int .i64 0, .int .u32 0, .int .u32 0, .int .u32 0, .int .i64 0, .int .i64 0, .slice none 0 0] 40) = V := ⟨_, rfl⟩
 have bW1 : Below W0.heap.size W0 W1 := by rw [← hW1]; exact below_alloc1 _ _
 have sW1 : W1.heap.size = W0.heap.size + 1 := by rw [← hW1]; simp
 have KZ : Hid (∀ V, Below W1.heap.size W1 V → V.heap[w.heap.size + 1]? = some (.cells #[Value.int .i64 0, .int .i64 0, .int .i64 0, .int .u32 0, .int .u32 0, .int .u32 0, .int .i64 0, .int .i64 0, .slice none 0 0] 40)) :=
  Lib.hid (fun V hV => by rw [hV.block _ (by omega), ← hW1]; exact alloc_at _ _ _ (by omega))
 have HB : Hid (Below w.heap.size w W1) := Lib.hid (bW0.trans (bW1.mono bW0.size))
 have q0 := hb.step HB.out
 have hs1 : W1.heap.size = w.heap.size + 2 := by omega
 have HS1 := Lib.hid hs1
 have HN := Lib.hid hn
 have CC := copy_any h A n c l W1 hn q0 (by omega)
 obtain ⟨k0, k1, k2, k3, k4, k5, k6, k7, k8⟩ := KX.out _ bW1
 clear hb bW0 bW1 KX hn hs1 q0
 go_enter Tryz.func44, Tryz.ntmps44
 go_wp2_with fail
 refine CC.mono ?_
 rintro e Y1 ⟨A1, c1, rfl, o1, u1⟩
 clear k0 k1 k2 k3 k4 k5 k6 k7 k8 CC hW0 hW1 sW0 sW1
 obtain ⟨k, hk⟩ : ∃ k, Y1.heap.size = k := ⟨_, rfl⟩
 have hkb : w.heap.size + 2 ≤ k := by
  have := u1.size
  have := HS1.out
  omega
 obtain ⟨X1, hX1⟩ : ∃ V, Y1.alloc (.cells #[.int .i64 h.a, .int .i64 h.o, .int .i64 h.t, .int .u32 h.i, .int .u32 h.v, .int .u32 h.q, .int .i64 h.s, .int .i64 h.n, .slice A1 n c1] 40) = V := ⟨_, rfl⟩
 have v1 : Below Y1.heap.size Y1 X1 := by rw [← hX1]; exact below_alloc1 _ _
 have T1 : Below W1.heap.size W1 X1 := u1.trans (v1.mono u1.size)
 have g1 : X1.heap[k]? = some (.cells #[Value.int .i64 h.a, .int .i64 h.o, .int .i64 h.t, .int .u32 h.i, .int .u32 h.v, .int .u32 h.q, .int .i64 h.s, .int .i64 h.n, .slice A1 n c1] 40) := by rw [← hX1]; exact alloc_at _ _ _ hk.symm
 obtain ⟨a0, a1, a2, a3, a4, a5, a6, a7, a8, f0, f1, f2, f3, f4, f5, f6, f7, f8, hkl⟩ := kz9_at g1
 have p1 := o1.step v1
 have hne : k ≠ w.heap.size + 1 := by omega
 have hw : wrap64 (20 + (n : Int)) = 20 + (n : Int) := by unfold wrap64; omega
 have hw2 : IntKind.i64.wrap (20 + (n : Int)) = 20 + (n : Int) := wrap_i64 (by omega) (by omega)
 obtain ⟨X2, hX2⟩ : ∃ V, X1.setCell ⟨k, 7, none⟩ (.int .i64 (20 + (n : Int))) = V := ⟨_, rfl⟩
 have g2 : X2.heap[k]? = some (.cells #[Value.int .i64 h.a, .int .i64 h.o, .int .i64 h.t, .int .u32 h.i, .int .u32 h.v, .int .u32 h.q, .int .i64 h.s, .int .i64 (20 + (n : Int)), .slice A1 n c1] 40) := by rw [← hX2, block_setCell (i := 7) g1]; rfl
 have U2 : Below Y1.heap.size Y1 X2 := by rw [← hX2]; exact v1.setCell (p := ⟨k, 7, none⟩) (Nat.le_of_eq hk) _
 obtain ⟨X3, hX3⟩ : ∃ V, X2.setCell ⟨k, 6, none⟩ (.int .i64 0) = V := ⟨_, rfl⟩
 have g3 : X3.heap[k]? = some (.cells #[Value.int .i64 h.a, .int .i64 h.o, .int .i64 h.t, .int .u32 h.i, .int .u32 h.v, .int .u32 h.q, .int .i64 0, .int .i64 (20 + (n : Int)), .slice A1 n c1] 40) := by rw [← hX3, block_setCell (i := 6) g2]; rfl
 have U3 : Below Y1.heap.size Y1 X3 := by rw [← hX3]; exact U2.setCell (p := ⟨k, 6, none⟩) (Nat.le_of_eq hk) _
 have T3 : Below W1.heap.size W1 X3 := u1.trans (U3.mono u1.size)
 have o3 := o1.below U3 (Nat.le_refl _)
 have ef6 := unfrozen_of_block g2 6
 have ec6 := (cell_of_block g2 6).trans rfl
 have G3 : Hid (∀ V, Below X3.heap.size X3 V → V.heap[k]? = some (.cells #[Value.int .i64 h.a, .int .i64 h.o, .int .i64 h.t, .int .u32 h.i, .int .u32 h.v, .int .u32 h.q, .int .i64 0, .int .i64 (20 + (n : Int)), .slice A1 n c1] 40)) := Lib.hid (fun V hV => by rw [hV.block _ (lt_of_block g3)]; exact g3)
 obtain ⟨x0, x1, x2, x3, x4, x5, x6, x7, x8, y0, y1, y2, y3, y4, y5, y6, y7, y8, hkl3⟩ := kz9_at g3
 have CE := encode_any (sl h 0 (20 + (n : Int))) A1 n c1 l X3 HN.out (sl_ok ok _ _) (Own.bs o3) (by omega)
 have KT := Lib.hid T3
 have HO := Lib.hid o1
 have HU := Lib.hid U3
 have HK := Lib.hid hk
 clear g1 g2 U2 U3 o1 p1 u1 v1 T3 o3 T1
 have e1 : encAE (sl h 0 (20 + (n : Int))) l = 1 := by simp [encAE, maya, hm]
 have e2 : encA (sl h 0 (20 + (n : Int))) l = [] := by simp [encA, maya, hm]
 rw [e1, e2] at CE
 have CE2 : Calls Tryz.prog 69 #[.agg #[.int .i64 h.a, .int .i64 h.o, .int .i64 h.t, .int .u32 h.i, .int .u32 h.v, .int .u32 h.q, .int .i64 0, .int .i64 (20 + (n : Int)), .slice A1 n c1]] X3 fun e w' => ∃ A' c', e = .returned (.tuple #[.slice A' 0 c', .int .i64 1]) ∧ Own .u8 5 w' X3.heap.size A' c' [] ∧ Below X3.heap.size X3 w' := CE
 clear e1 e2 CE hm
 try rw [hX1]
 try rw [hk]
 go_wp2_with fail
 refine CE2.mono ?_
 rintro e Y2 ⟨A2, c2, rfl, -, u2⟩
 have T4 : Below W1.heap.size W1 Y2 := KT.out.trans (u2.mono KT.out.size)
 have z2 := KZ.out _ T4
 have KR := Lib.hid <| kz9_get z2 (Value.int .i64 0) (.int .i64 0) (.int .i64 0) (.int .u32 0) (.int .u32 0) (.int .u32 0) (.int .i64 0) (.int .i64 0) (.slice none 0 0)
 have TF := Lib.hid <| below_st9 (HB.out.trans (T4.mono HB.out.size)) (show w.heap.size ≤ w.heap.size + 1 by omega) (Value.int .i64 0) (.int .i64 0) (.int .i64 0) (.int .u32 0) (.int .u32 0) (.int .u32 0) (.int .i64 0) (.int .i64 0) (.slice none 0 0)
 clear x0 x1 x2 x3 x4 x5 x6 x7 x8 y0 y1 y2 y3 y4 y5 y6 y7 y8 hX1 hX2 hX3 a0 a1 a2 a3 a4 a5 a6 a7 a8 f0 f1 f2 f3 f4 f5 f6 f7 f8 ec6 ef6
 obtain ⟨b0, b1, b2, b3, b4, b5, b6, b7, b8, d0, d1, d2, d3, d4, d5, d6, d7, d8, hzl⟩ := kz9_at z2
 clear z2 CE2 T4 KZ
 go_wp2
 obtain ⟨r0, r1, r2, r3, r4, r5, r6, r7, r8⟩ := KR.out
 refine bodyPost_ret (v := .tuple #[.agg #[Value.int .i64 0, .int .i64 0, .int .i64 0, .int .u32 0, .int .u32 0, .int .u32 0, .int .i64 0, .int .i64 0, .slice none 0 0], .int .i64 1]) (by simp [results, Tryz.results44, go_sem, r0, r1, r2, r3, r4, r5, r6, r7, r8]) rfl ⟨rfl, TF.out⟩
set_option maxRecDepth 100000 in
set_option maxHeartbeats 4000000 in
theorem seal_ok (h : Hd) (A : Option Addr) (n c : Nat) (l : List Int) (w : World) (hn : l.length = n) (ok : Okd h) (hb : Bt w A l) (hy : Byt l) (hl : n ≤ 3000) (hm : mayd (sl h 0 (20 + (n : Int))) = true) :
  Calls Tryz.prog 44 #[.agg #[.int .i64 h.a, .int .i64 h.o, .int .i64 h.t, .int .u32 h.i, .int .u32 h.v, .int .u32 h.q, .int .i64 h.s, .int .i64 h.n, .slice A n c]] w fun e w' => ∃ A' c', e = .returned (.tuple #[.agg #[.int .i64 h.a, .int .i64 h.o, .int .i64 h.t, .int .u32 h.i, .int .u32 h.v, .int .u32 h.q, .int .i64 (sck h l n), .int .i64 (20 + (n : Int)), .slice A' n c'], .int .i64 0]) ∧ Own .u8 5 w' w.heap.size A' c' l ∧ Below w.heap.size w w' := by
 obtain ⟨W0, hW0⟩ : ∃ V, w.alloc (.cells #[.int .i64 h.a, .int .i64 h.o, .int .i64 h.t, .int .u32 h.i, .int .u32 h.v, .int .u32 h.q, .int .i64 h.s, .int .i64 h.n, .slice A n c] 40) = V := ⟨_, rfl⟩
 have bW0 : Below w.heap.size w W0 := by rw [← hW0]; exact below_alloc1 _ _
 have sW0 : W0.heap.size = w.heap.size + 1 := by rw [← hW0]; simp
 have KX : Hid (∀ V, Below W0.heap.size W0 V → V.cell? ⟨w.heap.size, 0, none⟩ = some (.int .i64 h.a) ∧ V.cell? ⟨w.heap.size, 1, none⟩ = some (.int .i64 h.o) ∧ V.cell? ⟨w.heap.size, 2, none⟩ = some (.int .i64 h.t) ∧ V.cell? ⟨w.heap.size, 3, none⟩ = some (.int .u32 h.i) ∧ V.cell? ⟨w.heap.size, 4, none⟩ = some (.int .u32 h.v) ∧ V.cell? ⟨w.heap.size, 5, none⟩ = some (.int .u32 h.q) ∧ V.cell? ⟨w.heap.size, 6, none⟩ = some (.int .i64 h.s) ∧ V.cell? ⟨w.heap.size, 7, none⟩ = some (.int .i64 h.n) ∧ V.cell? ⟨w.heap.size, 8, none⟩ = some (.slice A n c)) := Lib.hid (fun V hV => kb9_new hW0 hV)
 obtain ⟨W1, hW1⟩ : ∃ V, W0.alloc (.cells #[Value.int .i64 0, .int .i64 0, .int .i64 0, .int .u32 0, .int .u32 0, .int .u32 0, .int .i64 0, .int .i64 0, .slice none 0 0] 40) = V := ⟨_, rfl⟩
 have bW1 : Below W0.heap.size W0 W1 := by rw [← hW1]; exact below_alloc1 _ _
 have sW1 : W1.heap.size = W0.heap.size + 1 := by rw [← hW1]; simp
 have KZ : Hid (∀ V, Below W1.heap.size W1 V → V.heap[w.heap.size + 1]? = some (.cells #[Value.int .i64 0, .int .i64 0, .int .i64 0, .int .u32 0, .int .u32 0, .int .u32 0, .int .i64 0, .int .i64 0, .slice none 0 0] 40)) :=
  Lib.hid (fun V hV => by rw [hV.block _ (by omega), ← hW1]; exact alloc_at _ _ _ (by omega))
 have HB : Hid (Below w.heap.size w W1) := Lib.hid (bW0.trans (bW1.mono bW0.size))
 have q0 := hb.step HB.out
 have hs1 : W1.heap.size = w.heap.size + 2 := by omega
 have HS1 := Lib.hid hs1
 have HN := Lib.hid hn
 have CC := copy_any h A n c l W1 hn q0 (by omega)
 obtain ⟨k0, k1, k2, k3, k4, k5, k6, k7, k8⟩ := KX.out _ bW1
 clear hb bW0 bW1 KX hn hs1 q0
 go_enter Tryz.func44, Tryz.ntmps44
 go_wp2_with fail
 refine CC.mono ?_
 rintro e Y1 ⟨A1, c1, rfl, o1, u1⟩
 clear k0 k1 k2 k3 k4 k5 k6 k7 k8 CC hW0 hW1 sW0 sW1
 obtain ⟨k, hk⟩ : ∃ k, Y1.heap.size = k := ⟨_, rfl⟩
 have hkb : w.heap.size + 2 ≤ k := by
  have := u1.size
  have := HS1.out
  omega
 obtain ⟨X1, hX1⟩ : ∃ V, Y1.alloc (.cells #[.int .i64 h.a, .int .i64 h.o, .int .i64 h.t, .int .u32 h.i, .int .u32 h.v, .int .u32 h.q, .int .i64 h.s, .int .i64 h.n, .slice A1 n c1] 40) = V := ⟨_, rfl⟩
 have v1 : Below Y1.heap.size Y1 X1 := by rw [← hX1]; exact below_alloc1 _ _
 have T1 : Below W1.heap.size W1 X1 := u1.trans (v1.mono u1.size)
 have g1 : X1.heap[k]? = some (.cells #[Value.int .i64 h.a, .int .i64 h.o, .int .i64 h.t, .int .u32 h.i, .int .u32 h.v, .int .u32 h.q, .int .i64 h.s, .int .i64 h.n, .slice A1 n c1] 40) := by rw [← hX1]; exact alloc_at _ _ _ hk.symm
 obtain ⟨a0, a1, a2, a3, a4, a5, a6, a7, a8, f0, f1, f2, f3, f4, f5, f6, f7, f8, hkl⟩ := kz9_at g1
 have p1 := o1.step v1
 have hne : k ≠ w.heap.size + 1 := by omega
 have hw : wrap64 (20 + (n : Int)) = 20 + (n : Int) := by unfold wrap64; omega
 have hw2 : IntKind.i64.wrap (20 + (n : Int)) = 20 + (n : Int) := wrap_i64 (by omega) (by omega)
 obtain ⟨X2, hX2⟩ : ∃ V, X1.setCell ⟨k, 7, none⟩ (.int .i64 (20 + (n : Int))) = V := ⟨_, rfl⟩
 have g2 : X2.heap[k]? = some (.cells #[Value.int .i64 h.a, .int .i64 h.o, .int .i64 h.t, .int .u32 h.i, .int .u32 h.v, .int .u32 h.q, .int .i64 h.s, .int .i64 (20 + (n : Int)), .slice A1 n c1] 40) := by rw [← hX2, block_setCell (i := 7) g1]; rfl
 have U2 : Below Y1.heap.size Y1 X2 := by rw [← hX2]; exact v1.setCell (p := ⟨k, 7, none⟩) (Nat.le_of_eq hk) _
 obtain ⟨X3, hX3⟩ : ∃ V, X2.setCell ⟨k, 6, none⟩ (.int .i64 0) = V := ⟨_, rfl⟩
 have g3 : X3.heap[k]? = some (.cells #[Value.int .i64 h.a, .int .i64 h.o, .int .i64 h.t, .int .u32 h.i, .int .u32 h.v, .int .u32 h.q, .int .i64 0, .int .i64 (20 + (n : Int)), .slice A1 n c1] 40) := by rw [← hX3, block_setCell (i := 6) g2]; rfl
 have U3 : Below Y1.heap.size Y1 X3 := by rw [← hX3]; exact U2.setCell (p := ⟨k, 6, none⟩) (Nat.le_of_eq hk) _
 have T3 : Below W1.heap.size W1 X3 := u1.trans (U3.mono u1.size)
 have o3 := o1.below U3 (Nat.le_refl _)
 have ef6 := unfrozen_of_block g2 6
 have ec6 := (cell_of_block g2 6).trans rfl
 have G3 : Hid (∀ V, Below X3.heap.size X3 V → V.heap[k]? = some (.cells #[Value.int .i64 h.a, .int .i64 h.o, .int .i64 h.t, .int .u32 h.i, .int .u32 h.v, .int .u32 h.q, .int .i64 0, .int .i64 (20 + (n : Int)), .slice A1 n c1] 40)) := Lib.hid (fun V hV => by rw [hV.block _ (lt_of_block g3)]; exact g3)
 obtain ⟨x0, x1, x2, x3, x4, x5, x6, x7, x8, y0, y1, y2, y3, y4, y5, y6, y7, y8, hkl3⟩ := kz9_at g3
 have CE := encode_any (sl h 0 (20 + (n : Int))) A1 n c1 l X3 HN.out (sl_ok ok _ _) (Own.bs o3) (by omega)
 have KT := Lib.hid T3
 have HO := Lib.hid o1
 have HU := Lib.hid U3
 have HK := Lib.hid hk
 clear g1 g2 U2 U3 o1 p1 u1 v1 T3 o3 T1
 have hma : maya (sl h 0 (20 + (n : Int))) l = true := by
  simp only [maya, hm, HN.out]
  simp [sl]
 have e1 : encAE (sl h 0 (20 + (n : Int))) l = 0 := by simp [encAE, hma]
 have e2 : encA (sl h 0 (20 + (n : Int))) l = ehd (sl h 0 (20 + (n : Int))) ++ l := by simp [encA, hma]
 have hS : smd (sl h 0 (20 + (n : Int))) l = (ehd (sl h 0 (20 + (n : Int))) ++ l).drop 2 := rfl
 have hyS := smd_byt (sl h 0 (20 + (n : Int))) hy
 have hlS := smd_length (sl h 0 (20 + (n : Int))) l
 have HC : Hid (sck h l n = num (sub (placed (smd (sl h 0 (20 + (n : Int))) l) 14) 14 2)) := Lib.hid rfl
 have hlen : (ehd (sl h 0 (20 + (n : Int))) ++ l).length = 20 + n := by rw [List.length_append, ehd_length, HN.out]
 rw [e1, e2, hlen] at CE
 rw [HN.out] at hlS
 obtain ⟨X, hX⟩ : ∃ X, ehd (sl h 0 (20 + (n : Int))) ++ l = X := ⟨_, rfl⟩
 obtain ⟨S, hSS⟩ : ∃ S, smd (sl h 0 (20 + (n : Int))) l = S := ⟨_, rfl⟩
 rw [hX] at CE hS hlen
 rw [hSS] at hS hyS hlS HC
 have CE2 : Calls Tryz.prog 69 #[.agg #[.int .i64 h.a, .int .i64 h.o, .int .i64 h.t, .int .u32 h.i, .int .u32 h.v, .int .u32 h.q, .int .i64 0, .int .i64 (20 + (n : Int)), .slice A1 n c1]] X3 fun e w' => ∃ A' c', e = .returned (.tuple #[.slice A' (20 + n) c', .int .i64 0]) ∧ Own .u8 5 w' X3.heap.size A' c' X ∧ Below X3.heap.size X3 w' := CE
 clear e1 e2 CE hm hma hX hSS ok hy
 try rw [hX1]
 try rw [hk]
 go_wp2_with fail
 refine CE2.mono ?_
 rintro e Y2 ⟨A2, c2, rfl, o2, u2⟩
 have hc2 := o2.cap_le
 obtain ⟨g, rfl, _, hg⟩ := o2.some (by omega)
 have qd : Bt Y2 (some ⟨g, 2, none⟩) S := by rw [hS]; exact o2.bs.drop 2 _ (fun _ => by simp [addr_add])
 have CP : Calls Tryz.prog 70 #[.slice (some ⟨g, 2, none⟩) S.length (c2 - 2), .int .i64 14] Y2 fun e w' => ∃ A' c' L, Hid (L = placed S 14) ∧ e = .returned (.tuple #[.slice A' L.length c', .int .i64 0]) ∧ Own .u8 5 w' Y2.heap.size A' c' L ∧ Below Y2.heap.size Y2 w' :=
  place_ok (some ⟨g, 2, none⟩) (c2 - 2) S Y2.heap.size 14 Y2 qd hyS (Nat.le_refl _) (by omega) (by omega)
 rw [hlS] at CP
 have hcn : ¬ (c2 = 2) := by omega
 have hci : (2 : Int) ≤ (c2 : Int) := by omega
 have hni : (2 : Int) ≤ 20 + (n : Int) := by omega
 have hn3 : (20 + n : Nat) - 2 = 18 + n := by omega
 have hn4 : (20 + (n : Int)) ≤ (c2 : Int) := by omega
 clear x0 x1 x2 x3 x4 x5 x6 x7 x8 y0 y1 y2 y3 y4 y5 y6 y7 y8 hX1 hX2 hX3 a0 a1 a2 a3 a4 a5 a6 a7 a8 f0 f1 f2 f3 f4 f5 f6 f7 f8 ec6 ef6 CE2 o2 qd hS hlen
 go_wp2_with fail
 refine CP.mono ?_
 rintro e Y3 ⟨A3, c3, L, HL, rfl, o3, u3⟩
 have hLl : L.length = 18 + n := by rw [HL.out, placed, two_length, hlS]
 have hLy : Byt L := by rw [HL.out]; exact placed_byt hyS 14
 have hc3 := o3.cap_le
 obtain ⟨g3, rfl, _, hg3⟩ := o3.some (by omega)
 have q14 : Bt Y3 (some ⟨g3, 14, none⟩) (sub L 14 2) := by simpa using o3.bs.sub 14 2
 have l14 : (sub L 14 2).length = 2 := sub_len (by omega)
 have CN := number_any (some ⟨g3, 14, none⟩) 2 (c3 - 14) (sub L 14 2) Y3 q14 (sub_byt hLy 14 2) l14 (by omega) (by decide) (by decide)
 have bd := num_two (sub_byt hLy 14 2) l14
 have hwn : IntKind.i64.wrap (num (sub L 14 2)) = num (sub L 14 2) := wrap_i64 (by omega) (by omega)
 rw [hLl]
 have hcn3 : ¬ (c3 = 14) := by omega
 have hci3 : (16 : Int) ≤ (c3 : Int) := by omega
 have hci4 : (14 : Int) ≤ (c3 : Int) := by omega
 have hni3 : (16 : Int) ≤ 18 + (n : Int) := by omega
 have T5 : Below X3.heap.size X3 Y3 := u2.trans (u3.mono u2.size)
 have HS : Hid (sck h l n = num (sub L 14 2)) := Lib.hid (by rw [HC.out, HL.out])
 clear CP o3 hLy q14 l14 hyS hlS hLl
 go_wp2_with fail
 refine CN.mono ?_
 rintro e Y4 ⟨rfl, u4⟩
 have T6 : Below X3.heap.size X3 Y4 := T5.trans (u4.mono T5.size)
 have g4 := G3.out _ T6
 obtain ⟨X5, hX5⟩ : ∃ V, Y4.setCell ⟨k, 6, none⟩ (.int .i64 (num (sub L 14 2))) = V := ⟨_, rfl⟩
 have g5 : X5.heap[k]? = some (.cells #[Value.int .i64 h.a, .int .i64 h.o, .int .i64 h.t, .int .u32 h.i, .int .u32 h.v, .int .u32 h.q, .int .i64 (num (sub L 14 2)), .int .i64 (20 + (n : Int)), .slice A1 n c1] 40) := by rw [← hX5, block_setCell (i := 6) g4]; rfl
 have hs3 := KT.out.size
 have TK : Below W1.heap.size W1 Y4 := KT.out.trans (T6.mono KT.out.size)
 have T7 : Below W1.heap.size W1 X5 := by rw [← hX5]; exact TK.setCell (p := ⟨k, 6, none⟩) (by have := HS1.out; show W1.heap.size ≤ k; omega) _
 have z5 := KZ.out _ T7
 have U6 : Below Y1.heap.size Y1 Y4 := HU.out.trans (T6.mono HU.out.size)
 have U7 : Below Y1.heap.size Y1 X5 := by rw [← hX5]; exact U6.setCell (p := ⟨k, 6, none⟩) (Nat.le_of_eq HK.out) _
 have o6 := HO.out.below U7 (Nat.le_refl _)
 have KR := Lib.hid <| kz9_get z5 (Value.int .i64 h.a) (.int .i64 h.o) (.int .i64 h.t) (.int .u32 h.i) (.int .u32 h.v) (.int .u32 h.q) (.int .i64 (num (sub L 14 2))) (.int .i64 (20 + (n : Int))) (.slice A1 n c1)
 have OF := Lib.hid <| (o6.far9 (b := w.heap.size + 1) (by have := HS1.out; omega) (Value.int .i64 h.a) (.int .i64 h.o) (.int .i64 h.t) (.int .u32 h.i) (.int .u32 h.v) (.int .u32 h.q) (.int .i64 (num (sub L 14 2))) (.int .i64 (20 + (n : Int))) (.slice A1 n c1)).lower (base' := w.heap.size) (by have := HS1.out; omega)
 have TF := Lib.hid <| below_st9 (HB.out.trans (T7.mono HB.out.size)) (show w.heap.size ≤ w.heap.size + 1 by omega) (Value.int .i64 h.a) (.int .i64 h.o) (.int .i64 h.t) (.int .u32 h.i) (.int .u32 h.v) (.int .u32 h.q) (.int .i64 (num (sub L 14 2))) (.int .i64 (20 + (n : Int))) (.slice A1 n c1)
 obtain ⟨x0, x1, x2, x3, x4, x5, x6, x7, x8, y0, y1, y2, y3, y4, y5, y6, y7, y8, hkl4⟩ := kz9_at g4
 obtain ⟨a0, a1, a2, a3, a4, a5, a6, a7, a8, f0, f1, f2, f3, f4, f5, f6, f7, f8, hkl5⟩ := kz9_at g5
 obtain ⟨b0, b1, b2, b3, b4, b5, b6, b7, b8, d0, d1, d2, d3, d4, d5, d6, d7, d8, hzl⟩ := kz9_at z5
 clear U6 U7 g4 g5 z5 o6 TK T7 T6 T5 KZ G3 CN u2 u3 u4
 go_wp2
 obtain ⟨r0, r1, r2, r3, r4, r5, r6, r7, r8⟩ := KR.out
 refine bodyPost_ret (v := .tuple #[.agg #[.int .i64 h.a, .int .i64 h.o, .int .i64 h.t, .int .u32 h.i, .int .u32 h.v, .int .u32 h.q, .int .i64 (num (sub L 14 2)), .int .i64 (20 + (n : Int)), .slice A1 n c1], .int .i64 0]) (by simp [results, Tryz.results44, go_sem, r0, r1, r2, r3, r4, r5, r6, r7, r8]) rfl ⟨A1, c1, ?_, OF.out, TF.out⟩
 rw [HS.out]
end Go.Proofs.YtadcicmccdphkaaGreat
