/-
  The walk of the law LsaBack. No statement is proved here; no conditions.
-/
import Derived.Test.YtodnhihpefhcdaaSm
import Derived.Test.YtodnhihpefhcdaaAl
namespace Go.Proofs.Ytodnhihpefhcdaa
open Go.RowKit Go.Joins

set_option maxRecDepth 100000 in
set_option maxHeartbeats 10000000 in
theorem back_walk (h : Hd) (A : Option Addr) (n c : Nat) (l : List Int) (y v : Int) (w : World) (hn : l.length = n) (ok : Okd h) (hb : Bt w A l) (hy : Byt l) (hv0 : 0 ≤ v) (hv1 : v < 256) :
    Calls Try.prog 4 #[.agg #[.int .i64 h.a, .int .i64 h.o, .int .i64 h.t, .int .u32 h.i, .int .u32 h.v, .int .u32 h.q, .int .i64 h.s, .int .i64 h.n, .slice A n c], .int .i64 y, .int .u8 v] w fun e w' => e = .returned (.bool true) ∧ Below w.heap.size w w' := by
  obtain ⟨W0, hW0⟩ : ∃ V, w.alloc (.cells #[.int .i64 h.a, .int .i64 h.o, .int .i64 h.t, .int .u32 h.i, .int .u32 h.v, .int .u32 h.q, .int .i64 h.s, .int .i64 h.n, .slice A n c] 37) = V := ⟨_, rfl⟩
  have bW0 : Below w.heap.size w W0 := by rw [← hW0]; exact below_alloc1 _ _
  have sW0 : W0.heap.size = w.heap.size + 1 := by rw [← hW0]; simp
  have KX : Hid (∀ V, Below W0.heap.size W0 V → V.cell? ⟨w.heap.size, 0, none⟩ = some (.int .i64 h.a) ∧ V.cell? ⟨w.heap.size, 1, none⟩ = some (.int .i64 h.o) ∧ V.cell? ⟨w.heap.size, 2, none⟩ = some (.int .i64 h.t) ∧ V.cell? ⟨w.heap.size, 3, none⟩ = some (.int .u32 h.i) ∧ V.cell? ⟨w.heap.size, 4, none⟩ = some (.int .u32 h.v) ∧ V.cell? ⟨w.heap.size, 5, none⟩ = some (.int .u32 h.q) ∧ V.cell? ⟨w.heap.size, 6, none⟩ = some (.int .i64 h.s) ∧ V.cell? ⟨w.heap.size, 7, none⟩ = some (.int .i64 h.n) ∧ V.cell? ⟨w.heap.size, 8, none⟩ = some (.slice A n c)) := Lib.hid (fun V hV => kb9_new hW0 hV)
  have HB : Hid (Below w.heap.size w W0) := Lib.hid bW0
  have q0 := hb.step bW0
  clear hb bW0 sW0
  obtain ⟨k0, k1, k2, k3, k4, k5, k6, k7, k8⟩ := KX.out _ (Below.refl _ _)
  by_cases h1 : 1300 < n
  · have h2 : (n : Int) > 1300 := by omega
    go_enter Try.func4, Try.ntmps4
    go_wp2_with fail
    refine (alive_any _).mono ?_
    rintro e V1 ⟨rfl, hv1⟩
    go_wp2
    go_ret
    exact ⟨rfl, HB.out.trans (hv1.mono HB.out.size)⟩
  have h2 : ¬ ((n : Int) > 1300) := by omega
  have hl : n ≤ 1300 := by omega
  clear h1
  by_cases hm : mayd (sl h 0 (20 + (n : Int))) = true
  case neg =>
    have CS := seal_bad h A n c l W0 hn ok q0 hy (by omega) (by simpa using hm)
    clear hm hn q0 ok hy
    go_enter Try.func4, Try.ntmps4
    go_wp2_with fail
    refine CS.mono ?_
    rintro e Y1 ⟨rfl, u1⟩
    obtain ⟨X1, hX1⟩ : ∃ V, Y1.alloc (.cells #[Value.int .i64 0, .int .i64 0, .int .i64 0, .int .u32 0, .int .u32 0, .int .u32 0, .int .i64 0, .int .i64 0, .slice none 0 0] 37) = V := ⟨_, rfl⟩
    have HX := Lib.hid hX1
    have v1 : Below Y1.heap.size Y1 X1 := by rw [← hX1]; exact below_alloc1 _ _
    have t1 : Below W0.heap.size W0 X1 := u1.trans (v1.mono u1.size)
    clear hX1 k0 k1 k2 k3 k4 k5 k6 k7 k8 CS u1 v1
    go_wp2_with fail
    try rw [HX.out]
    refine (alive_any _).mono ?_
    rintro e V1 ⟨rfl, hv1⟩
    obtain ⟨k0, k1, k2, k3, k4, k5, k6, k7, k8⟩ := kb9_new HX.out hv1
    go_wp2
    go_ret
    exact ⟨rfl, HB.out.trans ((t1.trans (hv1.mono t1.size)).mono HB.out.size)⟩
  have hw := seal_whl hn hm
  obtain ⟨x, hx⟩ : ∃ x, sck h l n = x := ⟨_, rfl⟩
  have CS : Calls Try.prog 15 #[.agg #[.int .i64 h.a, .int .i64 h.o, .int .i64 h.t, .int .u32 h.i, .int .u32 h.v, .int .u32 h.q, .int .i64 h.s, .int .i64 h.n, .slice A n c]] W0 fun e w' => ∃ A' c', e = .returned (.tuple #[.agg #[.int .i64 (sl h x (20 + (n : Int))).a, .int .i64 (sl h x (20 + (n : Int))).o, .int .i64 (sl h x (20 + (n : Int))).t, .int .u32 (sl h x (20 + (n : Int))).i, .int .u32 (sl h x (20 + (n : Int))).v, .int .u32 (sl h x (20 + (n : Int))).q, .int .i64 (sl h x (20 + (n : Int))).s, .int .i64 (sl h x (20 + (n : Int))).n, .slice A' n c'], .int .i64 0]) ∧ Own .u8 5 w' W0.heap.size A' c' l ∧ Below W0.heap.size W0 w' := by
    have q := seal_ok h A n c l W0 hn ok q0 hy (by omega) hm
    rw [hx] at q
    exact q
  have okg := sl_ok ok x (20 + (n : Int))
  have gn : (sl h x (20 + (n : Int))).n = 20 + (n : Int) := rfl
  rw [hx] at hw
  obtain ⟨g, hg⟩ : ∃ g, sl h x (20 + (n : Int)) = g := ⟨_, rfl⟩
  rw [hg] at CS okg gn hw
  obtain ⟨mg, hgn, _⟩ := whl_iff hw
  have ga := ((mayd_iff g).1 mg).1
  have mag : maya g l = true := by rw [maya, mg, hgn]; simp
  have gl : (ehd g ++ l).length = 20 + n := by rw [List.length_append, ehd_length, hn]
  have gE : encA g l = ehd g ++ l := by simp [encA, mag]
  have gE0 : encAE g l = 0 := by simp [encAE, mag]
  obtain ⟨f1, f2, f3, f4, f5⟩ := dec_enc (R := [7, 8]) hn okg hw
  have hsp : ∀ k : Nat, 2 ≤ k → k < 20 + n → k ≠ 18 → k ≠ 19 → (ehd g ++ l).getD k 0 ≠ v → ¬ ((ehd g ++ l).getD k 0 = 0 ∧ v = 255) → ¬ ((ehd g ++ l).getD k 0 = 255 ∧ v = 0) → dcE ((ehd g ++ l).set k v) ≠ 0 := fun k a1 a2 a3 a4 a5 a6 a7 => dec_spoilt hn okg hy hw a1 a2 a3 a4 hv0 hv1 a5 a6 a7
  have yE : Byt (ehd g ++ l) := (ehd_byt g).append hy
  obtain ⟨o, ho⟩ : ∃ o, old g y = o := ⟨_, rfl⟩
  have wo : whl o l = true := by rw [← ho]; exact old_whl y hw
  have oko : Okd o := by rw [← ho]; exact old_ok okg
  obtain ⟨E, hE⟩ : ∃ E, ehd g ++ l = E := ⟨_, rfl⟩
  rw [hE] at f1 f2 f3 f4 f5 hsp yE gl gE
  have fl : (E ++ [7, 8]).length = 22 + n := by rw [List.length_append, gl]; simp; omega
  have fy : Byt (E ++ [7, 8]) := yE.append (fun z hz => by simp at hz; omega)
  have cE : ∀ V A' c', Bt V A' l → Calls Try.prog 16 #[.agg #[.int .i64 g.a, .int .i64 g.o, .int .i64 g.t, .int .u32 g.i, .int .u32 g.v, .int .u32 g.q, .int .i64 g.s, .int .i64 g.n, .slice A' n c']] V fun e w' => ∃ A2 c2, e = .returned (.tuple #[.slice A2 (20 + n) c2, .int .i64 0]) ∧ Own .u8 5 w' V.heap.size A2 c2 E ∧ Below V.heap.size V w' := fun V A' c' hV => by
    have q := encode_any g A' n c' l V hn okg hV (by omega)
    rw [gE, gE0, gl] at q
    exact q
  have cD : ∀ V A' c', Bt V A' (E ++ [7, 8]) → 22 + n ≤ c' → Calls Try.prog 17 #[.slice A' (22 + n) c'] V fun e w' => ∃ A1 c1 A2 c2, e = .returned (.tuple #[.agg #[.int .i64 g.a, .int .i64 g.o, .int .i64 g.t, .int .u32 g.i, .int .u32 g.v, .int .u32 g.q, .int .i64 g.s, .int .i64 g.n, .slice A1 n c1], .slice A2 2 c2, .int .i64 0]) ∧ Own .u8 5 w' V.heap.size A1 c1 l ∧ Own .u8 5 w' V.heap.size A2 c2 [7, 8] ∧ Below V.heap.size V w' := fun V A' c' hV hc' => by
    have q := decode_ok A' (22 + n) c' (E ++ [7, 8]) V fl hV fy hc' (by omega) f1
    rw [f2, f3, f4, f5, show 22 + n - 20 - n = 2 by omega] at q
    exact q
  have cS := fun V A1 A2 c1 c2 g1 g2 => same_any g A1 A2 n c1 c2 l V hn g1 g2
  have cW : ∀ V A' c', Bt V A' l → Calls Try.prog 19 #[.agg #[.int .i64 g.a, .int .i64 g.o, .int .i64 g.t, .int .u32 g.i, .int .u32 g.v, .int .u32 g.q, .int .i64 g.s, .int .i64 g.n, .slice A' n c']] V fun e w' => e = .returned (.bool true) ∧ Below V.heap.size V w' := fun V A' c' hV => by
    have q := whole_any g A' n c' l V hn okg hV hy (by omega)
    rwa [hw] at q
  have cV : ∀ V A' c', Bt V A' l → Calls Try.prog 19 #[.agg #[.int .i64 o.a, .int .i64 o.o, .int .i64 o.t, .int .u32 o.i, .int .u32 o.v, .int .u32 o.q, .int .i64 o.s, .int .i64 o.n, .slice A' n c']] V fun e w' => e = .returned (.bool true) ∧ Below V.heap.size V w' := fun V A' c' hV => by
    have q := whole_any o A' n c' l V hn oko hV hy (by omega)
    rwa [wo] at q
  have cO : ∀ V A' c', Bt V A' l → Calls Try.prog 20 #[.agg #[.int .i64 g.a, .int .i64 g.o, .int .i64 g.t, .int .u32 g.i, .int .u32 g.v, .int .u32 g.q, .int .i64 g.s, .int .i64 g.n, .slice A' n c'], .int .i64 y] V fun e w' => ∃ A1 c1, e = .returned (.agg #[.int .i64 o.a, .int .i64 o.o, .int .i64 o.t, .int .u32 o.i, .int .u32 o.v, .int .u32 o.q, .int .i64 o.s, .int .i64 o.n, .slice A1 n c1]) ∧ Own .u8 5 w' V.heap.size A1 c1 l ∧ Below V.heap.size V w' := fun V A' c' hV => by
    have q := older_any g y A' n c' l V hn hV (by omega) ga.1 ga.2
    rw [ho] at q
    exact q
  have cB : ∀ V A' c' k, Bt V A' (E.set k v) → 20 + n ≤ c' → dcE (E.set k v) ≠ 0 → ∃ z : Int, (z == 0) = false ∧ (z != 0) = true ∧ Calls Try.prog 17 #[.slice A' (20 + n) c'] V fun e w' => e = .returned (.tuple #[.agg #[.int .i64 0, .int .i64 0, .int .i64 0, .int .u32 0, .int .u32 0, .int .u32 0, .int .i64 0, .int .i64 0, .slice none 0 0], .slice none 0 0, .int .i64 z]) ∧ Below V.heap.size V w' := fun V A' c' k hV hc' hd => by
    have q := decode_bad A' (20 + n) c' (E.set k v) V (by rw [List.length_set, gl]) hV (yE.set k v hv0 hv1) hc' (by omega) hd
    have d : (dcE (E.set k v) == 0) = false := by simpa using hd
    exact ⟨dcE (E.set k v), d, by simp [bne, d], q⟩
  have gb1 : ((20 + (n : Int)) == g.n) = true := by rw [gn]; simp
  have gb2 : ((20 + (n : Int)) != g.n) = false := by simp [bne, gb1]
  have GL := Lib.hid gl
  have HSP := Lib.hid hsp
  have YE := Lib.hid yE
  clear f1 f2 f3 f4 f5 hsp yE hE gE gE0 ho wo oko hw okg gn hg hx mg hgn ga mag hm fy fl hn hy ok gl
  obtain ⟨i0, hi0, hz0, hz1, hz2⟩ := info_of info5
  go_enter Try.func4, Try.ntmps4
  go_wp2_with fail
  refine CS.mono ?_
  rintro e Y1 ⟨A1, c1, rfl, o1, u1⟩
  obtain ⟨X1, hX1⟩ : ∃ V, Y1.alloc (.cells #[.int .i64 g.a, .int .i64 g.o, .int .i64 g.t, .int .u32 g.i, .int .u32 g.v, .int .u32 g.q, .int .i64 g.s, .int .i64 g.n, .slice A1 n c1] 37) = V := ⟨_, rfl⟩
  have v1 : Below Y1.heap.size Y1 X1 := by rw [← hX1]; exact below_alloc1 _ _
  have t1 : Below W0.heap.size W0 X1 := u1.trans (v1.mono u1.size)
  have K1 : Hid (∀ V, Below X1.heap.size X1 V → At V Y1.heap.size (.cells #[.int .i64 g.a, .int .i64 g.o, .int .i64 g.t, .int .u32 g.i, .int .u32 g.v, .int .u32 g.q, .int .i64 g.s, .int .i64 g.n, .slice A1 n c1] 37)) := Lib.hid (fun V hV => (At.mk hX1).step hV)
  have Q1 : Hid (∀ V, Below X1.heap.size X1 V → Bt V A1 l) := Lib.hid (fun V hV => Bs.step (Bs.step o1.bs v1) hV)
  have T1 := Lib.hid (HB.out.trans (t1.mono HB.out.size))
  clear k0 k1 k2 k3 k4 k5 k6 k7 k8 CS hW0 o1 u1 v1 t1
  obtain ⟨k0, k1, k2, k3, k4, k5, k6, k7, k8, -, -, -, -, -, -, -, -, -, hkl⟩ := kz9_at (K1.out _ (Below.refl _ _))
  have CE1 := cE X1 A1 c1 (Q1.out _ (Below.refl _ _))
  go_wp2_with fail
  refine CE1.mono ?_
  rintro e Y2 ⟨A2, c2, rfl, o2, u2⟩
  obtain ⟨g2, rfl, hg2, _⟩ := o2.some (by rw [GL.out]; omega)
  obtain ⟨X2, hX2⟩ : ∃ V, Y2.alloc (.cells #[] 5) = V := ⟨_, rfl⟩
  have v2 : Below Y2.heap.size Y2 X2 := by rw [← hX2]; exact below_alloc1 _ _
  have oe : Own .u8 5 X2 Y2.heap.size (some ⟨Y2.heap.size, 0, none⟩) 0 [] := by
    rw [← hX2]
    exact Own.empty _ _ (Nat.le_refl _) _ _
  obtain ⟨A3, c3, Y3, rY3, oY3, tY3⟩ := run_app (P := Try.prog) X2 Y2.heap.size 25 25 5 .u8 i0 _ 1 Try.underlying25 hi0 hz0 hz1 hz2 rfl _ _ _ oe _ (some ⟨g2, 0, none⟩) c2 _ (Bs.step o2.bs v2) (by simp only [maxLen, List.length_nil, GL.out] <;> omega) (by simp only [List.length_nil, GL.out] <;> omega) v2.size
  rw [List.nil_append] at oY3
  simp only [List.nil_append, List.length_nil, GL.out] at rY3
  have t3 : Below Y2.heap.size Y2 Y3 := v2.trans tY3
  obtain ⟨X4, hX4⟩ : ∃ V, Y3.alloc (.cells #[.int .u8 7, .int .u8 8] 5) = V := ⟨_, rfl⟩
  have v4 : Below Y3.heap.size Y3 X4 := by rw [← hX4]; exact below_alloc1 _ _
  have t4 : Below Y2.heap.size Y2 X4 := t3.trans (v4.mono t3.size)
  have z4 : Bt X4 (some ⟨Y3.heap.size, 0, none⟩) [7, 8] := by
    rw [← hX4]
    exact Bs.mk _ _ _ _ _ _ rfl (by simp [maxLen]) rfl
  obtain ⟨A5, c5, Y5, rY5, oY5, tY5⟩ := run_app (P := Try.prog) X4 Y2.heap.size 25 25 5 .u8 i0 _ 1 Try.underlying25 hi0 hz0 hz1 hz2 rfl _ _ _ (oY3.step v4) _ (some ⟨Y3.heap.size, 0, none⟩) 2 _ z4 (by simp only [maxLen, GL.out, List.length_cons, List.length_nil] <;> omega) (by simp only [GL.out, List.length_cons, List.length_nil] <;> omega) t4.size
  have hlen7 : (E ++ [7, 8]).length = 22 + n := by rw [List.length_append, GL.out]; simp; omega
  simp only [GL.out, List.length_cons, List.length_nil, Nat.reduceAdd] at rY5
  try rw [hlen7] at rY5
  have t5 : Below Y2.heap.size Y2 Y5 := t4.trans tY5
  have hc5 := oY5.cap_le
  rw [hlen7] at hc5
  have B5 := Lib.hid oY5.bs
  have O2 := Lib.hid o2
  have U2 := Lib.hid u2
  have T5 := Lib.hid t5
  clear k0 k1 k2 k3 k4 k5 k6 k7 k8 hkl CE1 cE o2 u2 v2 oe tY3 oY3 t3 v4 t4 z4 tY5 oY5 t5 hlen7 hX1
  go_wp2_with (at_builtin; first | refine wpList_runb _ rfl (.tmp 42) (.tmp 43) 25 rfl rfl rfl rY3 ?_ | refine wpList_runb _ rfl (.tmp 44) (.tmp 45) 25 rfl rfl rfl rY5 ?_)
  clear rY3 rY5 hX2 hX4
  refine (cD _ _ _ B5.out hc5).mono ?_
  rintro e Y6 ⟨A6, c6, A7, c7, rfl, o6, o7, u6⟩
  obtain ⟨X6, hX6⟩ : ∃ V, Y6.alloc (.cells #[.int .i64 g.a, .int .i64 g.o, .int .i64 g.t, .int .u32 g.i, .int .u32 g.v, .int .u32 g.q, .int .i64 g.s, .int .i64 g.n, .slice A6 n c6] 37) = V := ⟨_, rfl⟩
  have v6 : Below Y6.heap.size Y6 X6 := by rw [← hX6]; exact below_alloc1 _ _
  have K6 : At X6 Y6.heap.size (.cells #[.int .i64 g.a, .int .i64 g.o, .int .i64 g.t, .int .u32 g.i, .int .u32 g.v, .int .u32 g.q, .int .i64 g.s, .int .i64 g.n, .slice A6 n c6] 37) := At.mk hX6
  have s6 : Below Y2.heap.size Y2 X6 := by
    have q := u6.trans (v6.mono u6.size)
    exact T5.out.trans (q.mono T5.out.size)
  have r6 : Below X1.heap.size X1 X6 := U2.out.trans (s6.mono U2.out.size)
  have q6 := Bs.step o6.bs v6
  have q7 := Bs.step o7.bs v6
  have q1 := Q1.out _ r6
  obtain ⟨k0, k1, k2, k3, k4, k5, k6, k7, k8, -, -, -, -, -, -, -, -, -, hkl⟩ := kz9_at (K1.out _ r6)
  obtain ⟨j0, j1, j2, j3, j4, j5, j6, j7, j8, -, -, -, -, -, -, -, -, -, hjl⟩ := kz9_at K6
  have C6 := cS X6 A6 A1 c6 c1 q6 q1
  have S6 := Lib.hid s6
  have Q7 := Lib.hid q7
  clear o6 o7 u6 v6 K6 s6 r6 q6 q7 q1 B5 cS cD
  go_wp2_with fail
  refine C6.mono ?_
  rintro e Y7 ⟨rfl, u7⟩
  have ss := run_str (P := Try.prog) (w := Y7) 25 5 9 Try.underlying25 Try.underlying5 Try.underlying9 _ A7 c7 [7, 8] (Bs.step Q7.out u7)
  have es : strOfNums [7, 8] = ⟨#[7, 8]⟩ := by rfl
  rw [es] at ss
  simp only [List.length_cons, List.length_nil, Nat.reduceAdd] at ss
  have s7 := S6.out.trans (u7.mono S6.out.size)
  have r7 : Below X1.heap.size X1 Y7 := U2.out.trans (s7.mono U2.out.size)
  clear k0 k1 k2 k3 k4 k5 k6 k7 k8 hkl j0 j1 j2 j3 j4 j5 j6 j7 j8 hjl C6 hX6 es
  obtain ⟨k0, k1, k2, k3, k4, k5, k6, k7, k8, -, -, -, -, -, -, -, -, -, hkl⟩ := kz9_at (K1.out _ r7)
  have C7 := cW Y7 A1 c1 (Q1.out _ r7)
  have S7 := Lib.hid s7
  clear u7 s7 r7
  go_wp2_with fail
  refine C7.mono ?_
  rintro e Y8 ⟨rfl, u8⟩
  have s8 := S7.out.trans (u8.mono S7.out.size)
  have r8 : Below X1.heap.size X1 Y8 := U2.out.trans (s8.mono U2.out.size)
  clear k0 k1 k2 k3 k4 k5 k6 k7 k8 hkl ss C7
  obtain ⟨k0, k1, k2, k3, k4, k5, k6, k7, k8, -, -, -, -, -, -, -, -, -, hkl⟩ := kz9_at (K1.out _ r8)
  have C8 := cO Y8 A1 c1 (Q1.out _ r8)
  have S8 := Lib.hid s8
  clear u8 s8 r8
  go_wp2_with fail
  refine C8.mono ?_
  rintro e Y9 ⟨A9, c9, rfl, o9, u9⟩
  have s9 := S8.out.trans (u9.mono S8.out.size)
  have C9 := cV Y9 A9 c9 o9.bs
  have S9 := Lib.hid s9
  clear k0 k1 k2 k3 k4 k5 k6 k7 k8 hkl C8 u9 s9 o9
  go_wp2_with fail
  refine C9.mono ?_
  rintro e Y10 ⟨rfl, u10⟩
  have s10 := S9.out.trans (u10.mono S9.out.size)
  have r10 : Below X1.heap.size X1 Y10 := U2.out.trans (s10.mono U2.out.size)
  obtain ⟨k0, k1, k2, k3, k4, k5, k6, k7, k8, -, -, -, -, -, -, -, -, -, hkl⟩ := kz9_at (K1.out _ r10)
  have OE := O2.out.below s10 (Nat.le_refl _)
  have T10 : Below w.heap.size w Y10 := T1.out.trans (r10.mono T1.out.size)
  have hgw : w.heap.size ≤ g2 := Nat.le_trans T1.out.size hg2
  have HT := Lib.hid T10
  clear C9 u10 s10 r10 S6 S7 S8 S9 T5 U2 O2 Q1 Q7 K1 cW cV cO T10 HB KX q0
  have hn0 : (0 : Int) ≤ (n : Int) := by omega
  by_cases a1 : y < 2
  · have a2 : ¬ (y ≥ 2) := by omega
    clear OE HSP YE cB
    go_wp2_with fail
    refine (alive_any _).mono ?_
    rintro e V1 ⟨rfl, hv1⟩
    go_wp2
    go_ret
    exact ⟨rfl, HT.out.trans (hv1.mono HT.out.size)⟩
  by_cases a3 : y ≥ 20 + (n : Int)
  · have a4 : 20 + (n : Int) ≤ y := a3
    have a5 : ¬ (y < 20 + (n : Int)) := by omega
    clear OE HSP YE cB
    go_wp2_with fail
    refine (alive_any _).mono ?_
    rintro e V1 ⟨rfl, hv1⟩
    go_wp2
    go_ret
    exact ⟨rfl, HT.out.trans (hv1.mono HT.out.size)⟩
  have a4 : ¬ (20 + (n : Int) ≤ y) := a3
  have a5 : y < 20 + (n : Int) := by omega
  by_cases b18 : y = 18
  · have d18 : (y == 18) = true := by simpa using b18
    have n18 : (y != 18) = false := by simp [bne, d18]
    clear b18
    clear OE HSP YE cB
    go_wp2_with fail
    refine (alive_any _).mono ?_
    rintro e V1 ⟨rfl, hv1⟩
    go_wp2
    go_ret
    exact ⟨rfl, HT.out.trans (hv1.mono HT.out.size)⟩
  have d18 : (y == 18) = false := by simpa using b18
  have n18 : (y != 18) = true := by simp [bne, d18]
  by_cases b19 : y = 19
  · have d19 : (y == 19) = true := by simpa using b19
    have n19 : (y != 19) = false := by simp [bne, d19]
    clear b19
    clear OE HSP YE cB
    go_wp2_with fail
    refine (alive_any _).mono ?_
    rintro e V1 ⟨rfl, hv1⟩
    go_wp2
    go_ret
    exact ⟨rfl, HT.out.trans (hv1.mono HT.out.size)⟩
  have d19 : (y == 19) = false := by simpa using b19
  have n19 : (y != 19) = true := by simp [bne, d19]
  obtain ⟨k, rfl⟩ : ∃ k : Nat, y = (k : Int) := ⟨y.toNat, by omega⟩
  have k0 : (0 : Int) ≤ (k : Int) := by omega
  have kn : k < 20 + n := by omega
  have sp := HSP.out k (by omega) kn (by omega) (by omega)
  have hcl := OE.cellAt (i := k) (by rw [GL.out]; exact kn)
  have hfz := OE.frozen k
  have xb := byt_getD YE.out k
  have OE2 := OE.set k v
  generalize E.getD k 0 = x at *
  have HX := Lib.hid xb
  have SPX := Lib.hid sp
  have OX := Lib.hid OE2
  have HC2 := Lib.hid OE.cap_le
  clear sp xb OE2 b18 b19
  by_cases hxv : x = v
  · have d : (x == v) = true := by simpa using hxv
    have d2 : (x != v) = false := by simp [bne, d]
    clear hxv
    clear OE HSP YE cB SPX OX HC2 hfz
    go_wp2_with fail
    refine (alive_any _).mono ?_
    rintro e V1 ⟨rfl, hv1⟩
    go_wp2
    go_ret
    exact ⟨rfl, HT.out.trans (hv1.mono HT.out.size)⟩
  have d : (x == v) = false := by simpa using hxv
  have d2 : (x != v) = true := by simp [bne, d]
  by_cases v0 : v = 0
  · have dv0 : (v == 0) = true := by simpa using v0
    have hx0 : bits .xor .u8 x v = x := by rw [v0]; exact xor_0 HX.out.1 HX.out.2
    by_cases x255 : x = 255
    · have e255 : (x == 255) = true := by simpa using x255
      clear x255 v0 hxv
      clear OE HSP YE cB SPX OX HC2 hfz
      go_wp2_with fail
      refine (alive_any _).mono ?_
      rintro e V1 ⟨rfl, hv1⟩
      go_wp2
      go_ret
      exact ⟨rfl, HT.out.trans (hv1.mono HT.out.size)⟩
    have e255 : (x == 255) = false := by simpa using x255
    have W1 : Hid (x ≠ v) := Lib.hid hxv
    have W2 : Hid (¬ (x = 0 ∧ v = 255)) := Lib.hid (by omega)
    have W3 : Hid (¬ (x = 255 ∧ v = 0)) := Lib.hid (by omega)
    clear hxv v0 x255
    have hd := SPX.out W1.out W2.out W3.out
    obtain ⟨Y11, hY11⟩ : ∃ V, Y10.setCell ⟨g2, k, none⟩ (.int .u8 v) = V := ⟨_, rfl⟩
    have O11 := OX.out
    rw [hY11] at O11
    have T11 : Below w.heap.size w Y11 := by rw [← hY11]; exact HT.out.setCell (p := ⟨g2, k, none⟩) hgw _
    have hcc := HC2.out
    rw [GL.out] at hcc
    obtain ⟨z, dz, nz', CB⟩ := cB Y11 _ c2 k O11.bs hcc hd
    have H11 := Lib.hid T11
    clear hd O11 T11 hcc OE HSP YE cB SPX OX HC2
    go_wp2_with fail
    refine CB.mono ?_
    rintro e Y12 ⟨rfl, u12⟩
    obtain ⟨X12, hX12⟩ : ∃ V, Y12.alloc (.cells #[Value.int .i64 0, .int .i64 0, .int .i64 0, .int .u32 0, .int .u32 0, .int .u32 0, .int .i64 0, .int .i64 0, .slice none 0 0] 37) = V := ⟨_, rfl⟩
    have v12 : Below Y12.heap.size Y12 X12 := by rw [← hX12]; exact below_alloc1 _ _
    have t12 := H11.out.trans ((u12.trans (v12.mono u12.size)).mono H11.out.size)
    have H12 := Lib.hid hX12
    clear hX12 u12 v12 CB hY11
    go_wp2_with fail
    try rw [H12.out]
    refine (alive_any _).mono ?_
    rintro e V1 ⟨rfl, hv1⟩
    go_wp2
    go_ret
    exact ⟨rfl, t12.trans (hv1.mono t12.size)⟩
  have dv0 : (v == 0) = false := by simpa using v0
  by_cases v255 : v = 255
  · have dv255 : (v == 255) = true := by simpa using v255
    have hx0 : bits .xor .u8 x v = 255 - x := by rw [v255]; exact xor_255 HX.out.1 HX.out.2
    by_cases x0 : x = 0
    · have e255 : (255 - x == 255) = true := by rw [x0]; rfl
      have e256 : 255 - x = 255 := by omega
      clear x0 v0 hxv v255
      clear OE HSP YE cB SPX OX HC2 hfz
      go_wp2_with fail
      refine (alive_any _).mono ?_
      rintro e V1 ⟨rfl, hv1⟩
      go_wp2
      go_ret
      exact ⟨rfl, HT.out.trans (hv1.mono HT.out.size)⟩
    have e255 : (255 - x == 255) = false := by simp <;> omega
    have W1 : Hid (x ≠ v) := Lib.hid hxv
    have W2 : Hid (¬ (x = 0 ∧ v = 255)) := Lib.hid (by omega)
    have W3 : Hid (¬ (x = 255 ∧ v = 0)) := Lib.hid (by omega)
    clear hxv v0 x0 v255
    have hd := SPX.out W1.out W2.out W3.out
    obtain ⟨Y11, hY11⟩ : ∃ V, Y10.setCell ⟨g2, k, none⟩ (.int .u8 v) = V := ⟨_, rfl⟩
    have O11 := OX.out
    rw [hY11] at O11
    have T11 : Below w.heap.size w Y11 := by rw [← hY11]; exact HT.out.setCell (p := ⟨g2, k, none⟩) hgw _
    have hcc := HC2.out
    rw [GL.out] at hcc
    obtain ⟨z, dz, nz', CB⟩ := cB Y11 _ c2 k O11.bs hcc hd
    have H11 := Lib.hid T11
    clear hd O11 T11 hcc OE HSP YE cB SPX OX HC2
    go_wp2_with fail
    refine CB.mono ?_
    rintro e Y12 ⟨rfl, u12⟩
    obtain ⟨X12, hX12⟩ : ∃ V, Y12.alloc (.cells #[Value.int .i64 0, .int .i64 0, .int .i64 0, .int .u32 0, .int .u32 0, .int .u32 0, .int .i64 0, .int .i64 0, .slice none 0 0] 37) = V := ⟨_, rfl⟩
    have v12 : Below Y12.heap.size Y12 X12 := by rw [← hX12]; exact below_alloc1 _ _
    have t12 := H11.out.trans ((u12.trans (v12.mono u12.size)).mono H11.out.size)
    have H12 := Lib.hid hX12
    clear hX12 u12 v12 CB hY11
    go_wp2_with fail
    try rw [H12.out]
    refine (alive_any _).mono ?_
    rintro e V1 ⟨rfl, hv1⟩
    go_wp2
    go_ret
    exact ⟨rfl, t12.trans (hv1.mono t12.size)⟩
  have dv255 : (v == 255) = false := by simpa using v255
  have W1 : Hid (x ≠ v) := Lib.hid hxv
  have W2 : Hid (¬ (x = 0 ∧ v = 255)) := Lib.hid (by omega)
  have W3 : Hid (¬ (x = 255 ∧ v = 0)) := Lib.hid (by omega)
  clear hxv v0 v255
  have hd := SPX.out W1.out W2.out W3.out
  obtain ⟨Y11, hY11⟩ : ∃ V, Y10.setCell ⟨g2, k, none⟩ (.int .u8 v) = V := ⟨_, rfl⟩
  have O11 := OX.out
  rw [hY11] at O11
  have T11 : Below w.heap.size w Y11 := by rw [← hY11]; exact HT.out.setCell (p := ⟨g2, k, none⟩) hgw _
  have hcc := HC2.out
  rw [GL.out] at hcc
  obtain ⟨z, dz, nz', CB⟩ := cB Y11 _ c2 k O11.bs hcc hd
  have H11 := Lib.hid T11
  clear hd O11 T11 hcc OE HSP YE cB SPX OX HC2
  go_wp2_with fail
  refine CB.mono ?_
  rintro e Y12 ⟨rfl, u12⟩
  obtain ⟨X12, hX12⟩ : ∃ V, Y12.alloc (.cells #[Value.int .i64 0, .int .i64 0, .int .i64 0, .int .u32 0, .int .u32 0, .int .u32 0, .int .i64 0, .int .i64 0, .slice none 0 0] 37) = V := ⟨_, rfl⟩
  have v12 : Below Y12.heap.size Y12 X12 := by rw [← hX12]; exact below_alloc1 _ _
  have t12 := H11.out.trans ((u12.trans (v12.mono u12.size)).mono H11.out.size)
  have H12 := Lib.hid hX12
  clear hX12 u12 v12 CB hY11
  go_wp2_with fail
  try rw [H12.out]
  refine (alive_any _).mono ?_
  rintro e V1 ⟨rfl, hv1⟩
  go_wp2
  go_ret
  exact ⟨rfl, t12.trans (hv1.mono t12.size)⟩
end Go.Proofs.Ytodnhihpefhcdaa
