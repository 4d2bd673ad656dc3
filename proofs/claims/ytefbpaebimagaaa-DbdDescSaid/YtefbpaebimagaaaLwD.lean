/-
  The walk of the law DbdDesc. No statement is proved here; no conditions.
-/
import Derived.Test.YtefbpaebimagaaaDl
namespace Go.Proofs.Ytefbpaebimagaaa
open Go.RowKit Go.Joins

set_option maxRecDepth 100000 in
set_option maxHeartbeats 8000000 in
theorem desc_walk (x : Dc) (A : Option Addr) (n c : Nat) (L : List Hd) (B : Option Addr) (nb cb : Nat) (l : List Int) (w : World) (hn : L.length = n) (hq : 0 ≤ x.q ∧ x.q < 4294967296) (ok : ∀ x ∈ L, Okd x) (hr : hRr w A L) (hnb : l.length = nb) (hb : Bt w B l) (hy : Byt l) (hc : nb ≤ cb) :
    Calls Try.prog 3 #[.agg #[.int .i64 x.m, .int .i64 x.o, .bool x.i, .bool x.r, .bool x.s, .int .u32 x.q, .slice A n c], .slice B nb cb] w fun e w' => e = .returned (.bool true) ∧ Below w.heap.size w w' := by
  obtain ⟨W0, hW0⟩ : ∃ V, w.alloc (.cells #[.int .i64 x.m, .int .i64 x.o, .bool x.i, .bool x.r, .bool x.s, .int .u32 x.q, .slice A n c] 25) = V := ⟨_, rfl⟩
  have bW0 : Below w.heap.size w W0 := by rw [← hW0]; exact below_alloc1 _ _
  have sW0 : W0.heap.size = w.heap.size + 1 := by rw [← hW0]; simp
  have KX : Hid (∀ V, Below W0.heap.size W0 V → V.cell? ⟨w.heap.size, 0, none⟩ = some (.int .i64 x.m) ∧ V.cell? ⟨w.heap.size, 1, none⟩ = some (.int .i64 x.o) ∧ V.cell? ⟨w.heap.size, 2, none⟩ = some (.bool x.i) ∧ V.cell? ⟨w.heap.size, 3, none⟩ = some (.bool x.r) ∧ V.cell? ⟨w.heap.size, 4, none⟩ = some (.bool x.s) ∧ V.cell? ⟨w.heap.size, 5, none⟩ = some (.int .u32 x.q) ∧ V.cell? ⟨w.heap.size, 6, none⟩ = some (.slice A n c)) := Lib.hid (fun V hV => kb7_new hW0 hV)
  have HB : Hid (Below w.heap.size w W0) := Lib.hid bW0
  have hr0 := hr.step bW0
  have hb0 := hb.step bW0
  obtain ⟨k0, k1, k2, k3, k4, k5, k6⟩ := KX.out _ (Below.refl _ _)
  clear bW0 hr hb
  by_cases h1 : 110 < n
  · have h2 : (n : Int) > 110 := by omega
    clear hn hb0 hy hc hr0 ok hnb h1 hq
    go_enter Try.func3, Try.ntmps3
    go_wp2_with fail
    refine (alive_any _).mono ?_
    rintro e V1 ⟨rfl, hv1⟩
    go_wp2
    go_ret
    exact ⟨rfl, HB.out.trans (hv1.mono HB.out.size)⟩
  have h2 : ¬ ((n : Int) > 110) := by omega
  by_cases h3 : 1600 < nb
  · have h4 : (nb : Int) > 1600 := by omega
    clear hn hb0 hy hc hr0 ok hnb h1 h3 hq
    go_enter Try.func3, Try.ntmps3
    go_wp2_with fail
    refine (alive_any _).mono ?_
    rintro e V1 ⟨rfl, hv1⟩
    go_wp2
    go_ret
    exact ⟨rfl, HB.out.trans (hv1.mono HB.out.size)⟩
  have h4 : ¬ ((nb : Int) > 1600) := by omega
  obtain ⟨X, hX⟩ : ∃ X, pdL x L = X := ⟨_, rfl⟩
  obtain ⟨mX, hmX⟩ : ∃ mX, X.length = mX := ⟨_, rfl⟩
  obtain ⟨E, hE⟩ : ∃ E, pdE x L = E := ⟨_, rfl⟩
  have yX : Byt X := by rw [← hX]; exact pd_byt _ _
  have lX : mX ≤ 5000 := by rw [← hmX, ← hX]; have := pd_len x L; omega
  have C1 := fun V hV => putdesc_any x A n c L V hq hn ok hV (by omega)
  have C2 := fun V hV => rputdesc_any x A n c L V hq hn ok hV (by omega)
  rw [hX, hE, hmX] at C1 C2
  have C3 := fun V hV => takedesc_any B nb cb l V hnb hV hy hc (by omega)
  have C4 := fun V hV => rtakedesc_any B nb cb l V hnb hV hy hc (by omega)
  have C5 := fun V A' c' hV hc' => takedesc_any A' mX c' X V hmX hV yX hc' lX
  have HBA0 : E = 0 → tdE X = 0 ∧ tdD X = x ∧ tdL X = L := fun h => by rw [← hX]; exact td_pd hq ok (hE.trans h)
  have hul : (tdL l).length ≤ 10000 := by have := tdl_len l; omega
  generalize tdE l = G at *
  generalize tdL l = U at *
  generalize tdD l = y at *
  generalize tdE X = I at *
  generalize tdL X = U5 at *
  generalize tdD X = x5 at *
  obtain ⟨mU, hmU⟩ : ∃ m, U.length = m := ⟨_, rfl⟩
  rw [hmU] at C3 C4 hul
  obtain ⟨m5, hm5⟩ : ∃ m, U5.length = m := ⟨_, rfl⟩
  rw [hm5] at C5
  have C6 := fun V (A1 A2 : Option Addr) (c1 c2 : Nat) h1 h2 => samed_any x A1 A2 n c1 c2 L V hn h1 h2 (by omega)
  have C7 := fun V (A1 A2 : Option Addr) (c1 c2 : Nat) h1 h2 => samed_any y A1 A2 mU c1 c2 U V hmU h1 h2 hul
  have HBA : Hid (E = 0 → I = 0 ∧ x5 = x ∧ m5 = n ∧ U5 = L) := Lib.hid (fun h => by obtain ⟨q1, q2, q3⟩ := HBA0 h; exact ⟨q1, q2, by rw [← hm5, q3, hn], q3⟩)
  have HMX := Lib.hid hmX
  have HR : Hid (∀ V, Below W0.heap.size W0 V → hRr V A L) := Lib.hid (fun V hV => hr0.step hV)
  have HBB : Hid (∀ V, Below W0.heap.size W0 V → Bt V B l) := Lib.hid (fun V hV => Bs.step hb0 hV)
  clear hX hmX hE yX lX HBA0 hul hmU hm5 hn ok hr0 hnb hb0 hy hc h1 h3 hq
  go_enter Try.func3, Try.ntmps3
  go_wp2_with fail
  refine (C1 W0 (HR.out _ (Below.refl _ _))).mono ?_
  rintro e Y1 ⟨A1, c1, rfl, o1, u1⟩
  have S_W0_Y1 : Hid (Below W0.heap.size W0 Y1) := Lib.hid (u1)
  have Q1 : Hid (∀ V, Below Y1.heap.size Y1 V → Bt V A1 X) := Lib.hid (fun V hV => Bs.step o1.bs hV)
  have D1 : Hid (mX ≤ c1) := Lib.hid (by have := o1.cap_le; rwa [HMX.out] at this)
  clear o1 u1 k0 k1 k2 k3 k4 k5 k6
  obtain ⟨k0, k1, k2, k3, k4, k5, k6⟩ := KX.out _ S_W0_Y1.out
  go_wp2_with fail
  refine (plain_any x A n c Y1).mono ?_
  rintro e Z1 ⟨rfl, u1⟩
  have S_Y1_Z1 : Hid (Below Y1.heap.size Y1 Z1) := Lib.hid (u1)
  have S_W0_Z1 : Hid (Below W0.heap.size W0 Z1) := Lib.hid (S_W0_Y1.out.trans (S_Y1_Z1.out.mono S_W0_Y1.out.size))
  clear u1 k0 k1 k2 k3 k4 k5 k6
  go_wp2_with fail
  refine (C2 Z1 (HR.out _ S_W0_Z1.out)).mono ?_
  rintro e Y2 ⟨A2, c2, rfl, o2, u2⟩
  have S_Z1_Y2 : Hid (Below Z1.heap.size Z1 Y2) := Lib.hid (u2)
  have S_W0_Y2 : Hid (Below W0.heap.size W0 Y2) := Lib.hid (S_W0_Z1.out.trans (S_Z1_Y2.out.mono S_W0_Z1.out.size))
  have S_Y1_Y2 : Hid (Below Y1.heap.size Y1 Y2) := Lib.hid (S_Y1_Z1.out.trans (S_Z1_Y2.out.mono S_Y1_Z1.out.size))
  have Q2 : Hid (∀ V, Below Y2.heap.size Y2 V → Bt V A2 X) := Lib.hid (fun V hV => Bs.step o2.bs hV)
  clear o2 u2
  go_wp2_with fail
  refine (C3 Y2 (HBB.out _ S_W0_Y2.out)).mono ?_
  rintro e Y3 ⟨A3, c3, rfl, r3, u3⟩
  have S_Y2_Y3 : Hid (Below Y2.heap.size Y2 Y3) := Lib.hid (u3)
  have S_W0_Y3 : Hid (Below W0.heap.size W0 Y3) := Lib.hid (S_W0_Y2.out.trans (S_Y2_Y3.out.mono S_W0_Y2.out.size))
  have S_Y1_Y3 : Hid (Below Y1.heap.size Y1 Y3) := Lib.hid (S_Y1_Y2.out.trans (S_Y2_Y3.out.mono S_Y1_Y2.out.size))
  have S_Z1_Y3 : Hid (Below Z1.heap.size Z1 Y3) := Lib.hid (S_Z1_Y2.out.trans (S_Y2_Y3.out.mono S_Z1_Y2.out.size))
  have R3 : Hid (∀ V, Below Y3.heap.size Y3 V → hRr V A3 U) := Lib.hid (fun V hV => r3.step hV)
  obtain ⟨X3, hX3⟩ : ∃ V, Y3.alloc (.cells #[Value.int .i64 y.m, .int .i64 y.o, .bool y.i, .bool y.r, .bool y.s, .int .u32 y.q, .slice A3 mU c3] 25) = V := ⟨_, rfl⟩
  have v3 : Below Y3.heap.size Y3 X3 := by rw [← hX3]; exact below_alloc1 _ _
  have K3 : Hid (∀ V, Below X3.heap.size X3 V → V.cell? ⟨Y3.heap.size, 0, none⟩ = some (.int .i64 y.m) ∧ V.cell? ⟨Y3.heap.size, 1, none⟩ = some (.int .i64 y.o) ∧ V.cell? ⟨Y3.heap.size, 2, none⟩ = some (.bool y.i) ∧ V.cell? ⟨Y3.heap.size, 3, none⟩ = some (.bool y.r) ∧ V.cell? ⟨Y3.heap.size, 4, none⟩ = some (.bool y.s) ∧ V.cell? ⟨Y3.heap.size, 5, none⟩ = some (.int .u32 y.q) ∧ V.cell? ⟨Y3.heap.size, 6, none⟩ = some (.slice A3 mU c3)) := Lib.hid (fun V hV => kb7_new hX3 hV)
  have S_Y3_X3 : Hid (Below Y3.heap.size Y3 X3) := Lib.hid (v3)
  have S_W0_X3 : Hid (Below W0.heap.size W0 X3) := Lib.hid (S_W0_Y3.out.trans (S_Y3_X3.out.mono S_W0_Y3.out.size))
  have S_Y1_X3 : Hid (Below Y1.heap.size Y1 X3) := Lib.hid (S_Y1_Y3.out.trans (S_Y3_X3.out.mono S_Y1_Y3.out.size))
  have S_Z1_X3 : Hid (Below Z1.heap.size Z1 X3) := Lib.hid (S_Z1_Y3.out.trans (S_Y3_X3.out.mono S_Z1_Y3.out.size))
  have S_Y2_X3 : Hid (Below Y2.heap.size Y2 X3) := Lib.hid (S_Y2_Y3.out.trans (S_Y3_X3.out.mono S_Y2_Y3.out.size))
  clear r3 u3 v3
  go_wp2_with fail
  refine (C4 X3 (HBB.out _ S_W0_X3.out)).mono ?_
  rintro e Y4 ⟨A4, c4, rfl, r4, u4⟩
  have S_X3_Y4 : Hid (Below X3.heap.size X3 Y4) := Lib.hid (u4)
  have S_W0_Y4 : Hid (Below W0.heap.size W0 Y4) := Lib.hid (S_W0_X3.out.trans (S_X3_Y4.out.mono S_W0_X3.out.size))
  have S_Y1_Y4 : Hid (Below Y1.heap.size Y1 Y4) := Lib.hid (S_Y1_X3.out.trans (S_X3_Y4.out.mono S_Y1_X3.out.size))
  have S_Z1_Y4 : Hid (Below Z1.heap.size Z1 Y4) := Lib.hid (S_Z1_X3.out.trans (S_X3_Y4.out.mono S_Z1_X3.out.size))
  have S_Y2_Y4 : Hid (Below Y2.heap.size Y2 Y4) := Lib.hid (S_Y2_X3.out.trans (S_X3_Y4.out.mono S_Y2_X3.out.size))
  have S_Y3_Y4 : Hid (Below Y3.heap.size Y3 Y4) := Lib.hid (S_Y3_X3.out.trans (S_X3_Y4.out.mono S_Y3_X3.out.size))
  have R4 : Hid (∀ V, Below Y4.heap.size Y4 V → hRr V A4 U) := Lib.hid (fun V hV => r4.step hV)
  obtain ⟨X4, hX4⟩ : ∃ V, Y4.alloc (.cells #[Value.int .i64 y.m, .int .i64 y.o, .bool y.i, .bool y.r, .bool y.s, .int .u32 y.q, .slice A4 mU c4] 32) = V := ⟨_, rfl⟩
  have v4 : Below Y4.heap.size Y4 X4 := by rw [← hX4]; exact below_alloc1 _ _
  have K4 : Hid (∀ V, Below X4.heap.size X4 V → V.cell? ⟨Y4.heap.size, 0, none⟩ = some (.int .i64 y.m) ∧ V.cell? ⟨Y4.heap.size, 1, none⟩ = some (.int .i64 y.o) ∧ V.cell? ⟨Y4.heap.size, 2, none⟩ = some (.bool y.i) ∧ V.cell? ⟨Y4.heap.size, 3, none⟩ = some (.bool y.r) ∧ V.cell? ⟨Y4.heap.size, 4, none⟩ = some (.bool y.s) ∧ V.cell? ⟨Y4.heap.size, 5, none⟩ = some (.int .u32 y.q) ∧ V.cell? ⟨Y4.heap.size, 6, none⟩ = some (.slice A4 mU c4)) := Lib.hid (fun V hV => kb7_new hX4 hV)
  have S_Y4_X4 : Hid (Below Y4.heap.size Y4 X4) := Lib.hid (v4)
  have S_W0_X4 : Hid (Below W0.heap.size W0 X4) := Lib.hid (S_W0_Y4.out.trans (S_Y4_X4.out.mono S_W0_Y4.out.size))
  have S_Y1_X4 : Hid (Below Y1.heap.size Y1 X4) := Lib.hid (S_Y1_Y4.out.trans (S_Y4_X4.out.mono S_Y1_Y4.out.size))
  have S_Z1_X4 : Hid (Below Z1.heap.size Z1 X4) := Lib.hid (S_Z1_Y4.out.trans (S_Y4_X4.out.mono S_Z1_Y4.out.size))
  have S_Y2_X4 : Hid (Below Y2.heap.size Y2 X4) := Lib.hid (S_Y2_Y4.out.trans (S_Y4_X4.out.mono S_Y2_Y4.out.size))
  have S_Y3_X4 : Hid (Below Y3.heap.size Y3 X4) := Lib.hid (S_Y3_Y4.out.trans (S_Y4_X4.out.mono S_Y3_Y4.out.size))
  have S_X3_X4 : Hid (Below X3.heap.size X3 X4) := Lib.hid (S_X3_Y4.out.trans (S_Y4_X4.out.mono S_X3_Y4.out.size))
  clear r4 u4 v4
  go_wp2_with fail
  refine (C5 X4 A1 c1 (Q1.out _ S_Y1_X4.out) D1.out).mono ?_
  rintro e Y5 ⟨A5, c5, rfl, r5, u5⟩
  have S_X4_Y5 : Hid (Below X4.heap.size X4 Y5) := Lib.hid (u5)
  have S_W0_Y5 : Hid (Below W0.heap.size W0 Y5) := Lib.hid (S_W0_X4.out.trans (S_X4_Y5.out.mono S_W0_X4.out.size))
  have S_Y1_Y5 : Hid (Below Y1.heap.size Y1 Y5) := Lib.hid (S_Y1_X4.out.trans (S_X4_Y5.out.mono S_Y1_X4.out.size))
  have S_Z1_Y5 : Hid (Below Z1.heap.size Z1 Y5) := Lib.hid (S_Z1_X4.out.trans (S_X4_Y5.out.mono S_Z1_X4.out.size))
  have S_Y2_Y5 : Hid (Below Y2.heap.size Y2 Y5) := Lib.hid (S_Y2_X4.out.trans (S_X4_Y5.out.mono S_Y2_X4.out.size))
  have S_Y3_Y5 : Hid (Below Y3.heap.size Y3 Y5) := Lib.hid (S_Y3_X4.out.trans (S_X4_Y5.out.mono S_Y3_X4.out.size))
  have S_X3_Y5 : Hid (Below X3.heap.size X3 Y5) := Lib.hid (S_X3_X4.out.trans (S_X4_Y5.out.mono S_X3_X4.out.size))
  have S_Y4_Y5 : Hid (Below Y4.heap.size Y4 Y5) := Lib.hid (S_Y4_X4.out.trans (S_X4_Y5.out.mono S_Y4_X4.out.size))
  have R5 : Hid (∀ V, Below Y5.heap.size Y5 V → hRr V A5 U5) := Lib.hid (fun V hV => r5.step hV)
  obtain ⟨X5, hX5⟩ : ∃ V, Y5.alloc (.cells #[Value.int .i64 x5.m, .int .i64 x5.o, .bool x5.i, .bool x5.r, .bool x5.s, .int .u32 x5.q, .slice A5 m5 c5] 25) = V := ⟨_, rfl⟩
  have v5 : Below Y5.heap.size Y5 X5 := by rw [← hX5]; exact below_alloc1 _ _
  have K5 : Hid (∀ V, Below X5.heap.size X5 V → V.cell? ⟨Y5.heap.size, 0, none⟩ = some (.int .i64 x5.m) ∧ V.cell? ⟨Y5.heap.size, 1, none⟩ = some (.int .i64 x5.o) ∧ V.cell? ⟨Y5.heap.size, 2, none⟩ = some (.bool x5.i) ∧ V.cell? ⟨Y5.heap.size, 3, none⟩ = some (.bool x5.r) ∧ V.cell? ⟨Y5.heap.size, 4, none⟩ = some (.bool x5.s) ∧ V.cell? ⟨Y5.heap.size, 5, none⟩ = some (.int .u32 x5.q) ∧ V.cell? ⟨Y5.heap.size, 6, none⟩ = some (.slice A5 m5 c5)) := Lib.hid (fun V hV => kb7_new hX5 hV)
  have S_Y5_X5 : Hid (Below Y5.heap.size Y5 X5) := Lib.hid (v5)
  have S_W0_X5 : Hid (Below W0.heap.size W0 X5) := Lib.hid (S_W0_Y5.out.trans (S_Y5_X5.out.mono S_W0_Y5.out.size))
  have S_Y1_X5 : Hid (Below Y1.heap.size Y1 X5) := Lib.hid (S_Y1_Y5.out.trans (S_Y5_X5.out.mono S_Y1_Y5.out.size))
  have S_Z1_X5 : Hid (Below Z1.heap.size Z1 X5) := Lib.hid (S_Z1_Y5.out.trans (S_Y5_X5.out.mono S_Z1_Y5.out.size))
  have S_Y2_X5 : Hid (Below Y2.heap.size Y2 X5) := Lib.hid (S_Y2_Y5.out.trans (S_Y5_X5.out.mono S_Y2_Y5.out.size))
  have S_Y3_X5 : Hid (Below Y3.heap.size Y3 X5) := Lib.hid (S_Y3_Y5.out.trans (S_Y5_X5.out.mono S_Y3_Y5.out.size))
  have S_X3_X5 : Hid (Below X3.heap.size X3 X5) := Lib.hid (S_X3_Y5.out.trans (S_Y5_X5.out.mono S_X3_Y5.out.size))
  have S_Y4_X5 : Hid (Below Y4.heap.size Y4 X5) := Lib.hid (S_Y4_Y5.out.trans (S_Y5_X5.out.mono S_Y4_Y5.out.size))
  have S_X4_X5 : Hid (Below X4.heap.size X4 X5) := Lib.hid (S_X4_Y5.out.trans (S_Y5_X5.out.mono S_X4_Y5.out.size))
  clear r5 u5 v5 C1 C2 C3 C4 C5
  go_upto_region 8 with fail
  clear hX3 hX4 hX5
  go_cut [15] (fun v wx => v = .bool true ∧ ∃ Z, Z = wx ∧ Below X5.heap.size X5 Z)
  case first =>
    by_cases hE : E = 0
    · obtain ⟨hI, hx, hm, hU⟩ := HBA.out hE
      subst hE hI hx hm hU
      obtain ⟨k0, k1, k2, k3, k4, k5, k6⟩ := KX.out _ S_W0_X5.out
      obtain ⟨j0, j1, j2, j3, j4, j5, j6⟩ := K5.out _ (Below.refl _ _)
      have ra := R5.out _ S_Y5_X5.out
      have rb := HR.out _ S_W0_X5.out
      refine wp_region_quiet_below (by kernel_rfl) (by kernel_rfl) ?_
      have gg0 := cell_regrown k0
      have gg1 := cell_regrown k1
      have gg2 := cell_regrown k2
      have gg3 := cell_regrown k3
      have gg4 := cell_regrown k4
      have gg5 := cell_regrown k5
      have gg6 := cell_regrown k6
      have gg7 := cell_regrown j0
      have gg8 := cell_regrown j1
      have gg9 := cell_regrown j2
      have gg10 := cell_regrown j3
      have gg11 := cell_regrown j4
      have gg12 := cell_regrown j5
      have gg13 := cell_regrown j6
      have zz0 : ∀ d os, _ := fun d os => Calls.regrown_of (w := X5) (d := d) (os := os) (plain_any x5 A m5 c _)
      have zz1 : ∀ d os, _ := fun d os => Calls.regrown_of (w := X5) (d := d) (os := os) (plain_any x5 A5 m5 c5 _)
      have zz2 : ∀ d os, _ := fun d os => Calls.regrown_of (w := X5) (d := d) (os := os) (C6 _ A5 A c5 c (ra.step (below_regrown X5 d os)) (rb.step (below_regrown X5 d os)))
      repeat (first | go_big_quiet_step (with_reducible exact zz0 _ _) | go_big_quiet_step (with_reducible exact zz1 _ _) | go_big_quiet_step (with_reducible exact zz2 _ _) | go_big_quiet_step (fail) | go_big_quiet_skip)
      refine wpQuiet_nil ?_
      intro W9 hw'
      obtain ⟨⟨dq, osq⟩, hw''⟩ := hw'
      have hbz := below_regrown X5 dq osq
      rw [← hw''] at hbz
      clear hw'' gg0 gg1 gg2 gg3 gg4 gg5 gg6 gg7 gg8 gg9 gg10 gg11 gg12 gg13 zz0 zz1 zz2 
      go_wp2
      go_meet
      case rel => exact ⟨rfl, _, rfl, hbz⟩
    · have d : (E == 0) = false := by simpa using hE
      have d2 : (E != 0) = true := by simp [bne, d]
      clear hE C6 C7
      refine wp_region_quiet_below (by kernel_rfl) (by kernel_rfl) ?_
      repeat (first | go_big_quiet_step (fail) | go_big_quiet_skip)
      refine wpQuiet_nil ?_
      intro W9 hw'
      obtain ⟨⟨dq, osq⟩, hw''⟩ := hw'
      have hbz := below_regrown X5 dq osq
      rw [← hw''] at hbz
      clear hw''   
      go_wp2
      go_meet
      case rel => exact ⟨rfl, _, rfl, hbz⟩
  case rest =>
    obtain ⟨rfl, Z, hwc, hz⟩ := hcut
    subst hwc
    clear C6
    have S_X5_Z : Hid (Below X5.heap.size X5 Z) := Lib.hid (hz)
    have S_W0_Z : Hid (Below W0.heap.size W0 Z) := Lib.hid (S_W0_X5.out.trans (S_X5_Z.out.mono S_W0_X5.out.size))
    have S_Y1_Z : Hid (Below Y1.heap.size Y1 Z) := Lib.hid (S_Y1_X5.out.trans (S_X5_Z.out.mono S_Y1_X5.out.size))
    have S_Z1_Z : Hid (Below Z1.heap.size Z1 Z) := Lib.hid (S_Z1_X5.out.trans (S_X5_Z.out.mono S_Z1_X5.out.size))
    have S_Y2_Z : Hid (Below Y2.heap.size Y2 Z) := Lib.hid (S_Y2_X5.out.trans (S_X5_Z.out.mono S_Y2_X5.out.size))
    have S_Y3_Z : Hid (Below Y3.heap.size Y3 Z) := Lib.hid (S_Y3_X5.out.trans (S_X5_Z.out.mono S_Y3_X5.out.size))
    have S_X3_Z : Hid (Below X3.heap.size X3 Z) := Lib.hid (S_X3_X5.out.trans (S_X5_Z.out.mono S_X3_X5.out.size))
    have S_Y4_Z : Hid (Below Y4.heap.size Y4 Z) := Lib.hid (S_Y4_X5.out.trans (S_X5_Z.out.mono S_Y4_X5.out.size))
    have S_X4_Z : Hid (Below X4.heap.size X4 Z) := Lib.hid (S_X4_X5.out.trans (S_X5_Z.out.mono S_X4_X5.out.size))
    have S_Y5_Z : Hid (Below Y5.heap.size Y5 Z) := Lib.hid (S_Y5_X5.out.trans (S_X5_Z.out.mono S_Y5_X5.out.size))
    clear hz
    obtain ⟨k0, k1, k2, k3, k4, k5, k6⟩ := K3.out _ S_X3_Z.out
    obtain ⟨j0, j1, j2, j3, j4, j5, j6⟩ := K4.out _ S_X4_Z.out
    have qa := Q1.out _ S_Y1_Z.out
    have qb := Q2.out _ S_Y2_Z.out
    have ra := R3.out _ S_Y3_Z.out
    have rb := R4.out _ S_Y4_Z.out
    go_upto_region 9 with fail
    refine wp_region_quiet_below (by kernel_rfl) (by kernel_rfl) ?_
    have gg0 := cell_regrown k0
    have gg1 := cell_regrown k1
    have gg2 := cell_regrown k2
    have gg3 := cell_regrown k3
    have gg4 := cell_regrown k4
    have gg5 := cell_regrown k5
    have gg6 := cell_regrown k6
    have gg7 := cell_regrown j0
    have gg8 := cell_regrown j1
    have gg9 := cell_regrown j2
    have gg10 := cell_regrown j3
    have gg11 := cell_regrown j4
    have gg12 := cell_regrown j5
    have gg13 := cell_regrown j6
    have ss0 := str_regrown (c := c1) qa HMX.out.symm
    have ss1 := str_regrown (c := c2) qb HMX.out.symm
    have zz0 : ∀ d os, _ := fun d os => Calls.regrown_of (w := Z) (d := d) (os := os) (alive_any _)
    have zz1 : ∀ d os, _ := fun d os => Calls.regrown_of (w := Z) (d := d) (os := os) (plain_any y A3 mU c3 _)
    have zz2 : ∀ d os, _ := fun d os => Calls.regrown_of (w := Z) (d := d) (os := os) (C7 _ A3 A4 c3 c4 (ra.step (below_regrown Z d os)) (rb.step (below_regrown Z d os)))
    repeat (first | go_big_quiet_step (with_reducible exact zz0 _ _) | go_big_quiet_step (with_reducible exact zz1 _ _) | go_big_quiet_step (with_reducible exact zz2 _ _) | go_big_quiet_step (fail) | go_big_quiet_skip)
    refine wpQuiet_nil ?_
    intro W9 hw'
    obtain ⟨⟨dq, osq⟩, hw''⟩ := hw'
    have hbz := below_regrown Z dq osq
    rw [← hw''] at hbz
    clear hw'' gg0 gg1 gg2 gg3 gg4 gg5 gg6 gg7 gg8 gg9 gg10 gg11 gg12 gg13 zz0 zz1 zz2 ss0 ss1
    have T9 := S_W0_Z.out.trans (hbz.mono S_W0_Z.out.size)
    go_wp2
    go_ret
    exact ⟨rfl, HB.out.trans (T9.mono HB.out.size)⟩
end Go.Proofs.Ytefbpaebimagaaa
