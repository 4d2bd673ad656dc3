/-
  Heads and Due, of the program and of the reference. No statement is proved here; no conditions.
-/
import Derived.Test.YtadcicmccdphkaaGreatG27
namespace Go.Proofs.YtadcicmccdphkaaGreat
open Go.RowKit Go.Joins

set_option maxRecDepth 100000 in
theorem heads_any (m : Int) (A : Option Addr) (n c : Nat) (o : Bool) (L : List Ae) (w : World) (hn : L.length = n) (hl : Arr w A L) (hll : n ≤ 9000) :
  Calls Tryz.prog 16 #[.agg #[.int .i64 m, .slice A n c, .bool o]] w fun e w' => ∃ A' c', e = .returned (.slice A' n c') ∧ hRr w' A' (heads (cons L)) ∧ Below w.heap.size w w' := by
 obtain ⟨W0, hW0⟩ : ∃ V, w.alloc (.cells #[.int .i64 m, .slice A n c, .bool o] 28) = V := ⟨_, rfl⟩
 have bW0 : Below w.heap.size w W0 := by rw [← hW0]; exact below_alloc1 _ _
 have sW0 : W0.heap.size = w.heap.size + 1 := by rw [← hW0]; simp
 have KX : Hid (∀ V, Below W0.heap.size W0 V → V.cell? ⟨w.heap.size, 0, none⟩ = some (.int .i64 m) ∧ V.cell? ⟨w.heap.size, 1, none⟩ = some (.slice A n c) ∧ V.cell? ⟨w.heap.size, 2, none⟩ = some (.bool o)) := Lib.hid (fun V hV => kb3_new hW0 hV)
 obtain ⟨k0, k1, k2⟩ := KX.out _ (Below.refl _ _)
 have HN := Lib.hid hn
 have HL := Lib.hid hl
 have GX : Hid (∀ V, Below W0.heap.size W0 V → V.cell? ⟨w.heap.size, 0, none⟩ = some (.int .i64 m) ∧ V.cell? ⟨w.heap.size, 1, none⟩ = some (.slice A n c) ∧ V.cell? ⟨w.heap.size, 2, none⟩ = some (.bool o)) := Lib.hid (fun V hV => KX.out V hV)
 have B0 := Lib.hid bW0
 clear hl hn KX sW0 bW0
 go_enter Tryz.func16, Tryz.ntmps16
 go_wp2_with fail
 go_loopg [3, 9] n (fun gf v3 v9 wx => ∃ (k : Nat) (Ao : Option Addr) (co : Nat), v3 = .slice Ao k co ∧ v9 = .int .i64 (k : Int) ∧ Hid (gf + k = n) ∧ Hid (Below W0.heap.size W0 wx) ∧ Hid (Ob 37 8 (W0.heap.size ≤ ·) wx Ao co (hflat (heads (cons (L.take k))))))
 case atStart => exact ⟨0, none, 0, rfl, rfl, Lib.hid (by omega), Lib.hid (Below.refl _ _), Lib.hid (.inl ⟨rfl, rfl, rfl⟩)⟩
 case round =>
  obtain ⟨k, Ao, co, rfl, rfl, hk, hb, hO⟩ := hrel
  have hk' := hk.out
  have HB := Lib.hid (B0.out.trans (hb.out.mono B0.out.size))
  
  clear k0 k1 k2
  cases gk with
  | zero =>
   obtain rfl : k = n := by omega
   have lt0 : decide ((k : Int) < (k : Int)) = false := by simp
   have lt1 : decide (k < k) = false := by simp
   have ht : L.take k = L := List.take_of_length_le (by rw [HN.out]; omega)
   rw [ht] at hO
   clear ht
   go_wp2
   go_ret
   exact ⟨Ao, co, rfl, Ob.rd hO.out, HB.out⟩
  | succ gf =>
   have hkl : k < L.length := by rw [HN.out]; omega
   have lt0 : (k : Int) < (n : Int) := by omega
   have hw1 : (k : Int) + 1 ≤ 10000 := by omega
   obtain ⟨b, off, hA, _, e0, e1, e2, e3, e4, e5, e6, e7, e8⟩ := ard_at (Arr.step HL.out HB.out).1 hkl
   have HCT : Hid (cons (L.take (k + 1)) = cons (L.take k) ++ [con (ag L k)]) := Lib.hid (cons_take1 hkl)
   obtain ⟨y, hy⟩ : ∃ y, (ag L k).h = y := ⟨_, rfl⟩
   obtain ⟨B, hB⟩ : ∃ B, (ag L k).l = B := ⟨_, rfl⟩
   have hcon : con (ag L k) = (y, B) := by rw [con, hy, hB]
   rw [hcon] at HCT
   rw [hy] at e0 e1 e2 e3 e4 e5 e6 e7
   rw [hB] at e8
   generalize B.length = mB at e8
   generalize (ag L k).A = Ab at *
   generalize (ag L k).c = d at *
   subst hA
   clear hkl hy hB hcon
   obtain ⟨W1, hW1⟩ : ∃ V, wr.alloc (.cells #[Value.int .i64 y.a, .int .i64 y.o, .int .i64 y.t, .int .u32 y.i, .int .u32 y.v, .int .u32 y.q, .int .i64 y.s, .int .i64 y.n, .slice Ab mB d] 40) = V := ⟨_, rfl⟩
   have u1 : Below wr.heap.size wr W1 := by rw [← hW1]; exact below_alloc1 _ _
   have G1 := Bk.mk hW1
   obtain ⟨z0, z1, z2, z3, z4, z5, z6, z7, z8, f0, f1, f2, f3, f4, f5, f6, f7, f8, hzl⟩ := kz9_at G1
   obtain ⟨i0, hi0, hz0, hz1, hz2⟩ := info_of infoH
   have u2 := u1
   obtain ⟨n0, hn0⟩ : ∃ q, W1.heap.size = q := ⟨_, rfl⟩
   have hlen : (hflat (heads (cons (L.take k)))).length = k * 8 := by rw [hflat_length, heads_len, cons_length, List.length_take, Nat.min_eq_left (by have := HN.out; omega)]
   obtain ⟨g9, c9, Z9, r9, rg9, kp9, hg9⟩ := app_one (P := Tryz.prog) (S := fun j => W0.heap.size ≤ j) Tryz.underlying54 hi0 hz0 hz1 hz2 rfl (by decide) (by decide) (hO.out.below u2) hlen (hcs y) rfl (hcs_one y) (by omega) n0 hn0
   have T9 : Hid (Below W0.heap.size W0 Z9) := Lib.hid ((hb.out.trans (u2.mono hb.out.size)).trans (kp9.below (fun j hj => hj) (hb.out.trans (u2.mono hb.out.size)).size))
   have O9 : Hid (Ob 37 8 (W0.heap.size ≤ ·) Z9 (some ⟨g9, 0, none⟩) c9 (hflat (heads (cons (L.take (k + 1)))))) := Lib.hid (.inr ⟨g9, (by rcases hg9 with q | q; exact q; have h1 := (hb.out.trans (u2.mono hb.out.size)).size; show W0.heap.size ≤ g9; omega), rfl, by rw [HCT.out, heads_snoc, hflat_snoc]; exact rg9⟩)
   rw [show (hcs y).toArray = #[Value.int .i64 y.a, .int .i64 y.o, .int .i64 y.t, .int .u32 y.i, .int .u32 y.v, .int .u32 y.q, .int .i64 y.s, .int .i64 y.n] from rfl] at r9
   clear rg9 kp9 hg9 hlen u2 u1 G1
   go_wp2_with (at_builtin; refine wpList_runb _ rfl (.tmp 13) (.tmp 16) 54 rfl rfl rfl r9 ?_)
   go_roundg gf
   case measure => omega
   case rel => exact ⟨k + 1, some ⟨g9, 0, none⟩, c9, rfl, by go_num, Lib.hid (by omega), T9, O9⟩
set_option maxRecDepth 100000 in
theorem rheads_any (m : Int) (A : Option Addr) (n c : Nat) (o : Bool) (L : List Ae) (w : World) (hn : L.length = n) (hl : Arr w A L) (hll : n ≤ 9000) :
  Calls Tryz.prog 17 #[.agg #[.int .i64 m, .slice A n c, .bool o]] w fun e w' => ∃ A' c', e = .returned (.slice A' n c') ∧ hRr w' A' (heads (cons L)) ∧ Below w.heap.size w w' := by
 obtain ⟨W0, hW0⟩ : ∃ V, w.alloc (.cells #[.int .i64 m, .slice A n c, .bool o] 32) = V := ⟨_, rfl⟩
 have bW0 : Below w.heap.size w W0 := by rw [← hW0]; exact below_alloc1 _ _
 have sW0 : W0.heap.size = w.heap.size + 1 := by rw [← hW0]; simp
 have KX : Hid (∀ V, Below W0.heap.size W0 V → V.cell? ⟨w.heap.size, 0, none⟩ = some (.int .i64 m) ∧ V.cell? ⟨w.heap.size, 1, none⟩ = some (.slice A n c) ∧ V.cell? ⟨w.heap.size, 2, none⟩ = some (.bool o)) := Lib.hid (fun V hV => kb3_new hW0 hV)
 obtain ⟨k0, k1, k2⟩ := KX.out _ (Below.refl _ _)
 have HN := Lib.hid hn
 have HL := Lib.hid hl
 have GX : Hid (∀ V, Below W0.heap.size W0 V → V.cell? ⟨w.heap.size, 0, none⟩ = some (.int .i64 m) ∧ V.cell? ⟨w.heap.size, 1, none⟩ = some (.slice A n c) ∧ V.cell? ⟨w.heap.size, 2, none⟩ = some (.bool o)) := Lib.hid (fun V hV => KX.out V hV)
 have B0 := Lib.hid bW0
 clear hl hn KX sW0 bW0
 obtain ⟨W1, hW1⟩ : ∃ V, W0.alloc (.cells #[] 37) = V := ⟨_, rfl⟩
 have u1 : Below W0.heap.size W0 W1 := by rw [← hW1]; exact below_alloc1 _ _
 have O1 := ob_lit W0 37 8 W0.heap.size (Nat.le_refl _)
 obtain ⟨N1, hN1⟩ : ∃ q, W0.heap.size = q := ⟨_, rfl⟩
 have O2 : Hid (Ob 37 8 (W0.heap.size ≤ ·) W1 (some ⟨N1, 0, none⟩) 0 (hflat (heads (cons (L.take 0))))) := Lib.hid (by rw [hW1, hN1] at O1; rw [hN1]; exact O1)
 have J0 : Hid (Below W0.heap.size W0 W1) := Lib.hid u1
 clear u1 O1
 go_enter Tryz.func17, Tryz.ntmps17
 go_wp2_with fail
 go_loopg [3, 4] n (fun gf v3 v4 wx => ∃ (k : Nat) (Ao : Option Addr) (co : Nat), v3 = .slice Ao k co ∧ v4 = .int .i64 (k : Int) ∧ Hid (gf + k = n) ∧ Hid (Below W0.heap.size W0 wx) ∧ Hid (Ob 37 8 (W0.heap.size ≤ ·) wx Ao co (hflat (heads (cons (L.take k))))))
 case atStart => exact ⟨0, some ⟨N1, 0, none⟩, 0, rfl, rfl, Lib.hid (by omega), J0, O2⟩
 case round =>
  obtain ⟨k, Ao, co, rfl, rfl, hk, hb, hO⟩ := hrel
  have hk' := hk.out
  have HB := Lib.hid (B0.out.trans (hb.out.mono B0.out.size))
  obtain ⟨p0, p1, p2⟩ := GX.out _ hb.out
  clear k0 k1 k2
  cases gk with
  | zero =>
   obtain rfl : k = n := by omega
   have lt0 : decide ((k : Int) < (k : Int)) = false := by simp
   have lt1 : decide (k < k) = false := by simp
   have ht : L.take k = L := List.take_of_length_le (by rw [HN.out]; omega)
   rw [ht] at hO
   clear ht
   go_wp2
   go_ret
   exact ⟨Ao, co, rfl, Ob.rd hO.out, HB.out⟩
  | succ gf =>
   have hkl : k < L.length := by rw [HN.out]; omega
   have lt0 : (k : Int) < (n : Int) := by omega
   have hw1 : (k : Int) + 1 ≤ 10000 := by omega
   obtain ⟨b, off, hA, _, e0, e1, e2, e3, e4, e5, e6, e7, e8⟩ := ard_at (Arr.step HL.out HB.out).1 hkl
   have HCT : Hid (cons (L.take (k + 1)) = cons (L.take k) ++ [con (ag L k)]) := Lib.hid (cons_take1 hkl)
   obtain ⟨y, hy⟩ : ∃ y, (ag L k).h = y := ⟨_, rfl⟩
   obtain ⟨B, hB⟩ : ∃ B, (ag L k).l = B := ⟨_, rfl⟩
   have hcon : con (ag L k) = (y, B) := by rw [con, hy, hB]
   rw [hcon] at HCT
   rw [hy] at e0 e1 e2 e3 e4 e5 e6 e7
   rw [hB] at e8
   generalize B.length = mB at e8
   generalize (ag L k).A = Ab at *
   generalize (ag L k).c = d at *
   subst hA
   clear hkl hy hB hcon
   obtain ⟨i0, hi0, hz0, hz1, hz2⟩ := info_of infoH
   have u2 : Below wr.heap.size wr wr := Below.refl _ _
   obtain ⟨n0, hn0⟩ : ∃ q, wr.heap.size = q := ⟨_, rfl⟩
   have hlen : (hflat (heads (cons (L.take k)))).length = k * 8 := by rw [hflat_length, heads_len, cons_length, List.length_take, Nat.min_eq_left (by have := HN.out; omega)]
   obtain ⟨g9, c9, Z9, r9, rg9, kp9, hg9⟩ := app_one (P := Tryz.prog) (S := fun j => W0.heap.size ≤ j) Tryz.underlying54 hi0 hz0 hz1 hz2 rfl (by decide) (by decide) (hO.out.below u2) hlen (hcs y) rfl (hcs_one y) (by omega) n0 hn0
   have T9 : Hid (Below W0.heap.size W0 Z9) := Lib.hid ((hb.out.trans (u2.mono hb.out.size)).trans (kp9.below (fun j hj => hj) (hb.out.trans (u2.mono hb.out.size)).size))
   have O9 : Hid (Ob 37 8 (W0.heap.size ≤ ·) Z9 (some ⟨g9, 0, none⟩) c9 (hflat (heads (cons (L.take (k + 1)))))) := Lib.hid (.inr ⟨g9, (by rcases hg9 with q | q; exact q; have h1 := (hb.out.trans (u2.mono hb.out.size)).size; show W0.heap.size ≤ g9; omega), rfl, by rw [HCT.out, heads_snoc, hflat_snoc]; exact rg9⟩)
   rw [show (hcs y).toArray = #[Value.int .i64 y.a, .int .i64 y.o, .int .i64 y.t, .int .u32 y.i, .int .u32 y.v, .int .u32 y.q, .int .i64 y.s, .int .i64 y.n] from rfl] at r9
   clear rg9 kp9 hg9 hlen u2 
   go_wp2_with (at_builtin; refine wpList_runb _ rfl (.tmp 13) (.tmp 20) 54 rfl rfl rfl r9 ?_)
   go_roundg gf
   case measure => omega
   case rel => exact ⟨k + 1, some ⟨g9, 0, none⟩, c9, rfl, by go_num, Lib.hid (by omega), T9, O9⟩
set_option maxRecDepth 100000 in
theorem due_any (m : Int) (A : Option Addr) (n c : Nat) (o : Bool) (adv : Int) (L : List Ae) (w : World) (hn : L.length = n) (hl : Arr w A L) (hll : n ≤ 9000) :
  Calls Tryz.prog 19 #[.agg #[.int .i64 m, .slice A n c, .bool o], .int .u32 adv] w fun e w' => ∃ A' c' n', e = .returned (.slice A' n' c') ∧ (dues (cons L) adv).length = n' ∧ kRr w' A' (dues (cons L) adv) ∧ Below w.heap.size w w' := by
 obtain ⟨W0, hW0⟩ : ∃ V, w.alloc (.cells #[.int .i64 m, .slice A n c, .bool o] 28) = V := ⟨_, rfl⟩
 have bW0 : Below w.heap.size w W0 := by rw [← hW0]; exact below_alloc1 _ _
 have sW0 : W0.heap.size = w.heap.size + 1 := by rw [← hW0]; simp
 have KX : Hid (∀ V, Below W0.heap.size W0 V → V.cell? ⟨w.heap.size, 0, none⟩ = some (.int .i64 m) ∧ V.cell? ⟨w.heap.size, 1, none⟩ = some (.slice A n c) ∧ V.cell? ⟨w.heap.size, 2, none⟩ = some (.bool o)) := Lib.hid (fun V hV => kb3_new hW0 hV)
 obtain ⟨k0, k1, k2⟩ := KX.out _ (Below.refl _ _)
 have HN := Lib.hid hn
 have HL := Lib.hid hl
 have GX : Hid (∀ V, Below W0.heap.size W0 V → V.cell? ⟨w.heap.size, 0, none⟩ = some (.int .i64 m) ∧ V.cell? ⟨w.heap.size, 1, none⟩ = some (.slice A n c) ∧ V.cell? ⟨w.heap.size, 2, none⟩ = some (.bool o)) := Lib.hid (fun V hV => KX.out V hV)
 have B0 := Lib.hid bW0
 clear hl hn KX sW0 bW0
 go_enter Tryz.func19, Tryz.ntmps19
 go_wp2_with fail
 go_loopg [5, 11] n (fun gf v5 v11 wx => ∃ (k q : Nat) (Ao : Option Addr) (co : Nat), v5 = .slice Ao q co ∧ v11 = .int .i64 (k : Int) ∧ Hid (gf + k = n) ∧ Hid (Below W0.heap.size W0 wx) ∧ Hid ((dues (cons (L.take k)) adv).length = q) ∧ Hid (Ob 25 3 (W0.heap.size ≤ ·) wx Ao co (kflat (dues (cons (L.take k)) adv))))
 case atStart => exact ⟨0, 0, none, 0, rfl, rfl, Lib.hid (by omega), Lib.hid (Below.refl _ _), Lib.hid rfl, Lib.hid (.inl ⟨rfl, rfl, rfl⟩)⟩
 case round =>
  obtain ⟨k, q, Ao, co, rfl, rfl, hk, hb, hq, hO⟩ := hrel
  have hk' := hk.out
  have HB := Lib.hid (B0.out.trans (hb.out.mono B0.out.size))
  
  clear k0 k1 k2
  cases gk with
  | zero =>
   obtain rfl : k = n := by omega
   have lt0 : decide ((k : Int) < (k : Int)) = false := by simp
   have lt1 : decide (k < k) = false := by simp
   have ht : L.take k = L := List.take_of_length_le (by rw [HN.out]; omega)
   rw [ht] at hO hq
   clear ht
   go_wp2
   go_ret
   exact ⟨Ao, co, q, rfl, hq.out, Ob.rd hO.out, HB.out⟩
  | succ gf =>
   have hqk : q ≤ k := by have h1 := dues_len (cons (L.take k)) adv; have h2 := hq.out; rw [cons_length, List.length_take] at h1; omega
   have hkl : k < L.length := by rw [HN.out]; omega
   have lt0 : (k : Int) < (n : Int) := by omega
   have hw1 : (k : Int) + 1 ≤ 10000 := by omega
   obtain ⟨b, off, hA, _, e0, e1, e2, e3, e4, e5, e6, e7, e8⟩ := ard_at (Arr.step HL.out HB.out).1 hkl
   have HCT : Hid (cons (L.take (k + 1)) = cons (L.take k) ++ [con (ag L k)]) := Lib.hid (cons_take1 hkl)
   obtain ⟨y, hy⟩ : ∃ y, (ag L k).h = y := ⟨_, rfl⟩
   obtain ⟨B, hB⟩ : ∃ B, (ag L k).l = B := ⟨_, rfl⟩
   have hcon : con (ag L k) = (y, B) := by rw [con, hy, hB]
   rw [hcon] at HCT
   rw [hy] at e0 e1 e2 e3 e4 e5 e6 e7
   rw [hB] at e8
   generalize B.length = mB at e8
   generalize (ag L k).A = Ab at *
   generalize (ag L k).c = d at *
   subst hA
   clear hkl hy hB hcon
   obtain ⟨W1, hW1⟩ : ∃ V, wr.alloc (.cells #[Value.int .i64 y.a, .int .i64 y.o, .int .i64 y.t, .int .u32 y.i, .int .u32 y.v, .int .u32 y.q, .int .i64 y.s, .int .i64 y.n, .slice Ab mB d] 40) = V := ⟨_, rfl⟩
   have u1 : Below wr.heap.size wr W1 := by rw [← hW1]; exact below_alloc1 _ _
   have G1 := Bk.mk hW1
   obtain ⟨z0, z1, z2, z3, z4, z5, z6, z7, z8, f0, f1, f2, f3, f4, f5, f6, f7, f8, hzl⟩ := kz9_at G1
   have HDS : Hid ((dues (cons (L.take (k + 1))) adv) = (dues (cons (L.take k)) adv) ++ if due adv (y, B) = true then [kyo y] else []) := Lib.hid (by rw [HCT.out, dues_snoc])
   have HDU : Hid (due adv (y, B) = (decide (y.v = adv) && (decide (1800 ≤ y.a) && decide (y.a < 3600)))) := Lib.hid rfl
   have H1 := Lib.hid (hb.out.trans (u1.mono hb.out.size))
   have O1 := Lib.hid (hO.out.below u1)
   by_cases hdu : y.v = adv ∧ 1800 ≤ y.a ∧ y.a < 3600
   ·obtain ⟨h1, h2, h3⟩ := hdu
    have HD1 : Hid ((dues (cons (L.take (k + 1))) adv) = (dues (cons (L.take k)) adv) ++ [kyo y]) := Lib.hid (by rw [HDS.out, HDU.out, if_pos (by simp [h1, h2, h3])])
    have hd1 : (y.v == adv) = true := by simpa using h1
    have hd2 : decide (y.a ≥ 1800) = true := by simpa using h2
    have hd3 : decide (y.a < 3600) = true := by simpa using h3
    have h2' : y.a ≥ 1800 := h2
    obtain ⟨i0, hi0, hz0, hz1, hz2⟩ := info_of infoK
    have CK := key_any y W1
    
    subst h1
    clear u1 G1 
    go_wp2_with fail
    refine CK.mono ?_
    rintro e W5 ⟨rfl, u5⟩
    obtain ⟨n0, hn0⟩ : ∃ q, W5.heap.size = q := ⟨_, rfl⟩
    obtain ⟨g9, c9, Z9, r9, rg9, kp9, hg9⟩ := app_one (P := Tryz.prog) (S := fun j => W0.heap.size ≤ j) Tryz.underlying58 hi0 hz0 hz1 hz2 rfl (by decide) (by decide) (O1.out.below u5) (n := q) (by rw [kflat_length, hq.out]) (kcs (kyo y)) rfl (kcs_one _) (by omega) n0 hn0
    have T5 := H1.out.trans (u5.mono H1.out.size)
    have T9 : Hid (Below W0.heap.size W0 Z9) := Lib.hid (T5.trans (kp9.below (fun j hj => hj) T5.size))
    have O9 : Hid (Ob 25 3 (W0.heap.size ≤ ·) Z9 (some ⟨g9, 0, none⟩) c9 (kflat (dues (cons (L.take (k + 1))) y.v))) := Lib.hid (.inr ⟨g9, (by rcases hg9 with q | q; exact q; have h1 := T5.size; show W0.heap.size ≤ g9; omega), rfl, by rw [HD1.out, kflat_snoc]; exact rg9⟩)
    have Q9 : Hid ((dues (cons (L.take (k + 1))) y.v).length = q + 1) := Lib.hid (by rw [HD1.out, List.length_append, hq.out]; rfl)
    rw [show (kcs (kyo y)).toArray = #[Value.int .i64 y.t, .int .u32 y.i, .int .u32 y.v] from rfl] at r9
    clear rg9 kp9 hg9 T5 u5 CK
    go_wp2_with (at_builtin; refine wpList_runb _ rfl (.tmp 32) (.tmp 36) 58 rfl rfl rfl r9 ?_)
    go_roundg gf
    case measure => omega
    case rel => exact ⟨k + 1, q + 1, some ⟨g9, 0, none⟩, c9, rfl, by go_num, Lib.hid (by omega), T9, Q9, O9⟩
   ·have HD1 : Hid ((dues (cons (L.take (k + 1))) adv) = (dues (cons (L.take k)) adv)) := Lib.hid (by rw [HDS.out, HDU.out, if_neg (by simp only [Bool.and_eq_true, decide_eq_true_eq]; exact hdu), List.append_nil])
    have O9 : Hid (Ob 25 3 (W0.heap.size ≤ ·) W1 Ao co (kflat (dues (cons (L.take (k + 1))) adv))) := Lib.hid (by rw [HD1.out]; exact O1.out)
    have Q9 : Hid ((dues (cons (L.take (k + 1))) adv).length = q) := Lib.hid (by rw [HD1.out, hq.out])
    clear u1 G1 
    by_cases h1 : y.v = adv
    ·have hd1 : (y.v == adv) = true := by simpa using h1
     by_cases h2 : 1800 ≤ y.a
     ·have hd2 : decide (y.a ≥ 1800) = true := by simpa using h2
      have h2' : y.a ≥ 1800 := h2
      have h3 : ¬ y.a < 3600 := fun q => hdu ⟨h1, h2, q⟩
      have hd3 : decide (y.a < 3600) = false := by simpa using h3
      subst h1
      clear hdu
      go_wp2
      go_roundg gf
      case measure => omega
      case rel => exact ⟨k + 1, q, Ao, co, rfl, by go_num, Lib.hid (by omega), H1, Q9, O9⟩
     ·have hd2 : decide (y.a ≥ 1800) = false := by simpa using h2
      have h2' : ¬ y.a ≥ 1800 := h2
      subst h1
      clear hdu
      go_wp2
      go_roundg gf
      case measure => omega
      case rel => exact ⟨k + 1, q, Ao, co, rfl, by go_num, Lib.hid (by omega), H1, Q9, O9⟩
    ·have hd1 : (y.v == adv) = false := by simpa using h1
     clear hdu
     go_wp2
     go_roundg gf
     case measure => omega
     case rel => exact ⟨k + 1, q, Ao, co, rfl, by go_num, Lib.hid (by omega), H1, Q9, O9⟩
set_option maxRecDepth 100000 in
theorem rdue_any (m : Int) (A : Option Addr) (n c : Nat) (o : Bool) (adv : Int) (L : List Ae) (w : World) (hn : L.length = n) (hl : Arr w A L) (hll : n ≤ 9000) :
  Calls Tryz.prog 20 #[.agg #[.int .i64 m, .slice A n c, .bool o], .int .u32 adv] w fun e w' => ∃ A' c' n', e = .returned (.slice A' n' c') ∧ (dues (cons L) adv).length = n' ∧ kRr w' A' (dues (cons L) adv) ∧ Below w.heap.size w w' := by
 obtain ⟨W0, hW0⟩ : ∃ V, w.alloc (.cells #[.int .i64 m, .slice A n c, .bool o] 32) = V := ⟨_, rfl⟩
 have bW0 : Below w.heap.size w W0 := by rw [← hW0]; exact below_alloc1 _ _
 have sW0 : W0.heap.size = w.heap.size + 1 := by rw [← hW0]; simp
 have KX : Hid (∀ V, Below W0.heap.size W0 V → V.cell? ⟨w.heap.size, 0, none⟩ = some (.int .i64 m) ∧ V.cell? ⟨w.heap.size, 1, none⟩ = some (.slice A n c) ∧ V.cell? ⟨w.heap.size, 2, none⟩ = some (.bool o)) := Lib.hid (fun V hV => kb3_new hW0 hV)
 obtain ⟨k0, k1, k2⟩ := KX.out _ (Below.refl _ _)
 have HN := Lib.hid hn
 have HL := Lib.hid hl
 have GX : Hid (∀ V, Below W0.heap.size W0 V → V.cell? ⟨w.heap.size, 0, none⟩ = some (.int .i64 m) ∧ V.cell? ⟨w.heap.size, 1, none⟩ = some (.slice A n c) ∧ V.cell? ⟨w.heap.size, 2, none⟩ = some (.bool o)) := Lib.hid (fun V hV => KX.out V hV)
 have B0 := Lib.hid bW0
 clear hl hn KX sW0 bW0
 obtain ⟨W1, hW1⟩ : ∃ V, W0.alloc (.cells #[] 25) = V := ⟨_, rfl⟩
 have u1 : Below W0.heap.size W0 W1 := by rw [← hW1]; exact below_alloc1 _ _
 have O1 := ob_lit W0 25 3 W0.heap.size (Nat.le_refl _)
 obtain ⟨N1, hN1⟩ : ∃ q, W0.heap.size = q := ⟨_, rfl⟩
 have O2 : Hid (Ob 25 3 (W0.heap.size ≤ ·) W1 (some ⟨N1, 0, none⟩) 0 (kflat (dues (cons (L.take 0)) adv))) := Lib.hid (by rw [hW1, hN1] at O1; rw [hN1]; exact O1)
 have J0 : Hid (Below W0.heap.size W0 W1) := Lib.hid u1
 clear u1 O1
 go_enter Tryz.func20, Tryz.ntmps20
 go_wp2_with fail
 go_loopg [5, 6] n (fun gf v5 v6 wx => ∃ (k q : Nat) (Ao : Option Addr) (co : Nat), v5 = .slice Ao q co ∧ v6 = .int .i64 (k : Int) ∧ Hid (gf + k = n) ∧ Hid (Below W0.heap.size W0 wx) ∧ Hid ((dues (cons (L.take k)) adv).length = q) ∧ Hid (Ob 25 3 (W0.heap.size ≤ ·) wx Ao co (kflat (dues (cons (L.take k)) adv))))
 case atStart => exact ⟨0, 0, some ⟨N1, 0, none⟩, 0, rfl, rfl, Lib.hid (by omega), J0, Lib.hid rfl, O2⟩
 case round =>
  obtain ⟨k, q, Ao, co, rfl, rfl, hk, hb, hq, hO⟩ := hrel
  have hk' := hk.out
  have HB := Lib.hid (B0.out.trans (hb.out.mono B0.out.size))
  obtain ⟨p0, p1, p2⟩ := GX.out _ hb.out
  clear k0 k1 k2
  cases gk with
  | zero =>
   obtain rfl : k = n := by omega
   have lt0 : decide ((k : Int) < (k : Int)) = false := by simp
   have lt1 : decide (k < k) = false := by simp
   have ht : L.take k = L := List.take_of_length_le (by rw [HN.out]; omega)
   rw [ht] at hO hq
   clear ht
   go_wp2
   go_ret
   exact ⟨Ao, co, q, rfl, hq.out, Ob.rd hO.out, HB.out⟩
  | succ gf =>
   have hqk : q ≤ k := by have h1 := dues_len (cons (L.take k)) adv; have h2 := hq.out; rw [cons_length, List.length_take] at h1; omega
   have hkl : k < L.length := by rw [HN.out]; omega
   have lt0 : (k : Int) < (n : Int) := by omega
   have hw1 : (k : Int) + 1 ≤ 10000 := by omega
   obtain ⟨b, off, hA, _, e0, e1, e2, e3, e4, e5, e6, e7, e8⟩ := ard_at (Arr.step HL.out HB.out).1 hkl
   have HCT : Hid (cons (L.take (k + 1)) = cons (L.take k) ++ [con (ag L k)]) := Lib.hid (cons_take1 hkl)
   obtain ⟨y, hy⟩ : ∃ y, (ag L k).h = y := ⟨_, rfl⟩
   obtain ⟨B, hB⟩ : ∃ B, (ag L k).l = B := ⟨_, rfl⟩
   have hcon : con (ag L k) = (y, B) := by rw [con, hy, hB]
   rw [hcon] at HCT
   rw [hy] at e0 e1 e2 e3 e4 e5 e6 e7
   rw [hB] at e8
   generalize B.length = mB at e8
   generalize (ag L k).A = Ab at *
   generalize (ag L k).c = d at *
   subst hA
   clear hkl hy hB hcon
   have HDS : Hid ((dues (cons (L.take (k + 1))) adv) = (dues (cons (L.take k)) adv) ++ if due adv (y, B) = true then [kyo y] else []) := Lib.hid (by rw [HCT.out, dues_snoc])
   have HDU : Hid (due adv (y, B) = (decide (y.v = adv) && (decide (1800 ≤ y.a) && decide (y.a < 3600)))) := Lib.hid rfl
   obtain ⟨W1, hW1⟩ : ∃ V, wr.alloc (.cells #[Value.int .i64 0, .int .i64 0, .int .i64 0, .int .u32 0, .int .u32 0, .int .u32 0, .int .i64 0, .int .i64 0] 37) = V := ⟨_, rfl⟩
   have u0 : Below wr.heap.size wr W1 := by rw [← hW1]; exact below_alloc1 _ _
   have G0 := Bk.mk hW1
   obtain ⟨n2, hn2⟩ : ∃ q, wr.heap.size = q := ⟨_, rfl⟩
   rw [hn2] at G0
   obtain ⟨W2, hW2⟩ : ∃ V, ((((((((W1).setCell ⟨n2, 0, none⟩ (.int .i64 y.a)).setCell ⟨n2, 1, none⟩ (.int .i64 y.o)).setCell ⟨n2, 2, none⟩ (.int .i64 y.t)).setCell ⟨n2, 3, none⟩ (.int .u32 y.i)).setCell ⟨n2, 4, none⟩ (.int .u32 y.v)).setCell ⟨n2, 5, none⟩ (.int .u32 y.q)).setCell ⟨n2, 6, none⟩ (.int .i64 y.s)).setCell ⟨n2, 7, none⟩ (.int .i64 y.n) = V := ⟨_, rfl⟩
   have G1 : Bk W2 n2 (.cells #[Value.int .i64 y.a, .int .i64 y.o, .int .i64 y.t, .int .u32 y.i, .int .u32 y.v, .int .u32 y.q, .int .i64 y.s, .int .i64 y.n] 37) := by rw [← hW2]; exact kz8_set G0 _ _ _ _ _ _ _ _
   have u1 : Below wr.heap.size wr W2 := by rw [← hW2]; exact below_st8 u0 (by omega) _ _ _ _ _ _ _ _
   obtain ⟨x0, x1, x2, x3, x4, x5, x6, x7, f0, f1, f2, f3, f4, f5, f6, f7, hxl⟩ := kz8_at G0
   obtain ⟨z0, z1, z2, z3, z4, z5, z6, z7, -⟩ := kz8_at G1
   have H1 := Lib.hid (hb.out.trans (u1.mono hb.out.size))
   have O1 := Lib.hid (hO.out.below u1)
   by_cases hdu : y.v = adv ∧ 1800 ≤ y.a ∧ y.a < 3600
   ·obtain ⟨h1, h2, h3⟩ := hdu
    have HD1 : Hid ((dues (cons (L.take (k + 1))) adv) = (dues (cons (L.take k)) adv) ++ [kyo y]) := Lib.hid (by rw [HDS.out, HDU.out, if_pos (by simp [h1, h2, h3])])
    have hd1 : (y.v == adv) = true := by simpa using h1
    have hd2 : decide (y.a ≥ 1800) = true := by simpa using h2
    have hd3 : decide (y.a < 3600) = true := by simpa using h3
    have h2' : y.a ≥ 1800 := h2
    obtain ⟨i0, hi0, hz0, hz1, hz2⟩ := info_of infoK
    have CK := key_any y W2
    have CK := rkey_any y W2
    subst h1
    clear u1 G1 u0 G0
    go_wp2_with fail
    refine CK.mono ?_
    rintro e W5 ⟨rfl, u5⟩
    obtain ⟨n0, hn0⟩ : ∃ q, W5.heap.size = q := ⟨_, rfl⟩
    obtain ⟨g9, c9, Z9, r9, rg9, kp9, hg9⟩ := app_one (P := Tryz.prog) (S := fun j => W0.heap.size ≤ j) Tryz.underlying58 hi0 hz0 hz1 hz2 rfl (by decide) (by decide) (O1.out.below u5) (n := q) (by rw [kflat_length, hq.out]) (kcs (kyo y)) rfl (kcs_one _) (by omega) n0 hn0
    have T5 := H1.out.trans (u5.mono H1.out.size)
    have T9 : Hid (Below W0.heap.size W0 Z9) := Lib.hid (T5.trans (kp9.below (fun j hj => hj) T5.size))
    have O9 : Hid (Ob 25 3 (W0.heap.size ≤ ·) Z9 (some ⟨g9, 0, none⟩) c9 (kflat (dues (cons (L.take (k + 1))) y.v))) := Lib.hid (.inr ⟨g9, (by rcases hg9 with q | q; exact q; have h1 := T5.size; show W0.heap.size ≤ g9; omega), rfl, by rw [HD1.out, kflat_snoc]; exact rg9⟩)
    have Q9 : Hid ((dues (cons (L.take (k + 1))) y.v).length = q + 1) := Lib.hid (by rw [HD1.out, List.length_append, hq.out]; rfl)
    rw [show (kcs (kyo y)).toArray = #[Value.int .i64 y.t, .int .u32 y.i, .int .u32 y.v] from rfl] at r9
    clear rg9 kp9 hg9 T5 u5 CK
    go_wp2_with (at_builtin; refine wpList_runb _ rfl (.tmp 36) (.tmp 39) 58 rfl rfl rfl r9 ?_)
    go_roundg gf
    case measure => omega
    case rel => exact ⟨k + 1, q + 1, some ⟨g9, 0, none⟩, c9, rfl, by go_num, Lib.hid (by omega), T9, Q9, O9⟩
   ·have HD1 : Hid ((dues (cons (L.take (k + 1))) adv) = (dues (cons (L.take k)) adv)) := Lib.hid (by rw [HDS.out, HDU.out, if_neg (by simp only [Bool.and_eq_true, decide_eq_true_eq]; exact hdu), List.append_nil])
    have O9 : Hid (Ob 25 3 (W0.heap.size ≤ ·) W2 Ao co (kflat (dues (cons (L.take (k + 1))) adv))) := Lib.hid (by rw [HD1.out]; exact O1.out)
    have Q9 : Hid ((dues (cons (L.take (k + 1))) adv).length = q) := Lib.hid (by rw [HD1.out, hq.out])
    clear u1 G1 u0 G0
    by_cases h1 : y.v = adv
    ·have hd1 : (y.v == adv) = true := by simpa using h1
     by_cases h2 : 1800 ≤ y.a
     ·have hd2 : decide (y.a ≥ 1800) = true := by simpa using h2
      have h2' : y.a ≥ 1800 := h2
      have h3 : ¬ y.a < 3600 := fun q => hdu ⟨h1, h2, q⟩
      have hd3 : decide (y.a < 3600) = false := by simpa using h3
      subst h1
      clear hdu
      go_wp2
      go_roundg gf
      case measure => omega
      case rel => exact ⟨k + 1, q, Ao, co, rfl, by go_num, Lib.hid (by omega), H1, Q9, O9⟩
     ·have hd2 : decide (y.a ≥ 1800) = false := by simpa using h2
      have h2' : ¬ y.a ≥ 1800 := h2
      subst h1
      clear hdu
      go_wp2
      go_roundg gf
      case measure => omega
      case rel => exact ⟨k + 1, q, Ao, co, rfl, by go_num, Lib.hid (by omega), H1, Q9, O9⟩
    ·have hd1 : (y.v == adv) = false := by simpa using h1
     clear hdu
     go_wp2
     go_roundg gf
     case measure => omega
     case rel => exact ⟨k + 1, q, Ao, co, rfl, by go_num, Lib.hid (by omega), H1, Q9, O9⟩
end Go.Proofs.YtadcicmccdphkaaGreat
