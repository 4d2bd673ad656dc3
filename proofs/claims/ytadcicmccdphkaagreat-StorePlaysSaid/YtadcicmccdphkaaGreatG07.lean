/-
  The contract of the reference's Same at advertisements that are alike. Rows of advertisements in memory. What the laws of this seat share: descriptions, keys, headers, advertisements and bytes that came in, opened. Rows of acts in memory. Acts that came in, opened. Which header is newer, and which key is first, as numbers; contracts of cmp.Compare, firstOf, ended, younger and of the reference's more. No statement is proved here; no conditions.
-/
import Derived.Test.YtadcicmccdphkaaGreatG06
import Derived.Test.YtadcicmccdphkaaGreatG04
import Derived.Lib.SliceRun
import Derived.Lib.JoinLaws
import Derived.Deep.RegionHeldLaw
import Derived.Test.YtadcicmccdphkaaGreatRows
import Derived.ProofKit
import Derived.OpenShut
import Derived.ShutString
import Derived.ChangeOld
import Derived.Deep.Slices
import Derived.Carry
import Derived.KernelRfl
namespace Go.Proofs.YtadcicmccdphkaaGreat
open Go.RowKit Go.Joins

set_option maxRecDepth 100000 in
theorem same_any (h : Hd) (A A' : Option Addr) (n c c' : Nat) (l : List Int) (w : World) (hn : l.length = n) (g : Bt w A l) (g' : Bt w A' l) :
  Calls Tryz.prog 12 #[.agg #[.int .i64 h.a, .int .i64 h.o, .int .i64 h.t, .int .u32 h.i, .int .u32 h.v, .int .u32 h.q, .int .i64 h.s, .int .i64 h.n, .slice A n c], .agg #[.int .i64 h.a, .int .i64 h.o, .int .i64 h.t, .int .u32 h.i, .int .u32 h.v, .int .u32 h.q, .int .i64 h.s, .int .i64 h.n, .slice A' n c']] w fun e w' => e = .returned (.bool true) ∧ Below w.heap.size w w' := by
 subst hn
 obtain ⟨W0, hW0⟩ : ∃ V, w.alloc (.cells #[.int .i64 h.a, .int .i64 h.o, .int .i64 h.t, .int .u32 h.i, .int .u32 h.v, .int .u32 h.q, .int .i64 h.s, .int .i64 h.n, .slice A l.length c] 40) = V := ⟨_, rfl⟩
 have bW0 : Below w.heap.size w W0 := by rw [← hW0]; exact below_alloc1 _ _
 have sW0 : W0.heap.size = w.heap.size + 1 := by rw [← hW0]; simp
 have KX : Hid (∀ V, Below W0.heap.size W0 V → V.cell? ⟨w.heap.size, 0, none⟩ = some (.int .i64 h.a) ∧ V.cell? ⟨w.heap.size, 1, none⟩ = some (.int .i64 h.o) ∧ V.cell? ⟨w.heap.size, 2, none⟩ = some (.int .i64 h.t) ∧ V.cell? ⟨w.heap.size, 3, none⟩ = some (.int .u32 h.i) ∧ V.cell? ⟨w.heap.size, 4, none⟩ = some (.int .u32 h.v) ∧ V.cell? ⟨w.heap.size, 5, none⟩ = some (.int .u32 h.q) ∧ V.cell? ⟨w.heap.size, 6, none⟩ = some (.int .i64 h.s) ∧ V.cell? ⟨w.heap.size, 7, none⟩ = some (.int .i64 h.n) ∧ V.cell? ⟨w.heap.size, 8, none⟩ = some (.slice A l.length c)) := Lib.hid (fun V hV => kb9_new hW0 hV)
 obtain ⟨W1, hW1⟩ : ∃ V, W0.alloc (.cells #[.int .i64 h.a, .int .i64 h.o, .int .i64 h.t, .int .u32 h.i, .int .u32 h.v, .int .u32 h.q, .int .i64 h.s, .int .i64 h.n, .slice A' l.length c'] 40) = V := ⟨_, rfl⟩
 have bW1 : Below W0.heap.size W0 W1 := by rw [← hW1]; exact below_alloc1 _ _
 have sW1 : W1.heap.size = W0.heap.size + 1 := by rw [← hW1]; simp
 have KY : Hid (∀ V, Below W1.heap.size W1 V → V.cell? ⟨W0.heap.size, 0, none⟩ = some (.int .i64 h.a) ∧ V.cell? ⟨W0.heap.size, 1, none⟩ = some (.int .i64 h.o) ∧ V.cell? ⟨W0.heap.size, 2, none⟩ = some (.int .i64 h.t) ∧ V.cell? ⟨W0.heap.size, 3, none⟩ = some (.int .u32 h.i) ∧ V.cell? ⟨W0.heap.size, 4, none⟩ = some (.int .u32 h.v) ∧ V.cell? ⟨W0.heap.size, 5, none⟩ = some (.int .u32 h.q) ∧ V.cell? ⟨W0.heap.size, 6, none⟩ = some (.int .i64 h.s) ∧ V.cell? ⟨W0.heap.size, 7, none⟩ = some (.int .i64 h.n) ∧ V.cell? ⟨W0.heap.size, 8, none⟩ = some (.slice A' l.length c')) := Lib.hid (fun V hV => kb9_new hW1 hV)
 have b2 : Below w.heap.size w W1 := bW0.trans (bW1.mono bW0.size)
 obtain ⟨k0, k1, k2, k3, k4, k5, k6, k7, k8⟩ := KX.out _ bW1
 have kj := KY.out _ (Below.refl _ _)
 rw [sW0] at kj
 obtain ⟨j0, j1, j2, j3, j4, j5, j6, j7, j8⟩ := kj
 have ss1 := run_str (P := Tryz.prog) (w := W1) 38 5 9 Tryz.underlying38 Tryz.underlying5 Tryz.underlying9 _ A c l (g.step b2)
 have ss2 := run_str (P := Tryz.prog) (w := W1) 38 5 9 Tryz.underlying38 Tryz.underlying5 Tryz.underlying9 _ A' c' l (g'.step b2)
 have B2 := Lib.hid b2
 clear g g' bW0 bW1 KX KY b2
 go_enter Tryz.func12, Tryz.ntmps12
 go_wp2
 go_ret
 exact ⟨rfl, B2.out⟩
end Go.Proofs.YtadcicmccdphkaaGreat
namespace Go.Proofs.YtadcicmccdphkaaGreat
open Go.RowKit Go.Joins

abbrev Ct := Hd × List Int
def con (x : Ae) : Ct := (x.h, x.l)
def cons (L : List Ae) : List Ct := L.map con
theorem cons_length (L : List Ae) : (cons L).length = L.length := by simp [cons]
def Arr (w : World) (A : Option Addr) (L : List Ae) : Prop := Rd (fun _ => True) w A (aflat L) ∧ ∀ x ∈ L, Bt w x.A x.l
theorem Arr.step {w w' : World} {A : Option Addr} {L : List Ae} (h : Arr w A L) (k : Below w.heap.size w w') : Arr w' A L :=
 ⟨Rd.keep h.1 k.size fun j _ hj => k.block j hj, fun x hx => Bs.step (h.2 x hx) k⟩
theorem Arr.nil (w : World) (A : Option Addr) : Arr w A [] := ⟨Rd.nil A, fun x hx => by cases hx⟩
structure Oka (x : Ct) : Prop where
 h : Okd x.1
 y : Byt x.2
 n : x.2.length ≤ 1600
def Okas (L : List Ct) : Prop := ∀ x ∈ L, Oka x
theorem cons_snoc (L : List Ae) (x : Ae) : cons (L ++ [x]) = cons L ++ [con x] := by simp [cons]
theorem Ob.self {e : TypeId} {sz : Nat} {S : Nat → Prop} {w : World} {A : Option Addr} {c : Nat} {cs : List Value} (h : Ob e sz S w A c cs) : Ob e sz (fun j => A = some ⟨j, 0, none⟩) w A c cs := by
 rcases h with h | ⟨g, _, rfl, h3⟩
 ·exact .inl h
 ·exact .inr ⟨g, rfl, rfl, h3⟩
theorem Ob.at {e : TypeId} {sz : Nat} {S : Nat → Prop} {w : World} {A : Option Addr} {c : Nat} {cs : List Value} (h : Ob e sz S w A c cs) {j : Nat} (hj : A = some ⟨j, 0, none⟩) : S j := by
 rcases h with ⟨rfl, _, _⟩ | ⟨g, hg, rfl, _⟩
 ·cases hj
 ·injection hj with hj
  injection hj with hj
  exact hj ▸ hg
theorem app_oneA {P : Program} {S : Nat → Prop} {w : World} {A : Option Addr} {c n : Nat} {cs : List Value} {e t : TypeId} {sz by_ : Nat} {z : Value} {i : TypeInfo} (ht : P.underlying t = some (.slice e)) (hi : P.info? e = some i) (hz : i.zero = some z) (hsize : i.size = sz) (hby : i.bytes = by_) (hzs : z.cells.size = sz) (hsz : 0 < sz) (hb100 : by_ ≤ 200)
  (h : Ob e sz S w A c cs) (hn : cs.length = n * sz) (xs : List Value) (hl2 : xs.length = sz) (h1 : ∀ u ∈ xs, u.oneCell' = true) (hb : n ≤ 100000) (n0 : Nat) (hn0 : w.heap.size = n0) :
  ∃ g' c' w', (Builtin.append_ #[t, t] t #[.slice A n c, .slice (some ⟨n0, 0, none⟩) 1 1]).run P (w.alloc (.cells xs.toArray e)) = .ok (.slice (some ⟨g', 0, none⟩) (n + 1) c') w' ∧ Rg e sz w' g' c' (cs ++ xs) ∧ Kp (fun j => A = some ⟨j, 0, none⟩) w w' ∧ (S g' ∨ n0 < g') := by
 obtain ⟨g', c', w', r1, r2, r3, r4⟩ := app_one (P := P) ht hi hz hsize hby hzs hsz hb100 h.self hn xs hl2 h1 hb n0 hn0
 refine ⟨g', c', w', r1, r2, r3, ?_⟩
 rcases r4 with q | q
 ·exact .inl (h.at q)
 ·exact .inr q
structure Bu (w : World) (x : Ae) : Prop where
 bt : Bt w x.A x.l
 blk : ∀ b off, x.A = some ⟨b, off, none⟩ → x.l ≠ [] → b < w.heap.size ∧ ∃ cur m, w.heap[b]? = some (.cells cur 5 m)
 cap : x.l.length ≤ x.c
theorem Bu.keep {w w' : World} {x : Ae} (h : Bu w x) (hs : w.heap.size ≤ w'.heap.size) (hk : ∀ b off, x.A = some ⟨b, off, none⟩ → x.l ≠ [] → w'.heap[b]? = w.heap[b]?) : Bu w' x := by
 refine ⟨fun hl => ?_, fun b off e hl => ?_, h.cap⟩
 ·obtain ⟨b, off, e, hb, hc⟩ := h.1 hl
  exact ⟨b, off, e, by omega, fun i hi => (World.cell?_of_block (hk b off e hl)).trans (hc i hi)⟩
 ·obtain ⟨h1, cur, m, h2⟩ := h.2 b off e hl
  exact ⟨by omega, cur, m, (hk b off e hl).trans h2⟩
theorem Bu.step {w w' : World} {x : Ae} (h : Bu w x) (k : Below w.heap.size w w') : Bu w' x := h.keep k.size fun b off e hl => k.block b (h.2 b off e hl).1
theorem Bu.of_own {w : World} {base : Nat} {x : Ae} (h : Own .u8 5 w base x.A x.c x.l) : Bu w x := by
 refine ⟨h.bs, fun b off e hl => ?_, h.cap_le⟩
 rcases h.form with ⟨_, _, h0⟩ | ⟨g, cur, hA, _, hlt, hg, _⟩
 ·exact absurd h0 hl
 ·rw [hA] at e
  injection e with e
  injection e with e1 _
  subst e1
  exact ⟨hlt, cur, _, hg⟩
structure Aro (base : Nat) (w : World) (A : Option Addr) (c : Nat) (L : List Ae) : Prop where
 row : Ob 40 9 (base ≤ ·) w A c (aflat L)
 bod : ∀ x ∈ L, Bu w x
theorem Aro.nil (base : Nat) (w : World) : Aro base w none 0 [] := ⟨.inl ⟨rfl, rfl, rfl⟩, fun x hx => by cases hx⟩
theorem Aro.step {base : Nat} {w w' : World} {A : Option Addr} {c : Nat} {L : List Ae} (h : Aro base w A c L) (k : Below w.heap.size w w') : Aro base w' A c L := ⟨Ob.below h.row k, fun x hx => (h.bod x hx).step k⟩
theorem Aro.arr {base : Nat} {w : World} {A : Option Addr} {c : Nat} {L : List Ae} (h : Aro base w A c L) : Arr w A L := ⟨Ob.rd h.row, fun x hx => (h.bod x hx).1⟩
theorem infoA : (Tryz.prog.info? 40).map (fun i => (i.zero, i.size, i.bytes)) = some (some (.agg #[.int .i64 0, .int .i64 0, .int .i64 0, .int .u32 0, .int .u32 0, .int .u32 0, .int .i64 0, .int .i64 0, .slice none 0 0]), 9, 80) := by kernel_rfl
theorem Ob.typed {e : TypeId} {sz : Nat} {S : Nat → Prop} {w : World} {A : Option Addr} {c : Nat} {cs : List Value} (h : Ob e sz S w A c cs) {j : Nat} (hj : A = some ⟨j, 0, none⟩) : ∃ cur m, w.heap[j]? = some (.cells cur e m) := by
 rcases h with ⟨rfl, _, _⟩ | ⟨g, hg, rfl, cur, hc, _⟩
 ·cases hj
 ·injection hj with hj
  injection hj with hj
  subst hj
  exact ⟨cur, _, hc⟩
theorem Bu.apart {w : World} {x : Ae} (h : Bu w x) {e : TypeId} {sz : Nat} {S : Nat → Prop} {A : Option Addr} {c : Nat} {cs : List Value} (ho : Ob e sz S w A c cs) (hne : e ≠ 5) : ∀ b off, x.A = some ⟨b, off, none⟩ → x.l ≠ [] → ¬ (A = some ⟨b, 0, none⟩) := by
 intro b off e1 hl hA
 obtain ⟨_, cur, m, h2⟩ := h.2 b off e1 hl
 obtain ⟨cur2, m2, h3⟩ := ho.typed hA
 rw [h2] at h3
 injection h3 with h3
 injection h3 with _ h4 _
 exact hne h4.symm
theorem aro_app {base : Nat} {w : World} {A : Option Addr} {c n : Nat} {L : List Ae} (h : Aro base w A c L) (hn : L.length = n) (x : Ae) (hx : Bu w x) (hb : n ≤ 100000) (n0 : Nat) (hn0 : w.heap.size = n0) (hbase : base ≤ w.heap.size) :
  ∃ g' c' w', (Builtin.append_ #[26, 26] 26 #[.slice A n c, .slice (some ⟨n0, 0, none⟩) 1 1]).run Tryz.prog (w.alloc (.cells (acs x).toArray 40)) = .ok (.slice (some ⟨g', 0, none⟩) (n + 1) c') w' ∧ Aro base w' (some ⟨g', 0, none⟩) c' (L ++ [x]) ∧ Below base w w' ∧ Kp (fun j => A = some ⟨j, 0, none⟩) w w' := by
 obtain ⟨i0, hi0, hz0, hz1, hz2⟩ := info_of infoA
 obtain ⟨g9, c9, Z9, r9, rg9, kp9, hg9⟩ := app_oneA (P := Tryz.prog) (S := (base ≤ ·)) Tryz.underlying26 hi0 hz0 hz1 hz2 rfl (by decide) (by decide) h.row (n := n) (by rw [aflat_length, hn]) (acs x) rfl (acs_one x) hb n0 hn0
 have bu : ∀ y, Bu w y → Bu Z9 y := fun y hy => hy.keep kp9.size fun b off e hl => kp9.block b (hy.2 b off e hl).1 (hy.apart h.row (by decide) b off e hl)
 refine ⟨g9, c9, Z9, r9, ⟨.inr ⟨g9, ?_, rfl, by rw [aflat_snoc]; exact rg9⟩, fun y hy => ?_⟩, kp9.below (fun j hj => h.row.at hj) hbase, kp9⟩
 ·rcases hg9 with q | q
  ·exact q
  ·show base ≤ g9; omega
 ·rcases List.mem_append.1 hy with q | q
  ·exact bu y (h.bod y q)
  ·obtain rfl := List.mem_singleton.1 q
   exact bu y hx
theorem aflat_app (a b : List Ae) : aflat (a ++ b) = aflat a ++ aflat b := by simp [aflat]
theorem one_aflat (L : List Ae) : ∀ u ∈ aflat L, u.oneCell' = true := by
 intro u hu
 obtain ⟨x, _, h⟩ := List.mem_flatMap.1 hu
 exact acs_one x u h
set_option maxRecDepth 100000 in
set_option maxHeartbeats 4000000 in
theorem all_any (A A' : Option Addr) (n c c' : Nat) (L L' : List Ae) (w : World) (hn : L.length = n) (hcc : cons L = cons L') (h1 : Arr w A L) (h2 : Arr w A' L') (hl : n ≤ 10000) :
  Calls Tryz.prog 45 #[.slice A n c, .slice A' n c'] w fun e w' => e = .returned (.bool true) ∧ Below w.heap.size w w' := by
 have hn2 : L'.length = n := by rw [← cons_length, ← hcc, cons_length, hn]
 have H1 := Lib.hid h1
 have H2 := Lib.hid h2
 have HN := Lib.hid hn
 have HN2 := Lib.hid hn2
 have HCC := Lib.hid hcc
 clear h1 h2 hn hn2 hcc
 go_enter Tryz.func45, Tryz.ntmps45
 go_wp2_with fail
 go_loopg [5] n (fun gf v5 wx => ∃ (k : Nat), v5 = .int .i64 (k : Int) ∧ Hid (gf + k = n) ∧ Hid (Below w.heap.size w wx))
 case atStart => exact ⟨0, rfl, Lib.hid (by omega), Lib.hid (Below.refl _ _)⟩
 case round =>
  obtain ⟨k, rfl, hk, hb⟩ := hrel
  have hk' := hk.out
  cases gk with
  | zero =>
   have e1 : k = n := by omega
   have lt0 : decide ((k : Int) < (n : Int)) = false := by simp; omega
   have lt1 : decide (k < n) = false := by simp; omega
   go_wp2
   go_ret
   exact ⟨rfl, hb.out⟩
  | succ gf =>
   have hkl : k < L.length := by rw [HN.out]; omega
   have hkl2 : k < L'.length := by rw [HN2.out]; omega
   have lt0 : (k : Int) < (n : Int) := by omega
   have hw1 : (k : Int) + 1 ≤ 10000 := by omega
   have a1 := Arr.step H1.out hb.out
   have a2 := Arr.step H2.out hb.out
   obtain ⟨b, off, hA, _, e0, e1, e2, e3, e4, e5, e6, e7, e8⟩ := ard_at a1.1 hkl
   obtain ⟨b2, off2, hA2, _, f0, f1, f2, f3, f4, f5, f6, f7, f8⟩ := ard_at a2.1 hkl2
   have q1 := a1.2 _ (ag_mem hkl)
   have q2 := a2.2 _ (ag_mem hkl2)
   have hc : con (ag L k) = con (ag L' k) := by
    have := congrArg (fun l : List Ct => l[k]?) HCC.out
    simp only [cons, List.getElem?_map] at this
    rw [List.getElem?_eq_getElem hkl, List.getElem?_eq_getElem hkl2] at this
    rw [ag_eq hkl, ag_eq hkl2]
    simpa using this
   have hh : (ag L' k).h = (ag L k).h := (congrArg Prod.fst hc).symm
   have hl2 : (ag L' k).l = (ag L k).l := (congrArg Prod.snd hc).symm
   rw [hh] at f0 f1 f2 f3 f4 f5 f6 f7
   rw [hl2] at f8
   rw [hl2] at q2
   obtain ⟨y, hy⟩ : ∃ y, (ag L k).h = y := ⟨_, rfl⟩
   obtain ⟨Y, hY⟩ : ∃ Y, (ag L k).l = Y := ⟨_, rfl⟩
   obtain ⟨m, hm⟩ : ∃ m, Y.length = m := ⟨_, rfl⟩
   rw [hy] at e0 e1 e2 e3 e4 e5 e6 e7 f0 f1 f2 f3 f4 f5 f6 f7
   rw [hY, hm] at e8 f8
   rw [hY] at q1 q2
   generalize (ag L k).A = B1 at *
   generalize (ag L' k).A = B2 at *
   generalize (ag L k).c = d1 at *
   generalize (ag L' k).c = d2 at *
   subst hA hA2
   clear hkl hkl2 a1 a2 hc hh hl2 hy hY
   go_upto_region 6 with fail
   refine wp_region_quiet_below (by kernel_rfl) (by kernel_rfl) ?_
   have gg0 := cell_regrown e0
   have gg1 := cell_regrown e1
   have gg2 := cell_regrown e2
   have gg3 := cell_regrown e3
   have gg4 := cell_regrown e4
   have gg5 := cell_regrown e5
   have gg6 := cell_regrown e6
   have gg7 := cell_regrown e7
   have gg8 := cell_regrown e8
   have gg9 := cell_regrown f0
   have gg10 := cell_regrown f1
   have gg11 := cell_regrown f2
   have gg12 := cell_regrown f3
   have gg13 := cell_regrown f4
   have gg14 := cell_regrown f5
   have gg15 := cell_regrown f6
   have gg16 := cell_regrown f7
   have gg17 := cell_regrown f8
   have zz0 : ∀ d os, _ := fun d os => Calls.regrown_of (w := wr) (d := d) (os := os) (same_any y B1 B2 m d1 d2 Y _ hm (q1.step (below_regrown wr d os)) (q2.step (below_regrown wr d os)))
   repeat (first | go_big_quiet_step (with_reducible exact zz0 _ _) | go_big_quiet_step (fail) | go_big_quiet_skip)
   refine wpQuiet_nil ?_
   intro W9 hw'
   obtain ⟨⟨dq, osq⟩, hw''⟩ := hw'
   have hbz := below_regrown wr dq osq
   rw [← hw''] at hbz
   clear hw'' gg0 gg1 gg2 gg3 gg4 gg5 gg6 gg7 gg8 gg9 gg10 gg11 gg12 gg13 gg14 gg15 gg16 gg17 zz0 
   go_wp2
   go_roundg gf
   case measure => omega
   case rel => exact ⟨k + 1, by go_num, Lib.hid (by omega), Lib.hid (hb.out.trans (hbz.mono hb.out.size))⟩
end Go.Proofs.YtadcicmccdphkaaGreat
namespace Go.Proofs.YtadcicmccdphkaaGreat
open Go.ChangeShapes Go.WideShapes Go.ChangeAt Go.RowKit Go.Joins Go.Deep

theorem own : ownKnob Tryz.prog.godebug = none := by kernel_rfl
theorem wf_u32 {a : Int} (h : (Lit.int .u32 a).wf = true) : 0 ≤ a ∧ a < 4294967296 := by
 have e1 : IntKind.u32.min = 0 := by decide
 have e2 : IntKind.u32.max = 4294967295 := by decide
 simp only [Lit.wf, e1, e2, Bool.and_eq_true, decide_eq_true_eq] at h
 omega
theorem wf_u8 {a : Int} (h : (Lit.int .u8 a).wf = true) : 0 ≤ a ∧ a < 256 := by
 have e1 : IntKind.u8.min = 0 := by decide
 have e2 : IntKind.u8.max = 255 := by decide
 simp only [Lit.wf, e1, e2, Bool.and_eq_true, decide_eq_true_eq] at h
 omega
structure Okk (x : Ky) : Prop where
 i : 0 ≤ x.i ∧ x.i < 4294967296
 v : 0 ≤ x.v ∧ x.v < 4294967296
theorem laidOut : laidOutB Tryz.prog = true := by kernel_rfl
theorem cellsH : Tryz.prog.cellsOf 37 = 8 := by kernel_rfl
theorem cellsA : Tryz.prog.cellsOf 40 = 9 := by kernel_rfl
theorem cellsK : Tryz.prog.cellsOf 25 = 3 := by kernel_rfl
theorem cells24 : Tryz.prog.cellsOf 38 = 1 := by kernel_rfl
theorem cells22 : Tryz.prog.cellsOf 23 = 1 := by kernel_rfl
theorem cells5 : Tryz.prog.cellsOf 5 = 1 := by kernel_rfl
theorem cells3 : Tryz.prog.cellsOf 3 = 1 := by kernel_rfl
theorem list_of {α : Type} (d : α) (n : Nat) {p : Nat → α → Prop} (h : ∀ i, i < n → ∃ a, p i a) : ∃ l : List α, l.length = n ∧ ∀ i (hi : i < l.length), p i l[i] := by
 refine ⟨(List.range n).map fun i => if hi : i < n then Classical.choose (h i hi) else d, by simp, fun i hi => ?_⟩
 have hi' : i < n := by simpa using hi
 simp only [List.getElem_map, List.getElem_range, hi', dif_pos]
 exact Classical.choose_spec (h i hi')
section
variable {H : Type} {enc : TypeId × Value → H} {w : World} {base : Nat} {spare : Nat → Bool} {held : Bool}
theorem slice_of {α : Type} (d : α) {f : α → List Value} {sz : Nat} (hf : ∀ x, (f x).length = sz) (hsz : 0 < sz) {st e : TypeId} (hu : Tryz.prog.underlying st = some (.slice e)) (hcel : Tryz.prog.cellsOf e = sz) {good : α → Prop}
  (hop : ∀ (fuel : Nat) (cs : List Value) (x : DataW H × List MemPlace), DataW.trod enc Tryz.prog w base spare held fuel e cs = some x → ∃ y, good y ∧ cs = f y)
  {fuel : Nat} {cs : List Value} {x : DataW H × List MemPlace} (h : DataW.trod enc Tryz.prog w base spare held fuel st cs = some x) :
  ∃ (A : Option Addr) (c : Nat) (l : List α), cs = [.slice A l.length c] ∧ l.length ≤ c ∧ (∀ y ∈ l, good y) ∧ Rd (fun _ => True) w A (l.flatMap f) := by
 rcases open_slice hu h with ⟨rfl, _⟩ | ⟨a, len, cap, m, n, D, Pl, rfl, _, hl, hcm, hm, _, hx⟩
 ·exact ⟨none, 0, [], rfl, Nat.le_refl _, by simp, Rd.nil _⟩
 ·have hml : len ≤ m := by rw [hm]; split <;> omega
  obtain ⟨l, hln, hp⟩ := list_of d len (p := fun i y => good y ∧ ∀ j u, (f y)[j]? = some u → w.cell? (a.add (i * sz + j)) = some u) (fun i hi => by
   obtain ⟨cs', h1, h2⟩ := hx i (by omega)
   obtain ⟨y, hy, rfl⟩ := hop _ _ _ h2
   rw [hcel] at h1
   obtain ⟨_, _, h3⟩ := World.cells?_some h1
   refine ⟨y, hy, fun j u hu => ?_⟩
   have hj : j < sz := by
    have := (List.getElem?_eq_some_iff.1 hu).1
    rwa [hf] at this
   have := h3 j hj
   rw [add_add, hu] at this
   exact this)
  refine ⟨some a, cap, l, by rw [hln], by omega, fun y hy => ?_, ?_⟩
  ·obtain ⟨i, hi, rfl⟩ := List.getElem_of_mem hy
   exact (hp i hi).1
  ·intro hne
   have hpos : 0 < l.length := by
    rcases Nat.eq_zero_or_pos l.length with q | q
    ·have : l = [] := List.eq_nil_of_length_eq_zero q
     subst this
     exact absurd rfl hne
    ·exact q
   obtain ⟨b, off, spot⟩ := a
   have h0 : ∃ u, (f l[0])[0]? = some u := ⟨(f l[0])[0]'(by rw [hf]; exact hsz), by rw [List.getElem?_eq_getElem]⟩
   obtain ⟨u0, hu0⟩ := h0
   have hc := (hp 0 hpos).2 0 u0 hu0
   have hspot : spot = none := by simpa [Addr.add] using World.cell?_spot hc
   subst hspot
   have hlt : b < w.heap.size := by
    have hc0 : w.cell? ⟨b, off, none⟩ = some u0 := by simpa [Addr.add] using hc
    exact World.block_lt_of_cell? w ⟨b, off, none⟩ hc0
   refine ⟨b, off, rfl, trivial, hlt, fun j u hu => ?_⟩
   have hj : j < (l.flatMap f).length := (List.getElem?_eq_some_iff.1 hu).1
   rw [fm_len hf] at hj
   have hi : j / sz < l.length := (Nat.div_lt_iff_lt_mul hsz).2 hj
   have hr : j % sz < sz := Nat.mod_lt _ hsz
   have e : j = j / sz * sz + j % sz := by rw [Nat.mul_comm]; exact (Nat.div_add_mod j sz).symm
   have hg := fm_get hf hi hr
   rw [← e, hu] at hg
   have := (hp _ hi).2 _ _ hg.symm
   rw [← e, addr_add] at this
   exact this
theorem byte_of {fuel : Nat} {cs : List Value} {x : DataW H × List MemPlace} (h : DataW.trod enc Tryz.prog w base spare held fuel 5 cs = some x) : ∃ y : Int, (0 ≤ y ∧ y < 256) ∧ cs = [Value.int .u8 y] := by
 obtain ⟨t, e3, _, wt⟩ := DataW.trod_int Tryz.underlying5 h
 exact ⟨t, wf_u8 wt, e3⟩
theorem fm_bytes (l : List Int) : (l.flatMap fun x => [Value.int .u8 x]) = l.map (Value.int .u8) := by
 induction l with
 | nil => rfl
 | cons x l ih => rw [List.flatMap_cons, ih]; rfl
theorem bt_of_rd {A : Option Addr} {l : List Int} (h : Rd (fun _ => True) w A (l.flatMap fun x => [Value.int .u8 x])) : Bt w A l := fun hl => by
 rw [fm_bytes] at h
 obtain ⟨b, off, e, _, hlt, hc⟩ := h (by simpa using hl)
 refine ⟨b, off, e, hlt, fun i hi => hc i _ ?_⟩
 simp [List.getD, hi]
theorem bytes_of {fuel : Nat} {cs : List Value} {x : DataW H × List MemPlace} (h : DataW.trod enc Tryz.prog w base spare held fuel 38 cs = some x) : ∃ (A : Option Addr) (c : Nat) (l : List Int), cs = [.slice A l.length c] ∧ l.length ≤ c ∧ Byt l ∧ Bt w A l := by
 obtain ⟨A, c, l, h1, h2, h3, h4⟩ := slice_of (0 : Int) (f := fun x => [Value.int .u8 x]) (sz := 1) (fun _ => rfl) (by omega) Tryz.underlying38 cells5 (fun _ _ _ h => byte_of h) h
 exact ⟨A, c, l, h1, h2, h3, bt_of_rd h4⟩
set_option maxRecDepth 100000 in
theorem hd_of {fuel : Nat} {cs : List Value} {x : DataW H × List MemPlace} (h : DataW.trod enc Tryz.prog w base spare held fuel 37 cs = some x) : ∃ y : Hd, cs = hcs y ∧ Okd y := by
 obtain ⟨xs, n, _, _, hl, hxl, hf⟩ := DataW.trod_struct Tryz.underlying37 h
 have h0 := hf 0 _ rfl
 have h1 := hf 1 _ rfl
 have h2 := hf 2 _ rfl
 have h3 := hf 3 _ rfl
 have h4 := hf 4 _ rfl
 have h5 := hf 5 _ rfl
 have h6 := hf 6 _ rfl
 have h7 := hf 7 _ rfl
 rw [cellsH] at hl
 match cs, hl with
 | [c0, c1, c2, c3, c4, c5, c6, c7], _ =>
  match xs, hxl with
  | [y0, y1, y2, y3, y4, y5, y6, y7], _ =>
   simp only [List.getElem?_cons_zero, List.getElem?_cons_succ] at h0 h1 h2 h3 h4 h5 h6 h7
   obtain ⟨v0, e0, _, _⟩ := DataW.trod_int Tryz.underlying3 h0
   obtain ⟨v1, e1, _, _⟩ := DataW.trod_int Tryz.underlying3 h1
   obtain ⟨v2, e2, _, _⟩ := DataW.trod_int Tryz.underlying3 h2
   obtain ⟨v3, e3, _, q3⟩ := DataW.trod_int Tryz.underlying23 h3
   obtain ⟨v4, e4, _, q4⟩ := DataW.trod_int Tryz.underlying23 h4
   obtain ⟨v5, e5, _, q5⟩ := DataW.trod_int Tryz.underlying23 h5
   obtain ⟨v6, e6, _, _⟩ := DataW.trod_int Tryz.underlying3 h6
   obtain ⟨v7, e7, _, _⟩ := DataW.trod_int Tryz.underlying3 h7
   simp [cells22, cells3] at e0 e1 e2 e3 e4 e5 e6 e7
   subst e0 e1 e2 e3 e4 e5 e6 e7
   exact ⟨⟨v0, v1, v2, v3, v4, v5, v6, v7⟩, rfl, ⟨wf_u32 q3, wf_u32 q4, wf_u32 q5⟩⟩
set_option maxRecDepth 100000 in
theorem key_of {fuel : Nat} {cs : List Value} {x : DataW H × List MemPlace} (h : DataW.trod enc Tryz.prog w base spare held fuel 25 cs = some x) : ∃ y : Ky, cs = kcs y ∧ Okk y := by
 obtain ⟨xs, n, _, _, hl, hxl, hf⟩ := DataW.trod_struct Tryz.underlying25 h
 have h0 := hf 0 _ rfl
 have h1 := hf 1 _ rfl
 have h2 := hf 2 _ rfl
 rw [cellsK] at hl
 match cs, hl with
 | [c0, c1, c2], _ =>
  match xs, hxl with
  | [y0, y1, y2], _ =>
   simp only [List.getElem?_cons_zero, List.getElem?_cons_succ] at h0 h1 h2
   obtain ⟨v0, e0, _, _⟩ := DataW.trod_int Tryz.underlying3 h0
   obtain ⟨v1, e1, _, q1⟩ := DataW.trod_int Tryz.underlying23 h1
   obtain ⟨v2, e2, _, q2⟩ := DataW.trod_int Tryz.underlying23 h2
   simp [cells22, cells3] at e0 e1 e2
   subst e0 e1 e2
   exact ⟨⟨v0, v1, v2⟩, rfl, ⟨wf_u32 q1, wf_u32 q2⟩⟩
set_option maxRecDepth 100000 in
theorem ad_of {fuel : Nat} {cs : List Value} {x : DataW H × List MemPlace} (h : DataW.trod enc Tryz.prog w base spare held fuel 40 cs = some x) : ∃ y : Ae, (Okd y.h ∧ Byt y.l ∧ Bt w y.A y.l ∧ y.l.length ≤ y.c) ∧ cs = acs y := by
 obtain ⟨xs, n, _, _, hl, hxl, hf⟩ := DataW.trod_struct Tryz.underlying40 h
 have h0 := hf 0 _ rfl
 have h1 := hf 1 _ rfl
 rw [cellsA] at hl
 match cs, hl with
 | [c0, c1, c2, c3, c4, c5, c6, c7, c8], _ =>
  match xs, hxl with
  | [y0, y1], _ =>
   simp only [List.getElem?_cons_zero, List.getElem?_cons_succ] at h0 h1
   obtain ⟨a0, e0, ok0⟩ := hd_of h0
   obtain ⟨A1, d1, l1, e1, hc1, ok1, r1⟩ := bytes_of h1
   simp [cellsH, cells24, hcs] at e0 e1
   obtain ⟨q0, q1, q2, q3, q4, q5, q6, q7⟩ := e0
   subst e1 q0 q1 q2 q3 q4 q5 q6 q7
   exact ⟨⟨a0, A1, d1, l1⟩, ⟨ok0, ok1, r1, hc1⟩, rfl⟩
end
end Go.Proofs.YtadcicmccdphkaaGreat
namespace Go.Proofs.YtadcicmccdphkaaGreat
open Go.RowKit Go.Joins

structure Ac where
 kd : Int
 yb : Int
 x : Ae
 k : Ky
abbrev ccs (a : Ac) : List Value := [.int .i64 a.kd, .int .i64 a.yb, .int .i64 a.x.h.a, .int .i64 a.x.h.o, .int .i64 a.x.h.t, .int .u32 a.x.h.i, .int .u32 a.x.h.v, .int .u32 a.x.h.q, .int .i64 a.x.h.s, .int .i64 a.x.h.n, .slice a.x.A a.x.l.length a.x.c, .int .i64 a.k.t, .int .u32 a.k.i, .int .u32 a.k.v]
theorem ccs_len (a : Ac) : (ccs a).length = 14 := rfl
def cflat (L : List Ac) : List Value := L.flatMap ccs
def cg (L : List Ac) (i : Nat) : Ac := L.getD i ⟨0, 0, ⟨⟨0, 0, 0, 0, 0, 0, 0, 0⟩, none, 0, []⟩, ⟨0, 0, 0⟩⟩
theorem cg_eq {L : List Ac} {k : Nat} (h : k < L.length) : cg L k = L[k] := by simp [cg, List.getD, h]
theorem cg_mem {L : List Ac} {k : Nat} (h : k < L.length) : cg L k ∈ L := by rw [cg_eq h]; exact List.getElem_mem h
def Arc (w : World) (A : Option Addr) (L : List Ac) : Prop := Rd (fun _ => True) w A (cflat L) ∧ ∀ a ∈ L, Bt w a.x.A a.x.l
theorem Arc.step {w w' : World} {A : Option Addr} {L : List Ac} (h : Arc w A L) (k : Below w.heap.size w w') : Arc w' A L :=
 ⟨Rd.keep h.1 k.size fun j _ hj => k.block j hj, fun x hx => Bs.step (h.2 x hx) k⟩
theorem crd_at {w : World} {A : Option Addr} {L : List Ac} (h : Rd (fun _ => True) w A (cflat L)) {i : Nat} (hi : i < L.length) :
  ∃ b off, A = some ⟨b, off, none⟩ ∧ b < w.heap.size ∧ w.cell? ⟨b, off + i * 14, none⟩ = some (.int .i64 (cg L i).kd) ∧ w.cell? ⟨b, off + i * 14 + 1, none⟩ = some (.int .i64 (cg L i).yb) ∧ w.cell? ⟨b, off + i * 14 + 2, none⟩ = some (.int .i64 (cg L i).x.h.a) ∧ w.cell? ⟨b, off + i * 14 + 3, none⟩ = some (.int .i64 (cg L i).x.h.o) ∧ w.cell? ⟨b, off + i * 14 + 4, none⟩ = some (.int .i64 (cg L i).x.h.t) ∧ w.cell? ⟨b, off + i * 14 + 5, none⟩ = some (.int .u32 (cg L i).x.h.i) ∧ w.cell? ⟨b, off + i * 14 + 6, none⟩ = some (.int .u32 (cg L i).x.h.v) ∧ w.cell? ⟨b, off + i * 14 + 7, none⟩ = some (.int .u32 (cg L i).x.h.q) ∧ w.cell? ⟨b, off + i * 14 + 8, none⟩ = some (.int .i64 (cg L i).x.h.s) ∧ w.cell? ⟨b, off + i * 14 + 9, none⟩ = some (.int .i64 (cg L i).x.h.n) ∧ w.cell? ⟨b, off + i * 14 + 10, none⟩ = some (.slice (cg L i).x.A (cg L i).x.l.length (cg L i).x.c) ∧ w.cell? ⟨b, off + i * 14 + 11, none⟩ = some (.int .i64 (cg L i).k.t) ∧ w.cell? ⟨b, off + i * 14 + 12, none⟩ = some (.int .u32 (cg L i).k.i) ∧ w.cell? ⟨b, off + i * 14 + 13, none⟩ = some (.int .u32 (cg L i).k.v) := by
 obtain ⟨b, off, rfl, hlt, hc⟩ := fm_at ccs_len (by omega) h hi
 rw [cg_eq hi]
 exact ⟨b, off, rfl, hlt, hc 0 _ rfl, hc 1 _ rfl, hc 2 _ rfl, hc 3 _ rfl, hc 4 _ rfl, hc 5 _ rfl, hc 6 _ rfl, hc 7 _ rfl, hc 8 _ rfl, hc 9 _ rfl, hc 10 _ rfl, hc 11 _ rfl, hc 12 _ rfl, hc 13 _ rfl⟩
structure Oko (a : Ac) : Prop where
 ok : Okd a.x.h
 y : Byt a.x.l
 cp : a.x.l.length ≤ a.x.c
end Go.Proofs.YtadcicmccdphkaaGreat
namespace Go.Proofs.YtadcicmccdphkaaGreat
open Go.ChangeShapes Go.WideShapes Go.ChangeAt Go.RowKit Go.Joins Go.Deep

theorem cellsC : Tryz.prog.cellsOf 42 = 14 := by kernel_rfl
section
variable {H : Type} {enc : TypeId × Value → H} {w : World} {base : Nat} {spare : Nat → Bool} {held : Bool}
set_option maxRecDepth 100000 in
theorem act_of {fuel : Nat} {cs : List Value} {x : DataW H × List MemPlace} (h : DataW.trod enc Tryz.prog w base spare held fuel 42 cs = some x) : ∃ y : Ac, (Oko y ∧ Bt w y.x.A y.x.l) ∧ cs = ccs y := by
 obtain ⟨xs, n, _, _, hl, hxl, hf⟩ := DataW.trod_struct Tryz.underlying42 h
 have h0 := hf 0 _ rfl
 have h1 := hf 1 _ rfl
 have h2 := hf 2 _ rfl
 have h3 := hf 3 _ rfl
 rw [cellsC] at hl
 match cs, hl with
 | [c0, c1, c2, c3, c4, c5, c6, c7, c8, c9, c10, c11, c12, c13], _ =>
  match xs, hxl with
  | [y0, y1, y2, y3], _ =>
   simp only [List.getElem?_cons_zero, List.getElem?_cons_succ] at h0 h1 h2 h3
   obtain ⟨v0, e0, _, _⟩ := DataW.trod_int Tryz.underlying3 h0
   obtain ⟨v1, e1, _, _⟩ := DataW.trod_int Tryz.underlying3 h1
   obtain ⟨a2, ⟨ok2, by2, bt2, cp2⟩, e2⟩ := ad_of h2
   obtain ⟨k3, e3, _⟩ := key_of h3
   simp [cells3, cellsA, cellsK, acs, kcs] at e0 e1 e2 e3
   obtain ⟨q0, q1, q2, q3, q4, q5, q6, q7, q8⟩ := e2
   obtain ⟨p0, p1, p2⟩ := e3
   subst e0 e1 q0 q1 q2 q3 q4 q5 q6 q7 q8 p0 p1 p2
   exact ⟨⟨v0, v1, a2, k3⟩, ⟨⟨ok2, by2, cp2⟩, bt2⟩, rfl⟩
theorem acts_of {fuel : Nat} {cs : List Value} {x : DataW H × List MemPlace} (h : DataW.trod enc Tryz.prog w base spare held fuel 22 cs = some x) : ∃ (A : Option Addr) (c : Nat) (l : List Ac), cs = [.slice A l.length c] ∧ (∀ a ∈ l, Oko a) ∧ Arc w A l ∧ l.length ≤ c := by
 obtain ⟨A, c, l, h1, h2, h3, h4⟩ := slice_of (⟨0, 0, ⟨⟨0, 0, 0, 0, 0, 0, 0, 0⟩, none, 0, []⟩, ⟨0, 0, 0⟩⟩ : Ac) (f := ccs) (sz := 14) ccs_len (by omega) Tryz.underlying22 cellsC (good := fun y => Oko y ∧ Bt w y.x.A y.x.l) (fun _ _ _ h => act_of h) h
 exact ⟨A, c, l, h1, fun x hx => (h3 x hx).1, ⟨h4, fun x hx => (h3 x hx).2⟩, h2⟩
end
end Go.Proofs.YtadcicmccdphkaaGreat
namespace Go.Proofs.YtadcicmccdphkaaGreat
open Go.RowKit Go.Joins

def sg (q : Int) : Int := if q < 2147483648 then q else q - 4294967296
theorem wrap_i32 (q : Int) (h0 : 0 ≤ q) (h1 : q < 4294967296) : IntKind.i32.wrap q = sg q := by
 simp [IntKind.wrap, IntKind.bits, IntKind.signed, sg]
 split <;> omega
def cmpI (a b : Int) : Int := if a < b then -1 else if b < a then 1 else 0
def fstn : List Int → Int
 | [] => 0
 | x :: l => if x = 0 then fstn l else x
def endd (a : Int) : Int := if a = 3600 then 1 else 0
def yng (a b : Int) : Int := if 900 < b - a then 1 else if 900 < a - b then -1 else 0
def cmpH (a b : Hd) : Int := fstn [cmpI (sg a.q) (sg b.q), cmpI a.s b.s, cmpI (endd a.a) (endd b.a), yng a.a b.a]
def lessK (a b : Hd) : Bool := decide (fstn [cmpI a.t b.t, cmpI a.i b.i, cmpI a.v b.v] < 0)
theorem cmpI_bd (a b : Int) : cmpI a b = -1 ∨ cmpI a b = 0 ∨ cmpI a b = 1 := by
 unfold cmpI
 split
 ·exact .inl rfl
 split
 ·exact .inr (.inr rfl)
 ·exact .inr (.inl rfl)
theorem cmpI_anti (a b : Int) : cmpI b a = -cmpI a b := by
 unfold cmpI
 by_cases h1 : a < b
 ·rw [if_pos h1, if_neg (by omega), if_pos h1]
  rfl
 ·by_cases h2 : b < a
  ·rw [if_pos h2, if_neg h1, if_pos h2]
  ·rw [if_neg h2, if_neg h1, if_neg h1, if_neg h2]
   rfl
theorem cmpI_self (a : Int) : cmpI a a = 0 := by simp [cmpI]
theorem cmpI_zero {a b : Int} (h : cmpI a b = 0) : a = b := by
 unfold cmpI at h
 split at h
 ·omega
 split at h
 ·omega
 ·omega
theorem yng_bd (a b : Int) : yng a b = -1 ∨ yng a b = 0 ∨ yng a b = 1 := by
 unfold yng
 split
 ·exact .inr (.inr rfl)
 split
 ·exact .inl rfl
 ·exact .inr (.inl rfl)
theorem fstn_neg (l : List Int) : fstn (l.map (fun x => -x)) = -fstn l := by
 induction l with
 | nil => rfl
 | cons x l ih =>
  simp only [List.map_cons, fstn]
  by_cases h : x = 0
  ·rw [if_pos (by omega), if_pos h, ih]
  ·rw [if_neg (by omega), if_neg h]
theorem fstn_bd (l : List Int) (h : ∀ x ∈ l, x = -1 ∨ x = 0 ∨ x = 1) : fstn l = -1 ∨ fstn l = 0 ∨ fstn l = 1 := by
 induction l with
 | nil => exact .inr (.inl rfl)
 | cons x l ih =>
  simp only [fstn]
  split
  ·exact ih fun y hy => h y (by simp [hy])
  ·exact h x (by simp)
theorem cmpH_bd (a b : Hd) : cmpH a b = -1 ∨ cmpH a b = 0 ∨ cmpH a b = 1 := by
 refine fstn_bd _ fun x hx => ?_
 simp only [List.mem_cons, List.not_mem_nil, or_false] at hx
 rcases hx with rfl | rfl | rfl | rfl
 ·exact cmpI_bd _ _
 ·exact cmpI_bd _ _
 ·exact cmpI_bd _ _
 ·exact yng_bd _ _
theorem lessK_any (a b : Hd) : lessK a b = true ∨ lessK b a = true ∨ (a.t = b.t ∧ a.i = b.i ∧ a.v = b.v) := by
 have e : fstn [cmpI b.t a.t, cmpI b.i a.i, cmpI b.v a.v] = -fstn [cmpI a.t b.t, cmpI a.i b.i, cmpI a.v b.v] := by
  rw [← fstn_neg]
  simp only [List.map_cons, List.map_nil]
  rw [cmpI_anti a.t, cmpI_anti a.i, cmpI_anti a.v]
 unfold lessK
 rw [e]
 by_cases h : fstn [cmpI a.t b.t, cmpI a.i b.i, cmpI a.v b.v] = 0
 ·refine .inr (.inr ?_)
  simp only [fstn] at h
  split at h
  ·rename_i h1
   split at h
   ·rename_i h2
    split at h
    ·rename_i h3
     exact ⟨cmpI_zero h1, cmpI_zero h2, cmpI_zero h3⟩
    ·omega
   ·omega
  ·omega
 ·simp only [decide_eq_true_eq]
  omega
theorem nan_i32 (x : Int) (w : World) : Calls Tryz.prog 132 #[.int .i32 x] w fun e w' => e = .returned (.bool false) ∧ w = w' := by
 have d : (x != x) = false := by simp
 go_enter Tryz.func132, Tryz.ntmps132
 go_wp2
 go_ret
 exact ⟨rfl, rfl⟩
theorem cmp_i32 (x y : Int) (w : World) : Calls Tryz.prog 110 #[.int .i32 x, .int .i32 y] w fun e w' => e = .returned (.int .i64 (cmpI x y)) ∧ w = w' := by
 have HC : Hid (cmpI x y = if x < y then -1 else if y < x then 1 else 0) := Lib.hid rfl
 by_cases h1 : x < y
 ·go_enter Tryz.func110, Tryz.ntmps110
  go_wp2_with (go_at_call 132; refine (nan_i32 _ _).mono ?_; rintro e w' ⟨rfl, rfl⟩)
  go_ret
  exact ⟨ret_int (by rw [HC.out, if_pos (by omega)]), rfl⟩
 ·by_cases h2 : y < x
  ·have h3 : x > y := h2
   go_enter Tryz.func110, Tryz.ntmps110
   go_wp2_with (go_at_call 132; refine (nan_i32 _ _).mono ?_; rintro e w' ⟨rfl, rfl⟩)
   go_ret
   exact ⟨ret_int (by rw [HC.out, if_neg (by omega), if_pos (by omega)]), rfl⟩
  ·have h3 : ¬ (x > y) := h2
   go_enter Tryz.func110, Tryz.ntmps110
   go_wp2_with (go_at_call 132; refine (nan_i32 _ _).mono ?_; rintro e w' ⟨rfl, rfl⟩)
   go_ret
   exact ⟨ret_int (by rw [HC.out, if_neg (by omega), if_neg (by omega)]), rfl⟩
theorem nan_i64 (x : Int) (w : World) : Calls Tryz.prog 108 #[.int .i64 x] w fun e w' => e = .returned (.bool false) ∧ w = w' := by
 have d : (x != x) = false := by simp
 go_enter Tryz.func108, Tryz.ntmps108
 go_wp2
 go_ret
 exact ⟨rfl, rfl⟩
theorem cmp_i64 (x y : Int) (w : World) : Calls Tryz.prog 79 #[.int .i64 x, .int .i64 y] w fun e w' => e = .returned (.int .i64 (cmpI x y)) ∧ w = w' := by
 have HC : Hid (cmpI x y = if x < y then -1 else if y < x then 1 else 0) := Lib.hid rfl
 by_cases h1 : x < y
 ·go_enter Tryz.func79, Tryz.ntmps79
  go_wp2_with (go_at_call 108; refine (nan_i64 _ _).mono ?_; rintro e w' ⟨rfl, rfl⟩)
  go_ret
  exact ⟨ret_int (by rw [HC.out, if_pos (by omega)]), rfl⟩
 ·by_cases h2 : y < x
  ·have h3 : x > y := h2
   go_enter Tryz.func79, Tryz.ntmps79
   go_wp2_with (go_at_call 108; refine (nan_i64 _ _).mono ?_; rintro e w' ⟨rfl, rfl⟩)
   go_ret
   exact ⟨ret_int (by rw [HC.out, if_neg (by omega), if_pos (by omega)]), rfl⟩
  ·have h3 : ¬ (x > y) := h2
   go_enter Tryz.func79, Tryz.ntmps79
   go_wp2_with (go_at_call 108; refine (nan_i64 _ _).mono ?_; rintro e w' ⟨rfl, rfl⟩)
   go_ret
   exact ⟨ret_int (by rw [HC.out, if_neg (by omega), if_neg (by omega)]), rfl⟩
theorem nan_u32 (x : Int) (w : World) : Calls Tryz.prog 109 #[.int .u32 x] w fun e w' => e = .returned (.bool false) ∧ w = w' := by
 have d : (x != x) = false := by simp
 go_enter Tryz.func109, Tryz.ntmps109
 go_wp2
 go_ret
 exact ⟨rfl, rfl⟩
theorem cmp_u32 (x y : Int) (w : World) : Calls Tryz.prog 80 #[.int .u32 x, .int .u32 y] w fun e w' => e = .returned (.int .i64 (cmpI x y)) ∧ w = w' := by
 have HC : Hid (cmpI x y = if x < y then -1 else if y < x then 1 else 0) := Lib.hid rfl
 by_cases h1 : x < y
 ·go_enter Tryz.func80, Tryz.ntmps80
  go_wp2_with (go_at_call 109; refine (nan_u32 _ _).mono ?_; rintro e w' ⟨rfl, rfl⟩)
  go_ret
  exact ⟨ret_int (by rw [HC.out, if_pos (by omega)]), rfl⟩
 ·by_cases h2 : y < x
  ·have h3 : x > y := h2
   go_enter Tryz.func80, Tryz.ntmps80
   go_wp2_with (go_at_call 109; refine (nan_u32 _ _).mono ?_; rintro e w' ⟨rfl, rfl⟩)
   go_ret
   exact ⟨ret_int (by rw [HC.out, if_neg (by omega), if_pos (by omega)]), rfl⟩
  ·have h3 : ¬ (x > y) := h2
   go_enter Tryz.func80, Tryz.ntmps80
   go_wp2_with (go_at_call 109; refine (nan_u32 _ _).mono ?_; rintro e w' ⟨rfl, rfl⟩)
   go_ret
   exact ⟨ret_int (by rw [HC.out, if_neg (by omega), if_neg (by omega)]), rfl⟩
theorem endd_any (h : Hd) (w : World) : Calls Tryz.prog 111 #[.agg #[.int .i64 h.a, .int .i64 h.o, .int .i64 h.t, .int .u32 h.i, .int .u32 h.v, .int .u32 h.q, .int .i64 h.s, .int .i64 h.n]] w fun e w' => e = .returned (.int .i64 (endd h.a)) ∧ Below w.heap.size w w' := by
 have HC : Hid (endd h.a = if h.a = 3600 then 1 else 0) := Lib.hid rfl
 obtain ⟨W0, hW0⟩ : ∃ V, w.alloc (.cells #[.int .i64 h.a, .int .i64 h.o, .int .i64 h.t, .int .u32 h.i, .int .u32 h.v, .int .u32 h.q, .int .i64 h.s, .int .i64 h.n] 37) = V := ⟨_, rfl⟩
 have bW0 : Below w.heap.size w W0 := by rw [← hW0]; exact below_alloc1 _ _
 have sW0 : W0.heap.size = w.heap.size + 1 := by rw [← hW0]; simp
 have KX : Hid (∀ V, Below W0.heap.size W0 V → V.cell? ⟨w.heap.size, 0, none⟩ = some (.int .i64 h.a) ∧ V.cell? ⟨w.heap.size, 1, none⟩ = some (.int .i64 h.o) ∧ V.cell? ⟨w.heap.size, 2, none⟩ = some (.int .i64 h.t) ∧ V.cell? ⟨w.heap.size, 3, none⟩ = some (.int .u32 h.i) ∧ V.cell? ⟨w.heap.size, 4, none⟩ = some (.int .u32 h.v) ∧ V.cell? ⟨w.heap.size, 5, none⟩ = some (.int .u32 h.q) ∧ V.cell? ⟨w.heap.size, 6, none⟩ = some (.int .i64 h.s) ∧ V.cell? ⟨w.heap.size, 7, none⟩ = some (.int .i64 h.n)) := Lib.hid (fun V hV => kb8_new hW0 hV)
 obtain ⟨k0, k1, k2, k3, k4, k5, k6, k7⟩ := KX.out _ (Below.refl _ _)
 clear KX
 by_cases h1 : h.a = 3600
 ·have e : endd h.a = 1 := by rw [HC.out, if_pos (by omega)]
  have d : (h.a == 3600) = true := by simpa using h1
  have d2 : (h.a != 3600) = false := by simp [bne, d]
  rw [e]
  clear e h1 HC
  go_enter Tryz.func111, Tryz.ntmps111
  go_wp2
  go_ret
  exact ⟨rfl, bW0⟩
 ·have e : endd h.a = 0 := by rw [HC.out, if_neg (by omega)]
  have d : (h.a == 3600) = false := by simpa using h1
  have d2 : (h.a != 3600) = true := by simp [bne, d]
  rw [e]
  clear e h1 HC
  go_enter Tryz.func111, Tryz.ntmps111
  go_wp2
  go_ret
  exact ⟨rfl, bW0⟩
theorem yng_any (x y : Int) (w : World) (h0 : 0 ≤ x) (h1 : x ≤ 3600) (h2 : 0 ≤ y) (h3 : y ≤ 3600) : Calls Tryz.prog 112 #[.int .i64 x, .int .i64 y] w fun e w' => e = .returned (.int .i64 (yng x y)) ∧ w = w' := by
 have HC : Hid (yng x y = if 900 < y - x then 1 else if 900 < x - y then -1 else 0) := Lib.hid rfl
 have e1 : wrap64 (y - x) = y - x := by unfold wrap64; omega
 have e2 : wrap64 (x - y) = x - y := by unfold wrap64; omega
 by_cases c1 : 900 < y - x
 ·have c3 : y - x > 900 := c1
  go_enter Tryz.func112, Tryz.ntmps112
  go_wp2
  go_ret
  exact ⟨ret_int (by rw [HC.out, if_pos (by omega)]), rfl⟩
 ·have c3 : ¬ (y - x > 900) := c1
  by_cases c2 : 900 < x - y
  ·have c4 : x - y > 900 := c2
   go_enter Tryz.func112, Tryz.ntmps112
   go_wp2
   go_ret
   exact ⟨ret_int (by rw [HC.out, if_neg (by omega), if_pos (by omega)]), rfl⟩
  ·have c4 : ¬ (x - y > 900) := c2
   go_enter Tryz.func112, Tryz.ntmps112
   go_wp2
   go_ret
   exact ⟨ret_int (by rw [HC.out, if_neg (by omega), if_neg (by omega)]), rfl⟩
theorem more_any (q : Bool) (w : World) : Calls Tryz.prog 84 #[.bool q] w fun e w' => e = .returned (.int .i64 (if q = true then 1 else -1)) ∧ w = w' := by
 cases q
 ·go_enter Tryz.func84, Tryz.ntmps84
  go_wp2
  go_ret
  exact ⟨rfl, rfl⟩
 ·go_enter Tryz.func84, Tryz.ntmps84
  go_wp2
  go_ret
  exact ⟨rfl, rfl⟩
theorem fstn_drop {l : List Int} {k : Nat} (hk : k < l.length) : fstn (l.drop k) = if l.getD k 0 = 0 then fstn (l.drop (k + 1)) else l.getD k 0 := by
 rw [List.drop_eq_getElem_cons hk, fstn]
 simp [List.getD, hk]
set_option maxRecDepth 100000 in
theorem first_any (A : Option Addr) (n c : Nat) (l : List Int) (w : World) (hn : l.length = n) (hb : Bs .i64 w w.heap.size A l) (hl : n ≤ 1000) :
  Calls Tryz.prog 78 #[.slice A n c] w fun e w' => e = .returned (.int .i64 (fstn l)) ∧ w = w' := by
 have HN := Lib.hid hn
 have HW := Lib.hid hb
 clear hb hn
 go_enter Tryz.func78, Tryz.ntmps78
 go_wp2_with fail
 go_loopg [4, 7] n (fun gf v4 v7 wx => ∃ k : Nat, v7 = .int .i64 (k : Int) ∧ Hid (gf + k = n) ∧ Hid (fstn (l.drop k) = fstn l) ∧ wx = w)
 case atStart => exact ⟨0, rfl, Lib.hid (by omega), Lib.hid (by simp), rfl⟩
 case round =>
  obtain ⟨k, rfl, hk, hx, hwx⟩ := hrel
  replace hwx := hwx.symm
  subst hwx
  have hk' := hk.out
  cases gk with
  | zero =>
   have lt0 : decide ((k : Int) < (n : Int)) = false := by simp; omega
   have lt1 : decide (k < n) = false := by simp; omega
   have HX : Hid (fstn l = 0) := Lib.hid (by
    have := hx.out
    rw [List.drop_of_length_le (by rw [HN.out]; omega)] at this
    exact this.symm)
   go_wp2
   go_ret
   exact ⟨ret_int HX.out.symm, rfl⟩
  | succ gf =>
   have hkl : k < l.length := by rw [HN.out]; omega
   have lt0 : (k : Int) < (n : Int) := by omega
   have hw1 : (k : Int) + 1 ≤ 1000000 := by omega
   have hd := fstn_drop hkl
   obtain ⟨b, off, rfl, _, hcl⟩ := HW.out.at_ hkl
   obtain ⟨v, hv⟩ : ∃ v, l.getD k 0 = v := ⟨_, rfl⟩
   rw [hv] at hcl hd
   have HD := Lib.hid hd
   clear hv hd hkl
   by_cases hxv : v = 0
   ·subst hxv
    have HX : Hid (fstn (l.drop (k + 1)) = fstn l) := Lib.hid (by rw [← hx.out, HD.out, if_pos rfl])
    go_wp2
    go_roundg gf
    case measure => omega
    case rel => exact ⟨k + 1, by go_num, Lib.hid (by omega), HX, rfl⟩
   ·have d : (v == 0) = false := by simpa using hxv
    have d2 : (v != 0) = true := by simp [bne, d]
    have HX : Hid (fstn l = v) := Lib.hid (by rw [← hx.out, HD.out, if_neg hxv])
    go_wp2
    go_ret
    exact ⟨ret_int HX.out.symm, rfl⟩
end Go.Proofs.YtadcicmccdphkaaGreat
