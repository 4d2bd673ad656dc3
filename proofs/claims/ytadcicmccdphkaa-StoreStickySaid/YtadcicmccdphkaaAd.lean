/-
  Rows of advertisements in memory. No statement is proved here; no conditions.
-/
import Derived.Test.YtadcicmccdphkaaDh
import Derived.Test.YtadcicmccdphkaaSe
import Derived.Test.YtadcicmccdphkaaSm
import Derived.Lib.SliceRun
import Derived.Lib.JoinLaws
import Derived.Deep.RegionHeldLaw
namespace Go.Proofs.Ytadcicmccdphkaa
open Go.RowKit Go.Joins

/-- What an advertisement says. -/
abbrev Ct := Hd × List Int
def con (x : Ae) : Ct := (x.h, x.l)
def cons (L : List Ae) : List Ct := L.map con
theorem cons_length (L : List Ae) : (cons L).length = L.length := by simp [cons]
/-- The row is read at A, and so are the bodies. -/
def Arr (w : World) (A : Option Addr) (L : List Ae) : Prop := Rd (fun _ => True) w A (aflat L) ∧ ∀ x ∈ L, Bt w x.A x.l
theorem Arr.step {w w' : World} {A : Option Addr} {L : List Ae} (h : Arr w A L) (k : Below w.heap.size w w') : Arr w' A L :=
  ⟨Rd.keep h.1 k.size fun j _ hj => k.block j hj, fun x hx => Bs.step (h.2 x hx) k⟩
theorem Arr.nil (w : World) (A : Option Addr) : Arr w A [] := ⟨Rd.nil A, fun x hx => by cases hx⟩
/-- Its numbers have their widths, its body is of bytes, and not too long. -/
structure Oka (x : Ct) : Prop where
  h : Okd x.1
  y : Byt x.2
  n : x.2.length ≤ 1600
def Okas (L : List Ct) : Prop := ∀ x ∈ L, Oka x
theorem okas_at {L : List Ae} (ok : Okas (cons L)) {x : Ae} (hx : x ∈ L) : Oka (con x) := ok _ (List.mem_map.2 ⟨x, hx, rfl⟩)
theorem cons_take (L : List Ae) (k : Nat) : cons (L.take k) = (cons L).take k := by simp [cons, List.map_take]
theorem cons_snoc (L : List Ae) (x : Ae) : cons (L ++ [x]) = cons L ++ [con x] := by simp [cons]
theorem Ob.self {e : TypeId} {sz : Nat} {S : Nat → Prop} {w : World} {A : Option Addr} {c : Nat} {cs : List Value} (h : Ob e sz S w A c cs) : Ob e sz (fun j => A = some ⟨j, 0, none⟩) w A c cs := by
  rcases h with h | ⟨g, _, rfl, h3⟩
  · exact .inl h
  · exact .inr ⟨g, rfl, rfl, h3⟩
theorem Ob.at {e : TypeId} {sz : Nat} {S : Nat → Prop} {w : World} {A : Option Addr} {c : Nat} {cs : List Value} (h : Ob e sz S w A c cs) {j : Nat} (hj : A = some ⟨j, 0, none⟩) : S j := by
  rcases h with ⟨rfl, _, _⟩ | ⟨g, hg, rfl, _⟩
  · cases hj
  · injection hj with hj
    injection hj with hj
    exact hj ▸ hg
/-- One element more; only the row's own block changes. -/
theorem app_oneA {P : Program} {S : Nat → Prop} {w : World} {A : Option Addr} {c n : Nat} {cs : List Value} {e t : TypeId} {sz by_ : Nat} {z : Value} {i : TypeInfo} (ht : P.underlying t = some (.slice e)) (hi : P.info? e = some i) (hz : i.zero = some z) (hsize : i.size = sz) (hby : i.bytes = by_) (hzs : z.cells.size = sz) (hsz : 0 < sz) (hb100 : by_ ≤ 200)
    (h : Ob e sz S w A c cs) (hn : cs.length = n * sz) (xs : List Value) (hl2 : xs.length = sz) (h1 : ∀ u ∈ xs, u.oneCell' = true) (hb : n ≤ 100000) (n0 : Nat) (hn0 : w.heap.size = n0) :
    ∃ g' c' w', (Builtin.append_ #[t, t] t #[.slice A n c, .slice (some ⟨n0, 0, none⟩) 1 1]).run P (w.alloc (.cells xs.toArray e)) = .ok (.slice (some ⟨g', 0, none⟩) (n + 1) c') w' ∧ Rg e sz w' g' c' (cs ++ xs) ∧ Kp (fun j => A = some ⟨j, 0, none⟩) w w' ∧ (S g' ∨ n0 < g') := by
  obtain ⟨g', c', w', r1, r2, r3, r4⟩ := app_one (P := P) ht hi hz hsize hby hzs hsz hb100 h.self hn xs hl2 h1 hb n0 hn0
  refine ⟨g', c', w', r1, r2, r3, ?_⟩
  rcases r4 with q | q
  · exact .inl (h.at q)
  · exact .inr q
/-- The body lies in a block of bytes. -/
def Bu (w : World) (x : Ae) : Prop := Bt w x.A x.l ∧ ∀ b off, x.A = some ⟨b, off, none⟩ → x.l ≠ [] → b < w.heap.size ∧ ∃ cur m, w.heap[b]? = some (.cells cur 5 m)
theorem Bu.keep {w w' : World} {x : Ae} (h : Bu w x) (hs : w.heap.size ≤ w'.heap.size) (hk : ∀ b off, x.A = some ⟨b, off, none⟩ → x.l ≠ [] → w'.heap[b]? = w.heap[b]?) : Bu w' x := by
  refine ⟨fun hl => ?_, fun b off e hl => ?_⟩
  · obtain ⟨b, off, e, hb, hc⟩ := h.1 hl
    exact ⟨b, off, e, by omega, fun i hi => (World.cell?_of_block (hk b off e hl)).trans (hc i hi)⟩
  · obtain ⟨h1, cur, m, h2⟩ := h.2 b off e hl
    exact ⟨by omega, cur, m, (hk b off e hl).trans h2⟩
theorem Bu.step {w w' : World} {x : Ae} (h : Bu w x) (k : Below w.heap.size w w') : Bu w' x := h.keep k.size fun b off e hl => k.block b (h.2 b off e hl).1
theorem Bu.of_own {w : World} {base c : Nat} {x : Ae} (h : Own .u8 5 w base x.A c x.l) : Bu w x := by
  refine ⟨h.bs, fun b off e hl => ?_⟩
  rcases h.form with ⟨_, _, h0⟩ | ⟨g, cur, hA, _, hlt, hg, _⟩
  · exact absurd h0 hl
  · rw [hA] at e
    injection e with e
    injection e with e1 _
    subst e1
    exact ⟨hlt, cur, _, hg⟩
/-- A row of the call's own, in a block from base on; its bodies lie in blocks of bytes. -/
structure Aro (base : Nat) (w : World) (A : Option Addr) (c : Nat) (L : List Ae) : Prop where
  row : Ob 34 9 (base ≤ ·) w A c (aflat L)
  bod : ∀ x ∈ L, Bu w x
theorem Aro.nil (base : Nat) (w : World) : Aro base w none 0 [] := ⟨.inl ⟨rfl, rfl, rfl⟩, fun x hx => by cases hx⟩
theorem Aro.step {base : Nat} {w w' : World} {A : Option Addr} {c : Nat} {L : List Ae} (h : Aro base w A c L) (k : Below w.heap.size w w') : Aro base w' A c L := ⟨Ob.below h.row k, fun x hx => (h.bod x hx).step k⟩
theorem Aro.arr {base : Nat} {w : World} {A : Option Addr} {c : Nat} {L : List Ae} (h : Aro base w A c L) : Arr w A L := ⟨Ob.rd h.row, fun x hx => (h.bod x hx).1⟩
theorem infoA : (Try.prog.info? 34).map (fun i => (i.zero, i.size, i.bytes)) = some (some (.agg #[.int .i64 0, .int .i64 0, .int .i64 0, .int .u32 0, .int .u32 0, .int .u32 0, .int .i64 0, .int .i64 0, .slice none 0 0]), 9, 80) := by kernel_rfl
theorem Ob.typed {e : TypeId} {sz : Nat} {S : Nat → Prop} {w : World} {A : Option Addr} {c : Nat} {cs : List Value} (h : Ob e sz S w A c cs) {j : Nat} (hj : A = some ⟨j, 0, none⟩) : ∃ cur m, w.heap[j]? = some (.cells cur e m) := by
  rcases h with ⟨rfl, _, _⟩ | ⟨g, hg, rfl, cur, hc, _⟩
  · cases hj
  · injection hj with hj
    injection hj with hj
    subst hj
    exact ⟨cur, _, hc⟩
/-- A body's block is none of advertisements. -/
theorem Bu.apart {w : World} {x : Ae} (h : Bu w x) {e : TypeId} {sz : Nat} {S : Nat → Prop} {A : Option Addr} {c : Nat} {cs : List Value} (ho : Ob e sz S w A c cs) (hne : e ≠ 5) : ∀ b off, x.A = some ⟨b, off, none⟩ → x.l ≠ [] → ¬ (A = some ⟨b, 0, none⟩) := by
  intro b off e1 hl hA
  obtain ⟨_, cur, m, h2⟩ := h.2 b off e1 hl
  obtain ⟨cur2, m2, h3⟩ := ho.typed hA
  rw [h2] at h3
  injection h3 with h3
  injection h3 with _ h4 _
  exact hne h4.symm
/-- A row one advertisement longer. -/
theorem aro_app {base : Nat} {w : World} {A : Option Addr} {c n : Nat} {L : List Ae} (h : Aro base w A c L) (hn : L.length = n) (x : Ae) (hx : Bu w x) (hb : n ≤ 100000) (n0 : Nat) (hn0 : w.heap.size = n0) (hbase : base ≤ w.heap.size) :
    ∃ g' c' w', (Builtin.append_ #[22, 22] 22 #[.slice A n c, .slice (some ⟨n0, 0, none⟩) 1 1]).run Try.prog (w.alloc (.cells (acs x).toArray 34)) = .ok (.slice (some ⟨g', 0, none⟩) (n + 1) c') w' ∧ Aro base w' (some ⟨g', 0, none⟩) c' (L ++ [x]) ∧ Below base w w' ∧ Kp (fun j => A = some ⟨j, 0, none⟩) w w' := by
  obtain ⟨i0, hi0, hz0, hz1, hz2⟩ := info_of infoA
  obtain ⟨g9, c9, Z9, r9, rg9, kp9, hg9⟩ := app_oneA (P := Try.prog) (S := (base ≤ ·)) Try.underlying22 hi0 hz0 hz1 hz2 rfl (by decide) (by decide) h.row (n := n) (by rw [aflat_length, hn]) (acs x) rfl (acs_one x) hb n0 hn0
  have bu : ∀ y, Bu w y → Bu Z9 y := fun y hy => hy.keep kp9.size fun b off e hl => kp9.block b (hy.2 b off e hl).1 (hy.apart h.row (by decide) b off e hl)
  refine ⟨g9, c9, Z9, r9, ⟨.inr ⟨g9, ?_, rfl, by rw [aflat_snoc]; exact rg9⟩, fun y hy => ?_⟩, kp9.below (fun j hj => h.row.at hj) hbase, kp9⟩
  · rcases hg9 with q | q
    · exact q
    · show base ≤ g9; omega
  · rcases List.mem_append.1 hy with q | q
    · exact bu y (h.bod y q)
    · obtain rfl := List.mem_singleton.1 q
      exact bu y hx
theorem aflat_app (a b : List Ae) : aflat (a ++ b) = aflat a ++ aflat b := by simp [aflat]
theorem one_aflat (L : List Ae) : ∀ u ∈ aflat L, u.oneCell' = true := by
  intro u hu
  obtain ⟨x, _, h⟩ := List.mem_flatMap.1 hu
  exact acs_one x u h
set_option maxRecDepth 100000 in
set_option maxHeartbeats 4000000 in
theorem all_any (A A' : Option Addr) (n c c' : Nat) (L L' : List Ae) (w : World) (hn : L.length = n) (hcc : cons L = cons L') (h1 : Arr w A L) (h2 : Arr w A' L') (hl : n ≤ 10000) :
    Calls Try.prog 52 #[.slice A n c, .slice A' n c'] w fun e w' => e = .returned (.bool true) ∧ Below w.heap.size w w' := by
  have hn2 : L'.length = n := by rw [← cons_length, ← hcc, cons_length, hn]
  have H1 := Lib.hid h1
  have H2 := Lib.hid h2
  have HN := Lib.hid hn
  have HN2 := Lib.hid hn2
  have HCC := Lib.hid hcc
  clear h1 h2 hn hn2 hcc
  go_enter Try.func52, Try.ntmps52
  go_wp2_with fail
  go_loopg [5] n (fun gf v5 wx => ∃ (k : Nat), v5 = .int .i64 (k : Int) ∧ Hid (gf + k = n) ∧ Hid (Below w.heap.size w wx))
  case atStart => exact ⟨0, rfl, Lib.hid (by omega), Lib.hid (Below.refl _ _)⟩
  case round =>
    obtain ⟨k, rfl, hk, hb⟩ := hrel
    have hk' := hk.out
    cases gk with
    | zero =>
      have e1 : k = n := by omega
      have lt0 : decide ((k : Int) < (n : Int)) = false := by simp; omega
      have lt1 : decide (k < n) = false := by simp; omega
      go_wp2
      go_ret
      exact ⟨rfl, hb.out⟩
    | succ gf =>
      have hkl : k < L.length := by rw [HN.out]; omega
      have hkl2 : k < L'.length := by rw [HN2.out]; omega
      have lt0 : (k : Int) < (n : Int) := by omega
      have hw1 : (k : Int) + 1 ≤ 10000 := by omega
      have a1 := Arr.step H1.out hb.out
      have a2 := Arr.step H2.out hb.out
      obtain ⟨b, off, hA, _, e0, e1, e2, e3, e4, e5, e6, e7, e8⟩ := ard_at a1.1 hkl
      obtain ⟨b2, off2, hA2, _, f0, f1, f2, f3, f4, f5, f6, f7, f8⟩ := ard_at a2.1 hkl2
      have q1 := a1.2 _ (ag_mem hkl)
      have q2 := a2.2 _ (ag_mem hkl2)
      have hc : con (ag L k) = con (ag L' k) := by
        have := congrArg (fun l : List Ct => l[k]?) HCC.out
        simp only [cons, List.getElem?_map] at this
        rw [List.getElem?_eq_getElem hkl, List.getElem?_eq_getElem hkl2] at this
        rw [ag_eq hkl, ag_eq hkl2]
        simpa using this
      have hh : (ag L' k).h = (ag L k).h := (congrArg Prod.fst hc).symm
      have hl2 : (ag L' k).l = (ag L k).l := (congrArg Prod.snd hc).symm
      rw [hh] at f0 f1 f2 f3 f4 f5 f6 f7
      rw [hl2] at f8
      rw [hl2] at q2
      obtain ⟨y, hy⟩ : ∃ y, (ag L k).h = y := ⟨_, rfl⟩
      obtain ⟨Y, hY⟩ : ∃ Y, (ag L k).l = Y := ⟨_, rfl⟩
      obtain ⟨m, hm⟩ : ∃ m, Y.length = m := ⟨_, rfl⟩
      rw [hy] at e0 e1 e2 e3 e4 e5 e6 e7 f0 f1 f2 f3 f4 f5 f6 f7
      rw [hY, hm] at e8 f8
      rw [hY] at q1 q2
      generalize (ag L k).A = B1 at *
      generalize (ag L' k).A = B2 at *
      generalize (ag L k).c = d1 at *
      generalize (ag L' k).c = d2 at *
      subst hA hA2
      clear hkl hkl2 a1 a2 hc hh hl2 hy hY
      go_upto_region 6 with fail
      refine wp_region_quiet_below (by kernel_rfl) (by kernel_rfl) ?_
      have gg0 := cell_regrown e0
      have gg1 := cell_regrown e1
      have gg2 := cell_regrown e2
      have gg3 := cell_regrown e3
      have gg4 := cell_regrown e4
      have gg5 := cell_regrown e5
      have gg6 := cell_regrown e6
      have gg7 := cell_regrown e7
      have gg8 := cell_regrown e8
      have gg9 := cell_regrown f0
      have gg10 := cell_regrown f1
      have gg11 := cell_regrown f2
      have gg12 := cell_regrown f3
      have gg13 := cell_regrown f4
      have gg14 := cell_regrown f5
      have gg15 := cell_regrown f6
      have gg16 := cell_regrown f7
      have gg17 := cell_regrown f8
      have zz0 : ∀ d os, _ := fun d os => Calls.regrown_of (w := wr) (d := d) (os := os) (same_any y B1 B2 m d1 d2 Y _ hm (q1.step (below_regrown wr d os)) (q2.step (below_regrown wr d os)))
      repeat (first | go_big_quiet_step (with_reducible exact zz0 _ _) | go_big_quiet_step (fail) | go_big_quiet_skip)
      refine wpQuiet_nil ?_
      intro W9 hw'
      obtain ⟨⟨dq, osq⟩, hw''⟩ := hw'
      have hbz := below_regrown wr dq osq
      rw [← hw''] at hbz
      clear hw'' gg0 gg1 gg2 gg3 gg4 gg5 gg6 gg7 gg8 gg9 gg10 gg11 gg12 gg13 gg14 gg15 gg16 gg17 zz0 
      go_wp2
      go_roundg gf
      case measure => omega
      case rel => exact ⟨k + 1, by go_num, Lib.hid (by omega), Lib.hid (hb.out.trans (hbz.mono hb.out.size))⟩
end Go.Proofs.Ytadcicmccdphkaa
