/-
  slices.Insert of one advertisement into a row of the call's own. No statement is proved here; no conditions.
-/
import Derived.Test.YtadcicmccdphkaaGreatG11
import Derived.Lib.Overlaps
import Derived.Lib.AppendZerosOnto
import Derived.Laws.CopyRow
import Derived.Laws.Externs
import Derived.WalkKit
import Derived.Shelf.RegionOpenPlain
import Derived.Shelf.Spec.SlicesInsert
namespace Go.Proofs.YtadcicmccdphkaaGreat
open Go.RowKit Go.Joins

theorem run_cpz {P : Program} (w : World) (t s ty e : TypeId) (i : TypeInfo) (sz : Nat) (ht : P.underlying t = some (.slice e)) (hi : P.info? e = some i) (hsize : i.size = sz) (g o dLen dCap : Nat) (a : Addr) (sLen sCap m : Nat) (cur : Array Value) (cs : List Value)
  (hg : w.heap[g]? = some (.cells cur e (0, 0))) (hm : Nat.min sLen dLen = m) (hcs : cs.length = m * sz) (hsrc : ∀ j u, cs[j]? = some u → w.cell? (a.add j) = some u) (hfit : o + cs.length ≤ cur.size) (h1 : ∀ u ∈ cs, u.oneCell' = true) :
  (Builtin.copy_ #[t, s] ty #[.slice (some ⟨g, o, none⟩) dLen dCap, .slice (some a) sLen sCap]).run P w = .ok (goInt m) (w.setRow g (cur.toList.take o ++ cs ++ cur.toList.drop (o + cs.length)).toArray) := by
 have hl := run_loadCells_list (P := P) w a cs hsrc
 have hst := run_storeCells_at P g o e cs 0 cur w hg (by simpa using hfit) h1
 rw [hcs] at hl
 simp [Builtin.copy_, run_underlying ht, Builtin.lenOf, Builtin.firstCells, sizeOf, typeInfo, hi, hsize, hm, hl] at hst ⊢
 simp [hst]
theorem row_shift (P D R X : List Value) (h : X.length ≤ D.length + R.length) :
  (((P ++ D ++ R).take (P.length + X.length) ++ D ++ (P ++ D ++ R).drop (P.length + X.length + D.length)).take P.length ++ X ++ ((P ++ D ++ R).take (P.length + X.length) ++ D ++ (P ++ D ++ R).drop (P.length + X.length + D.length)).drop (P.length + X.length)) = P ++ X ++ D ++ (P ++ D ++ R).drop (P.length + X.length + D.length) := by
 generalize hT : (P ++ D ++ R).drop (P.length + X.length + D.length) = T
 have e1 : ((P ++ D ++ R).take (P.length + X.length)).length = P.length + X.length := by rw [List.length_take]; simp; omega
 have e2 : ((P ++ D ++ R).take (P.length + X.length) ++ D ++ T).take P.length = P := by
  rw [List.append_assoc, List.take_append_of_le_length (by rw [e1]; omega), List.take_take, Nat.min_eq_left (by omega), List.append_assoc, List.take_left']
  rfl
 have e3 : ((P ++ D ++ R).take (P.length + X.length) ++ D ++ T).drop (P.length + X.length) = D ++ T := by
  rw [List.append_assoc, List.drop_left' e1]
 rw [e2, e3]
 simp
theorem row_fill (P Z X D : List Value) (_h : X.length + D.length ≤ Z.length) :
  (((P ++ Z).take P.length ++ X ++ (P ++ Z).drop (P.length + X.length)).take (P.length + X.length) ++ D ++ ((P ++ Z).take P.length ++ X ++ (P ++ Z).drop (P.length + X.length)).drop (P.length + X.length + D.length)) = P ++ X ++ D ++ Z.drop (X.length + D.length) := by
 have e1 : (P ++ Z).take P.length = P := List.take_left' rfl
 have e2 : (P ++ Z).drop (P.length + X.length) = Z.drop X.length := by rw [List.drop_append]; simp [List.drop_eq_nil_of_le]
 rw [e1, e2]
 have e3 : (P ++ X ++ Z.drop X.length).take (P.length + X.length) = P ++ X := List.take_left' (by simp)
 have e4 : (P ++ X ++ Z.drop X.length).drop (P.length + X.length + D.length) = Z.drop (X.length + D.length) := by
  rw [List.drop_append]
  simp [List.drop_eq_nil_of_le, List.drop_drop]
 rw [e3, e4]
theorem aflat_cons (x : Ae) (L : List Ae) : aflat (x :: L) = acs x ++ aflat L := by simp [aflat]
theorem aflat_split (L : List Ae) (i : Nat) : aflat L = aflat (L.take i) ++ aflat (L.drop i) := by rw [← aflat_app, List.take_append_drop]
def insA (L : List Ae) (i : Nat) (x : Ae) : List Ae := L.take i ++ x :: L.drop i
theorem insA_flat (L : List Ae) (i : Nat) (x : Ae) : aflat (insA L i x) = aflat (L.take i) ++ acs x ++ aflat (L.drop i) := by rw [insA, aflat_app, aflat_cons, List.append_assoc]
theorem insA_length {L : List Ae} {i : Nat} (h : i ≤ L.length) (x : Ae) : (insA L i x).length = L.length + 1 := by simp [insA]; omega
theorem cons_insA (L : List Ae) (i : Nat) (x : Ae) : cons (insA L i x) = (cons L).take i ++ con x :: (cons L).drop i := by simp [insA, cons, List.map_take, List.map_drop]
theorem sizeA (w : World) : (Go.sizeOf 40).run Tryz.prog w = .ok 9 w := by
 obtain ⟨i, hi, _, hs, _⟩ := info_of infoA
 simp [Go.sizeOf, typeInfo, hi, hs]
set_option maxRecDepth 100000 in
set_option maxHeartbeats 4000000 in
theorem ins_shift (g c n i vb : Nat) (P D R X : List Value) (w : World) (hP : P.length = i * 9) (hD : D.length = (n - i) * 9) (hX : X.length = 9) (hR : 9 ≤ R.length) (hi : i < n) (hroom : n + 1 ≤ c) (hnn : n ≤ 100000) (_hc : c ≤ 9223372036854775807)
  (hg : w.heap[g]? = some (.cells (P ++ D ++ R).toArray 40 (0, 0))) (hv : w.heap[vb]? = some (.cells X.toArray 40 (0, 0))) (hne : vb ≠ g) (o1 : ∀ u ∈ D, u.oneCell' = true) (o2 : ∀ u ∈ X, u.oneCell' = true) :
  Calls Tryz.prog 53 #[.slice (some ⟨g, 0, none⟩) n c, .int .i64 i, .slice (some ⟨vb, 0, none⟩) 1 1] w fun e w' => e = .returned (.slice (some ⟨g, 0, none⟩) (n + 1) c) ∧ ∃ T, T.length + 9 = R.length ∧ w'.heap[g]? = some (.cells (P ++ (X ++ (D ++ T))).toArray 40 (0, 0)) ∧ Kp (· = g) w w' := by
 obtain ⟨i0, hi0, hz0, hz1, hz2⟩ := info_of infoA
 have hn1 : (n : Int) + 1 ≤ c := by omega
 have hn2 : ¬ ((n : Int) + 1 > c) := by omega
 have hn3 : ¬ ((i : Int) = (n : Int)) := by omega
 have hw1 : IntKind.i64.wrap ((n : Int) + 1) = (n : Int) + 1 := wrap_i64 (by omega) (by omega)
 have hw2 : IntKind.i64.wrap ((i : Int) + 1) = (i : Int) + 1 := wrap_i64 (by omega) (by omega)
 have hb1 : (0 : Int) ≤ (i : Int) + 1 := by omega
 have hb2 : ((i : Int) + 1).toNat = i + 1 := by omega
 have hb3 : (i : Int) + 1 ≤ (n : Int) + 1 := by omega
 have hb4 : ¬ (c = i + 1) := by omega
 have hb5 : ¬ (c = i) := by omega
 have hb6 : ((n : Int) + 1).toNat = n + 1 := by omega
 have hb7 : (i : Int) ≤ (n : Int) + 1 := by omega
 have hb8 : (0 : Int) ≤ (n : Int) + 1 := by omega
 have hov : ∀ W, W.heap[vb]? = some (.cells X.toArray 40 (0, 0)) → W.heap[g]? = some (.cells (P ++ D ++ R).toArray 40 (0, 0)) → ∀ o lb cb, (callFunc 82 #[.slice (some ⟨vb, 0, none⟩) 1 1, .slice (some ⟨g, o, none⟩) lb cb]).run Tryz.prog W = .ok (.value (.bool false)) W := fun W hV hG o lb cb => by
  rw [run_callFunc_extern Tryz.func82 (by kernel_rfl) (by kernel_rfl) (by kernel_rfl) (e := Extern.SlicesOverlaps.overlaps #[26, 26] #[4]) (by kernel_rfl),
   Lib.run_overlaps_apart W 26 4 40 Tryz.underlying26 9 sizeA ⟨vb, 0, none⟩ ⟨g, o, none⟩ 1 1 lb cb hne 40 40 X.length (P ++ D ++ R).length (by simp [World.shape?, hV]) (by simp [World.shape?, hG]) (by simp only [List.length_append]; omega) (by simp [World.frozen?, hV]) (by simp [World.frozen?, hV])]
  rfl
 have hov1 := hov w hv hg
 have mixed : Tryz.prog.follows Departure.mixedOrders = true := by kernel_rfl
 go_enter Tryz.func53, Tryz.ntmps53
 go_wp2_with (simp only [hov1])
 have hdn : n + 1 - (i + 1) = n - i := by omega
 have hmin : Nat.min (n + 1 - i) (n - i) = n - i := by simp only [Nat.min_def]; split <;> omega
 have hmin1 : Nat.min 1 (n + 1 - i) = 1 := by simp only [Nat.min_def]; split <;> omega
 have hfit : (i + 1) * 9 + D.length ≤ (P ++ D ++ R).toArray.size := by simp only [List.size_toArray, List.length_append]; omega
 have r1 : ∀ ty dc sc, (Builtin.copy_ #[26, 26] ty #[.slice (some ⟨g, (i + 1) * 9, none⟩) (n - i) dc, .slice (some ⟨g, i * 9, none⟩) (n + 1 - i) sc]).run Tryz.prog w.drew = .ok (goInt ((n - i : Nat) : Int)) (w.drew.setRow g (((P ++ D ++ R).toArray.toList.take ((i + 1) * 9)) ++ D ++ ((P ++ D ++ R).toArray.toList.drop ((i + 1) * 9 + D.length))).toArray) := fun ty dc sc =>
  run_cpz w.drew 26 26 ty 40 i0 9 Tryz.underlying26 hi0 hz1 g _ _ dc ⟨g, i * 9, none⟩ _ sc (n - i) (P ++ D ++ R).toArray D hg hmin hD (fun j u hj => by
   rw [Addr.add_lit]
   have hlt := (List.getElem?_eq_some_iff.1 hj).1
   show w.cell? _ = _
   simp only [World.cell?, hg]
   rw [← hP]
   simp
   rw [List.getElem?_append_right (by omega), Nat.add_sub_cancel_left, List.getElem?_append_left hlt]
   exact hj) hfit o1
 obtain ⟨W1, hW1⟩ : ∃ V, w.drew.setRow g (((P ++ D ++ R).toArray.toList.take ((i + 1) * 9)) ++ D ++ ((P ++ D ++ R).toArray.toList.drop ((i + 1) * 9 + D.length))).toArray = V := ⟨_, rfl⟩
 rw [hW1] at r1
 have g1 : W1.heap[g]? = some (.cells (((P ++ D ++ R).toArray.toList.take ((i + 1) * 9)) ++ D ++ ((P ++ D ++ R).toArray.toList.drop ((i + 1) * 9 + D.length))).toArray 40 (0, 0)) := by rw [← hW1]; exact setRow_heap w.drew g _ _ _ _ hg
 have v1 : W1.heap[vb]? = some (.cells X.toArray 40 (0, 0)) := by rw [← hW1]; exact (setRow_other w.drew g vb _ hne).trans hv
 have k1 : Kp (· = g) w W1 := by rw [← hW1]; exact (Kp.refl _ w).drew.trans (Kp.setRow (S := (· = g)) w.drew g _ rfl) (fun _ q => .inl q)
 have lenP : (i + 1) * 9 = P.length + X.length := by omega
 have hsh := row_shift P D R X (by omega)
 have r2 : ∀ ty dc, (Builtin.copy_ #[26, 26] ty #[.slice (some ⟨g, i * 9, none⟩) (n + 1 - i) dc, .slice (some ⟨vb, 0, none⟩) 1 1]).run Tryz.prog W1 = .ok (goInt 1) (W1.setRow g (P ++ X ++ D ++ (P ++ D ++ R).drop (P.length + X.length + D.length)).toArray) := fun ty dc => by
  have h := run_cpz W1 26 26 ty 40 i0 9 Tryz.underlying26 hi0 hz1 g (i * 9) (n + 1 - i) dc ⟨vb, 0, none⟩ 1 1 1 _ X g1 hmin1 (by omega) (fun j u hj => by
   rw [Addr.add_lit]
   simp only [World.cell?, v1]
   simpa using hj) (by simp only [List.size_toArray, List.length_append, List.length_take, List.length_drop]; omega) o2
  rw [h]
  congr 3
  rw [← hP, lenP] at *
  simpa [hX] using hsh
 have G1 := Lib.hid g1
 clear hsh hg hv g1 v1 hov hov1
 go_region_law_o (refine step_copy_runI rfl _ _ 26 26 rfl (.slice (some ⟨g, (i + 1) * 9, none⟩) (n - i) (c - (i + 1))) (.slice (some ⟨g, i * 9, none⟩) (n + 1 - i) (c - i)) (by simp [Act.eval, Act.put]) (by simp [Act.eval, Act.put]) (r1 3 (c - (i + 1)) (c - i)) ?_)
 go_wp2_with (at_builtin; refine wpList_copy_runI _ rfl _ _ 26 26 rfl _ _ rfl rfl (r2 _ _) ?_)
 go_ret
 exact ⟨rfl, _, by simp only [List.length_drop, List.length_append]; omega, setRow_heap W1 g _ _ _ _ G1.out, k1.trans (Kp.setRow (S := (· = g)) W1 g _ rfl) (fun _ q => .inl q)⟩
set_option maxRecDepth 100000 in
set_option maxHeartbeats 4000000 in
theorem ins_grow (g c n i vb : Nat) (P D R X : List Value) (w : World) (hP : P.length = i * 9) (hD : D.length = (n - i) * 9) (hX : X.length = 9) (hi : i < n) (hnc : n ≤ c) (hroom : c < n + 1) (hn : n ≤ 100000)
  (hg : w.heap[g]? = some (.cells (P ++ D ++ R).toArray 40 (0, 0))) (hv : w.heap[vb]? = some (.cells X.toArray 40 (0, 0))) (_o0 : ∀ u ∈ P, u.oneCell' = true) (o1 : ∀ u ∈ D, u.oneCell' = true) (o2 : ∀ u ∈ X, u.oneCell' = true) :
  Calls Tryz.prog 53 #[.slice (some ⟨g, 0, none⟩) n c, .int .i64 i, .slice (some ⟨vb, 0, none⟩) 1 1] w fun e w' => ∃ c', e = .returned (.slice (some ⟨w.heap.size, 0, none⟩) (n + 1) c') ∧ Rg 40 9 w' w.heap.size c' (P ++ X ++ D) ∧ Below w.heap.size w w' := by
 obtain ⟨i0, hi0, hz0, hz1, hz2⟩ := info_of infoA
 have hgl : g < w.heap.size := lt_of_block hg
 have hvl : vb < w.heap.size := lt_of_block hv
 have hn2 : (c : Int) < (n : Int) + 1 := by omega
 have hn2' : (n : Int) + 1 > (c : Int) := by omega
 have hn3 : ¬ ((i : Int) = (n : Int)) := by omega
 have hw1 : IntKind.i64.wrap ((n : Int) + 1) = (n : Int) + 1 := wrap_i64 (by omega) (by omega)
 have hw2 : IntKind.i64.wrap ((i : Int) + 1) = (i : Int) + 1 := wrap_i64 (by omega) (by omega)
 have hw3 : IntKind.i64.wrap ((n : Int) + 1 - (i : Int)) = (n : Int) + 1 - (i : Int) := wrap_i64 (by omega) (by omega)
 have hb1 : (0 : Int) ≤ (i : Int) + 1 := by omega
 have hb2 : ((i : Int) + 1).toNat = i + 1 := by omega
 have hb3 : (i : Int) + 1 ≤ (n : Int) + 1 := by omega
 have hb5 : ¬ (c = i) := by omega
 have hb7 : (i : Int) ≤ (n : Int) + 1 := by omega
 have hbi : (i : Int) ≤ (n : Int) := by omega
 have hbc : (i : Int) ≤ (c : Int) := by omega
 have hkk : (n : Int) + 1 - (i : Int) = ((n + 1 - i : Nat) : Int) := by omega
 have hik : i + (n + 1 - i) = n + 1 := by omega
 have hP2 : P = (P ++ D ++ R).take (i * 9) := by rw [List.append_assoc, List.take_left' hP]
 have hold : (Builtin.firstCells i0.size i (.slice (some ⟨g, 0, none⟩) i c)).run Tryz.prog w.drew = .ok P.toArray w.drew := by
  rw [hz1]
  exact run_firstCells_some w.drew 9 i ⟨g, 0, none⟩ i c P (by omega) (fun j v hj => by
   rw [Addr.add_lit]
   have hlt := (List.getElem?_eq_some_iff.1 hj).1
   show w.cell? _ = _
   simp only [World.cell?, hg]
   simp
   rw [List.getElem?_append_left hlt]
   exact hj)
 obtain ⟨G, hG⟩ : ∃ G, grownCap w (n + 1) c 40 = G := ⟨_, rfl⟩
 have hGn : n + 1 ≤ G := by rw [← hG]; exact grownCap_ge w _ _ _
 have hGm : G ≤ maxLen := by rw [← hG]; exact grownCap_le_maxLen w (n + 1) c 40 (by unfold maxLen; omega)
 obtain ⟨Z, hZ, hZl⟩ : ∃ Z : List Value, (P.toArray ++ Builtin.zeroCells (Value.agg #[.int .i64 0, .int .i64 0, .int .i64 0, .int .u32 0, .int .u32 0, .int .u32 0, .int .i64 0, .int .i64 0, .slice none 0 0]).cells (n + 1 - i) ++ Builtin.zeroCells (Value.agg #[.int .i64 0, .int .i64 0, .int .i64 0, .int .u32 0, .int .u32 0, .int .u32 0, .int .i64 0, .int .i64 0, .slice none 0 0]).cells (G - (n + 1))) = (P ++ Z).toArray ∧ Z.length = (G - i) * 9 := by
  refine ⟨(Builtin.zeroCells (Value.agg #[.int .i64 0, .int .i64 0, .int .i64 0, .int .u32 0, .int .u32 0, .int .u32 0, .int .i64 0, .int .i64 0, .slice none 0 0]).cells (n + 1 - i) ++ Builtin.zeroCells (Value.agg #[.int .i64 0, .int .i64 0, .int .i64 0, .int .u32 0, .int .u32 0, .int .u32 0, .int .i64 0, .int .i64 0, .slice none 0 0]).cells (G - (n + 1))).toList, by simp [Array.append_assoc], ?_⟩
  simp only [Array.length_toList, Array.size_append, size_zeroCells]
  rw [show (Value.agg #[.int .i64 0, .int .i64 0, .int .i64 0, .int .u32 0, .int .u32 0, .int .u32 0, .int .i64 0, .int .i64 0, .slice none 0 0]).cells.size = 9 from rfl, ← Nat.add_mul]
  congr 1
  omega
 have hrz : ∀ ty, (Builtin.append_ #[26, 3] ty #[.slice (some ⟨g, 0, none⟩) i c, .int .i64 ((n : Int) + 1 - (i : Int))]).run Tryz.prog w = .ok (.slice (some ⟨w.heap.size, 0, none⟩) (n + 1) G) (w.drew.alloc (.cells (P ++ Z).toArray 40)) := fun ty => by
  have h := Lib.run_append_grow_zeros w 26 3 ty 40 i0 _ .i64 .i64 Tryz.underlying26 Tryz.underlying3 hi0 hz0 (some ⟨g, 0, none⟩) i c P hold (n + 1 - i) (by omega) (by omega) (by omega) (by omega) (by rw [hz2]; omega) (by rw [hz2, hik]; exact growslice_fits (by omega) (by omega))
  rw [hik, hG, hZ] at h
  rw [hkk]
  exact h
 obtain ⟨N0, hN0⟩ : ∃ N0, w.heap.size = N0 := ⟨_, rfl⟩
 rw [hN0] at hrz
 obtain ⟨W1, hW1⟩ : ∃ V, w.drew.alloc (.cells (P ++ Z).toArray 40) = V := ⟨_, rfl⟩
 have b1 : Below w.heap.size w W1 := by rw [← hW1]; exact below_alloc1 _ _ |>.mono (Nat.le_refl _) |> fun q => (Below.refl _ w).drew.trans q
 have g1 : W1.heap[N0]? = some (.cells (P ++ Z).toArray 40 (0, 0)) := by rw [← hW1, ← hN0]; exact alloc_at _ _ _ rfl
 have gg1 := (b1.block g hgl).trans hg
 have gv1 := (b1.block vb hvl).trans hv
 rw [hW1] at hrz
 have lenP : (i + 1) * 9 = P.length + X.length := by omega
 have hfl := row_fill P Z X D (by omega)
 have hmin1 : Nat.min 1 (n + 1 - i) = 1 := by simp only [Nat.min_def]; split <;> omega
 have hmin2 : Nat.min (n - i) (n - i) = n - i := by simp only [Nat.min_def]; split <;> omega
 have r1 : ∀ ty dc, (Builtin.copy_ #[26, 26] ty #[.slice (some ⟨N0, i * 9, none⟩) (n + 1 - i) dc, .slice (some ⟨vb, 0, none⟩) 1 1]).run Tryz.prog W1 = .ok (goInt 1) (W1.setRow N0 ((P ++ Z).take P.length ++ X ++ (P ++ Z).drop (P.length + X.length)).toArray) := fun ty dc => by
  have h := run_cpz W1 26 26 ty 40 i0 9 Tryz.underlying26 hi0 hz1 N0 (i * 9) (n + 1 - i) dc ⟨vb, 0, none⟩ 1 1 1 _ X g1 hmin1 (by omega) (fun j u hj => by
   rw [Addr.add_lit]
   simp only [World.cell?, gv1]
   simpa using hj) (by simp only [List.size_toArray, List.length_append]; omega) o2
  rw [hP]
  exact h
 obtain ⟨W2, hW2⟩ : ∃ V, W1.setRow N0 ((P ++ Z).take P.length ++ X ++ (P ++ Z).drop (P.length + X.length)).toArray = V := ⟨_, rfl⟩
 rw [hW2] at r1
 have hgN : g ≠ N0 := by omega
 have g2 : W2.heap[N0]? = some (.cells ((P ++ Z).take P.length ++ X ++ (P ++ Z).drop (P.length + X.length)).toArray 40 (0, 0)) := by rw [← hW2]; exact setRow_heap W1 N0 _ _ _ _ g1
 have gg2 : W2.heap[g]? = some (.cells (P ++ D ++ R).toArray 40 (0, 0)) := by rw [← hW2]; exact (setRow_other W1 N0 g _ hgN).trans gg1
 have b2 : Below w.heap.size w W2 := by rw [← hW2]; exact b1.trans ((Kp.setRow (S := (· = N0)) W1 N0 _ rfl).below (fun j hj => by show w.heap.size ≤ j; omega) b1.size)
 have r2 : ∀ ty dc sc, (Builtin.copy_ #[26, 26] ty #[.slice (some ⟨N0, (i + 1) * 9, none⟩) (n - i) dc, .slice (some ⟨g, i * 9, none⟩) (n - i) sc]).run Tryz.prog W2.drew = .ok (goInt ((n - i : Nat) : Int)) (W2.drew.setRow N0 (P ++ X ++ D ++ Z.drop (X.length + D.length)).toArray) := fun ty dc sc => by
  have h := run_cpz W2.drew 26 26 ty 40 i0 9 Tryz.underlying26 hi0 hz1 N0 ((i + 1) * 9) (n - i) dc ⟨g, i * 9, none⟩ (n - i) sc (n - i) _ D g2 hmin2 (by omega) (fun j u hj => by
   rw [Addr.add_lit]
   have hlt := (List.getElem?_eq_some_iff.1 hj).1
   show W2.cell? _ = _
   simp only [World.cell?, gg2]
   rw [← hP]
   simp
   rw [List.getElem?_append_right (by omega), Nat.add_sub_cancel_left, List.getElem?_append_left hlt]
   exact hj) (by simp only [List.size_toArray, List.length_append, List.length_take, List.length_drop]; omega) o1
  rw [h]
  congr 3
  rw [lenP, ← hfl]
 have HG2 := Lib.hid g2
 have HB2 := Lib.hid b2
 have HN0 := Lib.hid hN0
 have hGi : ¬ (G = i) := by omega
 have hGi1 : ¬ (G = i + 1) := by omega
 have hG63 : G ≤ 9223372036854775807 := by unfold maxLen at hGm; omega
 have hdn : n + 1 - (i + 1) = n - i := by omega
 have mixed : Tryz.prog.follows Departure.mixedOrders = true := by kernel_rfl
 clear hold hG hZ hkk hW1 b1 g1 gg1 gv1 hfl hW2 g2 gg2 b2 hg hv hP2 hik hN0
 go_enter Tryz.func53, Tryz.ntmps53
 go_wp2_with (first
  | (at_builtin; refine Lib.wpList_append_run _ rfl _ _ _ _ rfl _ _ rfl rfl _ _ (hrz _) ?_)
  | (at_builtin; refine wpList_copy_runI _ rfl _ _ 26 26 rfl _ _ rfl rfl (r1 _ _) ?_))
 go_region_law_o (refine step_copy_runI rfl _ _ 26 26 rfl (.slice (some ⟨N0, (i + 1) * 9, none⟩) (n - i) (G - (i + 1))) (.slice (some ⟨g, i * 9, none⟩) (n - i) (c - i)) (by simp [Act.eval, Act.put]) (by simp [Act.eval, Act.put]) (r2 3 (G - (i + 1)) (c - i)) ?_)
 go_wp2
 go_ret
 have hg2 := HG2.out
 rw [← HN0.out] at hg2 ⊢
 have hD9 : (n - i) * 9 + i * 9 = n * 9 := by rw [← Nat.add_mul]; congr 1; omega
 have hG9 : (G - i) * 9 + i * 9 = G * 9 := by rw [← Nat.add_mul]; congr 1; omega
 refine ⟨G, rfl, ⟨_, setRow_heap W2.drew _ _ _ _ _ hg2, ?_, hGm, ?_, ?_⟩, HB2.out.drew.trans ((Kp.setRow (S := (· = w.heap.size)) W2.drew w.heap.size _ rfl).below (fun j hj => by show w.heap.size ≤ j; omega) HB2.out.size)⟩
 ·simp only [List.length_append]
  omega
 ·simp only [List.size_toArray, List.length_append, List.length_drop]
  omega
 ·show List.take _ (P ++ (X ++ (D ++ _))) = P ++ X ++ D
  rw [← List.append_assoc, ← List.append_assoc, List.take_left' rfl]
set_option maxRecDepth 100000 in
theorem ins_end (A : Option Addr) (c n vb : Nat) (X cs : List Value) (w : World) (S : Nat → Prop) (h : Ob 40 9 S w A c cs) (hcs : cs.length = n * 9) (hX : X.length = 9) (hn : n ≤ 100000)
  (hv : w.heap[vb]? = some (.cells X.toArray 40 (0, 0))) (o2 : ∀ u ∈ X, u.oneCell' = true) :
  Calls Tryz.prog 53 #[.slice A n c, .int .i64 n, .slice (some ⟨vb, 0, none⟩) 1 1] w fun e w' => ∃ g' c', e = .returned (.slice (some ⟨g', 0, none⟩) (n + 1) c') ∧ Rg 40 9 w' g' c' (cs ++ X) ∧ Kp S w w' ∧ (S g' ∨ g' = w.heap.size) := by
 obtain ⟨i0, hi0, hz0, hz1, hz2⟩ := info_of infoA
 have hr : Rd (· = vb) w (some ⟨vb, 0, none⟩) X := fun _ => ⟨vb, 0, rfl, rfl, lt_of_block hv, fun j u hj => by
  simp only [World.cell?, hv]
  simpa using hj⟩
 obtain ⟨g', c', W1, r1, r2, r3, r4⟩ := app_gen (P := Tryz.prog) Tryz.underlying26 hi0 hz0 hz1 hz2 rfl (by decide) (by decide) h hcs (some ⟨vb, 0, none⟩) 1 1 X hr (by omega) o2 (by omega) (by omega)
 have H2 := Lib.hid r2
 have H3 := Lib.hid r3
 have H4 := Lib.hid r4
 have hcap : (n : Int) ≤ (n : Int) := Int.le_refl _
 clear h hr r2 r3 r4 hv
 go_enter Tryz.func53, Tryz.ntmps53
 go_upto_region 2 with fail
 generalize (if c = n then A else Option.map (fun x => x.add (n * 9)) A) = A12
 go_wp2_with (at_builtin; refine wpList_runb _ rfl (.tmp 23) (.tmp 24) 26 rfl rfl rfl r1 ?_)
 go_ret
 exact ⟨g', c', rfl, H2.out, H3.out, H4.out⟩
theorem aflat_one (L : List Ae) : ∀ u ∈ aflat L, u.oneCell' = true := one_aflat L
theorem Aro.of_row {base : Nat} {w w' : World} {A : Option Addr} {c : Nat} {L : List Ae} (h : Aro base w A c L) (k : Kp (fun j => A = some ⟨j, 0, none⟩) w w') {g c' : Nat} {M : List Ae} (hr : Rg 40 9 w' g c' (aflat M)) (hg : base ≤ g) (hM : ∀ y ∈ M, Bu w y) : Aro base w' (some ⟨g, 0, none⟩) c' M :=
 ⟨.inr ⟨g, hg, rfl, hr⟩, fun y hy => (hM y hy).keep k.size fun b off e hl => k.block b ((hM y hy).2 b off e hl).1 ((hM y hy).apart h.row (by decide) b off e hl)⟩
theorem mem_insA {L : List Ae} {i : Nat} {x y : Ae} (h : y ∈ insA L i x) : y ∈ L ∨ y = x := by
 simp only [insA, List.mem_append, List.mem_cons] at h
 rcases h with q | q | q
 ·exact .inl (List.mem_of_mem_take q)
 ·exact .inr q
 ·exact .inl (List.mem_of_mem_drop q)
def IP (base : Nat) (A : Option Addr) (n : Nat) (M : List Ae) (w : World) (e : Ending) (w' : World) : Prop := ∃ A' c', e = .returned (.slice A' (n + 1) c') ∧ Aro base w' A' c' M ∧ Kp (fun j => A = some ⟨j, 0, none⟩) w w' ∧ Below base w w'
theorem insert_any {base : Nat} (A : Option Addr) (n c i vb : Nat) (L : List Ae) (x : Ae) (w : World) (h : Aro base w A c L) (hbase : base ≤ w.heap.size) (hn : L.length = n) (hi : i ≤ n) (hll : n ≤ 100000) (hx : Bu w x)
  (hv : w.heap[vb]? = some (.cells (acs x).toArray 40 (0, 0))) (hne : A ≠ some ⟨vb, 0, none⟩) :
  Calls Tryz.prog 53 #[.slice A n c, .int .i64 i, .slice (some ⟨vb, 0, none⟩) 1 1] w fun e w' => IP base A n (insA L i x) w e w' := by
 subst hn
 have hMem : ∀ y ∈ insA L i x, Bu w y := fun y hy => by
  rcases mem_insA hy with q | rfl
  ·exact h.bod y q
  ·exact hx
 by_cases he : i = L.length
 ·subst he
  refine (ins_end A c L.length vb (acs x) (aflat L) w (fun j => A = some ⟨j, 0, none⟩) h.row.self (by rw [aflat_length]) rfl hll hv (acs_one x)).mono ?_
  rintro e w' ⟨g', c', rfl, h1, h2, h3⟩
  have hM : insA L L.length x = L ++ [x] := by simp [insA]
  refine ⟨_, c', rfl, h.of_row h2 (by rw [hM, aflat_snoc]; exact h1) ?_ hMem, h2, h2.below (fun j hj => h.row.at hj) hbase⟩
  rcases h3 with q | q
  ·exact h.row.at q
  ·omega
 ·have hlt : i < L.length := by omega
  rcases h.row with ⟨_, _, q⟩ | ⟨g, hg, hA, cur, hc, h1, h2, h3, h4⟩
  ·have := congrArg List.length q
   rw [aflat_length] at this
   simp at this
   omega
  ·subst hA
   rw [aflat_length] at h1 h4
   obtain ⟨R, hR⟩ : ∃ R, cur.toList.drop (L.length * 9) = R := ⟨_, rfl⟩
   have hcur : cur = (aflat (L.take i) ++ aflat (L.drop i) ++ R).toArray := by
    apply Array.toList_inj.1
    rw [← aflat_split, ← hR]
    conv => lhs; rw [← List.take_append_drop (L.length * 9) cur.toList]
    rw [h4]
   have hRl : R.length = c * 9 - L.length * 9 := by rw [← hR, List.length_drop, Array.length_toList, h3]
   have hP : (aflat (L.take i)).length = i * 9 := by rw [aflat_length, List.length_take, Nat.min_eq_left (by omega)]
   have hD : (aflat (L.drop i)).length = (L.length - i) * 9 := by rw [aflat_length, List.length_drop]
   rw [hcur] at hc
   by_cases hr : L.length + 1 ≤ c
   ·refine (ins_shift g c L.length i vb (aflat (L.take i)) (aflat (L.drop i)) R (acs x) w hP hD rfl (by omega) hlt hr hll (by unfold maxLen at h2; omega) hc hv (fun e => hne (by rw [e])) (aflat_one _) (acs_one x)).mono ?_
    rintro e w' ⟨rfl, T, hTl, hT, hk⟩
    have hk' : Kp (fun j => (some ⟨g, 0, none⟩ : Option Addr) = some ⟨j, 0, none⟩) w w' := hk.mono fun j hj => by rw [hj]
    refine ⟨_, c, rfl, h.of_row hk' ⟨_, hT, ?_, h2, ?_, ?_⟩ hg hMem, hk', hk'.below (fun j hj => h.row.at hj) hbase⟩
    ·rw [aflat_length, insA_length hi]
     omega
    ·simp only [List.size_toArray, List.length_append]
     rw [aflat_length, aflat_length, acs_len, List.length_take, List.length_drop, Nat.min_eq_left (by omega)]
     have := Nat.add_mul (L.length - i) i 9
     rw [Nat.sub_add_cancel hi] at this
     omega
    ·show List.take _ (aflat (L.take i) ++ (acs x ++ (aflat (L.drop i) ++ T))) = _
     rw [insA_flat, ← List.append_assoc, ← List.append_assoc, List.take_left' rfl]
   ·refine (ins_grow g c L.length i vb (aflat (L.take i)) (aflat (L.drop i)) R (acs x) w hP hD rfl hlt (by omega) (by omega) hll hc hv (aflat_one _) (aflat_one _) (acs_one x)).mono ?_
    rintro e w' ⟨c', rfl, h5, h6⟩
    have hk' : Kp (fun j => (some ⟨g, 0, none⟩ : Option Addr) = some ⟨j, 0, none⟩) w w' := Kp.of_below h6 (Nat.le_refl _)
    exact ⟨_, c', rfl, h.of_row hk' (by rw [insA_flat]; exact h5) hbase hMem, hk', h6.mono hbase⟩
end Go.Proofs.YtadcicmccdphkaaGreat
