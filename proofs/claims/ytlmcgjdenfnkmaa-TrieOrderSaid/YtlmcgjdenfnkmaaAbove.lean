/-
  Contracts of the trie's Above and Find. No statement is proved here; no conditions.
-/
import Derived.Test.YtlmcgjdenfnkmaaDrop
namespace Go.Proofs.Ytlmcgjdenfnkmaa
open Go.RowKit Go.Joins

/-- A row of the entries L comes back. -/
def Got (w : World) (L : List En) (e : Ending) (w' : World) : Prop := ∃ A c, e = .returned (.slice A L.length c) ∧ Orw (w.heap.size ≤ ·) w' A c L ∧ Below w.heap.size w w'
theorem Got.nil {w w' : World} (hb : Below w.heap.size w w') : Got w [] (.returned (.slice none 0 0)) w' := ⟨none, 0, rfl, .inl ⟨rfl, rfl, rfl⟩, hb⟩
theorem above_nil (A : Nat) (N : Int) (w : World) : Calls Try.prog 22 #[.pointer none, pf A N] w fun e w' => Got w [] e w' := by
  have cp := fun W => path_nil A N W
  go_enter Try.func22, Try.ntmps22
  go_wp2_with fail
  refine (cp _).mono ?_
  rintro e W1 ⟨rfl, hb1⟩
  have b1 := (below_alloc1 w (.cells #[.int .u32 (A : Int), .int .i64 N] 25)).trans (hb1.mono (by simp))
  go_wp2_with fail
  go_loopg [5, 12] 0 (fun gf v5 v12 wx => v5 = .slice none 0 0 ∧ v12 = .int .i64 0 ∧ wx = W1)
  case atStart => exact ⟨rfl, rfl, rfl⟩
  case round =>
    obtain ⟨rfl, rfl, rfl⟩ := hrel
    go_wp2
    go_ret
    exact Got.nil b1
theorem above_bad (tb A : Nat) (N : Int) (w : World) (hA : A < 4294967296) (hp : okp A N = false) : Calls Try.prog 22 #[.pointer (some ⟨tb, 0, none⟩), pf A N] w fun e w' => Got w [] e w' := by
  have cp := fun W => path_bad tb A N W hA hp
  go_enter Try.func22, Try.ntmps22
  go_wp2_with fail
  refine (cp _).mono ?_
  rintro e W1 ⟨rfl, hb1⟩
  have b1 := (below_alloc1 w (.cells #[.int .u32 (A : Int), .int .i64 N] 25)).trans (hb1.mono (by simp))
  go_wp2_with fail
  go_loopg [5, 12] 0 (fun gf v5 v12 wx => v5 = .slice none 0 0 ∧ v12 = .int .i64 0 ∧ wx = W1)
  case atStart => exact ⟨rfl, rfl, rfl⟩
  case round =>
    obtain ⟨rfl, rfl, rfl⟩ := hrel
    go_wp2
    go_ret
    exact Got.nil b1
set_option maxRecDepth 100000 in
theorem above_ok (tb : Nat) (nd en : Nat → Option Nat) (m : List En) (c : Int) (A n : Nat) (w : World) (h : Tn w tb nd en m c) (hA : A < 4294967296) (hn : n ≤ 32) (hp : okp A (n : Int) = true) :
    Calls Try.prog 22 #[.pointer (some ⟨tb, 0, none⟩), pf A (n : Int)] w fun e w' => Got w (abv m A (n : Int)) e w' := by
  have B0 := below_alloc1 w (.cells #[.int .u32 (A : Int), .int .i64 (n : Int)] 25)
  obtain ⟨W0, hW0⟩ : ∃ W0, w.alloc (.cells #[.int .u32 (A : Int), .int .i64 (n : Int)] 25) = W0 := ⟨_, rfl⟩
  rw [hW0] at B0
  have c01 := blk2 (w := W0) (b := w.heap.size) (u := .int .u32 (A : Int)) (v := .int .i64 (n : Int)) (t := 25) (by rw [← hW0]; exact Go.heap_alloc_new w _)
  obtain ⟨c0, c1, _, _⟩ := c01
  have cp := path_any tb nd en m c A n W0 (h.below B0) hA hn hp
  go_enter Try.func22, Try.ntmps22
  go_wp2_with fail
  refine cp.mono ?_
  rintro e W1 ⟨g, c2, G, rfl, hr, hgw, hb1, hP⟩
  have b1 : Below w.heap.size w W1 := B0.trans (hb1.mono B0.size)
  have hab : pab m A G.length = abv m A (n : Int) := by
    rw [← pab_abv h.om hA hp, cl_nat n hn]
    refine (pab_stop hP.2.1 fun i hi hi2 => ?_).symm
    rcases hP.2.2.2 with e1 | e1
    · omega
    · exact h.noentry (h.nonode (h.dead e1 i hi (by omega)))
  have HAB := Lib.hid hab
  have HB1 := Lib.hid b1
  have HR := Lib.hid hr
  have HT := Lib.hid (h.below b1)
  have HP := Lib.hid hP
  have hGl : G.length ≤ 33 := by have := hP.2.1; omega
  obtain ⟨ln, hln⟩ : ∃ ln, G.length = ln := ⟨_, rfl⟩
  have HLN := Lib.hid hln
  rw [hln] at hGl ⊢
  clear hab b1 hr h hP hb1 cp c0 c1 hln B0
  go_wp2_with fail
  go_loopg [5, 12] ln (fun gf v5 v12 wx => ∃ (k : Nat) (A' : Option Addr) (c' : Nat) (L : List En), v5 = .slice A' L.length c' ∧ v12 = .int .i64 (k : Int) ∧ Hid (gf + k = ln) ∧ Hid (L = pab m A k) ∧ Hid (Orw (W1.heap.size ≤ ·) wx A' c' L) ∧ Hid (Below W1.heap.size W1 wx))
  case atStart => exact ⟨0, none, 0, [], rfl, rfl, Lib.hid (by omega), Lib.hid rfl, Lib.hid (.inl ⟨rfl, rfl, rfl⟩), Lib.hid (Below.refl _ _)⟩
  case round =>
    obtain ⟨k, A', c', L, rfl, rfl, hk, hL, ho, hb⟩ := hrel
    have hk' := hk.out
    cases gk with
    | zero =>
      have e1 : k = ln := by omega
      have lt0 : decide ((k : Int) < (ln : Int)) = false := by simp; omega
      have lt1 : decide (k < ln) = false := by simp; omega
      go_wp2
      go_ret
      have e2 : L = abv m A (n : Int) := by rw [hL.out, e1, ← HLN.out]; exact HAB.out
      subst e2
      exact ⟨A', c', rfl, ho.out.more (fun j hj _ => Nat.le_trans HB1.out.size hj), HB1.out.trans (hb.out.mono HB1.out.size)⟩
    | succ gf =>
      have hkl : k < ln := by omega
      have lt0 : (k : Int) < (ln : Int) := by omega
      obtain ⟨q, hq⟩ : ∃ q, G[k]? = some q := ⟨G[k]'(by rw [HLN.out]; omega), List.getElem?_eq_getElem (by rw [HLN.out]; omega)⟩
      have cq : wr.cell? ⟨g, k, none⟩ = some (.pointer (some ⟨q, 0, none⟩)) := (HR.out.below' hb.out).cell (by rw [List.getElem?_map, hq]; rfl)
      have hqn : nd (ky A k) = some q := (HP.out.2.2.1 k (by rw [HLN.out]; omega)).trans hq
      have tn := HT.out.below hb.out
      obtain ⟨_, _, ce, _⟩ := tn.cells hqn
      have hps := pab_succ m A k
      have hLl : L.length ≤ k := by rw [hL.out]; exact pab_len _ _ _
      cases he : en (ky A k) with
      | none =>
        rw [he] at ce
        simp only [po, Option.map_none] at ce
        rw [tn.noentry he] at hps
        have HN : Hid (L = pab m A (k + 1)) := Lib.hid (by rw [hps, hL.out]; simp)
        clear hps tn he hqn hq hLl
        go_wp2
        go_roundg gf
        case measure => omega
        case rel => exact ⟨k + 1, A', c', L, rfl, by go_num, Lib.hid (by omega), HN, ho, hb⟩
      | some f =>
        rw [he] at ce
        simp only [po, Option.map_some] at ce
        obtain ⟨x, _, _, hx, hbk⟩ := tn.entry he
        obtain ⟨x0, x1, x2⟩ := ebo_cell hbk
        rw [hx] at hps
        obtain ⟨sz, hsz⟩ : ∃ sz, wr.heap.size = sz := ⟨_, rfl⟩
        obtain ⟨ll, hll⟩ : ∃ ll, L.length = ll := ⟨_, rfl⟩
        obtain ⟨g2, c3, W3, r1, r2, r3, r4⟩ := en_app ho.out hll (by omega) x wr.heap.size rfl
        have hws := hb.out.size
        have HN : Hid (L ++ [x] = pab m A (k + 1)) := Lib.hid (by rw [hps, hL.out]; rfl)
        have HO : Hid (Orw (W1.heap.size ≤ ·) W3 (some ⟨g2, 0, none⟩) c3 (L ++ [x])) := Lib.hid (.inr ⟨g2, by rcases r3 with q | q; exact q; show W1.heap.size ≤ g2; omega, rfl, r2⟩)
        have HB3 : Hid (Below W1.heap.size W1 W3) := Lib.hid (hb.out.trans (r4.below (fun _ h => h) hws))
        have HLL := Lib.hid hll
        rw [hll]
        clear hps tn he hqn hq hLl hll r2 r3 r4 hbk hx hsz
        go_wp2_with (at_builtin; refine wpList_runb _ rfl (.tmp 21) (.tmp 28) 28 rfl rfl rfl r1 ?_)
        go_wp2
        go_roundg gf
        case measure => omega
        case rel => exact ⟨k + 1, _, c3, L ++ [x], by rw [List.length_append, HLL.out]; rfl, by go_num, Lib.hid (by omega), HN, HO, HB3⟩
theorem above_any (S : Nat → Prop) (tb A : Nat) (N : Int) (m : List En) (w : World) (h : Tz S w tb m) (hA : A < 4294967296) :
    Calls Try.prog 22 #[.pointer (some ⟨tb, 0, none⟩), pf A N] w fun e w' => Got w (abv m A N) e w' := by
  obtain ⟨nd, en, h, _⟩ := h
  cases hp : okp A N with
  | false =>
    rw [abv_bad m hp]
    exact above_bad tb A N w hA hp
  | true =>
    obtain ⟨h0, h1, _⟩ := (okp_iff _ _).1 hp
    obtain ⟨n, rfl⟩ : ∃ n : Nat, N = n := ⟨N.toNat, by omega⟩
    exact above_ok tb nd en m _ A n w h hA (by omega) hp

theorem abv_len {m : List En} (h : Om m) {A : Nat} {N : Int} (hA : A < 4294967296) : (abv m A N).length ≤ 33 := by
  cases hp : okp A N with
  | false => rw [abv_bad m hp]; simp
  | true =>
    rw [← pab_abv h hA hp]
    have h1 := pab_len m A (cl N + 1)
    have h2 := cl_le N
    omega
/-- What Find tells. -/
def fdv (o : Option En) : Value := match o with
  | none => .tuple #[.agg #[.int .u32 0, .int .i64 0, .int .i64 0], .bool false]
  | some x => .tuple #[ev x, .bool true]
theorem blk3 {w : World} {b : Nat} {u v z : Value} {t : TypeId} (h : w.heap[b]? = some (.cells #[u, v, z] t (0, 0))) : w.cell? ⟨b, 0, none⟩ = some u ∧ w.cell? ⟨b, 1, none⟩ = some v ∧ w.cell? ⟨b, 2, none⟩ = some z ∧ w.frozen? ⟨b, 0, none⟩ = false ∧ w.frozen? ⟨b, 1, none⟩ = false ∧ w.frozen? ⟨b, 2, none⟩ = false :=
  ⟨(cell_of_row w b 0 _ _ _ h).trans rfl, (cell_of_row w b 1 _ _ _ h).trans rfl, (cell_of_row w b 2 _ _ _ h).trans rfl, by simp [World.frozen?, h], by simp [World.frozen?, h], by simp [World.frozen?, h]⟩
theorem blk3_set {w : World} {b : Nat} {u v z : Value} {t : TypeId} (u' v' z' : Value) (h : w.heap[b]? = some (.cells #[u, v, z] t (0, 0))) : (((w.setCell ⟨b, 0, none⟩ u').setCell ⟨b, 1, none⟩ v').setCell ⟨b, 2, none⟩ z').heap[b]? = some (.cells #[u', v', z'] t (0, 0)) := by
  have h1 := heap_setCell_same w b 0 _ t u' h
  have h2 := heap_setCell_same _ b 1 _ t v' h1
  have h3 := heap_setCell_same _ b 2 _ t z' h2
  rw [h3]
  simp
theorem find_nil (a : Nat) (w : World) : Calls Try.prog 14 #[.pointer none, .int .u32 (a : Int)] w fun e w' => e = .returned (fdv none) ∧ Below w.heap.size w w' := by
  have ca := fun W => above_nil a 32 W
  have B0 := below_alloc1 w (.cells #[.int .u32 0, .int .i64 0, .int .i64 0] 39)
  have P0 := Go.heap_alloc_new w (.cells #[.int .u32 0, .int .i64 0, .int .i64 0] 39)
  obtain ⟨W0, hW0⟩ : ∃ W0, w.alloc (.cells #[.int .u32 0, .int .i64 0, .int .i64 0] 39) = W0 := ⟨_, rfl⟩
  rw [hW0] at B0 P0
  go_enter Try.func14, Try.ntmps14
  go_wp2_with fail
  refine (ca _).mono ?_
  rintro e W1 ⟨A, c, rfl, ho, hb1⟩
  have p1 := (hb1.block _ (lt_of_block P0)).trans P0
  obtain ⟨d0, d1, d2, f0, f1, f2⟩ := blk3 p1
  have fin := blk3_set (.int .u32 0) (.int .i64 0) (.int .i64 0) p1
  obtain ⟨r0, r1, r2, _⟩ := blk3 fin
  have bb := B0.trans (hb1.mono B0.size)
  clear p1 fin
  go_wp2
  refine bodyPost_ret (v := fdv none) (by simp [results, Try.results14, go_sem, r0, r1, r2, fdv]) rfl ⟨rfl, ?_⟩
  exact Below.setCell (Below.setCell (Below.setCell bb (by simp) _) (by simp) _) (by simp) _
set_option maxRecDepth 100000 in
theorem find_any (S : Nat → Prop) (tb a : Nat) (m : List En) (w : World) (h : Tz S w tb m) (ha : a < 4294967296) :
    Calls Try.prog 14 #[.pointer (some ⟨tb, 0, none⟩), .int .u32 (a : Int)] w fun e w' => e = .returned (fdv (abv m a 32).getLast?) ∧ Below w.heap.size w w' := by
  have B0 := below_alloc1 w (.cells #[.int .u32 0, .int .i64 0, .int .i64 0] 39)
  have P0 := Go.heap_alloc_new w (.cells #[.int .u32 0, .int .i64 0, .int .i64 0] 39)
  obtain ⟨W0, hW0⟩ : ∃ W0, w.alloc (.cells #[.int .u32 0, .int .i64 0, .int .i64 0] 39) = W0 := ⟨_, rfl⟩
  rw [hW0] at B0 P0
  have ca := above_any S tb a 32 m W0 (h.below B0) ha
  obtain ⟨L, hL⟩ : ∃ L, abv m a 32 = L := ⟨_, rfl⟩
  have hL33 := abv_len h.om (N := 32) ha
  rw [hL] at ca hL33 ⊢
  clear hL h
  go_enter Try.func14, Try.ntmps14
  go_wp2_with fail
  refine ca.mono ?_
  rintro e W1 ⟨A, c, rfl, ho, hb1⟩
  have p1 := (hb1.block _ (lt_of_block P0)).trans P0
  obtain ⟨d0, d1, d2, f0, f1, f2⟩ := blk3 p1
  have bb := B0.trans (hb1.mono B0.size)
  obtain ⟨o, ho2⟩ : ∃ o, L.getLast? = o := ⟨_, rfl⟩
  cases o with
  | none =>
    have e0 : L = [] := List.getLast?_eq_none_iff.1 ho2
    subst e0
    have fin := blk3_set (.int .u32 0) (.int .i64 0) (.int .i64 0) p1
    obtain ⟨r0, r1, r2, _⟩ := blk3 fin
    clear p1 fin ho
    go_wp2
    refine bodyPost_ret (v := fdv none) (by simp [results, Try.results14, go_sem, r0, r1, r2, fdv]) rfl ⟨rfl, ?_⟩
    exact Below.setCell (Below.setCell (Below.setCell bb (by simp) _) (by simp) _) (by simp) _
  | some x =>
    obtain ⟨l, hl⟩ := List.getLast?_eq_some_iff.1 ho2
    have hlen : L.length = l.length + 1 := by rw [hl]; simp
    obtain ⟨b, off, hA, _, _, e0, e1, e2⟩ := ho.rd.entry (i := l.length) (by omega)
    have hge : ge L l.length = x := by rw [ge_eq (by omega)]; simp [hl]
    rw [hge] at e0 e1 e2
    subst hA
    have fin := blk3_set (.int .u32 (x.A : Int)) (.int .i64 x.N) (.int .i64 x.V) p1
    obtain ⟨r0, r1, r2, _⟩ := blk3 fin
    obtain ⟨k, hk⟩ : ∃ k, l.length = k := ⟨_, rfl⟩
    rw [hk] at e0 e1 e2 hlen
    rw [hlen]
    have HO := Lib.hid ho2
    have hll : k + 1 ≤ 33 := by omega
    clear p1 fin ho hl hge hlen hk ho2
    go_wp2
    refine bodyPost_ret (v := fdv (some x)) (by simp [results, Try.results14, go_sem, r0, r1, r2, fdv]) rfl ⟨by rw [HO.out], ?_⟩
    exact Below.setCell (Below.setCell (Below.setCell bb (by simp) _) (by simp) _) (by simp) _
end Go.Proofs.Ytlmcgjdenfnkmaa
