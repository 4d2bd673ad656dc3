/-
  Contracts of the reference's Set. No statement is proved here; no conditions.
-/
import Derived.Test.YtlmcgjdenfnkmaaRef2
namespace Go.Proofs.Ytlmcgjdenfnkmaa
open Go.RowKit Go.Joins

theorem rset_bad (S : Nat → Prop) (A0 : Option Addr) (c : Nat) (l : List En) (A : Nat) (N V : Int) (w : World) (_hl : Rd S w A0 (eflat l)) (hA : A < 4294967296) (hp : okp A N = false) :
    Calls Try.prog 13 #[.slice A0 l.length c, pf A N, .int .i64 V] w fun e w' => e = .returned (.tuple #[.slice A0 l.length c, .int .i64 1]) ∧ Below w.heap.size w w' := by
  have cm := fun W => rmay_any A N W hA
  rw [hp] at cm
  go_enter Try.func13, Try.ntmps13
  go_wp2_with fail
  refine (cm _).mono ?_
  rintro e W1 ⟨rfl, hb1⟩
  go_wp2
  go_ret2
  exact ⟨rfl, (below_alloc1 _ _).trans (hb1.mono (by simp))⟩
/-- What the reference's Set leaves. -/
def RSet (w : World) (m : List En) (e : Ending) (w' : World) : Prop := ∃ A' c', e = .returned (.tuple #[.slice A' m.length c', .int .i64 0]) ∧ Orw (w.heap.size ≤ ·) w' A' c' m ∧ Below w.heap.size w w'
theorem drop_ge {R : List En} {k : Nat} (hk : k < R.length) : R.drop k = ge R k :: R.drop (k + 1) := by rw [ge_eq hk]; exact List.drop_eq_getElem_cons hk
set_option maxRecDepth 100000 in
set_option maxHeartbeats 2000000 in
theorem rset_any (S : Nat → Prop) (A0 : Option Addr) (c : Nat) (l : List En) (A : Nat) (N V : Int) (w : World) (hl : Rd S w A0 (eflat l)) (hll : l.length < 5000) (hA : A < 4294967296) (hp : okp A N = true) :
    Calls Try.prog 13 #[.slice A0 l.length c, pf A N, .int .i64 V] w fun e w' => RSet w (setm l ⟨A, N, V⟩) e w' := by
  have cm := fun W => rmay_any A N W hA
  rw [hp] at cm
  have B0 := below_alloc1 w (.cells #[.int .u32 (A : Int), .int .i64 N] 25)
  have P0 := Go.heap_alloc_new w (.cells #[.int .u32 (A : Int), .int .i64 N] 25)
  obtain ⟨W0, hW0⟩ : ∃ W0, w.alloc (.cells #[.int .u32 (A : Int), .int .i64 N] 25) = W0 := ⟨_, rfl⟩
  have hs0 : W0.heap.size = w.heap.size + 1 := by rw [← hW0]; simp
  rw [hW0] at P0 B0
  obtain ⟨c0, c1, _, _⟩ := blk2 P0
  go_enter Try.func13, Try.ntmps13
  go_wp2_with fail
  refine (cm _).mono ?_
  rintro e W1 ⟨rfl, hb1⟩
  have b1 : Below w.heap.size w W1 := B0.trans (hb1.mono (by omega))
  have p1 := (hb1.block _ (lt_of_block P0)).trans P0
  clear c0 c1 cm hW0
  obtain ⟨c0, c1, _, _⟩ := blk2 p1
  have cd := rdrop_any S A0 c l A N W1 (hl.keep b1.size (fun j _ hj => b1.block j hj)) (by omega)
  go_wp2_with fail
  refine cd.mono ?_
  rintro e W2 ⟨A1, c1', rfl, ho2, hb2⟩
  have b2 : Below w.heap.size w W2 := b1.trans (hb2.mono b1.size)
  have p2 := (hb2.block _ (lt_of_block p1)).trans p1
  clear c0 c1 cd
  obtain ⟨c0, c1, _, _⟩ := blk2 p2
  obtain ⟨xb, hxb⟩ : ∃ xb, W2.heap.size = xb := ⟨_, rfl⟩
  obtain ⟨W3, hW3⟩ : ∃ W3, W2.alloc (.cells #[.int .u32 0, .int .i64 0, .int .i64 0] 39) = W3 := ⟨_, rfl⟩
  have b3 : Below W2.heap.size W2 W3 := by rw [← hW3]; exact below_alloc1 _ _
  have z3 : W3.heap[xb]? = some (.cells #[.int .u32 0, .int .i64 0, .int .i64 0] 39 (0, 0)) := by rw [← hW3, ← hxb]; exact Go.heap_alloc_new _ _
  obtain ⟨y0, y1, y2, f0, f1, f2⟩ := blk3 z3
  have x4 := blk3_set (.int .u32 (A : Int)) (.int .i64 N) (.int .i64 V) z3
  obtain ⟨W4, hW4⟩ : ∃ W4, ((W3.setCell ⟨xb, 0, none⟩ (.int .u32 (A : Int))).setCell ⟨xb, 1, none⟩ (.int .i64 N)).setCell ⟨xb, 2, none⟩ (.int .i64 V) = W4 := ⟨_, rfl⟩
  have k4 : Kp (· = xb) W3 W4 := by rw [← hW4]; exact ((Kp.setCell (S := (· = xb)) W3 ⟨xb, 0, none⟩ _ rfl).then_set ⟨xb, 1, none⟩ _ rfl).then_set ⟨xb, 2, none⟩ _ rfl
  rw [hW4] at x4
  have b24 : Below W2.heap.size W2 W4 := b3.trans (k4.below (fun j hj => by omega) b3.size)
  have b4 : Below w.heap.size w W4 := b2.trans (b24.mono b2.size)
  have p4 := (b24.block _ (lt_of_block p2)).trans p2
  have HR := Lib.hid (ho2.below b24).rd
  have HX4 := Lib.hid (show W4.heap[xb]? = some (ebo ⟨A, N, V⟩) from x4)
  have HP4 := Lib.hid p4
  have HB4 := Lib.hid b4
  have s4 : xb < W4.heap.size := lt_of_block x4
  have sw4 : w.heap.size < W4.heap.size := lt_of_block p4
  obtain ⟨W5, hW5⟩ : ∃ W5, W4.alloc (.cells #[] 39) = W5 := ⟨_, rfl⟩
  have O5 : Hid (Orw (W4.heap.size ≤ ·) W5 (some ⟨W4.heap.size, 0, none⟩) 0 []) := Lib.hid (.inr ⟨W4.heap.size, Nat.le_refl _, rfl, by rw [← hW5]; exact Rg.lit W4 39 3 0 #[] [] rfl rfl (by unfold maxLen; omega)⟩)
  have B5 : Hid (Below W4.heap.size W4 W5) := Lib.hid (by rw [← hW5]; exact below_alloc1 _ _)
  obtain ⟨R, hR⟩ : ∃ R, dropm l A N = R := ⟨_, rfl⟩
  have hRl : R.length ≤ l.length := by rw [← hR]; exact dropm_len _ _ _
  have HF : Hid (setm l ⟨A, N, V⟩ = insm ⟨A, N, V⟩ R) := Lib.hid (by rw [← hR]; rfl)
  rw [hR] at HR ⊢
  obtain ⟨rn, hrn⟩ : ∃ rn, R.length = rn := ⟨_, rfl⟩
  have HRN := Lib.hid hrn
  rw [hrn] at hRl ⊢
  obtain ⟨ln, hln⟩ : ∃ ln, l.length = ln := ⟨_, rfl⟩
  have HLN := Lib.hid hln
  rw [hln] at hRl hll ⊢
  have hl5 : decide ((ln : Int) ≥ 5000) = false := by simp; omega
  have hl6 : decide (ln ≥ 5000) = false := by simp; omega
  obtain ⟨x, hx⟩ : ∃ x : En, x = ⟨A, N, V⟩ := ⟨_, rfl⟩
  obtain ⟨wz, hwz⟩ : ∃ wz, decide (rn < ln) = wz := ⟨_, rfl⟩
  rw [hwz]
  have HXE := Lib.hid hx
  rw [← hx] at HF HX4
  clear hR hrn hln b1 b2 p1 p2 P0 B0 hb1 hb2 ho2 b3 z3 x4 k4 b24 b4 p4 hs0 hl hx hwz hp
  cases wz with
  | true =>
    go_upto_region 6 with fail
    go_wp2_with fail
    go_loopg [11, 12, 13] rn (fun gf v11 v12 v13 wx => ∃ (k : Nat) (put : Bool) (A' : Option Addr) (c' : Nat) (L : List En), v11 = .slice A' L.length c' ∧ v12 = .bool put ∧ v13 = .int .i64 (k : Int) ∧ Hid (gf + k = rn) ∧ Hid (L.length ≤ k + if put then 1 else 0) ∧ Hid (insm x R = L ++ if put then R.drop k else insm x (R.drop k)) ∧ Hid (Orw (W4.heap.size ≤ ·) wx A' c' L) ∧ Hid (Below W4.heap.size W4 wx))
    case atStart => exact ⟨0, false, _, _, [], rfl, rfl, rfl, Lib.hid (by omega), Lib.hid (by simp), Lib.hid (by simp), O5, B5⟩
    case round =>
      obtain ⟨k, put, A', c', L, rfl, rfl, rfl, hk, hLn, hL, ho, hb⟩ := hrel
      have hk' := hk.out
      have hLl : L.length ≤ k + 1 := by have := hLn.out; cases put <;> simp at this <;> omega
      clear B5 O5
      cases gk with
      | zero =>
        have e1 : k = rn := by omega
        have lt0 : decide ((k : Int) < (rn : Int)) = false := by simp; omega
        have lt1 : decide (k < rn) = false := by simp; omega
        have e2 := hL.out
        rw [List.drop_of_length_le (by rw [HRN.out]; omega)] at e2
        cases put with
        | true =>
          have HE : Hid (setm l ⟨A, N, V⟩ = L) := Lib.hid (by rw [← HXE.out, HF.out, e2]; simp)
          clear e2 e1
          go_wp2
          go_ret2
          rw [HE.out]
          exact ⟨A', c', rfl, ho.out.more (fun j hj _ => by show w.heap.size ≤ j; omega), HB4.out.trans (hb.out.mono (by omega))⟩
        | false =>
          have HE : Hid (setm l ⟨A, N, V⟩ = L ++ [x]) := Lib.hid (by rw [← HXE.out, HF.out, e2]; simp [insm])
          obtain ⟨x0, x1, x2⟩ := ebo_cell ((hb.out.block _ s4).trans HX4.out)
          obtain ⟨ll, hll2⟩ : ∃ ll, L.length = ll := ⟨_, rfl⟩
          obtain ⟨g2, c3, W6, r1, r2, r3, r4⟩ := en_app ho.out hll2 (by omega) x wr.heap.size rfl
          have hws := hb.out.size
          have FIN : Hid (RSet w (L ++ [x]) (.returned (.tuple #[.slice (some ⟨g2, 0, none⟩) (ll + 1) c3, .int .i64 0])) W6) := Lib.hid ⟨some ⟨g2, 0, none⟩, c3, by rw [List.length_append, hll2]; rfl, .inr ⟨g2, by rcases r3 with q | q; (have : W4.heap.size ≤ g2 := q; show w.heap.size ≤ g2; omega); show w.heap.size ≤ g2; omega, rfl, r2⟩, HB4.out.trans ((hb.out.mono (by omega)).trans (r4.below (fun j hj => by have : W4.heap.size ≤ j := hj; omega) (by omega)))⟩
          rw [hll2]
          clear hll2 r2 r3 r4 e2 e1 hLl hLn
          go_wp2_with (at_builtin; refine wpList_runb _ rfl (.tmp 66) (.tmp 68) 28 rfl rfl rfl r1 ?_)
          go_wp2
          go_ret2
          rw [HE.out]
          exact FIN.out
      | succ gf =>
        have hkl : k < R.length := by rw [HRN.out]; omega
        have lt0 : (k : Int) < (rn : Int) := by omega
        obtain ⟨b, off, hA1, _, _, e0, e1, e2⟩ := (HR.out.keep hb.out.size (fun j _ hj => hb.out.block j hj)).entry hkl
        have hst := hL.out
        rw [drop_ge hkl] at hst
        obtain ⟨y, hy⟩ : ∃ y, ge R k = y := ⟨_, rfl⟩
        rw [hy] at e0 e1 e2 hst
        subst hA1
        obtain ⟨p0, p1, _, _⟩ := blk2 ((hb.out.block _ sw4).trans HP4.out)
        obtain ⟨x0, x1', x2⟩ := ebo_cell ((hb.out.block _ s4).trans HX4.out)
        have hw1 : (k : Int) + 1 ≤ 10000 := by omega
        have cc := fun W => rless_any A y.A N y.N W
        have HY := Lib.hid hy
        clear hkl hy
        cases put with
        | true =>
          have HN : Hid (insm x R = (L ++ [y]) ++ if true then R.drop (k + 1) else insm x (R.drop (k + 1))) := Lib.hid (by rw [hst]; simp)
          clear hst x0 x1' x2
          have g0 := cell_regrown p0
          have g1 := cell_regrown p1
          have g2 := cell_regrown e0
          have g3 := cell_regrown e1
          go_wp2_with fail
          refine wp_region_quiet_below (by kernel_rfl) (by kernel_rfl) ?_
          iterate 11 (go_big_quiet_step (fail))
          refine wpQuiet_nil ?_
          intro wq hw'
          obtain ⟨⟨dq, osq⟩, hw''⟩ := hw'
          have hbW := below_regrown wr dq osq
          rw [← hw''] at hbW
          clear hw'' g0 g1 g2 g3
          have ho' := ho.out.below hbW
          have hb' := hb.out.trans (hbW.mono hb.out.size)
          have e0' := (hbW.cell (p := ⟨b, off + k * 3, none⟩) (World.block_lt_of_cell? _ _ e0)).trans e0
          have e1' := (hbW.cell (p := ⟨b, off + k * 3 + 1, none⟩) (World.block_lt_of_cell? _ _ e1)).trans e1
          have e2' := (hbW.cell (p := ⟨b, off + k * 3 + 2, none⟩) (World.block_lt_of_cell? _ _ e2)).trans e2
          clear ho hb e0 e1 e2 p0 p1 hbW cc
          obtain ⟨ll, hll2⟩ : ∃ ll, L.length = ll := ⟨_, rfl⟩
          obtain ⟨g2, c3, W6, r1, r2, r3, r4⟩ := en_app ho' hll2 (by omega) y wq.heap.size rfl
          have hws := hb'.size
          have HO : Hid (Orw (W4.heap.size ≤ ·) W6 (some ⟨g2, 0, none⟩) c3 (L ++ [y])) := Lib.hid (.inr ⟨g2, by rcases r3 with q | q; exact q; show W4.heap.size ≤ g2; omega, rfl, r2⟩)
          have HB3 : Hid (Below W4.heap.size W4 W6) := Lib.hid (hb'.trans (r4.below (fun _ h => h) hws))
          have HLL := Lib.hid hll2
          have HLN2 : Hid ((L ++ [y]).length ≤ k + 1 + if true then 1 else 0) := Lib.hid (by have := hLn.out; simp at this ⊢; omega)
          rw [hll2]
          clear hLl hll2 r2 r3 r4 ho' hb' hLn
          go_wp2_with (at_builtin; refine wpList_runb _ rfl (.tmp 57) (.tmp 62) 28 rfl rfl rfl r1 ?_)
          go_wp2
          go_roundg gf
          case measure => omega
          case rel => exact ⟨k + 1, true, _, c3, L ++ [y], by rw [List.length_append, HLL.out]; rfl, rfl, by go_num, Lib.hid (by omega), HLN2, HN, HO, HB3⟩
        | false =>
          have hle : lessp x.A x.N y.A y.N = lessp A N y.A y.N := by rw [HXE.out]
          have hin : insm x (y :: R.drop (k + 1)) = if lessp A N y.A y.N then x :: y :: R.drop (k + 1) else y :: insm x (R.drop (k + 1)) := by rw [insm, hle]
          simp only [Bool.false_eq_true, if_false] at hst
          rw [hin] at hst
          clear hle hin
          have x1 : ∀ d os, _ := fun d os => Calls.regrown_of (w := wr) (d := d) (os := os) (cc _)
          cases hc : lessp A N y.A y.N with
          | false =>
            rw [hc] at hst
            have HN : Hid (insm x R = (L ++ [y]) ++ if false then R.drop (k + 1) else insm x (R.drop (k + 1))) := Lib.hid (by rw [hst]; simp)
            simp only [hc] at x1
            clear hst x0 x1' x2 hc
            have g0 := cell_regrown p0
            have g1 := cell_regrown p1
            have g2 := cell_regrown e0
            have g3 := cell_regrown e1
            go_wp2_with fail
            refine wp_region_quiet_below (by kernel_rfl) (by kernel_rfl) ?_
            iterate 9 (go_big_quiet_step (fail))
            go_big_quiet_step (with_reducible exact x1 _ _)
            go_big_quiet_step (fail)
            clear x1
            refine wpQuiet_nil ?_
            intro wq hw'
            obtain ⟨⟨dq, osq⟩, hw''⟩ := hw'
            have hbW := below_regrown wr dq osq
            rw [← hw''] at hbW
            clear hw'' g0 g1 g2 g3
            have ho' := ho.out.below hbW
            have hb' := hb.out.trans (hbW.mono hb.out.size)
            have e0' := (hbW.cell (p := ⟨b, off + k * 3, none⟩) (World.block_lt_of_cell? _ _ e0)).trans e0
            have e1' := (hbW.cell (p := ⟨b, off + k * 3 + 1, none⟩) (World.block_lt_of_cell? _ _ e1)).trans e1
            have e2' := (hbW.cell (p := ⟨b, off + k * 3 + 2, none⟩) (World.block_lt_of_cell? _ _ e2)).trans e2
            clear ho hb e0 e1 e2 p0 p1 hbW cc
            obtain ⟨ll, hll2⟩ : ∃ ll, L.length = ll := ⟨_, rfl⟩
            obtain ⟨g2, c3, W6, r1, r2, r3, r4⟩ := en_app ho' hll2 (by omega) y wq.heap.size rfl
            have hws := hb'.size
            have HO : Hid (Orw (W4.heap.size ≤ ·) W6 (some ⟨g2, 0, none⟩) c3 (L ++ [y])) := Lib.hid (.inr ⟨g2, by rcases r3 with q | q; exact q; show W4.heap.size ≤ g2; omega, rfl, r2⟩)
            have HB3 : Hid (Below W4.heap.size W4 W6) := Lib.hid (hb'.trans (r4.below (fun _ h => h) hws))
            have HLL := Lib.hid hll2
            have HLN2 : Hid ((L ++ [y]).length ≤ k + 1 + if false then 1 else 0) := Lib.hid (by have := hLn.out; simp at this ⊢; omega)
            rw [hll2]
            clear hLl hll2 r2 r3 r4 ho' hb' hLn
            go_wp2_with (at_builtin; refine wpList_runb _ rfl (.tmp 57) (.tmp 62) 28 rfl rfl rfl r1 ?_)
            go_wp2
            go_roundg gf
            case measure => omega
            case rel => exact ⟨k + 1, false, _, c3, L ++ [y], by rw [List.length_append, HLL.out]; rfl, rfl, by go_num, Lib.hid (by omega), HLN2, HN, HO, HB3⟩
          | true =>
            rw [hc] at hst
            have HN : Hid (insm x R = (L ++ [x] ++ [y]) ++ if true then R.drop (k + 1) else insm x (R.drop (k + 1))) := Lib.hid (by rw [hst]; simp)
            simp only [hc] at x1
            clear hst hc
            have g0 := cell_regrown p0
            have g1 := cell_regrown p1
            have g2 := cell_regrown e0
            have g3 := cell_regrown e1
            go_wp2_with fail
            refine wp_region_quiet_below (by kernel_rfl) (by kernel_rfl) ?_
            iterate 9 (go_big_quiet_step (fail))
            go_big_quiet_step (with_reducible exact x1 _ _)
            go_big_quiet_step (fail)
            clear x1
            refine wpQuiet_nil ?_
            intro wq hw'
            obtain ⟨⟨dq, osq⟩, hw''⟩ := hw'
            have hbW := below_regrown wr dq osq
            rw [← hw''] at hbW
            clear hw'' g0 g1 g2 g3
            have ho' := ho.out.below hbW
            have hb' := hb.out.trans (hbW.mono hb.out.size)
            have e0' := (hbW.cell (p := ⟨b, off + k * 3, none⟩) (World.block_lt_of_cell? _ _ e0)).trans e0
            have e1' := (hbW.cell (p := ⟨b, off + k * 3 + 1, none⟩) (World.block_lt_of_cell? _ _ e1)).trans e1
            have e2' := (hbW.cell (p := ⟨b, off + k * 3 + 2, none⟩) (World.block_lt_of_cell? _ _ e2)).trans e2
            have x0' := (hbW.cell (p := ⟨xb, 0, none⟩) (World.block_lt_of_cell? _ _ x0)).trans x0
            have x1'' := (hbW.cell (p := ⟨xb, 1, none⟩) (World.block_lt_of_cell? _ _ x1')).trans x1'
            have x2' := (hbW.cell (p := ⟨xb, 2, none⟩) (World.block_lt_of_cell? _ _ x2)).trans x2
            clear ho hb e0 e1 e2 p0 p1 hbW cc x0 x1' x2
            obtain ⟨ll, hll2⟩ : ∃ ll, L.length = ll := ⟨_, rfl⟩
            obtain ⟨g2, c3, W6, r1, r2, r3, r4⟩ := en_app ho' hll2 (by omega) x wq.heap.size rfl
            have hws := hb'.size
            have hg2 : W4.heap.size ≤ g2 := by
              rcases r3 with q | q
              · exact q
              · omega
            have ho6 : Orw (W4.heap.size ≤ ·) W6 (some ⟨g2, 0, none⟩) c3 (L ++ [x]) := .inr ⟨g2, hg2, rfl, r2⟩
            have hb6 : Below W4.heap.size W4 W6 := hb'.trans (r4.below (fun _ h => h) hws)
            have hbq : Kp (W4.heap.size ≤ ·) wq W6 := r4
            obtain ⟨n6, hn6⟩ : ∃ n6, W6.heap.size = n6 := ⟨_, rfl⟩
            obtain ⟨g3, c4, W7, t1, t2, t3, t4⟩ := en_app ho6 (n := ll + 1) (by rw [List.length_append, hll2]; rfl) (by omega) y n6 hn6
            have hws6 := hb6.size
            have HO : Hid (Orw (W4.heap.size ≤ ·) W7 (some ⟨g3, 0, none⟩) c4 (L ++ [x] ++ [y])) := Lib.hid (.inr ⟨g3, by rcases t3 with q | q; exact q; show W4.heap.size ≤ g3; omega, rfl, t2⟩)
            have HB3 : Hid (Below W4.heap.size W4 W7) := Lib.hid (hb6.trans (t4.below (fun _ h => h) hws6))
            obtain ⟨b'', off'', heq, _, _, q0, q1, q2⟩ := (HR.out.keep hb6.size (fun j _ hj => hb6.block j hj)).entry (i := k) (by rw [HRN.out]; omega)
            simp only [Option.some.injEq, Addr.mk.injEq] at heq
            obtain ⟨rfl, rfl, _⟩ := heq
            have hgy : ge R k = y := HY.out
            rw [hgy] at q0 q1 q2
            have HLL := Lib.hid hll2
            have HLN2 : Hid ((L ++ [x] ++ [y]).length ≤ k + 1 + if true then 1 else 0) := Lib.hid (by have := hLn.out; simp at this ⊢; omega)
            rw [hll2]
            clear hLl hll2 r2 r3 r4 ho' hb' hLn ho6 hb6 hbq t2 t3 t4 hgy
            go_upto_region 14 with (at_builtin; refine wpList_runb _ rfl (.tmp 53) (.tmp 55) 28 rfl rfl rfl r1 ?_)
            clear r1 e0' e1' e2' x0' x1'' x2'
            go_wp2_with (at_builtin; refine wpList_runb _ rfl (.tmp 57) (.tmp 62) 28 rfl rfl rfl t1 ?_)
            go_wp2
            go_roundg gf
            case measure => omega
            case rel => exact ⟨k + 1, true, _, c4, L ++ [x] ++ [y], by rw [List.length_append, List.length_append, HLL.out]; rfl, rfl, by go_num, Lib.hid (by omega), HLN2, HN, HO, HB3⟩
  | false =>
    go_upto_region 6 with fail
    go_wp2_with fail
    go_loopg [11, 12, 13] rn (fun gf v11 v12 v13 wx => ∃ (k : Nat) (put : Bool) (A' : Option Addr) (c' : Nat) (L : List En), v11 = .slice A' L.length c' ∧ v12 = .bool put ∧ v13 = .int .i64 (k : Int) ∧ Hid (gf + k = rn) ∧ Hid (L.length ≤ k + if put then 1 else 0) ∧ Hid (insm x R = L ++ if put then R.drop k else insm x (R.drop k)) ∧ Hid (Orw (W4.heap.size ≤ ·) wx A' c' L) ∧ Hid (Below W4.heap.size W4 wx))
    case atStart => exact ⟨0, false, _, _, [], rfl, rfl, rfl, Lib.hid (by omega), Lib.hid (by simp), Lib.hid (by simp), O5, B5⟩
    case round =>
      obtain ⟨k, put, A', c', L, rfl, rfl, rfl, hk, hLn, hL, ho, hb⟩ := hrel
      have hk' := hk.out
      have hLl : L.length ≤ k + 1 := by have := hLn.out; cases put <;> simp at this <;> omega
      clear B5 O5
      cases gk with
      | zero =>
        have e1 : k = rn := by omega
        have lt0 : decide ((k : Int) < (rn : Int)) = false := by simp; omega
        have lt1 : decide (k < rn) = false := by simp; omega
        have e2 := hL.out
        rw [List.drop_of_length_le (by rw [HRN.out]; omega)] at e2
        cases put with
        | true =>
          have HE : Hid (setm l ⟨A, N, V⟩ = L) := Lib.hid (by rw [← HXE.out, HF.out, e2]; simp)
          clear e2 e1
          go_wp2
          go_ret2
          rw [HE.out]
          exact ⟨A', c', rfl, ho.out.more (fun j hj _ => by show w.heap.size ≤ j; omega), HB4.out.trans (hb.out.mono (by omega))⟩
        | false =>
          have HE : Hid (setm l ⟨A, N, V⟩ = L ++ [x]) := Lib.hid (by rw [← HXE.out, HF.out, e2]; simp [insm])
          obtain ⟨x0, x1, x2⟩ := ebo_cell ((hb.out.block _ s4).trans HX4.out)
          obtain ⟨ll, hll2⟩ : ∃ ll, L.length = ll := ⟨_, rfl⟩
          obtain ⟨g2, c3, W6, r1, r2, r3, r4⟩ := en_app ho.out hll2 (by omega) x wr.heap.size rfl
          have hws := hb.out.size
          have FIN : Hid (RSet w (L ++ [x]) (.returned (.tuple #[.slice (some ⟨g2, 0, none⟩) (ll + 1) c3, .int .i64 0])) W6) := Lib.hid ⟨some ⟨g2, 0, none⟩, c3, by rw [List.length_append, hll2]; rfl, .inr ⟨g2, by rcases r3 with q | q; (have : W4.heap.size ≤ g2 := q; show w.heap.size ≤ g2; omega); show w.heap.size ≤ g2; omega, rfl, r2⟩, HB4.out.trans ((hb.out.mono (by omega)).trans (r4.below (fun j hj => by have : W4.heap.size ≤ j := hj; omega) (by omega)))⟩
          rw [hll2]
          clear hll2 r2 r3 r4 e2 e1 hLl hLn
          go_wp2_with (at_builtin; refine wpList_runb _ rfl (.tmp 66) (.tmp 68) 28 rfl rfl rfl r1 ?_)
          go_wp2
          go_ret2
          rw [HE.out]
          exact FIN.out
      | succ gf =>
        have hkl : k < R.length := by rw [HRN.out]; omega
        have lt0 : (k : Int) < (rn : Int) := by omega
        obtain ⟨b, off, hA1, _, _, e0, e1, e2⟩ := (HR.out.keep hb.out.size (fun j _ hj => hb.out.block j hj)).entry hkl
        have hst := hL.out
        rw [drop_ge hkl] at hst
        obtain ⟨y, hy⟩ : ∃ y, ge R k = y := ⟨_, rfl⟩
        rw [hy] at e0 e1 e2 hst
        subst hA1
        obtain ⟨p0, p1, _, _⟩ := blk2 ((hb.out.block _ sw4).trans HP4.out)
        obtain ⟨x0, x1', x2⟩ := ebo_cell ((hb.out.block _ s4).trans HX4.out)
        have hw1 : (k : Int) + 1 ≤ 10000 := by omega
        have cc := fun W => rless_any A y.A N y.N W
        have HY := Lib.hid hy
        clear hkl hy
        cases put with
        | true =>
          have HN : Hid (insm x R = (L ++ [y]) ++ if true then R.drop (k + 1) else insm x (R.drop (k + 1))) := Lib.hid (by rw [hst]; simp)
          clear hst x0 x1' x2
          have g0 := cell_regrown p0
          have g1 := cell_regrown p1
          have g2 := cell_regrown e0
          have g3 := cell_regrown e1
          go_wp2_with fail
          refine wp_region_quiet_below (by kernel_rfl) (by kernel_rfl) ?_
          iterate 11 (go_big_quiet_step (fail))
          refine wpQuiet_nil ?_
          intro wq hw'
          obtain ⟨⟨dq, osq⟩, hw''⟩ := hw'
          have hbW := below_regrown wr dq osq
          rw [← hw''] at hbW
          clear hw'' g0 g1 g2 g3
          have ho' := ho.out.below hbW
          have hb' := hb.out.trans (hbW.mono hb.out.size)
          have e0' := (hbW.cell (p := ⟨b, off + k * 3, none⟩) (World.block_lt_of_cell? _ _ e0)).trans e0
          have e1' := (hbW.cell (p := ⟨b, off + k * 3 + 1, none⟩) (World.block_lt_of_cell? _ _ e1)).trans e1
          have e2' := (hbW.cell (p := ⟨b, off + k * 3 + 2, none⟩) (World.block_lt_of_cell? _ _ e2)).trans e2
          clear ho hb e0 e1 e2 p0 p1 hbW cc
          obtain ⟨ll, hll2⟩ : ∃ ll, L.length = ll := ⟨_, rfl⟩
          obtain ⟨g2, c3, W6, r1, r2, r3, r4⟩ := en_app ho' hll2 (by omega) y wq.heap.size rfl
          have hws := hb'.size
          have HO : Hid (Orw (W4.heap.size ≤ ·) W6 (some ⟨g2, 0, none⟩) c3 (L ++ [y])) := Lib.hid (.inr ⟨g2, by rcases r3 with q | q; exact q; show W4.heap.size ≤ g2; omega, rfl, r2⟩)
          have HB3 : Hid (Below W4.heap.size W4 W6) := Lib.hid (hb'.trans (r4.below (fun _ h => h) hws))
          have HLL := Lib.hid hll2
          have HLN2 : Hid ((L ++ [y]).length ≤ k + 1 + if true then 1 else 0) := Lib.hid (by have := hLn.out; simp at this ⊢; omega)
          rw [hll2]
          clear hLl hll2 r2 r3 r4 ho' hb' hLn
          go_wp2_with (at_builtin; refine wpList_runb _ rfl (.tmp 57) (.tmp 62) 28 rfl rfl rfl r1 ?_)
          go_wp2
          go_roundg gf
          case measure => omega
          case rel => exact ⟨k + 1, true, _, c3, L ++ [y], by rw [List.length_append, HLL.out]; rfl, rfl, by go_num, Lib.hid (by omega), HLN2, HN, HO, HB3⟩
        | false =>
          have hle : lessp x.A x.N y.A y.N = lessp A N y.A y.N := by rw [HXE.out]
          have hin : insm x (y :: R.drop (k + 1)) = if lessp A N y.A y.N then x :: y :: R.drop (k + 1) else y :: insm x (R.drop (k + 1)) := by rw [insm, hle]
          simp only [Bool.false_eq_true, if_false] at hst
          rw [hin] at hst
          clear hle hin
          have x1 : ∀ d os, _ := fun d os => Calls.regrown_of (w := wr) (d := d) (os := os) (cc _)
          cases hc : lessp A N y.A y.N with
          | false =>
            rw [hc] at hst
            have HN : Hid (insm x R = (L ++ [y]) ++ if false then R.drop (k + 1) else insm x (R.drop (k + 1))) := Lib.hid (by rw [hst]; simp)
            simp only [hc] at x1
            clear hst x0 x1' x2 hc
            have g0 := cell_regrown p0
            have g1 := cell_regrown p1
            have g2 := cell_regrown e0
            have g3 := cell_regrown e1
            go_wp2_with fail
            refine wp_region_quiet_below (by kernel_rfl) (by kernel_rfl) ?_
            iterate 9 (go_big_quiet_step (fail))
            go_big_quiet_step (with_reducible exact x1 _ _)
            go_big_quiet_step (fail)
            clear x1
            refine wpQuiet_nil ?_
            intro wq hw'
            obtain ⟨⟨dq, osq⟩, hw''⟩ := hw'
            have hbW := below_regrown wr dq osq
            rw [← hw''] at hbW
            clear hw'' g0 g1 g2 g3
            have ho' := ho.out.below hbW
            have hb' := hb.out.trans (hbW.mono hb.out.size)
            have e0' := (hbW.cell (p := ⟨b, off + k * 3, none⟩) (World.block_lt_of_cell? _ _ e0)).trans e0
            have e1' := (hbW.cell (p := ⟨b, off + k * 3 + 1, none⟩) (World.block_lt_of_cell? _ _ e1)).trans e1
            have e2' := (hbW.cell (p := ⟨b, off + k * 3 + 2, none⟩) (World.block_lt_of_cell? _ _ e2)).trans e2
            clear ho hb e0 e1 e2 p0 p1 hbW cc
            obtain ⟨ll, hll2⟩ : ∃ ll, L.length = ll := ⟨_, rfl⟩
            obtain ⟨g2, c3, W6, r1, r2, r3, r4⟩ := en_app ho' hll2 (by omega) y wq.heap.size rfl
            have hws := hb'.size
            have HO : Hid (Orw (W4.heap.size ≤ ·) W6 (some ⟨g2, 0, none⟩) c3 (L ++ [y])) := Lib.hid (.inr ⟨g2, by rcases r3 with q | q; exact q; show W4.heap.size ≤ g2; omega, rfl, r2⟩)
            have HB3 : Hid (Below W4.heap.size W4 W6) := Lib.hid (hb'.trans (r4.below (fun _ h => h) hws))
            have HLL := Lib.hid hll2
            have HLN2 : Hid ((L ++ [y]).length ≤ k + 1 + if false then 1 else 0) := Lib.hid (by have := hLn.out; simp at this ⊢; omega)
            rw [hll2]
            clear hLl hll2 r2 r3 r4 ho' hb' hLn
            go_wp2_with (at_builtin; refine wpList_runb _ rfl (.tmp 57) (.tmp 62) 28 rfl rfl rfl r1 ?_)
            go_wp2
            go_roundg gf
            case measure => omega
            case rel => exact ⟨k + 1, false, _, c3, L ++ [y], by rw [List.length_append, HLL.out]; rfl, rfl, by go_num, Lib.hid (by omega), HLN2, HN, HO, HB3⟩
          | true =>
            rw [hc] at hst
            have HN : Hid (insm x R = (L ++ [x] ++ [y]) ++ if true then R.drop (k + 1) else insm x (R.drop (k + 1))) := Lib.hid (by rw [hst]; simp)
            simp only [hc] at x1
            clear hst hc
            have g0 := cell_regrown p0
            have g1 := cell_regrown p1
            have g2 := cell_regrown e0
            have g3 := cell_regrown e1
            go_wp2_with fail
            refine wp_region_quiet_below (by kernel_rfl) (by kernel_rfl) ?_
            iterate 9 (go_big_quiet_step (fail))
            go_big_quiet_step (with_reducible exact x1 _ _)
            go_big_quiet_step (fail)
            clear x1
            refine wpQuiet_nil ?_
            intro wq hw'
            obtain ⟨⟨dq, osq⟩, hw''⟩ := hw'
            have hbW := below_regrown wr dq osq
            rw [← hw''] at hbW
            clear hw'' g0 g1 g2 g3
            have ho' := ho.out.below hbW
            have hb' := hb.out.trans (hbW.mono hb.out.size)
            have e0' := (hbW.cell (p := ⟨b, off + k * 3, none⟩) (World.block_lt_of_cell? _ _ e0)).trans e0
            have e1' := (hbW.cell (p := ⟨b, off + k * 3 + 1, none⟩) (World.block_lt_of_cell? _ _ e1)).trans e1
            have e2' := (hbW.cell (p := ⟨b, off + k * 3 + 2, none⟩) (World.block_lt_of_cell? _ _ e2)).trans e2
            have x0' := (hbW.cell (p := ⟨xb, 0, none⟩) (World.block_lt_of_cell? _ _ x0)).trans x0
            have x1'' := (hbW.cell (p := ⟨xb, 1, none⟩) (World.block_lt_of_cell? _ _ x1')).trans x1'
            have x2' := (hbW.cell (p := ⟨xb, 2, none⟩) (World.block_lt_of_cell? _ _ x2)).trans x2
            clear ho hb e0 e1 e2 p0 p1 hbW cc x0 x1' x2
            obtain ⟨ll, hll2⟩ : ∃ ll, L.length = ll := ⟨_, rfl⟩
            obtain ⟨g2, c3, W6, r1, r2, r3, r4⟩ := en_app ho' hll2 (by omega) x wq.heap.size rfl
            have hws := hb'.size
            have hg2 : W4.heap.size ≤ g2 := by
              rcases r3 with q | q
              · exact q
              · omega
            have ho6 : Orw (W4.heap.size ≤ ·) W6 (some ⟨g2, 0, none⟩) c3 (L ++ [x]) := .inr ⟨g2, hg2, rfl, r2⟩
            have hb6 : Below W4.heap.size W4 W6 := hb'.trans (r4.below (fun _ h => h) hws)
            have hbq : Kp (W4.heap.size ≤ ·) wq W6 := r4
            obtain ⟨n6, hn6⟩ : ∃ n6, W6.heap.size = n6 := ⟨_, rfl⟩
            obtain ⟨g3, c4, W7, t1, t2, t3, t4⟩ := en_app ho6 (n := ll + 1) (by rw [List.length_append, hll2]; rfl) (by omega) y n6 hn6
            have hws6 := hb6.size
            have HO : Hid (Orw (W4.heap.size ≤ ·) W7 (some ⟨g3, 0, none⟩) c4 (L ++ [x] ++ [y])) := Lib.hid (.inr ⟨g3, by rcases t3 with q | q; exact q; show W4.heap.size ≤ g3; omega, rfl, t2⟩)
            have HB3 : Hid (Below W4.heap.size W4 W7) := Lib.hid (hb6.trans (t4.below (fun _ h => h) hws6))
            obtain ⟨b'', off'', heq, _, _, q0, q1, q2⟩ := (HR.out.keep hb6.size (fun j _ hj => hb6.block j hj)).entry (i := k) (by rw [HRN.out]; omega)
            simp only [Option.some.injEq, Addr.mk.injEq] at heq
            obtain ⟨rfl, rfl, _⟩ := heq
            have hgy : ge R k = y := HY.out
            rw [hgy] at q0 q1 q2
            have HLL := Lib.hid hll2
            have HLN2 : Hid ((L ++ [x] ++ [y]).length ≤ k + 1 + if true then 1 else 0) := Lib.hid (by have := hLn.out; simp at this ⊢; omega)
            rw [hll2]
            clear hLl hll2 r2 r3 r4 ho' hb' hLn ho6 hb6 hbq t2 t3 t4 hgy
            go_upto_region 14 with (at_builtin; refine wpList_runb _ rfl (.tmp 53) (.tmp 55) 28 rfl rfl rfl r1 ?_)
            clear r1 e0' e1' e2' x0' x1'' x2'
            go_wp2_with (at_builtin; refine wpList_runb _ rfl (.tmp 57) (.tmp 62) 28 rfl rfl rfl t1 ?_)
            go_wp2
            go_roundg gf
            case measure => omega
            case rel => exact ⟨k + 1, true, _, c4, L ++ [x] ++ [y], by rw [List.length_append, List.length_append, HLL.out]; rfl, rfl, by go_num, Lib.hid (by omega), HLN2, HN, HO, HB3⟩
end Go.Proofs.Ytlmcgjdenfnkmaa
