/-
  Contracts of the reference's Below and Above. No statement is proved here; no conditions.
-/
import Derived.Test.YtlmcgjdenfnkmaaRef1
namespace Go.Proofs.Ytlmcgjdenfnkmaa
open Go.RowKit Go.Joins

theorem filter_take {l : List En} {k : Nat} (hk : k < l.length) (p : En → Bool) : (l.take (k + 1)).filter p = if p (ge l k) = true then (l.take k).filter p ++ [ge l k] else (l.take k).filter p := by
  rw [List.take_succ_eq_append_getElem hk, List.filter_append, ge_eq hk]
  cases h : p l[k] <;> simp [h]
theorem filter_take_len (l : List En) (k : Nat) (p : En → Bool) : ((l.take k).filter p).length ≤ k := by
  have h1 := List.length_filter_le p (l.take k)
  have h2 : (l.take k).length ≤ k := by simp; omega
  omega
theorem ge_mem {l : List En} {k : Nat} (hk : k < l.length) : ge l k ∈ l := by rw [ge_eq hk]; exact List.getElem_mem hk
/-- The boxed prefix and the empty row that the reference begins with. -/
theorem begins (A : Nat) (N : Int) (w : World) : ∃ W0 W1, w.alloc (.cells #[.int .u32 (A : Int), .int .i64 N] 25) = W0 ∧ W0.alloc (.cells #[] 39) = W1 ∧ W0.heap.size = w.heap.size + 1 ∧ Hid (Below w.heap.size w W0) ∧ Hid (W0.heap[w.heap.size]? = some (.cells #[.int .u32 (A : Int), .int .i64 N] 25 (0, 0))) ∧ Hid (Below W0.heap.size W0 W1) ∧ Hid (Orw (W0.heap.size ≤ ·) W1 (some ⟨W0.heap.size, 0, none⟩) 0 []) := by
  refine ⟨_, _, rfl, rfl, by simp, Lib.hid (below_alloc1 _ _), Lib.hid (Go.heap_alloc_new _ _), Lib.hid (below_alloc1 _ _), Lib.hid (.inr ⟨_, Nat.le_refl _, rfl, Rg.lit _ 39 3 0 #[] [] rfl rfl (by unfold maxLen; omega)⟩)⟩
set_option maxRecDepth 100000 in
set_option maxHeartbeats 1000000 in
theorem rbelow_any (S : Nat → Prop) (A0 : Option Addr) (c : Nat) (l : List En) (A : Nat) (N : Int) (w : World) (hl : Rd S w A0 (eflat l)) (hll : l.length ≤ 10000) (hA : A < 4294967296) (hx : ∀ x ∈ l, x.A < 4294967296) :
    Calls Try.prog 21 #[.slice A0 l.length c, pf A N] w fun e w' => Got w (l.filter fun x => covp A N x.A x.N) e w' := by
  obtain ⟨W0, W1, hW0, hW1, s0, HB0, HP, HB1, o1⟩ := begins A N w
  have HL := Lib.hid (hl.keep HB0.out.size (fun j _ hj => HB0.out.block j hj))
  have HX := Lib.hid hx
  obtain ⟨ln, hln⟩ : ∃ ln, l.length = ln := ⟨_, rfl⟩
  rw [hln] at hll ⊢
  have HLN := Lib.hid hln
  clear hln hl hx
  go_enter Try.func21, Try.ntmps21
  go_wp2_with fail
  clear hW0 hW1
  go_loopg [5, 6] ln (fun gf v5 v6 wx => ∃ (k : Nat) (A' : Option Addr) (c' : Nat) (L : List En), v5 = .slice A' L.length c' ∧ v6 = .int .i64 (k : Int) ∧ Hid (gf + k = ln) ∧ Hid (L = (l.take k).filter fun x => covp A N x.A x.N) ∧ Hid (Orw (W0.heap.size ≤ ·) wx A' c' L) ∧ Hid (Below W0.heap.size W0 wx))
  case atStart => exact ⟨0, _, _, [], by rw [s0]; rfl, rfl, Lib.hid (by omega), Lib.hid (by simp), o1, HB1⟩
  case round =>
    obtain ⟨k, A', c', L, rfl, rfl, hk, hL, ho, hb⟩ := hrel
    have hk' := hk.out
    clear HB1 o1
    cases gk with
    | zero =>
      have e1 : k = ln := by omega
      have lt0 : decide ((k : Int) < (ln : Int)) = false := by simp; omega
      have lt1 : decide (k < ln) = false := by simp; omega
      have e2 : L = l.filter fun x => covp A N x.A x.N := by rw [hL.out, e1, ← HLN.out, List.take_length]
      have HE := Lib.hid e2
      clear e2 e1
      go_wp2
      go_ret
      have e2 := HE.out
      subst e2
      exact ⟨A', c', rfl, ho.out.more (fun j hj _ => by show w.heap.size ≤ j; omega), HB0.out.trans (hb.out.mono (by omega))⟩
    | succ gf =>
      have hkl : k < l.length := by rw [HLN.out]; omega
      have lt0 : (k : Int) < (ln : Int) := by omega
      obtain ⟨b, off, hA0, _, _, e0, e1, e2⟩ := (HL.out.keep hb.out.size (fun j _ hj => hb.out.block j hj)).entry hkl
      have hst := filter_take hkl fun x => covp A N x.A x.N
      have hxA := HX.out _ (ge_mem hkl)
      obtain ⟨x, hx⟩ : ∃ x, ge l k = x := ⟨_, rfl⟩
      rw [hx] at e0 e1 e2 hst hxA
      subst hA0
      obtain ⟨p0, p1, _, _⟩ := blk2 ((hb.out.block _ (by omega)).trans HP.out)
      have hLl : L.length ≤ k := by rw [hL.out]; exact filter_take_len _ _ _
      have hw1 : (k : Int) + 1 ≤ 10000 := by omega
      have cc := fun W => rcovers_any A N x.A x.N W hA hxA
      clear hkl hx
      cases hc : covp A N x.A x.N with
      | true =>
        rw [hc] at cc
        rw [if_pos hc] at hst
        have HN : Hid (L ++ [x] = (l.take (k + 1)).filter fun x => covp A N x.A x.N) := Lib.hid (by rw [hst, hL.out])
        have g0 := cell_regrown p0
        have g1 := cell_regrown p1
        have g2 := cell_regrown e0
        have g3 := cell_regrown e1
        have x1 : ∀ d os, _ := fun d os => Calls.regrown_of (w := wr) (d := d) (os := os) (cc _)
        clear hst hc
        go_wp2_with fail
        refine wp_region_quiet_below (by kernel_rfl) (by kernel_rfl) ?_
        iterate 6 (go_big_quiet_step (fail))
        go_big_quiet_step (with_reducible exact x1 _ _)
        refine wpQuiet_nil ?_
        intro wq hw'
        obtain ⟨⟨dq, osq⟩, hw''⟩ := hw'
        have hbW := below_regrown wr dq osq
        rw [← hw''] at hbW
        clear hw'' g0 g1 g2 g3 x1
        have ho' := ho.out.below hbW
        have hb' := hb.out.trans (hbW.mono hb.out.size)
        have e0' := (hbW.cell (p := ⟨b, off + k * 3, none⟩) (World.block_lt_of_cell? _ _ e0)).trans e0
        have e1' := (hbW.cell (p := ⟨b, off + k * 3 + 1, none⟩) (World.block_lt_of_cell? _ _ e1)).trans e1
        have e2' := (hbW.cell (p := ⟨b, off + k * 3 + 2, none⟩) (World.block_lt_of_cell? _ _ e2)).trans e2
        clear ho hb e0 e1 e2 p0 p1 hbW
        obtain ⟨ll, hll2⟩ : ∃ ll, L.length = ll := ⟨_, rfl⟩
        obtain ⟨g2, c3, W3, r1, r2, r3, r4⟩ := en_app ho' hll2 (by omega) x wq.heap.size rfl
        have hws := hb'.size
        have HO : Hid (Orw (W0.heap.size ≤ ·) W3 (some ⟨g2, 0, none⟩) c3 (L ++ [x])) := Lib.hid (.inr ⟨g2, by rcases r3 with q | q; exact q; show W0.heap.size ≤ g2; omega, rfl, r2⟩)
        have HB3 : Hid (Below W0.heap.size W0 W3) := Lib.hid (hb'.trans (r4.below (fun _ h => h) hws))
        have HLL := Lib.hid hll2
        rw [hll2]
        clear hLl hll2 r2 r3 r4 ho' hb'
        go_wp2_with (at_builtin; refine wpList_runb _ rfl (.tmp 21) (.tmp 26) 28 rfl rfl rfl r1 ?_)
        go_wp2
        go_roundg gf
        case measure => omega
        case rel => exact ⟨k + 1, _, c3, L ++ [x], by rw [List.length_append, HLL.out]; rfl, by go_num, Lib.hid (by omega), HN, HO, HB3⟩
      | false =>
        rw [hc] at cc
        rw [if_neg (by simp [hc])] at hst
        have HN : Hid (L = (l.take (k + 1)).filter fun x => covp A N x.A x.N) := Lib.hid (by rw [hst]; exact hL.out)
        have g0 := cell_regrown p0
        have g1 := cell_regrown p1
        have g2 := cell_regrown e0
        have g3 := cell_regrown e1
        have x1 : ∀ d os, _ := fun d os => Calls.regrown_of (w := wr) (d := d) (os := os) (cc _)
        clear hst hc
        go_wp2_with fail
        refine wp_region_quiet_below (by kernel_rfl) (by kernel_rfl) ?_
        iterate 6 (go_big_quiet_step (fail))
        go_big_quiet_step (with_reducible exact x1 _ _)
        refine wpQuiet_nil ?_
        intro wq hw'
        obtain ⟨⟨dq, osq⟩, hw''⟩ := hw'
        have hbW := below_regrown wr dq osq
        rw [← hw''] at hbW
        clear hw'' g0 g1 g2 g3 x1
        have ho' := ho.out.below hbW
        have hb' := hb.out.trans (hbW.mono hb.out.size)
        have HO := Lib.hid ho'
        have HB3 := Lib.hid hb'
        clear ho hb e0 e1 e2 p0 p1 hbW ho' hb'
        go_wp2
        go_roundg gf
        case measure => omega
        case rel => exact ⟨k + 1, A', c', L, rfl, by go_num, Lib.hid (by omega), HN, HO, HB3⟩
/-- What covers a prefix, of the first n lengths. -/
def abn (l : List En) (A : Nat) (N : Int) (n : Nat) : List En := (List.range n).flatMap fun (n : Nat) => l.filter fun x => decide (x.N = (n : Int)) && covp x.A x.N A N
theorem abn_succ (l : List En) (A : Nat) (N : Int) (n : Nat) : abn l A N (n + 1) = abn l A N n ++ l.filter fun x => decide (x.N = (n : Int)) && covp x.A x.N A N := by simp [abn, List.range_succ]
theorem abn_len (l : List En) (A : Nat) (N : Int) (n : Nat) : (abn l A N n).length ≤ n * l.length := by
  induction n with
  | zero => simp [abn]
  | succ n ih =>
    rw [abn_succ, List.length_append, Nat.succ_mul]
    exact Nat.add_le_add ih (List.length_filter_le _ _)
set_option maxRecDepth 100000 in
set_option maxHeartbeats 1000000 in
theorem rabove_any (S : Nat → Prop) (A0 : Option Addr) (c : Nat) (l : List En) (A : Nat) (N : Int) (w : World) (hl : Rd S w A0 (eflat l)) (hll : l.length ≤ 1000) (hA : A < 4294967296) (hx : ∀ x ∈ l, x.A < 4294967296) :
    Calls Try.prog 23 #[.slice A0 l.length c, pf A N] w fun e w' => Got w (abv l A N) e w' := by
  obtain ⟨W0, W1, hW0, hW1, s0, HB0, HP, HB1, o1⟩ := begins A N w
  have HL := Lib.hid (hl.keep HB0.out.size (fun j _ hj => HB0.out.block j hj))
  have HX := Lib.hid hx
  obtain ⟨ln, hln⟩ : ∃ ln, l.length = ln := ⟨_, rfl⟩
  rw [hln] at hll ⊢
  have HLN := Lib.hid hln
  clear hln hl hx
  go_enter Try.func23, Try.ntmps23
  go_wp2_with fail
  clear hW0 hW1
  go_loopg [5, 6] 33 (fun gf v5 v6 wx => ∃ (n : Nat) (A' : Option Addr) (c' : Nat) (L : List En), v5 = .slice A' L.length c' ∧ v6 = .int .i64 (n : Int) ∧ Hid (gf + n = 33) ∧ Hid (L = abn l A N n) ∧ Hid (Orw (W0.heap.size ≤ ·) wx A' c' L) ∧ Hid (Below W0.heap.size W0 wx))
  case atStart => exact ⟨0, _, _, [], by rw [s0]; rfl, rfl, Lib.hid (by omega), Lib.hid (by simp [abn]), o1, HB1⟩
  case round =>
    obtain ⟨n, A', c', L, rfl, rfl, hk, hL, ho, hb⟩ := hrel
    have hk' := hk.out
    clear HB1 o1
    cases gk with
    | zero =>
      obtain rfl : n = 33 := by omega
      have HE : Hid (L = abv l A N) := Lib.hid (by rw [hL.out]; rfl)
      go_wp2
      go_ret
      have e2 := HE.out
      subst e2
      exact ⟨A', c', rfl, ho.out.more (fun j hj _ => by show w.heap.size ≤ j; omega), HB0.out.trans (hb.out.mono (by omega))⟩
    | succ ge1 =>
      have hn32 : (n : Int) ≤ 32 := by omega
      have hn32' : n ≤ 32 := by omega
      have hbn : (abn l A N n).length ≤ 32 * 1000 := Nat.le_trans (abn_len l A N n) (Nat.mul_le_mul (by omega) (by rw [HLN.out]; exact hll))
      have HBN := Lib.hid hbn
      have HLS := Lib.hid (abn_succ l A N n)
      clear hbn
      go_wp2_with fail
      go_loopg [5, 7] ln (fun gf v5 v7 wx => ∃ (k : Nat) (A' : Option Addr) (c' : Nat) (L : List En), v5 = .slice A' L.length c' ∧ v7 = .int .i64 (k : Int) ∧ Hid (gf + k = ln) ∧ Hid (L = abn l A N n ++ (l.take k).filter fun x => decide (x.N = (n : Int)) && covp x.A x.N A N) ∧ Hid (Orw (W0.heap.size ≤ ·) wx A' c' L) ∧ Hid (Below W0.heap.size W0 wx))
      case atStart => exact ⟨0, _, _, L, rfl, rfl, Lib.hid (by omega), Lib.hid (by rw [hL.out]; simp), ho, hb⟩
      case round =>
        clear hL ho hb
        obtain ⟨k, A', c', L, rfl, rfl, hk, hL, ho, hb⟩ := hrel
        have hk'' := hk.out
        cases gk with
        | zero =>
          have e1 : k = ln := by omega
          have lt0 : decide ((k : Int) < (ln : Int)) = false := by simp; omega
          have lt1 : decide (k < ln) = false := by simp; omega
          have HN : Hid (L = abn l A N (n + 1)) := Lib.hid (by rw [HLS.out, hL.out, e1, ← HLN.out, List.take_length])
          clear e1
          go_wp2
          go_roundg ge1
          case measure => omega
          case rel => exact ⟨n + 1, A', c', L, rfl, by go_num, Lib.hid (by omega), HN, ho, hb⟩
        | succ gf =>
          have hkl : k < l.length := by rw [HLN.out]; omega
          have lt0 : (k : Int) < (ln : Int) := by omega
          obtain ⟨b, off, hA0, _, _, e0, e1, e2⟩ := (HL.out.keep hb.out.size (fun j _ hj => hb.out.block j hj)).entry hkl
          have hst := filter_take hkl fun x => decide (x.N = (n : Int)) && covp x.A x.N A N
          have hxA := HX.out _ (ge_mem hkl)
          obtain ⟨x, hx⟩ : ∃ x, ge l k = x := ⟨_, rfl⟩
          rw [hx] at e0 e1 e2 hst hxA
          subst hA0
          obtain ⟨p0, p1, _, _⟩ := blk2 ((hb.out.block _ (by omega)).trans HP.out)
          have hLl : L.length ≤ 33000 := by
            rw [hL.out, List.length_append]
            have h1 := HBN.out
            have h2 := filter_take_len l k fun x => decide (x.N = (n : Int)) && covp x.A x.N A N
            omega
          have hw1 : (k : Int) + 1 ≤ 10000 := by omega
          have cc := fun W => rcovers_any x.A x.N A N W hxA hA
          clear hkl hx
          by_cases hq : x.N = (n : Int)
          · have n1 : (x.N == (n : Int)) = true := by simpa using hq
            cases hc : covp x.A x.N A N with
            | true =>
              rw [hc] at cc
              rw [if_pos (by rw [hc, Bool.and_true]; exact decide_eq_true hq)] at hst
              have HN : Hid (L ++ [x] = abn l A N n ++ (l.take (k + 1)).filter (fun x => decide (x.N = (n : Int)) && covp x.A x.N A N)) := Lib.hid (by rw [hst, hL.out, List.append_assoc])
              have g0 := cell_regrown p0
              have g1 := cell_regrown p1
              have g2 := cell_regrown e0
              have g3 := cell_regrown e1
              have x1 : ∀ d os, _ := fun d os => Calls.regrown_of (w := wr) (d := d) (os := os) (cc _)
              clear hst hc hq
              go_wp2_with fail
              refine wp_region_quiet_below (by kernel_rfl) (by kernel_rfl) ?_
              iterate 15 (go_big_quiet_step (fail))
              go_big_quiet_step (with_reducible exact x1 _ _)
              go_big_quiet_step (fail)
              refine wpQuiet_nil ?_
              intro wq hw'
              obtain ⟨⟨dq, osq⟩, hw''⟩ := hw'
              have hbW := below_regrown wr dq osq
              rw [← hw''] at hbW
              clear hw'' g0 g1 g2 g3 x1
              have ho' := ho.out.below hbW
              have hb' := hb.out.trans (hbW.mono hb.out.size)
              have e0' := (hbW.cell (p := ⟨b, off + k * 3, none⟩) (World.block_lt_of_cell? _ _ e0)).trans e0
              have e1' := (hbW.cell (p := ⟨b, off + k * 3 + 1, none⟩) (World.block_lt_of_cell? _ _ e1)).trans e1
              have e2' := (hbW.cell (p := ⟨b, off + k * 3 + 2, none⟩) (World.block_lt_of_cell? _ _ e2)).trans e2
              clear ho hb e0 e1 e2 p0 p1 hbW
              obtain ⟨ll, hll2⟩ : ∃ ll, L.length = ll := ⟨_, rfl⟩
              obtain ⟨g2, c3, W3, r1, r2, r3, r4⟩ := en_app ho' hll2 (by omega) x wq.heap.size rfl
              have hws := hb'.size
              have HO : Hid (Orw (W0.heap.size ≤ ·) W3 (some ⟨g2, 0, none⟩) c3 (L ++ [x])) := Lib.hid (.inr ⟨g2, by rcases r3 with q | q; exact q; show W0.heap.size ≤ g2; omega, rfl, r2⟩)
              have HB3 : Hid (Below W0.heap.size W0 W3) := Lib.hid (hb'.trans (r4.below (fun _ h => h) hws))
              have HLL := Lib.hid hll2
              rw [hll2]
              clear hLl hll2 r2 r3 r4 ho' hb'
              go_wp2_with (at_builtin; refine wpList_runb _ rfl (.tmp 36) (.tmp 41) 28 rfl rfl rfl r1 ?_)
              go_wp2
              go_roundg gf
              case measure => omega
              case rel => exact ⟨k + 1, _, c3, L ++ [x], by rw [List.length_append, HLL.out]; rfl, by go_num, Lib.hid (by omega), HN, HO, HB3⟩
            | false =>
              rw [hc] at cc
              rw [if_neg (by simp [hc])] at hst
              have HN : Hid (L = abn l A N n ++ (l.take (k + 1)).filter (fun x => decide (x.N = (n : Int)) && covp x.A x.N A N)) := Lib.hid (by rw [hst]; exact hL.out)
              have g0 := cell_regrown p0
              have g1 := cell_regrown p1
              have g2 := cell_regrown e0
              have g3 := cell_regrown e1
              have x1 : ∀ d os, _ := fun d os => Calls.regrown_of (w := wr) (d := d) (os := os) (cc _)
              clear hst hc hq
              go_wp2_with fail
              refine wp_region_quiet_below (by kernel_rfl) (by kernel_rfl) ?_
              iterate 15 (go_big_quiet_step (fail))
              go_big_quiet_step (with_reducible exact x1 _ _)
              go_big_quiet_step (fail)
              refine wpQuiet_nil ?_
              intro wq hw'
              obtain ⟨⟨dq, osq⟩, hw''⟩ := hw'
              have hbW := below_regrown wr dq osq
              rw [← hw''] at hbW
              clear hw'' g0 g1 g2 g3 x1
              have ho' := ho.out.below hbW
              have hb' := hb.out.trans (hbW.mono hb.out.size)
              have HO := Lib.hid ho'
              have HB3 := Lib.hid hb'
              clear ho hb e0 e1 e2 p0 p1 hbW ho' hb'
              go_wp2
              go_roundg gf
              case measure => omega
              case rel => exact ⟨k + 1, A', c', L, rfl, by go_num, Lib.hid (by omega), HN, HO, HB3⟩
          · have n1 := int_beq hq
            rw [if_neg (by simp [hq])] at hst
            have HN : Hid (L = abn l A N n ++ (l.take (k + 1)).filter (fun x => decide (x.N = (n : Int)) && covp x.A x.N A N)) := Lib.hid (by rw [hst]; exact hL.out)
            have g0 := cell_regrown p0
            have g1 := cell_regrown p1
            have g2 := cell_regrown e0
            have g3 := cell_regrown e1
            have x1 : ∀ d os, _ := fun d os => Calls.regrown_of (w := wr) (d := d) (os := os) (cc _)
            clear hst hq
            go_wp2_with fail
            refine wp_region_quiet_below (by kernel_rfl) (by kernel_rfl) ?_
            iterate 17 (go_big_quiet_step (fail))
            refine wpQuiet_nil ?_
            intro wq hw'
            obtain ⟨⟨dq, osq⟩, hw''⟩ := hw'
            have hbW := below_regrown wr dq osq
            rw [← hw''] at hbW
            clear hw'' g0 g1 g2 g3 x1
            have ho' := ho.out.below hbW
            have hb' := hb.out.trans (hbW.mono hb.out.size)
            have HO := Lib.hid ho'
            have HB3 := Lib.hid hb'
            clear ho hb e0 e1 e2 p0 p1 hbW ho' hb'
            go_wp2
            go_roundg gf
            case measure => omega
            case rel => exact ⟨k + 1, A', c', L, rfl, by go_num, Lib.hid (by omega), HN, HO, HB3⟩
end Go.Proofs.Ytlmcgjdenfnkmaa
