/-
  The contract of Mutual. No statement is proved here; no conditions.
-/
import Derived.Test.YtkpmdfgjaodlaaaMap
import Derived.Test.YtkpmdfgjaodlaaaRev
namespace Go.Proofs.Ytkpmdfgjaodlaaa
open Go.RowKit Go.Joins

/-- Does an edge lead back? -/
def back (E : List Ed) (e : Ed) : Bool := E.any fun x => x.f == e.t && x.t == e.f
def mutE (E : List Ed) : List Ed := E.filter (back E)
/-- What Mutual leaves. -/
def Muted (w : World) (N : Int) (E : List Ed) (e : Ending) (w' : World) : Prop :=
  ∃ A' g c', e = .returned (gv N A' (mutE E).length c') ∧ Ow 50 3 w' A' g c' (mutE E).length (eflat (mutE E)) ∧ (A' ≠ none → w.heap.size ≤ g) ∧ Below w.heap.size w w'
theorem back_iff {E : List Ed} {e : Ed} : back E e = true ↔ ∃ x ∈ E, x.f = e.t ∧ x.t = e.f := by simp [back]

/-- Between two edges of the second turn; wr is the world in which 'out' was made. -/
def MLoop (w wr : World) (N : Int) (A : Option Addr) (c : Nat) (E : List Ed) (k : Nat) (wx : World) : Prop :=
  ∃ A' g c', wx.heap[wr.heap.size]? = some (.cells #[.int .i64 N, .slice A' ((E.take k).filter (back E)).length c'] 24 (0, 0)) ∧ Ow 50 3 wx A' g c' ((E.take k).filter (back E)).length (eflat ((E.take k).filter (back E))) ∧ (A' ≠ none → wr.heap.size < g) ∧ Below wr.heap.size wr wx ∧ wr.heap.size < wx.heap.size

set_option maxRecDepth 100000 in
set_option maxHeartbeats 4000000 in
theorem mutual_any (N : Int) (A : Option Addr) (c : Nat) (E : List Ed) (B : Nat) (w : World) (hE : Rd (· < B) w A (eflat E)) (hB : B ≤ w.heap.size) (hl : E.length ≤ 100000) :
    Calls Try.prog 22 #[gv N A E.length c] w fun e w' => Muted w N E e w' := by
  obtain ⟨W0, hW0⟩ : ∃ W0, w.alloc (.cells #[.int .i64 N, .slice A E.length c] 24) = W0 := ⟨_, rfl⟩
  have hs0 : W0.heap.size = w.heap.size + 1 := by rw [← hW0]; simp
  have b0 : Below w.heap.size w W0 := by rw [← hW0]; exact below_alloc1 _ _
  have h0 : W0.heap[w.heap.size]? = some (.cells #[.int .i64 N, .slice A E.length c] 24 (0, 0)) := by rw [← hW0]; exact Go.heap_alloc_new _ _
  obtain ⟨W1, hW1⟩ : ∃ W1, W0.alloc (.cells #[.int .i64 0, .slice none 0 0] 24) = W1 := ⟨_, rfl⟩
  have hs1 : W1.heap.size = w.heap.size + 2 := by rw [← hW1]; simp [hs0]
  have b1 : Below W0.heap.size W0 W1 := by rw [← hW1]; exact below_alloc1 _ _
  have h1 : W1.heap[w.heap.size + 1]? = some (.cells #[.int .i64 0, .slice none 0 0] 24 (0, 0)) := by rw [← hW1, ← hs0]; exact Go.heap_alloc_new _ _
  obtain ⟨W2, hW2⟩ : ∃ W2, W1.alloc (.map #[] 0) = W2 := ⟨_, rfl⟩
  have hs2 : W2.heap.size = w.heap.size + 3 := by rw [← hW2]; simp [hs1]
  have b2 : Below W1.heap.size W1 W2 := by rw [← hW2]; exact below_alloc1 _ _
  have h2 : W2.heap[w.heap.size + 2]? = some (.map #[] 0) := by rw [← hW2, ← hs1]; exact Go.heap_alloc_new _ _
  have h02 := (b2.block _ (by omega)).trans ((b1.block _ (by omega)).trans h0)
  have h12 := (b2.block _ (by omega)).trans h1
  obtain ⟨c0, c1, _, _⟩ := blk2 h02
  have b02 : Below w.heap.size w W2 := (b0.trans (b1.mono (by omega))).trans (b2.mono (by omega))
  have mp : Mp W2 (w.heap.size + 2) 0 (fun a b => ∃ x ∈ E.take 0, x.f = a ∧ x.t = b) := ⟨#[], 0, h2, by simp, by simp, by simp, by simp⟩
  have hmm := @run_makeMap Try.prog
  have HE2 := Lib.hid (hE.below b02 (fun j hj _ => by omega))
  have HB2 := Lib.hid b02
  have H02 := Lib.hid h02
  have H12 := Lib.hid h12
  have MP := Lib.hid mp
  clear b0 b1 b2 b02 h0 h1 h2 h02 h12 hE mp
  go_enter Try.func22, Try.ntmps22
  go_wp2_with fail
  go_loopg [13] E.length (fun gf v wx => ∃ k, v = .int .i64 ((k : Nat) : Int) ∧ Hid (gf + k = E.length) ∧ Hid (Mp wx (w.heap.size + 2) k (fun a b => ∃ x ∈ E.take k, x.f = a ∧ x.t = b)) ∧ Hid (Kp (fun j => j = w.heap.size + 2) W2 wx))
  case atStart => exact ⟨0, rfl, Lib.hid (by omega), MP, Lib.hid (Kp.refl _ _)⟩
  case round =>
    obtain ⟨k, rfl, hk, hm, hkp⟩ := hrel
    have hk' := hk.out
    have hsy := hkp.out.size
    have t0 := (hkp.out.block _ (by omega) (by omega)).trans H02.out
    have t1 := (hkp.out.block _ (by omega) (by omega)).trans H12.out
    clear MP
    cases gk with
    | zero =>
      obtain ⟨wo, rfl⟩ : ∃ wo, wo = wr := ⟨_, rfl⟩
      have e1 : k = E.length := by omega
      have lt0 : decide ((k : Int) < (E.length : Int)) = false := by simp; omega
      have lt0n : decide (k < E.length) = false := by simp; omega
      obtain ⟨x0, x1, _, _⟩ := blk2 t0
      have mE : Mp wo (w.heap.size + 2) E.length (fun a b => ∃ x ∈ E, x.f = a ∧ x.t = b) := by have := hm.out; rwa [e1, List.take_length] at this
      obtain ⟨W3, hW3⟩ : ∃ W3, wo.alloc (.cells #[.int .i64 N, .slice none 0 0] 24) = W3 := ⟨_, rfl⟩
      have hs3 : W3.heap.size = wo.heap.size + 1 := by rw [← hW3]; simp
      have b3 : Below wo.heap.size wo W3 := by rw [← hW3]; exact below_alloc1 _ _
      have h3 : W3.heap[wo.heap.size]? = some (.cells #[.int .i64 N, .slice none 0 0] 24 (0, 0)) := by rw [← hW3]; exact Go.heap_alloc_new _ _
      obtain ⟨y0, y1, _, _⟩ := blk2 ((b3.block _ (lt_of_block t0)).trans t0)
      have L0 : Hid (MLoop w wo N A c E 0 W3) := Lib.hid ⟨none, 0, 0, by rw [show ((E.take 0).filter (back E)).length = 0 from rfl]; exact h3, ⟨rfl, .inl ⟨rfl, rfl, rfl⟩⟩, fun h => absurd rfl h, b3, by omega⟩
      have ME := Lib.hid mE
      have T0 := Lib.hid t0
      have T1 := Lib.hid t1
      have HEr := Lib.hid (HE2.out.kp hkp.out (fun j hj => by omega))
      have HBr := Lib.hid (HB2.out.trans (hkp.out.below (B := w.heap.size) (fun j hj => by omega) (by omega)))
      clear mE t0 t1 h3 b3 hm hkp HE2 HB2 H02 H12 e1 hk
      rw [← hW3] at y0 y1
      have HW3 := Lib.hid hW3
      clear hW3
      go_wp2_with fail
      rw [HW3.out]
      go_loopg [34] E.length (fun gf v wx => ∃ k, v = .int .i64 ((k : Nat) : Int) ∧ Hid (gf + k = E.length) ∧ Hid (MLoop w wo N A c E k wx))
      case atStart => exact ⟨0, rfl, Lib.hid (by omega), L0⟩
      case round =>
        clear L0 hk' lt0 lt0n x0 x1 y0 y1
        obtain ⟨k, rfl, hk, hl2⟩ := hrel
        have hk' := hk.out
        obtain ⟨A', g', c', m1, m2, m3, m4, m5⟩ := hl2.out
        have hlr := lt_of_block T1.out
        clear hl2
        cases gk with
        | zero =>
          have e1 : k = E.length := by omega
          have lt0 : decide ((k : Int) < (E.length : Int)) = false := by simp; omega
          rw [e1, List.take_length] at m1 m2
          rw [show E.filter (back E) = mutE E from rfl] at m1 m2
          obtain ⟨ml, hml⟩ : ∃ ml, (mutE E).length = ml := ⟨_, rfl⟩
          rw [hml] at m1 m2
          obtain ⟨p0, p1, _, _⟩ := blk2 m1
          have t1 := (m4.block _ hlr).trans T1.out
          obtain ⟨q0, q1, q2, q3⟩ := blk2 t1
          have fin := blk2_set (.int .i64 N) (.slice A' ml c') t1
          obtain ⟨r0, r1, _, _⟩ := blk2 fin
          have kf : Kp (fun j => j = w.heap.size + 1) wr ((wr.setCell ⟨w.heap.size + 1, 0, none⟩ (.int .i64 N)).setCell ⟨w.heap.size + 1, 1, none⟩ (.slice A' ml c')) := (Kp.setCell (S := fun j => j = w.heap.size + 1) wr ⟨w.heap.size + 1, 0, none⟩ (.int .i64 N) rfl).then_set ⟨w.heap.size + 1, 1, none⟩ _ rfl
          have F : Hid (Muted w N E (.returned (gv N A' ml c')) ((wr.setCell ⟨w.heap.size + 1, 0, none⟩ (.int .i64 N)).setCell ⟨w.heap.size + 1, 1, none⟩ (.slice A' ml c'))) := Lib.hid (by
            refine ⟨A', g', c', by rw [hml], ?_, fun h => by have := m3 h; omega, HBr.out.trans ((m4.mono (by omega)).trans (kf.below (fun j hj => by omega) (by omega)))⟩
            rw [hml]
            rcases m2 with ⟨z1, z2 | ⟨z2, z3⟩⟩
            · exact ⟨z1, .inl z2⟩
            · exact ⟨z1, .inr ⟨z2, z3.kp kf (by have := m3 (by rw [z2]; simp); omega)⟩⟩)
          clear kf fin t1 m1 m2 m3 m4 hml
          go_wp2
          refine bodyPost_ret (v := gv N A' ml c') (by simp [results, Try.results22, go_sem, r0, r1]) rfl F.out
        | succ gf =>
          have hkl : k < E.length := by omega
          have lt0 : (k : Int) < (E.length : Int) := by omega
          obtain ⟨b, off, hA, hbB, hbs, e0, e1, e2⟩ := (HEr.out.below m4 (fun j hj hl => hl)).edge hkl
          obtain ⟨x, hx⟩ : ∃ x, ge E k = x := ⟨_, rfl⟩
          rw [hx] at e0 e1 e2
          subst hA
          obtain ⟨W4, hW4⟩ : ∃ W4, wr.alloc (.cells #[.int .i64 x.f, .int .i64 x.t, .int .i64 x.c] 50) = W4 := ⟨_, rfl⟩
          have hs4 : W4.heap.size = wr.heap.size + 1 := by rw [← hW4]; simp
          have b4 : Below wr.heap.size wr W4 := by rw [← hW4]; exact below_alloc1 _ _
          have h50 : W4.heap[wr.heap.size]? = some (.cells #[.int .i64 x.f, .int .i64 x.t, .int .i64 x.c] 50 (0, 0)) := by rw [← hW4]; exact Go.heap_alloc_new _ _
          have f0 : W4.cell? ⟨wr.heap.size, 0, none⟩ = some (.int .i64 x.f) := (cell_of_row _ _ 0 _ _ _ h50).trans rfl
          have f1 : W4.cell? ⟨wr.heap.size, 1, none⟩ = some (.int .i64 x.t) := (cell_of_row _ _ 1 _ _ _ h50).trans rfl
          have f2 : W4.cell? ⟨wr.heap.size, 2, none⟩ = some (.int .i64 x.c) := (cell_of_row _ _ 2 _ _ _ h50).trans rfl
          have hmlt := ME.out.lt
          have mp4 : Mp W4 (w.heap.size + 2) E.length (fun a b => ∃ x ∈ E, x.f = a ∧ x.t = b) := ME.out.keep ((b4.block _ (by omega)).trans (m4.block _ hmlt))
          obtain ⟨n, lk, _, hnS⟩ := mp4.look x.t x.f
          have hbk : 0 < n ↔ back E x = true := by rw [hnS, back_iff]
          have hxk : E[k] = x := by rw [← hx, ge_eq hkl]
          have hstep : (E.take (k + 1)).filter (back E) = if back E x = true then (E.take k).filter (back E) ++ [x] else (E.take k).filter (back E) := by
            rw [List.take_succ_eq_append_getElem hkl, List.filter_append, hxk]
            by_cases h : back E x = true <;> simp [h]
          have hll : ((E.take k).filter (back E)).length ≤ 100000 := Nat.le_trans (List.length_filter_le _ _) (by simp; omega)
          obtain ⟨mk, hmk⟩ : ∃ mk, (E.take k).filter (back E) = mk := ⟨_, rfl⟩
          rw [hmk] at m1 m2 hstep hll
          have n1 := (b4.block _ (lt_of_block m1)).trans m1
          have ow4 : Ow 50 3 W4 A' g' c' mk.length (eflat mk) := by
            rcases m2 with ⟨z1, z2 | ⟨z2, z3⟩⟩
            · exact ⟨z1, .inl z2⟩
            · exact ⟨z1, .inr ⟨z2, z3.below' b4⟩⟩
          have bl4 : Below wo.heap.size wo W4 := m4.trans (b4.mono (by omega))
          by_cases hb : back E x = true
          · rw [if_pos hb] at hstep
            have hnp : (n : Int) > 0 := by have := hbk.2 hb; omega
            obtain ⟨y0, y1, y2, y3⟩ := blk2 n1
            obtain ⟨W5, hW5⟩ : ∃ W5, W4.alloc (.cells #[.int .i64 x.f, .int .i64 x.t, .int .i64 x.c] 50) = W5 := ⟨_, rfl⟩
            have hs5 : W5.heap.size = wr.heap.size + 2 := by rw [← hW5]; simp [hs4]
            have b5 : Below W4.heap.size W4 W5 := by rw [← hW5]; exact below_alloc1 _ _
            have src : Rd (· = W4.heap.size) W5 (some ⟨W4.heap.size, 0, none⟩) (eflat [x]) := by rw [← hW5]; exact (Rg.lit W4 50 3 1 _ (eflat [x]) rfl (by simp [eflat]) (by unfold maxLen; omega)).rd
            have ow5 : Ow 50 3 W5 A' g' c' mk.length (eflat mk) := by
              rcases ow4 with ⟨z1, z2 | ⟨z2, z3⟩⟩
              · exact ⟨z1, .inl z2⟩
              · exact ⟨z1, .inr ⟨z2, z3.below' b5⟩⟩
            obtain ⟨ti, hi5, hz5, hsz5, hby5⟩ := info50
            obtain ⟨g2, c2, W6, r1, r2, r3, r4⟩ := run_appr (P := Try.prog) W5 22 22 50 ti _ 3 24 Try.underlying22 hi5 hz5 hsz5 hby5 rfl (by omega) (by omega) A' g' c' mk.length _ ow5 _ _ 1 1 _ src (by simp [eflat]) (eflat_one [x]) (by omega) (by omega)
            rw [hs4] at r1
            have hA : ∀ j, A' = some ⟨j, 0, none⟩ → wo.heap.size < j := fun j hj => by
              have h5 := m3 (by simp [hj])
              rcases m2 with ⟨_, ⟨z2, _⟩ | ⟨z2, _⟩⟩
              · rw [z2] at hj; cases hj
              · rw [z2] at hj; simp at hj; omega
            have n6 : W6.heap[wo.heap.size]? = some (.cells #[.int .i64 N, .slice A' mk.length c'] 24 (0, 0)) := (r3.block _ (by omega) (fun e => by have := hA _ e; omega)).trans ((b5.block _ (by omega)).trans n1)
            obtain ⟨u0, u1, u2, u3⟩ := blk2 n6
            have NX : Hid (MLoop w wo N (some ⟨b, off, none⟩) c E (k + 1) (W6.setCell ⟨wo.heap.size, 1, none⟩ (.slice (some ⟨g2, 0, none⟩) (mk.length + 1) c2))) := Lib.hid (by
              have k6 : Kp (fun j => j = wo.heap.size) W6 (W6.setCell ⟨wo.heap.size, 1, none⟩ (.slice (some ⟨g2, 0, none⟩) (mk.length + 1) c2)) := Kp.setCell W6 _ _ rfl
              have hg2 : wo.heap.size < g2 := by
                rcases r4 with e | e
                · exact hA _ e
                · omega
              have hl6 := r3.size
              refine ⟨some ⟨g2, 0, none⟩, g2, c2, ?_, ?_, fun _ => hg2, (bl4.trans (b5.mono (by omega))).trans ((r3.below (fun j hj => by have := hA j hj; omega) (by omega)).trans (k6.below (fun j hj => by omega) (by omega))), by have := k6.size; omega⟩
              · rw [hstep, List.length_append]
                have e1 := setCell_eq_setRow W6 wo.heap.size 1 _ 24 (0, 0) (.slice (some ⟨g2, 0, none⟩) (mk.length + 1) c2) n6
                rw [e1, setRow_heap W6 _ _ _ 24 _ n6]
                simp
              · rw [hstep, List.length_append, eflat_append]
                refine ⟨by simp [eflat_length, eflat]; omega, .inr ⟨rfl, r2.kp k6 (by omega)⟩⟩)
            have hll2 : mk.length + 1 ≤ 100001 := by omega
            clear n6 hA r3 r4 r2 ow5 src b5 ow4 bl4 n1 m1 m2 m3 m4 mp4 hstep hmk hbk hnS hb hx hxk h50 b4
            go_wp2_with (at_builtin; refine wpList_runb _ rfl (.tmp 47) (.tmp 49) 22 rfl rfl rfl r1 ?_)
            go_roundg gf
            case measure => omega
            case rel => exact ⟨k + 1, by go_num, Lib.hid (by omega), NX⟩
          · rw [if_neg hb] at hstep
            have hnp : decide ((n : Int) > 0) = false := decide_eq_false (by
              intro h
              exact hb (hbk.1 (by omega)))
            have hnp2 : decide (0 < n) = false := decide_eq_false (fun h => hb (hbk.1 h))
            have NX : Hid (MLoop w wo N (some ⟨b, off, none⟩) c E (k + 1) W4) := Lib.hid ⟨A', g', c', by rw [hstep]; exact n1, by rw [hstep]; exact ow4, m3, bl4, by omega⟩
            clear ow4 bl4 n1 m1 m2 m3 m4 mp4 hstep hmk hbk hnS hb hx hxk h50 b4
            go_wp2
            go_roundg gf
            case measure => omega
            case rel => exact ⟨k + 1, by go_num, Lib.hid (by omega), NX⟩
    | succ gf =>
      have hkl : k < E.length := by omega
      have lt0 : (k : Int) < (E.length : Int) := by omega
      obtain ⟨b, off, hA, hbB, hbs, e0, e1, e2⟩ := (HE2.out.kp hkp.out (fun j hj => by omega)).edge hkl
      obtain ⟨x, hx⟩ : ∃ x, ge E k = x := ⟨_, rfl⟩
      rw [hx] at e0 e1 e2
      subst hA
      obtain ⟨W4, hW4⟩ : ∃ W4, wr.alloc (.cells #[.int .i64 x.f, .int .i64 x.t, .int .i64 x.c] 50) = W4 := ⟨_, rfl⟩
      have hs4 : W4.heap.size = wr.heap.size + 1 := by rw [← hW4]; simp
      have b4 : Below wr.heap.size wr W4 := by rw [← hW4]; exact below_alloc1 _ _
      have h50 : W4.heap[wr.heap.size]? = some (.cells #[.int .i64 x.f, .int .i64 x.t, .int .i64 x.c] 50 (0, 0)) := by rw [← hW4]; exact Go.heap_alloc_new _ _
      have f0 : W4.cell? ⟨wr.heap.size, 0, none⟩ = some (.int .i64 x.f) := (cell_of_row _ _ 0 _ _ _ h50).trans rfl
      have f1 : W4.cell? ⟨wr.heap.size, 1, none⟩ = some (.int .i64 x.t) := (cell_of_row _ _ 1 _ _ _ h50).trans rfl
      have m4 : Mp W4.drew (w.heap.size + 2) k (fun a b => ∃ x ∈ E.take k, x.f = a ∧ x.t = b) := hm.out.keep (show W4.heap[w.heap.size + 2]? = wr.heap[w.heap.size + 2]? from b4.block _ (by omega))
      obtain ⟨n0, s, v0, st, W5, W6, hsn, ln, lk, en, lk5, es, kp5, kp6, m6⟩ := m4.put x.f x.t
      have wl : IntKind.i64.wrap ((n0 : Int) + 1) = (s : Int) := by rw [IntKind.wrap_i64]; omega
      have wl2 : wrap64 ((n0 : Int) + 1) = (s : Int) := by unfold wrap64; omega
      have hbl : ∀ j, j ≠ w.heap.size + 2 → j < W4.heap.size → W5.heap[j]? = W4.heap[j]? ∧ W6.heap[j]? = W4.heap[j]? := fun j hj hl => ⟨kp5.block j hl hj, kp6.block j hl hj⟩
      have S5 : W5.cell? ⟨wr.heap.size, 0, none⟩ = some (.int .i64 x.f) ∧ W5.cell? ⟨wr.heap.size, 1, none⟩ = some (.int .i64 x.t) := ⟨(World.cell?_of_block (hbl wr.heap.size (by omega) (by omega)).1).trans f0, (World.cell?_of_block (hbl wr.heap.size (by omega) (by omega)).1).trans f1⟩
      have S6 : W6.cell? ⟨wr.heap.size, 0, none⟩ = some (.int .i64 x.f) ∧ W6.cell? ⟨wr.heap.size, 1, none⟩ = some (.int .i64 x.t) := ⟨(World.cell?_of_block (hbl wr.heap.size (by omega) (by omega)).2).trans f0, (World.cell?_of_block (hbl wr.heap.size (by omega) (by omega)).2).trans f1⟩
      have MX : Hid (Mp W6 (w.heap.size + 2) (k + 1) (fun a b => ∃ x ∈ E.take (k + 1), x.f = a ∧ x.t = b)) := Lib.hid (by
        obtain ⟨ess, cl, y1, y2, y3, y4, y5⟩ := m6
        refine ⟨ess, cl, y1, y2, fun a b => ?_, y4, y5⟩
        rw [← y3, List.take_succ_eq_append_getElem hkl]
        have hxk : E[k] = x := by rw [← hx, ge_eq hkl]
        rw [hxk]
        constructor
        · rintro ⟨z, hz, z1, z2⟩
          rcases List.mem_append.1 hz with hz | hz
          · exact .inl ⟨z, hz, z1, z2⟩
          · simp only [List.mem_singleton] at hz
            subst hz
            exact .inr ⟨z1.symm, z2.symm⟩
        · rintro (⟨z, hz, z1, z2⟩ | ⟨rfl, rfl⟩)
          · exact ⟨z, List.mem_append.2 (.inl hz), z1, z2⟩
          · exact ⟨x, by simp, rfl, rfl⟩)
      have KX : Hid (Kp (fun j => j = w.heap.size + 2) W2 W6) := Lib.hid ((hkp.out.then_below b4 (Nat.le_refl _)).trans (show Kp (fun j => j = w.heap.size + 2) W4 W6 from ⟨kp6.os, kp6.tape, kp6.output, kp6.size, kp6.block⟩) (fun _ h => .inl h))
      have S4 : W4.drew.cell? ⟨wr.heap.size, 0, none⟩ = some (.int .i64 x.f) ∧ W4.drew.cell? ⟨wr.heap.size, 1, none⟩ = some (.int .i64 x.t) := ⟨f0, f1⟩
      clear m6 kp5 kp6 hbl m4 b4 h50 hm hkp hx hsn t0 t1 ln
      go_wp2_with fail
      refine wp_region_held_drew (S := fun w' => w'.cell? ⟨wr.heap.size, 0, none⟩ = some (.int .i64 x.f) ∧ w'.cell? ⟨wr.heap.size, 1, none⟩ = some (.int .i64 x.t)) (by kernel_rfl) S4 (fun hHeld => ?_)
      refine wpAnyH_take (i := 0) (v := ?_) rfl (by kernel_rfl) (by kernel_rfl) (by kernel_rfl) (fun _ _ _ h => h) (Or.inl ⟨by rfl, ?_⟩) (by assumption) ?_
      rotate_left
      · (intro w' hSw; (try dsimp only at hSw); go_simp; try with_reducible rfl)
      simp only [Act.put, List.setIfInBounds_toArray, List.set_cons_zero, List.set_cons_succ]
      refine wpAnyH_take (i := 1) (v := ?_) rfl (by kernel_rfl) (by kernel_rfl) (by kernel_rfl) (fun _ _ _ h => h) (Or.inl ⟨by rfl, ?_⟩) (by assumption) ?_
      rotate_left
      · (intro w' hSw; (try dsimp only at hSw); go_simp; try with_reducible rfl)
      simp only [Act.put, List.setIfInBounds_toArray, List.set_cons_zero, List.set_cons_succ]
      refine wpAnyH_take (i := 2) (v := ?_) rfl (by kernel_rfl) (by kernel_rfl) (by kernel_rfl) (fun _ _ _ h => h) (Or.inl ⟨by rfl, ?_⟩) (by assumption) ?_
      rotate_left
      · (intro w' hSw; (try dsimp only at hSw); go_simp; try with_reducible rfl)
      simp only [Act.put, List.setIfInBounds_toArray, List.set_cons_zero, List.set_cons_succ]
      refine wpAnyH_take (i := 3) (v := ?_) rfl (by kernel_rfl) (by kernel_rfl) (by kernel_rfl) (fun _ _ _ h => h) (Or.inl ⟨by rfl, ?_⟩) (by assumption) ?_
      rotate_left
      · (intro w' hSw; (try dsimp only at hSw); go_simp; try with_reducible rfl)
      simp only [Act.put, List.setIfInBounds_toArray, List.set_cons_zero, List.set_cons_succ]
      refine wpAnyH_take (i := 4) (v := ?_) rfl (by kernel_rfl) (by kernel_rfl) (by kernel_rfl) (fun _ _ _ h => h) (Or.inl ⟨by rfl, ?_⟩) (by assumption) ?_
      rotate_left
      · (intro w' hSw; (try dsimp only at hSw); go_simp; try with_reducible rfl)
      simp only [Act.put, List.setIfInBounds_toArray, List.set_cons_zero, List.set_cons_succ]
      refine wpAnyH_take (i := 5) (v := ?_) rfl (by kernel_rfl) (by kernel_rfl) (by kernel_rfl) (fun _ _ _ h => h) (Or.inl ⟨by rfl, ?_⟩) (by assumption) ?_
      rotate_left
      · (intro w' hSw; (try dsimp only at hSw); go_simp; try with_reducible rfl)
      simp only [Act.put, List.setIfInBounds_toArray, List.set_cons_zero, List.set_cons_succ]
      refine wpAnyH_ready (rs := [6, 8]) (by kernel_rfl) (by simp) ?_
      refine AllReadyH.cons rfl (fun K hK => ?_) (AllReadyH.cons rfl (fun K hK => ?_) AllReadyH.nil)
      · go_simp
        refine hK.out _ _ S4 (fun _ => ?_)
        clear hK K
        refine wpAnyH_take (i := 7) (v := ?_) rfl (by kernel_rfl) (by kernel_rfl) (by kernel_rfl) (fun _ _ _ h => h) (Or.inl ⟨by rfl, ?_⟩) (by assumption) ?_
        rotate_left
        · (intro w' hSw; (try dsimp only at hSw); go_simp; try with_reducible rfl)
        simp only [Act.put, List.setIfInBounds_toArray, List.set_cons_zero, List.set_cons_succ]
        refine wpAnyH_ready (rs := [8]) (by kernel_rfl) (by simp) ?_
        refine AllReadyH.cons rfl (fun K hK => ?_) AllReadyH.nil
        go_simp
        refine hK.out _ _ S5 (fun _ => ?_)
        clear hK K
        refine wpAnyH_take (i := 9) (v := ?_) rfl (by kernel_rfl) (by kernel_rfl) (by kernel_rfl) (fun _ _ _ h => h) (Or.inl ⟨by rfl, ?_⟩) (by assumption) ?_
        rotate_left
        · (intro w' hSw; (try dsimp only at hSw); go_simp; try with_reducible rfl)
        simp only [Act.put, List.setIfInBounds_toArray, List.set_cons_zero, List.set_cons_succ]
        refine wpAnyH_ready (rs := [10]) (by kernel_rfl) (by simp) ?_
        refine AllReadyH.cons rfl (fun K hK => ?_) AllReadyH.nil
        go_simp
        refine hK.out _ _ S6 (fun _ => ?_)
        clear hK K
        refine wpAnyH_done (by kernel_rfl) ?_ _
        clear S4 S5 S6 lk lk5 en es
        go_wp2
        go_roundg gf
        case measure => omega
        case rel => exact ⟨k + 1, by go_num, Lib.hid (by omega), MX, KX⟩
      · go_simp
        refine hK.out _ _ S5 (fun _ => ?_)
        clear hK K
        refine wpAnyH_take (i := 9) (v := ?_) rfl (by kernel_rfl) (by kernel_rfl) (by kernel_rfl) (fun _ _ _ h => h) (Or.inl ⟨by rfl, ?_⟩) (by assumption) ?_
        rotate_left
        · (intro w' hSw; (try dsimp only at hSw); go_simp; try with_reducible rfl)
        simp only [Act.put, List.setIfInBounds_toArray, List.set_cons_zero, List.set_cons_succ]
        refine wpAnyH_ready (rs := [6]) (by kernel_rfl) (by simp) ?_
        refine AllReadyH.cons rfl (fun K hK => ?_) AllReadyH.nil
        go_simp
        refine hK.out _ _ S5 (fun _ => ?_)
        clear hK K
        refine wpAnyH_take (i := 7) (v := ?_) rfl (by kernel_rfl) (by kernel_rfl) (by kernel_rfl) (fun _ _ _ h => h) (Or.inl ⟨by rfl, ?_⟩) (by assumption) ?_
        rotate_left
        · (intro w' hSw; (try dsimp only at hSw); go_simp; try with_reducible rfl)
        simp only [Act.put, List.setIfInBounds_toArray, List.set_cons_zero, List.set_cons_succ]
        refine wpAnyH_ready (rs := [10]) (by kernel_rfl) (by simp) ?_
        refine AllReadyH.cons rfl (fun K hK => ?_) AllReadyH.nil
        go_simp
        refine hK.out _ _ S6 (fun _ => ?_)
        clear hK K
        refine wpAnyH_done (by kernel_rfl) ?_ _
        clear S4 S5 S6 lk lk5 en es
        go_wp2
        go_roundg gf
        case measure => omega
        case rel => exact ⟨k + 1, by go_num, Lib.hid (by omega), MX, KX⟩
end Go.Proofs.Ytkpmdfgjaodlaaa
