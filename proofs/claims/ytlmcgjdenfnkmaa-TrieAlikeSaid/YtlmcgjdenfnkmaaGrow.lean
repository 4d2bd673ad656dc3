/-
  The contract of the trie's grow. No statement is proved here; no conditions.
-/
import Derived.Test.YtlmcgjdenfnkmaaAt
namespace Go.Proofs.Ytlmcgjdenfnkmaa
open Go.RowKit Go.Joins

/-- The nodes' blocks. -/
def Nk (nd : Nat → Option Nat) (j : Nat) : Prop := ∃ k, nd k = some j
/-- What grow leaves. -/
def Grown (w : World) (tb : Nat) (nd en : Nat → Option Nat) (m : List En) (c : Int) (A n : Nat) (e : Ending) (w' : World) : Prop :=
  ∃ nd' g, e = .returned (.pointer (some ⟨g, 0, none⟩)) ∧ Tn w' tb nd' en m c ∧ nd' (ky A n) = some g ∧ Kp (Nk nd) w w' ∧ ∀ j, Nk nd' j → Nk nd j ∨ w.heap.size ≤ j
theorem nbo_box {w : World} {g k b : Nat} {x y z : Value} {c : Int} {u v : Value} (h : w.heap[g]? = some (nbo k x y z c)) (hb : w.heap[b]? = some (.cells #[u, v] 25 (0, 0))) : b ≠ g := by
  rintro rfl
  rw [h] at hb
  unfold nbo at hb
  split at hb <;> simp at hb
set_option maxRecDepth 100000 in
theorem grow_any (tb : Nat) (nd en : Nat → Option Nat) (m : List En) (c : Int) (A n : Nat) (w : World) (h : Tn w tb nd en m c) (hA : A < 4294967296) (hn : n ≤ 32) :
    Calls Try.prog 33 #[.pointer (some ⟨tb, 0, none⟩), pf A (n : Int)] w fun e w' => Grown w tb nd en m c A n e w' := by
  have B0 := below_alloc1 w (.cells #[.int .u32 (A : Int), .int .i64 (n : Int)] 25)
  have P0 := Go.heap_alloc_new w (.cells #[.int .u32 (A : Int), .int .i64 (n : Int)] 25)
  obtain ⟨W0, hW0⟩ : ∃ W0, w.alloc (.cells #[.int .u32 (A : Int), .int .i64 (n : Int)] 25) = W0 := ⟨_, rfl⟩
  rw [hW0] at P0 B0
  obtain ⟨c0, c1, _, _⟩ := blk2 P0
  have HT := Lib.hid (h.below B0)
  have HP := Lib.hid P0
  have HK : Hid (Kp (Nk nd) w W0) := Lib.hid (Kp.of_below B0 (Nat.le_refl _))
  have HR := Lib.hid (show nd (ky A 0) = some tb by rw [ky_zero hA]; exact h.root)
  clear h B0 P0
  go_enter Try.func33, Try.ntmps33
  go_wp2_with fail
  go_loopg [5, 13] n (fun gf v5 v13 wx => ∃ (k q : Nat) (nd' : Nat → Option Nat), v5 = .pointer (some ⟨q, 0, none⟩) ∧ v13 = .int .i64 (k : Int) ∧ Hid (gf + k = n) ∧ Hid (nd' (ky A k) = some q) ∧ Hid (Tn wx tb nd' en m c) ∧ Hid (wx.heap[w.heap.size]? = some (.cells #[.int .u32 (A : Int), .int .i64 (n : Int)] 25 (0, 0))) ∧ Hid (Kp (Nk nd) w wx) ∧ Hid (∀ j, Nk nd' j → Nk nd j ∨ w.heap.size ≤ j))
  case atStart => exact ⟨0, tb, nd, rfl, rfl, Lib.hid (by omega), HR, HT, HP, HK, Lib.hid (fun j hj => .inl hj)⟩
  case round =>
    obtain ⟨k, q, nd', rfl, rfl, hk, hq, ht, hp, hkp, hnk⟩ := hrel
    have hk' := hk.out
    clear HR HT HP HK c0 c1
    cases gk with
    | zero =>
      have e1 : k = n := by omega
      have lt0 : decide ((k : Int) < (n : Int)) = false := by simp; omega
      have lt1 : decide (k < n) = false := by simp; omega
      go_wp2
      go_ret
      exact ⟨nd', q, rfl, ht.out, e1 ▸ hq.out, hkp.out, hnk.out⟩
    | succ gf =>
      have hkl : k < n := by omega
      have lt0 : (k : Int) < (n : Int) := by omega
      obtain ⟨c0, c1, _, _⟩ := blk2 hp.out
      have tn := ht.out
      have hbt := bt_lt A (k : Int)
      obtain ⟨cc, fz⟩ := tn.child hq.out hbt
      have ks := ky_succ (A := A) (n := k) (by omega)
      have klt := ky_lt33 (A := A) (n := k + 1) hA (by omega)
      have cb := fun W => bit_any A (k : Int) W hA
      have hqs : Nk nd q ∨ w.heap.size ≤ q := hnk.out q ⟨_, hq.out⟩
      obtain ⟨b, hb⟩ : ∃ b, bt A (k : Int) = b := ⟨_, rfl⟩
      rw [hb] at hbt cc fz ks cb
      rw [ks] at klt
      have HKS := Lib.hid ks
      clear ks hb
      cases hnx : nd' (2 * ky A k + b) with
      | none =>
        have tg := tn.grow hq.out hbt hnx klt
        have bx := nbo_box (tn.node _ _ hq.out) hp.out
        have hql := tn.lt (.inl ⟨_, hq.out⟩)
        rw [hnx] at cc
        simp only [po, Option.map_none, Option.map_some] at cc tg
        obtain ⟨W2, hW2⟩ : ∃ W2, wr.alloc (.cells #[.pointer none, .pointer none, .pointer none] 64) = W2 := ⟨_, rfl⟩
        rw [hW2] at tg
        have b2 : Below wr.heap.size wr W2 := by rw [← hW2]; exact below_alloc1 _ _
        have cc2 : W2.cell? ⟨q, b, none⟩ = some (.pointer none) := (b2.cell (p := ⟨q, b, none⟩) hql).trans cc
        have fz2 : W2.frozen? ⟨q, b, none⟩ = false := ((tn.below b2).child hq.out hbt).2
        obtain ⟨W3, hW3⟩ : ∃ W3, W2.setCell ⟨q, b, none⟩ (.pointer (some ⟨wr.heap.size, 0, none⟩)) = W3 := ⟨_, rfl⟩
        rw [hW3] at tg
        have kp3 : Kp (· = q) wr W3 := by rw [← hW3]; exact (Kp.of_below b2 (Nat.le_refl _)).then_set _ _ rfl
        have cc3 : W3.cell? ⟨q, b, none⟩ = some (.pointer (some ⟨wr.heap.size, 0, none⟩)) := by
          have := (tg.child (k := ky A k) (g := q) (by rw [upd_ne _ (by have := (tn.pos _ _ hq.out).1; omega)]; exact hq.out) hbt).1
          rwa [upd_at] at this
        have TG := Lib.hid tg
        have HP3 : Hid (W3.heap[w.heap.size]? = some (.cells #[.int .u32 (A : Int), .int .i64 (n : Int)] 25 (0, 0))) := Lib.hid ((kp3.block _ (lt_of_block hp.out) bx).trans hp.out)
        have HK3 : Hid (Kp (Nk nd) w W3) := Lib.hid (hkp.out.trans kp3 (fun j hj => by rw [hj]; exact hqs))
        have hws := hkp.out.size
        have HN3 : Hid (∀ j, Nk (upd nd' (2 * ky A k + b) (some wr.heap.size)) j → Nk nd j ∨ w.heap.size ≤ j) := Lib.hid (by
          rintro j ⟨i, hi⟩
          by_cases e : i = 2 * ky A k + b
          · rw [e, upd_at] at hi
            injection hi with hi
            right; omega
          · rw [upd_ne _ e] at hi
            exact hnk.out j ⟨i, hi⟩)
        clear tg tn kp3 b2 hnx hqs bx
        go_wp2_with (go_at_call 31; refine (cb _).mono ?_; rintro e W ⟨rfl, rfl⟩)
        go_roundg gf
        case measure => omega
        case rel => exact ⟨k + 1, _, _, rfl, by go_num, Lib.hid (by omega), Lib.hid (by rw [HKS.out, upd_at]), TG, HP3, HK3, HN3⟩
      | some gn =>
        rw [hnx] at cc
        simp only [po, Option.map_some] at cc
        have HX := Lib.hid hnx
        clear hnx tn hqs klt
        go_wp2_with (go_at_call 31; refine (cb _).mono ?_; rintro e W ⟨rfl, rfl⟩)
        go_roundg gf
        case measure => omega
        case rel => exact ⟨k + 1, gn, nd', rfl, by go_num, Lib.hid (by omega), Lib.hid (by rw [HKS.out]; exact HX.out), ht, hp, hkp, hnk⟩
end Go.Proofs.Ytlmcgjdenfnkmaa
