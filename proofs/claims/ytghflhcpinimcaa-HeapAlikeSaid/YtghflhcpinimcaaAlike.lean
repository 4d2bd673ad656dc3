/-
  The law HeapAlike's walk. No conditions.
-/
import Derived.Test.YtghflhcpinimcaaOrder
namespace Go.Proofs.Ytghflhcpinimcaa
open Go.RowKit Go.Joins

theorem srt_drop (l : List It) (k : Nat) (h : k < l.length) : ins (gt l k) (srt (l.drop (k + 1))) = srt (l.drop k) := by
  rw [← srt_snoc]
  refine srt_congr ?_
  rw [drop_gt l k h]
  exact List.perm_append_singleton _ _

set_option maxHeartbeats 1000000 in
set_option maxRecDepth 100000 in
theorem alike_walk (A : Option Addr) (c : Nat) (l : List It) (w : World) (hl : Bs (· < w.heap.size) w A l) : Calls Try.prog 7 #[.slice A l.length c] w fun e w' => e = .returned (.bool true) ∧ Below w.heap.size w w' := by
  by_cases hlen : l.length > 100
  · have h1 : (100 : Int) < (l.length : Int) := by omega
    go_enter Try.func7, Try.ntmps7
    go_wp2_with fail
    refine (alive_any _).mono ?_
    rintro e W1 ⟨rfl, h1⟩
    go_wp2
    go_ret
    exact ⟨rfl, h1⟩
  · have h1 : decide ((100 : Int) < (l.length : Int)) = false := decide_eq_false (by omega)
    have h1' : decide (100 < l.length) = false := decide_eq_false (by omega)
    have HN : Hid (l.length ≤ 100) := Lib.hid (by omega)
    have HL := Lib.hid hl
    have nw := new_any _ A c l w hl (by omega)
    clear hl hlen
    go_enter Try.func7, Try.ntmps7
    go_wp2_with fail
    refine nw.mono ?_
    rintro e W1 ⟨rfl, ga, p1, p2, p3⟩
    clear nw
    go_wp2_with fail
    refine (new_nil _).mono ?_
    rintro e W2 ⟨rfl, gb0, q1, q2, q3⟩
    have HQ : Hid (w.heap.size ≤ ga ∧ ga < W1.heap.size ∧ w.heap.size < W1.heap.size) := Lib.hid ⟨p2, p1.glt, p1.lt⟩
    have P1 := Lib.hid (p1.below q3 (Nat.le_refl _))
    have Q1 : Hid (Hp W2 W1.heap.size gb0 (srt (l.drop l.length))) := Lib.hid (by simpa [srt] using q1)
    have Q2 := Lib.hid q2
    have Q3 := Lib.hid (p3.trans (q3.mono p3.size))
    clear p1 p2 p3 q1 q2 q3
    have w0 : wrap64 ((l.length : Int) - 1) = (l.length : Int) - 1 := by have := HN.out; unfold wrap64; omega
    go_wp2_with fail
    go_loopg [5] l.length (fun gf vi wx => ∃ (gb : Nat), vi = .int .i64 ((gf : Int) - 1) ∧ Hid (gf ≤ l.length) ∧ Hid (Hp wx w.heap.size ga (srt l)) ∧ Hid (Hp wx W1.heap.size gb (srt (l.drop gf))) ∧ Hid (W1.heap.size ≤ gb) ∧ Hid (Below w.heap.size w wx))
    case atStart => exact ⟨gb0, val_int w0, Lib.hid (Nat.le_refl _), P1, Q1, Q2, Q3⟩
    case round =>
      obtain ⟨gb, rfl, hk, hA, hH, hg, hB⟩ := hrel
      clear P1 Q1 Q2 Q3 w0
      cases gk with
      | succ k =>
        have hkl : k < l.length := by have := hk.out; omega
        have d1 : (k : Int) < (l.length : Int) := by omega
        have e1 : ((k + 1 : Nat) : Int) - 1 = (k : Int) := by omega
        have w1 : wrap64 ((k : Int) - 1) = (k : Int) - 1 := by have := HN.out; unfold wrap64; omega
        obtain ⟨b, off, rfl, hb, hlt, c1, c2⟩ := (HL.out.below hB.out (fun j h _ => h)).at_ hkl
        have ps := push_any W1.heap.size gb _ (gt l k) _ hH.out (by rw [srt_length, List.length_drop]; have := HN.out; omega)
        rw [srt_drop l k hkl] at ps
        clear hb hlt
        rw [e1]
        go_wp2_with fail
        refine ps.mono ?_
        rintro e W3 ⟨rfl, g2, q1, q2, q3⟩
        obtain ⟨x1, x2, x3⟩ := HQ.out
        have A1 := Lib.hid (hA.out.kp q3 (by have := hg.out; omega) (by have := hg.out; omega))
        have Q1 := Lib.hid q1
        have Q2 : Hid (W1.heap.size ≤ g2) := Lib.hid (by have := hg.out; have := hH.out.lt; omega)
        have Q3 := Lib.hid (hB.out.trans (q3.below (B := w.heap.size) (fun j hj => by have := hg.out; omega) hB.out.size))
        clear ps q1 q2 q3 x1 x2 x3 e1
        go_wp2
        go_roundg k
        case measure => omega
        case rel => exact ⟨g2, val_int w1, Lib.hid (by omega), A1, Q1, Q2, Q3⟩
      | zero =>
        have H0 := hH.out
        rw [List.drop_zero] at H0
        obtain ⟨m, hm⟩ : ∃ m, srt l = m := ⟨_, rfl⟩
        have HA0 := hA.out
        rw [hm] at H0 HA0
        have hml : Hid (m.length = l.length) := Lib.hid (by rw [← hm, srt_length])
        have H1 := Lib.hid H0
        have H2 := Lib.hid HA0
        clear H0 HA0 hm hH hA hk
        go_wp2_with fail
        go_loopg [6] l.length (fun gf vi wx => ∃ (k : Nat), vi = .int .i64 (k : Int) ∧ Hid (k + gf = l.length) ∧ Hid (Hp wx w.heap.size ga (m.drop k)) ∧ Hid (Hp wx W1.heap.size gb (m.drop k)) ∧ Hid (Below w.heap.size w wx))
        case atStart => exact ⟨0, rfl, Lib.hid (by omega), by simpa using H2, by simpa using H1, hB⟩
        case round =>
          obtain ⟨k, rfl, hk, hA, hH, hB⟩ := hrel
          clear H1 H2
          obtain ⟨x1, x2, x3⟩ := HQ.out
          have x4 := hg.out
          have X := Lib.hid (And.intro x1 (And.intro x2 (And.intro x3 x4)))
          clear x1 x2 x3 x4
          by_cases hkl : k < l.length
          · have d1 : (k : Int) < (l.length : Int) := by omega
            have w1 : wrap64 ((k : Int) + 1) = (k : Int) + 1 := by have := HN.out; unfold wrap64; omega
            have es : some_ (m.drop k) = true := by
              rw [drop_gt m k (by have := hml.out; omega)]
              rfl
            have ES := Lib.hid es
            have pp := pop_any w.heap.size ga (m.drop k) _ hA.out (by have := hml.out; have := HN.out; simp; omega)
            rw [drop_tail, drop_hd, es] at pp
            obtain ⟨x, hx⟩ : ∃ x, gt m k = x := ⟨_, rfl⟩
            rw [hx] at pp
            have HX := Lib.hid hx
            clear es hx
            go_wp2_with fail
            refine pp.mono ?_
            rintro e W3 ⟨rfl, s1, s2⟩
            obtain ⟨x1, x2, x3, x4⟩ := X.out
            obtain ⟨W4, hW4⟩ : ∃ W4, W3.alloc (.cells #[.int .u64 x.1, .int .i64 x.2] 32) = W4 := ⟨_, rfl⟩
            have b4 : Below W3.heap.size W3 W4 := hW4 ▸ below_alloc1 W3 _
            have A4 := Lib.hid (s1.below b4 (Nat.le_refl _))
            have H4 := hH.out.kp s2 (by omega) (by omega) |>.below b4 (Nat.le_refl _)
            have B4 := Lib.hid ((hB.out.trans (s2.below (B := w.heap.size) (fun j hj => by omega) hB.out.size)).trans (b4.mono (by have := hB.out.size; have := s2.size; omega)))
            have X4 : Hid (W4.heap[W3.heap.size]? = some (.cells #[.int .u64 x.1, .int .i64 x.2] 32 (0, 0))) := Lib.hid (hW4 ▸ Go.heap_alloc_new W3 _)
            have Z4 : Hid (W1.heap.size < W3.heap.size ∧ gb < W3.heap.size) := Lib.hid (by have := hH.out.lt; have := hH.out.glt; have := s2.size; omega)
            have pq := pop_any W1.heap.size gb (m.drop k) _ H4 (by have := hml.out; have := HN.out; simp; omega)
            rw [drop_tail, drop_hd, ES.out, HX.out] at pq
            clear pp s1 s2 b4 H4 hH hA hB x1 x2 x3 x4
            go_wp2_with fail
            refine pq.mono ?_
            rintro e W5 ⟨rfl, t1, t2⟩
            obtain ⟨x1, x2, x3, x4⟩ := X.out
            have z4 := Z4.out
            obtain ⟨W6, hW6⟩ : ∃ W6, W5.alloc (.cells #[.int .u64 x.1, .int .i64 x.2] 32) = W6 := ⟨_, rfl⟩
            have b6 : Below W5.heap.size W5 W6 := hW6 ▸ below_alloc1 W5 _
            have A6 := Lib.hid (A4.out.kp t2 (by omega) (by omega) |>.below b6 (Nat.le_refl _))
            have H6 := Lib.hid (t1.below b6 (Nat.le_refl _))
            have B6 := Lib.hid ((B4.out.trans (t2.below (B := w.heap.size) (fun j hj => by omega) B4.out.size)).trans (b6.mono (by have := B4.out.size; have := t2.size; omega)))
            have e6 : W6.heap[W3.heap.size]? = some (.cells #[.int .u64 x.1, .int .i64 x.2] 32 (0, 0)) := (b6.block _ (by have := lt_of_block X4.out; have := t2.size; omega)).trans ((t2.block _ (lt_of_block X4.out) (by omega)).trans X4.out)
            have e7 : W6.heap[W5.heap.size]? = some (.cells #[.int .u64 x.1, .int .i64 x.2] 32 (0, 0)) := hW6 ▸ Go.heap_alloc_new W5 _
            obtain ⟨k1, k2, -, -⟩ := blk2 e6
            obtain ⟨k3, k4, -, -⟩ := blk2 e7
            clear pq t1 t2 b6 e6 e7 x1 x2 x3 x4 z4 hW4
            go_wp2
            go_roundg (gk - 1)
            case measure => have := hk.out; omega
            case rel => exact ⟨k + 1, by go_num, Lib.hid (by have := hk.out; omega), A6, H6, B6⟩
          · have d1 : decide ((k : Int) < (l.length : Int)) = false := decide_eq_false (by omega)
            have d2 : decide (k < l.length) = false := decide_eq_false hkl
            have hA2 := hA.out
            have hH2 := hH.out
            rw [List.drop_eq_nil_of_le (by have := hml.out; omega)] at hA2 hH2
            have HA2 := Lib.hid hA2
            have HH2 := Lib.hid hH2
            clear hA2 hH2 hA hH
            go_wp2_with fail
            refine (alive_any _).mono ?_
            rintro e W5 ⟨rfl, b5⟩
            have l1 : Calls Try.prog 17 #[.pointer (some ⟨w.heap.size, 0, none⟩)] W5 fun e w' => e = .returned (.int .i64 0) ∧ w' = W5 := len_any w.heap.size ga [] W5 (HA2.out.below b5 (Nat.le_refl _))
            have l2 : Calls Try.prog 17 #[.pointer (some ⟨W1.heap.size, 0, none⟩)] W5 fun e w' => e = .returned (.int .i64 0) ∧ w' = W5 := len_any W1.heap.size gb [] W5 (HH2.out.below b5 (Nat.le_refl _))
            have B6 := Lib.hid (hB.out.trans (b5.mono hB.out.size))
            clear b5
            go_wp2_with fail
            refine l1.mono ?_
            rintro e W6 ⟨rfl, hW6⟩
            subst hW6
            go_wp2_with fail
            refine l2.mono ?_
            rintro e W7 ⟨rfl, hW7⟩
            subst hW7
            go_wp2
            go_ret
            exact ⟨rfl, B6.out⟩
end Go.Proofs.Ytghflhcpinimcaa
