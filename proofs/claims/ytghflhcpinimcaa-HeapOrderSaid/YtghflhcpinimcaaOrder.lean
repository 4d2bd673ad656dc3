/-
  The law HeapOrder's walk. No conditions.
-/
import Derived.Test.YtghflhcpinimcaaAlive
namespace Go.Proofs.Ytghflhcpinimcaa
open Go.RowKit Go.Joins

theorem new_nil (w : World) : Calls Try.prog 9 #[.slice none 0 0] w fun e w' => e = .returned (.pointer (some ⟨w.heap.size, 0, none⟩)) ∧ Newed w [] w' := new_any (fun _ => True) none 0 [] w (Bs.nil _) (by simp)
theorem asc_gt {m : List It} (h : Asc m) {i j : Nat} (hij : i < j) (hj : j < m.length) : lt (gt m j) (gt m i) = false := by
  rw [gt_eq hj, gt_eq (by omega : i < m.length)]
  exact List.pairwise_iff_getElem.1 h i j (by omega) hj hij

set_option maxHeartbeats 1000000 in
set_option maxRecDepth 100000 in
theorem order_walk (A : Option Addr) (c : Nat) (l : List It) (w : World) (hl : Bs (· < w.heap.size) w A l) : Calls Try.prog 5 #[.slice A l.length c] w fun e w' => e = .returned (.bool true) ∧ Below w.heap.size w w' := by
  obtain ⟨i32, hi, hz, hsz, hby⟩ := info_two info32
  by_cases hlen : l.length > 100
  · have h1 : (100 : Int) < (l.length : Int) := by omega
    go_enter Try.func5, Try.ntmps5
    go_wp2_with fail
    refine (alive_any _).mono ?_
    rintro e W1 ⟨rfl, h1⟩
    go_wp2
    go_ret
    exact ⟨rfl, h1⟩
  · have h1 : decide ((100 : Int) < (l.length : Int)) = false := decide_eq_false (by omega)
    have h1' : decide (100 < l.length) = false := decide_eq_false (by omega)
    have HN : Hid (l.length ≤ 100) := Lib.hid (by omega)
    have HL := Lib.hid hl
    clear hl hlen
    go_enter Try.func5, Try.ntmps5
    go_wp2_with fail
    refine (new_nil _).mono ?_
    rintro e W1 ⟨rfl, g1, p1, p2, p3⟩
    have P1 := Lib.hid p1
    have P2 := Lib.hid p2
    have P3 := Lib.hid p3
    clear p1 p2 p3
    go_wp2_with fail
    go_loopg [4] l.length (fun gf vi wx => ∃ (k g : Nat), vi = .int .i64 (k : Int) ∧ Hid (k + gf = l.length) ∧ Hid (Hp wx w.heap.size g (srt (l.take k))) ∧ Hid (w.heap.size ≤ g) ∧ Hid (Below w.heap.size w wx))
    case atStart => exact ⟨0, g1, rfl, Lib.hid (by omega), Lib.hid (by simpa [srt] using P1.out), P2, P3⟩
    case round =>
      obtain ⟨k, g, rfl, hk, hH, hg, hB⟩ := hrel
      clear P1 P2 P3
      by_cases hkl : k < l.length
      · have d1 : (k : Int) < (l.length : Int) := by omega
        have w1 : wrap64 ((k : Int) + 1) = (k : Int) + 1 := by have := HN.out; unfold wrap64; omega
        obtain ⟨b, off, rfl, hb, hlt, c1, c2⟩ := (HL.out.below hB.out (fun j h _ => h)).at_ hkl
        have ps := push_any w.heap.size g _ (gt l k) _ hH.out (by rw [srt_length, List.length_take]; have := HN.out; omega)
        rw [← srt_snoc, ← gt_snoc l k hkl] at ps
        clear hb hlt
        go_wp2_with fail
        refine ps.mono ?_
        rintro e W2 ⟨rfl, g2, q1, q2, q3⟩
        have Q1 := Lib.hid q1
        have Q2 : Hid (w.heap.size ≤ g2) := Lib.hid (by have := hg.out; have := hB.out.size; omega)
        have Q3 := Lib.hid (hB.out.trans (q3.below (B := w.heap.size) (fun j hj => by have := hg.out; omega) hB.out.size))
        clear ps q1 q2 q3
        go_wp2
        go_roundg (gk - 1)
        case measure => have := hk.out; omega
        case rel => exact ⟨k + 1, g2, by go_num, Lib.hid (by have := hk.out; omega), Q1, Q2, Q3⟩
      · have d1 : decide ((k : Int) < (l.length : Int)) = false := decide_eq_false (by omega)
        have d2 : decide (k < l.length) = false := decide_eq_false hkl
        have hH2 := hH.out
        rw [List.take_of_length_le (by omega)] at hH2
        obtain ⟨m, hm⟩ : ∃ m, srt l = m := ⟨_, rfl⟩
        rw [hm] at hH2
        have hml : Hid (m.length = l.length) := Lib.hid (by rw [← hm, srt_length])
        have hma : Hid (Asc m) := Lib.hid (by rw [← hm]; exact srt_asc l)
        have hmp : Hid (m.Perm l) := Lib.hid (by rw [← hm]; exact srt_perm l)
        clear hm
        have H3 := Lib.hid (hH2.below (below_alloc1 wr (.cells #[] 32)) (Nat.le_refl _))
        have R3 := Lib.hid (Rw.lit wr 32 [] #[] rfl (by simp))
        have B3 := Lib.hid (hB.out.alloc hB.out.size (.cells #[] 32))
        have N3 : Hid (wr.heap.size ≠ w.heap.size ∧ wr.heap.size ≠ g ∧ w.heap.size ≤ wr.heap.size) := Lib.hid (by have := hH2.lt; have := hH2.glt; omega)
        clear hH2 hH hB hk
        go_wp2_with fail
        go_loopg [5, 6] l.length (fun gf vo vi wx => ∃ (k go co : Nat) (o : List It), vi = .int .i64 (k : Int) ∧ vo = .slice (some ⟨go, 0, none⟩) o.length co ∧ Hid (k + gf = l.length) ∧ Hid (o = m.take k) ∧ Hid (Rw 32 wx go co o) ∧ Hid (Hp wx w.heap.size g (m.drop k)) ∧ Hid (go ≠ w.heap.size ∧ go ≠ g ∧ w.heap.size ≤ go) ∧ Hid (Below w.heap.size w wx))
        case atStart => exact ⟨0, wr.heap.size, 0, [], rfl, rfl, Lib.hid (by omega), Lib.hid (by simp), R3, by simpa using H3, N3, B3⟩
        case round =>
          obtain ⟨k, go, co, o, rfl, rfl, hk, ho, hR, hH, hN, hB⟩ := hrel
          clear R3 H3 N3 B3
          by_cases hkl2 : k < l.length
          · have d1 : (k : Int) < (l.length : Int) := by omega
            have w1 : wrap64 ((k : Int) + 1) = (k : Int) + 1 := by have := HN.out; unfold wrap64; omega
            have es : some_ (m.drop k) = true := by
              rw [drop_gt m k (by have := hml.out; omega)]
              rfl
            have pp := pop_any w.heap.size g (m.drop k) _ hH.out (by have := hml.out; have := HN.out; simp; omega)
            rw [drop_tail, drop_hd, es] at pp
            clear es
            have HX : Hid (gt m k = gt m k) := Lib.hid rfl
            obtain ⟨x, hx⟩ : ∃ x, gt m k = x := ⟨_, rfl⟩
            rw [hx] at pp
            have HX := Lib.hid hx.symm
            clear hx
            go_wp2_with fail
            refine pp.mono ?_
            rintro e W2 ⟨rfl, s1, s2⟩
            have n1 := hN.out
            obtain ⟨W3, hW3⟩ : ∃ W3, W2.alloc (.cells #[.int .u64 x.1, .int .i64 x.2] 32) = W3 := ⟨_, rfl⟩
            have b3 : Below W2.heap.size W2 W3 := hW3 ▸ below_alloc1 W2 _
            have hR3 := Lib.hid ((hR.out.kp s2 (by omega)).below b3 (hR.out.kp s2 (by omega)).lt)
            have hH3 := Lib.hid (s1.below b3 (Nat.le_refl _))
            have hx3 : Hid (W3.heap[W2.heap.size]? = some (.cells #[.int .u64 x.1, .int .i64 x.2] 32 (0, 0))) := Lib.hid (hW3 ▸ Go.heap_alloc_new W2 _)
            have hB3 := Lib.hid ((hB.out.trans (s2.below (B := w.heap.size) (fun j hj => by have := hg.out; omega) hB.out.size)).trans (b3.mono (by have := hB.out.size; have := s2.size; omega)))
            obtain ⟨xk1, xk2, -, -⟩ := blk2 hx3.out
            clear pp s1 s2 n1 b3 hR hH hB
            cases k with
            | zero =>
              have zx : True := trivial
              have zy : True := trivial
              have za : True := trivial
              have k1 := cell_regrown xk1
              have k2 := cell_regrown xk2
              go_wp2_with fail
              refine wp_region_quiet_below (by kernel_rfl) (by kernel_rfl) ?_
              repeat (first | go_big_quiet_skip | go_big_quiet_step (first | (with_reducible exact zx _ _) | (with_reducible exact zy _ _) | (with_reducible exact za _ _)))
              refine wpQuiet_nil ?_
              intro _ hw'
              obtain ⟨⟨dq, osq⟩, hw''⟩ := hw'
              have hbq : Below W3.heap.size W3 (Sort.grow (redrawn W3 dq) osq) := below_regrown W3 dq osq
              subst hw''
              generalize Sort.grow (redrawn W3 dq) osq = W4 at *
              clear zx zy za

              clear k1 k2 xk1 xk2
              have R4 := hR3.out.below hbq hR3.out.lt
              have hx4 := (hbq.block _ (lt_of_block hx3.out)).trans hx3.out
              have H4 := hH3.out.below hbq (Nat.le_refl _)
              have B4 := hB3.out.trans (hbq.mono hB3.out.size)
              obtain ⟨xc1, xc2, -, -⟩ := blk2 hx4
              have hA5 := R4.kp (Kp.refl (fun _ => False) W4 |>.alloc (.cells #[.int .u64 x.1, .int .i64 x.2] 32)) (fun h => h)
              have hl5 := Rw.lit W4 32 [x] #[.int .u64 x.1, .int .i64 x.2] rfl (by simp [maxLen])
              have bnd : Hid (o.length ≤ 100) := Lib.hid (by rw [ho.out, List.length_take]; have := HN.out; omega)
              go_wp2_with (at_builtin; refine wpList_app _ rfl (.tmp 58) (.tmp 60) 22 rfl 32 i32 _ Try.underlying22 hi hz hsz hby rfl go co o rfl hA5 _ _ 1 _ [x] rfl rfl hl5.bs (by have := bnd.out; simp; omega) ?_; intro l5 g5 c5 w5 hL5 hR5 hK5 hG5)
              have n1 := hN.out
              have s4 := lt_of_block hx4
              have R5 := Lib.hid hR5
              have H5 := Lib.hid ((H4.below (below_alloc1 W4 (.cells #[.int .u64 x.1, .int .i64 x.2] 32)) (Nat.le_refl _)).kp hK5 (by omega) (by omega))
              have B5 := Lib.hid ((B4.alloc B4.size (.cells #[.int .u64 x.1, .int .i64 x.2] 32)).trans (hK5.below (B := w.heap.size) (fun j hj => by omega) (by have := B4.size; simp; omega)))
              have N5 : Hid (g5 ≠ w.heap.size ∧ g5 ≠ g ∧ w.heap.size ≤ g5) := Lib.hid (by
                rcases hG5 with e | e
                · rw [e]; exact n1
                · have q1 := H4.lt
                  have q2 := H4.glt
                  have q3 := B4.size
                  simp at e
                  omega)
              have L5 : Hid (l5 = m.take (0 + 1)) := Lib.hid (by rw [hL5.out, ho.out, HX.out, ← gt_snoc m _ (by have := hml.out; omega)])
              clear n1 s4 hR5 hK5 hG5 hL5 hA5 hl5 R4 hx4 H4 B4 hbq xc1 xc2 bnd
              go_wp2
              go_roundg (gk - 1)
              case measure => have := hk.out; omega
              case rel => exact ⟨0 + 1, g5, c5, l5, by go_num, rfl, Lib.hid (by have := hk.out; omega), L5, R5, H5, N5, B5⟩
            | succ j =>
              have hol : j < o.length := by rw [ho.out, List.length_take]; have := hml.out; omega
              have hoj : gt o j = gt m j := by
                rw [ho.out]
                unfold gt List.getD
                rw [List.getElem?_take, if_pos (by omega)]
              have hord : lt x (gt m j) = false := by rw [HX.out]; exact asc_gt hma.out (by omega) (by have := hml.out; omega)
              obtain ⟨y1, y2⟩ := hR3.out.cell hol
              rw [hoj] at y1 y2
              have hjo : (j : Int) < (o.length : Int) := by omega
              have wj : wrap64 (j : Int) = (j : Int) := by have := HN.out; unfold wrap64; omega
              have ws : wrap64 ((j : Int) + 1 + 1) = (j : Int) + 1 + 1 := by have := HN.out; unfold wrap64; omega
              have k1 := cell_regrown xk1
              have k2 := cell_regrown xk2
              have k3 := cell_regrown y1
              have k4 := cell_regrown y2
              have zx : ∀ dd os, Calls Try.prog 13 #[iv x] (Sort.grow (redrawn W3 dd) os) fun e w'' => e = .returned (iv x) ∧ ∃ p : Regrown, w'' = Sort.grow (redrawn W3 p.d) p.os := fun dd os => Calls.regrown_of (plain_any _ _)
              have zy : ∀ dd os, Calls Try.prog 13 #[iv (gt m j)] (Sort.grow (redrawn W3 dd) os) fun e w'' => e = .returned (iv (gt m j)) ∧ ∃ p : Regrown, w'' = Sort.grow (redrawn W3 p.d) p.os := fun dd os => Calls.regrown_of (plain_any _ _)
              have za : ∀ dd os, Calls Try.prog 20 #[iv x, iv (gt m j)] (Sort.grow (redrawn W3 dd) os) fun e w'' => e = .returned (.bool false) ∧ ∃ p : Regrown, w'' = Sort.grow (redrawn W3 p.d) p.os := fun dd os => Calls.regrown_of (by have h5 := ahead_any x (gt m j) (Sort.grow (redrawn W3 dd) os); rw [hord] at h5; exact h5)
              clear hol hoj hord
              generalize gt m j = y at *
              go_wp2_with fail
              refine wp_region_quiet_below (by kernel_rfl) (by kernel_rfl) ?_
              repeat (first | go_big_quiet_skip | go_big_quiet_step (first | (with_reducible exact zx _ _) | (with_reducible exact zy _ _) | (with_reducible exact za _ _)))
              refine wpQuiet_nil ?_
              intro _ hw'
              obtain ⟨⟨dq, osq⟩, hw''⟩ := hw'
              have hbq : Below W3.heap.size W3 (Sort.grow (redrawn W3 dq) osq) := below_regrown W3 dq osq
              subst hw''
              generalize Sort.grow (redrawn W3 dq) osq = W4 at *
              clear zx zy za

              clear k1 k2 k3 k4 xk1 xk2 y1 y2
              have R4 := hR3.out.below hbq hR3.out.lt
              have hx4 := (hbq.block _ (lt_of_block hx3.out)).trans hx3.out
              have H4 := hH3.out.below hbq (Nat.le_refl _)
              have B4 := hB3.out.trans (hbq.mono hB3.out.size)
              obtain ⟨xc1, xc2, -, -⟩ := blk2 hx4
              have hA5 := R4.kp (Kp.refl (fun _ => False) W4 |>.alloc (.cells #[.int .u64 x.1, .int .i64 x.2] 32)) (fun h => h)
              have hl5 := Rw.lit W4 32 [x] #[.int .u64 x.1, .int .i64 x.2] rfl (by simp [maxLen])
              have bnd : Hid (o.length ≤ 100) := Lib.hid (by rw [ho.out, List.length_take]; have := HN.out; omega)
              go_wp2_with (at_builtin; refine wpList_app _ rfl (.tmp 58) (.tmp 60) 22 rfl 32 i32 _ Try.underlying22 hi hz hsz hby rfl go co o rfl hA5 _ _ 1 _ [x] rfl rfl hl5.bs (by have := bnd.out; simp; omega) ?_; intro l5 g5 c5 w5 hL5 hR5 hK5 hG5)
              have n1 := hN.out
              have s4 := lt_of_block hx4
              have R5 := Lib.hid hR5
              have H5 := Lib.hid ((H4.below (below_alloc1 W4 (.cells #[.int .u64 x.1, .int .i64 x.2] 32)) (Nat.le_refl _)).kp hK5 (by omega) (by omega))
              have B5 := Lib.hid ((B4.alloc B4.size (.cells #[.int .u64 x.1, .int .i64 x.2] 32)).trans (hK5.below (B := w.heap.size) (fun j hj => by omega) (by have := B4.size; simp; omega)))
              have N5 : Hid (g5 ≠ w.heap.size ∧ g5 ≠ g ∧ w.heap.size ≤ g5) := Lib.hid (by
                rcases hG5 with e | e
                · rw [e]; exact n1
                · have q1 := H4.lt
                  have q2 := H4.glt
                  have q3 := B4.size
                  simp at e
                  omega)
              have L5 : Hid (l5 = m.take ((j + 1) + 1)) := Lib.hid (by rw [hL5.out, ho.out, HX.out, ← gt_snoc m _ (by have := hml.out; omega)])
              clear n1 s4 hR5 hK5 hG5 hL5 hA5 hl5 R4 hx4 H4 B4 hbq xc1 xc2 bnd
              go_wp2
              go_roundg (gk - 1)
              case measure => have := hk.out; omega
              case rel => exact ⟨(j + 1) + 1, g5, c5, l5, by go_num, rfl, Lib.hid (by have := hk.out; omega), L5, R5, H5, N5, B5⟩
          · skip
            have d1' : decide ((k : Int) < (l.length : Int)) = false := decide_eq_false (by omega)
            have d2' : decide (k < l.length) = false := decide_eq_false hkl2
            have hom : o = m := by rw [ho.out, List.take_of_length_le (by have := hml.out; omega)]
            have hH2 := hH.out
            rw [List.drop_eq_nil_of_le (by have := hml.out; omega)] at hH2
            subst hom
            have HH := Lib.hid hH2
            clear hH2 hH ho hk hN
            go_wp2_with fail
            go_loopg [9] l.length (fun gf vi wx => ∃ (k : Nat), vi = .int .i64 (k : Int) ∧ Hid (k + gf = l.length) ∧ Hid (Rw 32 wx go co o) ∧ Hid (Hp wx w.heap.size g []) ∧ Hid (Below w.heap.size w wx))
            case atStart => exact ⟨0, rfl, Lib.hid (by omega), hR, HH, hB⟩
            case round =>
              obtain ⟨k, rfl, hk, hR, hH, hB⟩ := hrel
              by_cases hkl3 : k < l.length
              · have d1 : (k : Int) < (l.length : Int) := by omega
                have w1 : wrap64 ((k : Int) + 1) = (k : Int) + 1 := by have := HN.out; unfold wrap64; omega
                have hbl := HL.out.below hB.out (fun j h _ => h)
                have zx : ∀ dd os, Calls Try.prog 21 #[.slice A l.length c, iv (gt l k)] (Sort.grow (redrawn wr dd) os) fun e w'' => e = .returned (.int .i64 (cnt (gt l k) l : Int)) ∧ ∃ p : Regrown, w'' = Sort.grow (redrawn wr p.d) p.os := fun dd os => Calls.regrown_of (count_any _ A c l (gt l k) _ (hbl.below (below_regrown wr dd os) (fun _ _ h => h)) (by have := HN.out; omega))
                have zy : ∀ dd os, Calls Try.prog 21 #[.slice (some ⟨go, 0, none⟩) o.length co, iv (gt l k)] (Sort.grow (redrawn wr dd) os) fun e w'' => e = .returned (.int .i64 (cnt (gt l k) l : Int)) ∧ ∃ p : Regrown, w'' = Sort.grow (redrawn wr p.d) p.os := fun dd os => Calls.regrown_of (by
                  have h5 := count_any _ (some ⟨go, 0, none⟩) co o (gt l k) _ (hR.out.bs.below (below_regrown wr dd os) (fun _ _ h => h)) (by have := HN.out; have := hml.out; omega)
                  rw [cnt_perm hmp.out] at h5
                  exact h5)
                obtain ⟨b, off, rfl, hb, hlt, c1, c2⟩ := hbl.at_ hkl3
                have k1 := cell_regrown c1
                have k2 := cell_regrown c2
                clear hbl hb hlt
                generalize cnt (gt l k) l = nn at *
                generalize gt l k = y at *
                go_wp2_with fail
                refine wp_region_quiet_below (by kernel_rfl) (by kernel_rfl) ?_
                repeat (first | go_big_quiet_skip | go_big_quiet_step (first | (with_reducible exact zx _ _) | (with_reducible exact zy _ _)))
                refine wpQuiet_nil ?_
                intro _ hw'
                obtain ⟨⟨dq, osq⟩, hw''⟩ := hw'
                have hbq : Below wr.heap.size wr (Sort.grow (redrawn wr dq) osq) := below_regrown wr dq osq
                subst hw''
                generalize Sort.grow (redrawn wr dq) osq = W4 at *
                clear zx zy k1 k2 c1 c2
                have R5 := Lib.hid (hR.out.below hbq hR.out.lt)
                have H5 := Lib.hid (hH.out.below hbq (Nat.le_refl _))
                have B5 := Lib.hid (hB.out.trans (hbq.mono hB.out.size))
                clear hbq
                go_wp2
                go_roundg (gk - 1)
                case measure => have := hk.out; omega
                case rel => exact ⟨k + 1, by go_num, Lib.hid (by have := hk.out; omega), R5, H5, B5⟩
              · have d1'' : decide ((k : Int) < (l.length : Int)) = false := decide_eq_false (by omega)
                have d2'' : decide (k < l.length) = false := decide_eq_false hkl3
                go_wp2_with fail
                refine (alive_any _).mono ?_
                rintro e W5 ⟨rfl, b5⟩
                have ln : Calls Try.prog 17 #[.pointer (some ⟨w.heap.size, 0, none⟩)] W5 fun e w' => e = .returned (.int .i64 0) ∧ w' = W5 := len_any w.heap.size g [] W5 (hH.out.below b5 (Nat.le_refl _))
                have B6 := Lib.hid (hB.out.trans (b5.mono hB.out.size))
                clear b5
                go_wp2_with fail
                refine ln.mono ?_
                rintro e W6 ⟨rfl, hW6⟩
                subst hW6
                go_wp2
                go_ret
                exact ⟨rfl, B6.out⟩
end Go.Proofs.Ytghflhcpinimcaa
