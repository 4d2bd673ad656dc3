/-
  The contract of the program's Idle. No statement is proved here; no conditions.
-/
import Derived.Test.YtkofpijhihghpaaDoorAd
namespace Go.Proofs.YtkofpijhihghpaaDoor
open Go.RowKit Go.Joins

/-- Numbers as cells. -/
abbrev its (l : List Int) : List Value := l.map fun n => .int .i64 n
theorem its_one (l : List Int) : ∀ u ∈ its l, u.oneCell' = true := by
  intro u hu
  obtain ⟨x, _, rfl⟩ := List.mem_map.1 hu
  rfl
theorem any_fsi (p : Ru → Bool) (l : List Ru) : l.any p = decide (fsi p l < l.length) := by
  rw [Bool.eq_iff_iff]
  simp only [fsi, decide_eq_true_eq, List.findIdx_lt_length, List.any_eq_true]
/-- One number more. -/
theorem int_app {S : Nat → Prop} {w : World} {A : Option Addr} {c n : Nat} {L : List Int} (h : Ob 3 1 S w A c (its L)) (hn : L.length = n) (hl : n ≤ 100000) (x : Int) (n0 : Nat) (hn0 : w.heap.size = n0) :
    ∃ g' c' w', (Builtin.append_ #[57, 57] 57 #[.slice A n c, .slice (some ⟨n0, 0, none⟩) 1 1]).run Tryd.prog (w.alloc (.cells #[.int .i64 x] 3)) = .ok (.slice (some ⟨g', 0, none⟩) (n + 1) c') w' ∧ Rg 3 1 w' g' c' (its (L ++ [x])) ∧ Kp S w w' ∧ (S g' ∨ n0 < g') := by
  obtain ⟨ti, hi5, hz5, hsz5, hby5⟩ := info3
  have := app_one (P := Tryd.prog) Tryd.underlying57 hi5 hz5 hsz5 hby5 rfl (by omega) (by omega) h (n := n) (by simp [hn]) (its [x]) rfl (its_one _) (by omega) n0 hn0
  rw [show its (L ++ [x]) = its L ++ its [x] from List.map_append]
  exact this
set_option maxRecDepth 100000 in
set_option maxHeartbeats 1000000 in
theorem idle_any (A0 : Option Addr) (c : Nat) (l : List Ru) (w : World) (hl : Sl w A0 c l) (hll : l.length ≤ 10000) (hA : ∀ x ∈ l, x.A < 4294967296) :
    Calls Tryd.prog 28 #[.slice A0 l.length c] w fun e w' => ∃ A' c', e = .returned (.slice A' (idk l l.length).length c') ∧ Rd (fun _ => True) w' A' (its (idk l l.length)) ∧ Below w.heap.size w w' := by
  have HL := Lib.hid hl
  have HA := Lib.hid hA
  have hcap := hl.cap
  have hmax := hl.max
  obtain ⟨ln, hln⟩ : ∃ ln, l.length = ln := ⟨_, rfl⟩
  rw [hln] at hll hcap ⊢
  have HLN := Lib.hid hln
  clear hl hA hln
  go_enter Tryd.func28, Tryd.ntmps28
  go_wp2_with fail
  go_loopg [3, 9] ln (fun gf v3 v9 wx => ∃ (k n : Nat) (A' : Option Addr) (c' : Nat), v3 = .slice A' n c' ∧ v9 = .int .i64 (k : Int) ∧ Hid (gf + k = ln) ∧ Hid (n = (idk l k).length) ∧ Hid (Ob 3 1 (w.heap.size ≤ ·) wx A' c' (its (idk l k))) ∧ Hid (Below w.heap.size w wx))
  case atStart => exact ⟨0, 0, none, 0, rfl, rfl, Lib.hid (by omega), Lib.hid rfl, Lib.hid (.inl ⟨rfl, rfl, rfl⟩), Lib.hid (Below.refl _ _)⟩
  case round =>
    obtain ⟨k, n, A', c', rfl, rfl, hk, hn, ho, hb⟩ := hrel
    have hk' := hk.out
    cases gk with
    | zero =>
      have e1 : k = ln := by omega
      have lt0 : decide ((k : Int) < (ln : Int)) = false := by simp; omega
      have lt1 : decide (k < ln) = false := by simp; omega
      go_wp2
      go_ret
      have h1 := hn.out
      have h2 := ho.out
      rw [e1] at h1 h2
      refine ⟨A', c', ?_, h2.rd, hb.out⟩
      rw [h1]
      rfl
    | succ gf =>
      have hkl : k < l.length := by rw [HLN.out]; omega
      have lt0 : (k : Int) < (ln : Int) := by omega
      have hkc : k ≤ c := by omega
      have hw1 : (k : Int) + 1 ≤ 10000 := by omega
      have hnk : n ≤ k := by rw [hn.out]; exact idk_len l k
      obtain ⟨b, off, hA0, _, e0, e1, e2, e3, e4, e5⟩ := (HL.out.step hb.out).rr.at hkl
      have hmem : gr l k ∈ l := by rw [gr_eq hkl]; exact List.getElem_mem _
      have hst : idk l (k + 1) = if (l.take k).any (fun y => hds y (gr l k)) then idk l k ++ [(gr l k).s] else idk l k := rfl
      obtain ⟨x, hx⟩ : ∃ x, gr l k = x := ⟨_, rfl⟩
      rw [hx] at e0 e1 e2 e3 e4 e5 hmem hst
      subst hA0
      have hxA := HA.out x hmem
      obtain ⟨W1, hW1⟩ : ∃ W1, wr.alloc (.cells #[.int .i64 x.s, .bool x.p, .int .u32 (x.A : Int), .int .i64 x.N, .int .i64 x.g, .int .i64 x.l] 26) = W1 := ⟨_, rfl⟩
      have b1 : Below wr.heap.size wr W1 := by rw [← hW1]; exact below_alloc1 _ _
      have HB1 : Hid (Below w.heap.size w W1) := Lib.hid (hb.out.trans (b1.mono hb.out.size))
      have KB : ∀ V, Below W1.heap.size W1 V → V.heap[wr.heap.size]? = some (.cells #[.int .i64 x.s, .bool x.p, .int .u32 (x.A : Int), .int .i64 x.N, .int .i64 x.g, .int .i64 x.l] 26) := fun V hV => by
        rw [hV.block wr.heap.size (by rw [← hW1]; simp), ← hW1]
        exact alloc_at _ _ _ rfl
      have O1 := Lib.hid (ho.out.below b1)
      have cf := first_any (some ⟨b, off, none⟩) c (l.take k) 52 (.pointer (some ⟨wr.heap.size, 0, none⟩)) (fun y => hds y x) W1 ((HL.out.step HB1.out).rr.take k) (by simp; omega) enters52 (fun V y hy hV => chd_any y x wr.heap.size V (HA.out y (List.mem_of_mem_take hy)) hxA (KB V hV))
      rw [any_fsi] at hst
      obtain ⟨R, hR⟩ : ∃ R, fsi (fun y => hds y x) (l.take k) = R := ⟨_, rfl⟩
      rw [hR] at cf hst
      have hlk : (l.take k).length = k := by simp; omega
      rw [hlk] at cf hst
      have HST := Lib.hid hst
      have HKB := Lib.hid KB
      clear hx hst hR b1 hmem KB hxA hlk hkl ho
      go_wp2_with fail
      refine cf.mono ?_
      rintro e W2 ⟨rfl, hb2⟩
      have HB2 : Hid (Below w.heap.size w W2) := Lib.hid (HB1.out.trans (hb2.mono HB1.out.size))
      have O2 := Lib.hid (O1.out.below hb2)
      obtain ⟨k0, _, _, _, _, _⟩ := rb_at (HKB.out W2 hb2)
      clear cf hW1 O1 HB1 hb2 HKB hb e0 e1 e2 e3 e4 e5
      by_cases hq : R < k
      · have q1 : (R : Int) < (k : Int) := by omega
        have hs2 : Hid (idk l (k + 1) = idk l k ++ [x.s]) := Lib.hid (by rw [HST.out, decide_eq_true hq]; rfl)
        obtain ⟨m, hm⟩ : ∃ m, W2.heap.size = m := ⟨_, rfl⟩
        have hsz := HB2.out.size
        obtain ⟨g', c2, W3, r1, r2, r3, r4⟩ := int_app O2.out hn.out.symm (by omega) x.s m hm
        have HO : Hid (Ob 3 1 (w.heap.size ≤ ·) W3 (some ⟨g', 0, none⟩) c2 (its (idk l (k + 1)))) := Lib.hid (by rw [hs2.out]; exact Ob.next r2 r4 (by omega))
        have HB3 : Hid (Below w.heap.size w W3) := Lib.hid (HB2.out.trans (r3.below (fun _ h => h) hsz))
        clear r2 r3 r4 O2 HB2 HST
        go_wp2_with (at_builtin; refine wpList_runb _ rfl (.tmp 23) (.tmp 26) 57 rfl rfl rfl r1 ?_)
        go_wp2
        go_roundg gf
        case measure => omega
        case rel => exact ⟨k + 1, n + 1, _, c2, by go_num, by go_num, Lib.hid (by omega), Lib.hid (by rw [hs2.out, List.length_append, ← hn.out]; rfl), HO, HB3⟩
      · have q1 : decide ((R : Int) < (k : Int)) = false := by simp; omega
        have q2 : decide (R < k) = false := by simp; omega
        have hs2 : Hid (idk l (k + 1) = idk l k) := Lib.hid (by rw [HST.out, decide_eq_false hq]; rfl)
        clear HST
        go_wp2
        go_roundg gf
        case measure => omega
        case rel => exact ⟨k + 1, n, A', c', rfl, by go_num, Lib.hid (by omega), Lib.hid (by rw [hs2.out]; exact hn.out), Lib.hid (by rw [hs2.out]; exact O2.out), HB2⟩
end Go.Proofs.YtkofpijhihghpaaDoor
