/-
  Contracts of strings.SplitN at a blank, and of the program's option. No statement is proved here; no conditions.
-/
import Derived.Test.YtkofpijhihghpaaDoorQw
namespace Go.Proofs.YtkofpijhihghpaaDoor
open Go.RowKit Go.Joins

theorem indexB_st (l : List UInt8) (c : UInt8) : Lib.indexB (st l) (st [c]) = Lib.indexByte l c := indexB_one c l
theorem splitB_st : ∀ (k : Nat) (l : List UInt8), Lib.splitB (st [32]) 0 k (st l) = (spl k l).map st := by
  intro k
  induction k with
  | zero => intro l; rfl
  | succ k ih =>
    intro l
    unfold spl
    by_cases h : 32 ∈ l
    · rw [if_pos h, Lib.splitB_hit (st [32]) 0 k (st l) (cutA 32 l).length (by rw [indexB_st, index_in 32 l h]), List.map_cons, ← ih]
      have e := cut_in 32 l h
      clear ih h
      generalize cutA 32 l = X at e ⊢
      generalize cutB 32 l = Y at e ⊢
      subst e
      congr 1
      · exact st_ext1 _ _ _ rfl
      · congr 1
        rw [show X ++ 32 :: Y = (X ++ [32]) ++ Y by simp]
        refine st_ext2 _ _ _ _ ?_ ?_
        · rw [st_size]; simp
        · rw [st_size]
    · rw [if_neg h, Lib.splitB_miss (st [32]) 0 (k + 1) (st l) (by rw [indexB_st]; exact (index_out 32 l h).1)]
      rfl
theorem spl_word : ∀ (k : Nat) (l : List UInt8), ∀ a ∈ spl k l, a.length ≤ l.length := by
  intro k
  induction k with
  | zero => intro l a ha; simp [spl] at ha; rw [ha]; exact Nat.le_refl _
  | succ k ih =>
    intro l a ha
    unfold spl at ha
    split at ha
    · rename_i h
      have e := congrArg List.length (cut_in 32 l h)
      simp at e
      rcases List.mem_cons.1 ha with rfl | ha
      · omega
      · have := ih _ a ha; omega
    · simp at ha
      rw [ha]
      exact Nat.le_refl _
theorem gens_any (l : List UInt8) (w : World) (hl : l.length ≤ 1000) :
    Calls Tryd.prog 54 #[.string (st l), .string (st [32]), .int .i64 ((0 : Nat) : Int), .int .i64 8] w fun e w' =>
      e = .returned (.slice (some ⟨w.heap.size, 0, none⟩) (Lib.splitB (st [32]) 0 (min 8 (l.length + 1) - 1) (st l)).length (min 8 (l.length + 1))) ∧ w' = w.alloc (.cells (Lib.cellsOf (Lib.splitB (st [32]) 0 (min 8 (l.length + 1) - 1) (st l)) (min 8 (l.length + 1))) 9) :=
  Any.strings_genSplit_core (P := Tryd.prog) (ρ := Tryd.lays221_ren) Tryd.lays221 (by kernel_rfl) (st l) (st [32]) 0 8 (min 8 (l.length + 1)) w (by rw [st_size]; omega) (by rw [st_size]; simp) (by omega)
    (fun x c _ => (Tryd.strings_Index_one x 32 _).mono fun e w' ⟨he, hw⟩ => ⟨by rw [he, st_of x, indexB_st], hw⟩)
    ((Tryd.strings_Count_one (st l) 32 w).mono fun e w' ⟨he, hw⟩ => ⟨by
      rw [he]
      show _ = Ending.returned (Value.int .i64 ((Lib.count l [32] : Nat) : Int))
      rw [Lib.count_one]
      rfl, hw⟩) (by omega) (by omega) (by rw [if_neg (by omega), st_size]; omega)
/-- Words in a slice. -/
structure Ss (w : World) (A : Option Addr) (c : Nat) (ws : List (List UInt8)) : Prop where
  rd : Rd (fun _ => True) w A (strs ws)
  cap : ws.length ≤ c
  max : c ≤ 9223372036854775807
theorem Ss.step {w w' : World} {A : Option Addr} {c : Nat} {ws : List (List UInt8)} (h : Ss w A c ws) (k : Below w.heap.size w w') : Ss w' A c ws := ⟨h.rd.keep k.size fun j _ hj => k.block j hj, h.cap, h.max⟩
def gws (ws : List (List UInt8)) (k : Nat) : List UInt8 := ws.getD k []
theorem Ss.at {w : World} {A : Option Addr} {c : Nat} {ws : List (List UInt8)} (h : Ss w A c ws) {k : Nat} (hk : k < ws.length) : ∃ b off, A = some ⟨b, off, none⟩ ∧ w.cell? ⟨b, off + k, none⟩ = some (.string (st (gws ws k))) := by
  have hne : strs ws ≠ [] := by
    intro e
    have := congrArg List.length e
    simp at this
    rw [this] at hk
    simp at hk
  obtain ⟨b, off, rfl, _, _, hc⟩ := h.rd hne
  exact ⟨b, off, rfl, hc k _ (by simp [hk, gws, List.getD])⟩
theorem Ss.drop {w : World} {b off c : Nat} {ws : List (List UInt8)} (h : Ss w (some ⟨b, off, none⟩) c ws) (k : Nat) : Ss w (some ⟨b, off + k, none⟩) (c - k) (ws.drop k) := by
  refine ⟨fun hne => ?_, by have := h.cap; rw [List.length_drop]; omega, by have := h.max; omega⟩
  have hne2 : strs ws ≠ [] := by
    intro e
    have e2 : ws = [] := by simpa using e
    rw [e2] at hne
    simp at hne
  obtain ⟨b', off', e, hb, hlt, hc⟩ := h.rd hne2
  simp only [Option.some.injEq, Addr.mk.injEq] at e
  obtain ⟨rfl, rfl, _⟩ := e
  refine ⟨b, off + k, rfl, hb, hlt, fun j u hu => ?_⟩
  rw [show strs (ws.drop k) = (strs ws).drop k from List.map_drop, List.getElem?_drop] at hu
  have := hc _ _ hu
  rwa [← Nat.add_assoc] at this
set_option maxHeartbeats 1000000 in
theorem split_any (l : List UInt8) (w : World) (hl : l.length ≤ 1000) :
    Calls Tryd.prog 30 #[.string (st l), .string (st [32]), .int .i64 8] w fun e w' => ∃ c', e = .returned (.slice (some ⟨w.heap.size, 0, none⟩) (spl (min 8 (l.length + 1) - 1) l).length c') ∧ Ss w' (some ⟨w.heap.size, 0, none⟩) c' (spl (min 8 (l.length + 1) - 1) l) ∧ Below w.heap.size w w' := by
  have c := gens_any l w hl
  obtain ⟨n, hn⟩ : ∃ n, min 8 (l.length + 1) = n := ⟨_, rfl⟩
  rw [hn] at c ⊢
  have hn1 : 1 ≤ n ∧ n ≤ 8 := by omega
  rw [splitB_st] at c
  have hlen := spl_len (n - 1) l
  generalize spl (n - 1) l = ws at *
  rw [List.length_map] at c
  have hR : Hid (Ss (w.alloc (.cells (Lib.cellsOf (ws.map st) n) 9)) (some ⟨w.heap.size, 0, none⟩) n ws) := Lib.hid (by
    refine ⟨?_, by omega, by omega⟩
    have hrg : Rg 9 1 (w.alloc (.cells (Lib.cellsOf (ws.map st) n) 9)) w.heap.size n (strs ws) := by
      refine ⟨_, Go.heap_alloc_new w _, by simp; omega, by unfold maxLen; omega, ?_, ?_⟩
      · rw [Lib.cellsOf_size (by simp; omega)]; omega
      · simp [Lib.cellsOf, List.map_map]
    exact hrg.rd.more fun _ _ _ => trivial)
  have hB : Hid (Below w.heap.size w (w.alloc (.cells (Lib.cellsOf (ws.map st) n) 9))) := Lib.hid (below_alloc1 _ _)
  go_enter Tryd.func30, Tryd.ntmps30
  go_wp2_with fail
  refine c.mono ?_
  rintro e w' ⟨rfl, hw⟩
  rw [hw]
  go_wp2
  go_ret
  exact ⟨n, rfl, hR.out, hB.out⟩
set_option maxRecDepth 100000 in
theorem option_any (A : Option Addr) (c : Nat) (ws : List (List UInt8)) (nm : List UInt8) (w : World) (h : Ss w A c ws) (hl : ws.length ≤ 1000) (hw : ∀ a ∈ ws, a.length ≤ 1000) (_hnm : nm.length ≤ 10) :
    Calls Tryd.prog 33 #[.slice A ws.length c, .string (st nm)] w fun e w' => ∃ A' c', e = .returned (.tuple #[.int .i64 ((opt nm ws).1 : Int), .slice A' (opt nm ws).2.length c']) ∧ (∀ V, Ss V A c ws → Ss V A' c' (opt nm ws).2) ∧ Below w.heap.size w w' := by
  have hcap := h.cap
  have hmax := h.max
  match ws, h, hl, hw, hcap with
  | [], h, hl, hw, hcap =>
    have e1 : opt nm [] = (0, []) := rfl
    rw [e1]
    have H := Lib.hid h
    clear h
    go_enter Tryd.func33, Tryd.ntmps33
    go_wp2
    go_ret2
    exact ⟨A, c, rfl, fun _ h => h, Below.refl _ _⟩
  | [a], h, hl, hw, hcap =>
    have e1 : opt nm [a] = (0, [a]) := rfl
    rw [e1]
    have H := Lib.hid h
    clear h
    go_enter Tryd.func33, Tryd.ntmps33
    go_wp2
    go_ret2
    exact ⟨A, c, rfl, fun _ h => h, Below.refl _ _⟩
  | a :: b :: r, h, hl, hw, hcap =>
    obtain ⟨bb, off, hA, c0⟩ := h.at (k := 0) (by simp)
    obtain ⟨bb', off', hA', c1⟩ := h.at (k := 1) (by simp)
    subst hA
    simp only [Option.some.injEq, Addr.mk.injEq] at hA'
    obtain ⟨rfl, rfl, _⟩ := hA'
    have g0 : gws (a :: b :: r) 0 = a := rfl
    have g1 : gws (a :: b :: r) 1 = b := rfl
    rw [g0, Nat.add_zero] at c0
    rw [g1] at c1
    have hbl := hw b (by simp)
    obtain ⟨n, hn⟩ : ∃ n, r.length = n := ⟨_, rfl⟩
    have hwl : (a :: b :: r).length = n + 2 := by simp [hn]
    rw [hwl] at hl hcap ⊢
    have H := Lib.hid h
    clear h
    have cn := fun W => pnum_any b W (by omega)
    by_cases q1 : a = nm
    · have n1 : (a == nm) = true := by simpa using q1
      have n0 : decide ((n : Int) + 2 < 2) = false := by simp; omega
      by_cases q2 : num b = 0
      · have e1 : opt nm (a :: b :: r) = (0, a :: b :: r) := by simp [opt, q1, q2]
        have E := Lib.hid e1
        rw [q2] at cn
        clear e1
        go_enter Tryd.func33, Tryd.ntmps33
        go_wp2_with fail
        refine (cn _).mono ?_
        rintro e W1 ⟨rfl, hb1⟩
        go_wp2
        go_ret2
        rw [E.out]
        exact ⟨_, c, by rw [← hwl]; rfl, fun _ h => h, hb1⟩
      · have e1 : opt nm (a :: b :: r) = (num b, r) := by simp [opt, q1, q2]
        have E := Lib.hid e1
        have n2 : ((num b : Int) == 0) = false := by simp; omega
        have hnb := num_le b
        obtain ⟨v, hv⟩ : ∃ v, num b = v := ⟨_, rfl⟩
        rw [hv] at cn n2 hnb E
        clear e1 q2 hv
        have hc2 : (2 : Int) ≤ ((n + 2 : Nat) : Int) := by omega
        have hdr := H.out.drop 2
        go_enter Tryd.func33, Tryd.ntmps33
        go_wp2_with fail
        refine (cn _).mono ?_
        rintro e W1 ⟨rfl, hb1⟩
        go_wp2_with fail
        go_quiet (fail)
        have hse : ∀ V, Ss V (some ⟨bb, off, none⟩) c (a :: b :: r) → Ss V (if c = 2 then some ⟨bb, off, none⟩ else some ⟨bb, off + 2, none⟩) (c - 2) r := fun V hV => by
          have hd2 := hV.drop 2
          by_cases q : c = 2
          · have hn0 : r = [] := List.eq_nil_of_length_eq_zero (by omega)
            subst hn0
            exact ⟨Rd.nil _, hd2.cap, hd2.max⟩
          · rw [if_neg q]
            exact hd2
        have HSE := Lib.hid hse
        have HB : Hid (Below w.heap.size w (W1.drewN nq)) := Lib.hid (hb1.trans (below_draws _ _ nq))
        have HNL := Lib.hid hn
        clear hse hb1 hdr c0 c1 cn
        generalize (if c = 2 then some (⟨bb, off, none⟩ : Addr) else some ⟨bb, off + 2, none⟩) = A2 at *
        generalize W1.drewN nq = W2 at *
        go_wp2
        go_ret2
        rw [E.out]
        exact ⟨A2, c - 2, by rw [HNL.out]; rfl, HSE.out, HB.out⟩
    · have n1 : (a == nm) = false := by simpa using q1
      have n0 : decide ((n : Int) + 2 < 2) = false := by simp; omega
      have e1 : opt nm (a :: b :: r) = (0, a :: b :: r) := by simp [opt, q1]
      have E := Lib.hid e1
      clear e1
      go_enter Tryd.func33, Tryd.ntmps33
      go_wp2
      go_ret2
      rw [E.out]
      exact ⟨_, c, by rw [← hwl]; rfl, fun _ h => h, Below.refl _ _⟩
end Go.Proofs.YtkofpijhihghpaaDoor
