/-
  The contract of head's checksum. No statement is proved here; no conditions.
-/
import Derived.Test.YtfhickgdmcmodaaHd
namespace Go.Proofs.Ytfhickgdmcmodaa
open Go.RowKit Go.Joins

/-- The checksum that belongs into these bytes. -/
def ck (l : List Int) : Int := inet (l.take 12 ++ ([0, 0] ++ ((l.drop 14).take 2 ++ l.drop 24)))
theorem byt_lit (l : List Int) (h : l.all (fun x => decide (0 ≤ x ∧ x < 256)) = true) : Byt l := fun x hx => by
  have := List.all_eq_true.1 h x hx
  simpa using this
theorem inet_n (A : Option Addr) (n c : Nat) (l : List Int) (w : World) (hn : n = l.length) (hb : Bt w A l) (hy : Byt l) (hl : l.length ≤ 10000) :
    Calls Try.prog 29 #[.slice A n c] w fun e w' => e = .returned (.int .i64 (inet l)) ∧ w = w' := by
  subst hn
  exact inet_any A c l _ w hb hy hl
theorem concat_n (P0 : Option Addr) (n pc : Nat) (ps : List Pc) (w : World) (hn : n = ps.length) (hP : Ps w P0 ps) (hr : ∀ p ∈ ps, Bt w p.a p.l) (hpl : ps.length ≤ 100) (hll : (cat ps).length ≤ 10000) :
    Calls Try.prog 25 #[.slice P0 n pc] w fun e w' => ∃ A' c', e = .returned (.slice A' (cat ps).length c') ∧ Own .u8 5 w' w.heap.size A' c' (cat ps) ∧ Below w.heap.size w w' := by
  subst hn
  exact concat_any P0 pc ps w hP hr hpl hll
theorem Ps.mk (w : World) (e : TypeId) (ps : List Pc) (vs : Array Value) (n : Nat) (hn : w.heap.size = n) (hv : vs = (ps.map pv).toArray) : Ps (w.alloc (.cells vs e)) (some ⟨n, 0, none⟩) ps := by
  subst hv hn
  exact Ps.lit w e ps
set_option maxRecDepth 100000 in
theorem check_any (A : Option Addr) (c : Nat) (l : List Int) (w : World) (hb : Bt w A l) (hy : Byt l) (h24 : 24 ≤ l.length) (hc : l.length ≤ c) (hl : l.length ≤ 5000) :
    Calls Try.prog 19 #[.slice A l.length c] w fun e w' => e = .returned (.int .i64 (ck l)) ∧ Below w.heap.size w w' := by
  obtain ⟨b, off, rfl, hlt, -⟩ := hb (by rintro rfl; simp at h24)
  obtain ⟨A2, hA2⟩ : ∃ A2, (if c = 24 then (some ⟨b, off, none⟩ : Option Addr) else some ⟨b, off + 24, none⟩) = A2 := ⟨_, rfl⟩
  have q1 : Bt w (some ⟨b, off, none⟩) (l.take 12) := hb.take 12
  have q3 : Bt w (some ⟨b, off + 14, none⟩) ((l.drop 14).take 2) := (hb.drop 14 (some ⟨b, off + 14, none⟩) (fun _ => by simp [addr_add])).take 2
  have q4 : Bt w A2 (l.drop 24) := hb.drop 24 A2 (fun h => by rw [← hA2, if_neg (by omega)]; simp [addr_add])
  have l1 : (l.take 12).length = 12 := by simp; omega
  have l3 : ((l.drop 14).take 2).length = 2 := by simp; omega
  obtain ⟨n, hn⟩ : ∃ n, l.length = n := ⟨_, rfl⟩
  have l4 : (l.drop 24).length = n - 24 := by simp [hn]
  have y1 := hy.take 12
  have y3 := (hy.drop 14).take 2
  have y4 := hy.drop 24
  unfold ck
  rw [hn] at h24 hc hl ⊢
  generalize l.take 12 = L1 at *
  generalize (l.drop 14).take 2 = L3 at *
  generalize l.drop 24 = L4 at *
  have h0c : ¬ (c = 0) := by omega
  have h14c : ¬ (c = 14) := by omega
  have h12 : (12 : Int) ≤ (c : Int) := by omega
  have h16 : (16 : Int) ≤ (c : Int) := by omega
  have h24' : (24 : Int) ≤ (n : Int) := by omega
  have hB : Hid (L1.length + (2 + (L3.length + L4.length)) ≤ 5000) := Lib.hid (by omega)
  clear hb hy hn
  go_enter Try.func19, Try.ntmps19
  go_wp2_with fail
  refine wp_region_held_drew (S := fun V => True) (by kernel_rfl) trivial (fun hHeld => ?_)
  refine wpAnyH_take (i := 0) (v := ?_) rfl (by kernel_rfl) (by kernel_rfl) (by kernel_rfl) (fun _ _ _ h => h) (Or.inl ⟨by rfl, ?_⟩) (by assumption) ?_
  rotate_left
  · (intro w' hSw; (try dsimp only at hSw); go_simp; try with_reducible rfl)
  simp only [Act.put, List.getElem_toArray, List.getElem_cons_zero, List.setIfInBounds_toArray, List.set_cons_zero, List.set_cons_succ]
  refine wpAnyH_take (i := 1) (v := .slice (some ⟨b, off, none⟩) 12 c) rfl (by kernel_rfl) (by kernel_rfl) (by kernel_rfl) (fun _ _ _ h => h) (Or.inl ⟨by rfl, ?_⟩) (by assumption) ?_
  · (intro w' hSw; (try dsimp only at hSw); go_simp; (try rfl))
  simp only [Act.put, List.getElem_toArray, List.getElem_cons_zero, List.getElem_cons_succ, List.setIfInBounds_toArray, List.set_cons_zero, List.set_cons_succ]
  refine wpAnyH_take (i := 3) (v := ?_) rfl (by kernel_rfl) (by kernel_rfl) (by kernel_rfl) (fun _ _ _ h => h) (Or.inl ⟨by rfl, ?_⟩) (by assumption) ?_
  rotate_left
  · (intro w' hSw; (try dsimp only at hSw); go_simp; try with_reducible rfl)
  simp only [Act.put, List.getElem_toArray, List.getElem_cons_zero, List.getElem_cons_succ, List.setIfInBounds_toArray, List.set_cons_zero, List.set_cons_succ]
  refine wpAnyH_take (i := 4) (v := .slice (some ⟨b, off + 14, none⟩) 2 (c - 14)) rfl (by kernel_rfl) (by kernel_rfl) (by kernel_rfl) (fun _ _ _ h => h) (Or.inl ⟨by rfl, ?_⟩) (by assumption) ?_
  · (intro w' hSw; (try dsimp only at hSw); go_simp; (try rfl))
  simp only [Act.put, List.getElem_toArray, List.getElem_cons_zero, List.getElem_cons_succ, List.setIfInBounds_toArray, List.set_cons_zero, List.set_cons_succ]
  refine wpAnyH_take (i := 5) (v := ?_) rfl (by kernel_rfl) (by kernel_rfl) (by kernel_rfl) (fun _ _ _ h => h) (Or.inl ⟨by rfl, ?_⟩) (by assumption) ?_
  rotate_left
  · (intro w' hSw; (try dsimp only at hSw); go_simp; try with_reducible rfl)
  simp only [Act.put, List.getElem_toArray, List.getElem_cons_zero, List.getElem_cons_succ, List.setIfInBounds_toArray, List.set_cons_zero, List.set_cons_succ]
  refine wpAnyH_take (i := 6) (v := .slice A2 (n - 24) (c - 24)) rfl (by kernel_rfl) (by kernel_rfl) (by kernel_rfl) (fun _ _ _ h => h) (Or.inl ⟨by rfl, ?_⟩) (by assumption) ?_
  · (intro w' hSw; (try dsimp only at hSw); go_simp; (try rw [hA2]))
  simp only [Act.put, List.getElem_toArray, List.getElem_cons_zero, List.getElem_cons_succ, List.setIfInBounds_toArray, List.set_cons_zero, List.set_cons_succ]
  have t1 : Below w.heap.size w w.drew := (Below.refl w.heap.size w).drew
  generalize hX0 : w.drew = X0 at t1 ⊢
  clear hX0 hHeld
  refine wpAnyH_ready (rs := [2]) (by kernel_rfl) (by simp) ?_
  refine AllReadyH.cons rfl (fun K hK => ?_) AllReadyH.nil
  go_simp
  obtain ⟨X1, hX1⟩ : ∃ V, X0.alloc (.cells #[.int .u8 0, .int .u8 0] 5) = V := ⟨_, rfl⟩
  have t2 : Below X0.heap.size X0 X1 := by rw [← hX1]; exact below_alloc1 _ _
  have o2 : Bt X1 (some ⟨X0.heap.size, 0, none⟩) [0, 0] := by rw [← hX1]; exact (Own.lit X0 0 (Nat.zero_le _) [0, 0] (by simp [maxLen])).bs
  obtain ⟨m, hm⟩ : ∃ m, X0.heap.size = m := ⟨_, rfl⟩
  rw [hm] at o2
  have t3 : Below w.heap.size w X1 := t1.trans (t2.mono t1.size)
  try rw [hX1]
  try rw [hm]
  refine hK.out _ _ trivial (fun _ => ?_)
  clear hK K
  refine wpAnyH_ready (rs := [7]) (by kernel_rfl) (by simp) ?_
  refine AllReadyH.cons rfl (fun K hK => ?_) AllReadyH.nil
  go_simp
  obtain ⟨X2, hX2⟩ : ∃ V, X1.alloc (.cells #[.slice (some ⟨b, off, none⟩) 12 c, .slice (some ⟨m, 0, none⟩) 2 2, .slice (some ⟨b, off + 14, none⟩) 2 (c - 14), .slice A2 (n - 24) (c - 24)] 24) = V := ⟨_, rfl⟩
  have t4 : Below X1.heap.size X1 X2 := by rw [← hX2]; exact below_alloc1 _ _
  have t5 : Below w.heap.size w X2 := t3.trans (t4.mono t3.size)
  obtain ⟨k, hk⟩ : ∃ k, X1.heap.size = k := ⟨_, rfl⟩
  have hP : Ps X2 (some ⟨k, 0, none⟩) [⟨some ⟨b, off, none⟩, c, L1⟩, ⟨some ⟨m, 0, none⟩, 2, [0, 0]⟩, ⟨some ⟨b, off + 14, none⟩, c - 14, L3⟩, ⟨A2, c - 24, L4⟩] := by
    rw [← hX2]
    exact Ps.mk _ _ _ _ _ hk (by simp [l1, l3, l4])
  have cc := concat_n (some ⟨k, 0, none⟩) 4 4 _ X2 rfl hP (fun p hp => by
    simp only [List.mem_cons, List.not_mem_nil, or_false] at hp
    rcases hp with rfl | rfl | rfl | rfl
    · exact q1.step t5
    · exact o2.step t4
    · exact q3.step t5
    · exact q4.step t5) (by simp) (by simp [cat]; have := hB.out; omega)
  try rw [hX2]
  try rw [hk]
  refine hK.out _ _ trivial (fun _ => ?_)
  clear hK K
  have hcat : cat [⟨some ⟨b, off, none⟩, c, L1⟩, ⟨some ⟨m, 0, none⟩, 2, [0, 0]⟩, ⟨some ⟨b, off + 14, none⟩, c - 14, L3⟩, ⟨A2, c - 24, L4⟩] = L1 ++ ([0, 0] ++ (L3 ++ L4)) := by simp [cat]
  rw [hcat] at cc
  obtain ⟨L, hL⟩ : ∃ L, L1 ++ ([0, 0] ++ (L3 ++ L4)) = L := ⟨_, rfl⟩
  have hLl : L.length ≤ 10000 := by rw [← hL]; simp; have := hB.out; omega
  have yL : Byt L := by rw [← hL]; exact y1.append ((byt_lit _ (by decide)).append (y3.append y4))
  rw [hL] at cc
  have HL := Lib.hid hL
  clear hL hcat
  obtain ⟨N, hN⟩ : ∃ N, L.length = N := ⟨_, rfl⟩
  rw [hN] at cc
  refine wpAnyH_ready (rs := [8]) (by kernel_rfl) (by simp) ?_
  refine AllReadyH.cons rfl (fun K hK => ?_) AllReadyH.nil
  go_simp
  go_at_call 25
  refine cc.mono ?_
  rintro e X3 ⟨A3, c3, rfl, o3, t6⟩
  refine hK.out _ _ trivial (fun _ => ?_)
  clear hK K
  have t7 : Below w.heap.size w X3 := t5.trans (t6.mono t5.size)
  refine wpAnyH_ready (rs := [9]) (by kernel_rfl) (by simp) ?_
  refine AllReadyH.cons rfl (fun K hK => ?_) AllReadyH.nil
  go_simp
  go_at_call 29
  refine (inet_n A3 N c3 L X3 hN.symm o3.bs yL hLl).mono ?_
  rintro e X4 ⟨rfl, rfl⟩
  refine hK.out _ _ trivial (fun _ => ?_)
  clear hK K
  refine wpAnyH_ready (rs := [10]) (by kernel_rfl) (by simp) ?_
  refine AllReadyH.cons rfl (fun K hK => ?_) AllReadyH.nil
  go_simp
  refine hK.out _ _ trivial (fun _ => ?_)
  clear hK K
  refine wpAnyH_done (by kernel_rfl) ?_ _
  go_wp2
  go_ret
  exact ⟨by rw [← HL.out]; rfl, t7⟩
end Go.Proofs.Ytfhickgdmcmodaa
