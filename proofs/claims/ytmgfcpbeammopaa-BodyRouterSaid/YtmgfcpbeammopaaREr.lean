/-
  The contract of the reference's Router. No statement is proved here; no conditions.
-/
import Derived.Test.YtmgfcpbeammopaaEr
namespace Go.Proofs.Ytmgfcpbeammopaa
open Go.RowKit Go.Joins

set_option maxRecDepth 100000 in
set_option maxHeartbeats 4000000 in
theorem rrouter_any (f : Int) (A : Option Addr) (n c : Nat) (L : List Lk) (w : World) (hn : L.length = n) (ok : Okls L) (hl : Lr w A L) (hll : n ≤ 10000) :
    Calls Try.prog 9 #[.agg #[.int .i64 f, .slice A n c]] w fun e w' => ∃ A' c', e = .returned (.tuple #[.slice A' (encRL f L).length c', .int .i64 (encRE f L)]) ∧ Own .u8 5 w' w.heap.size A' c' (encRL f L) ∧ Below w.heap.size w w' := by
  obtain ⟨W0, hW0⟩ : ∃ V, w.alloc (.cells #[.int .i64 f, .slice A n c] 31) = V := ⟨_, rfl⟩
  have bW0 : Below w.heap.size w W0 := by rw [← hW0]; exact below_alloc1 _ _
  have sW0 : W0.heap.size = w.heap.size + 1 := by rw [← hW0]; simp
  have KX : Hid (∀ V, Below W0.heap.size W0 V → V.cell? ⟨w.heap.size, 0, none⟩ = some (.int .i64 f) ∧ V.cell? ⟨w.heap.size, 1, none⟩ = some (.slice A n c)) := Lib.hid (fun V hV => kb2_new hW0 hV)
  have HB : Hid (Below w.heap.size w W0) := Lib.hid bW0
  have HL := Lib.hid (hl.step bW0)
  have CM := rmayR_any f A n c L W0 hn HL.out
  have HLN := Lib.hid hn
  clear bW0 hl
  obtain ⟨k0, k1⟩ := KX.out _ (Below.refl _ _)
  by_cases hm : mayR f L = true
  case neg =>
    have e1 : encRE f L = 1 := by simp [encRE, hm]
    have e2 : encRL f L = [] := by simp [encRL, hm]
    rw [e1, e2]
    have hm2 : mayR f L = false := by simpa using hm
    clear e1 e2 hm hn
    go_enter Try.func9, Try.ntmps9
    go_wp2_with fail
    refine CM.mono ?_
    rintro e X0 ⟨rfl, t0⟩
    rw [hm2]
    go_wp2
    go_ret2
    exact ⟨none, 0, rfl, Own.nil _ _, HB.out.trans (t0.mono HB.out.size)⟩
  have e1 : encRE f L = 0 := by simp [encRE, hm]
  have e2 : encRL f L = enR f L := by simp [encRL, hm]
  rw [e1, e2, enR_length]
  have HE : Hid (enR f L = hdR f n ++ els L) := Lib.hid (by rw [enR, hn])
  obtain ⟨⟨hf0, hf1⟩, hl100, hlm⟩ := (mayR_iff f L).1 hm
  rw [hn] at hl100 ⊢
  have HLM := Lib.hid hlm
  have OK := Lib.hid ok
  have HM := Lib.hid hm
  have HH : Hid (hdR f n = [f, 0, 0, (n : Int)]) := Lib.hid (by
    unfold hdR
    rw [be1 f hf0 (by omega), be1 0 (by decide) (by decide), be2 (n : Int) (by omega) (by omega)]
    simp only [List.cons_append, List.nil_append, List.cons.injEq, true_and, and_true]
    omega)
  have hwf : IntKind.u8.wrap f = f := wrap_u8 (by omega) (by omega)
  have hwn : IntKind.u8.wrap (n : Int) = (n : Int) := wrap_u8 (by omega) (by omega)
  obtain ⟨i0, hi0, hz0, hz1, hz2⟩ := info_of info5
  clear e1 e2 hm hn hlm ok
  go_enter Try.func9, Try.ntmps9
  go_wp2_with fail
  refine CM.mono ?_
  rintro e X0 ⟨rfl, t0⟩
  rw [HM.out]
  clear k0 k1 CM
  obtain ⟨k0, k1⟩ := KX.out _ t0
  obtain ⟨X1, hX1⟩ : ∃ V, X0.alloc (.cells #[.int .u8 f, .int .u8 0, .int .u8 0, .int .u8 (n : Int)] 5) = V := ⟨_, rfl⟩
  have u1 : Below X0.heap.size X0 X1 := by rw [← hX1]; exact below_alloc1 _ _
  have O1 : Hid (Own .u8 5 X1 X0.heap.size (some ⟨X0.heap.size, 0, none⟩) 4 (hdR f n)) := Lib.hid (by
    rw [← hX1, HH.out]
    exact Own.lit X0 X0.heap.size (Nat.le_refl _) [f, 0, 0, (n : Int)] (by simp [maxLen]))
  have B1 := Lib.hid (t0.trans (u1.mono t0.size))
  have S0 := Lib.hid t0.size
  obtain ⟨d0, d1⟩ := KX.out _ B1.out
  clear u1 t0
  go_wp2_with fail
  clear k0 k1 d0 d1
  go_loopg [4, 5] n (fun gf v4 v5 wx => ∃ (j x : Nat) (A' : Option Addr) (c' : Nat), v4 = .slice A' x c' ∧ v5 = .int .i64 (j : Int) ∧ Hid (gf + j = n) ∧ Hid (x = 4 + j * 12) ∧ Hid (Own .u8 5 wx W0.heap.size A' c' (hdR f n ++ els (L.take j))) ∧ Hid (Below W0.heap.size W0 wx))
  case atStart => exact ⟨0, 4, _, 4, rfl, rfl, Lib.hid (by omega), Lib.hid (by omega), Lib.hid (by simpa [els_nil] using O1.out.lower S0.out), B1⟩
  case round =>
    obtain ⟨j, x, A', c', rfl, rfl, hj, hx, ho, hb⟩ := hrel
    have hj' := hj.out
    clear O1 B1
    obtain ⟨k0, k1⟩ := KX.out _ hb.out
    cases gk with
    | zero =>
      have lt0 : decide ((j : Int) < (n : Int)) = false := by simp; omega
      have lt1 : decide (j < n) = false := by simp; omega
      have HF : Hid (Own .u8 5 wr W0.heap.size A' c' (enR f L)) := Lib.hid (by
        rw [HE.out]
        have := ho.out
        rwa [List.take_of_length_le (by rw [HLN.out]; omega)] at this)
      have HX : Hid (4 + n * 12 = x) := Lib.hid (by have := hx.out; omega)
      go_wp2
      go_ret2
      have e := HX.out
      refine ⟨A', c', ?_, HF.out.lower HB.out.size, HB.out.trans (hb.out.mono HB.out.size)⟩
      rw [e]
      rfl
    | succ gf =>
      have hlt : j < L.length := by rw [HLN.out]; omega
      have lt0 : (j : Int) < (n : Int) := by omega
      have hw1 : (j : Int) + 1 ≤ 10000 := by omega
      obtain ⟨b, off, hA, _, e0, e1, e2, e3⟩ := (HL.out.step hb.out).at hlt
      have hmem := gl_mem hlt
      have HV : Hid (L.take (j + 1) = L.take j ++ [gl L j]) := Lib.hid (take_gl hlt)
      have HSL : Hid ((hdR f n ++ els (L.take j)).length = x) := Lib.hid (by
        rw [List.length_append, hdR_length, els_length, List.length_take, HLN.out]
        have := hx.out
        omega)
      obtain ⟨y, hy⟩ : ∃ y, gl L j = y := ⟨_, rfl⟩
      rw [hy] at e0 e1 e2 e3 hmem HV
      obtain ⟨⟨oi0, oi1⟩, od0, od1⟩ := OK.out y hmem
      obtain ⟨⟨hk0, hk1⟩, hc0, hc1⟩ := (mayk_iff y).1 (HLM.out y hmem)
      obtain ⟨P, hP⟩ : ∃ P, hdR f n ++ els (L.take j) = P := ⟨_, rfl⟩
      have HPE : Hid (((P ++ be y.i 4) ++ be y.d 4) ++ [y.k, 0, y.c / 256, y.c % 256] = hdR f n ++ els (L.take (j + 1))) := Lib.hid (by
        rw [HV.out, els_snoc, ← hP, elk, be1 y.k (by omega) (by omega), be1 0 (by decide) (by decide), be2 y.c hc0 (by omega)]
        simp [List.append_assoc])
      rw [hP] at ho HSL
      subst hA
      have hwk : IntKind.u8.wrap y.k = y.k := wrap_u8 (by omega) (by omega)
      have hw2 : IntKind.u8.wrap (y.c / 256) = y.c / 256 := wrap_u8 (by omega) (by omega)
      have hw3 : IntKind.u8.wrap (y.c % 256) = y.c % 256 := wrap_u8 (by omega) (by omega)
      clear hy hmem hlt hP
      obtain ⟨W1, hW1⟩ : ∃ V, wr.alloc (.cells #[Value.int .i64 y.k, .int .u32 y.i, .int .u32 y.d, .int .i64 y.c] 69) = V := ⟨_, rfl⟩
      have b1 : Below wr.heap.size wr W1 := by rw [← hW1]; exact below_alloc1 _ _
      have KY : Hid (∀ V, Below W1.heap.size W1 V → V.cell? ⟨wr.heap.size, 0, none⟩ = some (.int .i64 y.k) ∧ V.cell? ⟨wr.heap.size, 1, none⟩ = some (.int .u32 y.i) ∧ V.cell? ⟨wr.heap.size, 2, none⟩ = some (.int .u32 y.d) ∧ V.cell? ⟨wr.heap.size, 3, none⟩ = some (.int .i64 y.c)) := Lib.hid (fun V hV => kb4_new hW1 hV)
      have gb : wr.heap.size < W1.heap.size := by rw [← hW1]; simp
      obtain ⟨y0, y1, y2, y3⟩ := KY.out _ (Below.refl _ _)
      have sz := hb.out.size
      have c1 := four_any y.i W1 oi0 oi1
      have hx9 : x ≤ 10000 := by have := hx.out; omega
      go_wp2_with fail
      refine c1.mono ?_
      rintro e W2 ⟨A2, c2, rfl, o2, u2⟩
      have b2 : Below wr.heap.size wr W2 := b1.trans (u2.mono b1.size)
      have hbl := ho.out.blk_lt
      have hx2 : (P ++ be y.i 4).length = x + 4 := by rw [List.length_append, HSL.out, be_length]
      have hx3 : ((P ++ be y.i 4) ++ be y.d 4).length = x + 4 + 4 := by rw [List.length_append, hx2, be_length]
      obtain ⟨A3, c3, W3, rW3, oW3, gW3, dW3⟩ := run_apgn (P := Try.prog) W2 W0.heap.size 25 25 5 .u8 i0 _ 1 Try.underlying25 hi0 hz0 hz1 hz2 rfl _ _ _ (ho.out.below b2 (Nat.le_refl _)) _ A2 c2 _ o2.bs x 4 HSL.out (be_length _ _) (by unfold maxLen; omega) (by omega) (Nat.le_trans sz b2.size)
      have s3 := gW3.size
      have k3 : Below wr.heap.size wr W2 := b2
      have cell3 : Hid (∀ g, blk A3 = some g → g ≠ wr.heap.size) := Lib.hid (fun g hg => by
        have := b1.size
        have := u2.size
        rcases dW3 with q | q
        · have := hbl g (by rw [q] at hg; exact hg)
          omega
        · rw [hg] at q
          injection q with q
          omega)
      have h3 : W3.heap[wr.heap.size]? = W1.heap[wr.heap.size]? := (gW3.block wr.heap.size (by have := u2.size; omega) (fun q => by have := hbl _ q.symm; omega)).trans (u2.block _ gb)
      have B3 : Below W0.heap.size W0 W3 := (hb.out.trans (b2.mono sz)).trans (grown_below gW3 (Nat.le_trans sz b2.size) (fun g hg => (hbl g hg).1))
      have c4 := four_any y.d W3 od0 od1
      have q0 := (World.cell?_of_block (a := ⟨wr.heap.size, 0, none⟩) h3).trans y0
      have q1 := (World.cell?_of_block (a := ⟨wr.heap.size, 1, none⟩) h3).trans y1
      have q2 := (World.cell?_of_block (a := ⟨wr.heap.size, 2, none⟩) h3).trans y2
      have q3 := (World.cell?_of_block (a := ⟨wr.heap.size, 3, none⟩) h3).trans y3
      have hbl3 := oW3.blk_lt
      have O3 := Lib.hid oW3
      clear oW3 o2 c1 y0 y1 y2 y3 hbl ho gW3 dW3 b2 k3
      go_wp2_with (at_builtin; refine wpList_runb _ rfl (.tmp 30) (.tmp 33) 25 rfl rfl rfl rW3 ?_)
      refine c4.mono ?_
      rintro e W4 ⟨A4, c4, rfl, o4, u4⟩
      have z0 := (u4.cell (p := ⟨wr.heap.size, 0, none⟩) (by show wr.heap.size < _; have := u2.size; omega)).trans q0
      have z3 := (u4.cell (p := ⟨wr.heap.size, 3, none⟩) (by show wr.heap.size < _; have := u2.size; omega)).trans q3
      obtain ⟨A5, c5, W5, rW5, oW5, gW5, dW5⟩ := run_apgn (P := Try.prog) W4 W0.heap.size 25 25 5 .u8 i0 _ 1 Try.underlying25 hi0 hz0 hz1 hz2 rfl _ _ _ (O3.out.below u4 (Nat.le_refl _)) _ A4 c4 _ o4.bs (x + 4) 4 hx2 (be_length _ _) (by unfold maxLen; omega) (by omega) (Nat.le_trans B3.size u4.size)
      have n3 := fun q => cell3.out wr.heap.size q rfl
      have h5 : W5.heap[wr.heap.size]? = W4.heap[wr.heap.size]? := gW5.block wr.heap.size (by have := u4.size; have := u2.size; omega) (fun q => n3 q.symm)
      have v0 := (World.cell?_of_block (a := ⟨wr.heap.size, 0, none⟩) h5).trans z0
      have v3 := (World.cell?_of_block (a := ⟨wr.heap.size, 3, none⟩) h5).trans z3
      have B5 : Below W0.heap.size W0 W5 := (B3.trans (u4.mono B3.size)).trans (grown_below gW5 (Nat.le_trans B3.size u4.size) (fun g hg => (hbl3 g hg).1))
      obtain ⟨W6, hW6⟩ : ∃ V, W5.alloc (.cells #[.int .u8 y.k, .int .u8 0, .int .u8 (y.c / 256), .int .u8 (y.c % 256)] 5) = V := ⟨_, rfl⟩
      have b6 : Below W5.heap.size W5 W6 := by rw [← hW6]; exact below_alloc1 _ _
      have q6 : Bt W6 (some ⟨W5.heap.size, 0, none⟩) [y.k, 0, y.c / 256, y.c % 256] := by rw [← hW6]; exact Bs.mk _ _ _ _ _ _ rfl (by simp [maxLen]) rfl

      obtain ⟨A7, c7, W7, rW7, oW7, tW7⟩ := run_apn (P := Try.prog) W6 W0.heap.size 25 25 5 .u8 i0 _ 1 Try.underlying25 hi0 hz0 hz1 hz2 rfl _ _ _ (oW5.below b6 (Nat.le_refl _)) _ (some ⟨W5.heap.size, 0, none⟩) 4 _ q6 (x + 4 + 4) 4 hx3 rfl (by unfold maxLen; omega) (by omega) (Nat.le_trans B5.size b6.size)
      have HO : Hid (Own .u8 5 W7 W0.heap.size A7 c7 (hdR f n ++ els (L.take (j + 1)))) := Lib.hid (by
        rw [← HPE.out]
        exact oW7)
      have HB7 : Hid (Below W0.heap.size W0 W7) := Lib.hid ((B5.trans (b6.mono B5.size)).trans tW7)
      have HXX : Hid (x + 4 + 4 + 4 = 4 + (j + 1) * 12) := Lib.hid (by have := hx.out; omega)
      clear oW7 tW7 q6 b6 B5 h5 n3 oW5 gW5 dW5 o4 u4 O3 cell3 B3 h3 hbl3 q0 q1 q2 q3 hx2 hx3 HSL HPE hb hx b1 u2 KY z0 z3
      go_wp2_with (at_builtin; first | refine wpList_runb _ rfl (.tmp 35) (.tmp 38) 25 rfl rfl rfl rW5 ?_ | refine wpList_runb _ rfl (.tmp 40) (.tmp 52) 25 rfl rfl rfl rW7 ?_)
      go_wp2
      go_roundg gf
      case measure => omega
      case rel => exact ⟨j + 1, x + 4 + 4 + 4, A7, c7, by go_num, by go_num, Lib.hid (by omega), HXX, HO, HB7⟩
end Go.Proofs.Ytmgfcpbeammopaa
