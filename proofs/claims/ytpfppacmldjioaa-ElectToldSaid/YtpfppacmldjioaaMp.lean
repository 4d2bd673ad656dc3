/-
  IDs counted in a map; whether there can be an election. No statement is proved here; no conditions.
-/
import Derived.Test.YtpfppacmldjioaaCd
import Derived.Deep.LoopGhost
import Derived.Maps.Views
namespace Go.Proofs.Ytpfppacmldjioaa
open Go.RowKit Go.Joins

/-- How many candidates have this ID. -/
def cn (L : List Ca) (a : Int) : Nat := (L.map (·.i)).count a
theorem cn_snoc (L : List Ca) (x : Ca) (a : Int) : cn (L ++ [x]) a = if a = x.i then cn L x.i + 1 else cn L a := by
  unfold cn
  rw [List.map_append, List.count_append]
  by_cases h : a = x.i
  · subst h; simp
  · rw [if_neg h]
    simp [Ne.symm h]
/-- The numbers of a candidate have their widths. -/
structure Okw (x : Ca) : Prop where
  i : 0 ≤ x.i ∧ x.i < 4294967296
  d : 0 ≤ x.d ∧ x.d < 4294967296
  b : 0 ≤ x.b ∧ x.b < 4294967296
def Okws (L : List Ca) : Prop := ∀ x ∈ L, Okw x
theorem wf32 {a : Int} (h : 0 ≤ a ∧ a < 4294967296) : (Lit.int .u32 a).wf = true := by
  have e1 : IntKind.u32.min = 0 := by decide
  have e2 : IntKind.u32.max = 4294967295 := by decide
  simp only [Lit.wf, e1, e2, Bool.and_eq_true, decide_eq_true_eq]
  omega
theorem wf64 {a : Nat} (h : a ≤ 100000) : (Lit.int .i64 (a : Int)).wf = true := by
  have e1 : IntKind.i64.min = -9223372036854775808 := by decide
  have e2 : IntKind.i64.max = 9223372036854775807 := by decide
  simp only [Lit.wf, e1, e2, Bool.and_eq_true, decide_eq_true_eq]
  omega
/-- Block B is a map of counts: of each ID as many as cnt says; no more than n entries. -/
def Mc (w : World) (B n : Nat) (cnt : Int → Nat) : Prop :=
  ∃ D : DataW Unit, w.ownsMap Try.prog 23 (plainElem Try.prog 3) B n D ∧ Maps.IsMap D ∧ ∀ a, 0 ≤ a ∧ a < 4294967296 → D.atKey (.int .u32 a) (.lit (.int .i64 0)) = .lit (.int .i64 (cnt a))
theorem zeroI (w : World) : (zeroValue 3).run Try.prog w = .ok (.int .i64 0) w := by kernel_rfl
theorem Mc.made (w : World) : Mc (w.alloc (.map #[] 0)) w.heap.size 0 (fun _ => 0) := ⟨.map [], World.ownsMap_made w _ _ _, Maps.isMap_empty, fun _ _ => rfl⟩
theorem Mc.keep {w w' : World} {B n : Nat} {cnt : Int → Nat} (h : Mc w B n cnt) (k : Below w.heap.size w w') : Mc w' B n cnt := by
  obtain ⟨D, h1, h2, h3⟩ := h
  exact ⟨D, h1.kept (row := none) ⟨k.os, k.tape, k.output, k.size, fun j hj _ => k.block j hj⟩ (by simp), h2, h3⟩
theorem Mc.lt {w : World} {B n : Nat} {cnt : Int → Nat} (h : Mc w B n cnt) : B < w.heap.size := by
  obtain ⟨D, h1, _⟩ := h
  exact h1.lt
theorem Mc.look {w : World} {B n : Nat} {cnt : Int → Nat} (h : Mc w B n cnt) {a : Int} (ha : 0 ≤ a ∧ a < 4294967296) : (Instr.lookup 50 (.map (some B)) (.int .u32 a) false).run Try.prog w = .ok (.int .i64 (cnt a)) w := by
  obtain ⟨D, h1, h2, h3⟩ := h
  obtain ⟨c, hrun, hat, _⟩ := h1.lookup_int (t := 50) (Maps.int_keyed Try.underlying23) Try.underlying50 Try.underlying3 (zeroI w) (Maps.keyOf_int_mk Try.underlying23 (wf32 ha))
  rw [h3 a ha] at hat
  injection hat with hat
  injection hat with _ hat
  rw [hrun, ← hat]
theorem Mc.put {w : World} {B n : Nat} {cnt : Int → Nat} (h : Mc w B n cnt) {a : Int} (ha : 0 ≤ a ∧ a < 4294967296) (s : Nat) (hs : s ≤ 100000) (hn : n ≤ 100000) :
    ∃ w', (Instr.mapUpdate 50 (.map (some B)) (.int .u32 a) (.int .i64 (s : Int))).run Try.prog w = .ok () w' ∧ Mc w' B (n + 1) (fun x => if x = a then s else cnt x) ∧ Kp (· = B) w w' := by
  obtain ⟨D, h1, h2, h3⟩ := h
  obtain ⟨w', hrun, h4, h5⟩ := h1.update (t := 50) (e := 3) (Maps.int_keyed Try.underlying23) Try.underlying50 (by unfold maxLen; omega) (Maps.keyOf_int_mk Try.underlying23 (wf32 ha)) (plainElem_int Try.underlying3 (wf64 hs))
  refine ⟨w', hrun, ⟨_, h4, ?_, fun x hx => ?_⟩, Kp.of_grown h5 (fun j hj => by injection hj)⟩
  · obtain ⟨es, rfl⟩ := h2
    exact ⟨_, rfl⟩
  · by_cases e : x = a
    · subst e
      rw [Maps.atKey_put_same h2 (by trivial)]
      simp
    · rw [Maps.atKey_put_other (by simpa using e), h3 x hx]
      simp [e]
/-- All may be, none twice. -/
structure Gd (L : List Ca) : Prop where
  ok : L.all okc = true
  nd : (L.map (·.i)).Nodup
theorem Gd.nil : Gd [] := ⟨rfl, by simp⟩
theorem Gd.snoc {L : List Ca} {x : Ca} (h : Gd L) (hx : okc x = true) (hn : cn L x.i = 0) : Gd (L ++ [x]) := by
  refine ⟨by simp [h.ok, hx], ?_⟩
  rw [List.map_append, List.nodup_append]
  refine ⟨h.nd, by simp, fun a ha b hb => ?_⟩
  simp at hb
  subst hb
  rintro rfl
  exact absurd hn (by have := List.count_pos_iff.2 ha; unfold cn; omega)
theorem Gd.may {L : List Ca} (h : Gd L) (hl : L.length ≤ 50) : mayl L = true := by
  simp [mayl, h.ok, h.nd, hl]
theorem may_gd {L : List Ca} (h : mayl L = true) : Gd L ∧ L.length ≤ 50 := by
  simp only [mayl, Bool.and_eq_true, decide_eq_true_eq] at h
  exact ⟨⟨h.2.1, h.2.2⟩, h.1⟩
theorem may_long {L : List Ca} (h : 50 < L.length) : mayl L = false := by
  cases e : mayl L
  · rfl
  · have := (may_gd e).2; omega
theorem may_bad {L : List Ca} {k : Nat} (hk : k < L.length) (h : okc (cg L k) = false) : mayl L = false := by
  cases e : mayl L
  · rfl
  · have := List.all_eq_true.1 (may_gd e).1.ok _ (cg_mem hk)
    rw [h] at this; cases this
theorem may_twice {L : List Ca} {k : Nat} (hk : k < L.length) (h : 0 < cn (L.take k) (cg L k).i) : mayl L = false := by
  cases e : mayl L
  · rfl
  · have h1 := (may_gd e).1.nd
    have h2 : (L.take (k + 1)).map (·.i) = (L.take k).map (·.i) ++ [(cg L k).i] := by rw [ctake hk]; simp
    have h3 : ((L.take (k + 1)).map (·.i)).Nodup := h1.sublist ((List.take_sublist _ _).map _)
    rw [h2, List.nodup_append] at h3
    exact absurd rfl (h3.2.2 _ (List.count_pos_iff.1 h) _ (by simp))
set_option maxRecDepth 100000 in
set_option maxHeartbeats 4000000 in
theorem may_any (A0 : Option Addr) (n c : Nat) (L : List Ca) (w : World) (hn : L.length = n) (hl : Cr w A0 L) (hw : Okws L) :
    Calls Try.prog 22 #[.slice A0 n c] w fun e w' => e = .returned (.bool (mayl L)) ∧ Below w.heap.size w w' := by
  have HL := Lib.hid hl
  have HN := Lib.hid hn
  have HW := Lib.hid hw
  rcases Nat.lt_or_ge 50 n with h50 | h50
  · have d0 : decide ((n : Int) > 50) = true := by simp; omega
    have HM := Lib.hid (may_long (L := L) (by omega))
    clear hl hn hw h50
    go_enter Try.func22, Try.ntmps22
    go_wp2
    go_ret
    exact ⟨ret_bool HM.out.symm, Below.refl _ _⟩
  have d0 : decide ((n : Int) > 50) = false := by simp; omega
  have d1 : decide (n > 50) = false := by simp; omega
  have HU := Lib.hid h50
  obtain ⟨W0, hW0⟩ : ∃ V, w.alloc (.map #[] 0) = V := ⟨_, rfl⟩
  have HB0 : Hid (Below w.heap.size w W0) := Lib.hid (by rw [← hW0]; exact below_alloc1 _ _)
  have M0 : Hid (Mc W0 w.heap.size 0 (cn (L.take 0))) := Lib.hid (by rw [← hW0]; exact Mc.made w)
  have hmm := @run_makeMap Try.prog
  clear hl hn hw h50
  go_enter Try.func22, Try.ntmps22
  go_wp2_with fail
  go_loopg [12] n (fun gf v wx => ∃ (k : Nat), v = .int .i64 (k : Int) ∧ Hid (gf + k = n) ∧ Hid (Mc wx w.heap.size k (cn (L.take k))) ∧ Hid (Gd (L.take k)) ∧ Hid (Below w.heap.size w wx))
  case atStart => exact ⟨0, rfl, Lib.hid (by omega), M0, Lib.hid Gd.nil, HB0⟩
  case round =>
    obtain ⟨k, rfl, hk, hM, hG, hb⟩ := hrel
    have hk' := hk.out
    cases gk with
    | zero =>
      have e1 : k = n := by omega
      have lt0 : decide ((k : Int) < (n : Int)) = false := by simp; omega
      have lt1 : decide (k < n) = false := by simp; omega
      have HT : Hid (mayl L = true) := Lib.hid (by
        have g := hG.out
        rw [List.take_of_length_le (by rw [HN.out]; omega)] at g
        exact g.may (by rw [HN.out]; exact HU.out))
      subst e1
      go_wp2
      go_ret
      exact ⟨ret_bool HT.out.symm, hb.out⟩
    | succ gf =>
      have hkl : k < L.length := by rw [HN.out]; omega
      have lt0 : (k : Int) < (n : Int) := by omega
      have hw1 : (k : Int) + 1 ≤ 10000 := by have := HU.out; omega
      obtain ⟨b, off, hA, _, e0, e1, e2, e3⟩ := crd_at (HL.out.step hb.out) hkl
      have hwx := (HW.out _ (cg_mem hkl)).i
      have HX := Lib.hid (ctake hkl)
      have HBAD := Lib.hid (may_bad hkl)
      have HTW := Lib.hid (may_twice hkl)
      obtain ⟨x, hx⟩ : ∃ x, cg L k = x := ⟨_, rfl⟩
      rw [hx] at e0 e1 e2 e3 HX HBAD HTW hwx
      subst hA
      obtain ⟨W1, hW1⟩ : ∃ V, wr.alloc (.cells #[.int .u32 x.i, .int .i64 x.p, .int .u32 x.d, .int .u32 x.b] 40) = V := ⟨_, rfl⟩
      have bW1 : Below wr.heap.size wr W1 := by rw [← hW1]; exact below_alloc1 _ _
      have sW1 : W1.heap.size = wr.heap.size + 1 := by rw [← hW1]; simp
      have KX : Hid (∀ V, Below W1.heap.size W1 V → V.cell? ⟨wr.heap.size, 0, none⟩ = some (.int .u32 x.i) ∧ V.cell? ⟨wr.heap.size, 1, none⟩ = some (.int .i64 x.p) ∧ V.cell? ⟨wr.heap.size, 2, none⟩ = some (.int .u32 x.d) ∧ V.cell? ⟨wr.heap.size, 3, none⟩ = some (.int .u32 x.b)) := Lib.hid (fun V hV => kb4_new hW1 hV)
      have HB1 : Hid (Below w.heap.size w W1) := Lib.hid (hb.out.trans (bW1.mono hb.out.size))
      have M1 := hM.out.keep bW1
      obtain ⟨q, hq⟩ : ∃ q, cn (L.take k) x.i = q := ⟨_, rfl⟩
      have lk := M1.look hwx
      rw [hq] at lk
      have hqk : q ≤ k := by
        rw [← hq]
        have := List.count_le_length (a := x.i) (l := (L.take k).map (·.i))
        rw [List.length_map, List.length_take] at this
        unfold cn
        omega
      have hq1 : (q : Int) + 1 ≤ 10000 := by omega
      have hq0 : 0 ≤ (q : Int) := by omega
      have hwq : IntKind.i64.wrap ((q : Int) + 1) = (q : Int) + 1 := wrap_i64 (by omega) (by omega)
      obtain ⟨W2, up, M2, kp⟩ := M1.put hwx (q + 1) (by have := HU.out; omega) (by have := HU.out; omega)
      have lk2 := M2.look hwx
      rw [show (((q + 1 : Nat)) : Int) = (q : Int) + 1 from rfl] at up
      rw [if_pos rfl, show (((q + 1 : Nat)) : Int) = (q : Int) + 1 from rfl] at lk2
      have HB2 : Hid (Below w.heap.size w W2) := Lib.hid (HB1.out.trans (kp.below (B := w.heap.size) (fun j hj => by omega) HB1.out.size))
      have MN : Hid (Mc W2 w.heap.size (k + 1) (cn (L.take (k + 1)))) := Lib.hid (by
        have e : cn (L.take (k + 1)) = fun a => if a = x.i then q + 1 else cn (L.take k) a := by
          funext a
          rw [HX.out, cn_snoc, hq]
        rw [e]
        exact M2)
      obtain ⟨k0, k1, k2, k3⟩ := KX.out _ (Below.refl _ _)
      have hlw := hM.out.lt
      obtain ⟨j0, j1, j2, j3⟩ : W2.cell? ⟨wr.heap.size, 0, none⟩ = some (.int .u32 x.i) ∧ W2.cell? ⟨wr.heap.size, 1, none⟩ = some (.int .i64 x.p) ∧ W2.cell? ⟨wr.heap.size, 2, none⟩ = some (.int .u32 x.d) ∧ W2.cell? ⟨wr.heap.size, 3, none⟩ = some (.int .u32 x.b) := by
        have hc : ∀ i, W2.cell? ⟨wr.heap.size, i, none⟩ = W1.cell? ⟨wr.heap.size, i, none⟩ := fun i => World.cell?_of_block (kp.block wr.heap.size (by omega) (by omega))
        rw [hc, hc, hc, hc]
        exact ⟨k0, k1, k2, k3⟩
      have HQ := Lib.hid hq
      have HQK := Lib.hid hqk
      have HWX := Lib.hid hwx
      clear hx sW1 bW1 hM M1 M2 kp KX hq hwx hqk
      by_cases hi : x.i = 0
      · have z0 : (x.i == 0) = true := by simp [hi]
        have HZ : Hid (mayl L = false) := Lib.hid (HBAD.out (by simp [okc, hi]))
        clear hi lk2
        go_wp2
        go_ret
        exact ⟨ret_bool HZ.out.symm, HB2.out⟩
      have z0 : (x.i == 0) = false := by simpa using hi
      rcases Nat.eq_zero_or_pos q with hq | hq
      case inr =>
        have z1 : decide ((q : Int) + 1 > 1) = true := by simp; omega
        have HZ : Hid (mayl L = false) := Lib.hid (HTW.out (by rw [HQ.out]; exact hq))
        clear hi hq
        go_wp2
        go_ret
        exact ⟨ret_bool HZ.out.symm, HB2.out⟩
      have z1 : decide ((q : Int) + 1 > 1) = false := by simp; omega
      have HQ0 := Lib.hid hq
      by_cases hp : x.p < 0
      · have z2 : decide (x.p < 0) = true := by simpa using hp
        have HZ : Hid (mayl L = false) := Lib.hid (HBAD.out (by
          have : decide (0 ≤ x.p) = false := by simp; omega
          simp [okc, this]))
        clear hi hq hp
        go_wp2
        go_ret
        exact ⟨ret_bool HZ.out.symm, HB2.out⟩
      have z2 : decide (x.p < 0) = false := by simpa using hp
      by_cases hp2 : x.p > 255
      · have z3 : decide (x.p > 255) = true := by simpa using hp2
        have HZ : Hid (mayl L = false) := Lib.hid (HBAD.out (by
          have : decide (x.p ≤ 255) = false := by simp; omega
          simp [okc, this]))
        clear hi hq hp hp2
        go_wp2
        go_ret
        exact ⟨ret_bool HZ.out.symm, HB2.out⟩
      have z3 : decide (x.p > 255) = false := by simpa using hp2
      have GN : Hid (Gd (L.take (k + 1))) := Lib.hid (by
        rw [HX.out]
        exact hG.out.snoc (by simp [okc, hi]; omega) (by rw [HQ.out]; exact hq))
      clear hi hq hp hp2
      go_wp2_with fail
      go_roundg gf
      case measure => omega
      case rel => exact ⟨k + 1, by go_num, Lib.hid (by omega), MN, GN, HB2⟩
end Go.Proofs.Ytpfppacmldjioaa
