/-
  Which header is newer, and which key is first, as numbers; contracts of cmp.Compare, firstOf, ended, younger and of the reference's more. No statement is proved here; no conditions.
-/
import Derived.Test.YtadcicmccdphkaaLs
namespace Go.Proofs.Ytadcicmccdphkaa
open Go.RowKit Go.Joins

/-- A 32-bit number as a signed one. -/
def sg (q : Int) : Int := if q < 2147483648 then q else q - 4294967296
theorem wrap_i32 (q : Int) (h0 : 0 ≤ q) (h1 : q < 4294967296) : IntKind.i32.wrap q = sg q := by
  simp [IntKind.wrap, IntKind.bits, IntKind.signed, sg]
  split <;> omega
def cmpI (a b : Int) : Int := if a < b then -1 else if b < a then 1 else 0
/-- The first number that is not 0. -/
def fstn : List Int → Int
  | [] => 0
  | x :: l => if x = 0 then fstn l else x
def endd (a : Int) : Int := if a = 3600 then 1 else 0
def yng (a b : Int) : Int := if 900 < b - a then 1 else if 900 < a - b then -1 else 0
def cmpH (a b : Hd) : Int := fstn [cmpI (sg a.q) (sg b.q), cmpI a.s b.s, cmpI (endd a.a) (endd b.a), yng a.a b.a]
def lessK (a b : Hd) : Bool := decide (fstn [cmpI a.t b.t, cmpI a.i b.i, cmpI a.v b.v] < 0)
theorem cmpI_bd (a b : Int) : cmpI a b = -1 ∨ cmpI a b = 0 ∨ cmpI a b = 1 := by
  unfold cmpI
  split
  · exact .inl rfl
  split
  · exact .inr (.inr rfl)
  · exact .inr (.inl rfl)
theorem cmpI_anti (a b : Int) : cmpI b a = -cmpI a b := by
  unfold cmpI
  by_cases h1 : a < b
  · rw [if_pos h1, if_neg (by omega), if_pos h1]
    rfl
  · by_cases h2 : b < a
    · rw [if_pos h2, if_neg h1, if_pos h2]
    · rw [if_neg h2, if_neg h1, if_neg h1, if_neg h2]
      rfl
theorem cmpI_self (a : Int) : cmpI a a = 0 := by simp [cmpI]
theorem cmpI_zero {a b : Int} (h : cmpI a b = 0) : a = b := by
  unfold cmpI at h
  split at h
  · omega
  split at h
  · omega
  · omega
theorem yng_anti (a b : Int) : yng b a = -yng a b := by
  unfold yng
  by_cases h1 : 900 < b - a
  · rw [if_pos h1, if_neg (by omega), if_pos h1]
  · by_cases h2 : 900 < a - b
    · rw [if_pos h2, if_neg h1, if_pos h2]
      rfl
    · rw [if_neg h2, if_neg h1, if_neg h1, if_neg h2]
      rfl
theorem yng_bd (a b : Int) : yng a b = -1 ∨ yng a b = 0 ∨ yng a b = 1 := by
  unfold yng
  split
  · exact .inr (.inr rfl)
  split
  · exact .inl rfl
  · exact .inr (.inl rfl)
theorem fstn_neg (l : List Int) : fstn (l.map (fun x => -x)) = -fstn l := by
  induction l with
  | nil => rfl
  | cons x l ih =>
    simp only [List.map_cons, fstn]
    by_cases h : x = 0
    · rw [if_pos (by omega), if_pos h, ih]
    · rw [if_neg (by omega), if_neg h]
theorem fstn_bd (l : List Int) (h : ∀ x ∈ l, x = -1 ∨ x = 0 ∨ x = 1) : fstn l = -1 ∨ fstn l = 0 ∨ fstn l = 1 := by
  induction l with
  | nil => exact .inr (.inl rfl)
  | cons x l ih =>
    simp only [fstn]
    split
    · exact ih fun y hy => h y (by simp [hy])
    · exact h x (by simp)
/-- Of two, either one is newer, or neither. -/
theorem cmpH_anti (a b : Hd) : cmpH b a = -cmpH a b := by
  unfold cmpH
  rw [← fstn_neg]
  simp only [List.map_cons, List.map_nil]
  rw [cmpI_anti (sg a.q), cmpI_anti a.s, cmpI_anti (endd a.a), yng_anti a.a]
theorem cmpH_self (a : Hd) : cmpH a a = 0 := by
  have h := cmpH_anti a a
  omega
theorem cmpH_bd (a b : Hd) : cmpH a b = -1 ∨ cmpH a b = 0 ∨ cmpH a b = 1 := by
  refine fstn_bd _ fun x hx => ?_
  simp only [List.mem_cons, List.not_mem_nil, or_false] at hx
  rcases hx with rfl | rfl | rfl | rfl
  · exact cmpI_bd _ _
  · exact cmpI_bd _ _
  · exact cmpI_bd _ _
  · exact yng_bd _ _
/-- Of two keys one is first, or they are the same. -/
theorem lessK_any (a b : Hd) : lessK a b = true ∨ lessK b a = true ∨ (a.t = b.t ∧ a.i = b.i ∧ a.v = b.v) := by
  have e : fstn [cmpI b.t a.t, cmpI b.i a.i, cmpI b.v a.v] = -fstn [cmpI a.t b.t, cmpI a.i b.i, cmpI a.v b.v] := by
    rw [← fstn_neg]
    simp only [List.map_cons, List.map_nil]
    rw [cmpI_anti a.t, cmpI_anti a.i, cmpI_anti a.v]
  unfold lessK
  rw [e]
  by_cases h : fstn [cmpI a.t b.t, cmpI a.i b.i, cmpI a.v b.v] = 0
  · refine .inr (.inr ?_)
    simp only [fstn] at h
    split at h
    · rename_i h1
      split at h
      · rename_i h2
        split at h
        · rename_i h3
          exact ⟨cmpI_zero h1, cmpI_zero h2, cmpI_zero h3⟩
        · omega
      · omega
    · omega
  · simp only [decide_eq_true_eq]
    omega
theorem nan_i32 (x : Int) (w : World) : Calls Try.prog 50 #[.int .i32 x] w fun e w' => e = .returned (.bool false) ∧ w = w' := by
  have d : (x != x) = false := by simp
  go_enter Try.func50, Try.ntmps50
  go_wp2
  go_ret
  exact ⟨rfl, rfl⟩
theorem cmp_i32 (x y : Int) (w : World) : Calls Try.prog 29 #[.int .i32 x, .int .i32 y] w fun e w' => e = .returned (.int .i64 (cmpI x y)) ∧ w = w' := by
  have HC : Hid (cmpI x y = if x < y then -1 else if y < x then 1 else 0) := Lib.hid rfl
  by_cases h1 : x < y
  · go_enter Try.func29, Try.ntmps29
    go_wp2_with (go_at_call 50; refine (nan_i32 _ _).mono ?_; rintro e w' ⟨rfl, rfl⟩)
    go_ret
    exact ⟨ret_int (by rw [HC.out, if_pos (by omega)]), rfl⟩
  · by_cases h2 : y < x
    · have h3 : x > y := h2
      go_enter Try.func29, Try.ntmps29
      go_wp2_with (go_at_call 50; refine (nan_i32 _ _).mono ?_; rintro e w' ⟨rfl, rfl⟩)
      go_ret
      exact ⟨ret_int (by rw [HC.out, if_neg (by omega), if_pos (by omega)]), rfl⟩
    · have h3 : ¬ (x > y) := h2
      go_enter Try.func29, Try.ntmps29
      go_wp2_with (go_at_call 50; refine (nan_i32 _ _).mono ?_; rintro e w' ⟨rfl, rfl⟩)
      go_ret
      exact ⟨ret_int (by rw [HC.out, if_neg (by omega), if_neg (by omega)]), rfl⟩
theorem nan_i64 (x : Int) (w : World) : Calls Try.prog 51 #[.int .i64 x] w fun e w' => e = .returned (.bool false) ∧ w = w' := by
  have d : (x != x) = false := by simp
  go_enter Try.func51, Try.ntmps51
  go_wp2
  go_ret
  exact ⟨rfl, rfl⟩
theorem cmp_i64 (x y : Int) (w : World) : Calls Try.prog 30 #[.int .i64 x, .int .i64 y] w fun e w' => e = .returned (.int .i64 (cmpI x y)) ∧ w = w' := by
  have HC : Hid (cmpI x y = if x < y then -1 else if y < x then 1 else 0) := Lib.hid rfl
  by_cases h1 : x < y
  · go_enter Try.func30, Try.ntmps30
    go_wp2_with (go_at_call 51; refine (nan_i64 _ _).mono ?_; rintro e w' ⟨rfl, rfl⟩)
    go_ret
    exact ⟨ret_int (by rw [HC.out, if_pos (by omega)]), rfl⟩
  · by_cases h2 : y < x
    · have h3 : x > y := h2
      go_enter Try.func30, Try.ntmps30
      go_wp2_with (go_at_call 51; refine (nan_i64 _ _).mono ?_; rintro e w' ⟨rfl, rfl⟩)
      go_ret
      exact ⟨ret_int (by rw [HC.out, if_neg (by omega), if_pos (by omega)]), rfl⟩
    · have h3 : ¬ (x > y) := h2
      go_enter Try.func30, Try.ntmps30
      go_wp2_with (go_at_call 51; refine (nan_i64 _ _).mono ?_; rintro e w' ⟨rfl, rfl⟩)
      go_ret
      exact ⟨ret_int (by rw [HC.out, if_neg (by omega), if_neg (by omega)]), rfl⟩
theorem nan_u32 (x : Int) (w : World) : Calls Try.prog 69 #[.int .u32 x] w fun e w' => e = .returned (.bool false) ∧ w = w' := by
  have d : (x != x) = false := by simp
  go_enter Try.func69, Try.ntmps69
  go_wp2
  go_ret
  exact ⟨rfl, rfl⟩
theorem cmp_u32 (x y : Int) (w : World) : Calls Try.prog 45 #[.int .u32 x, .int .u32 y] w fun e w' => e = .returned (.int .i64 (cmpI x y)) ∧ w = w' := by
  have HC : Hid (cmpI x y = if x < y then -1 else if y < x then 1 else 0) := Lib.hid rfl
  by_cases h1 : x < y
  · go_enter Try.func45, Try.ntmps45
    go_wp2_with (go_at_call 69; refine (nan_u32 _ _).mono ?_; rintro e w' ⟨rfl, rfl⟩)
    go_ret
    exact ⟨ret_int (by rw [HC.out, if_pos (by omega)]), rfl⟩
  · by_cases h2 : y < x
    · have h3 : x > y := h2
      go_enter Try.func45, Try.ntmps45
      go_wp2_with (go_at_call 69; refine (nan_u32 _ _).mono ?_; rintro e w' ⟨rfl, rfl⟩)
      go_ret
      exact ⟨ret_int (by rw [HC.out, if_neg (by omega), if_pos (by omega)]), rfl⟩
    · have h3 : ¬ (x > y) := h2
      go_enter Try.func45, Try.ntmps45
      go_wp2_with (go_at_call 69; refine (nan_u32 _ _).mono ?_; rintro e w' ⟨rfl, rfl⟩)
      go_ret
      exact ⟨ret_int (by rw [HC.out, if_neg (by omega), if_neg (by omega)]), rfl⟩
theorem endd_any (h : Hd) (w : World) : Calls Try.prog 31 #[.agg #[.int .i64 h.a, .int .i64 h.o, .int .i64 h.t, .int .u32 h.i, .int .u32 h.v, .int .u32 h.q, .int .i64 h.s, .int .i64 h.n]] w fun e w' => e = .returned (.int .i64 (endd h.a)) ∧ Below w.heap.size w w' := by
  have HC : Hid (endd h.a = if h.a = 3600 then 1 else 0) := Lib.hid rfl
  obtain ⟨W0, hW0⟩ : ∃ V, w.alloc (.cells #[.int .i64 h.a, .int .i64 h.o, .int .i64 h.t, .int .u32 h.i, .int .u32 h.v, .int .u32 h.q, .int .i64 h.s, .int .i64 h.n] 31) = V := ⟨_, rfl⟩
  have bW0 : Below w.heap.size w W0 := by rw [← hW0]; exact below_alloc1 _ _
  have sW0 : W0.heap.size = w.heap.size + 1 := by rw [← hW0]; simp
  have KX : Hid (∀ V, Below W0.heap.size W0 V → V.cell? ⟨w.heap.size, 0, none⟩ = some (.int .i64 h.a) ∧ V.cell? ⟨w.heap.size, 1, none⟩ = some (.int .i64 h.o) ∧ V.cell? ⟨w.heap.size, 2, none⟩ = some (.int .i64 h.t) ∧ V.cell? ⟨w.heap.size, 3, none⟩ = some (.int .u32 h.i) ∧ V.cell? ⟨w.heap.size, 4, none⟩ = some (.int .u32 h.v) ∧ V.cell? ⟨w.heap.size, 5, none⟩ = some (.int .u32 h.q) ∧ V.cell? ⟨w.heap.size, 6, none⟩ = some (.int .i64 h.s) ∧ V.cell? ⟨w.heap.size, 7, none⟩ = some (.int .i64 h.n)) := Lib.hid (fun V hV => kb8_new hW0 hV)
  obtain ⟨k0, k1, k2, k3, k4, k5, k6, k7⟩ := KX.out _ (Below.refl _ _)
  clear KX
  by_cases h1 : h.a = 3600
  · have e : endd h.a = 1 := by rw [HC.out, if_pos (by omega)]
    have d : (h.a == 3600) = true := by simpa using h1
    have d2 : (h.a != 3600) = false := by simp [bne, d]
    rw [e]
    clear e h1 HC
    go_enter Try.func31, Try.ntmps31
    go_wp2
    go_ret
    exact ⟨rfl, bW0⟩
  · have e : endd h.a = 0 := by rw [HC.out, if_neg (by omega)]
    have d : (h.a == 3600) = false := by simpa using h1
    have d2 : (h.a != 3600) = true := by simp [bne, d]
    rw [e]
    clear e h1 HC
    go_enter Try.func31, Try.ntmps31
    go_wp2
    go_ret
    exact ⟨rfl, bW0⟩
theorem yng_any (x y : Int) (w : World) (h0 : 0 ≤ x) (h1 : x ≤ 3600) (h2 : 0 ≤ y) (h3 : y ≤ 3600) : Calls Try.prog 32 #[.int .i64 x, .int .i64 y] w fun e w' => e = .returned (.int .i64 (yng x y)) ∧ w = w' := by
  have HC : Hid (yng x y = if 900 < y - x then 1 else if 900 < x - y then -1 else 0) := Lib.hid rfl
  have e1 : wrap64 (y - x) = y - x := by unfold wrap64; omega
  have e2 : wrap64 (x - y) = x - y := by unfold wrap64; omega
  by_cases c1 : 900 < y - x
  · have c3 : y - x > 900 := c1
    go_enter Try.func32, Try.ntmps32
    go_wp2
    go_ret
    exact ⟨ret_int (by rw [HC.out, if_pos (by omega)]), rfl⟩
  · have c3 : ¬ (y - x > 900) := c1
    by_cases c2 : 900 < x - y
    · have c4 : x - y > 900 := c2
      go_enter Try.func32, Try.ntmps32
      go_wp2
      go_ret
      exact ⟨ret_int (by rw [HC.out, if_neg (by omega), if_pos (by omega)]), rfl⟩
    · have c4 : ¬ (x - y > 900) := c2
      go_enter Try.func32, Try.ntmps32
      go_wp2
      go_ret
      exact ⟨ret_int (by rw [HC.out, if_neg (by omega), if_neg (by omega)]), rfl⟩
theorem fstn_drop {l : List Int} {k : Nat} (hk : k < l.length) : fstn (l.drop k) = if l.getD k 0 = 0 then fstn (l.drop (k + 1)) else l.getD k 0 := by
  rw [List.drop_eq_getElem_cons hk, fstn]
  simp [List.getD, hk]
set_option maxRecDepth 100000 in
theorem first_any (A : Option Addr) (n c : Nat) (l : List Int) (w : World) (hn : l.length = n) (hb : Bs .i64 w w.heap.size A l) (hl : n ≤ 1000) :
    Calls Try.prog 28 #[.slice A n c] w fun e w' => e = .returned (.int .i64 (fstn l)) ∧ w = w' := by
  have HN := Lib.hid hn
  have HW := Lib.hid hb
  clear hb hn
  go_enter Try.func28, Try.ntmps28
  go_wp2_with fail
  go_loopg [4, 7] n (fun gf v4 v7 wx => ∃ k : Nat, v7 = .int .i64 (k : Int) ∧ Hid (gf + k = n) ∧ Hid (fstn (l.drop k) = fstn l) ∧ wx = w)
  case atStart => exact ⟨0, rfl, Lib.hid (by omega), Lib.hid (by simp), rfl⟩
  case round =>
    obtain ⟨k, rfl, hk, hx, hwx⟩ := hrel
    replace hwx := hwx.symm
    subst hwx
    have hk' := hk.out
    cases gk with
    | zero =>
      have lt0 : decide ((k : Int) < (n : Int)) = false := by simp; omega
      have lt1 : decide (k < n) = false := by simp; omega
      have HX : Hid (fstn l = 0) := Lib.hid (by
        have := hx.out
        rw [List.drop_of_length_le (by rw [HN.out]; omega)] at this
        exact this.symm)
      go_wp2
      go_ret
      exact ⟨ret_int HX.out.symm, rfl⟩
    | succ gf =>
      have hkl : k < l.length := by rw [HN.out]; omega
      have lt0 : (k : Int) < (n : Int) := by omega
      have hw1 : (k : Int) + 1 ≤ 1000000 := by omega
      have hd := fstn_drop hkl
      obtain ⟨b, off, rfl, _, hcl⟩ := HW.out.at_ hkl
      obtain ⟨v, hv⟩ : ∃ v, l.getD k 0 = v := ⟨_, rfl⟩
      rw [hv] at hcl hd
      have HD := Lib.hid hd
      clear hv hd hkl
      by_cases hxv : v = 0
      · subst hxv
        have HX : Hid (fstn (l.drop (k + 1)) = fstn l) := Lib.hid (by rw [← hx.out, HD.out, if_pos rfl])
        go_wp2
        go_roundg gf
        case measure => omega
        case rel => exact ⟨k + 1, by go_num, Lib.hid (by omega), HX, rfl⟩
      · have d : (v == 0) = false := by simpa using hxv
        have d2 : (v != 0) = true := by simp [bne, d]
        have HX : Hid (fstn l = v) := Lib.hid (by rw [← hx.out, HD.out, if_neg hxv])
        go_wp2
        go_ret
        exact ⟨ret_int HX.out.symm, rfl⟩
end Go.Proofs.Ytadcicmccdphkaa
