/-
  Plain lemmas on entries in order, and on the keys of a binary tree of prefixes. No statement is proved here; no conditions.
-/
import Derived.Test.YtlmcgjdenfnkmaaMem
import Derived.Test.YtlmcgjdenfnkmaaBlk
namespace Go.Proofs.Ytlmcgjdenfnkmaa

/-- Two rows in order, of the same members, are the same. -/
theorem uniq {α : Type} {R : α → α → Prop} (hR : ∀ a b, R a b → R b a → False) : ∀ {l1 l2 : List α}, l1.Pairwise R → l2.Pairwise R → (∀ x, x ∈ l1 ↔ x ∈ l2) → l1 = l2 := by
  intro l1
  induction l1 with
  | nil =>
    intro l2 _ _ h
    cases l2 with
    | nil => rfl
    | cons b l2 => exact absurd ((h b).2 (by simp)) (by simp)
  | cons a l1 ih =>
    intro l2 h1 h2 h
    cases l2 with
    | nil => exact absurd ((h a).1 (by simp)) (by simp)
    | cons b l2 =>
      obtain ⟨p1, q1⟩ := List.pairwise_cons.1 h1
      obtain ⟨p2, q2⟩ := List.pairwise_cons.1 h2
      have e : a = b := by
        rcases List.mem_cons.1 ((h a).1 (by simp)) with e | e
        · exact e
        · rcases List.mem_cons.1 ((h b).2 (by simp)) with e2 | e2
          · exact e2.symm
          · exact (hR a b (p1 b e2) (p2 a e)).elim
      subst e
      rw [ih q1 q2 fun x => ⟨fun hx => ?_, fun hx => ?_⟩]
      · rcases List.mem_cons.1 ((h x).1 (by simp [hx])) with e | e
        · exact (hR a x (p1 x hx) (e ▸ p1 x hx)).elim
        · exact e
      · rcases List.mem_cons.1 ((h x).2 (by simp [hx])) with e | e
        · exact (hR a x (p2 x hx) (e ▸ p2 x hx)).elim
        · exact e

/-! ### Order -/
/-- One comes before the other. -/
def lse (x y : En) : Prop := lessp x.A x.N y.A y.N = true
theorem lse_iff (x y : En) : lse x y ↔ x.A < y.A ∨ x.A = y.A ∧ x.N < y.N := by simp [lse, lessp]
theorem lse_asym (x y : En) (h : lse x y) (k : lse y x) : False := by rw [lse_iff] at h k; omega
theorem lse_trans {x y z : En} (h : lse x y) (k : lse y z) : lse x z := by rw [lse_iff] at h k ⊢; omega
/-- It is the prefix's. -/
def sp (A : Nat) (N : Int) (x : En) : Bool := decide (x.A = A ∧ x.N = N)
/-- Entries in order, of valid prefixes. -/
structure Om (m : List En) : Prop where
  asc : m.Pairwise lse
  ok : ∀ x ∈ m, okp x.A x.N = true
  lt : ∀ x ∈ m, x.A < 4294967296
theorem Om.nil : Om [] := ⟨List.Pairwise.nil, by simp, by simp⟩
theorem Om.sub {m l : List En} (h : Om m) (hs : l.Sublist m) : Om l := ⟨h.asc.sublist hs, fun x hx => h.ok x (hs.subset hx), fun x hx => h.lt x (hs.subset hx)⟩
theorem Om.filter {m : List En} (h : Om m) (p : En → Bool) : Om (m.filter p) := h.sub List.filter_sublist
/-- Of one prefix there is one at most. -/
theorem Om.one {m : List En} (h : Om m) {x y : En} (hx : x ∈ m) (hy : y ∈ m) (hA : x.A = y.A) (hN : x.N = y.N) : x = y := by
  have key : ∀ {l : List En}, l.Pairwise lse → x ∈ l → y ∈ l → x = y := by
    intro l
    induction l with
    | nil => intro _ h1; simp at h1
    | cons a l ih =>
      intro hp h1 h2
      obtain ⟨p, q⟩ := List.pairwise_cons.1 hp
      rcases List.mem_cons.1 h1 with e1 | e1 <;> rcases List.mem_cons.1 h2 with e2 | e2
      · rw [e1, e2]
      · have := (lse_iff _ _).1 (p y e2)
        rw [← e1] at this
        omega
      · have := (lse_iff _ _).1 (p x e1)
        rw [← e2] at this
        omega
      · exact ih q e1 e2
  exact key h.asc hx hy

/-! ### Keys -/
/-- The key of the first n bits of A: 1, and these. -/
def ky (A n : Nat) : Nat := (4294967296 + A) / wd n
theorem two_wd (n : Nat) (h : n ≤ 32) : wd n * 2 ^ n = 4294967296 := by
  unfold wd
  rw [← Nat.pow_add, show 32 - n + n = 32 by omega]
theorem ky_eq (A n : Nat) (h : n ≤ 32) : ky A n = 2 ^ n + A / wd n := by
  unfold ky
  rw [← two_wd n h, Nat.mul_add_div (wd_pos n)]
theorem div_wd_lt {A n : Nat} (hA : A < 4294967296) (h : n ≤ 32) : A / wd n < 2 ^ n := by
  rw [Nat.div_lt_iff_lt_mul (wd_pos n), Nat.mul_comm, two_wd n h]
  exact hA
theorem bt_lt (A : Nat) (i : Int) : bt A i < 2 := by unfold bt; split <;> omega
theorem ky_zero {A : Nat} (hA : A < 4294967296) : ky A 0 = 1 := by rw [ky_eq A 0 (by omega), div_wd0 hA]
theorem ky_succ {A n : Nat} (h : n < 32) : ky A (n + 1) = 2 * ky A n + bt A (n : Int) := by
  rw [ky_eq A n (by omega), ky_eq A (n + 1) (by omega), div_step A n h, bt_wd A n h, Nat.pow_succ]
  omega
theorem ky_ge {A n : Nat} (h : n ≤ 32) : 2 ^ n ≤ ky A n := by rw [ky_eq A n h]; exact Nat.le_add_right _ _
theorem ky_lt {A n : Nat} (hA : A < 4294967296) (h : n ≤ 32) : ky A n < 2 ^ (n + 1) := by
  have := div_wd_lt hA h
  rw [ky_eq A n h, Nat.pow_succ]
  omega
theorem ky_pos {A n : Nat} (h : n ≤ 32) : 0 < ky A n := Nat.lt_of_lt_of_le (Nat.two_pow_pos n) (ky_ge h)
theorem ky_lt33 {A n : Nat} (hA : A < 4294967296) (h : n ≤ 32) : ky A n < 8589934592 := Nat.lt_of_lt_of_le (ky_lt hA h) (show 2 ^ (n + 1) ≤ 2 ^ 33 from Nat.pow_le_pow_right (by omega) (by omega))
theorem lvl_eq {k n m : Nat} (h1 : 2 ^ n ≤ k) (h2 : k < 2 ^ (n + 1)) (h3 : 2 ^ m ≤ k) (h4 : k < 2 ^ (m + 1)) : n = m := by
  rcases Nat.lt_trichotomy n m with h | h | h
  · have := Nat.pow_le_pow_right (n := 2) (by omega) (show n + 1 ≤ m from h)
    omega
  · exact h
  · have := Nat.pow_le_pow_right (n := 2) (by omega) (show m + 1 ≤ n from h)
    omega
theorem ky_inj {A B n m : Nat} (hA : A < 4294967296) (hB : B < 4294967296) (hn : n ≤ 32) (hm : m ≤ 32) (h : ky A n = ky B m) : n = m ∧ A / wd n = B / wd m := by
  have e : n = m := lvl_eq (ky_ge hn) (ky_lt hA hn) (h ▸ ky_ge hm) (h ▸ ky_lt hB hm)
  subst e
  rw [ky_eq A n hn, ky_eq B n hn] at h
  exact ⟨rfl, by omega⟩
/-- What has the same key has the same bits of less. -/
theorem ky_less {A B n m : Nat} (hn : n ≤ 32) (h : ky A n = ky B n) (hm : m ≤ n) : ky A m = ky B m := by
  rw [ky_eq A n hn, ky_eq B n hn] at h
  rw [ky_eq A m (by omega), ky_eq B m (by omega), div_less (show A / wd n = B / wd n by omega) hm]
/-- An entry's key. -/
def kx (x : En) : Nat := ky x.A (cl x.N)
theorem Om.key {m : List En} (h : Om m) {x y : En} (hx : x ∈ m) (hy : y ∈ m) (e : kx x = kx y) : x = y := by
  obtain ⟨e1, e2⟩ := ky_inj (h.lt x hx) (h.lt y hy) (cl_le _) (cl_le _) e
  obtain ⟨a0, a1, a2⟩ := (okp_iff _ _).1 (h.ok x hx)
  obtain ⟨b0, b1, b2⟩ := (okp_iff _ _).1 (h.ok y hy)
  have hN : x.N = y.N := by rw [← cl_in a0 a1, ← cl_in b0 b1, e1]
  refine h.one hx hy ?_ hN
  rw [← tr_eq a2, ← tr_eq b2, e2, e1]
theorem key_sp {A : Nat} {N : Int} {x : En} (hA : A < 4294967296) (hp : okp A N = true) (hx : x.A < 4294967296) (ho : okp x.A x.N = true) : (kx x = ky A (cl N)) ↔ sp A N x = true := by
  simp only [sp, decide_eq_true_eq]
  constructor
  · intro e
    obtain ⟨e1, e2⟩ := ky_inj hx hA (cl_le _) (cl_le _) e
    obtain ⟨a0, a1, a2⟩ := (okp_iff _ _).1 ho
    obtain ⟨b0, b1, b2⟩ := (okp_iff _ _).1 hp
    refine ⟨?_, by rw [← cl_in a0 a1, ← cl_in b0 b1, e1]⟩
    rw [← tr_eq a2, ← tr_eq b2, e2, e1]
  · rintro ⟨rfl, rfl⟩
    rfl

/-! ### What is under a key -/
/-- x lies under key k of level n. -/
def und (n k : Nat) (x : En) : Bool := decide (n ≤ cl x.N ∧ ky x.A n = k)
/-- x is of key k, of level n. -/
def top (n k : Nat) (x : En) : Bool := decide (cl x.N = n ∧ ky x.A n = k)
theorem und_iff (n k : Nat) (x : En) : und n k x = true ↔ top n k x = true ∨ und (n + 1) (2 * k) x = true ∨ und (n + 1) (2 * k + 1) x = true := by
  simp only [und, top, decide_eq_true_eq]
  have hc := cl_le x.N
  constructor
  · rintro ⟨h1, h2⟩
    rcases Nat.lt_or_ge n (cl x.N) with h | h
    · have h3 := ky_succ (A := x.A) (n := n) (by omega)
      have h4 := bt_lt x.A (n : Int)
      omega
    · left; exact ⟨by omega, h2⟩
  · rintro (⟨h1, h2⟩ | ⟨h1, h2⟩ | ⟨h1, h2⟩)
    · exact ⟨by omega, h2⟩
    · have h3 := ky_succ (A := x.A) (n := n) (by omega)
      have h4 := bt_lt x.A (n : Int)
      omega
    · have h3 := ky_succ (A := x.A) (n := n) (by omega)
      have h4 := bt_lt x.A (n : Int)
      omega
theorem lse_top {n k b : Nat} {x y : En} (hb : b < 2) (ho : okp x.A x.N = true) (hoy : okp y.A y.N = true) (hx : top n k x = true) (hy : und (n + 1) (2 * k + b) y = true) : lse x y := by
  simp only [und, top, decide_eq_true_eq] at hx hy
  have hc := cl_le y.N
  have h3 := ky_succ (A := y.A) (n := n) (by omega)
  have h4 := bt_lt y.A (n : Int)
  obtain ⟨a0, a1, a2⟩ := (okp_iff _ _).1 ho
  obtain ⟨b0, b1, b2⟩ := (okp_iff _ _).1 hoy
  have e1 := cl_in a0 a1
  have e2 := cl_in b0 b1
  have e : ky x.A n = ky y.A n := by omega
  rw [ky_eq _ _ (by omega), ky_eq _ _ (by omega)] at e
  have e3 : x.A / wd n = y.A / wd n := by omega
  rw [hx.1] at a2
  have e4 := tr_eq a2
  rw [e3] at e4
  have e5 := Nat.div_mul_le_self y.A (wd n)
  rw [lse_iff]
  omega
theorem lse_kids {n k : Nat} {x y : En} (hx : und (n + 1) (2 * k) x = true) (hy : und (n + 1) (2 * k + 1) y = true) : lse x y := by
  simp only [und, decide_eq_true_eq] at hx hy
  have hc := cl_le y.N
  have e1 := hx.2
  have e2 := hy.2
  rw [ky_eq _ _ (by omega)] at e1 e2
  rw [lse_iff]
  left
  exact Nat.lt_of_div_lt_div (c := wd (n + 1)) (by omega)
theorem Om.under {m : List En} (h : Om m) (n k : Nat) : m.filter (und n k) = m.filter (top n k) ++ m.filter (und (n + 1) (2 * k)) ++ m.filter (und (n + 1) (2 * k + 1)) := by
  refine uniq lse_asym (h.filter _).asc ?_ fun x => ?_
  · rw [List.pairwise_append, List.pairwise_append]
    refine ⟨⟨(h.filter _).asc, (h.filter _).asc, ?_⟩, (h.filter _).asc, ?_⟩
    · intro x hx y hy
      rw [List.mem_filter] at hx hy
      exact lse_top (b := 0) (by omega) (h.ok x hx.1) (h.ok y hy.1) hx.2 hy.2
    · intro x hx y hy
      rw [List.mem_append, List.mem_filter, List.mem_filter] at hx
      rw [List.mem_filter] at hy
      rcases hx with hx | hx
      · exact lse_top (b := 1) (by omega) (h.ok x hx.1) (h.ok y hy.1) hx.2 hy.2
      · exact lse_kids hx.2 hy.2
  · simp only [List.mem_append, List.mem_filter, und_iff n k x]
    constructor
    · rintro ⟨h1, h2 | h2 | h2⟩
      · exact .inl (.inl ⟨h1, h2⟩)
      · exact .inl (.inr ⟨h1, h2⟩)
      · exact .inr ⟨h1, h2⟩
    · rintro ((⟨h1, h2⟩ | ⟨h1, h2⟩) | ⟨h1, h2⟩)
      · exact ⟨h1, .inl h2⟩
      · exact ⟨h1, .inr (.inl h2)⟩
      · exact ⟨h1, .inr (.inr h2)⟩
theorem top_kx (x : En) : top (cl x.N) (kx x) x = true := by simp [top, kx]
theorem kx_top {n k : Nat} {x : En} (h : top n k x = true) : kx x = k := by
  simp only [top, decide_eq_true_eq] at h
  unfold kx
  rw [h.1]
  exact h.2
theorem kx_lvl {n k : Nat} {x : En} (hx : x.A < 4294967296) (h1 : 2 ^ n ≤ k) (h2 : k < 2 ^ (n + 1)) (h : kx x = k) : top n k x = true := by
  have e : cl x.N = n := lvl_eq (ky_ge (A := x.A) (cl_le _)) (ky_lt hx (cl_le _)) (show 2 ^ n ≤ kx x by omega) (show kx x < 2 ^ (n + 1) by omega)
  simp only [top, decide_eq_true_eq]
  exact ⟨e, by rw [← e]; exact h⟩
theorem Om.top_one {m : List En} (h : Om m) {n k : Nat} {x : En} (hx : x ∈ m) (ht : top n k x = true) : m.filter (top n k) = [x] := by
  refine uniq lse_asym (h.filter _).asc (List.pairwise_singleton _ _) fun y => ?_
  rw [List.mem_filter, List.mem_singleton]
  constructor
  · rintro ⟨h1, h2⟩
    exact h.key h1 hx ((kx_top h2).trans (kx_top ht).symm)
  · rintro rfl
    exact ⟨hx, ht⟩
theorem top_none {m : List En} {n k : Nat} (h : ∀ x ∈ m, kx x ≠ k) : m.filter (top n k) = [] := by
  rw [List.filter_eq_nil_iff]
  intro x hx ht
  exact h x hx (kx_top ht)
theorem cov_und {A : Nat} {N : Int} {x : En} (_hA : A < 4294967296) (hp : okp A N = true) (ho : okp x.A x.N = true) : covp A N x.A x.N = und (cl N) (ky A (cl N)) x := by
  rw [Bool.eq_iff_iff, covp_iff]
  simp only [und, decide_eq_true_eq]
  obtain ⟨a0, a1, a2⟩ := (okp_iff _ _).1 ho
  obtain ⟨b0, b1, b2⟩ := (okp_iff _ _).1 hp
  have e1 := cl_in a0 a1
  have e2 := cl_in b0 b1
  rw [ky_eq _ _ (cl_le _), ky_eq _ _ (cl_le _)]
  constructor
  · rintro ⟨_, h1, _, h2⟩
    exact ⟨by omega, by omega⟩
  · rintro ⟨h1, h2⟩
    exact ⟨ho, by omega, hp, by omega⟩
theorem Om.below {m : List En} (h : Om m) {A : Nat} {N : Int} (hA : A < 4294967296) (hp : okp A N = true) : m.filter (fun x => covp A N x.A x.N) = m.filter (und (cl N) (ky A (cl N))) := by
  apply List.filter_congr
  intro x hx
  exact cov_und hA hp (h.ok x hx)
theorem below_bad (m : List En) {A : Nat} {N : Int} (hp : okp A N = false) : m.filter (fun x => covp A N x.A x.N) = [] := by
  rw [List.filter_eq_nil_iff]
  intro x _ hc
  have := (covp_iff _ _ _ _).1 hc
  rw [hp] at this
  simp at this
theorem und_zero {m : List En} (h : Om m) : m.filter (und 0 1) = m := by
  rw [List.filter_eq_self]
  intro x hx
  simp only [und, decide_eq_true_eq]
  exact ⟨by omega, ky_zero (h.lt x hx)⟩
end Go.Proofs.Ytlmcgjdenfnkmaa
