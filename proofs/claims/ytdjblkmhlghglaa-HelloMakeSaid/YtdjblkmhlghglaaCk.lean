/-
  Contracts of Check and Both, of the program and of the reference. No statement is proved here; no conditions.
-/
import Derived.Test.YtdjblkmhlghglaaGe
namespace Go.Proofs.Ytdjblkmhlghglaa
open Go.RowKit Go.Joins

/-! ### Bits -/
theorem ofInt_wrap (n : Int) : BitVec.ofInt 64 (IntKind.i64.wrap n) = BitVec.ofInt 64 n := by
  apply BitVec.eq_of_toNat_eq
  simp only [BitVec.toNat_ofInt]
  congr 1
  simp [IntKind.wrap, IntKind.bits, IntKind.signed]
  omega
theorem wrap_inj {a b : Nat} (ha : a < 18446744073709551616) (hb : b < 18446744073709551616) (h : IntKind.i64.wrap (a : Int) = IntKind.i64.wrap (b : Int)) : a = b := by
  simp [IntKind.wrap, IntKind.bits, IntKind.signed] at h
  omega
theorem bits_and (a b : Int) : bits .and .i64 a b = IntKind.i64.wrap ((BitVec.ofInt 64 a &&& BitVec.ofInt 64 b).toNat : Int) := rfl
theorem bits_xor (a b : Int) : bits .xor .i64 a b = IntKind.i64.wrap ((BitVec.ofInt 64 a ^^^ BitVec.ofInt 64 b).toNat : Int) := rfl
/-- The bits of m are those of the other one, or their difference has one of them. -/
theorem xor_and (a b m : Int) : bits .and .i64 (bits .xor .i64 a b) m = 0 ↔ bits .and .i64 a m = bits .and .i64 b m := by
  rw [bits_and (bits .xor .i64 a b), bits_xor, ofInt_wrap, bits_and, bits_and]
  have e : BitVec.ofInt 64 ((BitVec.ofInt 64 a ^^^ BitVec.ofInt 64 b).toNat : Int) = BitVec.ofInt 64 a ^^^ BitVec.ofInt 64 b := by
    rw [BitVec.ofInt_natCast, BitVec.ofNat_toNat, BitVec.setWidth_eq]
  rw [e]
  generalize BitVec.ofInt 64 a = A
  generalize BitVec.ofInt 64 b = B
  generalize BitVec.ofInt 64 m = M
  have d : (A ^^^ B) &&& M = (A &&& M) ^^^ (B &&& M) := by
    ext i hi
    simp only [BitVec.getElem_and, BitVec.getElem_xor]
    cases A[i] <;> cases B[i] <;> cases M[i] <;> rfl
  rw [d]
  have z : IntKind.i64.wrap ((0 : Nat) : Int) = 0 := by decide
  constructor
  · intro q
    have q1 := wrap_inj (((A &&& M) ^^^ (B &&& M)).isLt) (by decide : (0 : Nat) < 18446744073709551616) (q.trans z.symm)
    have q2 : (A &&& M) ^^^ (B &&& M) = 0#64 := BitVec.eq_of_toNat_eq q1
    rw [BitVec.xor_eq_zero_iff.1 q2]
  · intro q
    have q1 := BitVec.eq_of_toNat_eq (wrap_inj (A &&& M).isLt (B &&& M).isLt q)
    rw [q1, BitVec.xor_self]
    exact z
/-! ### Check -/
def chk (f : If) (h : He) : Int := if h.i ≠ f.i ∨ h.d ≠ f.d ∨ (f.pp = false ∧ h.m ≠ f.m) then 13 else if bits .and .i64 h.o 10 ≠ bits .and .i64 f.o 10 then 3 else 0
set_option maxRecDepth 100000 in
theorem check_any (f : If) (h : He) (A : Option Addr) (n c : Nat) (w : World) :
    Calls Try.prog 16 #[.agg #[.int .u32 f.m, .int .i64 f.i, .int .i64 f.o, .int .u32 f.d, .int .u32 f.r, .bool f.pp], .agg #[.int .u32 h.m, .int .i64 h.i, .int .i64 h.o, .int .i64 h.p, .int .u32 h.d, .int .u32 h.r, .int .u32 h.b, .slice A n c]] w fun e w' => e = .returned (.int .i64 (chk f h)) ∧ Below w.heap.size w w' := by
  obtain ⟨pq, hpq⟩ : ∃ q, f.pp = q := ⟨_, rfl⟩
  have HC : Hid (chk f h = if h.i ≠ f.i ∨ h.d ≠ f.d ∨ (pq = false ∧ h.m ≠ f.m) then 13 else if bits .and .i64 h.o 10 ≠ bits .and .i64 f.o 10 then 3 else 0) := Lib.hid (by rw [← hpq]; rfl)
  rw [hpq]
  obtain ⟨W0, hW0⟩ : ∃ V, w.alloc (.cells #[.int .u32 f.m, .int .i64 f.i, .int .i64 f.o, .int .u32 f.d, .int .u32 f.r, .bool pq] 43) = V := ⟨_, rfl⟩
  have bW0 : Below w.heap.size w W0 := by rw [← hW0]; exact below_alloc1 _ _
  have sW0 : W0.heap.size = w.heap.size + 1 := by rw [← hW0]; simp
  have KX : Hid (∀ V, Below W0.heap.size W0 V → V.cell? ⟨w.heap.size, 0, none⟩ = some (.int .u32 f.m) ∧ V.cell? ⟨w.heap.size, 1, none⟩ = some (.int .i64 f.i) ∧ V.cell? ⟨w.heap.size, 2, none⟩ = some (.int .i64 f.o) ∧ V.cell? ⟨w.heap.size, 3, none⟩ = some (.int .u32 f.d) ∧ V.cell? ⟨w.heap.size, 4, none⟩ = some (.int .u32 f.r) ∧ V.cell? ⟨w.heap.size, 5, none⟩ = some (.bool pq)) := Lib.hid (fun V hV => kb6_new hW0 hV)
  obtain ⟨W1, hW1⟩ : ∃ V, W0.alloc (.cells #[.int .u32 h.m, .int .i64 h.i, .int .i64 h.o, .int .i64 h.p, .int .u32 h.d, .int .u32 h.r, .int .u32 h.b, .slice A n c] 25) = V := ⟨_, rfl⟩
  have bW1 : Below W0.heap.size W0 W1 := by rw [← hW1]; exact below_alloc1 _ _
  have sW1 : W1.heap.size = W0.heap.size + 1 := by rw [← hW1]; simp
  have KY : Hid (∀ V, Below W1.heap.size W1 V → V.cell? ⟨W0.heap.size, 0, none⟩ = some (.int .u32 h.m) ∧ V.cell? ⟨W0.heap.size, 1, none⟩ = some (.int .i64 h.i) ∧ V.cell? ⟨W0.heap.size, 2, none⟩ = some (.int .i64 h.o) ∧ V.cell? ⟨W0.heap.size, 3, none⟩ = some (.int .i64 h.p) ∧ V.cell? ⟨W0.heap.size, 4, none⟩ = some (.int .u32 h.d) ∧ V.cell? ⟨W0.heap.size, 5, none⟩ = some (.int .u32 h.r) ∧ V.cell? ⟨W0.heap.size, 6, none⟩ = some (.int .u32 h.b) ∧ V.cell? ⟨W0.heap.size, 7, none⟩ = some (.slice A n c)) := Lib.hid (fun V hV => kb8_new hW1 hV)
  have b2 : Below w.heap.size w W1 := bW0.trans (bW1.mono bW0.size)
  obtain ⟨k0, k1, k2, k3, k4, k5⟩ := KX.out _ bW1
  have kj := KY.out _ (Below.refl _ _)
  rw [sW0] at kj
  obtain ⟨j0, j1, j2, j3, j4, j5, j6, j7⟩ := kj
  have B2 := Lib.hid b2
  clear bW0 bW1 KX KY b2 hpq
  by_cases c1 : h.i = f.i
  case neg =>
    have e : chk f h = 13 := by rw [HC.out, if_pos (.inl c1)]
    rw [e]
    clear e HC
    have d1 : (h.i == f.i) = false := by simpa using c1
    have nd1 : (h.i != f.i) = true := by simp [bne, d1]
    cases pq
    · by_cases c3 : h.m = f.m
      · have d3 : (h.m == f.m) = true := by simpa using c3
        have nd3 : (h.m != f.m) = false := by simp [bne, d3]
        try clear c1
        try clear c2
        try clear c3
        try clear c5
        go_enter Try.func16, Try.ntmps16
        go_wp2
        go_ret
        exact ⟨rfl, B2.out⟩
      · have d3 : (h.m == f.m) = false := by simpa using c3
        have nd3 : (h.m != f.m) = true := by simp [bne, d3]
        try clear c1
        try clear c2
        try clear c3
        try clear c5
        go_enter Try.func16, Try.ntmps16
        go_wp2
        go_ret
        exact ⟨rfl, B2.out⟩
    · skip
      try clear c1
      try clear c2
      try clear c3
      try clear c5
      go_enter Try.func16, Try.ntmps16
      go_wp2
      go_ret
      exact ⟨rfl, B2.out⟩
  have d1 : (h.i == f.i) = true := by simpa using c1
  have nd1 : (h.i != f.i) = false := by simp [bne, d1]
  by_cases c2 : h.d = f.d
  case neg =>
    have e : chk f h = 13 := by rw [HC.out, if_pos (.inr (.inl c2))]
    rw [e]
    clear e HC
    have d2 : (h.d == f.d) = false := by simpa using c2
    have nd2 : (h.d != f.d) = true := by simp [bne, d2]
    cases pq
    · by_cases c3 : h.m = f.m
      · have d3 : (h.m == f.m) = true := by simpa using c3
        have nd3 : (h.m != f.m) = false := by simp [bne, d3]
        try clear c1
        try clear c2
        try clear c3
        try clear c5
        go_enter Try.func16, Try.ntmps16
        go_wp2
        go_ret
        exact ⟨rfl, B2.out⟩
      · have d3 : (h.m == f.m) = false := by simpa using c3
        have nd3 : (h.m != f.m) = true := by simp [bne, d3]
        try clear c1
        try clear c2
        try clear c3
        try clear c5
        go_enter Try.func16, Try.ntmps16
        go_wp2
        go_ret
        exact ⟨rfl, B2.out⟩
    · skip
      try clear c1
      try clear c2
      try clear c3
      try clear c5
      go_enter Try.func16, Try.ntmps16
      go_wp2
      go_ret
      exact ⟨rfl, B2.out⟩
  have d2 : (h.d == f.d) = true := by simpa using c2
  have nd2 : (h.d != f.d) = false := by simp [bne, d2]
  by_cases c4 : pq = false ∧ h.m ≠ f.m
  · obtain ⟨rfl, c3⟩ := c4
    have e : chk f h = 13 := by rw [HC.out, if_pos (.inr (.inr ⟨rfl, c3⟩))]
    rw [e]
    clear e HC
    have d3 : (h.m == f.m) = false := by simpa using c3
    have nd3 : (h.m != f.m) = true := by simp [bne, d3]
    try clear c1
    try clear c2
    try clear c3
    try clear c5
    go_enter Try.func16, Try.ntmps16
    go_wp2
    go_ret
    exact ⟨rfl, B2.out⟩
  have HC2 : Hid (chk f h = if bits .and .i64 h.o 10 ≠ bits .and .i64 f.o 10 then 3 else 0) := Lib.hid (by
    rw [HC.out, if_neg]
    rintro (q | q | q)
    · exact q c1
    · exact q c2
    · exact c4 q)
  clear HC
  obtain ⟨x, hx⟩ : ∃ x, bits .and .i64 (bits .xor .i64 h.o f.o) 10 = x := ⟨_, rfl⟩
  have hxx := xor_and h.o f.o 10
  rw [hx] at hxx
  have HXX := Lib.hid hxx
  clear hxx
  by_cases c5 : x = 0
  · have e : chk f h = 0 := by rw [HC2.out, if_neg (by simpa using HXX.out.1 c5)]
    rw [e]
    have d5 : (x == 0) = true := by simpa using c5
    have nd5 : (x != 0) = false := by simp [bne, d5]
    clear e HC2
    cases pq
    · have c3 : h.m = f.m := by
        by_cases q : h.m = f.m
        · exact q
        · exact absurd ⟨rfl, q⟩ c4
      have d3 : (h.m == f.m) = true := by simpa using c3
      have nd3 : (h.m != f.m) = false := by simp [bne, d3]
      clear c4
      try clear c1
      try clear c2
      try clear c3
      try clear c5
      go_enter Try.func16, Try.ntmps16
      go_wp2
      go_ret
      exact ⟨rfl, B2.out⟩
    · clear c4
      try clear c1
      try clear c2
      try clear c3
      try clear c5
      go_enter Try.func16, Try.ntmps16
      go_wp2
      go_ret
      exact ⟨rfl, B2.out⟩
  · have e : chk f h = 3 := by rw [HC2.out, if_pos (fun q => c5 (HXX.out.2 q))]
    rw [e]
    have d5 : (x == 0) = false := by simpa using c5
    have nd5 : (x != 0) = true := by simp [bne, d5]
    clear e HC2
    cases pq
    · have c3 : h.m = f.m := by
        by_cases q : h.m = f.m
        · exact q
        · exact absurd ⟨rfl, q⟩ c4
      have d3 : (h.m == f.m) = true := by simpa using c3
      have nd3 : (h.m != f.m) = false := by simp [bne, d3]
      clear c4
      try clear c1
      try clear c2
      try clear c3
      try clear c5
      go_enter Try.func16, Try.ntmps16
      go_wp2
      go_ret
      exact ⟨rfl, B2.out⟩
    · clear c4
      try clear c1
      try clear c2
      try clear c3
      try clear c5
      go_enter Try.func16, Try.ntmps16
      go_wp2
      go_ret
      exact ⟨rfl, B2.out⟩
set_option maxRecDepth 100000 in
theorem rcheck_any (f : If) (h : He) (A : Option Addr) (n c : Nat) (w : World) :
    Calls Try.prog 17 #[.agg #[.int .u32 f.m, .int .i64 f.i, .int .i64 f.o, .int .u32 f.d, .int .u32 f.r, .bool f.pp], .agg #[.int .u32 h.m, .int .i64 h.i, .int .i64 h.o, .int .i64 h.p, .int .u32 h.d, .int .u32 h.r, .int .u32 h.b, .slice A n c]] w fun e w' => e = .returned (.int .i64 (chk f h)) ∧ Below w.heap.size w w' := by
  obtain ⟨pq, hpq⟩ : ∃ q, f.pp = q := ⟨_, rfl⟩
  have HC : Hid (chk f h = if h.i ≠ f.i ∨ h.d ≠ f.d ∨ (pq = false ∧ h.m ≠ f.m) then 13 else if bits .and .i64 h.o 10 ≠ bits .and .i64 f.o 10 then 3 else 0) := Lib.hid (by rw [← hpq]; rfl)
  rw [hpq]
  obtain ⟨W0, hW0⟩ : ∃ V, w.alloc (.cells #[.int .u32 f.m, .int .i64 f.i, .int .i64 f.o, .int .u32 f.d, .int .u32 f.r, .bool pq] 46) = V := ⟨_, rfl⟩
  have bW0 : Below w.heap.size w W0 := by rw [← hW0]; exact below_alloc1 _ _
  have sW0 : W0.heap.size = w.heap.size + 1 := by rw [← hW0]; simp
  have KX : Hid (∀ V, Below W0.heap.size W0 V → V.cell? ⟨w.heap.size, 0, none⟩ = some (.int .u32 f.m) ∧ V.cell? ⟨w.heap.size, 1, none⟩ = some (.int .i64 f.i) ∧ V.cell? ⟨w.heap.size, 2, none⟩ = some (.int .i64 f.o) ∧ V.cell? ⟨w.heap.size, 3, none⟩ = some (.int .u32 f.d) ∧ V.cell? ⟨w.heap.size, 4, none⟩ = some (.int .u32 f.r) ∧ V.cell? ⟨w.heap.size, 5, none⟩ = some (.bool pq)) := Lib.hid (fun V hV => kb6_new hW0 hV)
  obtain ⟨W1, hW1⟩ : ∃ V, W0.alloc (.cells #[.int .u32 h.m, .int .i64 h.i, .int .i64 h.o, .int .i64 h.p, .int .u32 h.d, .int .u32 h.r, .int .u32 h.b, .slice A n c] 32) = V := ⟨_, rfl⟩
  have bW1 : Below W0.heap.size W0 W1 := by rw [← hW1]; exact below_alloc1 _ _
  have sW1 : W1.heap.size = W0.heap.size + 1 := by rw [← hW1]; simp
  have KY : Hid (∀ V, Below W1.heap.size W1 V → V.cell? ⟨W0.heap.size, 0, none⟩ = some (.int .u32 h.m) ∧ V.cell? ⟨W0.heap.size, 1, none⟩ = some (.int .i64 h.i) ∧ V.cell? ⟨W0.heap.size, 2, none⟩ = some (.int .i64 h.o) ∧ V.cell? ⟨W0.heap.size, 3, none⟩ = some (.int .i64 h.p) ∧ V.cell? ⟨W0.heap.size, 4, none⟩ = some (.int .u32 h.d) ∧ V.cell? ⟨W0.heap.size, 5, none⟩ = some (.int .u32 h.r) ∧ V.cell? ⟨W0.heap.size, 6, none⟩ = some (.int .u32 h.b) ∧ V.cell? ⟨W0.heap.size, 7, none⟩ = some (.slice A n c)) := Lib.hid (fun V hV => kb8_new hW1 hV)
  have b2 : Below w.heap.size w W1 := bW0.trans (bW1.mono bW0.size)
  obtain ⟨k0, k1, k2, k3, k4, k5⟩ := KX.out _ bW1
  have kj := KY.out _ (Below.refl _ _)
  rw [sW0] at kj
  obtain ⟨j0, j1, j2, j3, j4, j5, j6, j7⟩ := kj
  have B2 := Lib.hid b2
  clear bW0 bW1 KX KY b2 hpq
  by_cases c1 : h.i = f.i
  case neg =>
    have e : chk f h = 13 := by rw [HC.out, if_pos (.inl c1)]
    rw [e]
    clear e HC
    have d1 : (h.i == f.i) = false := by simpa using c1
    have nd1 : (h.i != f.i) = true := by simp [bne, d1]
    cases pq
    · by_cases c3 : h.m = f.m
      · have d3 : (h.m == f.m) = true := by simpa using c3
        have nd3 : (h.m != f.m) = false := by simp [bne, d3]
        try clear c1
        try clear c2
        try clear c3
        try clear c5
        go_enter Try.func17, Try.ntmps17
        go_wp2
        go_ret
        exact ⟨rfl, B2.out⟩
      · have d3 : (h.m == f.m) = false := by simpa using c3
        have nd3 : (h.m != f.m) = true := by simp [bne, d3]
        try clear c1
        try clear c2
        try clear c3
        try clear c5
        go_enter Try.func17, Try.ntmps17
        go_wp2
        go_ret
        exact ⟨rfl, B2.out⟩
    · skip
      try clear c1
      try clear c2
      try clear c3
      try clear c5
      go_enter Try.func17, Try.ntmps17
      go_wp2
      go_ret
      exact ⟨rfl, B2.out⟩
  have d1 : (h.i == f.i) = true := by simpa using c1
  have nd1 : (h.i != f.i) = false := by simp [bne, d1]
  by_cases c2 : h.d = f.d
  case neg =>
    have e : chk f h = 13 := by rw [HC.out, if_pos (.inr (.inl c2))]
    rw [e]
    clear e HC
    have d2 : (h.d == f.d) = false := by simpa using c2
    have nd2 : (h.d != f.d) = true := by simp [bne, d2]
    cases pq
    · by_cases c3 : h.m = f.m
      · have d3 : (h.m == f.m) = true := by simpa using c3
        have nd3 : (h.m != f.m) = false := by simp [bne, d3]
        try clear c1
        try clear c2
        try clear c3
        try clear c5
        go_enter Try.func17, Try.ntmps17
        go_wp2
        go_ret
        exact ⟨rfl, B2.out⟩
      · have d3 : (h.m == f.m) = false := by simpa using c3
        have nd3 : (h.m != f.m) = true := by simp [bne, d3]
        try clear c1
        try clear c2
        try clear c3
        try clear c5
        go_enter Try.func17, Try.ntmps17
        go_wp2
        go_ret
        exact ⟨rfl, B2.out⟩
    · skip
      try clear c1
      try clear c2
      try clear c3
      try clear c5
      go_enter Try.func17, Try.ntmps17
      go_wp2
      go_ret
      exact ⟨rfl, B2.out⟩
  have d2 : (h.d == f.d) = true := by simpa using c2
  have nd2 : (h.d != f.d) = false := by simp [bne, d2]
  by_cases c4 : pq = false ∧ h.m ≠ f.m
  · obtain ⟨rfl, c3⟩ := c4
    have e : chk f h = 13 := by rw [HC.out, if_pos (.inr (.inr ⟨rfl, c3⟩))]
    rw [e]
    clear e HC
    have d3 : (h.m == f.m) = false := by simpa using c3
    have nd3 : (h.m != f.m) = true := by simp [bne, d3]
    try clear c1
    try clear c2
    try clear c3
    try clear c5
    go_enter Try.func17, Try.ntmps17
    go_wp2
    go_ret
    exact ⟨rfl, B2.out⟩
  have HC2 : Hid (chk f h = if bits .and .i64 h.o 10 ≠ bits .and .i64 f.o 10 then 3 else 0) := Lib.hid (by
    rw [HC.out, if_neg]
    rintro (q | q | q)
    · exact q c1
    · exact q c2
    · exact c4 q)
  clear HC
  obtain ⟨x, hx⟩ : ∃ x, bits .and .i64 h.o 10 = x := ⟨_, rfl⟩
  obtain ⟨y, hy⟩ : ∃ y, bits .and .i64 f.o 10 = y := ⟨_, rfl⟩
  rw [hx, hy] at HC2
  by_cases c5 : x = y
  · have e : chk f h = 0 := by rw [HC2.out, if_neg (by simpa using c5)]
    rw [e]
    have d5 : (x == y) = true := by simpa using c5
    have nd5 : (x != y) = false := by simp [bne, d5]
    clear e HC2
    cases pq
    · have c3 : h.m = f.m := by
        by_cases q : h.m = f.m
        · exact q
        · exact absurd ⟨rfl, q⟩ c4
      have d3 : (h.m == f.m) = true := by simpa using c3
      have nd3 : (h.m != f.m) = false := by simp [bne, d3]
      clear c4
      try clear c1
      try clear c2
      try clear c3
      try clear c5
      go_enter Try.func17, Try.ntmps17
      go_wp2
      go_ret
      exact ⟨rfl, B2.out⟩
    · clear c4
      try clear c1
      try clear c2
      try clear c3
      try clear c5
      go_enter Try.func17, Try.ntmps17
      go_wp2
      go_ret
      exact ⟨rfl, B2.out⟩
  · have e : chk f h = 3 := by rw [HC2.out, if_pos c5]
    rw [e]
    have d5 : (x == y) = false := by simpa using c5
    have nd5 : (x != y) = true := by simp [bne, d5]
    clear e HC2
    cases pq
    · have c3 : h.m = f.m := by
        by_cases q : h.m = f.m
        · exact q
        · exact absurd ⟨rfl, q⟩ c4
      have d3 : (h.m == f.m) = true := by simpa using c3
      have nd3 : (h.m != f.m) = false := by simp [bne, d3]
      clear c4
      try clear c1
      try clear c2
      try clear c3
      try clear c5
      go_enter Try.func17, Try.ntmps17
      go_wp2
      go_ret
      exact ⟨rfl, B2.out⟩
    · clear c4
      try clear c1
      try clear c2
      try clear c3
      try clear c5
      go_enter Try.func17, Try.ntmps17
      go_wp2
      go_ret
      exact ⟨rfl, B2.out⟩
end Go.Proofs.Ytdjblkmhlghglaa
