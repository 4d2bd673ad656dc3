/-
  The contract of behind. No statement is proved here; no conditions.
-/
import Derived.Test.YtkpmdfgjaodlaaaReach
namespace Go.Proofs.Ytkpmdfgjaodlaaa
open Go.RowKit Go.Joins

/-- What behind leaves. -/
def Beh (w : World) (N : Nat) (G : List NE) (U : List Bool) (first : Nat) (e : Ending) (w' : World) : Prop :=
  ∃ ns A c, e = .returned (.slice A ns.length c) ∧ Rd (w.heap.size ≤ ·) w' A (nts ns) ∧ ns.Nodup ∧ (∀ v ∈ ns, v < N) ∧ (∀ v, v ∈ ns ↔ Rc U G first v) ∧ Below w.heap.size w w'
/-- Between two nodes. -/
def BLoop (N : Nat) (G : List NE) (U : List Bool) (A AU : Option Addr) (c cU v : Nat) (w : World) (first k : Nat) (wx : World) : Prop :=
  ∃ ns, FB N G U A AU c cU v (outL N G G.length) w wx ∧ NS N w ns wx ∧ BI U G N first ns k
theorem Ow.rd {w : World} {A : Option Addr} {g c n : Nat} {l : List Nat} (h : Ow 3 1 w A g c n (nts l)) : Rd (· = g) w A (nts l) := by
  rcases h with ⟨h1, ⟨rfl, rfl, rfl⟩ | ⟨rfl, r⟩⟩
  · have : l = [] := by cases l with | nil => rfl | cons x l => simp at h1
    subst this
    exact Rd.nil _
  · exact r.rd

set_option maxRecDepth 100000 in
set_option maxHeartbeats 1000000 in
theorem behind_any (N : Nat) (G : List NE) (U : List Bool) (A AU : Option Addr) (c cU v first : Nat) (w : World) (hg : GV N G) (hU : U.length = G.length) (hf : first < G.length) (hE : Rd (· < w.heap.size) w A (nflat G)) (hUs : Rd (· < w.heap.size) w AU (bls U)) (hV : Vs (· < w.heap.size) w v (outL N G G.length)) :
    Calls Try.prog 35 #[gv N A G.length c, .int .i64 (first : Int), .slice AU G.length cU, .func (.func 38) #[] #[.pointer (some ⟨v, 0, none⟩)]] w fun e w' => Beh w N G U first e w' := by
  have hn2 := hg.n2
  have hm := hg.m
  obtain ⟨W0, hW0⟩ : ∃ W0, w.alloc (.cells #[.int .i64 N, .slice A G.length c] 24) = W0 := ⟨_, rfl⟩
  have hs0 : W0.heap.size = w.heap.size + 1 := by rw [← hW0]; simp
  have b0 : Below w.heap.size w W0 := by rw [← hW0]; exact below_alloc1 _ _
  have h0 : W0.heap[w.heap.size]? = some (.cells #[.int .i64 N, .slice A G.length c] 24 (0, 0)) := by rw [← hW0]; exact Go.heap_alloc_new _ _
  obtain ⟨W1, hW1⟩ : ∃ W1, W0.alloc (.cells #[.slice AU G.length cU] 43) = W1 := ⟨_, rfl⟩
  have hs1 : W1.heap.size = w.heap.size + 2 := by rw [← hW1]; simp [hs0]
  have b1 : Below W0.heap.size W0 W1 := by rw [← hW1]; exact below_alloc1 _ _
  have h1 : W1.heap[w.heap.size + 1]? = some (.cells #[.slice AU G.length cU] 43 (0, 0)) := by rw [← hW1, ← hs0]; exact Go.heap_alloc_new _ _
  obtain ⟨W2, hW2⟩ : ∃ W2, W1.alloc (.cells #[.slice none 0 0] 26) = W2 := ⟨_, rfl⟩
  have hs2 : W2.heap.size = w.heap.size + 3 := by rw [← hW2]; simp [hs1]
  have b2 : Below W1.heap.size W1 W2 := by rw [← hW2]; exact below_alloc1 _ _
  have h2 : W2.heap[w.heap.size + 2]? = some (.cells #[.slice none 0 0] 26 (0, 0)) := by rw [← hW2, ← hs1]; exact Go.heap_alloc_new _ _
  have h02 : W2.heap[w.heap.size]? = some (.cells #[.int .i64 N, .slice A G.length c] 24 (0, 0)) := (b2.block _ (by omega)).trans ((b1.block _ (by omega)).trans h0)
  obtain ⟨k0, k1, _, _⟩ := blk2 h02
  obtain ⟨i, hi, hz, hsz, hby⟩ := info4
  obtain ⟨W3, hmk, r1, r2, hs3⟩ := run_mkr W2 43 4 i _ 1 1 Try.underlying43 hi hz hsz hby N (by omega) (by omega)
  rw [Nat.mul_one, made_one _ rfl] at r1
  rw [hs2] at r1 hmk hs3
  obtain ⟨W4, hW4⟩ : ∃ W4, W3.alloc (.cells #[.slice (some ⟨w.heap.size + 3, 0, none⟩) N N] 43) = W4 := ⟨_, rfl⟩
  have hs4 : W4.heap.size = w.heap.size + 5 := by rw [← hW4]; simp [hs3]
  have b4 : Below W3.heap.size W3 W4 := by rw [← hW4]; exact below_alloc1 _ _
  have h4 : W4.heap[w.heap.size + 4]? = some (.cells #[.slice (some ⟨w.heap.size + 3, 0, none⟩) N N] 43 (0, 0)) := by rw [← hW4, show w.heap.size + 4 = W3.heap.size by omega]; exact Go.heap_alloc_new _ _
  have b24 : Below W2.heap.size W2 W4 := r2.trans (b4.mono (by omega))
  have b04 : Below w.heap.size w W4 := ((b0.trans (b1.mono (by omega))).trans (b2.mono (by omega))).trans (b24.mono (by omega))
  have h14 : W4.heap[w.heap.size + 1]? = some (.cells #[.slice AU G.length cU] 43 (0, 0)) := (b24.block _ (by omega)).trans ((b2.block _ (by omega)).trans h1)
  have h24 : W4.heap[w.heap.size + 2]? = some (.cells #[.slice none 0 0] 26 (0, 0)) := (b24.block _ (by omega)).trans h2
  have h04 : W4.heap[w.heap.size]? = some (.cells #[.int .i64 N, .slice A G.length c] 24 (0, 0)) := (b24.block _ (by omega)).trans h02
  have fb : FB N G U A AU c cU v (outL N G G.length) w W4 :=
    ⟨(blk2 h04).2.1, (one_at h14).1, (one_at h4).1, hE.below b04 (fun j hj _ => hj), hUs.below b04 (fun j hj _ => hj), hV.keep b04.size (fun j hj _ => b04.block j hj), b04, by omega⟩
  have ns : NS N w [] W4 := ⟨none, 0, 0, h24, ⟨rfl, .inl ⟨rfl, rfl, rfl⟩⟩, fun h => absurd rfl h, by
    have := r1.below' (b4.mono (by omega))
    have e : List.replicate N (Value.bool false) = bls (seenL N []) := by
      apply List.ext_getElem
      · simp [seenL]
      · intro j j1 j2; simp [seenL]
    rwa [e] at this⟩
  have fo := fol_any N G U A AU c cU v _ w W4 [] first hg hU fb ns hf (by simp)
  have HG := Lib.hid hg
  clear hi hz hsz hby r1 r2 b0 b1 b2 b4 b24 b04 h0 h1 h2 h02 h14 h24 h04 h4 fb ns hE hUs hV hg
  have hs3' : W3.heap.size = w.heap.size + 4 := by omega
  clear hs3 hs2
  go_enter Try.func35, Try.ntmps35
  go_wp2_with fail
  refine fo.mono ?_
  rintro e W5 ⟨rfl, fb5, ns5, _⟩
  have S5 : Hid (BLoop N G U A AU c cU v w first 0 W5) := Lib.hid ⟨_, fb5, ns5, BI.start HG.out hf⟩
  clear fo fb5 ns5 k0 k1 hmk
  go_wp2_with fail
  go_loopg [12] N (fun gf v' wx => ∃ k, v' = .int .i64 ((k : Nat) : Int) ∧ Hid (gf + k = N) ∧ Hid (BLoop N G U A AU c cU v w first k wx))
  case atStart => exact ⟨0, rfl, Lib.hid (by omega), S5⟩
  case round =>
    obtain ⟨k, rfl, hk, hl⟩ := hrel
    clear S5
    obtain ⟨ns, fb, hns, bi⟩ := hl.out
    obtain ⟨A', g', c', n1, n2, n3, n4⟩ := hns
    have hnl := bi.small
    obtain ⟨q1, q2⟩ := one_at n1
    have hk' := hk.out
    have hkl := bi.kl
    by_cases hlt : k < ns.length
    · have lt0 : (k : Int) < (ns.length : Int) := by omega
      obtain ⟨b, off, rfl, e0⟩ := n2.rd.nat_at hlt
      have hun : gw ns k < N := bi.lt _ (by rw [gw_eq hlt]; exact List.getElem_mem _)
      have hlu : gl (outL N G G.length) (gw ns k) = outs G G.length (gw ns k) := gl_outL hun
      have hln := outs_len G G.length (gw ns k)
      have vis := visit_any (· < w.heap.size) v (gw ns k) (outL N G G.length) 43 (.pointer (some ⟨w.heap.size, 0, none⟩)) (.pointer (some ⟨w.heap.size + 1, 0, none⟩)) (.pointer (some ⟨w.heap.size + 4, 0, none⟩)) (.pointer (some ⟨w.heap.size + 2, 0, none⟩))
        (fun j wx => FB N G U A AU c cU v (outL N G G.length) w wx ∧ NS N w (((outs G G.length (gw ns k)).take j).foldl (fol U G) ns) wx ∧ wr.heap.size ≤ wx.heap.size) wr (by rw [outL_length]; exact hun) enters43 fb.vs (by rw [hlu]; omega)
        ⟨fb, ⟨_, g', c', n1, n2, n3, n4⟩, Nat.le_refl _⟩ (fun j w' h => ⟨h.2.2, fun q hq _ => (h.1.bl.block q hq).trans (fb.bl.block q hq).symm⟩)
        (fun j w' hj h => by
          rw [hlu] at hj ⊢
          have hbn : (((outs G G.length (gw ns k)).take j).foldl (fol U G) ns).length ≤ N := nodup_le N _ (folL_nodup _ bi.nd) (folL_sound _ bi.lt (fun i hi _ => HG.out.t i (mem_outs.1 (List.mem_of_mem_take hi)).1))
          have hm1 : gw (outs G G.length (gw ns k)) j ∈ outs G G.length (gw ns k) := by rw [gw_eq hj]; exact List.getElem_mem _
          refine (fol_any N G U A AU c cU v _ w w' _ _ HG.out hU h.1 h.2.1 (mem_outs.1 hm1).1 (by omega)).mono ?_
          rintro e w'' ⟨rfl, p1, p2, p3⟩
          refine ⟨rfl, p1, ?_, Nat.le_trans h.2.2 p3⟩
          rw [List.take_succ_eq_append_getElem hj, List.foldl_append, ← gw_eq hj]
          exact p2)
      rw [hlu, List.take_length] at vis
      have BN := Lib.hid (bi.next HG.out hlt)
      clear fb n1 n2 n3 n4 bi hlu hln hl
      go_wp2_with fail
      refine vis.mono ?_
      rintro e W6 ⟨rfl, p1, p2, _⟩
      have S6 : Hid (BLoop N G U A AU c cU v w first (k + 1) W6) := Lib.hid ⟨_, p1, p2, BN.out⟩
      clear p1 p2 vis BN
      go_wp2
      go_roundg (gk - 1)
      case measure => omega
      case rel => exact ⟨k + 1, by go_num, Lib.hid (by omega), S6⟩
    · have lt0 : decide ((k : Int) < (ns.length : Int)) = false := by simp; omega
      have ek : k = ns.length := by omega
      have FIN : Hid (Rd (w.heap.size ≤ ·) wr A' (nts ns) ∧ ns.Nodup ∧ (∀ v ∈ ns, v < N) ∧ (∀ v, v ∈ ns ↔ Rc U G first v) ∧ Below w.heap.size w wr) := Lib.hid (by
        subst ek
        refine ⟨?_, bi.nd, bi.lt, bi.done, fb.bl⟩
        rcases n2 with ⟨z1, ⟨rfl, _, z4⟩ | ⟨z2, z3⟩⟩
        · have : ns = [] := List.eq_nil_of_length_eq_zero z4
          subst this
          exact Rd.nil _
        · have h5 := n3 (by simp [z2])
          rw [z2]
          exact z3.rd.more (fun j hj _ => by omega))
      clear fb n1 n2 n3 n4 bi hl ek
      go_wp2
      go_ret
      exact ⟨ns, A', c', rfl, FIN.out⟩
end Go.Proofs.Ytkpmdfgjaodlaaa
