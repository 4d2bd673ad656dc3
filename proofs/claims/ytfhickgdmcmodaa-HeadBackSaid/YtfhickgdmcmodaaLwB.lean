/-
  The walk of the law HeadBack, put together. No statement is proved here; no conditions.
-/
import Derived.Test.YtfhickgdmcmodaaLwB1
import Derived.Test.YtfhickgdmcmodaaLwB2
import Derived.Test.YtfhickgdmcmodaaLwB3
namespace Go.Proofs.Ytfhickgdmcmodaa
open Go.RowKit Go.Joins

set_option maxRecDepth 100000 in
set_option maxHeartbeats 4000000 in
theorem back_walk (p : Pk) (A : Option Addr) (c : Nat) (at_ by_ : Int) (w : World) (ok : Okp p) (hb : Bt w A p.b) (hy0 : 0 ≤ by_) (hy1 : by_ < 256) :
    Calls Try.prog 6 #[pv' p A c, .int .i64 at_, .int .u8 by_] w fun e w' => e = .returned (.bool true) ∧ Below w.heap.size w w' := by
  by_cases h1 : 1600 < p.b.length
  · exact back_long p A c at_ by_ w ok hb hy0 hy1 h1
  by_cases hm : mayp p = true
  case neg => exact back_neg p A c at_ by_ w ok hb hy0 hy1 h1 hm
  by_cases a1 : at_ < 0
  · exact back_a1 p A c at_ by_ w ok hb hy0 hy1 h1 hm a1
  by_cases a2 : at_ ≥ 24 + (p.b.length : Int)
  · exact back_a2 p A c at_ by_ w ok hb hy0 hy1 h1 hm a1 a2
  by_cases a3 : 16 ≤ at_ ∧ at_ < 24
  · exact back_a3 p A c at_ by_ w ok hb hy0 hy1 h1 hm a1 a2 a3
  by_cases a7 : by_ = 0
  · by_cases a9 : at_ ≥ 16
    · exact back_a7 p A c at_ by_ w ok hb hy0 hy1 h1 hm a1 a2 a3 a7 a9
    · exact back_a8 p A c at_ by_ w ok hb hy0 hy1 h1 hm a1 a2 a3 a7 a9
  · by_cases a9 : at_ ≥ 16
    · exact back_a9 p A c at_ by_ w ok hb hy0 hy1 h1 hm a1 a2 a3 a7 a9
    · exact back_a10 p A c at_ by_ w ok hb hy0 hy1 h1 hm a1 a2 a3 a7 a9
end Go.Proofs.Ytfhickgdmcmodaa
