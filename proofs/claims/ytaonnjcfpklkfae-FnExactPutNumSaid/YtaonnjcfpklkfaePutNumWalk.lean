/- The law on PutNum walked: for every number of int64 the call returns true. -/
import Derived.Test.YtaonnjcfpklkfaePut
import Derived.OpenShut
namespace Go.Proofs.Ytaonnjcfpklkfae
open Go.RowKit

theorem i64_bounds {n : Int} (h : (Lit.int .i64 n).wf = true) : -9223372036854775808 ≤ n ∧ n ≤ 9223372036854775807 := by
  exact bounds_i64 h

set_option maxHeartbeats 400000 in
theorem walk_fnExactPutNum (a0 : Int) (w : World) (w0 : (Lit.int .i64 a0).wf = true) :
    Calls Try.prog 3 #[.int .i64 a0] w fun e w' => e = .returned (.bool true) ∧ Below w.heap.size w w' := by
  obtain ⟨h1, h2⟩ := i64_bounds w0
  go_enter Try.func3, Try.ntmps3
  go_wp2_with fail
  refine (put_spec a0 _ h1 h2).mono ?_
  rintro e w1 ⟨rfl, hb1⟩
  go_wp2_with fail
  refine (put_impl a0 _ h1 h2).mono ?_
  rintro e w2 ⟨rfl, hb2⟩
  go_wp2
  go_ret
  exact ⟨rfl, hb1.trans (hb2.mono hb1.size)⟩
end Go.Proofs.Ytaonnjcfpklkfae
