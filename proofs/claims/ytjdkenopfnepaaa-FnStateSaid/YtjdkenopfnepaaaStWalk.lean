/- The law on StateRight walked: for every row of entries the call returns true. -/
import Derived.Test.YtjdkenopfnepaaaSt5
namespace Go.Proofs.Ytjdkenopfnepaaa
open Go.RowKit

set_option maxHeartbeats 1000000 in
set_option maxRecDepth 100000 in
theorem state_impl (xs : List En) (a : Option Addr) (cap : Nat) (w : World) (h : EnsAt w a xs) :
    Calls Try.prog 35 #[.slice a xs.length cap] w fun e w' => e = .returned (.bool (rowE false xs)) ∧ Below w.heap.size w w' := by
  have HS := entries_stand xs a cap w h
  clear h
  go_enter Try.func35, Try.ntmps35
  go_wp2_with (go_at_call 83; refine HS.mono ?_; rintro e w1 ⟨rfl, hb1⟩)
  go_ret
  exact ⟨rfl, hb1⟩
end Go.Proofs.Ytjdkenopfnepaaa
