/- The law on PutText walked: for every text the call returns true. -/
import Derived.Test.YtlpaklconaphmaePut
import Derived.Test.YtlpaklconaphmaeJoin
namespace Go.Proofs.Ytlpaklconaphmae
open Go.RowKit

set_option maxHeartbeats 400000 in
theorem puttext_spec (s : ByteArray) (w : World) (hl : (s.size : Int) ≤ 8000) :
    Calls Try.prog 8 #[.string s] w fun e w' => e = .returned (.string ⟨(putB s.size ++ s.data.toList).toArray⟩) ∧ Below w.heap.size w w' := by
  have hpl : (putB s.size).length ≤ 10 := vb_len 9 _
  go_enter Try.func8, Try.ntmps8
  go_wp2_with fail
  refine (put_spec s.size _ (by omega) (by omega)).mono ?_
  rintro e w1 ⟨rfl, hb1⟩
  go_wp2
  go_ret
  exact ⟨ret_bytes (by simp), hb1⟩

set_option maxHeartbeats 400000 in
theorem puttext_impl (s : ByteArray) (w : World) (hl : (s.size : Int) ≤ 8000) :
    Calls Try.prog 9 #[.string s] w fun e w' => e = .returned (.string ⟨(putB s.size ++ s.data.toList).toArray⟩) ∧ Below w.heap.size w w' := by
  have hpl : (putB s.size).length ≤ 10 := vb_len 9 _
  go_enter Try.func9, Try.ntmps9
  go_wp2_with fail
  refine (put_impl s.size _ (by omega) (by omega)).mono ?_
  rintro e w1 ⟨rfl, hb1⟩
  go_wp2_with fail
  refine (joined_two _ s _ _ ?_).mono ?_
  · show (putB s.size).toArray.size + s.size ≤ _
    simp
    omega
  rintro e w2 ⟨rfl, hb2⟩
  go_wp2
  go_ret
  exact ⟨rfl, hb1.trans (hb2.mono hb1.size)⟩

set_option maxHeartbeats 400000 in
theorem walk_fnExactPutText (a0 : ByteArray) (w : World) (_w0 : a0.size ≤ maxLen) :
    Calls Try.prog 4 #[.string a0] w fun e w' => e = .returned (.bool true) ∧ Below w.heap.size w w' := by
  by_cases hl : (a0.size : Int) > 1048576
  · go_enter Try.func4, Try.ntmps4
    go_wp2
    go_ret
    exact ⟨rfl, Below.refl _ _⟩
  by_cases hm : (a0.size : Int) > 8000
  · go_enter Try.func4, Try.ntmps4
    go_wp2
    go_ret
    exact ⟨rfl, Below.refl _ _⟩
  go_enter Try.func4, Try.ntmps4
  go_wp2_with fail
  refine (puttext_spec a0 _ (by omega)).mono ?_
  rintro e w1 ⟨rfl, hb1⟩
  go_wp2_with fail
  refine (puttext_impl a0 _ (by omega)).mono ?_
  rintro e w2 ⟨rfl, hb2⟩
  go_wp2
  go_ret
  exact ⟨rfl, hb1.trans (hb2.mono hb1.size)⟩
end Go.Proofs.Ytlpaklconaphmae
