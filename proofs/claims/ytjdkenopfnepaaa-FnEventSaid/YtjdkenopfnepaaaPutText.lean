/- The contracts of PutText, the specification's and the program's. -/
import Derived.Test.YtjdkenopfnepaaaPut
import Derived.Test.YtjdkenopfnepaaaJoin
namespace Go.Proofs.Ytjdkenopfnepaaa
open Go.RowKit

set_option maxHeartbeats 400000 in
theorem puttext_spec (s : ByteArray) (w : World) (hl : (s.size : Int) ≤ 8000) :
    Calls Try.prog 107 #[.string s] w fun e w' => e = .returned (.string ⟨(putB s.size ++ s.data.toList).toArray⟩) ∧ Below w.heap.size w w' := by
  have hpl : (putB s.size).length ≤ 10 := vb_len 9 _
  go_enter Try.func107, Try.ntmps107
  go_wp2_with fail
  refine (put_spec s.size _ (by omega) (by omega)).mono ?_
  rintro e w1 ⟨rfl, hb1⟩
  go_wp2
  go_ret
  exact ⟨ret_bytes (by simp), hb1⟩

set_option maxHeartbeats 400000 in
theorem puttext_impl (s : ByteArray) (w : World) (hl : (s.size : Int) ≤ 8000) :
    Calls Try.prog 45 #[.string s] w fun e w' => e = .returned (.string ⟨(putB s.size ++ s.data.toList).toArray⟩) ∧ Below w.heap.size w w' := by
  have hpl : (putB s.size).length ≤ 10 := vb_len 9 _
  go_enter Try.func45, Try.ntmps45
  go_wp2_with fail
  refine (put_impl s.size _ (by omega) (by omega)).mono ?_
  rintro e w1 ⟨rfl, hb1⟩
  go_wp2_with fail
  refine (joined_two _ s _ _ ?_).mono ?_
  · show (putB s.size).toArray.size + s.size ≤ _
    simp
    omega
  rintro e w2 ⟨rfl, hb2⟩
  go_wp2
  go_ret
  exact ⟨rfl, hb1.trans (hb2.mono hb1.size)⟩

theorem puttext_spec_big (s : ByteArray) (w : World) (hl : (s.size : Int) > 8000) :
    Calls Try.prog 107 #[.string s] w fun e w' => e = .returned (.string ⟨#[]⟩) ∧ w = w' := by
  go_enter Try.func107, Try.ntmps107
  go_wp2
  go_ret
  exact ⟨rfl, rfl⟩
theorem puttext_impl_big (s : ByteArray) (w : World) (hl : (s.size : Int) > 8000) :
    Calls Try.prog 45 #[.string s] w fun e w' => e = .returned (.string ⟨#[]⟩) ∧ w = w' := by
  go_enter Try.func45, Try.ntmps45
  go_wp2
  go_ret
  exact ⟨rfl, rfl⟩
end Go.Proofs.Ytjdkenopfnepaaa
