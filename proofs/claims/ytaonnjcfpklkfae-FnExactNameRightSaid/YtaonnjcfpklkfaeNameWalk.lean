/- The law on NameRight walked: for every text the call returns true. -/
import Derived.Test.YtaonnjcfpklkfaeName
namespace Go.Proofs.Ytaonnjcfpklkfae
open Go.RowKit

set_option maxHeartbeats 400000 in
theorem walk_fnExactNameRight (a0 : ByteArray) (w : World) (w0 : a0.size ≤ maxLen) :
    Calls Try.prog 5 #[.string a0] w fun e w' => e = .returned (.bool true) ∧ Below w.heap.size w w' := by
  by_cases hl : (a0.size : Int) > 1048576
  · go_enter Try.func5, Try.ntmps5
    go_wp2
    go_ret
    exact ⟨rfl, Below.refl _ _⟩
  by_cases hp : nameP a0
  · have HP : Hid (nameP a0) := hp
    clear hp
    go_enter Try.func5, Try.ntmps5
    go_wp2_with fail
    refine (name_spec a0 _ w0).mono ?_
    rintro e w1 ⟨⟨b, rfl, hb⟩, rfl⟩
    obtain rfl : b = true := hb.2 HP.out
    clear hb
    go_wp2_with fail
    refine (name_impl a0 _ w0).mono ?_
    rintro e w1 ⟨⟨b, rfl, hb⟩, rfl⟩
    obtain rfl : b = true := hb.2 HP.out
    clear hb
    go_wp2
    go_ret
    exact ⟨rfl, Below.refl _ _⟩
  · have HP : Hid (¬ nameP a0) := hp
    clear hp
    go_enter Try.func5, Try.ntmps5
    go_wp2_with fail
    refine (name_spec a0 _ w0).mono ?_
    rintro e w1 ⟨⟨b, rfl, hb⟩, rfl⟩
    obtain rfl : b = false := by cases b with
      | false => rfl
      | true => exact absurd (hb.1 rfl) HP.out
    clear hb
    go_wp2_with fail
    refine (name_impl a0 _ w0).mono ?_
    rintro e w1 ⟨⟨b, rfl, hb⟩, rfl⟩
    obtain rfl : b = false := by cases b with
      | false => rfl
      | true => exact absurd (hb.1 rfl) HP.out
    clear hb
    go_wp2
    go_ret
    exact ⟨rfl, Below.refl _ _⟩
end Go.Proofs.Ytaonnjcfpklkfae
