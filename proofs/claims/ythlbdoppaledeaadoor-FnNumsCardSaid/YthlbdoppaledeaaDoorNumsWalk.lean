/- The law on numbers and texts, over what the row says of its two slices. -/
import Derived.Test.YthlbdoppaledeaaDoorNumsLaw
import Derived.Test.YthlbdoppaledeaaDoorRows2
namespace Go.Proofs.YthlbdoppaledeaaDoor
open Go.RowKit

theorem walk_fnNums_rows (a0 : Option Addr) (len0 cap0 : Nat) (z0 : List Int) (a1 : Option Addr) (len1 cap1 : Nat) (z1 : List Int) (w : World) (w0 : IsRow .u8 w a0 len0 cap0 z0) (w1 : IsRow .u8 w a1 len1 cap1 z1) (hg : laidE w) :
    Calls Tryd.prog 3 #[.slice a0 len0 cap0, .slice a1 len1 cap1] w fun e w' => e = .returned (.bool true) ∧ Below w.heap.size w w' := by
  by_cases h0 : len0 ≤ 1048576
  · by_cases h1 : len1 ≤ 1048576
    · exact nums_law_small a0 a1 len0 cap0 len1 cap1 w (w0.code h0) (w1.code h1) hg
    · have b0 : decide (1048576 < (len0 : Int)) = false := by simp; omega
      have b1 : decide (1048576 < (len1 : Int)) = true := by simp; omega
      clear w0 w1 hg
      go_enter Tryd.func3, Tryd.ntmps3
      go_wp2
      go_ret
      exact ⟨rfl, Below.refl _ _⟩
  · have b0 : decide (1048576 < (len0 : Int)) = true := by simp; omega
    clear w0 w1 hg
    go_enter Tryd.func3, Tryd.ntmps3
    go_wp2
    go_ret
    exact ⟨rfl, Below.refl _ _⟩
end Go.Proofs.YthlbdoppaledeaaDoor
