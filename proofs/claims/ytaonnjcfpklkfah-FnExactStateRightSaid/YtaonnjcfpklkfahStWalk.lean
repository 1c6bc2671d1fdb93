/- The law on StateRight walked: for every row of entries the call returns true. -/
import Derived.Test.YtaonnjcfpklkfahSt5
namespace Go.Proofs.Ytaonnjcfpklkfah
open Go.RowKit

set_option maxHeartbeats 4000000 in
set_option maxRecDepth 100000 in
theorem walk_fnExactStateRight_gr (xs : List En) (a : Option Addr) (cap : Nat) (w : World) (h : EnsRaw w a xs) :
    Calls Try.prog 5 #[.slice a xs.length cap] w fun e w' => e = .returned (.bool true) ∧ Below w.heap.size w w' := by
  have hl := h.len
  by_cases hs : (xs.length : Int) ≤ 1048576
  · have hle : xs.length ≤ 1048576 := by omega
    have HE : Hid (∀ w', Below w.heap.size w w' → EnsAt w' a xs) := fun w' hb => (h.kept hb).at hle
    have HS : Hid (szN xs.length 1048576 = 1048576 - xs.length) := szN_yes hs
    obtain ⟨L, HL⟩ : ∃ L : Int, Hid (L = szN xs.length 1048576) := ⟨szN xs.length 1048576, (rfl : (szN xs.length 1048576 : Int) = _)⟩
    have hL : 0 ≤ L := by rw [HL.out, HS.out]; omega
    clear h hs
    go_enter Try.func5, Try.ntmps5
    go_wp2_with fail
    refine (sz_entries xs a cap 1048576 _ hl (by omega) (by omega)).mono ?_
    rintro e w1 ⟨rfl, rfl⟩
    rw [← HL.out]
    go_wp2_with fail
    refine (to_entries xs a cap _ (HE.out _ (Below.refl _ _))).mono ?_
    rintro e w2 ⟨a2, rfl, hn2⟩
    have HW2 : Hid (Below w.heap.size w w2) := hn2.below
    have HG2 := state_spec_ xs a2 xs.length w2 (hn2.at hle)
    clear hn2
    go_wp2_with fail
    refine HG2.mono ?_
    rintro e w3 ⟨rfl, hb3⟩
    have HW3 : Hid (Below w.heap.size w w3) := HW2.out.trans (hb3.mono HW2.out.size)
    clear hb3 HG2
    go_wp2_with fail
    refine (to_entries xs a cap _ (HE.out _ HW3.out)).mono ?_
    rintro e w4 ⟨a4, rfl, hn4⟩
    have HW4 : Hid (Below w.heap.size w w4) := HW3.out.trans (hn4.below.mono HW3.out.size)
    have HN4 : Hid (∀ w', Below w4.heap.size w4 w' → EnsAt w' a4 xs) := fun w' hb => (hn4.at hle).kept hb
    have HG4 := state_impl xs a4 xs.length w4 (hn4.at hle)
    clear hn4
    go_wp2_with fail
    refine HG4.mono ?_
    rintro e w5 ⟨rfl, hb5⟩
    have HY5 : Hid (Below w4.heap.size w4 w5) := hb5
    have HW5 : Hid (Below w.heap.size w w5) := HW4.out.trans (hb5.mono HW4.out.size)
    clear hb5 HG4
    cases hr : rowE false xs <;>
    · go_wp2_with (first
        | (go_at_call 16; refine (to_entries xs a cap _ (HE.out _ HW5.out)).mono ?_; rintro e w6 ⟨a6, rfl, hn6⟩; have HW6 : Hid (Below w5.heap.size w5 w6) := hn6.below; have HX6 : Hid (Below w.heap.size w w6) := HW5.out.trans (HW6.out.mono HW5.out.size); have HY6 : Hid (Below w4.heap.size w4 w6) := HY5.out.trans (HW6.out.mono HY5.out.size); have HQ6 := eq_entries xs a4 a6 xs.length xs.length w6 (HN4.out _ HY6.out) (hn6.at hle); clear hn6)
        | (go_at_call 18; refine HQ6.mono ?_; rintro e w7 ⟨rfl, hb7⟩; have HW7 : Hid (Below w.heap.size w w7) := HX6.out.trans (hb7.mono HX6.out.size); clear hb7))
      go_ret
      exact ⟨rfl, HW7.out⟩
  · have HS : Hid (szN xs.length 1048576 = -1) := szN_no hs
    clear h hs
    go_enter Try.func5, Try.ntmps5
    go_wp2_with fail
    refine (sz_entries xs a cap 1048576 _ hl (by omega) (by omega)).mono ?_
    rintro e w1 ⟨rfl, rfl⟩
    rw [HS.out]
    go_wp2
    go_ret
    exact ⟨rfl, Below.refl _ _⟩
end Go.Proofs.Ytaonnjcfpklkfah
