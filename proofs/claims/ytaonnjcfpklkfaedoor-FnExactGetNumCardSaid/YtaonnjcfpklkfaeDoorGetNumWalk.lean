/- The law on GetNum walked: for every text and place the call returns true. -/
import Derived.Test.YtaonnjcfpklkfaeDoorGetNum
import Derived.Test.YtaonnjcfpklkfaeDoorGet
import Derived.OpenShut
namespace Go.Proofs.YtaonnjcfpklkfaeDoor
open Go.RowKit

set_option maxHeartbeats 400000 in
theorem eqnum (a b c : Int) (w : World) :
    Calls Tryd.prog 7 #[.agg #[.int .i64 a, .int .i64 b, .int .i64 c], .agg #[.int .i64 a, .int .i64 b, .int .i64 c]] w fun e w' => e = .returned (.bool true) ∧ Below w.heap.size w w' := by
  go_enter Tryd.func7, Tryd.ntmps7
  go_wp2
  go_ret
  exact ⟨rfl, ((Below.refl _ _).alloc (Nat.le_refl _) _).alloc (by simp) _⟩

theorem getnum_law (a0 : ByteArray) (a1 : Int) (w : World) (hg : laidE w) (a b c : Int) (hl : (a0.size : Int) ≤ 1048576)
    (h1 : ∀ w, Calls Tryd.prog 5 #[.string a0, .int .i64 a1] w fun e w' => e = .returned (numV a b c) ∧ Below w.heap.size w w')
    (h2 : ∀ w, laidE w → Calls Tryd.prog 6 #[.string a0, .int .i64 a1] w fun e w' => e = .returned (numV a b c) ∧ Below w.heap.size w w') :
    Calls Tryd.prog 3 #[.string a0, .int .i64 a1] w fun e w' => e = .returned (.bool true) ∧ Below w.heap.size w w' := by
  have H1 : Hid (∀ w, Calls Tryd.prog 5 #[.string a0, .int .i64 a1] w fun e w' => e = .returned (numV a b c) ∧ Below w.heap.size w w') := h1
  have H2 : Hid (∀ w, laidE w → Calls Tryd.prog 6 #[.string a0, .int .i64 a1] w fun e w' => e = .returned (numV a b c) ∧ Below w.heap.size w w') := h2
  have HG : Hid (laidE w) := hg
  clear h1 h2 hg
  go_enter Tryd.func3, Tryd.ntmps3
  go_wp2_with fail
  refine (H1.out _).mono ?_
  rintro e w1 ⟨rfl, hb1⟩
  unfold numV
  go_wp2_with fail
  refine (H2.out _ (HG.out.later (hb1.alloc hb1.size _))).mono ?_
  rintro e w2 ⟨rfl, hb2⟩
  obtain ⟨hc2, hf2⟩ := bcell hb2
  have hz : w1.heap.size < w2.heap.size := by have := hb2.size; simp at this; omega
  unfold numV
  go_wp2_with fail
  refine (eqnum a b c _).mono ?_
  rintro e w3 ⟨rfl, hb3⟩
  go_wp2
  go_ret
  have s1 := hb1.size
  have s2 := hb2.size
  simp at s2
  exact ⟨rfl, ((hb1.alloc s1 _).trans (hb2.mono (by simp; omega))).trans (((Below.refl _ _).alloc (by omega) _).trans (hb3.mono (by simp; omega)))⟩

theorem walk_fnExactGetNum (a0 : ByteArray) (a1 : Int) (w : World) (_w0 : a0.size ≤ maxLen) (w1 : (Lit.int .i64 a1).wf = true) (hg : laidE w) :
    Calls Tryd.prog 3 #[.string a0, .int .i64 a1] w fun e w' => e = .returned (.bool true) ∧ Below w.heap.size w w' := by
  obtain ⟨hn1, hn2⟩ := bounds_i64 w1
  by_cases hl : (a0.size : Int) > 1048576
  · clear hg
    go_enter Tryd.func3, Tryd.ntmps3
    go_wp2
    go_ret
    exact ⟨rfl, Below.refl _ _⟩
  by_cases hb : (a0.size : Int) > 8000
  · exact getnum_law a0 a1 w hg _ _ _ (by omega) (fun w => get_spec_big a0 a1 w hb) (fun w hg => getnum_impl a0 a1 w hg _ _ _ fun w => read_big a0 a1 w hb)
  by_cases hn : a1 < 0
  · exact getnum_law a0 a1 w hg _ _ _ (by omega) (fun w => get_spec_neg a0 a1 w (by omega) hn) (fun w hg => getnum_impl a0 a1 w hg _ _ _ fun w => read_neg a0 a1 w (by omega) hn)
  obtain ⟨p, rfl⟩ := Int.eq_ofNat_of_zero_le (show 0 ≤ a1 by omega)
  exact getnum_law a0 p w hg _ _ _ (by omega) (fun w => get_spec a0 p w (by omega) (by omega) _ rfl) (fun w hg => getnum_impl a0 p w hg _ _ _ fun w => read_impl a0 p w (by omega) (by omega) _ rfl)
end Go.Proofs.YtaonnjcfpklkfaeDoor
