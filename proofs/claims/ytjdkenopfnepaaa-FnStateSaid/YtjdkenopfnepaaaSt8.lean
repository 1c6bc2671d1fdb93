/- StateAt of both sides; the law on it walked. -/
import Derived.Test.YtjdkenopfnepaaaStAt
namespace Go.Proofs.Ytjdkenopfnepaaa
open Go.RowKit

theorem atE_bad {xs : List En} {k y : Int} (h : rowE false xs = false) : atE xs k y = 0 := if_neg (by simp [h])
theorem atE_good {xs : List En} {k y : Int} (h : rowE false xs = true) : atE xs k y = stAt xs k y := if_pos h
set_option maxHeartbeats 2000000 in
set_option maxRecDepth 100000 in
theorem stateAt_spec (xs : List En) (q y : Int) (a : Option Addr) (cap : Nat) (w : World) (h : EnsAt w a xs) :
    Calls Try.prog 34 #[.slice a xs.length cap, .int .i64 q, .int .i64 y] w fun e w' => e = .returned (.int .i64 (atE xs q y)) ∧ Below w.heap.size w w' := by
  have HG := state_spec_ xs a cap w h
  have HE : Hid (∀ w', Below w.heap.size w w' → EnsAt w' a xs) := fun w' hb => h.kept hb
  clear h
  cases hr : rowE false xs
  · have HS : Hid (atE xs q y = 0) := atE_bad hr
    go_enter Try.func34, Try.ntmps34
    go_wp2_with (go_at_call 36; refine HG.mono ?_; rintro e w1 ⟨rfl, hb1⟩; rw [hr])
    go_ret
    exact ⟨ret_int HS.out.symm, hb1⟩
  · have HS : Hid (atE xs q y = stAt xs q y) := atE_good hr
    go_enter Try.func34, Try.ntmps34
    go_wp2_with (first
      | (go_at_call 36; refine HG.mono ?_; rintro e w1 ⟨rfl, hb1⟩; rw [hr]; have HW1 : Hid (Below w.heap.size w w1) := hb1; clear hb1)
      | (go_at_call 87; refine (sat_spec xs q y a cap _ (HE.out _ HW1.out)).mono ?_; rintro e w2 ⟨rfl, rfl⟩))
    go_ret
    exact ⟨ret_int HS.out.symm, HW1.out⟩
set_option maxHeartbeats 2000000 in
set_option maxRecDepth 100000 in
theorem stateAt_impl (xs : List En) (q y : Int) (hq : (Lit.int .i64 q).wf = true) (hy : (Lit.int .i64 y).wf = true) (a : Option Addr) (cap : Nat) (w : World) (h : EnsAt w a xs) :
    Calls Try.prog 33 #[.slice a xs.length cap, .int .i64 q, .int .i64 y] w fun e w' => e = .returned (.int .i64 (atE xs q y)) ∧ Below w.heap.size w w' := by
  have HC := standing_impl xs a cap w h
  have hnil : ∀ W : World, (Instr.lookup 103 (.map none) (.agg #[.int .i64 q, .int .i64 y]) false).run Try.prog W = .ok (.int .i64 0) W := fun W => by
    have := Maps.look_nil (w := W) false slot_keyed Try.underlying103 (zero_int64 W) (keyOf_slot hq hy)
    simpa using this
  clear h
  cases hr : rowE false xs
  · have HS : Hid (atE xs q y = 0) := atE_bad hr
    go_enter Try.func33, Try.ntmps33
    go_wp2_with fail
    refine HC.mono ?_
    rintro e w1 (⟨_, rfl, hb1⟩ | ⟨h1, _⟩)
    · go_wp2
      go_ret
      exact ⟨ret_int HS.out.symm, hb1⟩
    · rw [hr] at h1
      cases h1
  · have HS : Hid (atE xs q y = stAt xs q y) := atE_good hr
    have HRI : Hid (xs.length ≤ 400 ∧ riseB xs = true ∧ ∀ x ∈ xs, EnIn x ∧ (x.id == 0) = false) := rowE_in hr
    go_enter Try.func33, Try.ntmps33
    go_wp2_with fail
    refine HC.mono ?_
    rintro e w1 (⟨h1, _⟩ | ⟨_, b, rfl, hbn, hown, hb1⟩)
    · rw [hr] at h1
      cases h1
    · have hlk := look_S hown (fun x hx => (HRI.out.2.2 x (by simpa using hx)).1) hq hy
      rw [look_rev HRI.out.2.1] at hlk
      have HW : Hid (Below w.heap.size w w1) := hb1
      clear hown hb1 hnil
      go_wp2
      go_ret
      exact ⟨ret_int HS.out.symm, HW.out⟩
end Go.Proofs.Ytjdkenopfnepaaa
