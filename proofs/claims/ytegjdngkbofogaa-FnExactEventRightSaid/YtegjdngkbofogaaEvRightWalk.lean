/- The law on EventRight walked: for every event the call returns true. -/
import Derived.Test.YtegjdngkbofogaaEvTo
import Derived.Test.YtegjdngkbofogaaEvRightImpl
namespace Go.Proofs.Ytegjdngkbofogaa
open Go.RowKit

set_option maxHeartbeats 1000000 in
theorem walk_fnExactEventRight_ev (v : Ev) (a : Option Addr) (cap : Nat) (w : World) (ht : v.text.size ≤ maxLen) (hp : v.prev.length ≤ maxLen) (hn : v.prev.length ≤ 1048576 → NumsAt w a v.prev) :
    Calls Try.prog 3 #[.agg #[.int .i64 v.id, .int .i64 v.room, .int .i64 v.author, .int .i64 v.kind, .int .i64 v.key, .int .i64 v.n, .string v.text, .slice a v.prev.length cap, .int .i64 v.time]] w fun e w' => e = .returned (.bool true) ∧ Below w.heap.size w w' := by
  by_cases hs : (v.text.size : Int) + v.prev.length ≤ 1048576
  · have HN : Hid (∀ w', Below w.heap.size w w' → NumsAt w' a v.prev) := fun w' hb => (hn (by omega)).kept hb
    have hl : v.prev.length ≤ 1048576 := by omega
    have HSZ : Hid ((if (v.text.size : Int) + v.prev.length ≤ 1048576 then (1048576 : Int) - v.text.size - v.prev.length else -1) = 1048576 - v.text.size - v.prev.length) := if_pos hs
    have HB0 : Hid (∀ o, Below w.heap.size w (w.alloc o)) := fun o => (Below.refl _ _).alloc (Nat.le_refl _) _
    clear hn
    go_enter Try.func3, Try.ntmps3
    go_wp2_with fail
    refine (sz_event v a cap 1048576 _ (by omega) (by omega) ht hp).mono ?_
    rintro e w1 ⟨rfl, hb1⟩
    rw [HSZ.out]
    obtain ⟨hc1, hf1⟩ := bcell hb1
    have hz1 : w.heap.size < w1.heap.size := by have := hb1.size; simp at this; omega
    have HW1 : Hid (Below w.heap.size w w1) := (HB0.out _).trans (hb1.mono (by simp))
    clear hb1
    go_wp2_with fail
    refine (to_event v a cap _ (HN.out _ HW1.out)).mono ?_
    rintro e w2 ⟨a2, rfl, hn2, hb2⟩
    obtain ⟨hc2, hf2⟩ := bcell hb2
    have HN2 : Hid (NumsAt w2 a2 v.prev) := hn2.at hl
    have hz2 : w.heap.size < w2.heap.size := Nat.lt_of_lt_of_le hz1 hb2.size
    have HW2 : Hid (Below w.heap.size w w2) := HW1.out.trans (hb2.mono (Nat.le_of_lt hz1))
    clear hn2 hb2
    go_wp2_with fail
    refine (right_spec v a2 v.prev.length _ HN2.out).mono ?_
    rintro e w3 ⟨rfl, hb3⟩
    obtain ⟨hc3, hf3⟩ := bcell hb3
    have hz3 : w.heap.size < w3.heap.size := Nat.lt_of_lt_of_le hz2 hb3.size
    have HW3 : Hid (Below w.heap.size w w3) := HW2.out.trans (hb3.mono (Nat.le_of_lt hz2))
    clear hb3
    go_wp2_with fail
    refine (to_event v a cap _ (HN.out _ HW3.out)).mono ?_
    rintro e w4 ⟨a4, rfl, hn4, hb4⟩
    obtain ⟨hc4, hf4⟩ := bcell hb4
    have HN4 : Hid (∀ w', Below w4.heap.size w4 w' → NumsAt w' a4 v.prev) := fun w' hb => (hn4.at hl).kept hb
    have hz4 : w.heap.size < w4.heap.size := Nat.lt_of_lt_of_le hz3 hb4.size
    have HW4 : Hid (Below w.heap.size w w4) := HW3.out.trans (hb4.mono (Nat.le_of_lt hz3))
    clear hn4 hb4
    go_wp2_with fail
    refine (right_impl v a4 v.prev.length _ (HN4.out _ ((Below.refl _ _).alloc (Nat.le_refl _) _))).mono ?_
    rintro e w5 ⟨rfl, hb5⟩
    obtain ⟨hc5, hf5⟩ := bcell hb5
    have hz5 : w4.heap.size < w5.heap.size := by have := hb5.size; simp at this; omega
    have hy5 : w.heap.size < w5.heap.size := Nat.lt_trans hz4 hz5
    have HX5 : Hid (Below w4.heap.size w4 w5) := ((Below.refl _ _).alloc (Nat.le_refl _) _).trans (hb5.mono (by simp))
    have HW5 : Hid (Below w.heap.size w w5) := HW4.out.trans (HX5.out.mono (Nat.le_of_lt hz4))
    clear hb5
    go_wp2_with fail
    first
      | (go_region_with (first
          | (go_at_call 12; refine (to_event v a cap _ (HN.out _ (Below.drew HW5.out))).mono ?_; rintro e w6 ⟨a6, rfl, hn6, hb6⟩; have hc6 : ∀ b o, b < w5.heap.size → w6.cell? ⟨b, o, none⟩ = w5.cell? ⟨b, o, none⟩ := (bcell hb6).1)
          | (go_at_call 14; refine (eq_event v a4 a6 v.prev.length v.prev.length _ (HN4.out _ (HX5.out.trans (Below.drew (Below.refl _ _) |>.trans (hb6.mono (Nat.le_of_lt hz5))))) (hn6.at hl)).mono ?_; rintro e w7 ⟨rfl, hb7⟩)))
      | fail
    all_goals go_wp2
    all_goals go_ret
    all_goals exact ⟨rfl, HW5.out.trans (Below.drew (Below.refl _ _) |>.trans ((hb6.mono (Nat.le_of_lt hy5)).trans (hb7.mono (Nat.le_trans (Nat.le_of_lt hy5) hb6.size))))⟩
  · have HSZ : Hid ((if (v.text.size : Int) + v.prev.length ≤ 1048576 then (1048576 : Int) - v.text.size - v.prev.length else -1) = -1) := if_neg hs
    clear hn
    go_enter Try.func3, Try.ntmps3
    go_wp2_with fail
    refine (sz_event v a cap 1048576 _ (by omega) (by omega) ht hp).mono ?_
    rintro e w1 ⟨rfl, hb1⟩
    rw [HSZ.out]
    go_wp2
    go_ret
    exact ⟨rfl, ((Below.refl _ _).alloc (Nat.le_refl _) _).trans (hb1.mono (by simp))⟩
end Go.Proofs.Ytegjdngkbofogaa
