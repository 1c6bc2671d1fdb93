/- GetText: the specification's, out of its GetNum. -/
import Derived.Test.YtjdkenopfnepaaaGet
import Derived.Test.YtjdkenopfnepaaaJoin
import Derived.RegionTactic
import Derived.BigRegion
namespace Go.Proofs.Ytjdkenopfnepaaa
open Go.RowKit

section
variable (s : ByteArray) (at_ : Int) (w : World)

set_option maxHeartbeats 1000000 in
theorem gettext_spec_err (c : Int) (hc : c ≠ 0) (h1 : ∀ w, Calls Try.prog 104 #[.string s, .int .i64 at_] w fun e w' => e = .returned (numV 0 0 c) ∧ Below w.heap.size w w') :
    Calls Try.prog 105 #[.string s, .int .i64 at_] w fun e w' => e = .returned (textA ⟨#[]⟩ 0 c) ∧ Below w.heap.size w w' := by
  have bc : (c != 0) = true := by simpa using hc
  clear hc
  have H1 : Hid (∀ w, Calls Try.prog 104 #[.string s, .int .i64 at_] w fun e w' => e = .returned (numV 0 0 c) ∧ Below w.heap.size w w') := h1
  clear h1
  go_enter Try.func105, Try.ntmps105
  go_wp2_with fail
  refine (H1.out _).mono ?_
  rintro e w1 ⟨rfl, hb1⟩
  obtain ⟨hc1, hf1⟩ := bcell hb1
  have hz : w.heap.size < w1.heap.size := by have := hb1.size; simp at this; omega
  have hbw : Below w.heap.size w w1 := ((Below.refl _ _).alloc (Nat.le_refl _) _).trans (hb1.mono (by simp))
  unfold numV
  go_wp2
  refine bodyPost_ret (v := textA ⟨#[]⟩ 0 c) ?_ rfl ⟨rfl, ?_⟩
  · simp [results, Try.results105, go_sem, textA, hc1, hz]
  · exact (((hbw.setCell (Nat.le_refl _) _).setCell (Nat.le_refl _) _).setCell (Nat.le_refl _) _).alloc (by simp; omega) _

set_option maxHeartbeats 1000000 in
theorem gettext_spec_neg (a b : Int) (ha : a < 0) (h1 : ∀ w, Calls Try.prog 104 #[.string s, .int .i64 at_] w fun e w' => e = .returned (numV a b 0) ∧ Below w.heap.size w w') :
    Calls Try.prog 105 #[.string s, .int .i64 at_] w fun e w' => e = .returned (textA ⟨#[]⟩ 0 3) ∧ Below w.heap.size w w' := by
  have ba : decide (a < 0) = true := by simpa using ha
  have H1 : Hid (∀ w, Calls Try.prog 104 #[.string s, .int .i64 at_] w fun e w' => e = .returned (numV a b 0) ∧ Below w.heap.size w w') := h1
  clear h1
  go_enter Try.func105, Try.ntmps105
  go_wp2_with fail
  refine (H1.out _).mono ?_
  rintro e w1 ⟨rfl, hb1⟩
  obtain ⟨hc1, hf1⟩ := bcell hb1
  have hz : w.heap.size < w1.heap.size := by have := hb1.size; simp at this; omega
  have hbw : Below w.heap.size w w1 := ((Below.refl _ _).alloc (Nat.le_refl _) _).trans (hb1.mono (by simp))
  unfold numV
  go_wp2
  refine bodyPost_ret (v := textA ⟨#[]⟩ 0 3) ?_ rfl ⟨rfl, ?_⟩
  · simp [results, Try.results105, go_sem, textA, hc1, hz]
  · exact (((hbw.setCell (Nat.le_refl _) _).setCell (Nat.le_refl _) _).setCell (Nat.le_refl _) _).alloc (by simp; omega) _

set_option maxHeartbeats 1000000 in
theorem gettext_spec_big (a b : Int) (ha : 8000 < a) (h1 : ∀ w, Calls Try.prog 104 #[.string s, .int .i64 at_] w fun e w' => e = .returned (numV a b 0) ∧ Below w.heap.size w w') :
    Calls Try.prog 105 #[.string s, .int .i64 at_] w fun e w' => e = .returned (textA ⟨#[]⟩ 0 3) ∧ Below w.heap.size w w' := by
  have ba : decide (a < 0) = false := by simp; omega
  have bb : decide (8000 < a) = true := by simpa using ha
  have H1 : Hid (∀ w, Calls Try.prog 104 #[.string s, .int .i64 at_] w fun e w' => e = .returned (numV a b 0) ∧ Below w.heap.size w w') := h1
  clear h1
  go_enter Try.func105, Try.ntmps105
  go_wp2_with fail
  refine (H1.out _).mono ?_
  rintro e w1 ⟨rfl, hb1⟩
  obtain ⟨hc1, hf1⟩ := bcell hb1
  have hz : w.heap.size < w1.heap.size := by have := hb1.size; simp at this; omega
  have hbw : Below w.heap.size w w1 := ((Below.refl _ _).alloc (Nat.le_refl _) _).trans (hb1.mono (by simp))
  unfold numV
  go_wp2
  refine bodyPost_ret (v := textA ⟨#[]⟩ 0 3) ?_ rfl ⟨rfl, ?_⟩
  · simp [results, Try.results105, go_sem, textA, hc1, hz]
  · exact (((hbw.setCell (Nat.le_refl _) _).setCell (Nat.le_refl _) _).setCell (Nat.le_refl _) _).alloc (by simp; omega) _

set_option maxHeartbeats 1000000 in
theorem gettext_spec_short (m q : Nat) (hs : (s.size : Int) ≤ 8000) (ha : (m : Int) ≤ 8000) (hq : (q : Int) ≤ s.size) (hq2 : (s.size : Int) - m < q) (h1 : ∀ w, Calls Try.prog 104 #[.string s, .int .i64 at_] w fun e w' => e = .returned (numV m q 0) ∧ Below w.heap.size w w') :
    Calls Try.prog 105 #[.string s, .int .i64 at_] w fun e w' => e = .returned (textA ⟨#[]⟩ 0 4) ∧ Below w.heap.size w w' := by
  have ba : decide ((m : Int) < 0) = false := by simp
  have bb : decide (8000 < (m : Int)) = false := by simp; omega
  have H1 : Hid (∀ w, Calls Try.prog 104 #[.string s, .int .i64 at_] w fun e w' => e = .returned (numV m q 0) ∧ Below w.heap.size w w') := h1
  clear h1
  go_enter Try.func105, Try.ntmps105
  go_wp2_with fail
  refine (H1.out _).mono ?_
  rintro e w1 ⟨rfl, hb1⟩
  obtain ⟨hc1, hf1⟩ := bcell hb1
  have hz : w.heap.size < w1.heap.size := by have := hb1.size; simp at this; omega
  have hbw : Below w.heap.size w w1 := ((Below.refl _ _).alloc (Nat.le_refl _) _).trans (hb1.mono (by simp))
  unfold numV
  go_wp2
  refine bodyPost_ret (v := textA ⟨#[]⟩ 0 4) ?_ rfl ⟨rfl, ?_⟩
  · simp [results, Try.results105, go_sem, textA, hc1, hz]
  · exact (((hbw.setCell (Nat.le_refl _) _).setCell (Nat.le_refl _) _).setCell (Nat.le_refl _) _).alloc (by simp; omega) _

set_option maxHeartbeats 1000000 in
theorem gettext_spec_ok (m q : Nat) (hs : (s.size : Int) ≤ 8000) (ha : (m : Int) ≤ 8000) (hq : (q : Int) ≤ s.size) (hq2 : (q : Int) ≤ s.size - m) (h1 : ∀ w, Calls Try.prog 104 #[.string s, .int .i64 at_] w fun e w' => e = .returned (numV m q 0) ∧ Below w.heap.size w w') :
    Calls Try.prog 105 #[.string s, .int .i64 at_] w fun e w' => e = .returned (textA (s.extract q (q + m)) (q + m) 0) ∧ Below w.heap.size w w' := by
  have ba : decide ((m : Int) < 0) = false := by simp
  have bb : decide (8000 < (m : Int)) = false := by simp; omega
  have H1 : Hid (∀ w, Calls Try.prog 104 #[.string s, .int .i64 at_] w fun e w' => e = .returned (numV m q 0) ∧ Below w.heap.size w w') := h1
  clear h1
  go_enter Try.func105, Try.ntmps105
  go_wp2_with fail
  refine (H1.out _).mono ?_
  rintro e w1 ⟨rfl, hb1⟩
  obtain ⟨hc1, hf1⟩ := bcell hb1
  have hz : w.heap.size < w1.heap.size := by have := hb1.size; simp at this; omega
  have hbw : Below w.heap.size w w1 := ((Below.refl _ _).alloc (Nat.le_refl _) _).trans (hb1.mono (by simp))
  unfold numV
  go_wp2
  have hw1 : wrap64 ((q : Int) + m) = (q : Int) + m := by unfold wrap64; omega
  have hw2 : IntKind.i64.wrap ((q : Int) + m) = (q : Int) + m := by rw [IntKind.wrap_i64]; omega
  have hsl : ∀ W, (Instr.slice 9 (.string s) (some (.int .i64 (q : Int))) (some (.int .i64 ((q : Int) + m))) none).run Try.prog W = .ok (.string (s.extract q (q + m))) W := fun W => by
    rw [run_slice_string W 9 s .i64 .i64 _ _ Try.underlying9 (by omega) (by omega) (by omega)]
    congr 3
  go_region
  go_wp2
  refine bodyPost_ret (v := textA (s.extract q (q + m)) (q + m) 0) ?_ rfl ⟨rfl, ?_⟩
  · simp [results, Try.results105, go_sem, textA, hc1, hz]
  · exact ((((hbw.setCell (Nat.le_refl _) _).setCell (Nat.le_refl _) _).setCell (Nat.le_refl _) _).alloc (by simp; omega) _).drew
end
end Go.Proofs.Ytjdkenopfnepaaa
