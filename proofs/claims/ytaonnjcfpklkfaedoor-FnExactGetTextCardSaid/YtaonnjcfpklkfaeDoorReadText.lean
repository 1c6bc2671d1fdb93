/- GetText: the program's, out of its readText. -/
import Derived.Test.YtaonnjcfpklkfaeDoorGetNum
import Derived.Test.YtaonnjcfpklkfaeDoorReadText0
namespace Go.Proofs.YtaonnjcfpklkfaeDoor
open Go.RowKit

section
variable (s : ByteArray) (at_ : Int) (w : World)

set_option maxHeartbeats 1000000 in
theorem gettext_impl (hg : laidE w) (t : ByteArray) (b c : Int) (hr : ∀ w, Calls Tryd.prog 13 #[.string s, .int .i64 at_] w (textPost w t b c)) :
    Calls Tryd.prog 9 #[.string s, .int .i64 at_] w fun e w' => e = .returned (textA t b c) ∧ Below w.heap.size w w' := by
  have HRd : Hid (∀ w, Calls Tryd.prog 13 #[.string s, .int .i64 at_] w (textPost w t b c)) := hr
  have HG : Hid (laidE w) := hg
  clear hr hg
  go_enter Tryd.func9, Tryd.ntmps9
  go_wp2_with fail
  refine (HRd.out _).mono ?_
  rintro e w1 ⟨hb1, (⟨rfl, rfl⟩ | ⟨hc, rfl, rfl, N, hN, hN2, rfl, hcell⟩)⟩
  · obtain ⟨hc1, hf1⟩ := bcell hb1
    have hbw : Below w.heap.size w w1 := ((Below.refl _ _).alloc (Nat.le_refl _) _).trans (hb1.mono (by simp))
    go_wp2
    refine bodyPost_ret (v := textA t b 0) ?_ rfl ⟨rfl, ?_⟩
    · simp [results, Tryd.results9, go_sem, textA, hc1]
    · exact ((hbw.setCell (Nat.le_refl _) _).setCell (Nat.le_refl _) _).setCell (Nat.le_refl _) _
  · obtain ⟨hc1, hf1⟩ := bcell hb1
    have hz : w.heap.size < w1.heap.size := by have := hb1.size; simp at this; omega
    have hbw : Below w.heap.size w w1 := ((Below.refl _ _).alloc (Nat.le_refl _) _).trans (hb1.mono (by simp))
    go_wp2_with fail
    refine (codeOf_impl N c _ (HG.out.later hbw) hcell).mono ?_
    rintro e w2 ⟨rfl, hb2⟩
    obtain ⟨hc2, hf2⟩ := bcell hb2
    go_wp2
    refine bodyPost_ret (v := textA ⟨#[]⟩ 0 c) ?_ rfl ⟨rfl, ?_⟩
    · simp [results, Tryd.results9, go_sem, textA, hc1, hc2, hz]
    · exact (((hbw.trans (hb2.mono hbw.size)).setCell (Nat.le_refl _) _).setCell (Nat.le_refl _) _).setCell (Nat.le_refl _) _
end
end Go.Proofs.YtaonnjcfpklkfaeDoor
