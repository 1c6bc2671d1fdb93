/- The law on GetText walked: for every text and place the call returns true. -/
import Derived.Test.YtaonnjcfpklkfaeDoorReadText
import Derived.Test.YtaonnjcfpklkfaeDoorGetText
import Derived.OpenShut
namespace Go.Proofs.YtaonnjcfpklkfaeDoor
open Go.RowKit

set_option maxHeartbeats 400000 in
theorem eqtextA (t : ByteArray) (b c : Int) (w : World) :
    Calls Tryd.prog 10 #[.agg #[.string t, .int .i64 b, .int .i64 c], .agg #[.string t, .int .i64 b, .int .i64 c]] w fun e w' => e = .returned (.bool true) ∧ Below w.heap.size w w' := by
  go_enter Tryd.func10, Tryd.ntmps10
  go_wp2
  go_ret
  exact ⟨rfl, ((Below.refl _ _).alloc (Nat.le_refl _) _).alloc (by simp) _⟩

theorem gettext_law (a0 : ByteArray) (a1 : Int) (w : World) (hg : laidE w) (t : ByteArray) (b c : Int) (hl : (a0.size : Int) ≤ 1048576)
    (h1 : ∀ w, Calls Tryd.prog 8 #[.string a0, .int .i64 a1] w fun e w' => e = .returned (textA t b c) ∧ Below w.heap.size w w')
    (h2 : ∀ w, laidE w → Calls Tryd.prog 9 #[.string a0, .int .i64 a1] w fun e w' => e = .returned (textA t b c) ∧ Below w.heap.size w w') :
    Calls Tryd.prog 4 #[.string a0, .int .i64 a1] w fun e w' => e = .returned (.bool true) ∧ Below w.heap.size w w' := by
  have H1 : Hid (∀ w, Calls Tryd.prog 8 #[.string a0, .int .i64 a1] w fun e w' => e = .returned (textA t b c) ∧ Below w.heap.size w w') := h1
  have H2 : Hid (∀ w, laidE w → Calls Tryd.prog 9 #[.string a0, .int .i64 a1] w fun e w' => e = .returned (textA t b c) ∧ Below w.heap.size w w') := h2
  have HG : Hid (laidE w) := hg
  clear h1 h2 hg
  go_enter Tryd.func4, Tryd.ntmps4
  go_wp2_with fail
  refine (H1.out _).mono ?_
  rintro e w1 ⟨rfl, hb1⟩
  unfold textA
  go_wp2_with fail
  refine (H2.out _ (HG.out.later (hb1.alloc hb1.size _))).mono ?_
  rintro e w2 ⟨rfl, hb2⟩
  obtain ⟨hc2, hf2⟩ := bcell hb2
  have hz : w1.heap.size < w2.heap.size := by have := hb2.size; simp at this; omega
  unfold textA
  go_wp2_with fail
  refine (eqtextA t b c _).mono ?_
  rintro e w3 ⟨rfl, hb3⟩
  go_wp2
  go_ret
  have s1 := hb1.size
  have s2 := hb2.size
  simp at s2
  exact ⟨rfl, ((hb1.alloc s1 _).trans (hb2.mono (by simp; omega))).trans (((Below.refl _ _).alloc (by omega) _).trans (hb3.mono (by simp; omega)))⟩


theorem walk_fnExactGetText (a0 : ByteArray) (a1 : Int) (w : World) (_w0 : a0.size ≤ maxLen) (w1 : (Lit.int .i64 a1).wf = true) (hg : laidE w) :
    Calls Tryd.prog 4 #[.string a0, .int .i64 a1] w fun e w' => e = .returned (.bool true) ∧ Below w.heap.size w w' := by
  obtain ⟨hn1, hn2⟩ := bounds_i64 w1
  by_cases hl : (a0.size : Int) > 1048576
  · clear hg
    go_enter Tryd.func4, Tryd.ntmps4
    go_wp2
    go_ret
    exact ⟨rfl, Below.refl _ _⟩
  by_cases hb : (a0.size : Int) > 8000
  · exact gettext_law a0 a1 w hg _ _ _ (by omega) (fun w => gettext_spec_err a0 a1 w 2 (by decide) fun w => get_spec_big a0 a1 w hb) (fun w hg => gettext_impl a0 a1 w hg _ _ _ fun w => readtext_err a0 a1 w 2 (by decide) fun w => read_big a0 a1 w hb)
  by_cases hn : a1 < 0
  · exact gettext_law a0 a1 w hg _ _ _ (by omega) (fun w => gettext_spec_err a0 a1 w 1 (by decide) fun w => get_spec_neg a0 a1 w (by omega) hn) (fun w hg => gettext_impl a0 a1 w hg _ _ _ fun w => readtext_err a0 a1 w 1 (by decide) fun w => read_neg a0 a1 w (by omega) hn)
  obtain ⟨p, rfl⟩ := Int.eq_ofNat_of_zero_le (show 0 ≤ a1 by omega)
  have hS : ∀ w, Calls Tryd.prog 5 #[.string a0, .int .i64 p] w fun e w' => e = .returned (numV (G a0 p 10 0 0).1 (G a0 p 10 0 0).2.1 (G a0 p 10 0 0).2.2) ∧ Below w.heap.size w w' := fun w => get_spec a0 p w (by omega) (by omega) _ rfl
  have hI : ∀ w, Calls Tryd.prog 11 #[.string a0, .int .i64 p] w (readPost w (G a0 p 10 0 0).1 (G a0 p 10 0 0).2.1 (G a0 p 10 0 0).2.2) := fun w => read_impl a0 p w (by omega) (by omega) _ rfl
  obtain ⟨⟨a, b, c⟩, hR⟩ : ∃ R, G a0 p 10 0 0 = R := ⟨_, rfl⟩
  rw [hR] at hS hI
  by_cases hc : c = 0
  · subst hc
    obtain ⟨hb0, hb1⟩ := G_place a0 p 10 0 0 a b hR
    by_cases ha : a < 0
    · exact gettext_law a0 p w hg _ _ _ (by omega) (fun w => gettext_spec_neg a0 p w a b ha hS) (fun w hg => gettext_impl a0 p w hg _ _ _ fun w => readtext_neg a0 p w a b ha hI)
    by_cases hA : 8000 < a
    · exact gettext_law a0 p w hg _ _ _ (by omega) (fun w => gettext_spec_big a0 p w a b hA hS) (fun w hg => gettext_impl a0 p w hg _ _ _ fun w => readtext_big a0 p w a b hA hI)
    obtain ⟨m, rfl⟩ := Int.eq_ofNat_of_zero_le (show 0 ≤ a by omega)
    obtain ⟨q, rfl⟩ := Int.eq_ofNat_of_zero_le (show 0 ≤ b by omega)
    by_cases hq : (a0.size : Int) - m < q
    · exact gettext_law a0 p w hg _ _ _ (by omega) (fun w => gettext_spec_short a0 p w m q (by omega) (by omega) hb1 hq hS) (fun w hg => gettext_impl a0 p w hg _ _ _ fun w => readtext_short a0 p w m q (by omega) (by omega) hb1 hq hI)
    · exact gettext_law a0 p w hg _ _ _ (by omega) (fun w => gettext_spec_ok a0 p w m q (by omega) (by omega) hb1 (by omega) hS) (fun w hg => gettext_impl a0 p w hg _ _ _ fun w => readtext_ok a0 p w m q (by omega) (by omega) hb1 (by omega) hI)
  · obtain ⟨ha, hb⟩ : a = 0 ∧ b = 0 := G_fault a0 p 10 0 0 a b c hR hc
    subst ha hb
    exact gettext_law a0 p w hg _ _ _ (by omega) (fun w => gettext_spec_err a0 p w c hc hS) (fun w hg => gettext_impl a0 p w hg _ _ _ fun w => readtext_err a0 p w c hc hI)
end Go.Proofs.YtaonnjcfpklkfaeDoor
