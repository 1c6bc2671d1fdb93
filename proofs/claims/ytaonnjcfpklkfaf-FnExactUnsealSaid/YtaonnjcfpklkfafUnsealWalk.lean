/- The law on Unseal walked: for every text the call returns true. -/
import Derived.Test.YtaonnjcfpklkfafUnseal
namespace Go.Proofs.Ytaonnjcfpklkfaf
open Go.RowKit

set_option maxHeartbeats 400000 in
theorem eqtext (t : ByteArray) (c : Int) (w : World) :
    Calls Try.prog 17 #[.agg #[.string t, .int .i64 0, .int .i64 c], .agg #[.string t, .int .i64 0, .int .i64 c]] w fun e w' => e = .returned (.bool true) ∧ Below w.heap.size w w' := by
  go_enter Try.func17, Try.ntmps17
  go_wp2
  go_ret
  exact ⟨rfl, ((Below.refl _ _).alloc (Nat.le_refl _) _).alloc (by simp) _⟩

/-- Both hand back the same; then the law says true. -/
theorem unseal_law (a0 : ByteArray) (w : World) (t : ByteArray) (c : Int) (hl : (a0.size : Int) ≤ 1048576)
    (h1 : ∀ w, Calls Try.prog 15 #[.string a0] w fun e w' => e = .returned (textV t c) ∧ Below w.heap.size w w')
    (h2 : ∀ w, Calls Try.prog 16 #[.string a0] w fun e w' => e = .returned (textV t c) ∧ Below w.heap.size w w') :
    Calls Try.prog 6 #[.string a0] w fun e w' => e = .returned (.bool true) ∧ Below w.heap.size w w' := by
  have H1 : Hid (∀ w, Calls Try.prog 15 #[.string a0] w fun e w' => e = .returned (textV t c) ∧ Below w.heap.size w w') := h1
  have H2 : Hid (∀ w, Calls Try.prog 16 #[.string a0] w fun e w' => e = .returned (textV t c) ∧ Below w.heap.size w w') := h2
  clear h1 h2
  go_enter Try.func6, Try.ntmps6
  go_wp2_with fail
  refine (H1.out _).mono ?_
  rintro e w1 ⟨rfl, hb1⟩
  unfold textV
  go_wp2_with fail
  refine (H2.out _).mono ?_
  rintro e w2 ⟨rfl, hb2⟩
  obtain ⟨hc2, hf2⟩ := bcell hb2
  have hz : w1.heap.size < w2.heap.size := by have := hb2.size; simp at this; omega
  unfold textV
  go_wp2_with fail
  refine (eqtext t c _).mono ?_
  rintro e w3 ⟨rfl, hb3⟩
  go_wp2
  go_ret
  have s1 := hb1.size
  have s2 := hb2.size
  simp at s2
  exact ⟨rfl, ((hb1.alloc s1 _).trans (hb2.mono (by simp; omega))).trans (((Below.refl _ _).alloc (by omega) _).trans (hb3.mono (by simp; omega)))⟩

theorem walk_fnExactUnseal (a0 : ByteArray) (w : World) (_w0 : a0.size ≤ maxLen) :
    Calls Try.prog 6 #[.string a0] w fun e w' => e = .returned (.bool true) ∧ Below w.heap.size w w' := by
  by_cases hl : (a0.size : Int) > 1048576
  · go_enter Try.func6, Try.ntmps6
    go_wp2
    go_ret
    exact ⟨rfl, Below.refl _ _⟩
  by_cases hb : (a0.size : Int) > 8000
  · exact unseal_law a0 w _ _ (by omega) (fun w => unseal_spec_big a0 w hb) (fun w => unseal_impl_big a0 w hb)
  by_cases hs : (a0.size : Int) < 4
  · exact unseal_law a0 w _ _ (by omega) (fun w => unseal_spec_short a0 w hs) (fun w => unseal_impl_short a0 w hs)
  obtain ⟨t, c, ho⟩ : ∃ t c, outS a0 t c := by
    cases h : okS a0
    · exact ⟨_, _, .inr ⟨h, rfl, rfl⟩⟩
    · exact ⟨_, _, .inl ⟨h, rfl, rfl⟩⟩
  exact unseal_law a0 w t c (by omega) (fun w => unseal_spec_any a0 w (by omega) (by omega) t c ho) (fun w => unseal_impl_any a0 w (by omega) (by omega) t c ho)
end Go.Proofs.Ytaonnjcfpklkfaf
