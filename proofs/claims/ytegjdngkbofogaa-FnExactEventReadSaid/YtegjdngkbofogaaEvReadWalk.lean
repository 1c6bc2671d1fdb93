/- The law on EventRead walked: for every text the call returns true. -/
import Derived.Test.YtegjdngkbofogaaEvMark
namespace Go.Proofs.Ytegjdngkbofogaa
open Go.RowKit

theorem own_ne {w : World} {base n cap : Nat} {e : TypeId} {a : Option Addr} {xs : List Value} (h : w.ownsRow base e 1 (.slice a n cap) n xs) {b : Nat} (hb : b < base ∨ w.heap.size ≤ b) : some b ≠ Value.ownBlock (.slice a n cap) := by
  intro he
  have := h.lt b he.symm
  omega
set_option maxHeartbeats 2000000 in
set_option maxRecDepth 100000 in
theorem walk_fnExactEventRead (text : ByteArray) (w : World) (_w0 : text.size ≤ maxLen) :
    Calls Try.prog 5 #[.string text] w fun e w' => e = .returned (.bool true) ∧ Below w.heap.size w w' := by
  by_cases hl : (text.size : Int) > 1048576
  · go_enter Try.func5, Try.ntmps5
    go_wp2
    go_ret
    exact ⟨rfl, Below.refl _ _⟩
  go_enter Try.func5, Try.ntmps5
  go_wp2_with fail
  refine (eventread_spec text _).mono ?_
  rintro e w1 ⟨v, a1, cap1, c, rfl, ho1, hp4, hown1, hb1⟩
  have HO1 : Hid (Out text v c) := ho1
  have HB1 : Hid (Below w.heap.size w w1) := hb1
  have HOW1 : Hid (w1.ownsRow w.heap.size 2 1 (.slice a1 v.prev.length cap1) v.prev.length (nv v.prev)) := hown1
  have HN1 : Hid (∀ w', Below w1.heap.size w1 w' → NumsAt w' a1 v.prev) := fun w' hb => (numsAt_of hown1 (by omega)).kept hb
  clear ho1 hown1 hb1
  unfold outV
  go_wp2_with fail
  refine (eventread_impl text _).mono ?_
  rintro e w2 ⟨v2, a2, cap2, c2, rfl, ho2, _, hown2, hb2⟩
  obtain ⟨hv, hc⟩ := ho2.same HO1.out
  subst hv hc
  unfold outV
  obtain ⟨hc2, hf2⟩ := bcell hb2
  have hz2 : w1.heap.size < w2.heap.size := by have := hb2.size; simp at this; omega
  have HB2 : Hid (Below w1.heap.size w1 w2) := ((Below.refl _ _).alloc (Nat.le_refl _) _).trans (hb2.mono (by simp))
  have HOW2 : Hid (w2.ownsRow (w1.heap.size + 1) 2 1 (.slice a2 v2.prev.length cap2) v2.prev.length (nv v2.prev)) := owns_mono hown2 (by simp)
  have HN2 : Hid (∀ w', Below w2.heap.size w2 w' → NumsAt w' a2 v2.prev) := fun w' hb => (numsAt_of hown2 (by omega)).kept hb
  clear hown2 hb2
  go_wp2_with fail
  have hA : ∀ o, Below w2.heap.size w2 (w2.alloc o) := fun o => (Below.refl _ _).alloc (Nat.le_refl _) _
  have HA : Hid (∀ o, Below w2.heap.size w2 (w2.alloc o)) := hA
  clear hA
  refine (eq_out v2 a2 a1 cap2 cap1 c2 _ (HN2.out _ (HA.out _)) (HN1.out _ (HB2.out.trans ((HA.out _).mono (Nat.le_of_lt hz2))))).mono ?_
  rintro e w3 ⟨rfl, hb3⟩
  obtain ⟨hc3, hf3⟩ := bcell hb3
  have hz3 : w2.heap.size < w3.heap.size := by have := hb3.size; simp at this; omega
  have HB3 : Hid (Below w2.heap.size w2 w3) := (HA.out _).trans (hb3.mono (by simp))
  have HOW3 : Hid (w3.ownsRow (w1.heap.size + 1) 2 1 (.slice a2 v2.prev.length cap2) v2.prev.length (nv v2.prev)) := owns_below HOW2.out HB3.out
  clear hb3
  go_wp2_with fail
  refine (mark_out (w1.heap.size + 1) v2 a2 cap2 c2 1 _ HOW3.out hp4 (by omega) (by omega)).mono ?_
  rintro e w4 ⟨rfl, hown4, hg4⟩
  have hy3 : w1.heap.size < w3.heap.size := by omega
  have hcA : ∀ o, w4.cell? ⟨w1.heap.size, o, none⟩ = w3.cell? ⟨w1.heap.size, o, none⟩ := fun o => World.cell?_of_block (hg4.block w1.heap.size hy3 (own_ne HOW2.out (.inl (by omega))))
  have hcB : ∀ o, w4.cell? ⟨w2.heap.size, o, none⟩ = w3.cell? ⟨w2.heap.size, o, none⟩ := fun o => World.cell?_of_block (hg4.block w2.heap.size hz3 (own_ne HOW2.out (.inr (Nat.le_refl _))))
  have HN4 : Hid (∀ w', Below w4.heap.size w4 w' → NumsAt w' a2 (marks 1 v2.prev.length)) := fun w' hb => (numsAt_of (zs := marks 1 v2.prev.length) (by rw [marks_len]; exact hown4) (by rw [marks_len]; omega)).kept hb
  have HB4 : Hid (Below w1.heap.size w1 w4) := (HB2.out.trans (HB3.out.mono (Nat.le_of_lt hz2))).grown hg4 (Nat.le_of_lt hy3) (fun q hq => by have := (HOW2.out.lt q hq).1; omega)
  have hz4 : w3.heap.size ≤ w4.heap.size := hg4.size
  have hy4 : w1.heap.size < w4.heap.size := by omega
  have hx4 : w2.heap.size < w4.heap.size := by omega
  clear hown4 hg4
  go_wp2_with fail
  refine (held_out v2 a2 cap2 c2 1 _ (HN4.out _ (Below.refl _ _)) hp4 (by omega) (by omega)).mono ?_
  rintro e w5 ⟨rfl, hb5⟩
  obtain ⟨hc5, hf5⟩ := bcell hb5
  have HB5 : Hid (Below w4.heap.size w4 w5) := hb5
  have hy5 : w1.heap.size < w5.heap.size := Nat.lt_of_lt_of_le hy4 hb5.size
  have hx5 : w2.heap.size < w5.heap.size := Nat.lt_of_lt_of_le hx4 hb5.size
  have bq : ((1 + (v2.prev.length : Int)) != (1 + (v2.prev.length : Int))) = false := by simp
  clear hb5
  go_wp2_with fail
  refine (eventread_impl text _).mono ?_
  rintro e w6 ⟨v6, a6, cap6, c6, rfl, ho6, _, hown6, hb6⟩
  obtain ⟨hv, hc⟩ := ho6.same HO1.out
  subst hv hc
  unfold outV
  obtain ⟨hc6, hf6⟩ := bcell hb6
  have HB6 : Hid (Below w5.heap.size w5 w6) := hb6
  have HN6 : Hid (∀ w', Below w6.heap.size w6 w' → NumsAt w' a6 v6.prev) := fun w' hb => (numsAt_of hown6 (by omega)).kept hb
  have hy6 : w1.heap.size < w6.heap.size := Nat.lt_of_lt_of_le hy5 hb6.size
  have hx6 : w2.heap.size < w6.heap.size := Nat.lt_of_lt_of_le hx5 hb6.size
  have hs5 := HB5.out.size
  have hs6 := hb6.size
  clear hown6 hb6
  go_wp2_with fail
  have hA6 : ∀ o, Below w6.heap.size w6 (w6.alloc o) := fun o => (Below.refl _ _).alloc (Nat.le_refl _) _
  have HA6 : Hid (∀ o, Below w6.heap.size w6 (w6.alloc o)) := hA6
  have HB14 : Hid (Below w1.heap.size w1 w6) := HB4.out.trans ((HB5.out.trans (HB6.out.mono hs5)).mono (Nat.le_of_lt hy4))
  have HB46 : Hid (Below w4.heap.size w4 w6) := HB5.out.trans (HB6.out.mono hs5)
  clear hA6
  refine (eq_out v6 a6 a1 cap6 cap1 c6 _ (HN6.out _ (HA6.out _)) (HN1.out _ (HB14.out.trans ((HA6.out _).mono (Nat.le_of_lt hy6))))).mono ?_
  rintro e w7 ⟨rfl, hb7⟩
  obtain ⟨hc7, hf7⟩ := bcell hb7
  have HB7 : Hid (Below w6.heap.size w6 w7) := (HA6.out _).trans (hb7.mono (by simp))
  have hy7 : w1.heap.size < w7.heap.size := Nat.lt_of_lt_of_le hy6 HB7.out.size
  have hx7 : w2.heap.size < w7.heap.size := Nat.lt_of_lt_of_le hx6 HB7.out.size
  clear hb7
  go_wp2_with fail
  refine (held_out v6 a2 cap2 c6 1 _ (HN4.out _ (HB46.out.trans (HB7.out.mono (by omega)))) hp4 (by omega) (by omega)).mono ?_
  rintro e w8 ⟨rfl, hb8⟩
  have HW8 : Hid (Below w.heap.size w w8) := HB1.out.trans (((HB14.out.trans (HB7.out.mono (Nat.le_of_lt hy6))).trans (hb8.mono (Nat.le_of_lt hy7))).mono HB1.out.size)
  clear hb8
  go_wp2
  go_ret
  exact ⟨rfl, HW8.out⟩
end Go.Proofs.Ytegjdngkbofogaa
