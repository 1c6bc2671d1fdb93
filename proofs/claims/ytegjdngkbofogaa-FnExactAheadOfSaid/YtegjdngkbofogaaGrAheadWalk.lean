/- The law on AheadOf walked. -/
import Derived.Test.YtegjdngkbofogaaGrAhead
import Derived.Deep.DeepCutAuto
namespace Go.Proofs.Ytegjdngkbofogaa
open Go.RowKit

set_option maxHeartbeats 8000000 in
set_option maxRecDepth 100000 in
theorem walk_fnExactAheadOf_gr (g : Gr) (a : Option Addr) (cap : Nat) (p : Option Addr) (cp : Nat) (x : Int) (y : Int) (w : World) (h : EvsRaw w a g.evs) (h2 : EvsRaw w p g.pk) (hwx : (Lit.int .i64 x).wf = true) (hwy : (Lit.int .i64 y).wf = true) :
    Calls Try.prog 9 #[.agg #[.int .i64 g.room, .slice a g.evs.length cap, .slice p g.pk.length cp], .int .i64 x, .int .i64 y] w fun e w' => e = .returned (.bool true) ∧ Below w.heap.size w w' := by
  obtain ⟨r, HAR⟩ : ∃ r, Hid (AhR g x y r) := AhR.ex g x y
  have HB0 : Hid (∀ o, Below w.heap.size w (w.alloc o)) := fun o => (Below.refl _ _).alloc (Nat.le_refl _) o
  have HR : Hid (∀ w', Below w.heap.size w w' → EvsRaw w' a g.evs ∧ EvsRaw w' p g.pk) := fun w' hb => ⟨h.kept hb, h2.kept hb⟩
  by_cases hs : ((wt g.evs + wt g.pk : Nat) : Int) ≤ 1048576
  · have HE : Hid (∀ w', Below w.heap.size w w' → EvsAt w' a g.evs ∧ EvsAt w' p g.pk) := fun w' hb => ⟨(h.kept hb).at (by omega), (h2.kept hb).at (by omega)⟩
    have HS : Hid (szB (wt g.evs + wt g.pk) 1048576 = 1048576 - (wt g.evs + wt g.pk : Nat)) := szB_yes hs
    obtain ⟨L, HL⟩ : ∃ L : Int, Hid (L = szB (wt g.evs + wt g.pk) 1048576) := ⟨szB (wt g.evs + wt g.pk) 1048576, (rfl : (szB (wt g.evs + wt g.pk) 1048576 : Int) = _)⟩
    have hL : 0 ≤ L := by rw [HL.out, HS.out]; omega
    clear h h2 hs
    go_enter Try.func9, Try.ntmps9
    go_wp2_with fail
    refine (sz_graph g a cap p cp 1048576 _ (HR.out _ (HB0.out _)).1 (HR.out _ (HB0.out _)).2 (by omega) (by omega)).mono ?_
    rintro e w1 ⟨rfl, hb1⟩
    rw [← HL.out]
    obtain ⟨hc1, hf1⟩ := bcell hb1
    have hz1 : w.heap.size < w1.heap.size := by have := hb1.size; simp at this; omega
    have HW1 : Hid (Below w.heap.size w w1) := (HB0.out _).trans (hb1.mono (by simp))
    clear hb1
    go_wp2_with fail
    refine (to_graph g a cap p cp _ (HE.out _ HW1.out).1 (HE.out _ HW1.out).2).mono ?_
    rintro e w2 ⟨g2, a2, p2, rfl, hn2⟩
    obtain ⟨hc2, hf2⟩ := bcell hn2.evs.below
    have hz2 : w.heap.size < w2.heap.size := Nat.lt_of_lt_of_le hz1 hn2.evs.below.size
    have HW2 : Hid (Below w.heap.size w w2) := HW1.out.trans (hn2.evs.below.mono HW1.out.size)
    have HG2 := aheadOf_spec g2 x y r (HAR.out.same hn2.room hn2.evs.same hn2.pk.same) a2 g.evs.length p2 g.pk.length w2 hn2.evs.row.at hn2.pk.row.at
    rw [hn2.room, hn2.evs.len, hn2.pk.len] at HG2
    clear hn2
    go_wp2_with fail
    refine HG2.mono ?_
    rintro e w3 ⟨rfl, hb3⟩
    obtain ⟨hc3, hf3⟩ := bcell hb3
    have hz3 : w.heap.size < w3.heap.size := Nat.lt_of_lt_of_le hz2 hb3.size
    have HW3 : Hid (Below w.heap.size w w3) := HW2.out.trans (hb3.mono HW2.out.size)
    clear hb3 HG2
    go_wp2_with fail
    refine (to_graph g a cap p cp _ (HE.out _ HW3.out).1 (HE.out _ HW3.out).2).mono ?_
    rintro e w4 ⟨g4, a4, p4, rfl, hn4⟩
    obtain ⟨hc4, hf4⟩ := bcell hn4.evs.below
    have hz4 : w.heap.size < w4.heap.size := Nat.lt_of_lt_of_le hz3 hn4.evs.below.size
    have HW4 : Hid (∀ o, Below w.heap.size w (w4.alloc o)) := fun o => (HW3.out.trans (hn4.evs.below.mono HW3.out.size)).alloc (Nat.le_of_lt hz4) o
    have HN4 : Hid (∀ w', Below w4.heap.size w4 w' → EvsAt w' a4 g4.evs ∧ EvsAt w' p4 g4.pk) := fun w' hb => ⟨hn4.evs.row.at.kept hb, hn4.pk.row.at.kept hb⟩
    have HQ4 : Hid (g4.room = g.room ∧ g4.evs.length = g.evs.length ∧ g4.pk.length = g.pk.length ∧ g4.evs.map (·.v) = g.evs.map (·.v) ∧ g4.pk.map (·.v) = g.pk.map (·.v)) := ⟨hn4.room, hn4.evs.len, hn4.pk.len, hn4.evs.same, hn4.pk.same⟩
    have HG4 : ∀ o, Calls Try.prog 32 #[.agg #[.int .i64 g.room, .slice a4 g.evs.length g.evs.length, .slice p4 g.pk.length g.pk.length], .int .i64 x, .int .i64 y] (w4.alloc o) fun e w' => e = .returned (.bool (r)) ∧ Below (w4.alloc o).heap.size (w4.alloc o) w' := fun o => by
      have := aheadOf_impl g4 x y r (HAR.out.same hn4.room hn4.evs.same hn4.pk.same) (bounds_i64 hwx) (bounds_i64 hwy) a4 g.evs.length p4 g.pk.length (w4.alloc o) (hn4.evs.row.at.kept ((Below.refl _ _).alloc (Nat.le_refl _) _)) (hn4.pk.row.at.kept ((Below.refl _ _).alloc (Nat.le_refl _) _))
      rwa [hn4.room, hn4.evs.len, hn4.pk.len] at this
    clear hn4
    go_wp2_with fail
    refine (HG4 _).mono ?_
    rintro e w5 ⟨rfl, hb5⟩
    obtain ⟨hc5, hf5⟩ := bcell hb5
    have HY5 : Hid (Below w4.heap.size w4 w5) := ((Below.refl _ _).alloc (Nat.le_refl _) _).trans (hb5.mono (by simp))
    have hx5 : w4.heap.size < w5.heap.size := by have := hb5.size; simp at this; omega
    have hz5 : w.heap.size < w5.heap.size := by omega
    have HW5 : Hid (Below w.heap.size w w5) := (HW4.out _).trans (hb5.mono (by simp; omega))
    clear hb5 HG4 HAR
    cases hr : r <;>
    · go_wp2_with fail
      first
        | (go_region_with (first
            | (go_at_call 26; refine (to_graph g a cap p cp _ (HE.out _ HW5.out.drew).1 (HE.out _ HW5.out.drew).2).mono ?_; rintro e w6 ⟨g6, a6, p6, rfl, hn6⟩; have hc6 : ∀ b o, b < w5.heap.size → w6.cell? ⟨b, o, none⟩ = w5.cell? ⟨b, o, none⟩ := (bcell hn6.evs.below).1; have HW6 : Hid (Below w5.heap.size w5 w6) := (Below.drew (Below.refl _ _)).trans hn6.evs.below; have HY6 : Hid (Below w4.heap.size w4 w6) := HY5.out.trans (HW6.out.mono (Nat.le_of_lt hx5)); have HQ6 := eq_graph g4 g6 a4 p4 a6 p6 g.evs.length g.pk.length g.evs.length g.pk.length w6 (HN4.out _ HY6.out).1 (HN4.out _ HY6.out).2 hn6.evs.row.at hn6.pk.row.at (HQ4.out.2.2.2.1.trans hn6.evs.same.symm) (HQ4.out.2.2.2.2.trans hn6.pk.same.symm); rw [HQ4.out.1, HQ4.out.2.1, HQ4.out.2.2.1] at HQ6)
            | (go_at_call 28; refine HQ6.mono ?_; rintro e w7 ⟨rfl, hb7⟩; have HW7 : Hid (Below w.heap.size w w7) := HW5.out.trans ((HW6.out.mono (Nat.le_of_lt hz5)).trans (hb7.mono (Nat.le_trans (Nat.le_of_lt hz5) HW6.out.size))))))
        | fail
      all_goals go_wp2
      all_goals go_ret
      all_goals exact ⟨rfl, HW7.out⟩
  · have HS : Hid (szB (wt g.evs + wt g.pk) 1048576 = -1) := szB_no hs
    clear h h2 hs
    go_enter Try.func9, Try.ntmps9
    go_wp2_with fail
    refine (sz_graph g a cap p cp 1048576 _ (HR.out _ (HB0.out _)).1 (HR.out _ (HB0.out _)).2 (by omega) (by omega)).mono ?_
    rintro e w1 ⟨rfl, hb1⟩
    rw [HS.out]
    have HW1 : Hid (Below w.heap.size w w1) := (HB0.out _).trans (hb1.mono (by simp))
    clear hb1
    go_wp2
    go_ret
    exact ⟨rfl, HW1.out⟩
end Go.Proofs.Ytegjdngkbofogaa
