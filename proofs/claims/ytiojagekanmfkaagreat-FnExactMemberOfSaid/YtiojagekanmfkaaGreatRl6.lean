/- MemberOf, LevelOf, SightOf of the program. -/
import Derived.Test.YtiojagekanmfkaaGreatRl3
import Derived.Test.YtiojagekanmfkaaGreatRl5
namespace Go.Proofs.YtiojagekanmfkaaGreat
open Go.RowKit

set_option maxHeartbeats 8000000 in
set_option maxRecDepth 100000 in
theorem memberOf_impl (g : Gr) (xs : List En) (u : Int) (a : Option Addr) (cap : Nat) (p : Option Addr) (cp : Nat) (s : Option Addr) (cs : Nat) (w : World) (h : RIn w g xs a s) (h2 : EvsAt w p g.pk) :
    Calls Tryz.prog 32 #[.agg #[.int .i64 g.room, .slice a g.evs.length cap, .slice p g.pk.length cp], .slice s xs.length cs, .int .i64 u] w fun e w' => e = .returned (.int .i64 (memG g xs u)) ∧ Below w.heap.size w w' := by
  have HB : Hid (∀ o, Below w.heap.size w (w.alloc o)) := fun o => (Below.refl _ _).alloc (Nat.le_refl _) o
  have HC := fun W (hW : Below w.heap.size w W) => sceneOf_impl g xs a cap p cp s cs W (h.kept hW) (h2.kept hW)
  clear h h2
  cases hr : sceneB g xs
  · have HS : Hid (memG g xs u = 0) := memG_no hr
    go_enter Tryz.func32, Tryz.ntmps32
    go_wp2_with fail
    refine (HC _ (HB.out _)).mono ?_
    rintro e w1 (⟨-, rfl, hb1⟩ | ⟨h1, -⟩)
    · have HW : Hid (∀ o, Below w.heap.size w (w1.alloc o)) := fun o => ((HB.out _).trans (hb1.mono (by simp))).alloc (by have := hb1.size; simp at this; omega) o
      clear hb1
      go_wp2
      go_ret
      exact ⟨ret_int' HS.out.symm, HW.out _⟩
    · rw [hr] at h1
      cases h1
  cases hu : isB u 1 6
  · have HS : Hid (memG g xs u = 0) := memG_nou hu
    go_enter Tryz.func32, Tryz.ntmps32
    go_wp2_with fail
    refine (HC _ (HB.out _)).mono ?_
    rintro e w1 (⟨h1, -⟩ | ⟨-, be, bs, rfl, hsc, hb1⟩)
    · rw [hr] at h1
      cases h1
    · have HW : Hid (∀ o, Below w.heap.size w (w1.alloc o)) := fun o => ((HB.out _).trans (hb1.mono (by simp))).alloc (by have := hb1.size; simp at this; omega) o
      have HA : Hid (∀ o, ScAt (w1.alloc o) g xs be bs) := fun o => hsc.kept ((Below.refl _ _).alloc (Nat.le_refl _) o)
      clear hb1 hsc
      go_wp2_with (go_at_call 65; refine (user_impl _ _).mono ?_; rintro e w3 ⟨rfl, rfl⟩; rw [hu])
      go_ret
      exact ⟨ret_int' HS.out.symm, HW.out _⟩
  have HS : Hid (memG g xs u = memR g.evs xs u) := memG_yes hr hu
  have HSC := sceneB_yes hr
  go_enter Tryz.func32, Tryz.ntmps32
  go_wp2_with fail
  refine (HC _ (HB.out _)).mono ?_
  rintro e w1 (⟨h1, -⟩ | ⟨-, be, bs, rfl, hsc, hb1⟩)
  · rw [hr] at h1
    cases h1
  · have HW : Hid (∀ o, Below w.heap.size w (w1.alloc o)) := fun o => ((HB.out _).trans (hb1.mono (by simp))).alloc (by have := hb1.size; simp at this; omega) o
    have HA : Hid (∀ o, ScAt (w1.alloc o) g xs be bs) := fun o => hsc.kept ((Below.refl _ _).alloc (Nat.le_refl _) o)
    clear hb1 hsc
    go_wp2_with (first | (go_at_call 65; refine (user_impl _ _).mono ?_; rintro e w3 ⟨rfl, rfl⟩; rw [hu]) | (go_at_call 66; refine (member_impl g xs be bs u (wf_user hu) _ (HA.out _) HSC).mono ?_; rintro e w4 ⟨rfl, hb4⟩; have HW4 : Hid (Below w.heap.size w w4) := (HW.out _).trans (hb4.mono (HW.out _).size); clear hb4))
    go_ret
    exact ⟨ret_int' HS.out.symm, HW4.out⟩
set_option maxHeartbeats 8000000 in
set_option maxRecDepth 100000 in
theorem levelOf_impl (g : Gr) (xs : List En) (u : Int) (a : Option Addr) (cap : Nat) (p : Option Addr) (cp : Nat) (s : Option Addr) (cs : Nat) (w : World) (h : RIn w g xs a s) (h2 : EvsAt w p g.pk) :
    Calls Tryz.prog 35 #[.agg #[.int .i64 g.room, .slice a g.evs.length cap, .slice p g.pk.length cp], .slice s xs.length cs, .int .i64 u] w fun e w' => e = .returned (.int .i64 (levG g xs u)) ∧ Below w.heap.size w w' := by
  have HB : Hid (∀ o, Below w.heap.size w (w.alloc o)) := fun o => (Below.refl _ _).alloc (Nat.le_refl _) o
  have HC := fun W (hW : Below w.heap.size w W) => sceneOf_impl g xs a cap p cp s cs W (h.kept hW) (h2.kept hW)
  clear h h2
  cases hr : sceneB g xs
  · have HS : Hid (levG g xs u = 0) := levG_no hr
    go_enter Tryz.func35, Tryz.ntmps35
    go_wp2_with fail
    refine (HC _ (HB.out _)).mono ?_
    rintro e w1 (⟨-, rfl, hb1⟩ | ⟨h1, -⟩)
    · have HW : Hid (∀ o, Below w.heap.size w (w1.alloc o)) := fun o => ((HB.out _).trans (hb1.mono (by simp))).alloc (by have := hb1.size; simp at this; omega) o
      clear hb1
      go_wp2
      go_ret
      exact ⟨ret_int' HS.out.symm, HW.out _⟩
    · rw [hr] at h1
      cases h1
  cases hu : isB u 1 6
  · have HS : Hid (levG g xs u = 0) := levG_nou hu
    go_enter Tryz.func35, Tryz.ntmps35
    go_wp2_with fail
    refine (HC _ (HB.out _)).mono ?_
    rintro e w1 (⟨h1, -⟩ | ⟨-, be, bs, rfl, hsc, hb1⟩)
    · rw [hr] at h1
      cases h1
    · have HW : Hid (∀ o, Below w.heap.size w (w1.alloc o)) := fun o => ((HB.out _).trans (hb1.mono (by simp))).alloc (by have := hb1.size; simp at this; omega) o
      have HA : Hid (∀ o, ScAt (w1.alloc o) g xs be bs) := fun o => hsc.kept ((Below.refl _ _).alloc (Nat.le_refl _) o)
      clear hb1 hsc
      go_wp2_with (go_at_call 65; refine (user_impl _ _).mono ?_; rintro e w3 ⟨rfl, rfl⟩; rw [hu])
      go_ret
      exact ⟨ret_int' HS.out.symm, HW.out _⟩
  have HS : Hid (levG g xs u = levR g.evs xs u) := levG_yes hr hu
  have HSC := sceneB_yes hr
  go_enter Tryz.func35, Tryz.ntmps35
  go_wp2_with fail
  refine (HC _ (HB.out _)).mono ?_
  rintro e w1 (⟨h1, -⟩ | ⟨-, be, bs, rfl, hsc, hb1⟩)
  · rw [hr] at h1
    cases h1
  · have HW : Hid (∀ o, Below w.heap.size w (w1.alloc o)) := fun o => ((HB.out _).trans (hb1.mono (by simp))).alloc (by have := hb1.size; simp at this; omega) o
    have HA : Hid (∀ o, ScAt (w1.alloc o) g xs be bs) := fun o => hsc.kept ((Below.refl _ _).alloc (Nat.le_refl _) o)
    clear hb1 hsc
    go_wp2_with (first | (go_at_call 65; refine (user_impl _ _).mono ?_; rintro e w3 ⟨rfl, rfl⟩; rw [hu]) | (go_at_call 69; refine (level_impl g xs be bs u (wf_user hu) _ (HA.out _) HSC).mono ?_; rintro e w4 ⟨rfl, hb4⟩; have HW4 : Hid (Below w.heap.size w w4) := (HW.out _).trans (hb4.mono (HW.out _).size); clear hb4))
    go_ret
    exact ⟨ret_int' HS.out.symm, HW4.out⟩
set_option maxHeartbeats 8000000 in
set_option maxRecDepth 100000 in
theorem sightOf_impl (g : Gr) (xs : List En) (a : Option Addr) (cap : Nat) (p : Option Addr) (cp : Nat) (s : Option Addr) (cs : Nat) (w : World) (h : RIn w g xs a s) (h2 : EvsAt w p g.pk) :
    Calls Tryz.prog 37 #[.agg #[.int .i64 g.room, .slice a g.evs.length cap, .slice p g.pk.length cp], .slice s xs.length cs] w fun e w' => e = .returned (.int .i64 (sigG g xs)) ∧ Below w.heap.size w w' := by
  have HB : Hid (∀ o, Below w.heap.size w (w.alloc o)) := fun o => (Below.refl _ _).alloc (Nat.le_refl _) o
  have HC := fun W (hW : Below w.heap.size w W) => sceneOf_impl g xs a cap p cp s cs W (h.kept hW) (h2.kept hW)
  clear h h2
  cases hr : sceneB g xs
  · have HS : Hid (sigG g xs = 0) := sigG_no hr
    go_enter Tryz.func37, Tryz.ntmps37
    go_wp2_with fail
    refine (HC _ (HB.out _)).mono ?_
    rintro e w1 (⟨-, rfl, hb1⟩ | ⟨h1, -⟩)
    · have HW : Hid (∀ o, Below w.heap.size w (w1.alloc o)) := fun o => ((HB.out _).trans (hb1.mono (by simp))).alloc (by have := hb1.size; simp at this; omega) o
      clear hb1
      go_wp2
      go_ret
      exact ⟨ret_int' HS.out.symm, HW.out _⟩
    · rw [hr] at h1
      cases h1
  have HS : Hid (sigG g xs = sigR g.evs xs) := sigG_yes hr
  have HSC := sceneB_yes hr
  go_enter Tryz.func37, Tryz.ntmps37
  go_wp2_with fail
  refine (HC _ (HB.out _)).mono ?_
  rintro e w1 (⟨h1, -⟩ | ⟨-, be, bs, rfl, hsc, hb1⟩)
  · rw [hr] at h1
    cases h1
  · have HW : Hid (∀ o, Below w.heap.size w (w1.alloc o)) := fun o => ((HB.out _).trans (hb1.mono (by simp))).alloc (by have := hb1.size; simp at this; omega) o
    have HA : Hid (∀ o, ScAt (w1.alloc o) g xs be bs) := fun o => hsc.kept ((Below.refl _ _).alloc (Nat.le_refl _) o)
    clear hb1 hsc
    go_wp2_with (go_at_call 71; refine (sight_impl g xs be bs _ (HA.out _) HSC).mono ?_; rintro e w4 ⟨rfl, hb4⟩; have HW4 : Hid (Below w.heap.size w w4) := (HW.out _).trans (hb4.mono (HW.out _).size); clear hb4)
    go_ret
    exact ⟨ret_int' HS.out.symm, HW4.out⟩
end Go.Proofs.YtiojagekanmfkaaGreat
