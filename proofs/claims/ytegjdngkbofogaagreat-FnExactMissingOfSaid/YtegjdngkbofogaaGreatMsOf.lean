/- MissingOf of the program, whole. -/
import Derived.Test.YtegjdngkbofogaaGreatMsImpl
namespace Go.Proofs.YtegjdngkbofogaaGreat
open Go.RowKit

theorem right_ms {w W : World} {g : Gr} {p : Option Addr} {be bp : Nat} (hr : rightG g = true) (h : EvsAt w p g.pk) (hb : Below w.heap.size w W) (he : W.ownsMap Tryz.prog 2 heldR be g.evs.length (putAll g.evs)) (hp : W.ownsMap Tryz.prog 2 heldR bp g.pk.length (putAll g.pk)) : MsIn W g be bp := by
  have hr' := hr
  unfold rightG at hr'
  simp only [Bool.and_eq_true] at hr'
  exact ⟨he, hp, fun m hm => (h.kept hb).nums m hm, fun m hm => ⟨pk_prev hr hm, (right_in (rowB_each hr'.1.1.1.2 hm).1).2⟩, rowB_nodup hr'.1.1.1.2, pk_len hr⟩
theorem NumsRow.nil (w : World) (base : Nat) : NumsRow w base (.slice none 0 0) [] := ⟨none, 0, rfl, Nat.le_refl _, .inl rfl⟩
def RowNPost (w : World) (L : List Int) (e : Ending) (w' : World) : Prop := ∃ v, e = .returned v ∧ NumsRow w' w.heap.size v L ∧ Below w.heap.size w w'
set_option maxHeartbeats 4000000 in
set_option maxRecDepth 100000 in
theorem missingOf_impl (g : Gr) (a : Option Addr) (cap : Nat) (p : Option Addr) (cp : Nat) (w : World) (h : EvsAt w a g.evs) (h2 : EvsAt w p g.pk) :
    Calls Tryz.prog 17 #[.agg #[.int .i64 g.room, .slice a g.evs.length cap, .slice p g.pk.length cp]] w (RowNPost w (mgL g)) := by
  have HB : Hid (∀ o, Below w.heap.size w (w.alloc o)) := fun o => (Below.refl _ _).alloc (Nat.le_refl _) o
  have HC := fun o => chart_impl g a cap p cp (w.alloc o) (h.kept (HB.out o)) (h2.kept (HB.out o))
  have HE : Hid (EvsAt w p g.pk) := h2
  clear h h2
  cases hr : rightG g
  · have HS : Hid (mgL g = []) := mgL_bad hr
    rw [HS.out]
    go_enter Tryz.func17, Tryz.ntmps17
    go_wp2_with fail
    refine (HC _).mono ?_
    rintro e w1 (⟨_, rfl, hb1⟩ | ⟨h1, _⟩)
    · have HW : Hid (Below w.heap.size w w1) := (HB.out _).trans (hb1.mono (by simp))
      clear hb1
      go_wp2
      go_ret
      exact ⟨_, rfl, NumsRow.nil _ _, HW.out⟩
    · rw [hr] at h1
      cases h1
  · have HS : Hid (mgL g = misL g) := mgL_good hr
    have HR : Hid (rightG g = true) := hr
    rw [HS.out]
    go_enter Tryz.func17, Tryz.ntmps17
    go_wp2_with fail
    refine (HC _).mono ?_
    rintro e w1 (⟨h1, _⟩ | ⟨_, bc, be, bp, bt, l, rfl, hch⟩)
    · rw [hr] at h1
      cases h1
    · have HW : Hid (Below w.heap.size w w1) := (HB.out _).trans (hch.below.mono (by simp))
      have HMI : Hid (MsIn w1 g be bp) := right_ms HR.out HE.out HW.out hch.evs hch.pk
      have hq0 : w1.cell? ⟨bc, 0, none⟩ = some (.map (some be)) := cell_of_heap hch.ch
      have hq1 : w1.cell? ⟨bc, 1, none⟩ = some (.map (some bp)) := cell_of_heap hch.ch
      clear hch
      go_wp2_with fail
      refine (missing_impl g be bp w1 HMI.out).mono ?_
      rintro e w2 ⟨v, rfl, hrow, hb2⟩
      have H2 : Hid (NumsRow w2 w.heap.size v (misL g) ∧ Below w.heap.size w w2) := ⟨hrow.low HW.out.size, HW.out.trans (hb2.mono HW.out.size)⟩
      clear hrow hb2
      go_wp2
      go_ret
      exact ⟨v, rfl, H2.out.1, H2.out.2⟩
end Go.Proofs.YtegjdngkbofogaaGreat
