/- codeOf, and with it GetNum: the contracts of the program's. -/
import Derived.Test.YtaonnjcfpklkfaeDoorAs
import Derived.Test.YtaonnjcfpklkfaeDoorRead
namespace Go.Proofs.YtaonnjcfpklkfaeDoor
open Go.RowKit

/-- codeOf at a fault that lies in memory: its code. -/
theorem codeOf_impl (N : Nat) (c : Int) (w : World) (hg : laidE w) (hc : w.cell? ⟨N, 0, none⟩ = some (.int .i64 c)) :
    Calls Tryd.prog 12 #[.iface 40 (.pointer (some ⟨N, 0, none⟩))] w fun e w' => e = .returned (.int .i64 c) ∧ Below w.heap.size w w' := by
  have hN : N < w.heap.size := World.block_lt_of_cell? _ _ hc
  have hgA : laidE (w.alloc (.cells #[.pointer none] 40)) := hg.later ((Below.refl _ _).alloc (Nat.le_refl _) _)
  have HG : Hid (laidE (w.alloc (.cells #[.pointer none] 40))) := hgA
  clear hg hgA
  have hcx : ∀ o1 o2 o3 o4 o5, (((((w.alloc o1).alloc o2).alloc o3).alloc o4).alloc o5).cell? ⟨N, 0, none⟩ = some (.int .i64 c) := fun o1 o2 o3 o4 o5 => by
    rw [World.cell?_alloc_lt _ _ ⟨N, 0, none⟩ (by simp; omega), World.cell?_alloc_lt _ _ ⟨N, 0, none⟩ (by simp; omega), World.cell?_alloc_lt _ _ ⟨N, 0, none⟩ (by simp; omega), World.cell?_alloc_lt _ _ ⟨N, 0, none⟩ (by simp; omega), World.cell?_alloc_lt _ _ ⟨N, 0, none⟩ hN]
    exact hc
  go_enter Tryd.func12, Tryd.ntmps12
  go_wp2_with fail
  refine (as_hit ⟨N, 0, none⟩ ⟨w.heap.size, 0, none⟩ (.pointer none) _ HG.out (by simp) (by simp)).mono ?_
  rintro e w' ⟨rfl, rfl⟩
  go_wp2
  go_ret
  exact ⟨rfl, (((((Below.refl _ _).alloc (Nat.le_refl _) _).alloc (by simp) _).alloc (by simp; omega) _).alloc (by simp; omega) _).alloc (by simp; omega) _⟩

/-- GetNum out of readNum. -/
theorem getnum_impl (s : ByteArray) (at_ : Int) (w : World) (hg : laidE w) (a b c : Int) (hr : ∀ w, Calls Tryd.prog 11 #[.string s, .int .i64 at_] w (readPost w a b c)) :
    Calls Tryd.prog 6 #[.string s, .int .i64 at_] w fun e w' => e = .returned (numV a b c) ∧ Below w.heap.size w w' := by
  have HRd : Hid (∀ w, Calls Tryd.prog 11 #[.string s, .int .i64 at_] w (readPost w a b c)) := hr
  have HG : Hid (laidE w) := hg
  clear hr hg
  go_enter Tryd.func6, Tryd.ntmps6
  go_wp2_with fail
  refine (HRd.out _).mono ?_
  rintro e w1 ⟨hb1, (⟨rfl, rfl⟩ | ⟨hc, rfl, rfl, N, hN, hN2, rfl, hcell⟩)⟩
  · obtain ⟨hc1, hf1⟩ := bcell hb1
    have hbw : Below w.heap.size w w1 := ((Below.refl _ _).alloc (Nat.le_refl _) _).trans (hb1.mono (by simp))
    go_wp2
    refine bodyPost_ret (v := numV a b 0) ?_ rfl ⟨rfl, ?_⟩
    · simp [results, Tryd.results6, go_sem, numV, hc1]
    · exact ((hbw.setCell (Nat.le_refl _) _).setCell (Nat.le_refl _) _).setCell (Nat.le_refl _) _
  · obtain ⟨hc1, hf1⟩ := bcell hb1
    have hz : w.heap.size < w1.heap.size := by have := hb1.size; simp at this; omega
    have hbw : Below w.heap.size w w1 := ((Below.refl _ _).alloc (Nat.le_refl _) _).trans (hb1.mono (by simp))
    go_wp2_with fail
    refine (codeOf_impl N c _ (HG.out.later hbw) hcell).mono ?_
    rintro e w2 ⟨rfl, hb2⟩
    obtain ⟨hc2, hf2⟩ := bcell hb2
    go_wp2
    refine bodyPost_ret (v := numV 0 0 c) ?_ rfl ⟨rfl, ?_⟩
    · simp [results, Tryd.results6, go_sem, numV, hc1, hc2, hz]
    · exact (((hbw.trans (hb2.mono hbw.size)).setCell (Nat.le_refl _) _).setCell (Nat.le_refl _) _).setCell (Nat.le_refl _) _
end Go.Proofs.YtaonnjcfpklkfaeDoor
