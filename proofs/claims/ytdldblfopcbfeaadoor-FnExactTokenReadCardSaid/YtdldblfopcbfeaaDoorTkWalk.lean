/- The laws on tokens walked. -/
import Derived.Test.YtdldblfopcbfeaaDoorTkRead
namespace Go.Proofs.YtdldblfopcbfeaaDoor
open Go.RowKit

set_option maxHeartbeats 2000000 in
set_option maxRecDepth 100000 in
theorem walk_fnExactTokenText (u p : Int) (w : World) (_h1 : (Lit.int .i64 u).wf = true) (_h2 : (Lit.int .i64 p).wf = true) (ht : TabL w) :
    Calls Tryd.prog 3 #[.int .i64 u, .int .i64 p] w fun e w' => e = .returned (.bool true) ∧ Below w.heap.size w w' := by
  have HT : Hid (∀ W, Below w.heap.size w W → TabL W) := fun W hW => ht.kept hW
  obtain ⟨s, HS⟩ : ∃ s, Hid (s = tokS u p) := ⟨tokS u p, (rfl : tokS u p = _)⟩
  have hs : (s.toList == s.toList) = true := by simp
  have hs' : (s.toList != s.toList) = false := by simp
  clear ht
  go_enter Tryd.func3, Tryd.ntmps3
  go_wp2_with (first
    | (go_at_call 5; refine (token_spec u p w).mono ?_; rw [← HS.out]; rintro e w1 ⟨rfl, hb1⟩)
    | (go_at_call 6; refine (token_impl u p w1 (HT.out _ hb1)).mono ?_; rw [← HS.out]; rintro e w2 ⟨rfl, hb2⟩))
  go_ret
  exact ⟨rfl, hb1.trans (hb2.mono hb1.size)⟩
set_option maxHeartbeats 2000000 in
set_option maxRecDepth 100000 in
theorem eq_numOut (n c : Int) (w : World) : Calls Tryd.prog 9 #[.agg #[.int .i64 n, .int .i64 0, .int .i64 c], .agg #[.int .i64 n, .int .i64 0, .int .i64 c]] w fun e w' => e = .returned (.bool true) ∧ Below w.heap.size w w' := by
  have HB : Hid (∀ o1 o2, Below w.heap.size w ((w.alloc o1).alloc o2)) := fun o1 o2 => ((Below.refl _ _).alloc (Nat.le_refl _) _).alloc (by simp) _
  have h1 : (n != n) = false := by simp
  have h2 : (c != c) = false := by simp
  go_enter Tryd.func9, Tryd.ntmps9
  go_wp2
  go_ret
  exact ⟨rfl, HB.out _ _⟩
set_option maxHeartbeats 4000000 in
set_option maxRecDepth 100000 in
theorem walk_fnExactTokenRead (u : Int) (t : ByteArray) (w : World) (_h1 : (Lit.int .i64 u).wf = true) (_h2 : t.size ≤ maxLen) (ht : TabL w) :
    Calls Tryd.prog 4 #[.int .i64 u, .string t] w fun e w' => e = .returned (.bool true) ∧ Below w.heap.size w w' := by
  have HT : Hid (∀ W, Below w.heap.size w W → TabL W) := fun W hW => ht.kept hW
  clear ht
  cases h8 : decide (1048576 < (t.size : Int))
  · obtain ⟨n, HN⟩ : ∃ n, Hid (n = rdN u t) := ⟨rdN u t, (rfl : rdN u t = _)⟩
    obtain ⟨c, HC⟩ : ∃ n, Hid (n = rdC u t) := ⟨rdC u t, (rfl : rdC u t = _)⟩
    have HV : Hid (rdV u t = .agg #[.int .i64 n, .int .i64 0, .int .i64 c]) := by unfold Hid; rw [rdV, HN.out, HC.out]
    go_enter Tryd.func4, Tryd.ntmps4
    go_wp2_with fail
    refine (read_spec u t w).mono ?_
    rw [HV.out]
    rintro e w1 ⟨rfl, hb1⟩
    have HB1 : Hid (∀ o, Below w.heap.size w (w1.alloc o)) := fun o => hb1.alloc hb1.size o
    have hz1 : w.heap.size ≤ w1.heap.size := hb1.size
    clear hb1
    go_wp2_with fail
    refine (read_impl u t _ (HT.out _ (HB1.out _))).mono ?_
    rw [HV.out]
    rintro e w2 ⟨rfl, hb2⟩
    have hc2 : ∀ i, w2.cell? ⟨w1.heap.size, i, none⟩ = #[Value.int .i64 n, .int .i64 0, .int .i64 c][i]? := fun i => cell_of_heap ((hb2.block _ (by simp)).trans (MapKept.heap_alloc w1 _).1)
    have hz2 : w1.heap.size < w2.heap.size := by have := hb2.size; simp at this; omega
    have HB2 : Hid (∀ o, Below w.heap.size w (w2.alloc o)) := fun o => ((HB1.out _).trans (hb2.mono (HB1.out (.cells #[.int .i64 n, .int .i64 0, .int .i64 c] 25)).size)).alloc (by omega) o
    clear hb2
    go_wp2_with fail
    refine (eq_numOut n c _).mono ?_
    rintro e w3 ⟨rfl, hb3⟩
    have HB3 : Hid (Below w.heap.size w w3) := (HB2.out _).trans (hb3.mono (by simp; omega))
    clear hb3
    go_wp2
    go_ret
    exact ⟨rfl, HB3.out⟩
  · go_enter Tryd.func4, Tryd.ntmps4
    go_wp2
    go_ret
    exact ⟨rfl, Below.refl _ _⟩
end Go.Proofs.YtdldblfopcbfeaaDoor
