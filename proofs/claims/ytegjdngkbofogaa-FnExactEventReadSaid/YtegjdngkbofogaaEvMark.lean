/- What the laws do with what EventRead hands back: is it alike; marks laid into its row; are they still there? -/
import Derived.Test.YtegjdngkbofogaaEvMark0
import Derived.Test.YtegjdngkbofogaaEvReadSpec
import Derived.Test.YtegjdngkbofogaaEvTo
import Derived.Test.YtegjdngkbofogaaEvOpen
namespace Go.Proofs.Ytegjdngkbofogaa
open Go.RowKit
set_option maxHeartbeats 1000000 in
theorem mark_out (base : Nat) (v : Ev) (a : Option Addr) (cap : Nat) (c : Int) (k : Int) (w : World) (h : w.ownsRow base 2 1 (.slice a v.prev.length cap) v.prev.length (nv v.prev)) (hl : v.prev.length ≤ 4) (h0 : 0 ≤ k) (h1 : k ≤ 100) :
    Calls Try.prog 20 #[.agg #[.int .i64 v.id, .int .i64 v.room, .int .i64 v.author, .int .i64 v.kind, .int .i64 v.key, .int .i64 v.n, .string v.text, .slice a v.prev.length cap, .int .i64 v.time, .int .i64 c], .int .i64 k] w (MarkPost base a v.prev.length cap k w) := by
  have HO : Hid (w.ownsRow base 2 1 (.slice a v.prev.length cap) v.prev.length (nv v.prev)) := h
  clear h
  go_enter Try.func20, Try.ntmps20
  go_wp2_with fail
  refine (mark_event base v a cap k _ (HO.out.alloc _) hl h0 h1).mono ?_
  rintro e w1 ⟨rfl, ho1, hg1⟩
  have HP : Hid (w1.ownsRow base 2 1 (.slice a v.prev.length cap) v.prev.length (nv (marks k v.prev.length)) ∧ w.grownBy w1 (Value.ownBlock (.slice a v.prev.length cap))) := ⟨ho1, (World.grownBy_alloc w _ _).trans hg1⟩
  clear ho1 hg1
  go_wp2
  go_ret
  exact ⟨rfl, HP.out.1, HP.out.2⟩
set_option maxHeartbeats 1000000 in
theorem held_out (v : Ev) (a : Option Addr) (cap : Nat) (c : Int) (k : Int) (w : World) (h : NumsAt w a (marks k v.prev.length)) (hl : v.prev.length ≤ 4) (h0 : 0 ≤ k) (h1 : k ≤ 100) :
    Calls Try.prog 21 #[.agg #[.int .i64 v.id, .int .i64 v.room, .int .i64 v.author, .int .i64 v.kind, .int .i64 v.key, .int .i64 v.n, .string v.text, .slice a v.prev.length cap, .int .i64 v.time, .int .i64 c], .int .i64 k] w fun e w' => e = .returned (.int .i64 (k + (v.prev.length : Int))) ∧ Below w.heap.size w w' := by
  have HO : Hid (∀ w', Below w.heap.size w w' → NumsAt w' a (marks k v.prev.length)) := fun w' hb => h.kept hb
  have HA : Hid (∀ o, Below w.heap.size w (w.alloc o)) := fun o => (Below.refl _ _).alloc (Nat.le_refl _) _
  clear h
  go_enter Try.func21, Try.ntmps21
  go_wp2_with fail
  refine (held_event v a cap k _ (HO.out _ (HA.out _)) hl h0 h1).mono ?_
  rintro e w1 ⟨rfl, hb1⟩
  have HW : Hid (Below w.heap.size w w1) := (HA.out _).trans (hb1.mono (by simp))
  clear hb1
  go_wp2
  go_ret
  exact ⟨rfl, HW.out⟩
set_option maxHeartbeats 1000000 in
theorem eq_out (v : Ev) (a1 a2 : Option Addr) (cap1 cap2 : Nat) (c : Int) (w : World) (h1 : NumsAt w a1 v.prev) (h2 : NumsAt w a2 v.prev) :
    Calls Try.prog 19 #[.agg #[.int .i64 v.id, .int .i64 v.room, .int .i64 v.author, .int .i64 v.kind, .int .i64 v.key, .int .i64 v.n, .string v.text, .slice a1 v.prev.length cap1, .int .i64 v.time, .int .i64 c], .agg #[.int .i64 v.id, .int .i64 v.room, .int .i64 v.author, .int .i64 v.kind, .int .i64 v.key, .int .i64 v.n, .string v.text, .slice a2 v.prev.length cap2, .int .i64 v.time, .int .i64 c]] w fun e w' => e = .returned (.bool true) ∧ Below w.heap.size w w' := by
  have H1 : Hid (∀ w', Below w.heap.size w w' → NumsAt w' a1 v.prev) := fun w' hb => h1.kept hb
  have H2 : Hid (∀ w', Below w.heap.size w w' → NumsAt w' a2 v.prev) := fun w' hb => h2.kept hb
  have HB : Hid (∀ o1 o2, Below w.heap.size w ((w.alloc o1).alloc o2)) := fun o1 o2 => ((Below.refl _ _).alloc (Nat.le_refl _) _).alloc (by simp) _
  clear h1 h2
  go_enter Try.func19, Try.ntmps19
  go_wp2_with fail
  refine (eq_event v a1 a2 cap1 cap2 _ (H1.out _ (HB.out _ _)) (H2.out _ (HB.out _ _))).mono ?_
  rintro e w1 ⟨rfl, hb1⟩
  obtain ⟨hc1, hf1⟩ := bcell hb1
  have HW : Hid (Below w.heap.size w w1) := (HB.out _ _).trans (hb1.mono (by simp; omega))
  clear hb1
  go_wp2
  go_ret
  exact ⟨rfl, HW.out⟩
end Go.Proofs.Ytegjdngkbofogaa
