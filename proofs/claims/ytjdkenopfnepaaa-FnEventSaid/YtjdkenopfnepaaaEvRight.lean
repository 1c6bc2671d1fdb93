/- The contracts of EventRight, the specification's and the program's. -/
import Derived.Test.YtjdkenopfnepaaaEvPrev
import Derived.Test.YtjdkenopfnepaaaEvBody
import Derived.Test.YtjdkenopfnepaaaEvDeed
namespace Go.Proofs.Ytjdkenopfnepaaa
open Go.RowKit

theorem len_zero (l : List Int) : ((l.length : Int) == 0) = (l.length == 0) := by rw [Bool.eq_iff_iff]; simp
theorem rightB_eq (v : Ev) : rightB v = (isB v.id 1 1000000 && isB v.room 1 3 && isB v.author 1 6 && isB v.time 0 1000000 && (decide (v.prev.length ≤ 4) && prevOk v.id 0 v.prev) && ((v.kind == 1) == (v.prev.length == 0)) && bodyB v) := by
  unfold rightB headB prevB
  generalize decide (v.prev.length ≤ 4) = a
  generalize prevOk v.id 0 v.prev = b
  generalize ((v.kind == 1) == (v.prev.length == 0)) = c
  cases a <;> cases b <;> cases c <;> simp

set_option maxHeartbeats 2000000 in
theorem right_spec (v : Ev) (a : Option Addr) (cap : Nat) (w : World) (hn : NumsAt w a v.prev) :
    Calls Try.prog 17 #[.agg #[.int .i64 v.id, .int .i64 v.room, .int .i64 v.author, .int .i64 v.kind, .int .i64 v.key, .int .i64 v.n, .string v.text, .slice a v.prev.length cap, .int .i64 v.time]] w fun e w' => e = .returned (.bool (rightB v)) ∧ Below w.heap.size w w' := by
  have hl := hn.1
  have HN : Hid (∀ o, NumsAt (w.alloc o) a v.prev) := fun o => hn.kept ((Below.refl _ _).alloc (Nat.le_refl _) _)
  have HR := rightB_eq v
  have HE : Hid (rightB v = (isB v.id 1 1000000 && isB v.room 1 3 && isB v.author 1 6 && isB v.time 0 1000000 && (decide (v.prev.length ≤ 4) && prevOk v.id 0 v.prev) && ((v.kind == 1) == (v.prev.length == 0)) && bodyB v)) := HR
  have hi := len_zero v.prev
  clear hn HR
  go_enter Try.func17, Try.ntmps17
  go_wp2_with fail
  refine (id_spec _ _).mono ?_
  rintro e w' ⟨rfl, rfl⟩
  cases c1 : isB v.id 1 1000000
  · go_wp2
    go_ret
    exact ⟨ret_bool (by rw [HE.out, c1]; simp), (Below.refl _ _).alloc (Nat.le_refl _) _⟩
  go_wp2_with fail
  refine (is_spec _ _ _ _).mono ?_
  rintro e w' ⟨rfl, rfl⟩
  cases c2 : isB v.room 1 3
  · go_wp2
    go_ret
    exact ⟨ret_bool (by rw [HE.out, c2]; simp), (Below.refl _ _).alloc (Nat.le_refl _) _⟩
  go_wp2_with fail
  refine (user_spec _ _).mono ?_
  rintro e w' ⟨rfl, rfl⟩
  cases c3 : isB v.author 1 6
  · go_wp2
    go_ret
    exact ⟨ret_bool (by rw [HE.out, c3]; simp), (Below.refl _ _).alloc (Nat.le_refl _) _⟩
  go_wp2_with fail
  refine (time_spec _ _).mono ?_
  rintro e w' ⟨rfl, rfl⟩
  cases c4 : isB v.time 0 1000000
  · go_wp2
    go_ret
    exact ⟨ret_bool (by rw [HE.out, c4]; simp), (Below.refl _ _).alloc (Nat.le_refl _) _⟩
  go_wp2_with fail
  refine (prev_spec v.prev a cap v.id _ (HN.out _)).mono ?_
  rintro e w1 ⟨rfl, hb1⟩
  obtain ⟨hc1, hf1⟩ := bcell hb1
  have HB : Hid (Below w.heap.size w w1) := ((Below.refl _ _).alloc (Nat.le_refl _) _).trans (hb1.mono (by simp))
  have hz1 : w.heap.size < w1.heap.size := by have := hb1.size; simp at this; omega
  cases c5 : (decide (v.prev.length ≤ 4) && prevOk v.id 0 v.prev)
  · go_wp2
    go_ret
    exact ⟨ret_bool (by rw [HE.out, c5]; simp), HB.out⟩
  have C5 : Hid ((decide (v.prev.length ≤ 4) && prevOk v.id 0 v.prev) = true) := c5
  clear c5
  cases c6 : v.kind == 1
  all_goals cases c7 : v.prev.length == 0
  all_goals rw [c7] at hi
  · go_wp2_with fail
    refine (body_spec v a v.prev.length cap _).mono ?_
    rintro e w2 ⟨rfl, hb2⟩
    go_wp2
    go_ret
    exact ⟨ret_bool (by rw [HE.out, c1, c2, c3, c4, C5.out, c6, c7]; simp), HB.out.trans (hb2.mono (by omega))⟩
  · go_wp2
    go_ret
    exact ⟨ret_bool (by rw [HE.out, c6, c7]; simp), HB.out⟩
  · go_wp2
    go_ret
    exact ⟨ret_bool (by rw [HE.out, c6, c7]; simp), HB.out⟩
  · go_wp2_with fail
    refine (body_spec v a v.prev.length cap _).mono ?_
    rintro e w2 ⟨rfl, hb2⟩
    go_wp2
    go_ret
    exact ⟨ret_bool (by rw [HE.out, c1, c2, c3, c4, C5.out, c6, c7]; simp), HB.out.trans (hb2.mono (by omega))⟩
end Go.Proofs.Ytjdkenopfnepaaa
