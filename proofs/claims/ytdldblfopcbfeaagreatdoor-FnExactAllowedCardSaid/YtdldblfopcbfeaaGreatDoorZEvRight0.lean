/- The contracts of EventRight, the specification's and the program's. An event's body, kind by kind, as the program's deeds have it. -/
import Derived.Test.YtdldblfopcbfeaaGreatDoorZEvPrev
import Derived.Test.YtdldblfopcbfeaaGreatDoorZEvBody
import Derived.Test.YtdldblfopcbfeaaGreatDoorZEvDeed
namespace Go.Proofs.YtdldblfopcbfeaaGreatDoor
open Go.RowKit

theorem len_zero (l : List Int) : ((l.length : Int) == 0) = (l.length == 0) := by rw [Bool.eq_iff_iff]; simp
theorem rightB_eq (v : Ev) : rightB v = (isB v.id 1 1000000 && isB v.room 1 3 && isB v.author 1 6 && isB v.time 0 1000000 && (decide (v.prev.length ≤ 4) && prevOk v.id 0 v.prev) && ((v.kind == 1) == (v.prev.length == 0)) && bodyB v) := by
  unfold rightB headB prevB
  generalize decide (v.prev.length ≤ 4) = a
  generalize prevOk v.id 0 v.prev = b
  generalize ((v.kind == 1) == (v.prev.length == 0)) = c
  cases a <;> cases b <;> cases c <;> simp

set_option maxHeartbeats 2000000 in
theorem right_spec (v : Ev) (a : Option Addr) (cap : Nat) (w : World) (hn : NumsAt w a v.prev) :
    Calls Tryz.prog 19 #[.agg #[.int .i64 v.id, .int .i64 v.room, .int .i64 v.author, .int .i64 v.kind, .int .i64 v.key, .int .i64 v.n, .string v.text, .slice a v.prev.length cap, .int .i64 v.time]] w fun e w' => e = .returned (.bool (rightB v)) ∧ Below w.heap.size w w' := by
  have hl := hn.1
  have HN : Hid (∀ o, NumsAt (w.alloc o) a v.prev) := fun o => hn.kept ((Below.refl _ _).alloc (Nat.le_refl _) _)
  have HR := rightB_eq v
  have HE : Hid (rightB v = (isB v.id 1 1000000 && isB v.room 1 3 && isB v.author 1 6 && isB v.time 0 1000000 && (decide (v.prev.length ≤ 4) && prevOk v.id 0 v.prev) && ((v.kind == 1) == (v.prev.length == 0)) && bodyB v)) := HR
  have hi := len_zero v.prev
  clear hn HR
  go_enter Tryz.func19, Tryz.ntmps19
  go_wp2_with fail
  refine (id_spec _ _).mono ?_
  rintro e w' ⟨rfl, rfl⟩
  cases c1 : isB v.id 1 1000000
  · go_wp2
    go_ret
    exact ⟨ret_bool (by rw [HE.out, c1]; simp), (Below.refl _ _).alloc (Nat.le_refl _) _⟩
  go_wp2_with fail
  refine (is_spec _ _ _ _).mono ?_
  rintro e w' ⟨rfl, rfl⟩
  cases c2 : isB v.room 1 3
  · go_wp2
    go_ret
    exact ⟨ret_bool (by rw [HE.out, c2]; simp), (Below.refl _ _).alloc (Nat.le_refl _) _⟩
  go_wp2_with fail
  refine (user_spec _ _).mono ?_
  rintro e w' ⟨rfl, rfl⟩
  cases c3 : isB v.author 1 6
  · go_wp2
    go_ret
    exact ⟨ret_bool (by rw [HE.out, c3]; simp), (Below.refl _ _).alloc (Nat.le_refl _) _⟩
  go_wp2_with fail
  refine (time_spec _ _).mono ?_
  rintro e w' ⟨rfl, rfl⟩
  cases c4 : isB v.time 0 1000000
  · go_wp2
    go_ret
    exact ⟨ret_bool (by rw [HE.out, c4]; simp), (Below.refl _ _).alloc (Nat.le_refl _) _⟩
  go_wp2_with fail
  refine (prev_spec v.prev a cap v.id _ (HN.out _)).mono ?_
  rintro e w1 ⟨rfl, hb1⟩
  obtain ⟨hc1, hf1⟩ := bcell hb1
  have HB : Hid (Below w.heap.size w w1) := ((Below.refl _ _).alloc (Nat.le_refl _) _).trans (hb1.mono (by simp))
  have hz1 : w.heap.size < w1.heap.size := by have := hb1.size; simp at this; omega
  cases c5 : (decide (v.prev.length ≤ 4) && prevOk v.id 0 v.prev)
  · go_wp2
    go_ret
    exact ⟨ret_bool (by rw [HE.out, c5]; simp), HB.out⟩
  have C5 : Hid ((decide (v.prev.length ≤ 4) && prevOk v.id 0 v.prev) = true) := c5
  clear c5
  cases c6 : v.kind == 1
  all_goals cases c7 : v.prev.length == 0
  all_goals rw [c7] at hi
  · go_wp2_with fail
    refine (body_spec v a v.prev.length cap _).mono ?_
    rintro e w2 ⟨rfl, hb2⟩
    go_wp2
    go_ret
    exact ⟨ret_bool (by rw [HE.out, c1, c2, c3, c4, C5.out, c6, c7]; simp), HB.out.trans (hb2.mono (by omega))⟩
  · go_wp2
    go_ret
    exact ⟨ret_bool (by rw [HE.out, c6, c7]; simp), HB.out⟩
  · go_wp2
    go_ret
    exact ⟨ret_bool (by rw [HE.out, c6, c7]; simp), HB.out⟩
  · go_wp2_with fail
    refine (body_spec v a v.prev.length cap _).mono ?_
    rintro e w2 ⟨rfl, hb2⟩
    go_wp2
    go_ret
    exact ⟨ret_bool (by rw [HE.out, c1, c2, c3, c4, C5.out, c6, c7]; simp), HB.out.trans (hb2.mono (by omega))⟩
end Go.Proofs.YtdldblfopcbfeaaGreatDoor
namespace Go.Proofs.YtdldblfopcbfeaaGreatDoor
open Go.RowKit

theorem body_creation (v : Ev) (hk : v.kind = 1) : bodyB v = ((v.key == 0) && (v.n == 0) && (v.text.size == 0)) := by simp [bodyB, hk]
theorem body_coming (v : Ev) (hk : v.kind = 2) : bodyB v = ((isB v.key 1 6) && (isB v.n 1 4) && (v.text.size == 0)) := by simp [bodyB, hk]
theorem body_might (v : Ev) (hk : v.kind = 3) : bodyB v = ((isB v.key 1 6) && (isB v.n 0 100) && (v.text.size == 0)) := by simp [bodyB, hk]
theorem body_topic (v : Ev) (hk : v.kind = 4) : bodyB v = ((v.key == 0) && (v.n == 0) && (decide (v.text.size ≤ 30))) := by simp [bodyB, hk]
theorem body_door (v : Ev) (hk : v.kind = 5) : bodyB v = ((v.key == 0) && (isB v.n 1 2) && (v.text.size == 0)) := by simp [bodyB, hk]
theorem body_sight (v : Ev) (hk : v.kind = 6) : bodyB v = ((v.key == 0) && (isB v.n 1 3) && (v.text.size == 0)) := by simp [bodyB, hk]
theorem body_saying (v : Ev) (hk : v.kind = 7) : bodyB v = ((v.key == 0) && (v.n == 0) && (decide (1 ≤ v.text.size) && decide (v.text.size ≤ 30))) := by simp [bodyB, hk, Bool.and_assoc]
theorem body_hiding (v : Ev) (hk : v.kind = 8) : bodyB v = ((isB v.key 1 1000000) && (v.n == 0) && (v.text.size == 0)) := by simp [bodyB, hk]
theorem body_unknown (v : Ev) (k1 : (v.kind == 1) = false) (k2 : (v.kind == 2) = false) (k3 : (v.kind == 3) = false) (k4 : (v.kind == 4) = false) (k5 : (v.kind == 5) = false) (k6 : (v.kind == 6) = false) (k7 : (v.kind == 7) = false) (k8 : (v.kind == 8) = false) : bodyB v = false := by
  simp only [beq_eq_false_iff_ne, ne_eq] at k1 k2 k3 k4 k5 k6 k7 k8
  simp [bodyB, k1, k2, k3, k4, k5, k6, k7, k8]
theorem of_topic {v : Ev} {b : Bool} (h : decide ((v.text.size : Int) ≤ 30) = b) : decide (v.text.size ≤ 30) = b := by rw [← h]; exact decide_eq_decide.2 (by omega)
theorem eqin_details (k1 n1 k2 n2 : Int) (t1 t2 : ByteArray) (W : World) : (Op.equalIn 10000 123 (.agg #[.int .i64 k1, .int .i64 n1, .string t1]) (.agg #[.int .i64 k2, .int .i64 n2, .string t2])).run Tryz.prog W = .ok (k1 == k2 && n1 == n2 && t1.toList == t2.toList) W := by
  cases h1 : k1 == k2
  · go_simp
  · cases h2 : n1 == n2
    · go_simp
    · go_simp
      split <;> simp_all
theorem zero_eq (x : Int) : (0 == x) = (x == 0) := by rw [Bool.eq_iff_iff]; simp; omega
theorem of_saying {v : Ev} {b : Bool} (h : ((!v.text.toList.isEmpty) && decide ((v.text.size : Int) ≤ 30)) = b) : (decide (1 ≤ v.text.size) && decide (v.text.size ≤ 30)) = b := by
  rw [← h, empty_size, Bool.eq_iff_iff]
  simp only [Bool.and_eq_true, decide_eq_true_eq, Bool.not_eq_true', beq_eq_false_iff_ne, ne_eq]
  omega
end Go.Proofs.YtdldblfopcbfeaaGreatDoor
