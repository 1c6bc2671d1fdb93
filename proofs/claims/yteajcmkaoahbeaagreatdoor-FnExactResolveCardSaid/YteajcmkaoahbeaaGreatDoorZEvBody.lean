/- The contract of l02Body: whether what an event of its kind says may be so. -/
import Derived.Test.YteajcmkaoahbeaaGreatDoorZGrPlain
import Derived.WalkSmall
import Derived.Lib.Strings
namespace Go.Proofs.YteajcmkaoahbeaaGreatDoor
open Go.RowKit

theorem empty_size (t : ByteArray) : t.toList.isEmpty = (t.size == 0) := by
  rw [Lib.toList_data]
  have : t.size = t.data.toList.length := rfl
  rw [this]
  cases t.data.toList <;> simp
set_option maxHeartbeats 2000000 in
theorem body_spec (v : Ev) (a : Option Addr) (len cap : Nat) (w : World) :
    Calls Tryz.prog 142 #[.agg #[.int .i64 v.id, .int .i64 v.room, .int .i64 v.author, .int .i64 v.kind, .int .i64 v.key, .int .i64 v.n, .string v.text, .slice a len cap, .int .i64 v.time]] w fun e w' => e = .returned (.bool (bodyB v)) ∧ Below w.heap.size w w' := by
  obtain ⟨id, room, author, kind, key, n, text, prev, time⟩ := v
  have HT : Hid (text.toList.isEmpty = (text.size == 0)) := empty_size text
  show Calls _ _ #[.agg #[.int .i64 id, .int .i64 room, .int .i64 author, .int .i64 kind, .int .i64 key, .int .i64 n, .string text, .slice a len cap, .int .i64 time]] w fun e w' => e = .returned (.bool (bodyB ⟨id, room, author, kind, key, n, text, prev, time⟩)) ∧ Below w.heap.size w w'
  by_cases h1 : kind = 1
  · subst h1
    have HB : Hid (bodyB ⟨id, room, author, 1, key, n, text, prev, time⟩ = ((key == 0) && (n == 0) && (text.size == 0))) := by unfold Hid; simp [bodyB]
    cases c0 : key == 0
    · go_enter Tryz.func142, Tryz.ntmps142
      go_wp2
      go_quiet (fail)
      go_wp2_with (first | (go_at_call 139; refine (user_spec _ _).mono ?_; rintro e w' ⟨rfl, rfl⟩) | (go_at_call 61; refine (is_spec _ _ _ _).mono ?_; rintro e w' ⟨rfl, rfl⟩) | (go_at_call 138; refine (id_spec _ _).mono ?_; rintro e w' ⟨rfl, rfl⟩))
      go_ret
      exact ⟨ret_bool (by rw [HB.out, c0]; simp), below_drewN ((Below.refl _ _).alloc (Nat.le_refl _) _) _⟩
    cases c1 : n == 0
    · go_enter Tryz.func142, Tryz.ntmps142
      go_wp2
      go_quiet (fail)
      go_wp2_with (first | (go_at_call 139; refine (user_spec _ _).mono ?_; rintro e w' ⟨rfl, rfl⟩) | (go_at_call 61; refine (is_spec _ _ _ _).mono ?_; rintro e w' ⟨rfl, rfl⟩) | (go_at_call 138; refine (id_spec _ _).mono ?_; rintro e w' ⟨rfl, rfl⟩))
      go_ret
      exact ⟨ret_bool (by rw [HB.out, c1]; simp), below_drewN ((Below.refl _ _).alloc (Nat.le_refl _) _) _⟩
    go_enter Tryz.func142, Tryz.ntmps142
    go_wp2
    go_quiet (fail)
    go_wp2_with (first | (go_at_call 139; refine (user_spec _ _).mono ?_; rintro e w' ⟨rfl, rfl⟩) | (go_at_call 61; refine (is_spec _ _ _ _).mono ?_; rintro e w' ⟨rfl, rfl⟩) | (go_at_call 138; refine (id_spec _ _).mono ?_; rintro e w' ⟨rfl, rfl⟩))
    go_ret
    exact ⟨ret_bool (by rw [HB.out, HT.out, c0, c1]; simp), below_drewN ((Below.refl _ _).alloc (Nat.le_refl _) _) _⟩
  by_cases h2 : kind = 2
  · subst h2
    clear h1
    have HB : Hid (bodyB ⟨id, room, author, 2, key, n, text, prev, time⟩ = ((isB key 1 6) && (isB n 1 4) && (text.size == 0))) := by unfold Hid; simp [bodyB]
    cases c0 : isB key 1 6
    · go_enter Tryz.func142, Tryz.ntmps142
      go_wp2
      go_quiet (fail)
      go_wp2_with (first | (go_at_call 139; refine (user_spec _ _).mono ?_; rintro e w' ⟨rfl, rfl⟩) | (go_at_call 61; refine (is_spec _ _ _ _).mono ?_; rintro e w' ⟨rfl, rfl⟩) | (go_at_call 138; refine (id_spec _ _).mono ?_; rintro e w' ⟨rfl, rfl⟩))
      go_ret
      exact ⟨ret_bool (by rw [HB.out, c0]; simp), below_drewN ((Below.refl _ _).alloc (Nat.le_refl _) _) _⟩
    cases c1 : isB n 1 4
    · go_enter Tryz.func142, Tryz.ntmps142
      go_wp2
      go_quiet (fail)
      go_wp2_with (first | (go_at_call 139; refine (user_spec _ _).mono ?_; rintro e w' ⟨rfl, rfl⟩) | (go_at_call 61; refine (is_spec _ _ _ _).mono ?_; rintro e w' ⟨rfl, rfl⟩) | (go_at_call 138; refine (id_spec _ _).mono ?_; rintro e w' ⟨rfl, rfl⟩))
      go_ret
      exact ⟨ret_bool (by rw [HB.out, c1]; simp), below_drewN ((Below.refl _ _).alloc (Nat.le_refl _) _) _⟩
    go_enter Tryz.func142, Tryz.ntmps142
    go_wp2
    go_quiet (fail)
    go_wp2_with (first | (go_at_call 139; refine (user_spec _ _).mono ?_; rintro e w' ⟨rfl, rfl⟩) | (go_at_call 61; refine (is_spec _ _ _ _).mono ?_; rintro e w' ⟨rfl, rfl⟩) | (go_at_call 138; refine (id_spec _ _).mono ?_; rintro e w' ⟨rfl, rfl⟩))
    go_ret
    exact ⟨ret_bool (by rw [HB.out, HT.out, c0, c1]; simp), below_drewN ((Below.refl _ _).alloc (Nat.le_refl _) _) _⟩
  by_cases h3 : kind = 3
  · subst h3
    clear h1 h2
    have HB : Hid (bodyB ⟨id, room, author, 3, key, n, text, prev, time⟩ = ((isB key 1 6) && (isB n 0 100) && (text.size == 0))) := by unfold Hid; simp [bodyB]
    cases c0 : isB key 1 6
    · go_enter Tryz.func142, Tryz.ntmps142
      go_wp2
      go_quiet (fail)
      go_wp2_with (first | (go_at_call 139; refine (user_spec _ _).mono ?_; rintro e w' ⟨rfl, rfl⟩) | (go_at_call 61; refine (is_spec _ _ _ _).mono ?_; rintro e w' ⟨rfl, rfl⟩) | (go_at_call 138; refine (id_spec _ _).mono ?_; rintro e w' ⟨rfl, rfl⟩))
      go_ret
      exact ⟨ret_bool (by rw [HB.out, c0]; simp), below_drewN ((Below.refl _ _).alloc (Nat.le_refl _) _) _⟩
    cases c1 : isB n 0 100
    · go_enter Tryz.func142, Tryz.ntmps142
      go_wp2
      go_quiet (fail)
      go_wp2_with (first | (go_at_call 139; refine (user_spec _ _).mono ?_; rintro e w' ⟨rfl, rfl⟩) | (go_at_call 61; refine (is_spec _ _ _ _).mono ?_; rintro e w' ⟨rfl, rfl⟩) | (go_at_call 138; refine (id_spec _ _).mono ?_; rintro e w' ⟨rfl, rfl⟩))
      go_ret
      exact ⟨ret_bool (by rw [HB.out, c1]; simp), below_drewN ((Below.refl _ _).alloc (Nat.le_refl _) _) _⟩
    go_enter Tryz.func142, Tryz.ntmps142
    go_wp2
    go_quiet (fail)
    go_wp2_with (first | (go_at_call 139; refine (user_spec _ _).mono ?_; rintro e w' ⟨rfl, rfl⟩) | (go_at_call 61; refine (is_spec _ _ _ _).mono ?_; rintro e w' ⟨rfl, rfl⟩) | (go_at_call 138; refine (id_spec _ _).mono ?_; rintro e w' ⟨rfl, rfl⟩))
    go_ret
    exact ⟨ret_bool (by rw [HB.out, HT.out, c0, c1]; simp), below_drewN ((Below.refl _ _).alloc (Nat.le_refl _) _) _⟩
  by_cases h4 : kind = 4
  · subst h4
    clear h1 h2 h3
    have HB : Hid (bodyB ⟨id, room, author, 4, key, n, text, prev, time⟩ = ((key == 0) && (n == 0) && (decide (text.size ≤ 30)))) := by unfold Hid; simp [bodyB]
    cases c0 : key == 0
    · go_enter Tryz.func142, Tryz.ntmps142
      go_wp2
      go_quiet (fail)
      go_wp2_with (first | (go_at_call 139; refine (user_spec _ _).mono ?_; rintro e w' ⟨rfl, rfl⟩) | (go_at_call 61; refine (is_spec _ _ _ _).mono ?_; rintro e w' ⟨rfl, rfl⟩) | (go_at_call 138; refine (id_spec _ _).mono ?_; rintro e w' ⟨rfl, rfl⟩))
      go_ret
      exact ⟨ret_bool (by rw [HB.out, c0]; simp), below_drewN ((Below.refl _ _).alloc (Nat.le_refl _) _) _⟩
    cases c1 : n == 0
    · go_enter Tryz.func142, Tryz.ntmps142
      go_wp2
      go_quiet (fail)
      go_wp2_with (first | (go_at_call 139; refine (user_spec _ _).mono ?_; rintro e w' ⟨rfl, rfl⟩) | (go_at_call 61; refine (is_spec _ _ _ _).mono ?_; rintro e w' ⟨rfl, rfl⟩) | (go_at_call 138; refine (id_spec _ _).mono ?_; rintro e w' ⟨rfl, rfl⟩))
      go_ret
      exact ⟨ret_bool (by rw [HB.out, c1]; simp), below_drewN ((Below.refl _ _).alloc (Nat.le_refl _) _) _⟩
    go_enter Tryz.func142, Tryz.ntmps142
    go_wp2
    go_quiet (fail)
    go_wp2_with (first | (go_at_call 139; refine (user_spec _ _).mono ?_; rintro e w' ⟨rfl, rfl⟩) | (go_at_call 61; refine (is_spec _ _ _ _).mono ?_; rintro e w' ⟨rfl, rfl⟩) | (go_at_call 138; refine (id_spec _ _).mono ?_; rintro e w' ⟨rfl, rfl⟩))
    go_ret
    exact ⟨ret_bool (by rw [HB.out, c0, c1]; simp; try omega), below_drewN ((Below.refl _ _).alloc (Nat.le_refl _) _) _⟩
  by_cases h5 : kind = 5
  · subst h5
    clear h1 h2 h3 h4
    have HB : Hid (bodyB ⟨id, room, author, 5, key, n, text, prev, time⟩ = ((key == 0) && (isB n 1 2) && (text.size == 0))) := by unfold Hid; simp [bodyB]
    cases c0 : key == 0
    · go_enter Tryz.func142, Tryz.ntmps142
      go_wp2
      go_quiet (fail)
      go_wp2_with (first | (go_at_call 139; refine (user_spec _ _).mono ?_; rintro e w' ⟨rfl, rfl⟩) | (go_at_call 61; refine (is_spec _ _ _ _).mono ?_; rintro e w' ⟨rfl, rfl⟩) | (go_at_call 138; refine (id_spec _ _).mono ?_; rintro e w' ⟨rfl, rfl⟩))
      go_ret
      exact ⟨ret_bool (by rw [HB.out, c0]; simp), below_drewN ((Below.refl _ _).alloc (Nat.le_refl _) _) _⟩
    cases c1 : isB n 1 2
    · go_enter Tryz.func142, Tryz.ntmps142
      go_wp2
      go_quiet (fail)
      go_wp2_with (first | (go_at_call 139; refine (user_spec _ _).mono ?_; rintro e w' ⟨rfl, rfl⟩) | (go_at_call 61; refine (is_spec _ _ _ _).mono ?_; rintro e w' ⟨rfl, rfl⟩) | (go_at_call 138; refine (id_spec _ _).mono ?_; rintro e w' ⟨rfl, rfl⟩))
      go_ret
      exact ⟨ret_bool (by rw [HB.out, c1]; simp), below_drewN ((Below.refl _ _).alloc (Nat.le_refl _) _) _⟩
    go_enter Tryz.func142, Tryz.ntmps142
    go_wp2
    go_quiet (fail)
    go_wp2_with (first | (go_at_call 139; refine (user_spec _ _).mono ?_; rintro e w' ⟨rfl, rfl⟩) | (go_at_call 61; refine (is_spec _ _ _ _).mono ?_; rintro e w' ⟨rfl, rfl⟩) | (go_at_call 138; refine (id_spec _ _).mono ?_; rintro e w' ⟨rfl, rfl⟩))
    go_ret
    exact ⟨ret_bool (by rw [HB.out, HT.out, c0, c1]; simp), below_drewN ((Below.refl _ _).alloc (Nat.le_refl _) _) _⟩
  by_cases h6 : kind = 6
  · subst h6
    clear h1 h2 h3 h4 h5
    have HB : Hid (bodyB ⟨id, room, author, 6, key, n, text, prev, time⟩ = ((key == 0) && (isB n 1 3) && (text.size == 0))) := by unfold Hid; simp [bodyB]
    cases c0 : key == 0
    · go_enter Tryz.func142, Tryz.ntmps142
      go_wp2
      go_quiet (fail)
      go_wp2_with (first | (go_at_call 139; refine (user_spec _ _).mono ?_; rintro e w' ⟨rfl, rfl⟩) | (go_at_call 61; refine (is_spec _ _ _ _).mono ?_; rintro e w' ⟨rfl, rfl⟩) | (go_at_call 138; refine (id_spec _ _).mono ?_; rintro e w' ⟨rfl, rfl⟩))
      go_ret
      exact ⟨ret_bool (by rw [HB.out, c0]; simp), below_drewN ((Below.refl _ _).alloc (Nat.le_refl _) _) _⟩
    cases c1 : isB n 1 3
    · go_enter Tryz.func142, Tryz.ntmps142
      go_wp2
      go_quiet (fail)
      go_wp2_with (first | (go_at_call 139; refine (user_spec _ _).mono ?_; rintro e w' ⟨rfl, rfl⟩) | (go_at_call 61; refine (is_spec _ _ _ _).mono ?_; rintro e w' ⟨rfl, rfl⟩) | (go_at_call 138; refine (id_spec _ _).mono ?_; rintro e w' ⟨rfl, rfl⟩))
      go_ret
      exact ⟨ret_bool (by rw [HB.out, c1]; simp), below_drewN ((Below.refl _ _).alloc (Nat.le_refl _) _) _⟩
    go_enter Tryz.func142, Tryz.ntmps142
    go_wp2
    go_quiet (fail)
    go_wp2_with (first | (go_at_call 139; refine (user_spec _ _).mono ?_; rintro e w' ⟨rfl, rfl⟩) | (go_at_call 61; refine (is_spec _ _ _ _).mono ?_; rintro e w' ⟨rfl, rfl⟩) | (go_at_call 138; refine (id_spec _ _).mono ?_; rintro e w' ⟨rfl, rfl⟩))
    go_ret
    exact ⟨ret_bool (by rw [HB.out, HT.out, c0, c1]; simp), below_drewN ((Below.refl _ _).alloc (Nat.le_refl _) _) _⟩
  by_cases h7 : kind = 7
  · subst h7
    clear h1 h2 h3 h4 h5 h6
    have HB : Hid (bodyB ⟨id, room, author, 7, key, n, text, prev, time⟩ = ((key == 0) && (n == 0) && (decide (1 ≤ text.size)) && (decide (text.size ≤ 30)))) := by unfold Hid; simp [bodyB]
    cases c0 : key == 0
    · go_enter Tryz.func142, Tryz.ntmps142
      go_wp2
      go_quiet (fail)
      go_wp2_with (first | (go_at_call 139; refine (user_spec _ _).mono ?_; rintro e w' ⟨rfl, rfl⟩) | (go_at_call 61; refine (is_spec _ _ _ _).mono ?_; rintro e w' ⟨rfl, rfl⟩) | (go_at_call 138; refine (id_spec _ _).mono ?_; rintro e w' ⟨rfl, rfl⟩))
      go_ret
      exact ⟨ret_bool (by rw [HB.out, c0]; simp), below_drewN ((Below.refl _ _).alloc (Nat.le_refl _) _) _⟩
    cases c1 : n == 0
    · go_enter Tryz.func142, Tryz.ntmps142
      go_wp2
      go_quiet (fail)
      go_wp2_with (first | (go_at_call 139; refine (user_spec _ _).mono ?_; rintro e w' ⟨rfl, rfl⟩) | (go_at_call 61; refine (is_spec _ _ _ _).mono ?_; rintro e w' ⟨rfl, rfl⟩) | (go_at_call 138; refine (id_spec _ _).mono ?_; rintro e w' ⟨rfl, rfl⟩))
      go_ret
      exact ⟨ret_bool (by rw [HB.out, c1]; simp), below_drewN ((Below.refl _ _).alloc (Nat.le_refl _) _) _⟩
    cases hL : decide (1 ≤ (text.size : Int))
    · have H : Hid ((decide (1 ≤ text.size)) = false) := by unfold Hid; have := of_decide_eq_false hL; exact decide_eq_false (by omega)
      go_enter Tryz.func142, Tryz.ntmps142
      go_wp2
      go_quiet (fail)
      go_wp2_with (first | (go_at_call 139; refine (user_spec _ _).mono ?_; rintro e w' ⟨rfl, rfl⟩) | (go_at_call 61; refine (is_spec _ _ _ _).mono ?_; rintro e w' ⟨rfl, rfl⟩) | (go_at_call 138; refine (id_spec _ _).mono ?_; rintro e w' ⟨rfl, rfl⟩))
      go_ret
      exact ⟨ret_bool (by rw [HB.out, H.out]; simp), below_drewN ((Below.refl _ _).alloc (Nat.le_refl _) _) _⟩
    have HL : Hid ((decide (1 ≤ text.size)) = true) := by unfold Hid; have := of_decide_eq_true hL; exact decide_eq_true (by omega)
    go_enter Tryz.func142, Tryz.ntmps142
    go_wp2
    go_quiet (fail)
    go_wp2_with (first | (go_at_call 139; refine (user_spec _ _).mono ?_; rintro e w' ⟨rfl, rfl⟩) | (go_at_call 61; refine (is_spec _ _ _ _).mono ?_; rintro e w' ⟨rfl, rfl⟩) | (go_at_call 138; refine (id_spec _ _).mono ?_; rintro e w' ⟨rfl, rfl⟩))
    go_ret
    exact ⟨ret_bool (by rw [HB.out, c0, c1, HL.out]; simp; try omega), below_drewN ((Below.refl _ _).alloc (Nat.le_refl _) _) _⟩
  by_cases h8 : kind = 8
  · subst h8
    clear h1 h2 h3 h4 h5 h6 h7
    have HB : Hid (bodyB ⟨id, room, author, 8, key, n, text, prev, time⟩ = ((isB key 1 1000000) && (n == 0) && (text.size == 0))) := by unfold Hid; simp [bodyB]
    cases c0 : isB key 1 1000000
    · go_enter Tryz.func142, Tryz.ntmps142
      go_wp2
      go_quiet (fail)
      go_wp2_with (first | (go_at_call 139; refine (user_spec _ _).mono ?_; rintro e w' ⟨rfl, rfl⟩) | (go_at_call 61; refine (is_spec _ _ _ _).mono ?_; rintro e w' ⟨rfl, rfl⟩) | (go_at_call 138; refine (id_spec _ _).mono ?_; rintro e w' ⟨rfl, rfl⟩))
      go_ret
      exact ⟨ret_bool (by rw [HB.out, c0]; simp), below_drewN ((Below.refl _ _).alloc (Nat.le_refl _) _) _⟩
    cases c1 : n == 0
    · go_enter Tryz.func142, Tryz.ntmps142
      go_wp2
      go_quiet (fail)
      go_wp2_with (first | (go_at_call 139; refine (user_spec _ _).mono ?_; rintro e w' ⟨rfl, rfl⟩) | (go_at_call 61; refine (is_spec _ _ _ _).mono ?_; rintro e w' ⟨rfl, rfl⟩) | (go_at_call 138; refine (id_spec _ _).mono ?_; rintro e w' ⟨rfl, rfl⟩))
      go_ret
      exact ⟨ret_bool (by rw [HB.out, c1]; simp), below_drewN ((Below.refl _ _).alloc (Nat.le_refl _) _) _⟩
    go_enter Tryz.func142, Tryz.ntmps142
    go_wp2
    go_quiet (fail)
    go_wp2_with (first | (go_at_call 139; refine (user_spec _ _).mono ?_; rintro e w' ⟨rfl, rfl⟩) | (go_at_call 61; refine (is_spec _ _ _ _).mono ?_; rintro e w' ⟨rfl, rfl⟩) | (go_at_call 138; refine (id_spec _ _).mono ?_; rintro e w' ⟨rfl, rfl⟩))
    go_ret
    exact ⟨ret_bool (by rw [HB.out, HT.out, c0, c1]; simp), below_drewN ((Below.refl _ _).alloc (Nat.le_refl _) _) _⟩
  have HB : Hid (bodyB ⟨id, room, author, kind, key, n, text, prev, time⟩ = false) := by unfold Hid; simp [bodyB, h1, h2, h3, h4, h5, h6, h7, h8]
  have k1 : (kind == 1) = false := by simpa using h1
  have k2 : (kind == 2) = false := by simpa using h2
  have k3 : (kind == 3) = false := by simpa using h3
  have k4 : (kind == 4) = false := by simpa using h4
  have k5 : (kind == 5) = false := by simpa using h5
  have k6 : (kind == 6) = false := by simpa using h6
  have k7 : (kind == 7) = false := by simpa using h7
  have k8 : (kind == 8) = false := by simpa using h8
  clear h1 h2 h3 h4 h5 h6 h7 h8
  go_enter Tryz.func142, Tryz.ntmps142
  go_wp2
  go_quiet (fail)
  go_wp2_with (first | (go_at_call 139; refine (user_spec _ _).mono ?_; rintro e w' ⟨rfl, rfl⟩) | (go_at_call 61; refine (is_spec _ _ _ _).mono ?_; rintro e w' ⟨rfl, rfl⟩) | (go_at_call 138; refine (id_spec _ _).mono ?_; rintro e w' ⟨rfl, rfl⟩))
  go_ret
  exact ⟨ret_bool (HB.out.symm), below_drewN ((Below.refl _ _).alloc (Nat.le_refl _) _) _⟩
end Go.Proofs.YteajcmkaoahbeaaGreatDoor
