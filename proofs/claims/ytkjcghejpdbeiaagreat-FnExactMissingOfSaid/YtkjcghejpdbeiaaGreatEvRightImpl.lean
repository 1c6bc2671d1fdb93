/- The contract of EventRight, the program's. -/
import Derived.Test.YtkjcghejpdbeiaaGreatEvRightA
import Derived.Test.YtkjcghejpdbeiaaGreatEvRightB
import Derived.Test.YtkjcghejpdbeiaaGreatEvRightC
namespace Go.Proofs.YtkjcghejpdbeiaaGreat
open Go.RowKit

theorem calls_bool {P : Program} {f : FuncId} {args : Array Value} {w : World} {a b : Bool} (e : a = b) (h : Calls P f args w fun e w' => e = .returned (.bool a) ∧ Below w.heap.size w w') :
    Calls P f args w fun e w' => e = .returned (.bool b) ∧ Below w.heap.size w w' := by rw [← e]; exact h
set_option maxHeartbeats 1000000 in
theorem right_impl (v : Ev) (a : Option Addr) (cap : Nat) (w : World) (hn : NumsAt w a v.prev) :
    Calls Tryz.prog 35 #[.agg #[.int .i64 v.id, .int .i64 v.room, .int .i64 v.author, .int .i64 v.kind, .int .i64 v.key, .int .i64 v.n, .string v.text, .slice a v.prev.length cap, .int .i64 v.time]] w fun e w' => e = .returned (.bool (rightB v)) ∧ Below w.heap.size w w' := by
  have HN : Hid (∀ o, NumsAt (w.alloc o) a v.prev) := fun o => hn.kept ((Below.refl _ _).alloc (Nat.le_refl _) _)
  have HE : Hid (rightB v = (isB v.id 1 1000000 && isB v.room 1 3 && isB v.author 1 6 && isB v.time 0 1000000 && prevB v && bodyB v)) := rfl
  cases c1 : isB v.id 1 1000000
  · clear hn
    go_enter Tryz.func35, Tryz.ntmps35
    go_wp2_with fail
    refine (id_impl _ _).mono ?_
    rintro e w' ⟨rfl, rfl⟩
    go_wp2
    go_ret
    exact ⟨ret_bool (by rw [HE.out, c1]; simp), (Below.refl _ _).alloc (Nat.le_refl _) _⟩
  cases c2 : isB v.room 1 3
  · clear hn
    go_enter Tryz.func35, Tryz.ntmps35
    go_wp2_with (first
      | (go_at_call 65; refine (id_impl _ _).mono ?_; rintro e w' ⟨rfl, rfl⟩)
      | (go_at_call 60; refine (room_impl _ _).mono ?_; rintro e w' ⟨rfl, rfl⟩))
    go_ret
    exact ⟨ret_bool (by rw [HE.out, c2]; simp), (Below.refl _ _).alloc (Nat.le_refl _) _⟩
  cases c3 : isB v.author 1 6
  · clear hn
    go_enter Tryz.func35, Tryz.ntmps35
    go_wp2_with (first
      | (go_at_call 65; refine (id_impl _ _).mono ?_; rintro e w' ⟨rfl, rfl⟩)
      | (go_at_call 60; refine (room_impl _ _).mono ?_; rintro e w' ⟨rfl, rfl⟩)
      | (go_at_call 66; refine (user_impl _ _).mono ?_; rintro e w' ⟨rfl, rfl⟩))
    go_ret
    exact ⟨ret_bool (by rw [HE.out, c3]; simp), (Below.refl _ _).alloc (Nat.le_refl _) _⟩
  cases c4 : isB v.time 0 1000000
  · clear hn
    go_enter Tryz.func35, Tryz.ntmps35
    go_wp2_with (first
      | (go_at_call 65; refine (id_impl _ _).mono ?_; rintro e w' ⟨rfl, rfl⟩)
      | (go_at_call 60; refine (room_impl _ _).mono ?_; rintro e w' ⟨rfl, rfl⟩)
      | (go_at_call 66; refine (user_impl _ _).mono ?_; rintro e w' ⟨rfl, rfl⟩)
      | (go_at_call 67; refine (time_impl _ _).mono ?_; rintro e w' ⟨rfl, rfl⟩))
    go_ret
    exact ⟨ret_bool (by rw [HE.out, c4]; simp), (Below.refl _ _).alloc (Nat.le_refl _) _⟩
  cases c5 : prevB v
  · clear hn
    go_enter Tryz.func35, Tryz.ntmps35
    go_wp2_with (first
      | (go_at_call 65; refine (id_impl _ _).mono ?_; rintro e w' ⟨rfl, rfl⟩)
      | (go_at_call 60; refine (room_impl _ _).mono ?_; rintro e w' ⟨rfl, rfl⟩)
      | (go_at_call 66; refine (user_impl _ _).mono ?_; rintro e w' ⟨rfl, rfl⟩)
      | (go_at_call 67; refine (time_impl _ _).mono ?_; rintro e w' ⟨rfl, rfl⟩)
      | (go_at_call 68; refine (prev_impl v a cap _ (HN.out _)).mono ?_; rintro e w1 ⟨rfl, hb1⟩))
    go_ret
    exact ⟨ret_bool (by rw [HE.out, c5]; simp), ((Below.refl _ _).alloc (Nat.le_refl _) _).trans (hb1.mono (by simp))⟩
  have e : bodyB v = rightB v := by rw [HE.out, c1, c2, c3, c4, c5]; simp
  refine calls_bool e ?_
  by_cases h1 : v.kind = 1
  · exact right_impl_creation v a cap w hn h1 c1 c2 c3 c4 c5
  by_cases h2 : v.kind = 2
  · exact right_impl_coming v a cap w hn h2 c1 c2 c3 c4 c5
  by_cases h3 : v.kind = 3
  · exact right_impl_might v a cap w hn h3 c1 c2 c3 c4 c5
  by_cases h4 : v.kind = 4
  · exact right_impl_topic v a cap w hn h4 c1 c2 c3 c4 c5
  by_cases h5 : v.kind = 5
  · exact right_impl_door v a cap w hn h5 c1 c2 c3 c4 c5
  by_cases h6 : v.kind = 6
  · exact right_impl_sight v a cap w hn h6 c1 c2 c3 c4 c5
  by_cases h7 : v.kind = 7
  · exact right_impl_saying v a cap w hn h7 c1 c2 c3 c4 c5
  by_cases h8 : v.kind = 8
  · exact right_impl_hiding v a cap w hn h8 c1 c2 c3 c4 c5
  exact right_impl_unknown v a cap w hn (by simpa using h1) (by simpa using h2) (by simpa using h3) (by simpa using h4) (by simpa using h5) (by simpa using h6) (by simpa using h7) (by simpa using h8) c1 c2 c3 c4 c5
end Go.Proofs.YtkjcghejpdbeiaaGreat
