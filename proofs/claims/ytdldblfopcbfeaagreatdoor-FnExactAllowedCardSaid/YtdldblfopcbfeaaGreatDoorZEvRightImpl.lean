/- The contract of EventRight, the program's. -/
import Derived.Test.YtdldblfopcbfeaaGreatDoorZEvRightA
import Derived.Test.YtdldblfopcbfeaaGreatDoorZEvRightB
import Derived.Test.YtdldblfopcbfeaaGreatDoorZEvRightC
namespace Go.Proofs.YtdldblfopcbfeaaGreatDoor
open Go.RowKit

theorem calls_bool {P : Program} {f : FuncId} {args : Array Value} {w : World} {a b : Bool} (e : a = b) (h : Calls P f args w fun e w' => e = .returned (.bool a) ∧ Below w.heap.size w w') :
    Calls P f args w fun e w' => e = .returned (.bool b) ∧ Below w.heap.size w w' := by rw [← e]; exact h
/-- What an event is to be but for its Prev. -/
def deedR (v : Ev) : Bool := isB v.id 1 1000000 && isB v.room 1 3 && isB v.author 1 6 && isB v.time 0 1000000 && bodyB v
theorem rightB_parts (v : Ev) : rightB v = (deedR v && prevB v) := by
  have h : rightB v = (isB v.id 1 1000000 && isB v.room 1 3 && isB v.author 1 6 && isB v.time 0 1000000 && prevB v && bodyB v) := rfl
  rw [h, deedR]
  cases isB v.id 1 1000000 <;> cases isB v.room 1 3 <;> cases isB v.author 1 6 <;> cases isB v.time 0 1000000 <;> cases prevB v <;> cases bodyB v <;> rfl
set_option maxHeartbeats 1000000 in
theorem deed_right_impl (v : Ev) (a : Option Addr) (cap : Nat) (w : World) :
    Calls Tryz.prog 51 #[.agg #[.int .i64 v.id, .int .i64 v.room, .int .i64 v.author, .int .i64 v.kind, .int .i64 v.key, .int .i64 v.n, .string v.text, .slice a v.prev.length cap, .int .i64 v.time]] w fun e w' => e = .returned (.bool (deedR v)) ∧ Below w.heap.size w w' := by
  have HE : Hid (deedR v = (isB v.id 1 1000000 && isB v.room 1 3 && isB v.author 1 6 && isB v.time 0 1000000 && bodyB v)) := rfl
  cases c1 : isB v.id 1 1000000
  · go_enter Tryz.func51, Tryz.ntmps51
    go_wp2_with fail
    refine (id_impl _ _).mono ?_
    rintro e w' ⟨rfl, rfl⟩
    go_wp2
    go_ret
    exact ⟨ret_bool (by rw [HE.out, c1]; simp), (Below.refl _ _).alloc (Nat.le_refl _) _⟩
  cases c2 : isB v.room 1 3
  · go_enter Tryz.func51, Tryz.ntmps51
    go_wp2_with (first
      | (go_at_call 66; refine (id_impl _ _).mono ?_; rintro e w' ⟨rfl, rfl⟩)
      | (go_at_call 58; refine (room_impl _ _).mono ?_; rintro e w' ⟨rfl, rfl⟩))
    go_ret
    exact ⟨ret_bool (by rw [HE.out, c2]; simp), (Below.refl _ _).alloc (Nat.le_refl _) _⟩
  cases c3 : isB v.author 1 6
  · go_enter Tryz.func51, Tryz.ntmps51
    go_wp2_with (first
      | (go_at_call 66; refine (id_impl _ _).mono ?_; rintro e w' ⟨rfl, rfl⟩)
      | (go_at_call 58; refine (room_impl _ _).mono ?_; rintro e w' ⟨rfl, rfl⟩)
      | (go_at_call 67; refine (user_impl _ _).mono ?_; rintro e w' ⟨rfl, rfl⟩))
    go_ret
    exact ⟨ret_bool (by rw [HE.out, c3]; simp), (Below.refl _ _).alloc (Nat.le_refl _) _⟩
  cases c4 : isB v.time 0 1000000
  · go_enter Tryz.func51, Tryz.ntmps51
    go_wp2_with (first
      | (go_at_call 66; refine (id_impl _ _).mono ?_; rintro e w' ⟨rfl, rfl⟩)
      | (go_at_call 58; refine (room_impl _ _).mono ?_; rintro e w' ⟨rfl, rfl⟩)
      | (go_at_call 67; refine (user_impl _ _).mono ?_; rintro e w' ⟨rfl, rfl⟩)
      | (go_at_call 68; refine (time_impl _ _).mono ?_; rintro e w' ⟨rfl, rfl⟩))
    go_ret
    exact ⟨ret_bool (by rw [HE.out, c4]; simp), (Below.refl _ _).alloc (Nat.le_refl _) _⟩
  have e : bodyB v = deedR v := by rw [HE.out, c1, c2, c3, c4]; simp
  refine calls_bool e ?_
  by_cases h1 : v.kind = 1
  · exact deed_right_creation v a cap w h1 c1 c2 c3 c4
  by_cases h2 : v.kind = 2
  · exact deed_right_coming v a cap w h2 c1 c2 c3 c4
  by_cases h3 : v.kind = 3
  · exact deed_right_might v a cap w h3 c1 c2 c3 c4
  by_cases h4 : v.kind = 4
  · exact deed_right_topic v a cap w h4 c1 c2 c3 c4
  by_cases h5 : v.kind = 5
  · exact deed_right_door v a cap w h5 c1 c2 c3 c4
  by_cases h6 : v.kind = 6
  · exact deed_right_sight v a cap w h6 c1 c2 c3 c4
  by_cases h7 : v.kind = 7
  · exact deed_right_saying v a cap w h7 c1 c2 c3 c4
  by_cases h8 : v.kind = 8
  · exact deed_right_hiding v a cap w h8 c1 c2 c3 c4
  exact deed_right_unknown v a cap w (by simpa using h1) (by simpa using h2) (by simpa using h3) (by simpa using h4) (by simpa using h5) (by simpa using h6) (by simpa using h7) (by simpa using h8) c1 c2 c3 c4
set_option maxHeartbeats 1000000 in
theorem right_impl (v : Ev) (a : Option Addr) (cap : Nat) (w : World) (hn : NumsAt w a v.prev) :
    Calls Tryz.prog 25 #[.agg #[.int .i64 v.id, .int .i64 v.room, .int .i64 v.author, .int .i64 v.kind, .int .i64 v.key, .int .i64 v.n, .string v.text, .slice a v.prev.length cap, .int .i64 v.time]] w fun e w' => e = .returned (.bool (rightB v)) ∧ Below w.heap.size w w' := by
  have HN : Hid (∀ o, NumsAt (w.alloc o) a v.prev) := fun o => hn.kept ((Below.refl _ _).alloc (Nat.le_refl _) _)
  have HE : Hid (rightB v = (deedR v && prevB v)) := rightB_parts v
  clear hn
  cases c1 : deedR v
  · go_enter Tryz.func25, Tryz.ntmps25
    go_wp2_with fail
    refine (deed_right_impl v a cap _).mono ?_
    rintro e w1 ⟨rfl, hb1⟩
    rw [c1]
    go_wp2
    go_ret
    exact ⟨ret_bool (by rw [HE.out, c1]; simp), ((Below.refl _ _).alloc (Nat.le_refl _) _).trans (hb1.mono (by simp))⟩
  go_enter Tryz.func25, Tryz.ntmps25
  go_wp2_with fail
  refine (deed_right_impl v a cap _).mono ?_
  rintro e w1 ⟨rfl, hb1⟩
  have HB1 : Hid (Below w.heap.size w w1) := ((Below.refl _ _).alloc (Nat.le_refl _) _).trans (hb1.mono (by simp))
  have hz1 : w.heap.size < w1.heap.size := by have := hb1.size; simp at this; omega
  obtain ⟨hc1, hf1⟩ := bcell hb1
  have HN1 : Hid (NumsAt w1 a v.prev) := (HN.out _).kept hb1
  clear hb1
  rw [c1]
  go_wp2_with fail
  refine (prev_impl v a cap _ HN1.out).mono ?_
  rintro e w2 ⟨rfl, hb2⟩
  go_wp2
  go_ret
  exact ⟨ret_bool (by rw [HE.out, c1]; simp), HB1.out.trans (hb2.mono (Nat.le_of_lt hz1))⟩
end Go.Proofs.YtdldblfopcbfeaaGreatDoor
