/- The contracts of IsState, the specification's and the program's. -/
import Derived.Test.YtjdkenopfnepaaaEvRightImpl
namespace Go.Proofs.Ytjdkenopfnepaaa
open Go.RowKit

def stateB (v : Ev) : Bool := rightB v && decide (v.kind ≤ 6)
theorem right_kind {v : Ev} (h : rightB v = true) : v.kind = 1 ∨ v.kind = 2 ∨ v.kind = 3 ∨ v.kind = 4 ∨ v.kind = 5 ∨ v.kind = 6 ∨ v.kind = 7 ∨ v.kind = 8 := by
  have hb : bodyB v = true := by
    unfold rightB at h
    simp only [Bool.and_eq_true] at h
    exact h.2
  unfold bodyB at hb
  by_cases h1 : v.kind = 1
  · simp [h1]
  by_cases h2 : v.kind = 2
  · simp [h2]
  by_cases h3 : v.kind = 3
  · simp [h3]
  by_cases h4 : v.kind = 4
  · simp [h4]
  by_cases h5 : v.kind = 5
  · simp [h5]
  by_cases h6 : v.kind = 6
  · simp [h6]
  by_cases h7 : v.kind = 7
  · simp [h7]
  by_cases h8 : v.kind = 8
  · simp [h8]
  simp [h1, h2, h3, h4, h5, h6, h7, h8] at hb
set_option maxHeartbeats 1000000 in
theorem state_spec (v : Ev) (a : Option Addr) (cap : Nat) (w : World) (hn : NumsAt w a v.prev) :
    Calls Try.prog 19 #[.agg #[.int .i64 v.id, .int .i64 v.room, .int .i64 v.author, .int .i64 v.kind, .int .i64 v.key, .int .i64 v.n, .string v.text, .slice a v.prev.length cap, .int .i64 v.time]] w fun e w' => e = .returned (.bool (stateB v)) ∧ Below w.heap.size w w' := by
  have HN : Hid (∀ o, NumsAt (w.alloc o) a v.prev) := fun o => hn.kept ((Below.refl _ _).alloc (Nat.le_refl _) _)
  have HE : Hid (stateB v = (rightB v && decide (v.kind ≤ 6))) := rfl
  clear hn
  go_enter Try.func19, Try.ntmps19
  go_wp2_with fail
  refine (right_spec v a cap _ (HN.out _)).mono ?_
  rintro e w1 ⟨rfl, hb1⟩
  obtain ⟨hc1, hf1⟩ := bcell hb1
  have HW : Hid (Below w.heap.size w w1) := ((Below.refl _ _).alloc (Nat.le_refl _) _).trans (hb1.mono (by simp))
  clear hb1
  cases c1 : rightB v
  · go_wp2
    go_ret
    exact ⟨ret_bool (by rw [HE.out, c1]; simp), HW.out⟩
  go_wp2
  go_ret
  exact ⟨ret_bool (by rw [HE.out, c1]; simp), HW.out⟩
set_option maxHeartbeats 400000 in
theorem lasts_creation (w : World) : Calls Try.prog 71 #[.iface 137 (.agg #[])] w fun e w' => e = .returned (.bool true) ∧ w = w' := by
  have t1 : ∀ W, (Instr.typeAssert (.iface 137 (.agg #[])) 98 137 true).run Try.prog W = .ok (.tuple #[.agg #[], .bool true]) W := fun _ => by kernel_rfl
  have t2 : ∀ W, (Instr.typeAssert (.iface 137 (.agg #[])) 98 139 true).run Try.prog W = .ok (.tuple #[.agg #[.int .i64 0, .int .i64 0], .bool false]) W := fun _ => by kernel_rfl
  have t3 : ∀ W, (Instr.typeAssert (.iface 137 (.agg #[])) 98 141 true).run Try.prog W = .ok (.tuple #[.agg #[.int .i64 0, .int .i64 0], .bool false]) W := fun _ => by kernel_rfl
  have t4 : ∀ W, (Instr.typeAssert (.iface 137 (.agg #[])) 98 143 true).run Try.prog W = .ok (.tuple #[.agg #[.string ⟨#[]⟩], .bool false]) W := fun _ => by kernel_rfl
  have t5 : ∀ W, (Instr.typeAssert (.iface 137 (.agg #[])) 98 145 true).run Try.prog W = .ok (.tuple #[.agg #[.int .i64 0], .bool false]) W := fun _ => by kernel_rfl
  have t6 : ∀ W, (Instr.typeAssert (.iface 137 (.agg #[])) 98 146 true).run Try.prog W = .ok (.tuple #[.agg #[.int .i64 0], .bool false]) W := fun _ => by kernel_rfl
  go_enter Try.func71, Try.ntmps71
  go_wp2
  go_ret
  exact ⟨rfl, rfl⟩
set_option maxHeartbeats 400000 in
theorem lasts_coming (key : Int) (n : Int) (w : World) : Calls Try.prog 71 #[.iface 139 (.agg #[.int .i64 key, .int .i64 n])] w fun e w' => e = .returned (.bool true) ∧ w = w' := by
  have t1 : ∀ W, (Instr.typeAssert (.iface 139 (.agg #[.int .i64 key, .int .i64 n])) 98 137 true).run Try.prog W = .ok (.tuple #[.agg #[], .bool false]) W := fun _ => by kernel_rfl
  have t2 : ∀ W, (Instr.typeAssert (.iface 139 (.agg #[.int .i64 key, .int .i64 n])) 98 139 true).run Try.prog W = .ok (.tuple #[.agg #[.int .i64 key, .int .i64 n], .bool true]) W := fun _ => by kernel_rfl
  have t3 : ∀ W, (Instr.typeAssert (.iface 139 (.agg #[.int .i64 key, .int .i64 n])) 98 141 true).run Try.prog W = .ok (.tuple #[.agg #[.int .i64 0, .int .i64 0], .bool false]) W := fun _ => by kernel_rfl
  have t4 : ∀ W, (Instr.typeAssert (.iface 139 (.agg #[.int .i64 key, .int .i64 n])) 98 143 true).run Try.prog W = .ok (.tuple #[.agg #[.string ⟨#[]⟩], .bool false]) W := fun _ => by kernel_rfl
  have t5 : ∀ W, (Instr.typeAssert (.iface 139 (.agg #[.int .i64 key, .int .i64 n])) 98 145 true).run Try.prog W = .ok (.tuple #[.agg #[.int .i64 0], .bool false]) W := fun _ => by kernel_rfl
  have t6 : ∀ W, (Instr.typeAssert (.iface 139 (.agg #[.int .i64 key, .int .i64 n])) 98 146 true).run Try.prog W = .ok (.tuple #[.agg #[.int .i64 0], .bool false]) W := fun _ => by kernel_rfl
  go_enter Try.func71, Try.ntmps71
  go_wp2
  go_ret
  exact ⟨rfl, rfl⟩
set_option maxHeartbeats 400000 in
theorem lasts_might (key : Int) (n : Int) (w : World) : Calls Try.prog 71 #[.iface 141 (.agg #[.int .i64 key, .int .i64 n])] w fun e w' => e = .returned (.bool true) ∧ w = w' := by
  have t1 : ∀ W, (Instr.typeAssert (.iface 141 (.agg #[.int .i64 key, .int .i64 n])) 98 137 true).run Try.prog W = .ok (.tuple #[.agg #[], .bool false]) W := fun _ => by kernel_rfl
  have t2 : ∀ W, (Instr.typeAssert (.iface 141 (.agg #[.int .i64 key, .int .i64 n])) 98 139 true).run Try.prog W = .ok (.tuple #[.agg #[.int .i64 0, .int .i64 0], .bool false]) W := fun _ => by kernel_rfl
  have t3 : ∀ W, (Instr.typeAssert (.iface 141 (.agg #[.int .i64 key, .int .i64 n])) 98 141 true).run Try.prog W = .ok (.tuple #[.agg #[.int .i64 key, .int .i64 n], .bool true]) W := fun _ => by kernel_rfl
  have t4 : ∀ W, (Instr.typeAssert (.iface 141 (.agg #[.int .i64 key, .int .i64 n])) 98 143 true).run Try.prog W = .ok (.tuple #[.agg #[.string ⟨#[]⟩], .bool false]) W := fun _ => by kernel_rfl
  have t5 : ∀ W, (Instr.typeAssert (.iface 141 (.agg #[.int .i64 key, .int .i64 n])) 98 145 true).run Try.prog W = .ok (.tuple #[.agg #[.int .i64 0], .bool false]) W := fun _ => by kernel_rfl
  have t6 : ∀ W, (Instr.typeAssert (.iface 141 (.agg #[.int .i64 key, .int .i64 n])) 98 146 true).run Try.prog W = .ok (.tuple #[.agg #[.int .i64 0], .bool false]) W := fun _ => by kernel_rfl
  go_enter Try.func71, Try.ntmps71
  go_wp2
  go_ret
  exact ⟨rfl, rfl⟩
set_option maxHeartbeats 400000 in
theorem lasts_topic (text : ByteArray) (w : World) : Calls Try.prog 71 #[.iface 143 (.agg #[.string text])] w fun e w' => e = .returned (.bool true) ∧ w = w' := by
  have t1 : ∀ W, (Instr.typeAssert (.iface 143 (.agg #[.string text])) 98 137 true).run Try.prog W = .ok (.tuple #[.agg #[], .bool false]) W := fun _ => by kernel_rfl
  have t2 : ∀ W, (Instr.typeAssert (.iface 143 (.agg #[.string text])) 98 139 true).run Try.prog W = .ok (.tuple #[.agg #[.int .i64 0, .int .i64 0], .bool false]) W := fun _ => by kernel_rfl
  have t3 : ∀ W, (Instr.typeAssert (.iface 143 (.agg #[.string text])) 98 141 true).run Try.prog W = .ok (.tuple #[.agg #[.int .i64 0, .int .i64 0], .bool false]) W := fun _ => by kernel_rfl
  have t4 : ∀ W, (Instr.typeAssert (.iface 143 (.agg #[.string text])) 98 143 true).run Try.prog W = .ok (.tuple #[.agg #[.string text], .bool true]) W := fun _ => by kernel_rfl
  have t5 : ∀ W, (Instr.typeAssert (.iface 143 (.agg #[.string text])) 98 145 true).run Try.prog W = .ok (.tuple #[.agg #[.int .i64 0], .bool false]) W := fun _ => by kernel_rfl
  have t6 : ∀ W, (Instr.typeAssert (.iface 143 (.agg #[.string text])) 98 146 true).run Try.prog W = .ok (.tuple #[.agg #[.int .i64 0], .bool false]) W := fun _ => by kernel_rfl
  go_enter Try.func71, Try.ntmps71
  go_wp2
  go_ret
  exact ⟨rfl, rfl⟩
set_option maxHeartbeats 400000 in
theorem lasts_door (n : Int) (w : World) : Calls Try.prog 71 #[.iface 145 (.agg #[.int .i64 n])] w fun e w' => e = .returned (.bool true) ∧ w = w' := by
  have t1 : ∀ W, (Instr.typeAssert (.iface 145 (.agg #[.int .i64 n])) 98 137 true).run Try.prog W = .ok (.tuple #[.agg #[], .bool false]) W := fun _ => by kernel_rfl
  have t2 : ∀ W, (Instr.typeAssert (.iface 145 (.agg #[.int .i64 n])) 98 139 true).run Try.prog W = .ok (.tuple #[.agg #[.int .i64 0, .int .i64 0], .bool false]) W := fun _ => by kernel_rfl
  have t3 : ∀ W, (Instr.typeAssert (.iface 145 (.agg #[.int .i64 n])) 98 141 true).run Try.prog W = .ok (.tuple #[.agg #[.int .i64 0, .int .i64 0], .bool false]) W := fun _ => by kernel_rfl
  have t4 : ∀ W, (Instr.typeAssert (.iface 145 (.agg #[.int .i64 n])) 98 143 true).run Try.prog W = .ok (.tuple #[.agg #[.string ⟨#[]⟩], .bool false]) W := fun _ => by kernel_rfl
  have t5 : ∀ W, (Instr.typeAssert (.iface 145 (.agg #[.int .i64 n])) 98 145 true).run Try.prog W = .ok (.tuple #[.agg #[.int .i64 n], .bool true]) W := fun _ => by kernel_rfl
  have t6 : ∀ W, (Instr.typeAssert (.iface 145 (.agg #[.int .i64 n])) 98 146 true).run Try.prog W = .ok (.tuple #[.agg #[.int .i64 0], .bool false]) W := fun _ => by kernel_rfl
  go_enter Try.func71, Try.ntmps71
  go_wp2
  go_ret
  exact ⟨rfl, rfl⟩
set_option maxHeartbeats 400000 in
theorem lasts_sight (n : Int) (w : World) : Calls Try.prog 71 #[.iface 146 (.agg #[.int .i64 n])] w fun e w' => e = .returned (.bool true) ∧ w = w' := by
  have t1 : ∀ W, (Instr.typeAssert (.iface 146 (.agg #[.int .i64 n])) 98 137 true).run Try.prog W = .ok (.tuple #[.agg #[], .bool false]) W := fun _ => by kernel_rfl
  have t2 : ∀ W, (Instr.typeAssert (.iface 146 (.agg #[.int .i64 n])) 98 139 true).run Try.prog W = .ok (.tuple #[.agg #[.int .i64 0, .int .i64 0], .bool false]) W := fun _ => by kernel_rfl
  have t3 : ∀ W, (Instr.typeAssert (.iface 146 (.agg #[.int .i64 n])) 98 141 true).run Try.prog W = .ok (.tuple #[.agg #[.int .i64 0, .int .i64 0], .bool false]) W := fun _ => by kernel_rfl
  have t4 : ∀ W, (Instr.typeAssert (.iface 146 (.agg #[.int .i64 n])) 98 143 true).run Try.prog W = .ok (.tuple #[.agg #[.string ⟨#[]⟩], .bool false]) W := fun _ => by kernel_rfl
  have t5 : ∀ W, (Instr.typeAssert (.iface 146 (.agg #[.int .i64 n])) 98 145 true).run Try.prog W = .ok (.tuple #[.agg #[.int .i64 0], .bool false]) W := fun _ => by kernel_rfl
  have t6 : ∀ W, (Instr.typeAssert (.iface 146 (.agg #[.int .i64 n])) 98 146 true).run Try.prog W = .ok (.tuple #[.agg #[.int .i64 n], .bool true]) W := fun _ => by kernel_rfl
  go_enter Try.func71, Try.ntmps71
  go_wp2
  go_ret
  exact ⟨rfl, rfl⟩
set_option maxHeartbeats 400000 in
theorem lasts_saying (text : ByteArray) (w : World) : Calls Try.prog 71 #[.iface 147 (.agg #[.string text])] w fun e w' => e = .returned (.bool false) ∧ w = w' := by
  have t1 : ∀ W, (Instr.typeAssert (.iface 147 (.agg #[.string text])) 98 137 true).run Try.prog W = .ok (.tuple #[.agg #[], .bool false]) W := fun _ => by kernel_rfl
  have t2 : ∀ W, (Instr.typeAssert (.iface 147 (.agg #[.string text])) 98 139 true).run Try.prog W = .ok (.tuple #[.agg #[.int .i64 0, .int .i64 0], .bool false]) W := fun _ => by kernel_rfl
  have t3 : ∀ W, (Instr.typeAssert (.iface 147 (.agg #[.string text])) 98 141 true).run Try.prog W = .ok (.tuple #[.agg #[.int .i64 0, .int .i64 0], .bool false]) W := fun _ => by kernel_rfl
  have t4 : ∀ W, (Instr.typeAssert (.iface 147 (.agg #[.string text])) 98 143 true).run Try.prog W = .ok (.tuple #[.agg #[.string ⟨#[]⟩], .bool false]) W := fun _ => by kernel_rfl
  have t5 : ∀ W, (Instr.typeAssert (.iface 147 (.agg #[.string text])) 98 145 true).run Try.prog W = .ok (.tuple #[.agg #[.int .i64 0], .bool false]) W := fun _ => by kernel_rfl
  have t6 : ∀ W, (Instr.typeAssert (.iface 147 (.agg #[.string text])) 98 146 true).run Try.prog W = .ok (.tuple #[.agg #[.int .i64 0], .bool false]) W := fun _ => by kernel_rfl
  go_enter Try.func71, Try.ntmps71
  go_wp2
  go_ret
  exact ⟨rfl, rfl⟩
set_option maxHeartbeats 400000 in
theorem lasts_hiding (key : Int) (w : World) : Calls Try.prog 71 #[.iface 149 (.agg #[.int .i64 key])] w fun e w' => e = .returned (.bool false) ∧ w = w' := by
  have t1 : ∀ W, (Instr.typeAssert (.iface 149 (.agg #[.int .i64 key])) 98 137 true).run Try.prog W = .ok (.tuple #[.agg #[], .bool false]) W := fun _ => by kernel_rfl
  have t2 : ∀ W, (Instr.typeAssert (.iface 149 (.agg #[.int .i64 key])) 98 139 true).run Try.prog W = .ok (.tuple #[.agg #[.int .i64 0, .int .i64 0], .bool false]) W := fun _ => by kernel_rfl
  have t3 : ∀ W, (Instr.typeAssert (.iface 149 (.agg #[.int .i64 key])) 98 141 true).run Try.prog W = .ok (.tuple #[.agg #[.int .i64 0, .int .i64 0], .bool false]) W := fun _ => by kernel_rfl
  have t4 : ∀ W, (Instr.typeAssert (.iface 149 (.agg #[.int .i64 key])) 98 143 true).run Try.prog W = .ok (.tuple #[.agg #[.string ⟨#[]⟩], .bool false]) W := fun _ => by kernel_rfl
  have t5 : ∀ W, (Instr.typeAssert (.iface 149 (.agg #[.int .i64 key])) 98 145 true).run Try.prog W = .ok (.tuple #[.agg #[.int .i64 0], .bool false]) W := fun _ => by kernel_rfl
  have t6 : ∀ W, (Instr.typeAssert (.iface 149 (.agg #[.int .i64 key])) 98 146 true).run Try.prog W = .ok (.tuple #[.agg #[.int .i64 0], .bool false]) W := fun _ => by kernel_rfl
  go_enter Try.func71, Try.ntmps71
  go_wp2
  go_ret
  exact ⟨rfl, rfl⟩
set_option maxHeartbeats 400000 in
theorem lasts_unknown (w : World) : Calls Try.prog 71 #[.iface 150 (.agg #[])] w fun e w' => e = .returned (.bool false) ∧ w = w' := by
  have t1 : ∀ W, (Instr.typeAssert (.iface 150 (.agg #[])) 98 137 true).run Try.prog W = .ok (.tuple #[.agg #[], .bool false]) W := fun _ => by kernel_rfl
  have t2 : ∀ W, (Instr.typeAssert (.iface 150 (.agg #[])) 98 139 true).run Try.prog W = .ok (.tuple #[.agg #[.int .i64 0, .int .i64 0], .bool false]) W := fun _ => by kernel_rfl
  have t3 : ∀ W, (Instr.typeAssert (.iface 150 (.agg #[])) 98 141 true).run Try.prog W = .ok (.tuple #[.agg #[.int .i64 0, .int .i64 0], .bool false]) W := fun _ => by kernel_rfl
  have t4 : ∀ W, (Instr.typeAssert (.iface 150 (.agg #[])) 98 143 true).run Try.prog W = .ok (.tuple #[.agg #[.string ⟨#[]⟩], .bool false]) W := fun _ => by kernel_rfl
  have t5 : ∀ W, (Instr.typeAssert (.iface 150 (.agg #[])) 98 145 true).run Try.prog W = .ok (.tuple #[.agg #[.int .i64 0], .bool false]) W := fun _ => by kernel_rfl
  have t6 : ∀ W, (Instr.typeAssert (.iface 150 (.agg #[])) 98 146 true).run Try.prog W = .ok (.tuple #[.agg #[.int .i64 0], .bool false]) W := fun _ => by kernel_rfl
  go_enter Try.func71, Try.ntmps71
  go_wp2
  go_ret
  exact ⟨rfl, rfl⟩
set_option maxHeartbeats 2000000 in
theorem state_impl (v : Ev) (a : Option Addr) (cap : Nat) (w : World) (hn : NumsAt w a v.prev) :
    Calls Try.prog 18 #[.agg #[.int .i64 v.id, .int .i64 v.room, .int .i64 v.author, .int .i64 v.kind, .int .i64 v.key, .int .i64 v.n, .string v.text, .slice a v.prev.length cap, .int .i64 v.time]] w fun e w' => e = .returned (.bool (stateB v)) ∧ Below w.heap.size w w' := by
  have HN : Hid (∀ o, NumsAt (w.alloc o) a v.prev) := fun o => hn.kept ((Below.refl _ _).alloc (Nat.le_refl _) _)
  have HE : Hid (stateB v = (rightB v && decide (v.kind ≤ 6))) := rfl
  clear hn
  go_enter Try.func18, Try.ntmps18
  go_wp2_with fail
  refine (right_impl v a cap _ (HN.out _)).mono ?_
  rintro e w1 ⟨rfl, hb1⟩
  obtain ⟨hc1, hf1⟩ := bcell hb1
  have hz1 : w.heap.size < w1.heap.size := by have := hb1.size; simp at this; omega
  have HW : Hid (Below w.heap.size w w1) := ((Below.refl _ _).alloc (Nat.le_refl _) _).trans (hb1.mono (by simp))
  clear hb1
  cases c1 : rightB v
  · go_wp2
    go_ret
    exact ⟨ret_bool (by rw [HE.out, c1]; simp), HW.out⟩
  rcases right_kind c1 with h | h | h | h | h | h | h | h
  · have HK : Hid (v.kind = 1) := h
    have HX : Hid (stateB v = true) := by unfold Hid; rw [HE.out, c1, h]; rfl
    clear h
    go_wp2_with fail
    refine (deed_creation _ _ _ _ _ _ _ _ _ _ _ _ HK.out).mono ?_
    rintro e w2 ⟨rfl, hb2⟩
    have HV : Hid (Below w.heap.size w w2) := HW.out.trans (hb2.mono (Nat.le_of_lt hz1))
    clear hb2
    go_wp2_with fail
    refine (lasts_creation _).mono ?_
    rintro e w3 ⟨rfl, rfl⟩
    go_wp2
    go_ret
    exact ⟨ret_bool HX.out.symm, HV.out⟩
  · have HK : Hid (v.kind = 2) := h
    have HX : Hid (stateB v = true) := by unfold Hid; rw [HE.out, c1, h]; rfl
    clear h
    go_wp2_with fail
    refine (deed_coming _ _ _ _ _ _ _ _ _ _ _ _ HK.out).mono ?_
    rintro e w2 ⟨rfl, hb2⟩
    have HV : Hid (Below w.heap.size w w2) := HW.out.trans (hb2.mono (Nat.le_of_lt hz1))
    clear hb2
    go_wp2_with fail
    refine (lasts_coming _ _ _).mono ?_
    rintro e w3 ⟨rfl, rfl⟩
    go_wp2
    go_ret
    exact ⟨ret_bool HX.out.symm, HV.out⟩
  · have HK : Hid (v.kind = 3) := h
    have HX : Hid (stateB v = true) := by unfold Hid; rw [HE.out, c1, h]; rfl
    clear h
    go_wp2_with fail
    refine (deed_might _ _ _ _ _ _ _ _ _ _ _ _ HK.out).mono ?_
    rintro e w2 ⟨rfl, hb2⟩
    have HV : Hid (Below w.heap.size w w2) := HW.out.trans (hb2.mono (Nat.le_of_lt hz1))
    clear hb2
    go_wp2_with fail
    refine (lasts_might _ _ _).mono ?_
    rintro e w3 ⟨rfl, rfl⟩
    go_wp2
    go_ret
    exact ⟨ret_bool HX.out.symm, HV.out⟩
  · have HK : Hid (v.kind = 4) := h
    have HX : Hid (stateB v = true) := by unfold Hid; rw [HE.out, c1, h]; rfl
    clear h
    go_wp2_with fail
    refine (deed_topic _ _ _ _ _ _ _ _ _ _ _ _ HK.out).mono ?_
    rintro e w2 ⟨rfl, hb2⟩
    have HV : Hid (Below w.heap.size w w2) := HW.out.trans (hb2.mono (Nat.le_of_lt hz1))
    clear hb2
    go_wp2_with fail
    refine (lasts_topic _ _).mono ?_
    rintro e w3 ⟨rfl, rfl⟩
    go_wp2
    go_ret
    exact ⟨ret_bool HX.out.symm, HV.out⟩
  · have HK : Hid (v.kind = 5) := h
    have HX : Hid (stateB v = true) := by unfold Hid; rw [HE.out, c1, h]; rfl
    clear h
    go_wp2_with fail
    refine (deed_door _ _ _ _ _ _ _ _ _ _ _ _ HK.out).mono ?_
    rintro e w2 ⟨rfl, hb2⟩
    have HV : Hid (Below w.heap.size w w2) := HW.out.trans (hb2.mono (Nat.le_of_lt hz1))
    clear hb2
    go_wp2_with fail
    refine (lasts_door _ _).mono ?_
    rintro e w3 ⟨rfl, rfl⟩
    go_wp2
    go_ret
    exact ⟨ret_bool HX.out.symm, HV.out⟩
  · have HK : Hid (v.kind = 6) := h
    have HX : Hid (stateB v = true) := by unfold Hid; rw [HE.out, c1, h]; rfl
    clear h
    go_wp2_with fail
    refine (deed_sight _ _ _ _ _ _ _ _ _ _ _ _ HK.out).mono ?_
    rintro e w2 ⟨rfl, hb2⟩
    have HV : Hid (Below w.heap.size w w2) := HW.out.trans (hb2.mono (Nat.le_of_lt hz1))
    clear hb2
    go_wp2_with fail
    refine (lasts_sight _ _).mono ?_
    rintro e w3 ⟨rfl, rfl⟩
    go_wp2
    go_ret
    exact ⟨ret_bool HX.out.symm, HV.out⟩
  · have HK : Hid (v.kind = 7) := h
    have HX : Hid (stateB v = false) := by unfold Hid; rw [HE.out, c1, h]; rfl
    clear h
    go_wp2_with fail
    refine (deed_saying _ _ _ _ _ _ _ _ _ _ _ _ HK.out).mono ?_
    rintro e w2 ⟨rfl, hb2⟩
    have HV : Hid (Below w.heap.size w w2) := HW.out.trans (hb2.mono (Nat.le_of_lt hz1))
    clear hb2
    go_wp2_with fail
    refine (lasts_saying _ _).mono ?_
    rintro e w3 ⟨rfl, rfl⟩
    go_wp2
    go_ret
    exact ⟨ret_bool HX.out.symm, HV.out⟩
  · have HK : Hid (v.kind = 8) := h
    have HX : Hid (stateB v = false) := by unfold Hid; rw [HE.out, c1, h]; rfl
    clear h
    go_wp2_with fail
    refine (deed_hiding _ _ _ _ _ _ _ _ _ _ _ _ HK.out).mono ?_
    rintro e w2 ⟨rfl, hb2⟩
    have HV : Hid (Below w.heap.size w w2) := HW.out.trans (hb2.mono (Nat.le_of_lt hz1))
    clear hb2
    go_wp2_with fail
    refine (lasts_hiding _ _).mono ?_
    rintro e w3 ⟨rfl, rfl⟩
    go_wp2
    go_ret
    exact ⟨ret_bool HX.out.symm, HV.out⟩
end Go.Proofs.Ytjdkenopfnepaaa
