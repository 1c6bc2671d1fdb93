/- The program's EventRight, kind by kind. The program's EventRight, kind by kind. The contract of EventRight, the program's. -/
import Derived.Test.YteajcmkaoahbeaaGreatDoorZEvRightC
namespace Go.Proofs.YteajcmkaoahbeaaGreatDoor
open Go.RowKit

set_option maxHeartbeats 2000000 in
theorem deed_right_creation (v : Ev) (a : Option Addr) (cap : Nat) (w : World) (hk : v.kind = 1) (c1 : isB v.id 1 1000000 = true) (c2 : isB v.room 1 3 = true) (c3 : isB v.author 1 6 = true) (c4 : isB v.time 0 1000000 = true) :
    Calls Tryz.prog 176 #[.agg #[.int .i64 v.id, .int .i64 v.room, .int .i64 v.author, .int .i64 v.kind, .int .i64 v.key, .int .i64 v.n, .string v.text, .slice a v.prev.length cap, .int .i64 v.time]] w fun e w' => e = .returned (.bool (bodyB v)) ∧ Below w.heap.size w w' := by
  have HB : Hid (bodyB v = ((v.key == 0) && (v.n == 0) && (v.text.size == 0))) := body_creation v hk
  have HK : Hid (v.kind = 1) := hk
  clear hk
  have hm1 : ∀ W, (method 459 285 (.agg #[]) "loop.example/g00683/impl.right").run Tryz.prog W = .ok (284, .agg #[]) W := fun _ => by kernel_rfl
  have hm2 : ∀ W, (method 459 285 (.agg #[]) "loop.example/g00683/impl.tells").run Tryz.prog W = .ok (285, .agg #[]) W := fun _ => by kernel_rfl
  go_enter Tryz.func176, Tryz.ntmps176
  go_wp2_with (first
    | (go_at_call 150; refine (id_impl _ _).mono ?_; rintro e w' ⟨rfl, rfl⟩)
    | (go_at_call 108; refine (room_impl _ _).mono ?_; rintro e w' ⟨rfl, rfl⟩)
    | (go_at_call 203; refine (user_impl _ _).mono ?_; rintro e w' ⟨rfl, rfl⟩)
    | (go_at_call 204; refine (time_impl _ _).mono ?_; rintro e w' ⟨rfl, rfl⟩)
    | (go_at_call 200; refine (deed_creation _ _ _ _ _ _ _ _ _ _ _ _ HK.out).mono ?_; rintro e w2 ⟨rfl, hb2⟩; obtain ⟨hc2, hf2⟩ := bcell hb2; have HC : Hid (Below w.heap.size w w2) := ((Below.refl _ _).alloc (Nat.le_refl _) _).trans (hb2.mono (by simp)); have hz2 : w.heap.size < w2.heap.size := by have := hb2.size; simp at this; omega))
  have heq : ∀ k1 n1 k2 n2 t1 t2 W, (Op.equalIn 10000 271 (.agg #[.int .i64 k1, .int .i64 n1, .string t1]) (.agg #[.int .i64 k2, .int .i64 n2, .string t2])).run Tryz.prog W = .ok (k1 == k2 && n1 == n2 && t1.toList == t2.toList) W := eqin_details
  first | (go_region_with (first
      | (go_at_call 284; refine (right_creation _).mono ?_; rintro e w3 ⟨he, hb3⟩; subst he; have hc3 : ∀ b o, b < w2.heap.size → w3.cell? ⟨b, o, none⟩ = w2.cell? ⟨b, o, none⟩ := (bcell hb3).1; have hz3 : w.heap.size < w3.heap.size := Nat.lt_of_lt_of_le hz2 hb3.size)
      | (go_at_call 285; refine (tells_creation _).mono ?_; rintro e w4 ⟨rfl, hb4⟩; obtain ⟨hc4, hf4⟩ := bcell hb4; have hz4 : w.heap.size < w4.heap.size := Nat.lt_of_lt_of_le hz3 hb4.size)
      | (go_at_call 205; refine (details_impl _ _ _ _ _ _ _ _ _ _ _ _).mono ?_; rintro e w5 ⟨rfl, hb5⟩; obtain ⟨hc5, hf5⟩ := bcell hb5))) | fail
  all_goals go_wp2
  all_goals go_ret
  all_goals refine ⟨ret_bool ?_, HC.out.trans (Below.drew (Below.refl _ _) |>.trans ((hb3.mono (Nat.le_of_lt hz2)).trans ((hb4.mono (Nat.le_of_lt hz3)).trans (hb5.mono (Nat.le_of_lt hz4)))))⟩
  all_goals rw [HB.out]
  all_goals rw [zero_eq, zero_eq, empty_size]
set_option maxHeartbeats 2000000 in
theorem deed_right_coming (v : Ev) (a : Option Addr) (cap : Nat) (w : World) (hk : v.kind = 2) (c1 : isB v.id 1 1000000 = true) (c2 : isB v.room 1 3 = true) (c3 : isB v.author 1 6 = true) (c4 : isB v.time 0 1000000 = true) :
    Calls Tryz.prog 176 #[.agg #[.int .i64 v.id, .int .i64 v.room, .int .i64 v.author, .int .i64 v.kind, .int .i64 v.key, .int .i64 v.n, .string v.text, .slice a v.prev.length cap, .int .i64 v.time]] w fun e w' => e = .returned (.bool (bodyB v)) ∧ Below w.heap.size w w' := by
  have HB : Hid (bodyB v = ((isB v.key 1 6) && (isB v.n 1 4) && (v.text.size == 0))) := body_coming v hk
  have HK : Hid (v.kind = 2) := hk
  clear hk
  have hm1 : ∀ W, (method 459 287 (.agg #[.int .i64 v.key, .int .i64 v.n]) "loop.example/g00683/impl.right").run Tryz.prog W = .ok (286, .agg #[.int .i64 v.key, .int .i64 v.n]) W := fun _ => by kernel_rfl
  have hm2 : ∀ W, (method 459 287 (.agg #[.int .i64 v.key, .int .i64 v.n]) "loop.example/g00683/impl.tells").run Tryz.prog W = .ok (287, .agg #[.int .i64 v.key, .int .i64 v.n]) W := fun _ => by kernel_rfl
  go_enter Tryz.func176, Tryz.ntmps176
  go_wp2_with (first
    | (go_at_call 150; refine (id_impl _ _).mono ?_; rintro e w' ⟨rfl, rfl⟩)
    | (go_at_call 108; refine (room_impl _ _).mono ?_; rintro e w' ⟨rfl, rfl⟩)
    | (go_at_call 203; refine (user_impl _ _).mono ?_; rintro e w' ⟨rfl, rfl⟩)
    | (go_at_call 204; refine (time_impl _ _).mono ?_; rintro e w' ⟨rfl, rfl⟩)
    | (go_at_call 200; refine (deed_coming _ _ _ _ _ _ _ _ _ _ _ _ HK.out).mono ?_; rintro e w2 ⟨rfl, hb2⟩; obtain ⟨hc2, hf2⟩ := bcell hb2; have HC : Hid (Below w.heap.size w w2) := ((Below.refl _ _).alloc (Nat.le_refl _) _).trans (hb2.mono (by simp)); have hz2 : w.heap.size < w2.heap.size := by have := hb2.size; simp at this; omega))
  cases c0 : (isB v.key 1 6 && isB v.n 1 4)
  · first | (go_region_with (first
        | (go_at_call 286; refine (right_coming _ _ _).mono ?_; rintro e w3 ⟨he, hb3⟩; rw [c0] at he; subst he; have hc3 : ∀ b o, b < w2.heap.size → w3.cell? ⟨b, o, none⟩ = w2.cell? ⟨b, o, none⟩ := (bcell hb3).1; have hz3 : w.heap.size < w3.heap.size := Nat.lt_of_lt_of_le hz2 hb3.size)
        | (go_at_call 287; refine (tells_coming _ _ _).mono ?_; rintro e w4 ⟨rfl, hb4⟩; obtain ⟨hc4, hf4⟩ := bcell hb4; have hz4 : w.heap.size < w4.heap.size := Nat.lt_of_lt_of_le hz3 hb4.size)
        | (go_at_call 205; refine (details_impl _ _ _ _ _ _ _ _ _ _ _ _).mono ?_; rintro e w5 ⟨rfl, hb5⟩; obtain ⟨hc5, hf5⟩ := bcell hb5))) | fail
    all_goals go_wp2
    all_goals go_ret
    all_goals exact ⟨ret_bool (by rw [HB.out, c0]; simp), HC.out.trans (Below.drew (Below.refl _ _) |>.trans (hb3.mono (Nat.le_of_lt hz2)))⟩
  have heq : ∀ k1 n1 k2 n2 t1 t2 W, (Op.equalIn 10000 271 (.agg #[.int .i64 k1, .int .i64 n1, .string t1]) (.agg #[.int .i64 k2, .int .i64 n2, .string t2])).run Tryz.prog W = .ok (k1 == k2 && n1 == n2 && t1.toList == t2.toList) W := eqin_details
  first | (go_region_with (first
      | (go_at_call 286; refine (right_coming _ _ _).mono ?_; rintro e w3 ⟨he, hb3⟩; rw [c0] at he; subst he; have hc3 : ∀ b o, b < w2.heap.size → w3.cell? ⟨b, o, none⟩ = w2.cell? ⟨b, o, none⟩ := (bcell hb3).1; have hz3 : w.heap.size < w3.heap.size := Nat.lt_of_lt_of_le hz2 hb3.size)
      | (go_at_call 287; refine (tells_coming _ _ _).mono ?_; rintro e w4 ⟨rfl, hb4⟩; obtain ⟨hc4, hf4⟩ := bcell hb4; have hz4 : w.heap.size < w4.heap.size := Nat.lt_of_lt_of_le hz3 hb4.size)
      | (go_at_call 205; refine (details_impl _ _ _ _ _ _ _ _ _ _ _ _).mono ?_; rintro e w5 ⟨rfl, hb5⟩; obtain ⟨hc5, hf5⟩ := bcell hb5))) | fail
  all_goals go_wp2
  all_goals go_ret
  all_goals refine ⟨ret_bool ?_, HC.out.trans (Below.drew (Below.refl _ _) |>.trans ((hb3.mono (Nat.le_of_lt hz2)).trans ((hb4.mono (Nat.le_of_lt hz3)).trans (hb5.mono (Nat.le_of_lt hz4)))))⟩
  all_goals rw [HB.out, c0]
  all_goals rw [empty_size, Bool.true_and]
set_option maxHeartbeats 2000000 in
theorem deed_right_might (v : Ev) (a : Option Addr) (cap : Nat) (w : World) (hk : v.kind = 3) (c1 : isB v.id 1 1000000 = true) (c2 : isB v.room 1 3 = true) (c3 : isB v.author 1 6 = true) (c4 : isB v.time 0 1000000 = true) :
    Calls Tryz.prog 176 #[.agg #[.int .i64 v.id, .int .i64 v.room, .int .i64 v.author, .int .i64 v.kind, .int .i64 v.key, .int .i64 v.n, .string v.text, .slice a v.prev.length cap, .int .i64 v.time]] w fun e w' => e = .returned (.bool (bodyB v)) ∧ Below w.heap.size w w' := by
  have HB : Hid (bodyB v = ((isB v.key 1 6) && (isB v.n 0 100) && (v.text.size == 0))) := body_might v hk
  have HK : Hid (v.kind = 3) := hk
  clear hk
  have hm1 : ∀ W, (method 459 289 (.agg #[.int .i64 v.key, .int .i64 v.n]) "loop.example/g00683/impl.right").run Tryz.prog W = .ok (288, .agg #[.int .i64 v.key, .int .i64 v.n]) W := fun _ => by kernel_rfl
  have hm2 : ∀ W, (method 459 289 (.agg #[.int .i64 v.key, .int .i64 v.n]) "loop.example/g00683/impl.tells").run Tryz.prog W = .ok (289, .agg #[.int .i64 v.key, .int .i64 v.n]) W := fun _ => by kernel_rfl
  go_enter Tryz.func176, Tryz.ntmps176
  go_wp2_with (first
    | (go_at_call 150; refine (id_impl _ _).mono ?_; rintro e w' ⟨rfl, rfl⟩)
    | (go_at_call 108; refine (room_impl _ _).mono ?_; rintro e w' ⟨rfl, rfl⟩)
    | (go_at_call 203; refine (user_impl _ _).mono ?_; rintro e w' ⟨rfl, rfl⟩)
    | (go_at_call 204; refine (time_impl _ _).mono ?_; rintro e w' ⟨rfl, rfl⟩)
    | (go_at_call 200; refine (deed_might _ _ _ _ _ _ _ _ _ _ _ _ HK.out).mono ?_; rintro e w2 ⟨rfl, hb2⟩; obtain ⟨hc2, hf2⟩ := bcell hb2; have HC : Hid (Below w.heap.size w w2) := ((Below.refl _ _).alloc (Nat.le_refl _) _).trans (hb2.mono (by simp)); have hz2 : w.heap.size < w2.heap.size := by have := hb2.size; simp at this; omega))
  cases c0 : (isB v.key 1 6 && isB v.n 0 100)
  · first | (go_region_with (first
        | (go_at_call 288; refine (right_might _ _ _).mono ?_; rintro e w3 ⟨he, hb3⟩; rw [c0] at he; subst he; have hc3 : ∀ b o, b < w2.heap.size → w3.cell? ⟨b, o, none⟩ = w2.cell? ⟨b, o, none⟩ := (bcell hb3).1; have hz3 : w.heap.size < w3.heap.size := Nat.lt_of_lt_of_le hz2 hb3.size)
        | (go_at_call 289; refine (tells_might _ _ _).mono ?_; rintro e w4 ⟨rfl, hb4⟩; obtain ⟨hc4, hf4⟩ := bcell hb4; have hz4 : w.heap.size < w4.heap.size := Nat.lt_of_lt_of_le hz3 hb4.size)
        | (go_at_call 205; refine (details_impl _ _ _ _ _ _ _ _ _ _ _ _).mono ?_; rintro e w5 ⟨rfl, hb5⟩; obtain ⟨hc5, hf5⟩ := bcell hb5))) | fail
    all_goals go_wp2
    all_goals go_ret
    all_goals exact ⟨ret_bool (by rw [HB.out, c0]; simp), HC.out.trans (Below.drew (Below.refl _ _) |>.trans (hb3.mono (Nat.le_of_lt hz2)))⟩
  have heq : ∀ k1 n1 k2 n2 t1 t2 W, (Op.equalIn 10000 271 (.agg #[.int .i64 k1, .int .i64 n1, .string t1]) (.agg #[.int .i64 k2, .int .i64 n2, .string t2])).run Tryz.prog W = .ok (k1 == k2 && n1 == n2 && t1.toList == t2.toList) W := eqin_details
  first | (go_region_with (first
      | (go_at_call 288; refine (right_might _ _ _).mono ?_; rintro e w3 ⟨he, hb3⟩; rw [c0] at he; subst he; have hc3 : ∀ b o, b < w2.heap.size → w3.cell? ⟨b, o, none⟩ = w2.cell? ⟨b, o, none⟩ := (bcell hb3).1; have hz3 : w.heap.size < w3.heap.size := Nat.lt_of_lt_of_le hz2 hb3.size)
      | (go_at_call 289; refine (tells_might _ _ _).mono ?_; rintro e w4 ⟨rfl, hb4⟩; obtain ⟨hc4, hf4⟩ := bcell hb4; have hz4 : w.heap.size < w4.heap.size := Nat.lt_of_lt_of_le hz3 hb4.size)
      | (go_at_call 205; refine (details_impl _ _ _ _ _ _ _ _ _ _ _ _).mono ?_; rintro e w5 ⟨rfl, hb5⟩; obtain ⟨hc5, hf5⟩ := bcell hb5))) | fail
  all_goals go_wp2
  all_goals go_ret
  all_goals refine ⟨ret_bool ?_, HC.out.trans (Below.drew (Below.refl _ _) |>.trans ((hb3.mono (Nat.le_of_lt hz2)).trans ((hb4.mono (Nat.le_of_lt hz3)).trans (hb5.mono (Nat.le_of_lt hz4)))))⟩
  all_goals rw [HB.out, c0]
  all_goals rw [empty_size, Bool.true_and]
end Go.Proofs.YteajcmkaoahbeaaGreatDoor
namespace Go.Proofs.YteajcmkaoahbeaaGreatDoor
open Go.RowKit

set_option maxHeartbeats 2000000 in
theorem deed_right_topic (v : Ev) (a : Option Addr) (cap : Nat) (w : World) (hk : v.kind = 4) (c1 : isB v.id 1 1000000 = true) (c2 : isB v.room 1 3 = true) (c3 : isB v.author 1 6 = true) (c4 : isB v.time 0 1000000 = true) :
    Calls Tryz.prog 176 #[.agg #[.int .i64 v.id, .int .i64 v.room, .int .i64 v.author, .int .i64 v.kind, .int .i64 v.key, .int .i64 v.n, .string v.text, .slice a v.prev.length cap, .int .i64 v.time]] w fun e w' => e = .returned (.bool (bodyB v)) ∧ Below w.heap.size w w' := by
  have HB : Hid (bodyB v = ((v.key == 0) && (v.n == 0) && (decide (v.text.size ≤ 30)))) := body_topic v hk
  have HK : Hid (v.kind = 4) := hk
  clear hk
  have hm1 : ∀ W, (method 459 291 (.agg #[.string v.text]) "loop.example/g00683/impl.right").run Tryz.prog W = .ok (290, .agg #[.string v.text]) W := fun _ => by kernel_rfl
  have hm2 : ∀ W, (method 459 291 (.agg #[.string v.text]) "loop.example/g00683/impl.tells").run Tryz.prog W = .ok (291, .agg #[.string v.text]) W := fun _ => by kernel_rfl
  go_enter Tryz.func176, Tryz.ntmps176
  go_wp2_with (first
    | (go_at_call 150; refine (id_impl _ _).mono ?_; rintro e w' ⟨rfl, rfl⟩)
    | (go_at_call 108; refine (room_impl _ _).mono ?_; rintro e w' ⟨rfl, rfl⟩)
    | (go_at_call 203; refine (user_impl _ _).mono ?_; rintro e w' ⟨rfl, rfl⟩)
    | (go_at_call 204; refine (time_impl _ _).mono ?_; rintro e w' ⟨rfl, rfl⟩)
    | (go_at_call 200; refine (deed_topic _ _ _ _ _ _ _ _ _ _ _ _ HK.out).mono ?_; rintro e w2 ⟨rfl, hb2⟩; obtain ⟨hc2, hf2⟩ := bcell hb2; have HC : Hid (Below w.heap.size w w2) := ((Below.refl _ _).alloc (Nat.le_refl _) _).trans (hb2.mono (by simp)); have hz2 : w.heap.size < w2.heap.size := by have := hb2.size; simp at this; omega))
  cases c0 : (decide ((v.text.size : Int) ≤ 30))
  · first | (go_region_with (first
        | (go_at_call 290; refine (right_topic _ _).mono ?_; rintro e w3 ⟨he, hb3⟩; rw [c0] at he; subst he; have hc3 : ∀ b o, b < w2.heap.size → w3.cell? ⟨b, o, none⟩ = w2.cell? ⟨b, o, none⟩ := (bcell hb3).1; have hz3 : w.heap.size < w3.heap.size := Nat.lt_of_lt_of_le hz2 hb3.size)
        | (go_at_call 291; refine (tells_topic _ _).mono ?_; rintro e w4 ⟨rfl, hb4⟩; obtain ⟨hc4, hf4⟩ := bcell hb4; have hz4 : w.heap.size < w4.heap.size := Nat.lt_of_lt_of_le hz3 hb4.size)
        | (go_at_call 205; refine (details_impl _ _ _ _ _ _ _ _ _ _ _ _).mono ?_; rintro e w5 ⟨rfl, hb5⟩; obtain ⟨hc5, hf5⟩ := bcell hb5))) | fail
    all_goals go_wp2
    all_goals go_ret
    all_goals exact ⟨ret_bool (by rw [HB.out, of_topic c0]; simp), HC.out.trans (Below.drew (Below.refl _ _) |>.trans (hb3.mono (Nat.le_of_lt hz2)))⟩
  have heq : ∀ k1 n1 k2 n2 t1 t2 W, (Op.equalIn 10000 271 (.agg #[.int .i64 k1, .int .i64 n1, .string t1]) (.agg #[.int .i64 k2, .int .i64 n2, .string t2])).run Tryz.prog W = .ok (k1 == k2 && n1 == n2 && t1.toList == t2.toList) W := eqin_details
  first | (go_region_with (first
      | (go_at_call 290; refine (right_topic _ _).mono ?_; rintro e w3 ⟨he, hb3⟩; rw [c0] at he; subst he; have hc3 : ∀ b o, b < w2.heap.size → w3.cell? ⟨b, o, none⟩ = w2.cell? ⟨b, o, none⟩ := (bcell hb3).1; have hz3 : w.heap.size < w3.heap.size := Nat.lt_of_lt_of_le hz2 hb3.size)
      | (go_at_call 291; refine (tells_topic _ _).mono ?_; rintro e w4 ⟨rfl, hb4⟩; obtain ⟨hc4, hf4⟩ := bcell hb4; have hz4 : w.heap.size < w4.heap.size := Nat.lt_of_lt_of_le hz3 hb4.size)
      | (go_at_call 205; refine (details_impl _ _ _ _ _ _ _ _ _ _ _ _).mono ?_; rintro e w5 ⟨rfl, hb5⟩; obtain ⟨hc5, hf5⟩ := bcell hb5))) | fail
  all_goals go_wp2
  all_goals go_ret
  all_goals refine ⟨ret_bool ?_, HC.out.trans (Below.drew (Below.refl _ _) |>.trans ((hb3.mono (Nat.le_of_lt hz2)).trans ((hb4.mono (Nat.le_of_lt hz3)).trans (hb5.mono (Nat.le_of_lt hz4)))))⟩
  all_goals rw [HB.out, of_topic c0]
  all_goals rw [zero_eq v.key, zero_eq v.n, Bool.and_true]
set_option maxHeartbeats 2000000 in
theorem deed_right_door (v : Ev) (a : Option Addr) (cap : Nat) (w : World) (hk : v.kind = 5) (c1 : isB v.id 1 1000000 = true) (c2 : isB v.room 1 3 = true) (c3 : isB v.author 1 6 = true) (c4 : isB v.time 0 1000000 = true) :
    Calls Tryz.prog 176 #[.agg #[.int .i64 v.id, .int .i64 v.room, .int .i64 v.author, .int .i64 v.kind, .int .i64 v.key, .int .i64 v.n, .string v.text, .slice a v.prev.length cap, .int .i64 v.time]] w fun e w' => e = .returned (.bool (bodyB v)) ∧ Below w.heap.size w w' := by
  have HB : Hid (bodyB v = ((v.key == 0) && (isB v.n 1 2) && (v.text.size == 0))) := body_door v hk
  have HK : Hid (v.kind = 5) := hk
  clear hk
  have hm1 : ∀ W, (method 459 293 (.agg #[.int .i64 v.n]) "loop.example/g00683/impl.right").run Tryz.prog W = .ok (292, .agg #[.int .i64 v.n]) W := fun _ => by kernel_rfl
  have hm2 : ∀ W, (method 459 293 (.agg #[.int .i64 v.n]) "loop.example/g00683/impl.tells").run Tryz.prog W = .ok (293, .agg #[.int .i64 v.n]) W := fun _ => by kernel_rfl
  go_enter Tryz.func176, Tryz.ntmps176
  go_wp2_with (first
    | (go_at_call 150; refine (id_impl _ _).mono ?_; rintro e w' ⟨rfl, rfl⟩)
    | (go_at_call 108; refine (room_impl _ _).mono ?_; rintro e w' ⟨rfl, rfl⟩)
    | (go_at_call 203; refine (user_impl _ _).mono ?_; rintro e w' ⟨rfl, rfl⟩)
    | (go_at_call 204; refine (time_impl _ _).mono ?_; rintro e w' ⟨rfl, rfl⟩)
    | (go_at_call 200; refine (deed_door _ _ _ _ _ _ _ _ _ _ _ _ HK.out).mono ?_; rintro e w2 ⟨rfl, hb2⟩; obtain ⟨hc2, hf2⟩ := bcell hb2; have HC : Hid (Below w.heap.size w w2) := ((Below.refl _ _).alloc (Nat.le_refl _) _).trans (hb2.mono (by simp)); have hz2 : w.heap.size < w2.heap.size := by have := hb2.size; simp at this; omega))
  cases c0 : (isB v.n 1 2)
  · first | (go_region_with (first
        | (go_at_call 292; refine (right_door _ _).mono ?_; rintro e w3 ⟨he, hb3⟩; rw [c0] at he; subst he; have hc3 : ∀ b o, b < w2.heap.size → w3.cell? ⟨b, o, none⟩ = w2.cell? ⟨b, o, none⟩ := (bcell hb3).1; have hz3 : w.heap.size < w3.heap.size := Nat.lt_of_lt_of_le hz2 hb3.size)
        | (go_at_call 293; refine (tells_door _ _).mono ?_; rintro e w4 ⟨rfl, hb4⟩; obtain ⟨hc4, hf4⟩ := bcell hb4; have hz4 : w.heap.size < w4.heap.size := Nat.lt_of_lt_of_le hz3 hb4.size)
        | (go_at_call 205; refine (details_impl _ _ _ _ _ _ _ _ _ _ _ _).mono ?_; rintro e w5 ⟨rfl, hb5⟩; obtain ⟨hc5, hf5⟩ := bcell hb5))) | fail
    all_goals go_wp2
    all_goals go_ret
    all_goals exact ⟨ret_bool (by rw [HB.out, c0]; simp), HC.out.trans (Below.drew (Below.refl _ _) |>.trans (hb3.mono (Nat.le_of_lt hz2)))⟩
  have heq : ∀ k1 n1 k2 n2 t1 t2 W, (Op.equalIn 10000 271 (.agg #[.int .i64 k1, .int .i64 n1, .string t1]) (.agg #[.int .i64 k2, .int .i64 n2, .string t2])).run Tryz.prog W = .ok (k1 == k2 && n1 == n2 && t1.toList == t2.toList) W := eqin_details
  first | (go_region_with (first
      | (go_at_call 292; refine (right_door _ _).mono ?_; rintro e w3 ⟨he, hb3⟩; rw [c0] at he; subst he; have hc3 : ∀ b o, b < w2.heap.size → w3.cell? ⟨b, o, none⟩ = w2.cell? ⟨b, o, none⟩ := (bcell hb3).1; have hz3 : w.heap.size < w3.heap.size := Nat.lt_of_lt_of_le hz2 hb3.size)
      | (go_at_call 293; refine (tells_door _ _).mono ?_; rintro e w4 ⟨rfl, hb4⟩; obtain ⟨hc4, hf4⟩ := bcell hb4; have hz4 : w.heap.size < w4.heap.size := Nat.lt_of_lt_of_le hz3 hb4.size)
      | (go_at_call 205; refine (details_impl _ _ _ _ _ _ _ _ _ _ _ _).mono ?_; rintro e w5 ⟨rfl, hb5⟩; obtain ⟨hc5, hf5⟩ := bcell hb5))) | fail
  all_goals go_wp2
  all_goals go_ret
  all_goals refine ⟨ret_bool ?_, HC.out.trans (Below.drew (Below.refl _ _) |>.trans ((hb3.mono (Nat.le_of_lt hz2)).trans ((hb4.mono (Nat.le_of_lt hz3)).trans (hb5.mono (Nat.le_of_lt hz4)))))⟩
  all_goals rw [HB.out, c0]
  all_goals rw [zero_eq, empty_size, Bool.and_true]
set_option maxHeartbeats 2000000 in
theorem deed_right_sight (v : Ev) (a : Option Addr) (cap : Nat) (w : World) (hk : v.kind = 6) (c1 : isB v.id 1 1000000 = true) (c2 : isB v.room 1 3 = true) (c3 : isB v.author 1 6 = true) (c4 : isB v.time 0 1000000 = true) :
    Calls Tryz.prog 176 #[.agg #[.int .i64 v.id, .int .i64 v.room, .int .i64 v.author, .int .i64 v.kind, .int .i64 v.key, .int .i64 v.n, .string v.text, .slice a v.prev.length cap, .int .i64 v.time]] w fun e w' => e = .returned (.bool (bodyB v)) ∧ Below w.heap.size w w' := by
  have HB : Hid (bodyB v = ((v.key == 0) && (isB v.n 1 3) && (v.text.size == 0))) := body_sight v hk
  have HK : Hid (v.kind = 6) := hk
  clear hk
  have hm1 : ∀ W, (method 459 294 (.agg #[.int .i64 v.n]) "loop.example/g00683/impl.right").run Tryz.prog W = .ok (294, .agg #[.int .i64 v.n]) W := fun _ => by kernel_rfl
  have hm2 : ∀ W, (method 459 294 (.agg #[.int .i64 v.n]) "loop.example/g00683/impl.tells").run Tryz.prog W = .ok (295, .agg #[.int .i64 v.n]) W := fun _ => by kernel_rfl
  go_enter Tryz.func176, Tryz.ntmps176
  go_wp2_with (first
    | (go_at_call 150; refine (id_impl _ _).mono ?_; rintro e w' ⟨rfl, rfl⟩)
    | (go_at_call 108; refine (room_impl _ _).mono ?_; rintro e w' ⟨rfl, rfl⟩)
    | (go_at_call 203; refine (user_impl _ _).mono ?_; rintro e w' ⟨rfl, rfl⟩)
    | (go_at_call 204; refine (time_impl _ _).mono ?_; rintro e w' ⟨rfl, rfl⟩)
    | (go_at_call 200; refine (deed_sight _ _ _ _ _ _ _ _ _ _ _ _ HK.out).mono ?_; rintro e w2 ⟨rfl, hb2⟩; obtain ⟨hc2, hf2⟩ := bcell hb2; have HC : Hid (Below w.heap.size w w2) := ((Below.refl _ _).alloc (Nat.le_refl _) _).trans (hb2.mono (by simp)); have hz2 : w.heap.size < w2.heap.size := by have := hb2.size; simp at this; omega))
  cases c0 : (isB v.n 1 3)
  · first | (go_region_with (first
        | (go_at_call 294; refine (right_sight _ _).mono ?_; rintro e w3 ⟨he, hb3⟩; rw [c0] at he; subst he; have hc3 : ∀ b o, b < w2.heap.size → w3.cell? ⟨b, o, none⟩ = w2.cell? ⟨b, o, none⟩ := (bcell hb3).1; have hz3 : w.heap.size < w3.heap.size := Nat.lt_of_lt_of_le hz2 hb3.size)
        | (go_at_call 295; refine (tells_sight _ _).mono ?_; rintro e w4 ⟨rfl, hb4⟩; obtain ⟨hc4, hf4⟩ := bcell hb4; have hz4 : w.heap.size < w4.heap.size := Nat.lt_of_lt_of_le hz3 hb4.size)
        | (go_at_call 205; refine (details_impl _ _ _ _ _ _ _ _ _ _ _ _).mono ?_; rintro e w5 ⟨rfl, hb5⟩; obtain ⟨hc5, hf5⟩ := bcell hb5))) | fail
    all_goals go_wp2
    all_goals go_ret
    all_goals exact ⟨ret_bool (by rw [HB.out, c0]; simp), HC.out.trans (Below.drew (Below.refl _ _) |>.trans (hb3.mono (Nat.le_of_lt hz2)))⟩
  have heq : ∀ k1 n1 k2 n2 t1 t2 W, (Op.equalIn 10000 271 (.agg #[.int .i64 k1, .int .i64 n1, .string t1]) (.agg #[.int .i64 k2, .int .i64 n2, .string t2])).run Tryz.prog W = .ok (k1 == k2 && n1 == n2 && t1.toList == t2.toList) W := eqin_details
  first | (go_region_with (first
      | (go_at_call 294; refine (right_sight _ _).mono ?_; rintro e w3 ⟨he, hb3⟩; rw [c0] at he; subst he; have hc3 : ∀ b o, b < w2.heap.size → w3.cell? ⟨b, o, none⟩ = w2.cell? ⟨b, o, none⟩ := (bcell hb3).1; have hz3 : w.heap.size < w3.heap.size := Nat.lt_of_lt_of_le hz2 hb3.size)
      | (go_at_call 295; refine (tells_sight _ _).mono ?_; rintro e w4 ⟨rfl, hb4⟩; obtain ⟨hc4, hf4⟩ := bcell hb4; have hz4 : w.heap.size < w4.heap.size := Nat.lt_of_lt_of_le hz3 hb4.size)
      | (go_at_call 205; refine (details_impl _ _ _ _ _ _ _ _ _ _ _ _).mono ?_; rintro e w5 ⟨rfl, hb5⟩; obtain ⟨hc5, hf5⟩ := bcell hb5))) | fail
  all_goals go_wp2
  all_goals go_ret
  all_goals refine ⟨ret_bool ?_, HC.out.trans (Below.drew (Below.refl _ _) |>.trans ((hb3.mono (Nat.le_of_lt hz2)).trans ((hb4.mono (Nat.le_of_lt hz3)).trans (hb5.mono (Nat.le_of_lt hz4)))))⟩
  all_goals rw [HB.out, c0]
  all_goals rw [zero_eq, empty_size, Bool.and_true]
end Go.Proofs.YteajcmkaoahbeaaGreatDoor
namespace Go.Proofs.YteajcmkaoahbeaaGreatDoor
open Go.RowKit

theorem calls_bool {P : Program} {f : FuncId} {args : Array Value} {w : World} {a b : Bool} (e : a = b) (h : Calls P f args w fun e w' => e = .returned (.bool a) ∧ Below w.heap.size w w') :
    Calls P f args w fun e w' => e = .returned (.bool b) ∧ Below w.heap.size w w' := by rw [← e]; exact h
/-- What an event is to be but for its Prev. -/
def deedR (v : Ev) : Bool := isB v.id 1 1000000 && isB v.room 1 3 && isB v.author 1 6 && isB v.time 0 1000000 && bodyB v
theorem rightB_parts (v : Ev) : rightB v = (deedR v && prevB v) := by
  have h : rightB v = (isB v.id 1 1000000 && isB v.room 1 3 && isB v.author 1 6 && isB v.time 0 1000000 && prevB v && bodyB v) := rfl
  rw [h, deedR]
  cases isB v.id 1 1000000 <;> cases isB v.room 1 3 <;> cases isB v.author 1 6 <;> cases isB v.time 0 1000000 <;> cases prevB v <;> cases bodyB v <;> rfl
set_option maxHeartbeats 1000000 in
theorem deed_right_impl (v : Ev) (a : Option Addr) (cap : Nat) (w : World) :
    Calls Tryz.prog 176 #[.agg #[.int .i64 v.id, .int .i64 v.room, .int .i64 v.author, .int .i64 v.kind, .int .i64 v.key, .int .i64 v.n, .string v.text, .slice a v.prev.length cap, .int .i64 v.time]] w fun e w' => e = .returned (.bool (deedR v)) ∧ Below w.heap.size w w' := by
  have HE : Hid (deedR v = (isB v.id 1 1000000 && isB v.room 1 3 && isB v.author 1 6 && isB v.time 0 1000000 && bodyB v)) := rfl
  cases c1 : isB v.id 1 1000000
  · go_enter Tryz.func176, Tryz.ntmps176
    go_wp2_with fail
    refine (id_impl _ _).mono ?_
    rintro e w' ⟨rfl, rfl⟩
    go_wp2
    go_ret
    exact ⟨ret_bool (by rw [HE.out, c1]; simp), (Below.refl _ _).alloc (Nat.le_refl _) _⟩
  cases c2 : isB v.room 1 3
  · go_enter Tryz.func176, Tryz.ntmps176
    go_wp2_with (first
      | (go_at_call 150; refine (id_impl _ _).mono ?_; rintro e w' ⟨rfl, rfl⟩)
      | (go_at_call 108; refine (room_impl _ _).mono ?_; rintro e w' ⟨rfl, rfl⟩))
    go_ret
    exact ⟨ret_bool (by rw [HE.out, c2]; simp), (Below.refl _ _).alloc (Nat.le_refl _) _⟩
  cases c3 : isB v.author 1 6
  · go_enter Tryz.func176, Tryz.ntmps176
    go_wp2_with (first
      | (go_at_call 150; refine (id_impl _ _).mono ?_; rintro e w' ⟨rfl, rfl⟩)
      | (go_at_call 108; refine (room_impl _ _).mono ?_; rintro e w' ⟨rfl, rfl⟩)
      | (go_at_call 203; refine (user_impl _ _).mono ?_; rintro e w' ⟨rfl, rfl⟩))
    go_ret
    exact ⟨ret_bool (by rw [HE.out, c3]; simp), (Below.refl _ _).alloc (Nat.le_refl _) _⟩
  cases c4 : isB v.time 0 1000000
  · go_enter Tryz.func176, Tryz.ntmps176
    go_wp2_with (first
      | (go_at_call 150; refine (id_impl _ _).mono ?_; rintro e w' ⟨rfl, rfl⟩)
      | (go_at_call 108; refine (room_impl _ _).mono ?_; rintro e w' ⟨rfl, rfl⟩)
      | (go_at_call 203; refine (user_impl _ _).mono ?_; rintro e w' ⟨rfl, rfl⟩)
      | (go_at_call 204; refine (time_impl _ _).mono ?_; rintro e w' ⟨rfl, rfl⟩))
    go_ret
    exact ⟨ret_bool (by rw [HE.out, c4]; simp), (Below.refl _ _).alloc (Nat.le_refl _) _⟩
  have e : bodyB v = deedR v := by rw [HE.out, c1, c2, c3, c4]; simp
  refine calls_bool e ?_
  by_cases h1 : v.kind = 1
  · exact deed_right_creation v a cap w h1 c1 c2 c3 c4
  by_cases h2 : v.kind = 2
  · exact deed_right_coming v a cap w h2 c1 c2 c3 c4
  by_cases h3 : v.kind = 3
  · exact deed_right_might v a cap w h3 c1 c2 c3 c4
  by_cases h4 : v.kind = 4
  · exact deed_right_topic v a cap w h4 c1 c2 c3 c4
  by_cases h5 : v.kind = 5
  · exact deed_right_door v a cap w h5 c1 c2 c3 c4
  by_cases h6 : v.kind = 6
  · exact deed_right_sight v a cap w h6 c1 c2 c3 c4
  by_cases h7 : v.kind = 7
  · exact deed_right_saying v a cap w h7 c1 c2 c3 c4
  by_cases h8 : v.kind = 8
  · exact deed_right_hiding v a cap w h8 c1 c2 c3 c4
  exact deed_right_unknown v a cap w (by simpa using h1) (by simpa using h2) (by simpa using h3) (by simpa using h4) (by simpa using h5) (by simpa using h6) (by simpa using h7) (by simpa using h8) c1 c2 c3 c4
set_option maxHeartbeats 1000000 in
theorem right_impl (v : Ev) (a : Option Addr) (cap : Nat) (w : World) (hn : NumsAt w a v.prev) :
    Calls Tryz.prog 146 #[.agg #[.int .i64 v.id, .int .i64 v.room, .int .i64 v.author, .int .i64 v.kind, .int .i64 v.key, .int .i64 v.n, .string v.text, .slice a v.prev.length cap, .int .i64 v.time]] w fun e w' => e = .returned (.bool (rightB v)) ∧ Below w.heap.size w w' := by
  have HN : Hid (∀ o, NumsAt (w.alloc o) a v.prev) := fun o => hn.kept ((Below.refl _ _).alloc (Nat.le_refl _) _)
  have HE : Hid (rightB v = (deedR v && prevB v)) := rightB_parts v
  clear hn
  cases c1 : deedR v
  · go_enter Tryz.func146, Tryz.ntmps146
    go_wp2_with fail
    refine (deed_right_impl v a cap _).mono ?_
    rintro e w1 ⟨rfl, hb1⟩
    rw [c1]
    go_wp2
    go_ret
    exact ⟨ret_bool (by rw [HE.out, c1]; simp), ((Below.refl _ _).alloc (Nat.le_refl _) _).trans (hb1.mono (by simp))⟩
  go_enter Tryz.func146, Tryz.ntmps146
  go_wp2_with fail
  refine (deed_right_impl v a cap _).mono ?_
  rintro e w1 ⟨rfl, hb1⟩
  have HB1 : Hid (Below w.heap.size w w1) := ((Below.refl _ _).alloc (Nat.le_refl _) _).trans (hb1.mono (by simp))
  have hz1 : w.heap.size < w1.heap.size := by have := hb1.size; simp at this; omega
  obtain ⟨hc1, hf1⟩ := bcell hb1
  have HN1 : Hid (NumsAt w1 a v.prev) := (HN.out _).kept hb1
  clear hb1
  rw [c1]
  go_wp2_with fail
  refine (prev_impl v a cap _ HN1.out).mono ?_
  rintro e w2 ⟨rfl, hb2⟩
  go_wp2
  go_ret
  exact ⟨ret_bool (by rw [HE.out, c1]; simp), HB1.out.trans (hb2.mono (Nat.le_of_lt hz1))⟩
end Go.Proofs.YteajcmkaoahbeaaGreatDoor
