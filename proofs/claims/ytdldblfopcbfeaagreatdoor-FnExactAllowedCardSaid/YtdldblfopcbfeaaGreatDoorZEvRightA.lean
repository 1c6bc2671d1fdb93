/- The program's EventRight, kind by kind. -/
import Derived.Test.YtdldblfopcbfeaaGreatDoorZEvRight0
namespace Go.Proofs.YtdldblfopcbfeaaGreatDoor
open Go.RowKit

set_option maxHeartbeats 2000000 in
theorem deed_right_creation (v : Ev) (a : Option Addr) (cap : Nat) (w : World) (hk : v.kind = 1) (c1 : isB v.id 1 1000000 = true) (c2 : isB v.room 1 3 = true) (c3 : isB v.author 1 6 = true) (c4 : isB v.time 0 1000000 = true) :
    Calls Tryz.prog 51 #[.agg #[.int .i64 v.id, .int .i64 v.room, .int .i64 v.author, .int .i64 v.kind, .int .i64 v.key, .int .i64 v.n, .string v.text, .slice a v.prev.length cap, .int .i64 v.time]] w fun e w' => e = .returned (.bool (bodyB v)) ∧ Below w.heap.size w w' := by
  have HB : Hid (bodyB v = ((v.key == 0) && (v.n == 0) && (v.text.size == 0))) := body_creation v hk
  have HK : Hid (v.kind = 1) := hk
  clear hk
  have hm1 : ∀ W, (method 325 135 (.agg #[]) "loop.example/g00683/impl.right").run Tryz.prog W = .ok (144, .agg #[]) W := fun _ => by kernel_rfl
  have hm2 : ∀ W, (method 325 135 (.agg #[]) "loop.example/g00683/impl.tells").run Tryz.prog W = .ok (145, .agg #[]) W := fun _ => by kernel_rfl
  go_enter Tryz.func51, Tryz.ntmps51
  go_wp2_with (first
    | (go_at_call 66; refine (id_impl _ _).mono ?_; rintro e w' ⟨rfl, rfl⟩)
    | (go_at_call 58; refine (room_impl _ _).mono ?_; rintro e w' ⟨rfl, rfl⟩)
    | (go_at_call 67; refine (user_impl _ _).mono ?_; rintro e w' ⟨rfl, rfl⟩)
    | (go_at_call 68; refine (time_impl _ _).mono ?_; rintro e w' ⟨rfl, rfl⟩)
    | (go_at_call 69; refine (deed_creation _ _ _ _ _ _ _ _ _ _ _ _ HK.out).mono ?_; rintro e w2 ⟨rfl, hb2⟩; obtain ⟨hc2, hf2⟩ := bcell hb2; have HC : Hid (Below w.heap.size w w2) := ((Below.refl _ _).alloc (Nat.le_refl _) _).trans (hb2.mono (by simp)); have hz2 : w.heap.size < w2.heap.size := by have := hb2.size; simp at this; omega))
  have heq : ∀ k1 n1 k2 n2 t1 t2 W, (Op.equalIn 10000 123 (.agg #[.int .i64 k1, .int .i64 n1, .string t1]) (.agg #[.int .i64 k2, .int .i64 n2, .string t2])).run Tryz.prog W = .ok (k1 == k2 && n1 == n2 && t1.toList == t2.toList) W := eqin_details
  first | (go_region_with (first
      | (go_at_call 144; refine (right_creation _).mono ?_; rintro e w3 ⟨he, hb3⟩; subst he; have hc3 : ∀ b o, b < w2.heap.size → w3.cell? ⟨b, o, none⟩ = w2.cell? ⟨b, o, none⟩ := (bcell hb3).1; have hz3 : w.heap.size < w3.heap.size := Nat.lt_of_lt_of_le hz2 hb3.size)
      | (go_at_call 145; refine (tells_creation _).mono ?_; rintro e w4 ⟨rfl, hb4⟩; obtain ⟨hc4, hf4⟩ := bcell hb4; have hz4 : w.heap.size < w4.heap.size := Nat.lt_of_lt_of_le hz3 hb4.size)
      | (go_at_call 70; refine (details_impl _ _ _ _ _ _ _ _ _ _ _ _).mono ?_; rintro e w5 ⟨rfl, hb5⟩; obtain ⟨hc5, hf5⟩ := bcell hb5))) | fail
  all_goals go_wp2
  all_goals go_ret
  all_goals refine ⟨ret_bool ?_, HC.out.trans (Below.drew (Below.refl _ _) |>.trans ((hb3.mono (Nat.le_of_lt hz2)).trans ((hb4.mono (Nat.le_of_lt hz3)).trans (hb5.mono (Nat.le_of_lt hz4)))))⟩
  all_goals rw [HB.out]
  all_goals rw [zero_eq, zero_eq, empty_size]
set_option maxHeartbeats 2000000 in
theorem deed_right_coming (v : Ev) (a : Option Addr) (cap : Nat) (w : World) (hk : v.kind = 2) (c1 : isB v.id 1 1000000 = true) (c2 : isB v.room 1 3 = true) (c3 : isB v.author 1 6 = true) (c4 : isB v.time 0 1000000 = true) :
    Calls Tryz.prog 51 #[.agg #[.int .i64 v.id, .int .i64 v.room, .int .i64 v.author, .int .i64 v.kind, .int .i64 v.key, .int .i64 v.n, .string v.text, .slice a v.prev.length cap, .int .i64 v.time]] w fun e w' => e = .returned (.bool (bodyB v)) ∧ Below w.heap.size w w' := by
  have HB : Hid (bodyB v = ((isB v.key 1 6) && (isB v.n 1 4) && (v.text.size == 0))) := body_coming v hk
  have HK : Hid (v.kind = 2) := hk
  clear hk
  have hm1 : ∀ W, (method 325 137 (.agg #[.int .i64 v.key, .int .i64 v.n]) "loop.example/g00683/impl.right").run Tryz.prog W = .ok (146, .agg #[.int .i64 v.key, .int .i64 v.n]) W := fun _ => by kernel_rfl
  have hm2 : ∀ W, (method 325 137 (.agg #[.int .i64 v.key, .int .i64 v.n]) "loop.example/g00683/impl.tells").run Tryz.prog W = .ok (147, .agg #[.int .i64 v.key, .int .i64 v.n]) W := fun _ => by kernel_rfl
  go_enter Tryz.func51, Tryz.ntmps51
  go_wp2_with (first
    | (go_at_call 66; refine (id_impl _ _).mono ?_; rintro e w' ⟨rfl, rfl⟩)
    | (go_at_call 58; refine (room_impl _ _).mono ?_; rintro e w' ⟨rfl, rfl⟩)
    | (go_at_call 67; refine (user_impl _ _).mono ?_; rintro e w' ⟨rfl, rfl⟩)
    | (go_at_call 68; refine (time_impl _ _).mono ?_; rintro e w' ⟨rfl, rfl⟩)
    | (go_at_call 69; refine (deed_coming _ _ _ _ _ _ _ _ _ _ _ _ HK.out).mono ?_; rintro e w2 ⟨rfl, hb2⟩; obtain ⟨hc2, hf2⟩ := bcell hb2; have HC : Hid (Below w.heap.size w w2) := ((Below.refl _ _).alloc (Nat.le_refl _) _).trans (hb2.mono (by simp)); have hz2 : w.heap.size < w2.heap.size := by have := hb2.size; simp at this; omega))
  cases c0 : (isB v.key 1 6 && isB v.n 1 4)
  · first | (go_region_with (first
        | (go_at_call 146; refine (right_coming _ _ _).mono ?_; rintro e w3 ⟨he, hb3⟩; rw [c0] at he; subst he; have hc3 : ∀ b o, b < w2.heap.size → w3.cell? ⟨b, o, none⟩ = w2.cell? ⟨b, o, none⟩ := (bcell hb3).1; have hz3 : w.heap.size < w3.heap.size := Nat.lt_of_lt_of_le hz2 hb3.size)
        | (go_at_call 147; refine (tells_coming _ _ _).mono ?_; rintro e w4 ⟨rfl, hb4⟩; obtain ⟨hc4, hf4⟩ := bcell hb4; have hz4 : w.heap.size < w4.heap.size := Nat.lt_of_lt_of_le hz3 hb4.size)
        | (go_at_call 70; refine (details_impl _ _ _ _ _ _ _ _ _ _ _ _).mono ?_; rintro e w5 ⟨rfl, hb5⟩; obtain ⟨hc5, hf5⟩ := bcell hb5))) | fail
    all_goals go_wp2
    all_goals go_ret
    all_goals exact ⟨ret_bool (by rw [HB.out, c0]; simp), HC.out.trans (Below.drew (Below.refl _ _) |>.trans (hb3.mono (Nat.le_of_lt hz2)))⟩
  have heq : ∀ k1 n1 k2 n2 t1 t2 W, (Op.equalIn 10000 123 (.agg #[.int .i64 k1, .int .i64 n1, .string t1]) (.agg #[.int .i64 k2, .int .i64 n2, .string t2])).run Tryz.prog W = .ok (k1 == k2 && n1 == n2 && t1.toList == t2.toList) W := eqin_details
  first | (go_region_with (first
      | (go_at_call 146; refine (right_coming _ _ _).mono ?_; rintro e w3 ⟨he, hb3⟩; rw [c0] at he; subst he; have hc3 : ∀ b o, b < w2.heap.size → w3.cell? ⟨b, o, none⟩ = w2.cell? ⟨b, o, none⟩ := (bcell hb3).1; have hz3 : w.heap.size < w3.heap.size := Nat.lt_of_lt_of_le hz2 hb3.size)
      | (go_at_call 147; refine (tells_coming _ _ _).mono ?_; rintro e w4 ⟨rfl, hb4⟩; obtain ⟨hc4, hf4⟩ := bcell hb4; have hz4 : w.heap.size < w4.heap.size := Nat.lt_of_lt_of_le hz3 hb4.size)
      | (go_at_call 70; refine (details_impl _ _ _ _ _ _ _ _ _ _ _ _).mono ?_; rintro e w5 ⟨rfl, hb5⟩; obtain ⟨hc5, hf5⟩ := bcell hb5))) | fail
  all_goals go_wp2
  all_goals go_ret
  all_goals refine ⟨ret_bool ?_, HC.out.trans (Below.drew (Below.refl _ _) |>.trans ((hb3.mono (Nat.le_of_lt hz2)).trans ((hb4.mono (Nat.le_of_lt hz3)).trans (hb5.mono (Nat.le_of_lt hz4)))))⟩
  all_goals rw [HB.out, c0]
  all_goals rw [empty_size, Bool.true_and]
set_option maxHeartbeats 2000000 in
theorem deed_right_might (v : Ev) (a : Option Addr) (cap : Nat) (w : World) (hk : v.kind = 3) (c1 : isB v.id 1 1000000 = true) (c2 : isB v.room 1 3 = true) (c3 : isB v.author 1 6 = true) (c4 : isB v.time 0 1000000 = true) :
    Calls Tryz.prog 51 #[.agg #[.int .i64 v.id, .int .i64 v.room, .int .i64 v.author, .int .i64 v.kind, .int .i64 v.key, .int .i64 v.n, .string v.text, .slice a v.prev.length cap, .int .i64 v.time]] w fun e w' => e = .returned (.bool (bodyB v)) ∧ Below w.heap.size w w' := by
  have HB : Hid (bodyB v = ((isB v.key 1 6) && (isB v.n 0 100) && (v.text.size == 0))) := body_might v hk
  have HK : Hid (v.kind = 3) := hk
  clear hk
  have hm1 : ∀ W, (method 325 139 (.agg #[.int .i64 v.key, .int .i64 v.n]) "loop.example/g00683/impl.right").run Tryz.prog W = .ok (148, .agg #[.int .i64 v.key, .int .i64 v.n]) W := fun _ => by kernel_rfl
  have hm2 : ∀ W, (method 325 139 (.agg #[.int .i64 v.key, .int .i64 v.n]) "loop.example/g00683/impl.tells").run Tryz.prog W = .ok (149, .agg #[.int .i64 v.key, .int .i64 v.n]) W := fun _ => by kernel_rfl
  go_enter Tryz.func51, Tryz.ntmps51
  go_wp2_with (first
    | (go_at_call 66; refine (id_impl _ _).mono ?_; rintro e w' ⟨rfl, rfl⟩)
    | (go_at_call 58; refine (room_impl _ _).mono ?_; rintro e w' ⟨rfl, rfl⟩)
    | (go_at_call 67; refine (user_impl _ _).mono ?_; rintro e w' ⟨rfl, rfl⟩)
    | (go_at_call 68; refine (time_impl _ _).mono ?_; rintro e w' ⟨rfl, rfl⟩)
    | (go_at_call 69; refine (deed_might _ _ _ _ _ _ _ _ _ _ _ _ HK.out).mono ?_; rintro e w2 ⟨rfl, hb2⟩; obtain ⟨hc2, hf2⟩ := bcell hb2; have HC : Hid (Below w.heap.size w w2) := ((Below.refl _ _).alloc (Nat.le_refl _) _).trans (hb2.mono (by simp)); have hz2 : w.heap.size < w2.heap.size := by have := hb2.size; simp at this; omega))
  cases c0 : (isB v.key 1 6 && isB v.n 0 100)
  · first | (go_region_with (first
        | (go_at_call 148; refine (right_might _ _ _).mono ?_; rintro e w3 ⟨he, hb3⟩; rw [c0] at he; subst he; have hc3 : ∀ b o, b < w2.heap.size → w3.cell? ⟨b, o, none⟩ = w2.cell? ⟨b, o, none⟩ := (bcell hb3).1; have hz3 : w.heap.size < w3.heap.size := Nat.lt_of_lt_of_le hz2 hb3.size)
        | (go_at_call 149; refine (tells_might _ _ _).mono ?_; rintro e w4 ⟨rfl, hb4⟩; obtain ⟨hc4, hf4⟩ := bcell hb4; have hz4 : w.heap.size < w4.heap.size := Nat.lt_of_lt_of_le hz3 hb4.size)
        | (go_at_call 70; refine (details_impl _ _ _ _ _ _ _ _ _ _ _ _).mono ?_; rintro e w5 ⟨rfl, hb5⟩; obtain ⟨hc5, hf5⟩ := bcell hb5))) | fail
    all_goals go_wp2
    all_goals go_ret
    all_goals exact ⟨ret_bool (by rw [HB.out, c0]; simp), HC.out.trans (Below.drew (Below.refl _ _) |>.trans (hb3.mono (Nat.le_of_lt hz2)))⟩
  have heq : ∀ k1 n1 k2 n2 t1 t2 W, (Op.equalIn 10000 123 (.agg #[.int .i64 k1, .int .i64 n1, .string t1]) (.agg #[.int .i64 k2, .int .i64 n2, .string t2])).run Tryz.prog W = .ok (k1 == k2 && n1 == n2 && t1.toList == t2.toList) W := eqin_details
  first | (go_region_with (first
      | (go_at_call 148; refine (right_might _ _ _).mono ?_; rintro e w3 ⟨he, hb3⟩; rw [c0] at he; subst he; have hc3 : ∀ b o, b < w2.heap.size → w3.cell? ⟨b, o, none⟩ = w2.cell? ⟨b, o, none⟩ := (bcell hb3).1; have hz3 : w.heap.size < w3.heap.size := Nat.lt_of_lt_of_le hz2 hb3.size)
      | (go_at_call 149; refine (tells_might _ _ _).mono ?_; rintro e w4 ⟨rfl, hb4⟩; obtain ⟨hc4, hf4⟩ := bcell hb4; have hz4 : w.heap.size < w4.heap.size := Nat.lt_of_lt_of_le hz3 hb4.size)
      | (go_at_call 70; refine (details_impl _ _ _ _ _ _ _ _ _ _ _ _).mono ?_; rintro e w5 ⟨rfl, hb5⟩; obtain ⟨hc5, hf5⟩ := bcell hb5))) | fail
  all_goals go_wp2
  all_goals go_ret
  all_goals refine ⟨ret_bool ?_, HC.out.trans (Below.drew (Below.refl _ _) |>.trans ((hb3.mono (Nat.le_of_lt hz2)).trans ((hb4.mono (Nat.le_of_lt hz3)).trans (hb5.mono (Nat.le_of_lt hz4)))))⟩
  all_goals rw [HB.out, c0]
  all_goals rw [empty_size, Bool.true_and]
end Go.Proofs.YtdldblfopcbfeaaGreatDoor
