/- The deeds behind their interface: which one an event does, whether it may be so, and what it tells. -/
import Derived.Test.YtdldblfopcbfeaaGreatDoorZEvOpen
import Derived.WalkSmall
import Derived.Lib.Strings
namespace Go.Proofs.YtdldblfopcbfeaaGreatDoor
open Go.RowKit

set_option maxHeartbeats 400000 in
theorem right_creation (w : World) : Calls Tryz.prog 144 #[.agg #[]] w fun e w' => e = .returned (.bool (true)) ∧ Below w.heap.size w w' := by
  go_enter Tryz.func144, Tryz.ntmps144
  go_wp2_with (first | (go_at_call 67; refine (user_impl _ _).mono ?_; rintro e w' ⟨rfl, rfl⟩) | (go_at_call 82; refine (between_impl _ _ _ _).mono ?_; rintro e w' ⟨rfl, rfl⟩) | (go_at_call 66; refine (id_impl _ _).mono ?_; rintro e w' ⟨rfl, rfl⟩))
  go_ret
  exact ⟨rfl, (Below.refl _ _).alloc (Nat.le_refl _) _⟩
set_option maxHeartbeats 400000 in
theorem tells_creation (w : World) : Calls Tryz.prog 145 #[.agg #[]] w fun e w' => e = .returned (.agg #[.int .i64 0, .int .i64 0, .string ⟨#[]⟩]) ∧ Below w.heap.size w w' := by
  go_enter Tryz.func145, Tryz.ntmps145
  go_wp2
  exact bodyPost_ret (v := .agg #[.int .i64 0, .int .i64 0, .string ⟨#[]⟩]) (by simp [results, Tryz.results145, go_sem]) rfl ⟨rfl, by (repeat' (first | exact Below.refl _ _ | refine Below.drew ?_ | refine Below.alloc ?_ ?_ _ | refine Below.setCell ?_ ?_ _)) <;> simp⟩
set_option maxHeartbeats 400000 in
theorem right_coming (key : Int) (n : Int) (w : World) : Calls Tryz.prog 146 #[.agg #[.int .i64 key, .int .i64 n]] w fun e w' => e = .returned (.bool (isB key 1 6 && isB n 1 4)) ∧ Below w.heap.size w w' := by
  cases c0 : isB key 1 6
  all_goals
    go_enter Tryz.func146, Tryz.ntmps146
    go_wp2_with (first | (go_at_call 67; refine (user_impl _ _).mono ?_; rintro e w' ⟨rfl, rfl⟩) | (go_at_call 82; refine (between_impl _ _ _ _).mono ?_; rintro e w' ⟨rfl, rfl⟩) | (go_at_call 66; refine (id_impl _ _).mono ?_; rintro e w' ⟨rfl, rfl⟩))
    go_ret
    exact ⟨ret_bool (by simp), (Below.refl _ _).alloc (Nat.le_refl _) _⟩
set_option maxHeartbeats 400000 in
theorem tells_coming (key : Int) (n : Int) (w : World) : Calls Tryz.prog 147 #[.agg #[.int .i64 key, .int .i64 n]] w fun e w' => e = .returned (.agg #[.int .i64 key, .int .i64 n, .string ⟨#[]⟩]) ∧ Below w.heap.size w w' := by
  go_enter Tryz.func147, Tryz.ntmps147
  go_wp2
  exact bodyPost_ret (v := .agg #[.int .i64 key, .int .i64 n, .string ⟨#[]⟩]) (by simp [results, Tryz.results147, go_sem]) rfl ⟨rfl, by (repeat' (first | exact Below.refl _ _ | refine Below.drew ?_ | refine Below.alloc ?_ ?_ _ | refine Below.setCell ?_ ?_ _)) <;> simp⟩
set_option maxHeartbeats 400000 in
theorem right_might (key : Int) (n : Int) (w : World) : Calls Tryz.prog 148 #[.agg #[.int .i64 key, .int .i64 n]] w fun e w' => e = .returned (.bool (isB key 1 6 && isB n 0 100)) ∧ Below w.heap.size w w' := by
  cases c0 : isB key 1 6
  all_goals
    go_enter Tryz.func148, Tryz.ntmps148
    go_wp2_with (first | (go_at_call 67; refine (user_impl _ _).mono ?_; rintro e w' ⟨rfl, rfl⟩) | (go_at_call 82; refine (between_impl _ _ _ _).mono ?_; rintro e w' ⟨rfl, rfl⟩) | (go_at_call 66; refine (id_impl _ _).mono ?_; rintro e w' ⟨rfl, rfl⟩))
    go_ret
    exact ⟨ret_bool (by simp), (Below.refl _ _).alloc (Nat.le_refl _) _⟩
set_option maxHeartbeats 400000 in
theorem tells_might (key : Int) (n : Int) (w : World) : Calls Tryz.prog 149 #[.agg #[.int .i64 key, .int .i64 n]] w fun e w' => e = .returned (.agg #[.int .i64 key, .int .i64 n, .string ⟨#[]⟩]) ∧ Below w.heap.size w w' := by
  go_enter Tryz.func149, Tryz.ntmps149
  go_wp2
  exact bodyPost_ret (v := .agg #[.int .i64 key, .int .i64 n, .string ⟨#[]⟩]) (by simp [results, Tryz.results149, go_sem]) rfl ⟨rfl, by (repeat' (first | exact Below.refl _ _ | refine Below.drew ?_ | refine Below.alloc ?_ ?_ _ | refine Below.setCell ?_ ?_ _)) <;> simp⟩
set_option maxHeartbeats 400000 in
theorem right_topic (text : ByteArray) (w : World) : Calls Tryz.prog 150 #[.agg #[.string text]] w fun e w' => e = .returned (.bool (decide ((text.size : Int) ≤ 30))) ∧ Below w.heap.size w w' := by
  go_enter Tryz.func150, Tryz.ntmps150
  go_wp2_with (first | (go_at_call 67; refine (user_impl _ _).mono ?_; rintro e w' ⟨rfl, rfl⟩) | (go_at_call 82; refine (between_impl _ _ _ _).mono ?_; rintro e w' ⟨rfl, rfl⟩) | (go_at_call 66; refine (id_impl _ _).mono ?_; rintro e w' ⟨rfl, rfl⟩))
  go_ret
  exact ⟨rfl, (Below.refl _ _).alloc (Nat.le_refl _) _⟩
set_option maxHeartbeats 400000 in
theorem tells_topic (text : ByteArray) (w : World) : Calls Tryz.prog 151 #[.agg #[.string text]] w fun e w' => e = .returned (.agg #[.int .i64 0, .int .i64 0, .string text]) ∧ Below w.heap.size w w' := by
  go_enter Tryz.func151, Tryz.ntmps151
  go_wp2
  exact bodyPost_ret (v := .agg #[.int .i64 0, .int .i64 0, .string text]) (by simp [results, Tryz.results151, go_sem]) rfl ⟨rfl, by (repeat' (first | exact Below.refl _ _ | refine Below.drew ?_ | refine Below.alloc ?_ ?_ _ | refine Below.setCell ?_ ?_ _)) <;> simp⟩
set_option maxHeartbeats 400000 in
theorem right_door (n : Int) (w : World) : Calls Tryz.prog 152 #[.agg #[.int .i64 n]] w fun e w' => e = .returned (.bool (isB n 1 2)) ∧ Below w.heap.size w w' := by
  go_enter Tryz.func152, Tryz.ntmps152
  go_wp2_with (first | (go_at_call 67; refine (user_impl _ _).mono ?_; rintro e w' ⟨rfl, rfl⟩) | (go_at_call 82; refine (between_impl _ _ _ _).mono ?_; rintro e w' ⟨rfl, rfl⟩) | (go_at_call 66; refine (id_impl _ _).mono ?_; rintro e w' ⟨rfl, rfl⟩))
  go_ret
  exact ⟨rfl, (Below.refl _ _).alloc (Nat.le_refl _) _⟩
set_option maxHeartbeats 400000 in
theorem tells_door (n : Int) (w : World) : Calls Tryz.prog 153 #[.agg #[.int .i64 n]] w fun e w' => e = .returned (.agg #[.int .i64 0, .int .i64 n, .string ⟨#[]⟩]) ∧ Below w.heap.size w w' := by
  go_enter Tryz.func153, Tryz.ntmps153
  go_wp2
  exact bodyPost_ret (v := .agg #[.int .i64 0, .int .i64 n, .string ⟨#[]⟩]) (by simp [results, Tryz.results153, go_sem]) rfl ⟨rfl, by (repeat' (first | exact Below.refl _ _ | refine Below.drew ?_ | refine Below.alloc ?_ ?_ _ | refine Below.setCell ?_ ?_ _)) <;> simp⟩
set_option maxHeartbeats 400000 in
theorem right_sight (n : Int) (w : World) : Calls Tryz.prog 154 #[.agg #[.int .i64 n]] w fun e w' => e = .returned (.bool (isB n 1 3)) ∧ Below w.heap.size w w' := by
  go_enter Tryz.func154, Tryz.ntmps154
  go_wp2_with (first | (go_at_call 67; refine (user_impl _ _).mono ?_; rintro e w' ⟨rfl, rfl⟩) | (go_at_call 82; refine (between_impl _ _ _ _).mono ?_; rintro e w' ⟨rfl, rfl⟩) | (go_at_call 66; refine (id_impl _ _).mono ?_; rintro e w' ⟨rfl, rfl⟩))
  go_ret
  exact ⟨rfl, (Below.refl _ _).alloc (Nat.le_refl _) _⟩
set_option maxHeartbeats 400000 in
theorem tells_sight (n : Int) (w : World) : Calls Tryz.prog 155 #[.agg #[.int .i64 n]] w fun e w' => e = .returned (.agg #[.int .i64 0, .int .i64 n, .string ⟨#[]⟩]) ∧ Below w.heap.size w w' := by
  go_enter Tryz.func155, Tryz.ntmps155
  go_wp2
  exact bodyPost_ret (v := .agg #[.int .i64 0, .int .i64 n, .string ⟨#[]⟩]) (by simp [results, Tryz.results155, go_sem]) rfl ⟨rfl, by (repeat' (first | exact Below.refl _ _ | refine Below.drew ?_ | refine Below.alloc ?_ ?_ _ | refine Below.setCell ?_ ?_ _)) <;> simp⟩
set_option maxHeartbeats 400000 in
theorem right_saying (text : ByteArray) (w : World) : Calls Tryz.prog 156 #[.agg #[.string text]] w fun e w' => e = .returned (.bool ((!text.toList.isEmpty) && decide ((text.size : Int) ≤ 30))) ∧ Below w.heap.size w w' := by
  cases c0 : text.toList.isEmpty
  all_goals
    go_enter Tryz.func156, Tryz.ntmps156
    go_wp2_with (first | (go_at_call 67; refine (user_impl _ _).mono ?_; rintro e w' ⟨rfl, rfl⟩) | (go_at_call 82; refine (between_impl _ _ _ _).mono ?_; rintro e w' ⟨rfl, rfl⟩) | (go_at_call 66; refine (id_impl _ _).mono ?_; rintro e w' ⟨rfl, rfl⟩))
    go_ret
    exact ⟨ret_bool (by simp), (Below.refl _ _).alloc (Nat.le_refl _) _⟩
set_option maxHeartbeats 400000 in
theorem tells_saying (text : ByteArray) (w : World) : Calls Tryz.prog 157 #[.agg #[.string text]] w fun e w' => e = .returned (.agg #[.int .i64 0, .int .i64 0, .string text]) ∧ Below w.heap.size w w' := by
  go_enter Tryz.func157, Tryz.ntmps157
  go_wp2
  exact bodyPost_ret (v := .agg #[.int .i64 0, .int .i64 0, .string text]) (by simp [results, Tryz.results157, go_sem]) rfl ⟨rfl, by (repeat' (first | exact Below.refl _ _ | refine Below.drew ?_ | refine Below.alloc ?_ ?_ _ | refine Below.setCell ?_ ?_ _)) <;> simp⟩
set_option maxHeartbeats 400000 in
theorem right_hiding (key : Int) (w : World) : Calls Tryz.prog 158 #[.agg #[.int .i64 key]] w fun e w' => e = .returned (.bool (isB key 1 1000000)) ∧ Below w.heap.size w w' := by
  go_enter Tryz.func158, Tryz.ntmps158
  go_wp2_with (first | (go_at_call 67; refine (user_impl _ _).mono ?_; rintro e w' ⟨rfl, rfl⟩) | (go_at_call 82; refine (between_impl _ _ _ _).mono ?_; rintro e w' ⟨rfl, rfl⟩) | (go_at_call 66; refine (id_impl _ _).mono ?_; rintro e w' ⟨rfl, rfl⟩))
  go_ret
  exact ⟨rfl, (Below.refl _ _).alloc (Nat.le_refl _) _⟩
set_option maxHeartbeats 400000 in
theorem tells_hiding (key : Int) (w : World) : Calls Tryz.prog 159 #[.agg #[.int .i64 key]] w fun e w' => e = .returned (.agg #[.int .i64 key, .int .i64 0, .string ⟨#[]⟩]) ∧ Below w.heap.size w w' := by
  go_enter Tryz.func159, Tryz.ntmps159
  go_wp2
  exact bodyPost_ret (v := .agg #[.int .i64 key, .int .i64 0, .string ⟨#[]⟩]) (by simp [results, Tryz.results159, go_sem]) rfl ⟨rfl, by (repeat' (first | exact Below.refl _ _ | refine Below.drew ?_ | refine Below.alloc ?_ ?_ _ | refine Below.setCell ?_ ?_ _)) <;> simp⟩
set_option maxHeartbeats 400000 in
theorem right_unknown (w : World) : Calls Tryz.prog 160 #[.agg #[]] w fun e w' => e = .returned (.bool (false)) ∧ Below w.heap.size w w' := by
  go_enter Tryz.func160, Tryz.ntmps160
  go_wp2_with (first | (go_at_call 67; refine (user_impl _ _).mono ?_; rintro e w' ⟨rfl, rfl⟩) | (go_at_call 82; refine (between_impl _ _ _ _).mono ?_; rintro e w' ⟨rfl, rfl⟩) | (go_at_call 66; refine (id_impl _ _).mono ?_; rintro e w' ⟨rfl, rfl⟩))
  go_ret
  exact ⟨rfl, (Below.refl _ _).alloc (Nat.le_refl _) _⟩
set_option maxHeartbeats 400000 in
theorem tells_unknown (w : World) : Calls Tryz.prog 161 #[.agg #[]] w fun e w' => e = .returned (.agg #[.int .i64 0, .int .i64 0, .string ⟨#[]⟩]) ∧ Below w.heap.size w w' := by
  go_enter Tryz.func161, Tryz.ntmps161
  go_wp2
  exact bodyPost_ret (v := .agg #[.int .i64 0, .int .i64 0, .string ⟨#[]⟩]) (by simp [results, Tryz.results161, go_sem]) rfl ⟨rfl, by (repeat' (first | exact Below.refl _ _ | refine Below.drew ?_ | refine Below.alloc ?_ ?_ _ | refine Below.setCell ?_ ?_ _)) <;> simp⟩
set_option maxHeartbeats 400000 in
theorem details_impl (id room author kind key n : Int) (text : ByteArray) (a : Option Addr) (len cap : Nat) (time : Int) (w : World) :
    Calls Tryz.prog 70 #[.agg #[.int .i64 id, .int .i64 room, .int .i64 author, .int .i64 kind, .int .i64 key, .int .i64 n, .string text, .slice a len cap, .int .i64 time]] w fun e w' => e = .returned (.agg #[.int .i64 key, .int .i64 n, .string text]) ∧ Below w.heap.size w w' := by
  go_enter Tryz.func70, Tryz.ntmps70
  go_wp2
  exact bodyPost_ret (v := .agg #[.int .i64 key, .int .i64 n, .string text]) (by simp [results, Tryz.results70, go_sem]) rfl ⟨rfl, (by (repeat' (first | exact Below.refl _ _ | refine Below.drew ?_ | refine Below.alloc ?_ ?_ _ | refine Below.setCell ?_ ?_ _)) <;> simp)⟩
set_option maxHeartbeats 400000 in
theorem deed_creation (id room author kind key n : Int) (text : ByteArray) (a : Option Addr) (len cap : Nat) (time : Int) (w : World) (hk : kind = 1) :
    Calls Tryz.prog 69 #[.agg #[.int .i64 id, .int .i64 room, .int .i64 author, .int .i64 kind, .int .i64 key, .int .i64 n, .string text, .slice a len cap, .int .i64 time]] w fun e w' => e = .returned (.iface 135 (.agg #[])) ∧ Below w.heap.size w w' := by
  subst hk
  go_enter Tryz.func69, Tryz.ntmps69
  go_wp2
  go_ret
  exact ⟨rfl, (Below.refl _ _).alloc (Nat.le_refl _) _⟩
set_option maxHeartbeats 400000 in
theorem deed_coming (id room author kind key n : Int) (text : ByteArray) (a : Option Addr) (len cap : Nat) (time : Int) (w : World) (hk : kind = 2) :
    Calls Tryz.prog 69 #[.agg #[.int .i64 id, .int .i64 room, .int .i64 author, .int .i64 kind, .int .i64 key, .int .i64 n, .string text, .slice a len cap, .int .i64 time]] w fun e w' => e = .returned (.iface 137 (.agg #[.int .i64 key, .int .i64 n])) ∧ Below w.heap.size w w' := by
  subst hk
  go_enter Tryz.func69, Tryz.ntmps69
  go_wp2
  go_ret
  exact ⟨rfl, (Below.refl _ _).alloc (Nat.le_refl _) _⟩
set_option maxHeartbeats 400000 in
theorem deed_might (id room author kind key n : Int) (text : ByteArray) (a : Option Addr) (len cap : Nat) (time : Int) (w : World) (hk : kind = 3) :
    Calls Tryz.prog 69 #[.agg #[.int .i64 id, .int .i64 room, .int .i64 author, .int .i64 kind, .int .i64 key, .int .i64 n, .string text, .slice a len cap, .int .i64 time]] w fun e w' => e = .returned (.iface 139 (.agg #[.int .i64 key, .int .i64 n])) ∧ Below w.heap.size w w' := by
  subst hk
  go_enter Tryz.func69, Tryz.ntmps69
  go_wp2
  go_ret
  exact ⟨rfl, (Below.refl _ _).alloc (Nat.le_refl _) _⟩
set_option maxHeartbeats 400000 in
theorem deed_topic (id room author kind key n : Int) (text : ByteArray) (a : Option Addr) (len cap : Nat) (time : Int) (w : World) (hk : kind = 4) :
    Calls Tryz.prog 69 #[.agg #[.int .i64 id, .int .i64 room, .int .i64 author, .int .i64 kind, .int .i64 key, .int .i64 n, .string text, .slice a len cap, .int .i64 time]] w fun e w' => e = .returned (.iface 141 (.agg #[.string text])) ∧ Below w.heap.size w w' := by
  subst hk
  go_enter Tryz.func69, Tryz.ntmps69
  go_wp2
  go_ret
  exact ⟨rfl, (Below.refl _ _).alloc (Nat.le_refl _) _⟩
set_option maxHeartbeats 400000 in
theorem deed_door (id room author kind key n : Int) (text : ByteArray) (a : Option Addr) (len cap : Nat) (time : Int) (w : World) (hk : kind = 5) :
    Calls Tryz.prog 69 #[.agg #[.int .i64 id, .int .i64 room, .int .i64 author, .int .i64 kind, .int .i64 key, .int .i64 n, .string text, .slice a len cap, .int .i64 time]] w fun e w' => e = .returned (.iface 143 (.agg #[.int .i64 n])) ∧ Below w.heap.size w w' := by
  subst hk
  go_enter Tryz.func69, Tryz.ntmps69
  go_wp2
  go_ret
  exact ⟨rfl, (Below.refl _ _).alloc (Nat.le_refl _) _⟩
set_option maxHeartbeats 400000 in
theorem deed_sight (id room author kind key n : Int) (text : ByteArray) (a : Option Addr) (len cap : Nat) (time : Int) (w : World) (hk : kind = 6) :
    Calls Tryz.prog 69 #[.agg #[.int .i64 id, .int .i64 room, .int .i64 author, .int .i64 kind, .int .i64 key, .int .i64 n, .string text, .slice a len cap, .int .i64 time]] w fun e w' => e = .returned (.iface 144 (.agg #[.int .i64 n])) ∧ Below w.heap.size w w' := by
  subst hk
  go_enter Tryz.func69, Tryz.ntmps69
  go_wp2
  go_ret
  exact ⟨rfl, (Below.refl _ _).alloc (Nat.le_refl _) _⟩
set_option maxHeartbeats 400000 in
theorem deed_saying (id room author kind key n : Int) (text : ByteArray) (a : Option Addr) (len cap : Nat) (time : Int) (w : World) (hk : kind = 7) :
    Calls Tryz.prog 69 #[.agg #[.int .i64 id, .int .i64 room, .int .i64 author, .int .i64 kind, .int .i64 key, .int .i64 n, .string text, .slice a len cap, .int .i64 time]] w fun e w' => e = .returned (.iface 145 (.agg #[.string text])) ∧ Below w.heap.size w w' := by
  subst hk
  go_enter Tryz.func69, Tryz.ntmps69
  go_wp2
  go_ret
  exact ⟨rfl, (Below.refl _ _).alloc (Nat.le_refl _) _⟩
set_option maxHeartbeats 400000 in
theorem deed_hiding (id room author kind key n : Int) (text : ByteArray) (a : Option Addr) (len cap : Nat) (time : Int) (w : World) (hk : kind = 8) :
    Calls Tryz.prog 69 #[.agg #[.int .i64 id, .int .i64 room, .int .i64 author, .int .i64 kind, .int .i64 key, .int .i64 n, .string text, .slice a len cap, .int .i64 time]] w fun e w' => e = .returned (.iface 147 (.agg #[.int .i64 key])) ∧ Below w.heap.size w w' := by
  subst hk
  go_enter Tryz.func69, Tryz.ntmps69
  go_wp2
  go_ret
  exact ⟨rfl, (Below.refl _ _).alloc (Nat.le_refl _) _⟩
set_option maxHeartbeats 400000 in
theorem deed_unknown (id room author kind key n : Int) (text : ByteArray) (a : Option Addr) (len cap : Nat) (time : Int) (w : World) (k1 : (kind == 1) = false) (k2 : (kind == 2) = false) (k3 : (kind == 3) = false) (k4 : (kind == 4) = false) (k5 : (kind == 5) = false) (k6 : (kind == 6) = false) (k7 : (kind == 7) = false) (k8 : (kind == 8) = false) :
    Calls Tryz.prog 69 #[.agg #[.int .i64 id, .int .i64 room, .int .i64 author, .int .i64 kind, .int .i64 key, .int .i64 n, .string text, .slice a len cap, .int .i64 time]] w fun e w' => e = .returned (.iface 148 (.agg #[])) ∧ Below w.heap.size w w' := by
  go_enter Tryz.func69, Tryz.ntmps69
  go_wp2
  go_ret
  exact ⟨rfl, (Below.refl _ _).alloc (Nat.le_refl _) _⟩
end Go.Proofs.YtdldblfopcbfeaaGreatDoor
