/- The deeds behind their interface: which one an event does, whether it may be so, and what it tells. -/
import Derived.Test.YtegjdngkbofogaaEv
import Derived.WalkSmall
import Derived.Lib.Strings
namespace Go.Proofs.Ytegjdngkbofogaa
open Go.RowKit

set_option maxHeartbeats 400000 in
theorem right_creation (w : World) : Calls Try.prog 147 #[.agg #[]] w fun e w' => e = .returned (.bool (true)) ∧ Below w.heap.size w w' := by
  go_enter Try.func147, Try.ntmps147
  go_wp2_with (first | (go_at_call 71; refine (user_impl _ _).mono ?_; rintro e w' ⟨rfl, rfl⟩) | (go_at_call 97; refine (between_impl _ _ _ _).mono ?_; rintro e w' ⟨rfl, rfl⟩) | (go_at_call 69; refine (id_impl _ _).mono ?_; rintro e w' ⟨rfl, rfl⟩))
  go_ret
  exact ⟨rfl, (Below.refl _ _).alloc (Nat.le_refl _) _⟩
set_option maxHeartbeats 400000 in
theorem tells_creation (w : World) : Calls Try.prog 148 #[.agg #[]] w fun e w' => e = .returned (.agg #[.int .i64 0, .int .i64 0, .string ⟨#[]⟩]) ∧ Below w.heap.size w w' := by
  go_enter Try.func148, Try.ntmps148
  go_wp2
  exact bodyPost_ret (v := .agg #[.int .i64 0, .int .i64 0, .string ⟨#[]⟩]) (by simp [results, Try.results148, go_sem]) rfl ⟨rfl, by (repeat' (first | exact Below.refl _ _ | refine Below.drew ?_ | refine Below.alloc ?_ ?_ _ | refine Below.setCell ?_ ?_ _)) <;> simp⟩
set_option maxHeartbeats 400000 in
theorem right_coming (key : Int) (n : Int) (w : World) : Calls Try.prog 149 #[.agg #[.int .i64 key, .int .i64 n]] w fun e w' => e = .returned (.bool (isB key 1 6 && isB n 1 4)) ∧ Below w.heap.size w w' := by
  cases c0 : isB key 1 6
  all_goals
    go_enter Try.func149, Try.ntmps149
    go_wp2_with (first | (go_at_call 71; refine (user_impl _ _).mono ?_; rintro e w' ⟨rfl, rfl⟩) | (go_at_call 97; refine (between_impl _ _ _ _).mono ?_; rintro e w' ⟨rfl, rfl⟩) | (go_at_call 69; refine (id_impl _ _).mono ?_; rintro e w' ⟨rfl, rfl⟩))
    go_ret
    exact ⟨ret_bool (by simp), (Below.refl _ _).alloc (Nat.le_refl _) _⟩
set_option maxHeartbeats 400000 in
theorem tells_coming (key : Int) (n : Int) (w : World) : Calls Try.prog 150 #[.agg #[.int .i64 key, .int .i64 n]] w fun e w' => e = .returned (.agg #[.int .i64 key, .int .i64 n, .string ⟨#[]⟩]) ∧ Below w.heap.size w w' := by
  go_enter Try.func150, Try.ntmps150
  go_wp2
  exact bodyPost_ret (v := .agg #[.int .i64 key, .int .i64 n, .string ⟨#[]⟩]) (by simp [results, Try.results150, go_sem]) rfl ⟨rfl, by (repeat' (first | exact Below.refl _ _ | refine Below.drew ?_ | refine Below.alloc ?_ ?_ _ | refine Below.setCell ?_ ?_ _)) <;> simp⟩
set_option maxHeartbeats 400000 in
theorem right_might (key : Int) (n : Int) (w : World) : Calls Try.prog 151 #[.agg #[.int .i64 key, .int .i64 n]] w fun e w' => e = .returned (.bool (isB key 1 6 && isB n 0 100)) ∧ Below w.heap.size w w' := by
  cases c0 : isB key 1 6
  all_goals
    go_enter Try.func151, Try.ntmps151
    go_wp2_with (first | (go_at_call 71; refine (user_impl _ _).mono ?_; rintro e w' ⟨rfl, rfl⟩) | (go_at_call 97; refine (between_impl _ _ _ _).mono ?_; rintro e w' ⟨rfl, rfl⟩) | (go_at_call 69; refine (id_impl _ _).mono ?_; rintro e w' ⟨rfl, rfl⟩))
    go_ret
    exact ⟨ret_bool (by simp), (Below.refl _ _).alloc (Nat.le_refl _) _⟩
set_option maxHeartbeats 400000 in
theorem tells_might (key : Int) (n : Int) (w : World) : Calls Try.prog 152 #[.agg #[.int .i64 key, .int .i64 n]] w fun e w' => e = .returned (.agg #[.int .i64 key, .int .i64 n, .string ⟨#[]⟩]) ∧ Below w.heap.size w w' := by
  go_enter Try.func152, Try.ntmps152
  go_wp2
  exact bodyPost_ret (v := .agg #[.int .i64 key, .int .i64 n, .string ⟨#[]⟩]) (by simp [results, Try.results152, go_sem]) rfl ⟨rfl, by (repeat' (first | exact Below.refl _ _ | refine Below.drew ?_ | refine Below.alloc ?_ ?_ _ | refine Below.setCell ?_ ?_ _)) <;> simp⟩
set_option maxHeartbeats 400000 in
theorem right_topic (text : ByteArray) (w : World) : Calls Try.prog 153 #[.agg #[.string text]] w fun e w' => e = .returned (.bool (decide ((text.size : Int) ≤ 30))) ∧ Below w.heap.size w w' := by
  go_enter Try.func153, Try.ntmps153
  go_wp2_with (first | (go_at_call 71; refine (user_impl _ _).mono ?_; rintro e w' ⟨rfl, rfl⟩) | (go_at_call 97; refine (between_impl _ _ _ _).mono ?_; rintro e w' ⟨rfl, rfl⟩) | (go_at_call 69; refine (id_impl _ _).mono ?_; rintro e w' ⟨rfl, rfl⟩))
  go_ret
  exact ⟨rfl, (Below.refl _ _).alloc (Nat.le_refl _) _⟩
set_option maxHeartbeats 400000 in
theorem tells_topic (text : ByteArray) (w : World) : Calls Try.prog 154 #[.agg #[.string text]] w fun e w' => e = .returned (.agg #[.int .i64 0, .int .i64 0, .string text]) ∧ Below w.heap.size w w' := by
  go_enter Try.func154, Try.ntmps154
  go_wp2
  exact bodyPost_ret (v := .agg #[.int .i64 0, .int .i64 0, .string text]) (by simp [results, Try.results154, go_sem]) rfl ⟨rfl, by (repeat' (first | exact Below.refl _ _ | refine Below.drew ?_ | refine Below.alloc ?_ ?_ _ | refine Below.setCell ?_ ?_ _)) <;> simp⟩
set_option maxHeartbeats 400000 in
theorem right_door (n : Int) (w : World) : Calls Try.prog 155 #[.agg #[.int .i64 n]] w fun e w' => e = .returned (.bool (isB n 1 2)) ∧ Below w.heap.size w w' := by
  go_enter Try.func155, Try.ntmps155
  go_wp2_with (first | (go_at_call 71; refine (user_impl _ _).mono ?_; rintro e w' ⟨rfl, rfl⟩) | (go_at_call 97; refine (between_impl _ _ _ _).mono ?_; rintro e w' ⟨rfl, rfl⟩) | (go_at_call 69; refine (id_impl _ _).mono ?_; rintro e w' ⟨rfl, rfl⟩))
  go_ret
  exact ⟨rfl, (Below.refl _ _).alloc (Nat.le_refl _) _⟩
set_option maxHeartbeats 400000 in
theorem tells_door (n : Int) (w : World) : Calls Try.prog 156 #[.agg #[.int .i64 n]] w fun e w' => e = .returned (.agg #[.int .i64 0, .int .i64 n, .string ⟨#[]⟩]) ∧ Below w.heap.size w w' := by
  go_enter Try.func156, Try.ntmps156
  go_wp2
  exact bodyPost_ret (v := .agg #[.int .i64 0, .int .i64 n, .string ⟨#[]⟩]) (by simp [results, Try.results156, go_sem]) rfl ⟨rfl, by (repeat' (first | exact Below.refl _ _ | refine Below.drew ?_ | refine Below.alloc ?_ ?_ _ | refine Below.setCell ?_ ?_ _)) <;> simp⟩
set_option maxHeartbeats 400000 in
theorem right_sight (n : Int) (w : World) : Calls Try.prog 157 #[.agg #[.int .i64 n]] w fun e w' => e = .returned (.bool (isB n 1 3)) ∧ Below w.heap.size w w' := by
  go_enter Try.func157, Try.ntmps157
  go_wp2_with (first | (go_at_call 71; refine (user_impl _ _).mono ?_; rintro e w' ⟨rfl, rfl⟩) | (go_at_call 97; refine (between_impl _ _ _ _).mono ?_; rintro e w' ⟨rfl, rfl⟩) | (go_at_call 69; refine (id_impl _ _).mono ?_; rintro e w' ⟨rfl, rfl⟩))
  go_ret
  exact ⟨rfl, (Below.refl _ _).alloc (Nat.le_refl _) _⟩
set_option maxHeartbeats 400000 in
theorem tells_sight (n : Int) (w : World) : Calls Try.prog 158 #[.agg #[.int .i64 n]] w fun e w' => e = .returned (.agg #[.int .i64 0, .int .i64 n, .string ⟨#[]⟩]) ∧ Below w.heap.size w w' := by
  go_enter Try.func158, Try.ntmps158
  go_wp2
  exact bodyPost_ret (v := .agg #[.int .i64 0, .int .i64 n, .string ⟨#[]⟩]) (by simp [results, Try.results158, go_sem]) rfl ⟨rfl, by (repeat' (first | exact Below.refl _ _ | refine Below.drew ?_ | refine Below.alloc ?_ ?_ _ | refine Below.setCell ?_ ?_ _)) <;> simp⟩
set_option maxHeartbeats 400000 in
theorem right_saying (text : ByteArray) (w : World) : Calls Try.prog 159 #[.agg #[.string text]] w fun e w' => e = .returned (.bool ((!text.toList.isEmpty) && decide ((text.size : Int) ≤ 30))) ∧ Below w.heap.size w w' := by
  cases c0 : text.toList.isEmpty
  all_goals
    go_enter Try.func159, Try.ntmps159
    go_wp2_with (first | (go_at_call 71; refine (user_impl _ _).mono ?_; rintro e w' ⟨rfl, rfl⟩) | (go_at_call 97; refine (between_impl _ _ _ _).mono ?_; rintro e w' ⟨rfl, rfl⟩) | (go_at_call 69; refine (id_impl _ _).mono ?_; rintro e w' ⟨rfl, rfl⟩))
    go_ret
    exact ⟨ret_bool (by simp), (Below.refl _ _).alloc (Nat.le_refl _) _⟩
set_option maxHeartbeats 400000 in
theorem tells_saying (text : ByteArray) (w : World) : Calls Try.prog 160 #[.agg #[.string text]] w fun e w' => e = .returned (.agg #[.int .i64 0, .int .i64 0, .string text]) ∧ Below w.heap.size w w' := by
  go_enter Try.func160, Try.ntmps160
  go_wp2
  exact bodyPost_ret (v := .agg #[.int .i64 0, .int .i64 0, .string text]) (by simp [results, Try.results160, go_sem]) rfl ⟨rfl, by (repeat' (first | exact Below.refl _ _ | refine Below.drew ?_ | refine Below.alloc ?_ ?_ _ | refine Below.setCell ?_ ?_ _)) <;> simp⟩
set_option maxHeartbeats 400000 in
theorem right_hiding (key : Int) (w : World) : Calls Try.prog 161 #[.agg #[.int .i64 key]] w fun e w' => e = .returned (.bool (isB key 1 1000000)) ∧ Below w.heap.size w w' := by
  go_enter Try.func161, Try.ntmps161
  go_wp2_with (first | (go_at_call 71; refine (user_impl _ _).mono ?_; rintro e w' ⟨rfl, rfl⟩) | (go_at_call 97; refine (between_impl _ _ _ _).mono ?_; rintro e w' ⟨rfl, rfl⟩) | (go_at_call 69; refine (id_impl _ _).mono ?_; rintro e w' ⟨rfl, rfl⟩))
  go_ret
  exact ⟨rfl, (Below.refl _ _).alloc (Nat.le_refl _) _⟩
set_option maxHeartbeats 400000 in
theorem tells_hiding (key : Int) (w : World) : Calls Try.prog 162 #[.agg #[.int .i64 key]] w fun e w' => e = .returned (.agg #[.int .i64 key, .int .i64 0, .string ⟨#[]⟩]) ∧ Below w.heap.size w w' := by
  go_enter Try.func162, Try.ntmps162
  go_wp2
  exact bodyPost_ret (v := .agg #[.int .i64 key, .int .i64 0, .string ⟨#[]⟩]) (by simp [results, Try.results162, go_sem]) rfl ⟨rfl, by (repeat' (first | exact Below.refl _ _ | refine Below.drew ?_ | refine Below.alloc ?_ ?_ _ | refine Below.setCell ?_ ?_ _)) <;> simp⟩
set_option maxHeartbeats 400000 in
theorem right_unknown (w : World) : Calls Try.prog 163 #[.agg #[]] w fun e w' => e = .returned (.bool (false)) ∧ Below w.heap.size w w' := by
  go_enter Try.func163, Try.ntmps163
  go_wp2_with (first | (go_at_call 71; refine (user_impl _ _).mono ?_; rintro e w' ⟨rfl, rfl⟩) | (go_at_call 97; refine (between_impl _ _ _ _).mono ?_; rintro e w' ⟨rfl, rfl⟩) | (go_at_call 69; refine (id_impl _ _).mono ?_; rintro e w' ⟨rfl, rfl⟩))
  go_ret
  exact ⟨rfl, (Below.refl _ _).alloc (Nat.le_refl _) _⟩
set_option maxHeartbeats 400000 in
theorem tells_unknown (w : World) : Calls Try.prog 164 #[.agg #[]] w fun e w' => e = .returned (.agg #[.int .i64 0, .int .i64 0, .string ⟨#[]⟩]) ∧ Below w.heap.size w w' := by
  go_enter Try.func164, Try.ntmps164
  go_wp2
  exact bodyPost_ret (v := .agg #[.int .i64 0, .int .i64 0, .string ⟨#[]⟩]) (by simp [results, Try.results164, go_sem]) rfl ⟨rfl, by (repeat' (first | exact Below.refl _ _ | refine Below.drew ?_ | refine Below.alloc ?_ ?_ _ | refine Below.setCell ?_ ?_ _)) <;> simp⟩
set_option maxHeartbeats 400000 in
theorem details_impl (id room author kind key n : Int) (text : ByteArray) (a : Option Addr) (len cap : Nat) (time : Int) (w : World) :
    Calls Try.prog 73 #[.agg #[.int .i64 id, .int .i64 room, .int .i64 author, .int .i64 kind, .int .i64 key, .int .i64 n, .string text, .slice a len cap, .int .i64 time]] w fun e w' => e = .returned (.agg #[.int .i64 key, .int .i64 n, .string text]) ∧ Below w.heap.size w w' := by
  go_enter Try.func73, Try.ntmps73
  go_wp2
  exact bodyPost_ret (v := .agg #[.int .i64 key, .int .i64 n, .string text]) (by simp [results, Try.results73, go_sem]) rfl ⟨rfl, (by (repeat' (first | exact Below.refl _ _ | refine Below.drew ?_ | refine Below.alloc ?_ ?_ _ | refine Below.setCell ?_ ?_ _)) <;> simp)⟩
set_option maxHeartbeats 400000 in
theorem deed_creation (id room author kind key n : Int) (text : ByteArray) (a : Option Addr) (len cap : Nat) (time : Int) (w : World) (hk : kind = 1) :
    Calls Try.prog 57 #[.agg #[.int .i64 id, .int .i64 room, .int .i64 author, .int .i64 kind, .int .i64 key, .int .i64 n, .string text, .slice a len cap, .int .i64 time]] w fun e w' => e = .returned (.iface 128 (.agg #[])) ∧ Below w.heap.size w w' := by
  subst hk
  go_enter Try.func57, Try.ntmps57
  go_wp2
  go_ret
  exact ⟨rfl, (Below.refl _ _).alloc (Nat.le_refl _) _⟩
set_option maxHeartbeats 400000 in
theorem deed_coming (id room author kind key n : Int) (text : ByteArray) (a : Option Addr) (len cap : Nat) (time : Int) (w : World) (hk : kind = 2) :
    Calls Try.prog 57 #[.agg #[.int .i64 id, .int .i64 room, .int .i64 author, .int .i64 kind, .int .i64 key, .int .i64 n, .string text, .slice a len cap, .int .i64 time]] w fun e w' => e = .returned (.iface 130 (.agg #[.int .i64 key, .int .i64 n])) ∧ Below w.heap.size w w' := by
  subst hk
  go_enter Try.func57, Try.ntmps57
  go_wp2
  go_ret
  exact ⟨rfl, (Below.refl _ _).alloc (Nat.le_refl _) _⟩
set_option maxHeartbeats 400000 in
theorem deed_might (id room author kind key n : Int) (text : ByteArray) (a : Option Addr) (len cap : Nat) (time : Int) (w : World) (hk : kind = 3) :
    Calls Try.prog 57 #[.agg #[.int .i64 id, .int .i64 room, .int .i64 author, .int .i64 kind, .int .i64 key, .int .i64 n, .string text, .slice a len cap, .int .i64 time]] w fun e w' => e = .returned (.iface 132 (.agg #[.int .i64 key, .int .i64 n])) ∧ Below w.heap.size w w' := by
  subst hk
  go_enter Try.func57, Try.ntmps57
  go_wp2
  go_ret
  exact ⟨rfl, (Below.refl _ _).alloc (Nat.le_refl _) _⟩
set_option maxHeartbeats 400000 in
theorem deed_topic (id room author kind key n : Int) (text : ByteArray) (a : Option Addr) (len cap : Nat) (time : Int) (w : World) (hk : kind = 4) :
    Calls Try.prog 57 #[.agg #[.int .i64 id, .int .i64 room, .int .i64 author, .int .i64 kind, .int .i64 key, .int .i64 n, .string text, .slice a len cap, .int .i64 time]] w fun e w' => e = .returned (.iface 134 (.agg #[.string text])) ∧ Below w.heap.size w w' := by
  subst hk
  go_enter Try.func57, Try.ntmps57
  go_wp2
  go_ret
  exact ⟨rfl, (Below.refl _ _).alloc (Nat.le_refl _) _⟩
set_option maxHeartbeats 400000 in
theorem deed_door (id room author kind key n : Int) (text : ByteArray) (a : Option Addr) (len cap : Nat) (time : Int) (w : World) (hk : kind = 5) :
    Calls Try.prog 57 #[.agg #[.int .i64 id, .int .i64 room, .int .i64 author, .int .i64 kind, .int .i64 key, .int .i64 n, .string text, .slice a len cap, .int .i64 time]] w fun e w' => e = .returned (.iface 136 (.agg #[.int .i64 n])) ∧ Below w.heap.size w w' := by
  subst hk
  go_enter Try.func57, Try.ntmps57
  go_wp2
  go_ret
  exact ⟨rfl, (Below.refl _ _).alloc (Nat.le_refl _) _⟩
set_option maxHeartbeats 400000 in
theorem deed_sight (id room author kind key n : Int) (text : ByteArray) (a : Option Addr) (len cap : Nat) (time : Int) (w : World) (hk : kind = 6) :
    Calls Try.prog 57 #[.agg #[.int .i64 id, .int .i64 room, .int .i64 author, .int .i64 kind, .int .i64 key, .int .i64 n, .string text, .slice a len cap, .int .i64 time]] w fun e w' => e = .returned (.iface 137 (.agg #[.int .i64 n])) ∧ Below w.heap.size w w' := by
  subst hk
  go_enter Try.func57, Try.ntmps57
  go_wp2
  go_ret
  exact ⟨rfl, (Below.refl _ _).alloc (Nat.le_refl _) _⟩
set_option maxHeartbeats 400000 in
theorem deed_saying (id room author kind key n : Int) (text : ByteArray) (a : Option Addr) (len cap : Nat) (time : Int) (w : World) (hk : kind = 7) :
    Calls Try.prog 57 #[.agg #[.int .i64 id, .int .i64 room, .int .i64 author, .int .i64 kind, .int .i64 key, .int .i64 n, .string text, .slice a len cap, .int .i64 time]] w fun e w' => e = .returned (.iface 138 (.agg #[.string text])) ∧ Below w.heap.size w w' := by
  subst hk
  go_enter Try.func57, Try.ntmps57
  go_wp2
  go_ret
  exact ⟨rfl, (Below.refl _ _).alloc (Nat.le_refl _) _⟩
set_option maxHeartbeats 400000 in
theorem deed_hiding (id room author kind key n : Int) (text : ByteArray) (a : Option Addr) (len cap : Nat) (time : Int) (w : World) (hk : kind = 8) :
    Calls Try.prog 57 #[.agg #[.int .i64 id, .int .i64 room, .int .i64 author, .int .i64 kind, .int .i64 key, .int .i64 n, .string text, .slice a len cap, .int .i64 time]] w fun e w' => e = .returned (.iface 140 (.agg #[.int .i64 key])) ∧ Below w.heap.size w w' := by
  subst hk
  go_enter Try.func57, Try.ntmps57
  go_wp2
  go_ret
  exact ⟨rfl, (Below.refl _ _).alloc (Nat.le_refl _) _⟩
set_option maxHeartbeats 400000 in
theorem deed_unknown (id room author kind key n : Int) (text : ByteArray) (a : Option Addr) (len cap : Nat) (time : Int) (w : World) (k1 : (kind == 1) = false) (k2 : (kind == 2) = false) (k3 : (kind == 3) = false) (k4 : (kind == 4) = false) (k5 : (kind == 5) = false) (k6 : (kind == 6) = false) (k7 : (kind == 7) = false) (k8 : (kind == 8) = false) :
    Calls Try.prog 57 #[.agg #[.int .i64 id, .int .i64 room, .int .i64 author, .int .i64 kind, .int .i64 key, .int .i64 n, .string text, .slice a len cap, .int .i64 time]] w fun e w' => e = .returned (.iface 141 (.agg #[])) ∧ Below w.heap.size w w' := by
  go_enter Try.func57, Try.ntmps57
  go_wp2
  go_ret
  exact ⟨rfl, (Below.refl _ _).alloc (Nat.le_refl _) _⟩
end Go.Proofs.Ytegjdngkbofogaa
