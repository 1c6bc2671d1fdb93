/- The deeds behind their interface: which one an event does, whether it may be so, and what it tells. -/
import Derived.Test.YtkjcghejpdbeiaaEv
import Derived.WalkSmall
import Derived.Lib.Strings
namespace Go.Proofs.Ytkjcghejpdbeiaa
open Go.RowKit

set_option maxHeartbeats 400000 in
theorem right_creation (w : World) : Calls Try.prog 159 #[.agg #[]] w fun e w' => e = .returned (.bool (true)) ∧ Below w.heap.size w w' := by
  go_enter Try.func159, Try.ntmps159
  go_wp2_with (first | (go_at_call 91; refine (user_impl _ _).mono ?_; rintro e w' ⟨rfl, rfl⟩) | (go_at_call 78; refine (between_impl _ _ _ _).mono ?_; rintro e w' ⟨rfl, rfl⟩) | (go_at_call 67; refine (id_impl _ _).mono ?_; rintro e w' ⟨rfl, rfl⟩))
  go_ret
  exact ⟨rfl, (Below.refl _ _).alloc (Nat.le_refl _) _⟩
set_option maxHeartbeats 400000 in
theorem tells_creation (w : World) : Calls Try.prog 160 #[.agg #[]] w fun e w' => e = .returned (.agg #[.int .i64 0, .int .i64 0, .string ⟨#[]⟩]) ∧ Below w.heap.size w w' := by
  go_enter Try.func160, Try.ntmps160
  go_wp2
  exact bodyPost_ret (v := .agg #[.int .i64 0, .int .i64 0, .string ⟨#[]⟩]) (by simp [results, Try.results160, go_sem]) rfl ⟨rfl, by (repeat' (first | exact Below.refl _ _ | refine Below.drew ?_ | refine Below.alloc ?_ ?_ _ | refine Below.setCell ?_ ?_ _)) <;> simp⟩
set_option maxHeartbeats 400000 in
theorem right_coming (key : Int) (n : Int) (w : World) : Calls Try.prog 161 #[.agg #[.int .i64 key, .int .i64 n]] w fun e w' => e = .returned (.bool (isB key 1 6 && isB n 1 4)) ∧ Below w.heap.size w w' := by
  cases c0 : isB key 1 6
  all_goals
    go_enter Try.func161, Try.ntmps161
    go_wp2_with (first | (go_at_call 91; refine (user_impl _ _).mono ?_; rintro e w' ⟨rfl, rfl⟩) | (go_at_call 78; refine (between_impl _ _ _ _).mono ?_; rintro e w' ⟨rfl, rfl⟩) | (go_at_call 67; refine (id_impl _ _).mono ?_; rintro e w' ⟨rfl, rfl⟩))
    go_ret
    exact ⟨ret_bool (by simp), (Below.refl _ _).alloc (Nat.le_refl _) _⟩
set_option maxHeartbeats 400000 in
theorem tells_coming (key : Int) (n : Int) (w : World) : Calls Try.prog 162 #[.agg #[.int .i64 key, .int .i64 n]] w fun e w' => e = .returned (.agg #[.int .i64 key, .int .i64 n, .string ⟨#[]⟩]) ∧ Below w.heap.size w w' := by
  go_enter Try.func162, Try.ntmps162
  go_wp2
  exact bodyPost_ret (v := .agg #[.int .i64 key, .int .i64 n, .string ⟨#[]⟩]) (by simp [results, Try.results162, go_sem]) rfl ⟨rfl, by (repeat' (first | exact Below.refl _ _ | refine Below.drew ?_ | refine Below.alloc ?_ ?_ _ | refine Below.setCell ?_ ?_ _)) <;> simp⟩
set_option maxHeartbeats 400000 in
theorem right_might (key : Int) (n : Int) (w : World) : Calls Try.prog 163 #[.agg #[.int .i64 key, .int .i64 n]] w fun e w' => e = .returned (.bool (isB key 1 6 && isB n 0 100)) ∧ Below w.heap.size w w' := by
  cases c0 : isB key 1 6
  all_goals
    go_enter Try.func163, Try.ntmps163
    go_wp2_with (first | (go_at_call 91; refine (user_impl _ _).mono ?_; rintro e w' ⟨rfl, rfl⟩) | (go_at_call 78; refine (between_impl _ _ _ _).mono ?_; rintro e w' ⟨rfl, rfl⟩) | (go_at_call 67; refine (id_impl _ _).mono ?_; rintro e w' ⟨rfl, rfl⟩))
    go_ret
    exact ⟨ret_bool (by simp), (Below.refl _ _).alloc (Nat.le_refl _) _⟩
set_option maxHeartbeats 400000 in
theorem tells_might (key : Int) (n : Int) (w : World) : Calls Try.prog 164 #[.agg #[.int .i64 key, .int .i64 n]] w fun e w' => e = .returned (.agg #[.int .i64 key, .int .i64 n, .string ⟨#[]⟩]) ∧ Below w.heap.size w w' := by
  go_enter Try.func164, Try.ntmps164
  go_wp2
  exact bodyPost_ret (v := .agg #[.int .i64 key, .int .i64 n, .string ⟨#[]⟩]) (by simp [results, Try.results164, go_sem]) rfl ⟨rfl, by (repeat' (first | exact Below.refl _ _ | refine Below.drew ?_ | refine Below.alloc ?_ ?_ _ | refine Below.setCell ?_ ?_ _)) <;> simp⟩
set_option maxHeartbeats 400000 in
theorem right_topic (text : ByteArray) (w : World) : Calls Try.prog 165 #[.agg #[.string text]] w fun e w' => e = .returned (.bool (decide ((text.size : Int) ≤ 30))) ∧ Below w.heap.size w w' := by
  go_enter Try.func165, Try.ntmps165
  go_wp2_with (first | (go_at_call 91; refine (user_impl _ _).mono ?_; rintro e w' ⟨rfl, rfl⟩) | (go_at_call 78; refine (between_impl _ _ _ _).mono ?_; rintro e w' ⟨rfl, rfl⟩) | (go_at_call 67; refine (id_impl _ _).mono ?_; rintro e w' ⟨rfl, rfl⟩))
  go_ret
  exact ⟨rfl, (Below.refl _ _).alloc (Nat.le_refl _) _⟩
set_option maxHeartbeats 400000 in
theorem tells_topic (text : ByteArray) (w : World) : Calls Try.prog 166 #[.agg #[.string text]] w fun e w' => e = .returned (.agg #[.int .i64 0, .int .i64 0, .string text]) ∧ Below w.heap.size w w' := by
  go_enter Try.func166, Try.ntmps166
  go_wp2
  exact bodyPost_ret (v := .agg #[.int .i64 0, .int .i64 0, .string text]) (by simp [results, Try.results166, go_sem]) rfl ⟨rfl, by (repeat' (first | exact Below.refl _ _ | refine Below.drew ?_ | refine Below.alloc ?_ ?_ _ | refine Below.setCell ?_ ?_ _)) <;> simp⟩
set_option maxHeartbeats 400000 in
theorem right_door (n : Int) (w : World) : Calls Try.prog 167 #[.agg #[.int .i64 n]] w fun e w' => e = .returned (.bool (isB n 1 2)) ∧ Below w.heap.size w w' := by
  go_enter Try.func167, Try.ntmps167
  go_wp2_with (first | (go_at_call 91; refine (user_impl _ _).mono ?_; rintro e w' ⟨rfl, rfl⟩) | (go_at_call 78; refine (between_impl _ _ _ _).mono ?_; rintro e w' ⟨rfl, rfl⟩) | (go_at_call 67; refine (id_impl _ _).mono ?_; rintro e w' ⟨rfl, rfl⟩))
  go_ret
  exact ⟨rfl, (Below.refl _ _).alloc (Nat.le_refl _) _⟩
set_option maxHeartbeats 400000 in
theorem tells_door (n : Int) (w : World) : Calls Try.prog 168 #[.agg #[.int .i64 n]] w fun e w' => e = .returned (.agg #[.int .i64 0, .int .i64 n, .string ⟨#[]⟩]) ∧ Below w.heap.size w w' := by
  go_enter Try.func168, Try.ntmps168
  go_wp2
  exact bodyPost_ret (v := .agg #[.int .i64 0, .int .i64 n, .string ⟨#[]⟩]) (by simp [results, Try.results168, go_sem]) rfl ⟨rfl, by (repeat' (first | exact Below.refl _ _ | refine Below.drew ?_ | refine Below.alloc ?_ ?_ _ | refine Below.setCell ?_ ?_ _)) <;> simp⟩
set_option maxHeartbeats 400000 in
theorem right_sight (n : Int) (w : World) : Calls Try.prog 169 #[.agg #[.int .i64 n]] w fun e w' => e = .returned (.bool (isB n 1 3)) ∧ Below w.heap.size w w' := by
  go_enter Try.func169, Try.ntmps169
  go_wp2_with (first | (go_at_call 91; refine (user_impl _ _).mono ?_; rintro e w' ⟨rfl, rfl⟩) | (go_at_call 78; refine (between_impl _ _ _ _).mono ?_; rintro e w' ⟨rfl, rfl⟩) | (go_at_call 67; refine (id_impl _ _).mono ?_; rintro e w' ⟨rfl, rfl⟩))
  go_ret
  exact ⟨rfl, (Below.refl _ _).alloc (Nat.le_refl _) _⟩
set_option maxHeartbeats 400000 in
theorem tells_sight (n : Int) (w : World) : Calls Try.prog 170 #[.agg #[.int .i64 n]] w fun e w' => e = .returned (.agg #[.int .i64 0, .int .i64 n, .string ⟨#[]⟩]) ∧ Below w.heap.size w w' := by
  go_enter Try.func170, Try.ntmps170
  go_wp2
  exact bodyPost_ret (v := .agg #[.int .i64 0, .int .i64 n, .string ⟨#[]⟩]) (by simp [results, Try.results170, go_sem]) rfl ⟨rfl, by (repeat' (first | exact Below.refl _ _ | refine Below.drew ?_ | refine Below.alloc ?_ ?_ _ | refine Below.setCell ?_ ?_ _)) <;> simp⟩
set_option maxHeartbeats 400000 in
theorem right_saying (text : ByteArray) (w : World) : Calls Try.prog 171 #[.agg #[.string text]] w fun e w' => e = .returned (.bool ((!text.toList.isEmpty) && decide ((text.size : Int) ≤ 30))) ∧ Below w.heap.size w w' := by
  cases c0 : text.toList.isEmpty
  all_goals
    go_enter Try.func171, Try.ntmps171
    go_wp2_with (first | (go_at_call 91; refine (user_impl _ _).mono ?_; rintro e w' ⟨rfl, rfl⟩) | (go_at_call 78; refine (between_impl _ _ _ _).mono ?_; rintro e w' ⟨rfl, rfl⟩) | (go_at_call 67; refine (id_impl _ _).mono ?_; rintro e w' ⟨rfl, rfl⟩))
    go_ret
    exact ⟨ret_bool (by simp), (Below.refl _ _).alloc (Nat.le_refl _) _⟩
set_option maxHeartbeats 400000 in
theorem tells_saying (text : ByteArray) (w : World) : Calls Try.prog 172 #[.agg #[.string text]] w fun e w' => e = .returned (.agg #[.int .i64 0, .int .i64 0, .string text]) ∧ Below w.heap.size w w' := by
  go_enter Try.func172, Try.ntmps172
  go_wp2
  exact bodyPost_ret (v := .agg #[.int .i64 0, .int .i64 0, .string text]) (by simp [results, Try.results172, go_sem]) rfl ⟨rfl, by (repeat' (first | exact Below.refl _ _ | refine Below.drew ?_ | refine Below.alloc ?_ ?_ _ | refine Below.setCell ?_ ?_ _)) <;> simp⟩
set_option maxHeartbeats 400000 in
theorem right_hiding (key : Int) (w : World) : Calls Try.prog 173 #[.agg #[.int .i64 key]] w fun e w' => e = .returned (.bool (isB key 1 1000000)) ∧ Below w.heap.size w w' := by
  go_enter Try.func173, Try.ntmps173
  go_wp2_with (first | (go_at_call 91; refine (user_impl _ _).mono ?_; rintro e w' ⟨rfl, rfl⟩) | (go_at_call 78; refine (between_impl _ _ _ _).mono ?_; rintro e w' ⟨rfl, rfl⟩) | (go_at_call 67; refine (id_impl _ _).mono ?_; rintro e w' ⟨rfl, rfl⟩))
  go_ret
  exact ⟨rfl, (Below.refl _ _).alloc (Nat.le_refl _) _⟩
set_option maxHeartbeats 400000 in
theorem tells_hiding (key : Int) (w : World) : Calls Try.prog 174 #[.agg #[.int .i64 key]] w fun e w' => e = .returned (.agg #[.int .i64 key, .int .i64 0, .string ⟨#[]⟩]) ∧ Below w.heap.size w w' := by
  go_enter Try.func174, Try.ntmps174
  go_wp2
  exact bodyPost_ret (v := .agg #[.int .i64 key, .int .i64 0, .string ⟨#[]⟩]) (by simp [results, Try.results174, go_sem]) rfl ⟨rfl, by (repeat' (first | exact Below.refl _ _ | refine Below.drew ?_ | refine Below.alloc ?_ ?_ _ | refine Below.setCell ?_ ?_ _)) <;> simp⟩
set_option maxHeartbeats 400000 in
theorem right_unknown (w : World) : Calls Try.prog 175 #[.agg #[]] w fun e w' => e = .returned (.bool (false)) ∧ Below w.heap.size w w' := by
  go_enter Try.func175, Try.ntmps175
  go_wp2_with (first | (go_at_call 91; refine (user_impl _ _).mono ?_; rintro e w' ⟨rfl, rfl⟩) | (go_at_call 78; refine (between_impl _ _ _ _).mono ?_; rintro e w' ⟨rfl, rfl⟩) | (go_at_call 67; refine (id_impl _ _).mono ?_; rintro e w' ⟨rfl, rfl⟩))
  go_ret
  exact ⟨rfl, (Below.refl _ _).alloc (Nat.le_refl _) _⟩
set_option maxHeartbeats 400000 in
theorem tells_unknown (w : World) : Calls Try.prog 176 #[.agg #[]] w fun e w' => e = .returned (.agg #[.int .i64 0, .int .i64 0, .string ⟨#[]⟩]) ∧ Below w.heap.size w w' := by
  go_enter Try.func176, Try.ntmps176
  go_wp2
  exact bodyPost_ret (v := .agg #[.int .i64 0, .int .i64 0, .string ⟨#[]⟩]) (by simp [results, Try.results176, go_sem]) rfl ⟨rfl, by (repeat' (first | exact Below.refl _ _ | refine Below.drew ?_ | refine Below.alloc ?_ ?_ _ | refine Below.setCell ?_ ?_ _)) <;> simp⟩
set_option maxHeartbeats 400000 in
theorem details_impl (id room author kind key n : Int) (text : ByteArray) (a : Option Addr) (len cap : Nat) (time : Int) (w : World) :
    Calls Try.prog 95 #[.agg #[.int .i64 id, .int .i64 room, .int .i64 author, .int .i64 kind, .int .i64 key, .int .i64 n, .string text, .slice a len cap, .int .i64 time]] w fun e w' => e = .returned (.agg #[.int .i64 key, .int .i64 n, .string text]) ∧ Below w.heap.size w w' := by
  go_enter Try.func95, Try.ntmps95
  go_wp2
  exact bodyPost_ret (v := .agg #[.int .i64 key, .int .i64 n, .string text]) (by simp [results, Try.results95, go_sem]) rfl ⟨rfl, (by (repeat' (first | exact Below.refl _ _ | refine Below.drew ?_ | refine Below.alloc ?_ ?_ _ | refine Below.setCell ?_ ?_ _)) <;> simp)⟩
set_option maxHeartbeats 400000 in
theorem deed_creation (id room author kind key n : Int) (text : ByteArray) (a : Option Addr) (len cap : Nat) (time : Int) (w : World) (hk : kind = 1) :
    Calls Try.prog 94 #[.agg #[.int .i64 id, .int .i64 room, .int .i64 author, .int .i64 kind, .int .i64 key, .int .i64 n, .string text, .slice a len cap, .int .i64 time]] w fun e w' => e = .returned (.iface 144 (.agg #[])) ∧ Below w.heap.size w w' := by
  subst hk
  go_enter Try.func94, Try.ntmps94
  go_wp2
  go_ret
  exact ⟨rfl, (Below.refl _ _).alloc (Nat.le_refl _) _⟩
set_option maxHeartbeats 400000 in
theorem deed_coming (id room author kind key n : Int) (text : ByteArray) (a : Option Addr) (len cap : Nat) (time : Int) (w : World) (hk : kind = 2) :
    Calls Try.prog 94 #[.agg #[.int .i64 id, .int .i64 room, .int .i64 author, .int .i64 kind, .int .i64 key, .int .i64 n, .string text, .slice a len cap, .int .i64 time]] w fun e w' => e = .returned (.iface 146 (.agg #[.int .i64 key, .int .i64 n])) ∧ Below w.heap.size w w' := by
  subst hk
  go_enter Try.func94, Try.ntmps94
  go_wp2
  go_ret
  exact ⟨rfl, (Below.refl _ _).alloc (Nat.le_refl _) _⟩
set_option maxHeartbeats 400000 in
theorem deed_might (id room author kind key n : Int) (text : ByteArray) (a : Option Addr) (len cap : Nat) (time : Int) (w : World) (hk : kind = 3) :
    Calls Try.prog 94 #[.agg #[.int .i64 id, .int .i64 room, .int .i64 author, .int .i64 kind, .int .i64 key, .int .i64 n, .string text, .slice a len cap, .int .i64 time]] w fun e w' => e = .returned (.iface 148 (.agg #[.int .i64 key, .int .i64 n])) ∧ Below w.heap.size w w' := by
  subst hk
  go_enter Try.func94, Try.ntmps94
  go_wp2
  go_ret
  exact ⟨rfl, (Below.refl _ _).alloc (Nat.le_refl _) _⟩
set_option maxHeartbeats 400000 in
theorem deed_topic (id room author kind key n : Int) (text : ByteArray) (a : Option Addr) (len cap : Nat) (time : Int) (w : World) (hk : kind = 4) :
    Calls Try.prog 94 #[.agg #[.int .i64 id, .int .i64 room, .int .i64 author, .int .i64 kind, .int .i64 key, .int .i64 n, .string text, .slice a len cap, .int .i64 time]] w fun e w' => e = .returned (.iface 150 (.agg #[.string text])) ∧ Below w.heap.size w w' := by
  subst hk
  go_enter Try.func94, Try.ntmps94
  go_wp2
  go_ret
  exact ⟨rfl, (Below.refl _ _).alloc (Nat.le_refl _) _⟩
set_option maxHeartbeats 400000 in
theorem deed_door (id room author kind key n : Int) (text : ByteArray) (a : Option Addr) (len cap : Nat) (time : Int) (w : World) (hk : kind = 5) :
    Calls Try.prog 94 #[.agg #[.int .i64 id, .int .i64 room, .int .i64 author, .int .i64 kind, .int .i64 key, .int .i64 n, .string text, .slice a len cap, .int .i64 time]] w fun e w' => e = .returned (.iface 152 (.agg #[.int .i64 n])) ∧ Below w.heap.size w w' := by
  subst hk
  go_enter Try.func94, Try.ntmps94
  go_wp2
  go_ret
  exact ⟨rfl, (Below.refl _ _).alloc (Nat.le_refl _) _⟩
set_option maxHeartbeats 400000 in
theorem deed_sight (id room author kind key n : Int) (text : ByteArray) (a : Option Addr) (len cap : Nat) (time : Int) (w : World) (hk : kind = 6) :
    Calls Try.prog 94 #[.agg #[.int .i64 id, .int .i64 room, .int .i64 author, .int .i64 kind, .int .i64 key, .int .i64 n, .string text, .slice a len cap, .int .i64 time]] w fun e w' => e = .returned (.iface 153 (.agg #[.int .i64 n])) ∧ Below w.heap.size w w' := by
  subst hk
  go_enter Try.func94, Try.ntmps94
  go_wp2
  go_ret
  exact ⟨rfl, (Below.refl _ _).alloc (Nat.le_refl _) _⟩
set_option maxHeartbeats 400000 in
theorem deed_saying (id room author kind key n : Int) (text : ByteArray) (a : Option Addr) (len cap : Nat) (time : Int) (w : World) (hk : kind = 7) :
    Calls Try.prog 94 #[.agg #[.int .i64 id, .int .i64 room, .int .i64 author, .int .i64 kind, .int .i64 key, .int .i64 n, .string text, .slice a len cap, .int .i64 time]] w fun e w' => e = .returned (.iface 154 (.agg #[.string text])) ∧ Below w.heap.size w w' := by
  subst hk
  go_enter Try.func94, Try.ntmps94
  go_wp2
  go_ret
  exact ⟨rfl, (Below.refl _ _).alloc (Nat.le_refl _) _⟩
set_option maxHeartbeats 400000 in
theorem deed_hiding (id room author kind key n : Int) (text : ByteArray) (a : Option Addr) (len cap : Nat) (time : Int) (w : World) (hk : kind = 8) :
    Calls Try.prog 94 #[.agg #[.int .i64 id, .int .i64 room, .int .i64 author, .int .i64 kind, .int .i64 key, .int .i64 n, .string text, .slice a len cap, .int .i64 time]] w fun e w' => e = .returned (.iface 156 (.agg #[.int .i64 key])) ∧ Below w.heap.size w w' := by
  subst hk
  go_enter Try.func94, Try.ntmps94
  go_wp2
  go_ret
  exact ⟨rfl, (Below.refl _ _).alloc (Nat.le_refl _) _⟩
set_option maxHeartbeats 400000 in
theorem deed_unknown (id room author kind key n : Int) (text : ByteArray) (a : Option Addr) (len cap : Nat) (time : Int) (w : World) (k1 : (kind == 1) = false) (k2 : (kind == 2) = false) (k3 : (kind == 3) = false) (k4 : (kind == 4) = false) (k5 : (kind == 5) = false) (k6 : (kind == 6) = false) (k7 : (kind == 7) = false) (k8 : (kind == 8) = false) :
    Calls Try.prog 94 #[.agg #[.int .i64 id, .int .i64 room, .int .i64 author, .int .i64 kind, .int .i64 key, .int .i64 n, .string text, .slice a len cap, .int .i64 time]] w fun e w' => e = .returned (.iface 157 (.agg #[])) ∧ Below w.heap.size w w' := by
  go_enter Try.func94, Try.ntmps94
  go_wp2
  go_ret
  exact ⟨rfl, (Below.refl _ _).alloc (Nat.le_refl _) _⟩
end Go.Proofs.Ytkjcghejpdbeiaa
