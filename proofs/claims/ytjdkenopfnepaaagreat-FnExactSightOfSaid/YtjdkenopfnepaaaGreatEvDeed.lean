/- The deeds behind their interface: which one an event does, whether it may be so, and what it tells. -/
import Derived.Test.YtjdkenopfnepaaaGreatEv
import Derived.WalkSmall
import Derived.Lib.Strings
namespace Go.Proofs.YtjdkenopfnepaaaGreat
open Go.RowKit

set_option maxHeartbeats 400000 in
theorem right_creation (w : World) : Calls Tryz.prog 226 #[.agg #[]] w fun e w' => e = .returned (.bool (true)) ∧ Below w.heap.size w w' := by
  go_enter Tryz.func226, Tryz.ntmps226
  go_wp2_with (first | (go_at_call 50; refine (user_impl _ _).mono ?_; rintro e w' ⟨rfl, rfl⟩) | (go_at_call 94; refine (between_impl _ _ _ _).mono ?_; rintro e w' ⟨rfl, rfl⟩) | (go_at_call 142; refine (id_impl _ _).mono ?_; rintro e w' ⟨rfl, rfl⟩))
  go_ret
  exact ⟨rfl, (Below.refl _ _).alloc (Nat.le_refl _) _⟩
set_option maxHeartbeats 400000 in
theorem tells_creation (w : World) : Calls Tryz.prog 227 #[.agg #[]] w fun e w' => e = .returned (.agg #[.int .i64 0, .int .i64 0, .string ⟨#[]⟩]) ∧ Below w.heap.size w w' := by
  go_enter Tryz.func227, Tryz.ntmps227
  go_wp2
  exact bodyPost_ret (v := .agg #[.int .i64 0, .int .i64 0, .string ⟨#[]⟩]) (by simp [results, Tryz.results227, go_sem]) rfl ⟨rfl, by (repeat' (first | exact Below.refl _ _ | refine Below.drew ?_ | refine Below.alloc ?_ ?_ _ | refine Below.setCell ?_ ?_ _)) <;> simp⟩
set_option maxHeartbeats 400000 in
theorem right_coming (key : Int) (n : Int) (w : World) : Calls Tryz.prog 228 #[.agg #[.int .i64 key, .int .i64 n]] w fun e w' => e = .returned (.bool (isB key 1 6 && isB n 1 4)) ∧ Below w.heap.size w w' := by
  cases c0 : isB key 1 6
  all_goals
    go_enter Tryz.func228, Tryz.ntmps228
    go_wp2_with (first | (go_at_call 50; refine (user_impl _ _).mono ?_; rintro e w' ⟨rfl, rfl⟩) | (go_at_call 94; refine (between_impl _ _ _ _).mono ?_; rintro e w' ⟨rfl, rfl⟩) | (go_at_call 142; refine (id_impl _ _).mono ?_; rintro e w' ⟨rfl, rfl⟩))
    go_ret
    exact ⟨ret_bool (by simp), (Below.refl _ _).alloc (Nat.le_refl _) _⟩
set_option maxHeartbeats 400000 in
theorem tells_coming (key : Int) (n : Int) (w : World) : Calls Tryz.prog 229 #[.agg #[.int .i64 key, .int .i64 n]] w fun e w' => e = .returned (.agg #[.int .i64 key, .int .i64 n, .string ⟨#[]⟩]) ∧ Below w.heap.size w w' := by
  go_enter Tryz.func229, Tryz.ntmps229
  go_wp2
  exact bodyPost_ret (v := .agg #[.int .i64 key, .int .i64 n, .string ⟨#[]⟩]) (by simp [results, Tryz.results229, go_sem]) rfl ⟨rfl, by (repeat' (first | exact Below.refl _ _ | refine Below.drew ?_ | refine Below.alloc ?_ ?_ _ | refine Below.setCell ?_ ?_ _)) <;> simp⟩
set_option maxHeartbeats 400000 in
theorem right_might (key : Int) (n : Int) (w : World) : Calls Tryz.prog 230 #[.agg #[.int .i64 key, .int .i64 n]] w fun e w' => e = .returned (.bool (isB key 1 6 && isB n 0 100)) ∧ Below w.heap.size w w' := by
  cases c0 : isB key 1 6
  all_goals
    go_enter Tryz.func230, Tryz.ntmps230
    go_wp2_with (first | (go_at_call 50; refine (user_impl _ _).mono ?_; rintro e w' ⟨rfl, rfl⟩) | (go_at_call 94; refine (between_impl _ _ _ _).mono ?_; rintro e w' ⟨rfl, rfl⟩) | (go_at_call 142; refine (id_impl _ _).mono ?_; rintro e w' ⟨rfl, rfl⟩))
    go_ret
    exact ⟨ret_bool (by simp), (Below.refl _ _).alloc (Nat.le_refl _) _⟩
set_option maxHeartbeats 400000 in
theorem tells_might (key : Int) (n : Int) (w : World) : Calls Tryz.prog 231 #[.agg #[.int .i64 key, .int .i64 n]] w fun e w' => e = .returned (.agg #[.int .i64 key, .int .i64 n, .string ⟨#[]⟩]) ∧ Below w.heap.size w w' := by
  go_enter Tryz.func231, Tryz.ntmps231
  go_wp2
  exact bodyPost_ret (v := .agg #[.int .i64 key, .int .i64 n, .string ⟨#[]⟩]) (by simp [results, Tryz.results231, go_sem]) rfl ⟨rfl, by (repeat' (first | exact Below.refl _ _ | refine Below.drew ?_ | refine Below.alloc ?_ ?_ _ | refine Below.setCell ?_ ?_ _)) <;> simp⟩
set_option maxHeartbeats 400000 in
theorem right_topic (text : ByteArray) (w : World) : Calls Tryz.prog 232 #[.agg #[.string text]] w fun e w' => e = .returned (.bool (decide ((text.size : Int) ≤ 30))) ∧ Below w.heap.size w w' := by
  go_enter Tryz.func232, Tryz.ntmps232
  go_wp2_with (first | (go_at_call 50; refine (user_impl _ _).mono ?_; rintro e w' ⟨rfl, rfl⟩) | (go_at_call 94; refine (between_impl _ _ _ _).mono ?_; rintro e w' ⟨rfl, rfl⟩) | (go_at_call 142; refine (id_impl _ _).mono ?_; rintro e w' ⟨rfl, rfl⟩))
  go_ret
  exact ⟨rfl, (Below.refl _ _).alloc (Nat.le_refl _) _⟩
set_option maxHeartbeats 400000 in
theorem tells_topic (text : ByteArray) (w : World) : Calls Tryz.prog 233 #[.agg #[.string text]] w fun e w' => e = .returned (.agg #[.int .i64 0, .int .i64 0, .string text]) ∧ Below w.heap.size w w' := by
  go_enter Tryz.func233, Tryz.ntmps233
  go_wp2
  exact bodyPost_ret (v := .agg #[.int .i64 0, .int .i64 0, .string text]) (by simp [results, Tryz.results233, go_sem]) rfl ⟨rfl, by (repeat' (first | exact Below.refl _ _ | refine Below.drew ?_ | refine Below.alloc ?_ ?_ _ | refine Below.setCell ?_ ?_ _)) <;> simp⟩
set_option maxHeartbeats 400000 in
theorem right_door (n : Int) (w : World) : Calls Tryz.prog 234 #[.agg #[.int .i64 n]] w fun e w' => e = .returned (.bool (isB n 1 2)) ∧ Below w.heap.size w w' := by
  go_enter Tryz.func234, Tryz.ntmps234
  go_wp2_with (first | (go_at_call 50; refine (user_impl _ _).mono ?_; rintro e w' ⟨rfl, rfl⟩) | (go_at_call 94; refine (between_impl _ _ _ _).mono ?_; rintro e w' ⟨rfl, rfl⟩) | (go_at_call 142; refine (id_impl _ _).mono ?_; rintro e w' ⟨rfl, rfl⟩))
  go_ret
  exact ⟨rfl, (Below.refl _ _).alloc (Nat.le_refl _) _⟩
set_option maxHeartbeats 400000 in
theorem tells_door (n : Int) (w : World) : Calls Tryz.prog 235 #[.agg #[.int .i64 n]] w fun e w' => e = .returned (.agg #[.int .i64 0, .int .i64 n, .string ⟨#[]⟩]) ∧ Below w.heap.size w w' := by
  go_enter Tryz.func235, Tryz.ntmps235
  go_wp2
  exact bodyPost_ret (v := .agg #[.int .i64 0, .int .i64 n, .string ⟨#[]⟩]) (by simp [results, Tryz.results235, go_sem]) rfl ⟨rfl, by (repeat' (first | exact Below.refl _ _ | refine Below.drew ?_ | refine Below.alloc ?_ ?_ _ | refine Below.setCell ?_ ?_ _)) <;> simp⟩
set_option maxHeartbeats 400000 in
theorem right_sight (n : Int) (w : World) : Calls Tryz.prog 236 #[.agg #[.int .i64 n]] w fun e w' => e = .returned (.bool (isB n 1 3)) ∧ Below w.heap.size w w' := by
  go_enter Tryz.func236, Tryz.ntmps236
  go_wp2_with (first | (go_at_call 50; refine (user_impl _ _).mono ?_; rintro e w' ⟨rfl, rfl⟩) | (go_at_call 94; refine (between_impl _ _ _ _).mono ?_; rintro e w' ⟨rfl, rfl⟩) | (go_at_call 142; refine (id_impl _ _).mono ?_; rintro e w' ⟨rfl, rfl⟩))
  go_ret
  exact ⟨rfl, (Below.refl _ _).alloc (Nat.le_refl _) _⟩
set_option maxHeartbeats 400000 in
theorem tells_sight (n : Int) (w : World) : Calls Tryz.prog 237 #[.agg #[.int .i64 n]] w fun e w' => e = .returned (.agg #[.int .i64 0, .int .i64 n, .string ⟨#[]⟩]) ∧ Below w.heap.size w w' := by
  go_enter Tryz.func237, Tryz.ntmps237
  go_wp2
  exact bodyPost_ret (v := .agg #[.int .i64 0, .int .i64 n, .string ⟨#[]⟩]) (by simp [results, Tryz.results237, go_sem]) rfl ⟨rfl, by (repeat' (first | exact Below.refl _ _ | refine Below.drew ?_ | refine Below.alloc ?_ ?_ _ | refine Below.setCell ?_ ?_ _)) <;> simp⟩
set_option maxHeartbeats 400000 in
theorem right_saying (text : ByteArray) (w : World) : Calls Tryz.prog 238 #[.agg #[.string text]] w fun e w' => e = .returned (.bool ((!text.toList.isEmpty) && decide ((text.size : Int) ≤ 30))) ∧ Below w.heap.size w w' := by
  cases c0 : text.toList.isEmpty
  all_goals
    go_enter Tryz.func238, Tryz.ntmps238
    go_wp2_with (first | (go_at_call 50; refine (user_impl _ _).mono ?_; rintro e w' ⟨rfl, rfl⟩) | (go_at_call 94; refine (between_impl _ _ _ _).mono ?_; rintro e w' ⟨rfl, rfl⟩) | (go_at_call 142; refine (id_impl _ _).mono ?_; rintro e w' ⟨rfl, rfl⟩))
    go_ret
    exact ⟨ret_bool (by simp), (Below.refl _ _).alloc (Nat.le_refl _) _⟩
set_option maxHeartbeats 400000 in
theorem tells_saying (text : ByteArray) (w : World) : Calls Tryz.prog 239 #[.agg #[.string text]] w fun e w' => e = .returned (.agg #[.int .i64 0, .int .i64 0, .string text]) ∧ Below w.heap.size w w' := by
  go_enter Tryz.func239, Tryz.ntmps239
  go_wp2
  exact bodyPost_ret (v := .agg #[.int .i64 0, .int .i64 0, .string text]) (by simp [results, Tryz.results239, go_sem]) rfl ⟨rfl, by (repeat' (first | exact Below.refl _ _ | refine Below.drew ?_ | refine Below.alloc ?_ ?_ _ | refine Below.setCell ?_ ?_ _)) <;> simp⟩
set_option maxHeartbeats 400000 in
theorem right_hiding (key : Int) (w : World) : Calls Tryz.prog 240 #[.agg #[.int .i64 key]] w fun e w' => e = .returned (.bool (isB key 1 1000000)) ∧ Below w.heap.size w w' := by
  go_enter Tryz.func240, Tryz.ntmps240
  go_wp2_with (first | (go_at_call 50; refine (user_impl _ _).mono ?_; rintro e w' ⟨rfl, rfl⟩) | (go_at_call 94; refine (between_impl _ _ _ _).mono ?_; rintro e w' ⟨rfl, rfl⟩) | (go_at_call 142; refine (id_impl _ _).mono ?_; rintro e w' ⟨rfl, rfl⟩))
  go_ret
  exact ⟨rfl, (Below.refl _ _).alloc (Nat.le_refl _) _⟩
set_option maxHeartbeats 400000 in
theorem tells_hiding (key : Int) (w : World) : Calls Tryz.prog 241 #[.agg #[.int .i64 key]] w fun e w' => e = .returned (.agg #[.int .i64 key, .int .i64 0, .string ⟨#[]⟩]) ∧ Below w.heap.size w w' := by
  go_enter Tryz.func241, Tryz.ntmps241
  go_wp2
  exact bodyPost_ret (v := .agg #[.int .i64 key, .int .i64 0, .string ⟨#[]⟩]) (by simp [results, Tryz.results241, go_sem]) rfl ⟨rfl, by (repeat' (first | exact Below.refl _ _ | refine Below.drew ?_ | refine Below.alloc ?_ ?_ _ | refine Below.setCell ?_ ?_ _)) <;> simp⟩
set_option maxHeartbeats 400000 in
theorem right_unknown (w : World) : Calls Tryz.prog 242 #[.agg #[]] w fun e w' => e = .returned (.bool (false)) ∧ Below w.heap.size w w' := by
  go_enter Tryz.func242, Tryz.ntmps242
  go_wp2_with (first | (go_at_call 50; refine (user_impl _ _).mono ?_; rintro e w' ⟨rfl, rfl⟩) | (go_at_call 94; refine (between_impl _ _ _ _).mono ?_; rintro e w' ⟨rfl, rfl⟩) | (go_at_call 142; refine (id_impl _ _).mono ?_; rintro e w' ⟨rfl, rfl⟩))
  go_ret
  exact ⟨rfl, (Below.refl _ _).alloc (Nat.le_refl _) _⟩
set_option maxHeartbeats 400000 in
theorem tells_unknown (w : World) : Calls Tryz.prog 243 #[.agg #[]] w fun e w' => e = .returned (.agg #[.int .i64 0, .int .i64 0, .string ⟨#[]⟩]) ∧ Below w.heap.size w w' := by
  go_enter Tryz.func243, Tryz.ntmps243
  go_wp2
  exact bodyPost_ret (v := .agg #[.int .i64 0, .int .i64 0, .string ⟨#[]⟩]) (by simp [results, Tryz.results243, go_sem]) rfl ⟨rfl, by (repeat' (first | exact Below.refl _ _ | refine Below.drew ?_ | refine Below.alloc ?_ ?_ _ | refine Below.setCell ?_ ?_ _)) <;> simp⟩
set_option maxHeartbeats 400000 in
theorem details_impl (id room author kind key n : Int) (text : ByteArray) (a : Option Addr) (len cap : Nat) (time : Int) (w : World) :
    Calls Tryz.prog 145 #[.agg #[.int .i64 id, .int .i64 room, .int .i64 author, .int .i64 kind, .int .i64 key, .int .i64 n, .string text, .slice a len cap, .int .i64 time]] w fun e w' => e = .returned (.agg #[.int .i64 key, .int .i64 n, .string text]) ∧ Below w.heap.size w w' := by
  go_enter Tryz.func145, Tryz.ntmps145
  go_wp2
  exact bodyPost_ret (v := .agg #[.int .i64 key, .int .i64 n, .string text]) (by simp [results, Tryz.results145, go_sem]) rfl ⟨rfl, (by (repeat' (first | exact Below.refl _ _ | refine Below.drew ?_ | refine Below.alloc ?_ ?_ _ | refine Below.setCell ?_ ?_ _)) <;> simp)⟩
set_option maxHeartbeats 400000 in
theorem deed_creation (id room author kind key n : Int) (text : ByteArray) (a : Option Addr) (len cap : Nat) (time : Int) (w : World) (hk : kind = 1) :
    Calls Tryz.prog 144 #[.agg #[.int .i64 id, .int .i64 room, .int .i64 author, .int .i64 kind, .int .i64 key, .int .i64 n, .string text, .slice a len cap, .int .i64 time]] w fun e w' => e = .returned (.iface 189 (.agg #[])) ∧ Below w.heap.size w w' := by
  subst hk
  go_enter Tryz.func144, Tryz.ntmps144
  go_wp2
  go_ret
  exact ⟨rfl, (Below.refl _ _).alloc (Nat.le_refl _) _⟩
set_option maxHeartbeats 400000 in
theorem deed_coming (id room author kind key n : Int) (text : ByteArray) (a : Option Addr) (len cap : Nat) (time : Int) (w : World) (hk : kind = 2) :
    Calls Tryz.prog 144 #[.agg #[.int .i64 id, .int .i64 room, .int .i64 author, .int .i64 kind, .int .i64 key, .int .i64 n, .string text, .slice a len cap, .int .i64 time]] w fun e w' => e = .returned (.iface 191 (.agg #[.int .i64 key, .int .i64 n])) ∧ Below w.heap.size w w' := by
  subst hk
  go_enter Tryz.func144, Tryz.ntmps144
  go_wp2
  go_ret
  exact ⟨rfl, (Below.refl _ _).alloc (Nat.le_refl _) _⟩
set_option maxHeartbeats 400000 in
theorem deed_might (id room author kind key n : Int) (text : ByteArray) (a : Option Addr) (len cap : Nat) (time : Int) (w : World) (hk : kind = 3) :
    Calls Tryz.prog 144 #[.agg #[.int .i64 id, .int .i64 room, .int .i64 author, .int .i64 kind, .int .i64 key, .int .i64 n, .string text, .slice a len cap, .int .i64 time]] w fun e w' => e = .returned (.iface 193 (.agg #[.int .i64 key, .int .i64 n])) ∧ Below w.heap.size w w' := by
  subst hk
  go_enter Tryz.func144, Tryz.ntmps144
  go_wp2
  go_ret
  exact ⟨rfl, (Below.refl _ _).alloc (Nat.le_refl _) _⟩
set_option maxHeartbeats 400000 in
theorem deed_topic (id room author kind key n : Int) (text : ByteArray) (a : Option Addr) (len cap : Nat) (time : Int) (w : World) (hk : kind = 4) :
    Calls Tryz.prog 144 #[.agg #[.int .i64 id, .int .i64 room, .int .i64 author, .int .i64 kind, .int .i64 key, .int .i64 n, .string text, .slice a len cap, .int .i64 time]] w fun e w' => e = .returned (.iface 195 (.agg #[.string text])) ∧ Below w.heap.size w w' := by
  subst hk
  go_enter Tryz.func144, Tryz.ntmps144
  go_wp2
  go_ret
  exact ⟨rfl, (Below.refl _ _).alloc (Nat.le_refl _) _⟩
set_option maxHeartbeats 400000 in
theorem deed_door (id room author kind key n : Int) (text : ByteArray) (a : Option Addr) (len cap : Nat) (time : Int) (w : World) (hk : kind = 5) :
    Calls Tryz.prog 144 #[.agg #[.int .i64 id, .int .i64 room, .int .i64 author, .int .i64 kind, .int .i64 key, .int .i64 n, .string text, .slice a len cap, .int .i64 time]] w fun e w' => e = .returned (.iface 197 (.agg #[.int .i64 n])) ∧ Below w.heap.size w w' := by
  subst hk
  go_enter Tryz.func144, Tryz.ntmps144
  go_wp2
  go_ret
  exact ⟨rfl, (Below.refl _ _).alloc (Nat.le_refl _) _⟩
set_option maxHeartbeats 400000 in
theorem deed_sight (id room author kind key n : Int) (text : ByteArray) (a : Option Addr) (len cap : Nat) (time : Int) (w : World) (hk : kind = 6) :
    Calls Tryz.prog 144 #[.agg #[.int .i64 id, .int .i64 room, .int .i64 author, .int .i64 kind, .int .i64 key, .int .i64 n, .string text, .slice a len cap, .int .i64 time]] w fun e w' => e = .returned (.iface 198 (.agg #[.int .i64 n])) ∧ Below w.heap.size w w' := by
  subst hk
  go_enter Tryz.func144, Tryz.ntmps144
  go_wp2
  go_ret
  exact ⟨rfl, (Below.refl _ _).alloc (Nat.le_refl _) _⟩
set_option maxHeartbeats 400000 in
theorem deed_saying (id room author kind key n : Int) (text : ByteArray) (a : Option Addr) (len cap : Nat) (time : Int) (w : World) (hk : kind = 7) :
    Calls Tryz.prog 144 #[.agg #[.int .i64 id, .int .i64 room, .int .i64 author, .int .i64 kind, .int .i64 key, .int .i64 n, .string text, .slice a len cap, .int .i64 time]] w fun e w' => e = .returned (.iface 199 (.agg #[.string text])) ∧ Below w.heap.size w w' := by
  subst hk
  go_enter Tryz.func144, Tryz.ntmps144
  go_wp2
  go_ret
  exact ⟨rfl, (Below.refl _ _).alloc (Nat.le_refl _) _⟩
set_option maxHeartbeats 400000 in
theorem deed_hiding (id room author kind key n : Int) (text : ByteArray) (a : Option Addr) (len cap : Nat) (time : Int) (w : World) (hk : kind = 8) :
    Calls Tryz.prog 144 #[.agg #[.int .i64 id, .int .i64 room, .int .i64 author, .int .i64 kind, .int .i64 key, .int .i64 n, .string text, .slice a len cap, .int .i64 time]] w fun e w' => e = .returned (.iface 201 (.agg #[.int .i64 key])) ∧ Below w.heap.size w w' := by
  subst hk
  go_enter Tryz.func144, Tryz.ntmps144
  go_wp2
  go_ret
  exact ⟨rfl, (Below.refl _ _).alloc (Nat.le_refl _) _⟩
set_option maxHeartbeats 400000 in
theorem deed_unknown (id room author kind key n : Int) (text : ByteArray) (a : Option Addr) (len cap : Nat) (time : Int) (w : World) (k1 : (kind == 1) = false) (k2 : (kind == 2) = false) (k3 : (kind == 3) = false) (k4 : (kind == 4) = false) (k5 : (kind == 5) = false) (k6 : (kind == 6) = false) (k7 : (kind == 7) = false) (k8 : (kind == 8) = false) :
    Calls Tryz.prog 144 #[.agg #[.int .i64 id, .int .i64 room, .int .i64 author, .int .i64 kind, .int .i64 key, .int .i64 n, .string text, .slice a len cap, .int .i64 time]] w fun e w' => e = .returned (.iface 202 (.agg #[])) ∧ Below w.heap.size w w' := by
  go_enter Tryz.func144, Tryz.ntmps144
  go_wp2
  go_ret
  exact ⟨rfl, (Below.refl _ _).alloc (Nat.le_refl _) _⟩
end Go.Proofs.YtjdkenopfnepaaaGreat
