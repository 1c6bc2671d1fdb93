/- The deeds behind their interface: which one an event does, whether it may be so, and what it tells. -/
import Derived.Test.YtaonnjcfpklkfahEv
import Derived.WalkSmall
import Derived.Lib.Strings
namespace Go.Proofs.Ytaonnjcfpklkfah
open Go.RowKit

set_option maxHeartbeats 400000 in
theorem right_creation (w : World) : Calls Try.prog 124 #[.agg #[]] w fun e w' => e = .returned (.bool (true)) ∧ Below w.heap.size w w' := by
  go_enter Try.func124, Try.ntmps124
  go_wp2_with (first | (go_at_call 78; refine (user_impl _ _).mono ?_; rintro e w' ⟨rfl, rfl⟩) | (go_at_call 63; refine (between_impl _ _ _ _).mono ?_; rintro e w' ⟨rfl, rfl⟩) | (go_at_call 58; refine (id_impl _ _).mono ?_; rintro e w' ⟨rfl, rfl⟩))
  go_ret
  exact ⟨rfl, (Below.refl _ _).alloc (Nat.le_refl _) _⟩
set_option maxHeartbeats 400000 in
theorem tells_creation (w : World) : Calls Try.prog 125 #[.agg #[]] w fun e w' => e = .returned (.agg #[.int .i64 0, .int .i64 0, .string ⟨#[]⟩]) ∧ Below w.heap.size w w' := by
  go_enter Try.func125, Try.ntmps125
  go_wp2
  exact bodyPost_ret (v := .agg #[.int .i64 0, .int .i64 0, .string ⟨#[]⟩]) (by simp [results, Try.results125, go_sem]) rfl ⟨rfl, by (repeat' (first | exact Below.refl _ _ | refine Below.drew ?_ | refine Below.alloc ?_ ?_ _ | refine Below.setCell ?_ ?_ _)) <;> simp⟩
set_option maxHeartbeats 400000 in
theorem right_coming (key : Int) (n : Int) (w : World) : Calls Try.prog 126 #[.agg #[.int .i64 key, .int .i64 n]] w fun e w' => e = .returned (.bool (isB key 1 6 && isB n 1 4)) ∧ Below w.heap.size w w' := by
  cases c0 : isB key 1 6
  all_goals
    go_enter Try.func126, Try.ntmps126
    go_wp2_with (first | (go_at_call 78; refine (user_impl _ _).mono ?_; rintro e w' ⟨rfl, rfl⟩) | (go_at_call 63; refine (between_impl _ _ _ _).mono ?_; rintro e w' ⟨rfl, rfl⟩) | (go_at_call 58; refine (id_impl _ _).mono ?_; rintro e w' ⟨rfl, rfl⟩))
    go_ret
    exact ⟨ret_bool (by simp), (Below.refl _ _).alloc (Nat.le_refl _) _⟩
set_option maxHeartbeats 400000 in
theorem tells_coming (key : Int) (n : Int) (w : World) : Calls Try.prog 127 #[.agg #[.int .i64 key, .int .i64 n]] w fun e w' => e = .returned (.agg #[.int .i64 key, .int .i64 n, .string ⟨#[]⟩]) ∧ Below w.heap.size w w' := by
  go_enter Try.func127, Try.ntmps127
  go_wp2
  exact bodyPost_ret (v := .agg #[.int .i64 key, .int .i64 n, .string ⟨#[]⟩]) (by simp [results, Try.results127, go_sem]) rfl ⟨rfl, by (repeat' (first | exact Below.refl _ _ | refine Below.drew ?_ | refine Below.alloc ?_ ?_ _ | refine Below.setCell ?_ ?_ _)) <;> simp⟩
set_option maxHeartbeats 400000 in
theorem right_might (key : Int) (n : Int) (w : World) : Calls Try.prog 128 #[.agg #[.int .i64 key, .int .i64 n]] w fun e w' => e = .returned (.bool (isB key 1 6 && isB n 0 100)) ∧ Below w.heap.size w w' := by
  cases c0 : isB key 1 6
  all_goals
    go_enter Try.func128, Try.ntmps128
    go_wp2_with (first | (go_at_call 78; refine (user_impl _ _).mono ?_; rintro e w' ⟨rfl, rfl⟩) | (go_at_call 63; refine (between_impl _ _ _ _).mono ?_; rintro e w' ⟨rfl, rfl⟩) | (go_at_call 58; refine (id_impl _ _).mono ?_; rintro e w' ⟨rfl, rfl⟩))
    go_ret
    exact ⟨ret_bool (by simp), (Below.refl _ _).alloc (Nat.le_refl _) _⟩
set_option maxHeartbeats 400000 in
theorem tells_might (key : Int) (n : Int) (w : World) : Calls Try.prog 129 #[.agg #[.int .i64 key, .int .i64 n]] w fun e w' => e = .returned (.agg #[.int .i64 key, .int .i64 n, .string ⟨#[]⟩]) ∧ Below w.heap.size w w' := by
  go_enter Try.func129, Try.ntmps129
  go_wp2
  exact bodyPost_ret (v := .agg #[.int .i64 key, .int .i64 n, .string ⟨#[]⟩]) (by simp [results, Try.results129, go_sem]) rfl ⟨rfl, by (repeat' (first | exact Below.refl _ _ | refine Below.drew ?_ | refine Below.alloc ?_ ?_ _ | refine Below.setCell ?_ ?_ _)) <;> simp⟩
set_option maxHeartbeats 400000 in
theorem right_topic (text : ByteArray) (w : World) : Calls Try.prog 130 #[.agg #[.string text]] w fun e w' => e = .returned (.bool (decide ((text.size : Int) ≤ 30))) ∧ Below w.heap.size w w' := by
  go_enter Try.func130, Try.ntmps130
  go_wp2_with (first | (go_at_call 78; refine (user_impl _ _).mono ?_; rintro e w' ⟨rfl, rfl⟩) | (go_at_call 63; refine (between_impl _ _ _ _).mono ?_; rintro e w' ⟨rfl, rfl⟩) | (go_at_call 58; refine (id_impl _ _).mono ?_; rintro e w' ⟨rfl, rfl⟩))
  go_ret
  exact ⟨rfl, (Below.refl _ _).alloc (Nat.le_refl _) _⟩
set_option maxHeartbeats 400000 in
theorem tells_topic (text : ByteArray) (w : World) : Calls Try.prog 131 #[.agg #[.string text]] w fun e w' => e = .returned (.agg #[.int .i64 0, .int .i64 0, .string text]) ∧ Below w.heap.size w w' := by
  go_enter Try.func131, Try.ntmps131
  go_wp2
  exact bodyPost_ret (v := .agg #[.int .i64 0, .int .i64 0, .string text]) (by simp [results, Try.results131, go_sem]) rfl ⟨rfl, by (repeat' (first | exact Below.refl _ _ | refine Below.drew ?_ | refine Below.alloc ?_ ?_ _ | refine Below.setCell ?_ ?_ _)) <;> simp⟩
set_option maxHeartbeats 400000 in
theorem right_door (n : Int) (w : World) : Calls Try.prog 132 #[.agg #[.int .i64 n]] w fun e w' => e = .returned (.bool (isB n 1 2)) ∧ Below w.heap.size w w' := by
  go_enter Try.func132, Try.ntmps132
  go_wp2_with (first | (go_at_call 78; refine (user_impl _ _).mono ?_; rintro e w' ⟨rfl, rfl⟩) | (go_at_call 63; refine (between_impl _ _ _ _).mono ?_; rintro e w' ⟨rfl, rfl⟩) | (go_at_call 58; refine (id_impl _ _).mono ?_; rintro e w' ⟨rfl, rfl⟩))
  go_ret
  exact ⟨rfl, (Below.refl _ _).alloc (Nat.le_refl _) _⟩
set_option maxHeartbeats 400000 in
theorem tells_door (n : Int) (w : World) : Calls Try.prog 133 #[.agg #[.int .i64 n]] w fun e w' => e = .returned (.agg #[.int .i64 0, .int .i64 n, .string ⟨#[]⟩]) ∧ Below w.heap.size w w' := by
  go_enter Try.func133, Try.ntmps133
  go_wp2
  exact bodyPost_ret (v := .agg #[.int .i64 0, .int .i64 n, .string ⟨#[]⟩]) (by simp [results, Try.results133, go_sem]) rfl ⟨rfl, by (repeat' (first | exact Below.refl _ _ | refine Below.drew ?_ | refine Below.alloc ?_ ?_ _ | refine Below.setCell ?_ ?_ _)) <;> simp⟩
set_option maxHeartbeats 400000 in
theorem right_sight (n : Int) (w : World) : Calls Try.prog 134 #[.agg #[.int .i64 n]] w fun e w' => e = .returned (.bool (isB n 1 3)) ∧ Below w.heap.size w w' := by
  go_enter Try.func134, Try.ntmps134
  go_wp2_with (first | (go_at_call 78; refine (user_impl _ _).mono ?_; rintro e w' ⟨rfl, rfl⟩) | (go_at_call 63; refine (between_impl _ _ _ _).mono ?_; rintro e w' ⟨rfl, rfl⟩) | (go_at_call 58; refine (id_impl _ _).mono ?_; rintro e w' ⟨rfl, rfl⟩))
  go_ret
  exact ⟨rfl, (Below.refl _ _).alloc (Nat.le_refl _) _⟩
set_option maxHeartbeats 400000 in
theorem tells_sight (n : Int) (w : World) : Calls Try.prog 135 #[.agg #[.int .i64 n]] w fun e w' => e = .returned (.agg #[.int .i64 0, .int .i64 n, .string ⟨#[]⟩]) ∧ Below w.heap.size w w' := by
  go_enter Try.func135, Try.ntmps135
  go_wp2
  exact bodyPost_ret (v := .agg #[.int .i64 0, .int .i64 n, .string ⟨#[]⟩]) (by simp [results, Try.results135, go_sem]) rfl ⟨rfl, by (repeat' (first | exact Below.refl _ _ | refine Below.drew ?_ | refine Below.alloc ?_ ?_ _ | refine Below.setCell ?_ ?_ _)) <;> simp⟩
set_option maxHeartbeats 400000 in
theorem right_saying (text : ByteArray) (w : World) : Calls Try.prog 136 #[.agg #[.string text]] w fun e w' => e = .returned (.bool ((!text.toList.isEmpty) && decide ((text.size : Int) ≤ 30))) ∧ Below w.heap.size w w' := by
  cases c0 : text.toList.isEmpty
  all_goals
    go_enter Try.func136, Try.ntmps136
    go_wp2_with (first | (go_at_call 78; refine (user_impl _ _).mono ?_; rintro e w' ⟨rfl, rfl⟩) | (go_at_call 63; refine (between_impl _ _ _ _).mono ?_; rintro e w' ⟨rfl, rfl⟩) | (go_at_call 58; refine (id_impl _ _).mono ?_; rintro e w' ⟨rfl, rfl⟩))
    go_ret
    exact ⟨ret_bool (by simp), (Below.refl _ _).alloc (Nat.le_refl _) _⟩
set_option maxHeartbeats 400000 in
theorem tells_saying (text : ByteArray) (w : World) : Calls Try.prog 137 #[.agg #[.string text]] w fun e w' => e = .returned (.agg #[.int .i64 0, .int .i64 0, .string text]) ∧ Below w.heap.size w w' := by
  go_enter Try.func137, Try.ntmps137
  go_wp2
  exact bodyPost_ret (v := .agg #[.int .i64 0, .int .i64 0, .string text]) (by simp [results, Try.results137, go_sem]) rfl ⟨rfl, by (repeat' (first | exact Below.refl _ _ | refine Below.drew ?_ | refine Below.alloc ?_ ?_ _ | refine Below.setCell ?_ ?_ _)) <;> simp⟩
set_option maxHeartbeats 400000 in
theorem right_hiding (key : Int) (w : World) : Calls Try.prog 138 #[.agg #[.int .i64 key]] w fun e w' => e = .returned (.bool (isB key 1 1000000)) ∧ Below w.heap.size w w' := by
  go_enter Try.func138, Try.ntmps138
  go_wp2_with (first | (go_at_call 78; refine (user_impl _ _).mono ?_; rintro e w' ⟨rfl, rfl⟩) | (go_at_call 63; refine (between_impl _ _ _ _).mono ?_; rintro e w' ⟨rfl, rfl⟩) | (go_at_call 58; refine (id_impl _ _).mono ?_; rintro e w' ⟨rfl, rfl⟩))
  go_ret
  exact ⟨rfl, (Below.refl _ _).alloc (Nat.le_refl _) _⟩
set_option maxHeartbeats 400000 in
theorem tells_hiding (key : Int) (w : World) : Calls Try.prog 139 #[.agg #[.int .i64 key]] w fun e w' => e = .returned (.agg #[.int .i64 key, .int .i64 0, .string ⟨#[]⟩]) ∧ Below w.heap.size w w' := by
  go_enter Try.func139, Try.ntmps139
  go_wp2
  exact bodyPost_ret (v := .agg #[.int .i64 key, .int .i64 0, .string ⟨#[]⟩]) (by simp [results, Try.results139, go_sem]) rfl ⟨rfl, by (repeat' (first | exact Below.refl _ _ | refine Below.drew ?_ | refine Below.alloc ?_ ?_ _ | refine Below.setCell ?_ ?_ _)) <;> simp⟩
set_option maxHeartbeats 400000 in
theorem right_unknown (w : World) : Calls Try.prog 140 #[.agg #[]] w fun e w' => e = .returned (.bool (false)) ∧ Below w.heap.size w w' := by
  go_enter Try.func140, Try.ntmps140
  go_wp2_with (first | (go_at_call 78; refine (user_impl _ _).mono ?_; rintro e w' ⟨rfl, rfl⟩) | (go_at_call 63; refine (between_impl _ _ _ _).mono ?_; rintro e w' ⟨rfl, rfl⟩) | (go_at_call 58; refine (id_impl _ _).mono ?_; rintro e w' ⟨rfl, rfl⟩))
  go_ret
  exact ⟨rfl, (Below.refl _ _).alloc (Nat.le_refl _) _⟩
set_option maxHeartbeats 400000 in
theorem tells_unknown (w : World) : Calls Try.prog 141 #[.agg #[]] w fun e w' => e = .returned (.agg #[.int .i64 0, .int .i64 0, .string ⟨#[]⟩]) ∧ Below w.heap.size w w' := by
  go_enter Try.func141, Try.ntmps141
  go_wp2
  exact bodyPost_ret (v := .agg #[.int .i64 0, .int .i64 0, .string ⟨#[]⟩]) (by simp [results, Try.results141, go_sem]) rfl ⟨rfl, by (repeat' (first | exact Below.refl _ _ | refine Below.drew ?_ | refine Below.alloc ?_ ?_ _ | refine Below.setCell ?_ ?_ _)) <;> simp⟩
set_option maxHeartbeats 400000 in
theorem details_impl (id room author kind key n : Int) (text : ByteArray) (a : Option Addr) (len cap : Nat) (time : Int) (w : World) :
    Calls Try.prog 82 #[.agg #[.int .i64 id, .int .i64 room, .int .i64 author, .int .i64 kind, .int .i64 key, .int .i64 n, .string text, .slice a len cap, .int .i64 time]] w fun e w' => e = .returned (.agg #[.int .i64 key, .int .i64 n, .string text]) ∧ Below w.heap.size w w' := by
  go_enter Try.func82, Try.ntmps82
  go_wp2
  exact bodyPost_ret (v := .agg #[.int .i64 key, .int .i64 n, .string text]) (by simp [results, Try.results82, go_sem]) rfl ⟨rfl, (by (repeat' (first | exact Below.refl _ _ | refine Below.drew ?_ | refine Below.alloc ?_ ?_ _ | refine Below.setCell ?_ ?_ _)) <;> simp)⟩
set_option maxHeartbeats 400000 in
theorem deed_creation (id room author kind key n : Int) (text : ByteArray) (a : Option Addr) (len cap : Nat) (time : Int) (w : World) (hk : kind = 1) :
    Calls Try.prog 81 #[.agg #[.int .i64 id, .int .i64 room, .int .i64 author, .int .i64 kind, .int .i64 key, .int .i64 n, .string text, .slice a len cap, .int .i64 time]] w fun e w' => e = .returned (.iface 134 (.agg #[])) ∧ Below w.heap.size w w' := by
  subst hk
  go_enter Try.func81, Try.ntmps81
  go_wp2
  go_ret
  exact ⟨rfl, (Below.refl _ _).alloc (Nat.le_refl _) _⟩
set_option maxHeartbeats 400000 in
theorem deed_coming (id room author kind key n : Int) (text : ByteArray) (a : Option Addr) (len cap : Nat) (time : Int) (w : World) (hk : kind = 2) :
    Calls Try.prog 81 #[.agg #[.int .i64 id, .int .i64 room, .int .i64 author, .int .i64 kind, .int .i64 key, .int .i64 n, .string text, .slice a len cap, .int .i64 time]] w fun e w' => e = .returned (.iface 136 (.agg #[.int .i64 key, .int .i64 n])) ∧ Below w.heap.size w w' := by
  subst hk
  go_enter Try.func81, Try.ntmps81
  go_wp2
  go_ret
  exact ⟨rfl, (Below.refl _ _).alloc (Nat.le_refl _) _⟩
set_option maxHeartbeats 400000 in
theorem deed_might (id room author kind key n : Int) (text : ByteArray) (a : Option Addr) (len cap : Nat) (time : Int) (w : World) (hk : kind = 3) :
    Calls Try.prog 81 #[.agg #[.int .i64 id, .int .i64 room, .int .i64 author, .int .i64 kind, .int .i64 key, .int .i64 n, .string text, .slice a len cap, .int .i64 time]] w fun e w' => e = .returned (.iface 138 (.agg #[.int .i64 key, .int .i64 n])) ∧ Below w.heap.size w w' := by
  subst hk
  go_enter Try.func81, Try.ntmps81
  go_wp2
  go_ret
  exact ⟨rfl, (Below.refl _ _).alloc (Nat.le_refl _) _⟩
set_option maxHeartbeats 400000 in
theorem deed_topic (id room author kind key n : Int) (text : ByteArray) (a : Option Addr) (len cap : Nat) (time : Int) (w : World) (hk : kind = 4) :
    Calls Try.prog 81 #[.agg #[.int .i64 id, .int .i64 room, .int .i64 author, .int .i64 kind, .int .i64 key, .int .i64 n, .string text, .slice a len cap, .int .i64 time]] w fun e w' => e = .returned (.iface 140 (.agg #[.string text])) ∧ Below w.heap.size w w' := by
  subst hk
  go_enter Try.func81, Try.ntmps81
  go_wp2
  go_ret
  exact ⟨rfl, (Below.refl _ _).alloc (Nat.le_refl _) _⟩
set_option maxHeartbeats 400000 in
theorem deed_door (id room author kind key n : Int) (text : ByteArray) (a : Option Addr) (len cap : Nat) (time : Int) (w : World) (hk : kind = 5) :
    Calls Try.prog 81 #[.agg #[.int .i64 id, .int .i64 room, .int .i64 author, .int .i64 kind, .int .i64 key, .int .i64 n, .string text, .slice a len cap, .int .i64 time]] w fun e w' => e = .returned (.iface 142 (.agg #[.int .i64 n])) ∧ Below w.heap.size w w' := by
  subst hk
  go_enter Try.func81, Try.ntmps81
  go_wp2
  go_ret
  exact ⟨rfl, (Below.refl _ _).alloc (Nat.le_refl _) _⟩
set_option maxHeartbeats 400000 in
theorem deed_sight (id room author kind key n : Int) (text : ByteArray) (a : Option Addr) (len cap : Nat) (time : Int) (w : World) (hk : kind = 6) :
    Calls Try.prog 81 #[.agg #[.int .i64 id, .int .i64 room, .int .i64 author, .int .i64 kind, .int .i64 key, .int .i64 n, .string text, .slice a len cap, .int .i64 time]] w fun e w' => e = .returned (.iface 143 (.agg #[.int .i64 n])) ∧ Below w.heap.size w w' := by
  subst hk
  go_enter Try.func81, Try.ntmps81
  go_wp2
  go_ret
  exact ⟨rfl, (Below.refl _ _).alloc (Nat.le_refl _) _⟩
set_option maxHeartbeats 400000 in
theorem deed_saying (id room author kind key n : Int) (text : ByteArray) (a : Option Addr) (len cap : Nat) (time : Int) (w : World) (hk : kind = 7) :
    Calls Try.prog 81 #[.agg #[.int .i64 id, .int .i64 room, .int .i64 author, .int .i64 kind, .int .i64 key, .int .i64 n, .string text, .slice a len cap, .int .i64 time]] w fun e w' => e = .returned (.iface 144 (.agg #[.string text])) ∧ Below w.heap.size w w' := by
  subst hk
  go_enter Try.func81, Try.ntmps81
  go_wp2
  go_ret
  exact ⟨rfl, (Below.refl _ _).alloc (Nat.le_refl _) _⟩
set_option maxHeartbeats 400000 in
theorem deed_hiding (id room author kind key n : Int) (text : ByteArray) (a : Option Addr) (len cap : Nat) (time : Int) (w : World) (hk : kind = 8) :
    Calls Try.prog 81 #[.agg #[.int .i64 id, .int .i64 room, .int .i64 author, .int .i64 kind, .int .i64 key, .int .i64 n, .string text, .slice a len cap, .int .i64 time]] w fun e w' => e = .returned (.iface 146 (.agg #[.int .i64 key])) ∧ Below w.heap.size w w' := by
  subst hk
  go_enter Try.func81, Try.ntmps81
  go_wp2
  go_ret
  exact ⟨rfl, (Below.refl _ _).alloc (Nat.le_refl _) _⟩
set_option maxHeartbeats 400000 in
theorem deed_unknown (id room author kind key n : Int) (text : ByteArray) (a : Option Addr) (len cap : Nat) (time : Int) (w : World) (k1 : (kind == 1) = false) (k2 : (kind == 2) = false) (k3 : (kind == 3) = false) (k4 : (kind == 4) = false) (k5 : (kind == 5) = false) (k6 : (kind == 6) = false) (k7 : (kind == 7) = false) (k8 : (kind == 8) = false) :
    Calls Try.prog 81 #[.agg #[.int .i64 id, .int .i64 room, .int .i64 author, .int .i64 kind, .int .i64 key, .int .i64 n, .string text, .slice a len cap, .int .i64 time]] w fun e w' => e = .returned (.iface 147 (.agg #[])) ∧ Below w.heap.size w w' := by
  go_enter Try.func81, Try.ntmps81
  go_wp2
  go_ret
  exact ⟨rfl, (Below.refl _ _).alloc (Nat.le_refl _) _⟩
end Go.Proofs.Ytaonnjcfpklkfah
