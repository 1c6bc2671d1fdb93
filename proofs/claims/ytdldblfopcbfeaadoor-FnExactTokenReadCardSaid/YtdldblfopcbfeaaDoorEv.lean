/- An event as plain data, when it is right, and where its row of numbers lies. -/
import Derived.Test.YtdldblfopcbfeaaDoorBytes
import Derived.RegionTactic
import Derived.BigRegion
import Derived.BigQuiet
import Derived.Deep.QuietTactic
import Derived.Deep.RegionWith
import Derived.OpenShut
namespace Go.Proofs.YtdldblfopcbfeaaDoor
open Go.RowKit

/-- An event. -/
structure Ev where
  id : Int
  room : Int
  author : Int
  kind : Int
  key : Int
  n : Int
  text : ByteArray
  prev : List Int
  time : Int

/-- A row of numbers in memory (an empty one lies anywhere). -/
def NumsAt (w : World) (a : Option Addr) (zs : List Int) : Prop :=
  zs.length ≤ 1048576 ∧ (0 < zs.length → ∃ b off, a = some ⟨b, off, none⟩ ∧ b < w.heap.size ∧ ∀ j (h : j < zs.length), w.cell? ⟨b, off + j, none⟩ = some (.int .i64 zs[j]))
theorem NumsAt.kept {w w' : World} {a : Option Addr} {zs : List Int} (h : NumsAt w a zs) (hb : Below w.heap.size w w') : NumsAt w' a zs := by
  refine ⟨h.1, fun hl => ?_⟩
  obtain ⟨b, off, ha, hbb, hc⟩ := h.2 hl
  exact ⟨b, off, ha, Nat.lt_of_lt_of_le hbb hb.size, fun j hj => (hb.cell (p := ⟨b, off + j, none⟩) hbb).trans (hc j hj)⟩

theorem ret_bool {a b : Bool} (h : a = b) : Ending.returned (.bool a) = .returned (.bool b) := by rw [h]
def isB (n lo hi : Int) : Bool := decide (lo ≤ n ∧ n ≤ hi)
theorem isB_yes {n lo hi : Int} (h : isB n lo hi = true) : lo ≤ n ∧ n ≤ hi := by simpa [isB] using h
theorem isB_no {n lo hi : Int} (h : isB n lo hi = false) : ¬ (lo ≤ n ∧ n ≤ hi) := by simpa [isB] using h
/-- The numbers rise behind 'last', each an Id, none of them 'id'. -/
def prevOk (id : Int) : Int → List Int → Bool
  | _, [] => true
  | last, x :: r => decide (last < x) && isB x 1 1000000 && !(x == id) && prevOk id x r
def prevB (e : Ev) : Bool := decide (e.prev.length ≤ 4) && ((e.kind == 1) == (e.prev.length == 0)) && prevOk e.id 0 e.prev
def bodyB (e : Ev) : Bool :=
  if e.kind = 1 then e.key == 0 && e.n == 0 && e.text.size == 0
  else if e.kind = 2 then isB e.key 1 6 && isB e.n 1 4 && e.text.size == 0
  else if e.kind = 3 then isB e.key 1 6 && isB e.n 0 100 && e.text.size == 0
  else if e.kind = 4 then e.key == 0 && e.n == 0 && decide (e.text.size ≤ 30)
  else if e.kind = 5 then e.key == 0 && isB e.n 1 2 && e.text.size == 0
  else if e.kind = 6 then e.key == 0 && isB e.n 1 3 && e.text.size == 0
  else if e.kind = 7 then e.key == 0 && e.n == 0 && decide (1 ≤ e.text.size) && decide (e.text.size ≤ 30)
  else if e.kind = 8 then isB e.key 1 1000000 && e.n == 0 && e.text.size == 0
  else false
def headB (e : Ev) : Bool := isB e.id 1 1000000 && isB e.room 1 3 && isB e.author 1 6 && isB e.time 0 1000000
def rightB (e : Ev) : Bool := headB e && prevB e && bodyB e
theorem prevOk_drop {id last : Int} {zs : List Int} {k : Nat} (h : k < zs.length) : prevOk id last (zs.drop k) = (decide (last < zs[k]) && isB zs[k] 1 1000000 && !(zs[k] == id) && prevOk id zs[k] (zs.drop (k + 1))) := by
  rw [List.drop_eq_getElem_cons h]
  rfl

set_option maxHeartbeats 400000 in
theorem is_spec (n lo hi : Int) (w : World) : Calls Tryd.prog 11 #[.int .i64 n, .int .i64 lo, .int .i64 hi] w fun e w' => e = .returned (.bool (isB n lo hi)) ∧ w = w' := by
  by_cases h1 : lo ≤ n
  · by_cases h2 : n ≤ hi
    · have b1 : decide (lo ≤ n) = true := by simpa using h1
      have b2 : decide (n ≤ hi) = true := by simpa using h2
      have H : Hid (isB n lo hi = true) := by unfold Hid; simp [isB, h1, h2]
      go_enter Tryd.func11, Tryd.ntmps11
      go_wp2
      go_ret
      exact ⟨ret_bool H.out.symm, rfl⟩
    · have b1 : decide (lo ≤ n) = true := by simpa using h1
      have b2 : decide (n ≤ hi) = false := by simpa using h2
      have H : Hid (isB n lo hi = false) := by unfold Hid; simp [isB, h2]
      clear h2
      go_enter Tryd.func11, Tryd.ntmps11
      go_wp2
      go_ret
      exact ⟨ret_bool H.out.symm, rfl⟩
  · have b1 : decide (lo ≤ n) = false := by simpa using h1
    have H : Hid (isB n lo hi = false) := by unfold Hid; simp [isB, h1]
    clear h1
    go_enter Tryd.func11, Tryd.ntmps11
    go_wp2
    go_ret
    exact ⟨ret_bool H.out.symm, rfl⟩
set_option maxHeartbeats 400000 in
theorem between_impl (n lo hi : Int) (w : World) : Calls Tryd.prog 14 #[.int .i64 n, .int .i64 lo, .int .i64 hi] w fun e w' => e = .returned (.bool (isB n lo hi)) ∧ w = w' := by
  by_cases h1 : lo ≤ n
  · by_cases h2 : n ≤ hi
    · have b1 : decide (lo ≤ n) = true := by simpa using h1
      have b2 : decide (n ≤ hi) = true := by simpa using h2
      have H : Hid (isB n lo hi = true) := by unfold Hid; simp [isB, h1, h2]
      go_enter Tryd.func14, Tryd.ntmps14
      go_wp2
      go_ret
      exact ⟨ret_bool H.out.symm, rfl⟩
    · have b1 : decide (lo ≤ n) = true := by simpa using h1
      have b2 : decide (n ≤ hi) = false := by simpa using h2
      have H : Hid (isB n lo hi = false) := by unfold Hid; simp [isB, h2]
      clear h2
      go_enter Tryd.func14, Tryd.ntmps14
      go_wp2
      go_ret
      exact ⟨ret_bool H.out.symm, rfl⟩
  · have b1 : decide (lo ≤ n) = false := by simpa using h1
    have H : Hid (isB n lo hi = false) := by unfold Hid; simp [isB, h1]
    clear h1
    go_enter Tryd.func14, Tryd.ntmps14
    go_wp2
    go_ret
    exact ⟨ret_bool H.out.symm, rfl⟩
theorem user_spec (n : Int) (w : World) : Calls Tryd.prog 10 #[.int .i64 n] w fun e w' => e = .returned (.bool (isB n 1 6)) ∧ w = w' := by
  go_enter Tryd.func10, Tryd.ntmps10
  go_wp2_with (go_at_call 11; refine (is_spec _ _ _ _).mono ?_; rintro e w' ⟨rfl, rfl⟩)
  go_ret
  exact ⟨rfl, rfl⟩
theorem user_impl (n : Int) (w : World) : Calls Tryd.prog 13 #[.int .i64 n] w fun e w' => e = .returned (.bool (isB n 1 6)) ∧ w = w' := by
  go_enter Tryd.func13, Tryd.ntmps13
  go_wp2_with (go_at_call 14; refine (between_impl _ _ _ _).mono ?_; rintro e w' ⟨rfl, rfl⟩)
  go_ret
  exact ⟨rfl, rfl⟩
theorem quiet_sym {P : Program} {f : FuncId} {args : Array Value} {w : World} {n : Nat} {v : Value} (h : Calls P f args (w.drewN n) fun e w' => e = .returned v ∧ w.drewN n = w') :
    Calls P f args (w.drewN n) fun e w'' => e = .returned v ∧ ∃ m, w'' = w.drewN m := h.mono fun _ _ ⟨he, hm⟩ => ⟨he, n, hm.symm⟩
end Go.Proofs.YtdldblfopcbfeaaDoor
