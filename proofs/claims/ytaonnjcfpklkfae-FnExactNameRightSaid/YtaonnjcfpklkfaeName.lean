/- The contracts of NameRight, the specification's and the program's: each says whether the text is a name. -/
import Derived.Test.YtaonnjcfpklkfaeRows
import Derived.WalkKit
import Derived.WalkSpells
import Derived.WalkLawsBesides
namespace Go.Proofs.Ytaonnjcfpklkfae
open Go.RowKit

/-- The call handed back a bool: true just if P. -/
def BoolOf (e : Ending) (P : Prop) : Prop := ∃ b : Bool, e = .returned (.bool b) ∧ (b = true ↔ P)
theorem BoolOf.yes {e : Ending} {P : Prop} (he : e = .returned (.bool true)) (h : P) : BoolOf e P := ⟨true, he, by simp [h]⟩
theorem BoolOf.no {e : Ending} {P : Prop} (he : e = .returned (.bool false)) (h : ¬ P) : BoolOf e P := ⟨false, he, by simp [h]⟩

def letC (c : Int) : Prop := 97 ≤ c ∧ c ≤ 122
def digC (c : Int) : Prop := 48 ≤ c ∧ c ≤ 57
def okAt (j : Nat) (c : Int) : Prop := letC c ∨ (j ≠ 0 ∧ (digC c ∨ c = 95))
def nameP (s : ByteArray) : Prop := 1 ≤ s.size ∧ s.size ≤ 20 ∧ ∀ j (h : j < s.size), okAt j (s[j].toNat : Int)
theorem nameP_step {s : ByteArray} {k : Nat} (hlt : k < s.size) (H : ∀ j (h : j < s.size), j < k → okAt j (s[j].toNat : Int)) (hc : okAt k (s[k].toNat : Int)) :
    ∀ j (h : j < s.size), j < k + 1 → okAt j (s[j].toNat : Int) := by
  intro j h hj
  by_cases e : j = k
  · subst e; exact hc
  · exact H j h (by omega)
theorem nameP_not {s : ByteArray} {k : Nat} (hlt : k < s.size) (hc : ¬ okAt k (s[k].toNat : Int)) : ¬ nameP s := fun h => hc (h.2.2 k hlt)

set_option maxHeartbeats 1000000 in
theorem name_spec (s : ByteArray) (w : World) (hs : s.size ≤ maxLen) :
    Calls Try.prog 10 #[.string s] w fun e w' => BoolOf e (nameP s) ∧ w = w' := by
  unfold maxLen at hs
  by_cases hlo : s.size < 1
  · go_enter Try.func10, Try.ntmps10
    go_wp2
    go_ret
    exact ⟨.no rfl fun h => by have := h.1; omega, rfl⟩
  by_cases hhi : 20 < s.size
  · go_enter Try.func10, Try.ntmps10
    go_wp2
    go_ret
    exact ⟨.no rfl fun h => by have := h.2.1; omega, rfl⟩
  go_enter Try.func10, Try.ntmps10
  go_wp2
  go_loop [3] (fun i => ∃ k : Nat, k ≤ s.size ∧ i = .int .i64 k ∧ Hid (∀ j (h : j < s.size), j < k → okAt j (s[j].toNat : Int))) (fun i => s.size - (intOf i).toNat)
  case atStart => exact ⟨0, Nat.zero_le _, rfl, fun j _ h => by omega⟩
  case round =>
    obtain ⟨k, hk, rfl, HK⟩ := hrel
    by_cases hlt : k < s.size
    · rcases (show (s[k].toNat : Int) < 48 ∨ (48 ≤ (s[k].toNat : Int) ∧ (s[k].toNat : Int) ≤ 57) ∨ (58 ≤ (s[k].toNat : Int) ∧ (s[k].toNat : Int) ≤ 94) ∨ (95 ≤ (s[k].toNat : Int) ∧ (s[k].toNat : Int) ≤ 95) ∨ (96 ≤ (s[k].toNat : Int) ∧ (s[k].toNat : Int) ≤ 96) ∨ (97 ≤ (s[k].toNat : Int) ∧ (s[k].toNat : Int) ≤ 122) ∨ 123 ≤ (s[k].toNat : Int) from by omega) with h1 | ⟨h1, h2⟩ | ⟨h1, h2⟩ | ⟨h1, h2⟩ | ⟨h1, h2⟩ | ⟨h1, h2⟩ | h1
      · by_cases hk0 : k < 1
        · have H : Hid (¬ okAt k (s[k].toNat : Int)) := by unfold Hid okAt letC digC; omega
          have b97 : decide (97 ≤ (s[k].toNat : Int)) = false := by simp; omega
          have b122 : decide ((s[k].toNat : Int) ≤ 122) = true := by simp; omega
          have b48 : decide (48 ≤ (s[k].toNat : Int)) = false := by simp; omega
          have b57 : decide ((s[k].toNat : Int) ≤ 57) = true := by simp; omega
          have b95 : ((s[k].toNat : Int) != 95) = true := by simp; omega
          have bk : ((k : Int) == 0) = true := by simp; omega
          go_wp2
          go_ret
          exact ⟨.no rfl (nameP_not hlt H.out), rfl⟩
        · have H : Hid (¬ okAt k (s[k].toNat : Int)) := by unfold Hid okAt letC digC; omega
          have b97 : decide (97 ≤ (s[k].toNat : Int)) = false := by simp; omega
          have b122 : decide ((s[k].toNat : Int) ≤ 122) = true := by simp; omega
          have b48 : decide (48 ≤ (s[k].toNat : Int)) = false := by simp; omega
          have b57 : decide ((s[k].toNat : Int) ≤ 57) = true := by simp; omega
          have b95 : ((s[k].toNat : Int) != 95) = true := by simp; omega
          have bk : ((k : Int) == 0) = false := by simp; omega
          go_wp2
          go_ret
          exact ⟨.no rfl (nameP_not hlt H.out), rfl⟩
      · by_cases hk0 : k < 1
        · have H : Hid (¬ okAt k (s[k].toNat : Int)) := by unfold Hid okAt letC digC; omega
          have b97 : decide (97 ≤ (s[k].toNat : Int)) = false := by simp; omega
          have b122 : decide ((s[k].toNat : Int) ≤ 122) = true := by simp; omega
          have b48 : decide (48 ≤ (s[k].toNat : Int)) = true := by simp; omega
          have b57 : decide ((s[k].toNat : Int) ≤ 57) = true := by simp; omega
          have b95 : ((s[k].toNat : Int) != 95) = true := by simp; omega
          have bk : ((k : Int) == 0) = true := by simp; omega
          go_wp2
          go_ret
          exact ⟨.no rfl (nameP_not hlt H.out), rfl⟩
        · have H : Hid (okAt k (s[k].toNat : Int)) := by unfold Hid okAt letC digC; omega
          have b97 : decide (97 ≤ (s[k].toNat : Int)) = false := by simp; omega
          have b122 : decide ((s[k].toNat : Int) ≤ 122) = true := by simp; omega
          have b48 : decide (48 ≤ (s[k].toNat : Int)) = true := by simp; omega
          have b57 : decide ((s[k].toNat : Int) ≤ 57) = true := by simp; omega
          have b95 : ((s[k].toNat : Int) != 95) = true := by simp; omega
          have bk : ((k : Int) == 0) = false := by simp; omega
          go_wp2
          go_round
          case rel => exact ⟨k + 1, by omega, by go_num, nameP_step hlt HK.out H.out⟩
          case measure => simp [intOf]; omega
      · by_cases hk0 : k < 1
        · have H : Hid (¬ okAt k (s[k].toNat : Int)) := by unfold Hid okAt letC digC; omega
          have b97 : decide (97 ≤ (s[k].toNat : Int)) = false := by simp; omega
          have b122 : decide ((s[k].toNat : Int) ≤ 122) = true := by simp; omega
          have b48 : decide (48 ≤ (s[k].toNat : Int)) = true := by simp; omega
          have b57 : decide ((s[k].toNat : Int) ≤ 57) = false := by simp; omega
          have b95 : ((s[k].toNat : Int) != 95) = true := by simp; omega
          have bk : ((k : Int) == 0) = true := by simp; omega
          go_wp2
          go_ret
          exact ⟨.no rfl (nameP_not hlt H.out), rfl⟩
        · have H : Hid (¬ okAt k (s[k].toNat : Int)) := by unfold Hid okAt letC digC; omega
          have b97 : decide (97 ≤ (s[k].toNat : Int)) = false := by simp; omega
          have b122 : decide ((s[k].toNat : Int) ≤ 122) = true := by simp; omega
          have b48 : decide (48 ≤ (s[k].toNat : Int)) = true := by simp; omega
          have b57 : decide ((s[k].toNat : Int) ≤ 57) = false := by simp; omega
          have b95 : ((s[k].toNat : Int) != 95) = true := by simp; omega
          have bk : ((k : Int) == 0) = false := by simp; omega
          go_wp2
          go_ret
          exact ⟨.no rfl (nameP_not hlt H.out), rfl⟩
      · by_cases hk0 : k < 1
        · have H : Hid (¬ okAt k (s[k].toNat : Int)) := by unfold Hid okAt letC digC; omega
          have b97 : decide (97 ≤ (s[k].toNat : Int)) = false := by simp; omega
          have b122 : decide ((s[k].toNat : Int) ≤ 122) = true := by simp; omega
          have b48 : decide (48 ≤ (s[k].toNat : Int)) = true := by simp; omega
          have b57 : decide ((s[k].toNat : Int) ≤ 57) = false := by simp; omega
          have b95 : ((s[k].toNat : Int) != 95) = false := by simp; omega
          have bk : ((k : Int) == 0) = true := by simp; omega
          go_wp2
          go_ret
          exact ⟨.no rfl (nameP_not hlt H.out), rfl⟩
        · have H : Hid (okAt k (s[k].toNat : Int)) := by unfold Hid okAt letC digC; omega
          have b97 : decide (97 ≤ (s[k].toNat : Int)) = false := by simp; omega
          have b122 : decide ((s[k].toNat : Int) ≤ 122) = true := by simp; omega
          have b48 : decide (48 ≤ (s[k].toNat : Int)) = true := by simp; omega
          have b57 : decide ((s[k].toNat : Int) ≤ 57) = false := by simp; omega
          have b95 : ((s[k].toNat : Int) != 95) = false := by simp; omega
          have bk : ((k : Int) == 0) = false := by simp; omega
          go_wp2
          go_round
          case rel => exact ⟨k + 1, by omega, by go_num, nameP_step hlt HK.out H.out⟩
          case measure => simp [intOf]; omega
      · by_cases hk0 : k < 1
        · have H : Hid (¬ okAt k (s[k].toNat : Int)) := by unfold Hid okAt letC digC; omega
          have b97 : decide (97 ≤ (s[k].toNat : Int)) = false := by simp; omega
          have b122 : decide ((s[k].toNat : Int) ≤ 122) = true := by simp; omega
          have b48 : decide (48 ≤ (s[k].toNat : Int)) = true := by simp; omega
          have b57 : decide ((s[k].toNat : Int) ≤ 57) = false := by simp; omega
          have b95 : ((s[k].toNat : Int) != 95) = true := by simp; omega
          have bk : ((k : Int) == 0) = true := by simp; omega
          go_wp2
          go_ret
          exact ⟨.no rfl (nameP_not hlt H.out), rfl⟩
        · have H : Hid (¬ okAt k (s[k].toNat : Int)) := by unfold Hid okAt letC digC; omega
          have b97 : decide (97 ≤ (s[k].toNat : Int)) = false := by simp; omega
          have b122 : decide ((s[k].toNat : Int) ≤ 122) = true := by simp; omega
          have b48 : decide (48 ≤ (s[k].toNat : Int)) = true := by simp; omega
          have b57 : decide ((s[k].toNat : Int) ≤ 57) = false := by simp; omega
          have b95 : ((s[k].toNat : Int) != 95) = true := by simp; omega
          have bk : ((k : Int) == 0) = false := by simp; omega
          go_wp2
          go_ret
          exact ⟨.no rfl (nameP_not hlt H.out), rfl⟩
      · by_cases hk0 : k < 1
        · have H : Hid (okAt k (s[k].toNat : Int)) := by unfold Hid okAt letC digC; omega
          have b97 : decide (97 ≤ (s[k].toNat : Int)) = true := by simp; omega
          have b122 : decide ((s[k].toNat : Int) ≤ 122) = true := by simp; omega
          have b48 : decide (48 ≤ (s[k].toNat : Int)) = true := by simp; omega
          have b57 : decide ((s[k].toNat : Int) ≤ 57) = false := by simp; omega
          have b95 : ((s[k].toNat : Int) != 95) = true := by simp; omega
          have bk : ((k : Int) == 0) = true := by simp; omega
          go_wp2
          go_round
          case rel => exact ⟨k + 1, by omega, by go_num, nameP_step hlt HK.out H.out⟩
          case measure => simp [intOf]; omega
        · have H : Hid (okAt k (s[k].toNat : Int)) := by unfold Hid okAt letC digC; omega
          have b97 : decide (97 ≤ (s[k].toNat : Int)) = true := by simp; omega
          have b122 : decide ((s[k].toNat : Int) ≤ 122) = true := by simp; omega
          have b48 : decide (48 ≤ (s[k].toNat : Int)) = true := by simp; omega
          have b57 : decide ((s[k].toNat : Int) ≤ 57) = false := by simp; omega
          have b95 : ((s[k].toNat : Int) != 95) = true := by simp; omega
          have bk : ((k : Int) == 0) = false := by simp; omega
          go_wp2
          go_round
          case rel => exact ⟨k + 1, by omega, by go_num, nameP_step hlt HK.out H.out⟩
          case measure => simp [intOf]; omega
      · by_cases hk0 : k < 1
        · have H : Hid (¬ okAt k (s[k].toNat : Int)) := by unfold Hid okAt letC digC; omega
          have b97 : decide (97 ≤ (s[k].toNat : Int)) = true := by simp; omega
          have b122 : decide ((s[k].toNat : Int) ≤ 122) = false := by simp; omega
          have b48 : decide (48 ≤ (s[k].toNat : Int)) = true := by simp; omega
          have b57 : decide ((s[k].toNat : Int) ≤ 57) = false := by simp; omega
          have b95 : ((s[k].toNat : Int) != 95) = true := by simp; omega
          have bk : ((k : Int) == 0) = true := by simp; omega
          go_wp2
          go_ret
          exact ⟨.no rfl (nameP_not hlt H.out), rfl⟩
        · have H : Hid (¬ okAt k (s[k].toNat : Int)) := by unfold Hid okAt letC digC; omega
          have b97 : decide (97 ≤ (s[k].toNat : Int)) = true := by simp; omega
          have b122 : decide ((s[k].toNat : Int) ≤ 122) = false := by simp; omega
          have b48 : decide (48 ≤ (s[k].toNat : Int)) = true := by simp; omega
          have b57 : decide ((s[k].toNat : Int) ≤ 57) = false := by simp; omega
          have b95 : ((s[k].toNat : Int) != 95) = true := by simp; omega
          have bk : ((k : Int) == 0) = false := by simp; omega
          go_wp2
          go_ret
          exact ⟨.no rfl (nameP_not hlt H.out), rfl⟩
    · go_wp2
      go_ret
      exact ⟨.yes rfl ⟨by omega, by omega, fun j h => HK.out j h (by omega)⟩, rfl⟩
set_option maxHeartbeats 1000000 in
theorem name_impl (s : ByteArray) (w : World) (hs : s.size ≤ maxLen) :
    Calls Try.prog 11 #[.string s] w fun e w' => BoolOf e (nameP s) ∧ w = w' := by
  unfold maxLen at hs
  by_cases hlo : s.size < 1
  · go_enter Try.func11, Try.ntmps11
    go_wp2
    go_ret
    exact ⟨.no rfl fun h => by have := h.1; omega, rfl⟩
  by_cases hhi : 20 < s.size
  · go_enter Try.func11, Try.ntmps11
    go_wp2
    go_ret
    exact ⟨.no rfl fun h => by have := h.2.1; omega, rfl⟩
  have h0 : 0 < s.size := by omega
  have bl : decide ((s.size : Int) < 1) = false := by simp; omega
  have bh : decide (20 < (s.size : Int)) = false := by simp; omega
  by_cases hl : (s[0].toNat : Int) < 97
  · have H : Hid (¬ okAt 0 (s[0].toNat : Int)) := by unfold Hid okAt letC digC; omega
    have b97 : decide (97 ≤ (s[0].toNat : Int)) = false := by simp; omega
    go_enter Try.func11, Try.ntmps11
    go_wp2
    go_ret
    exact ⟨.no rfl (nameP_not h0 H.out), rfl⟩
  by_cases hh : 122 < (s[0].toNat : Int)
  · have H : Hid (¬ okAt 0 (s[0].toNat : Int)) := by unfold Hid okAt letC digC; omega
    have b97 : decide (97 ≤ (s[0].toNat : Int)) = true := by simp; omega
    have b122 : decide ((s[0].toNat : Int) ≤ 122) = false := by simp; omega
    go_enter Try.func11, Try.ntmps11
    go_wp2
    go_ret
    exact ⟨.no rfl (nameP_not h0 H.out), rfl⟩
  have H0 : Hid (okAt 0 (s[0].toNat : Int)) := by unfold Hid okAt letC digC; omega
  have b97 : decide (97 ≤ (s[0].toNat : Int)) = true := by simp; omega
  have b122 : decide ((s[0].toNat : Int) ≤ 122) = true := by simp; omega
  go_enter Try.func11, Try.ntmps11
  go_wp2
  go_loop [3] (fun i => ∃ k : Nat, 1 ≤ k ∧ k ≤ s.size ∧ i = .int .i64 k ∧ Hid (∀ j (h : j < s.size), j < k → okAt j (s[j].toNat : Int))) (fun i => s.size - (intOf i).toNat)
  case atStart =>
    refine ⟨1, Nat.le_refl _, by omega, rfl, fun j h hj => ?_⟩
    have e : j = 0 := by omega
    subst e
    exact H0.out
  case round =>
    obtain ⟨k, hk1, hk, rfl, HK⟩ := hrel
    clear b97 b122 hl hh
    by_cases hlt : k < s.size
    · rcases (show (s[k].toNat : Int) < 48 ∨ (48 ≤ (s[k].toNat : Int) ∧ (s[k].toNat : Int) ≤ 57) ∨ (58 ≤ (s[k].toNat : Int) ∧ (s[k].toNat : Int) ≤ 94) ∨ (95 ≤ (s[k].toNat : Int) ∧ (s[k].toNat : Int) ≤ 95) ∨ (96 ≤ (s[k].toNat : Int) ∧ (s[k].toNat : Int) ≤ 96) ∨ (97 ≤ (s[k].toNat : Int) ∧ (s[k].toNat : Int) ≤ 122) ∨ 123 ≤ (s[k].toNat : Int) from by omega) with h1 | ⟨h1, h2⟩ | ⟨h1, h2⟩ | ⟨h1, h2⟩ | ⟨h1, h2⟩ | ⟨h1, h2⟩ | h1
      · have H : Hid (¬ okAt k (s[k].toNat : Int)) := by unfold Hid okAt letC digC; omega
        have b97 : decide (97 ≤ (s[k].toNat : Int)) = false := by simp; omega
        have b122 : decide ((s[k].toNat : Int) ≤ 122) = true := by simp; omega
        have b48 : decide (48 ≤ (s[k].toNat : Int)) = false := by simp; omega
        have b57 : decide ((s[k].toNat : Int) ≤ 57) = true := by simp; omega
        have b95 : ((s[k].toNat : Int) != 95) = true := by simp; omega
        go_wp2
        go_ret
        exact ⟨.no rfl (nameP_not hlt H.out), rfl⟩
      · have H : Hid (okAt k (s[k].toNat : Int)) := by unfold Hid okAt letC digC; omega
        have b97 : decide (97 ≤ (s[k].toNat : Int)) = false := by simp; omega
        have b122 : decide ((s[k].toNat : Int) ≤ 122) = true := by simp; omega
        have b48 : decide (48 ≤ (s[k].toNat : Int)) = true := by simp; omega
        have b57 : decide ((s[k].toNat : Int) ≤ 57) = true := by simp; omega
        have b95 : ((s[k].toNat : Int) != 95) = true := by simp; omega
        go_wp2
        go_round
        case rel => exact ⟨k + 1, by omega, by omega, by go_num, nameP_step hlt HK.out H.out⟩
        case measure => simp [intOf]; omega
      · have H : Hid (¬ okAt k (s[k].toNat : Int)) := by unfold Hid okAt letC digC; omega
        have b97 : decide (97 ≤ (s[k].toNat : Int)) = false := by simp; omega
        have b122 : decide ((s[k].toNat : Int) ≤ 122) = true := by simp; omega
        have b48 : decide (48 ≤ (s[k].toNat : Int)) = true := by simp; omega
        have b57 : decide ((s[k].toNat : Int) ≤ 57) = false := by simp; omega
        have b95 : ((s[k].toNat : Int) != 95) = true := by simp; omega
        go_wp2
        go_ret
        exact ⟨.no rfl (nameP_not hlt H.out), rfl⟩
      · have H : Hid (okAt k (s[k].toNat : Int)) := by unfold Hid okAt letC digC; omega
        have b97 : decide (97 ≤ (s[k].toNat : Int)) = false := by simp; omega
        have b122 : decide ((s[k].toNat : Int) ≤ 122) = true := by simp; omega
        have b48 : decide (48 ≤ (s[k].toNat : Int)) = true := by simp; omega
        have b57 : decide ((s[k].toNat : Int) ≤ 57) = false := by simp; omega
        have b95 : ((s[k].toNat : Int) != 95) = false := by simp; omega
        go_wp2
        go_round
        case rel => exact ⟨k + 1, by omega, by omega, by go_num, nameP_step hlt HK.out H.out⟩
        case measure => simp [intOf]; omega
      · have H : Hid (¬ okAt k (s[k].toNat : Int)) := by unfold Hid okAt letC digC; omega
        have b97 : decide (97 ≤ (s[k].toNat : Int)) = false := by simp; omega
        have b122 : decide ((s[k].toNat : Int) ≤ 122) = true := by simp; omega
        have b48 : decide (48 ≤ (s[k].toNat : Int)) = true := by simp; omega
        have b57 : decide ((s[k].toNat : Int) ≤ 57) = false := by simp; omega
        have b95 : ((s[k].toNat : Int) != 95) = true := by simp; omega
        go_wp2
        go_ret
        exact ⟨.no rfl (nameP_not hlt H.out), rfl⟩
      · have H : Hid (okAt k (s[k].toNat : Int)) := by unfold Hid okAt letC digC; omega
        have b97 : decide (97 ≤ (s[k].toNat : Int)) = true := by simp; omega
        have b122 : decide ((s[k].toNat : Int) ≤ 122) = true := by simp; omega
        have b48 : decide (48 ≤ (s[k].toNat : Int)) = true := by simp; omega
        have b57 : decide ((s[k].toNat : Int) ≤ 57) = false := by simp; omega
        have b95 : ((s[k].toNat : Int) != 95) = true := by simp; omega
        go_wp2
        go_round
        case rel => exact ⟨k + 1, by omega, by omega, by go_num, nameP_step hlt HK.out H.out⟩
        case measure => simp [intOf]; omega
      · have H : Hid (¬ okAt k (s[k].toNat : Int)) := by unfold Hid okAt letC digC; omega
        have b97 : decide (97 ≤ (s[k].toNat : Int)) = true := by simp; omega
        have b122 : decide ((s[k].toNat : Int) ≤ 122) = false := by simp; omega
        have b48 : decide (48 ≤ (s[k].toNat : Int)) = true := by simp; omega
        have b57 : decide ((s[k].toNat : Int) ≤ 57) = false := by simp; omega
        have b95 : ((s[k].toNat : Int) != 95) = true := by simp; omega
        go_wp2
        go_ret
        exact ⟨.no rfl (nameP_not hlt H.out), rfl⟩
    · go_wp2
      go_ret
      exact ⟨.yes rfl ⟨by omega, by omega, fun j h => HK.out j h (by omega)⟩, rfl⟩

end Go.Proofs.Ytaonnjcfpklkfae
