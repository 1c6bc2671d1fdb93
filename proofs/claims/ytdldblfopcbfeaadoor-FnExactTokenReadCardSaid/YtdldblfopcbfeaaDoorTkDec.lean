/- A number in digits, the specification's side; the text of a token. -/
import Derived.Test.YtdldblfopcbfeaaDoorEv
import Derived.Lib.ItoaNum
namespace Go.Proofs.YtdldblfopcbfeaaDoor
open Go.RowKit

theorem ba_of_list {u : ByteArray} {l : List UInt8} (h : u.data.toList = l) : u = ⟨l.toArray⟩ := by
  subst h
  rfl
theorem ret_ba {a b : ByteArray} (h : a = b) : Ending.returned (.string a) = .returned (.string b) := by rw [h]
theorem dec_small (z : Nat) (h : z < 10) : Lib.decDigits z = [UInt8.ofNat (48 + z)] := by
  rw [Lib.decDigits, dif_pos h]
theorem dec_big (z : Nat) (h : ¬ z < 10) : Lib.decDigits z = Lib.decDigits (z / 10) ++ [UInt8.ofNat (48 + z % 10)] := by
  rw [Lib.decDigits, dif_neg h]
set_option maxHeartbeats 2000000 in
set_option maxRecDepth 100000 in
theorem dec_spec (n : Nat) (w : World) (hn : (n : Int) ≤ 9223372036854775807) :
    Calls Tryd.prog 12 #[.int .i64 n] w fun e w' => e = .returned (.string ⟨(Lib.decDigits n).toArray⟩) ∧ Below w.heap.size w w' := by
  cases h0 : ((n : Int) == 0)
  · have hn0 : 0 < n := by
      have : ¬ (n : Int) = 0 := by simpa using h0
      omega
    have hneg : decide ((n : Int) < 0) = false := by simp
    have HN0 : Hid (n < 10 ^ 19) := Nat.lt_of_le_of_lt (show n ≤ 9223372036854775807 by omega) (by decide)
    go_enter Tryd.func12, Tryd.ntmps12
    go_wp2
    go_loopw [0, 4, 5] (fun k s _ wr => ∃ (z : Nat) (u : ByteArray) (d : Nat), k = .int .i64 z ∧ s = .string u ∧ z ≤ n ∧ Hid (z < 10 ^ d) ∧ u.size + d ≤ 20 ∧ Hid ((z = 0 → u.data.toList = Lib.decDigits n) ∧ (0 < z → Lib.decDigits n = Lib.decDigits z ++ u.data.toList)) ∧ Below w.heap.size w wr) (fun k _ _ _ => (intOf k).toNat)
    case atStart => exact ⟨n, ⟨#[]⟩, 19, rfl, rfl, Nat.le_refl _, HN0.out, by decide, ⟨fun h => absurd h (Nat.ne_of_gt hn0), fun _ => (List.append_nil _).symm⟩, Below.refl _ _⟩
    case round =>
      obtain ⟨z, u, d, rfl, rfl, hzn, HZ, hud, HU, hbw⟩ := hrel
      have hzb : (z : Int) ≤ 9223372036854775807 := by omega
      cases hz : ((z : Int) != 0)
      · have hz0 : z = 0 := by simpa using hz
        have HS : Hid (u = ⟨(Lib.decDigits n).toArray⟩) := ba_of_list (HU.out.1 hz0)
        go_wp2
        go_ret
        exact ⟨ret_ba HS.out, hbw⟩
      · have hz0 : 0 < z := by
          have : ¬ (z : Int) = 0 := by simpa using hz
          omega
        obtain ⟨c, hc, hcd⟩ : ∃ c : UInt8, (c.toNat : Int) = 48 + (z : Int) % 10 ∧ Hid (c = UInt8.ofNat (48 + z % 10)) := ⟨UInt8.ofNat (48 + z % 10), by
          rw [UInt8.toNat_ofNat', Nat.mod_eq_of_lt (by omega)]
          omega, (rfl : UInt8.ofNat (48 + z % 10) = _)⟩
        have hcv : (convert 34 9 (.slice (some ⟨wr.heap.size, 0, none⟩) 1 1)).run Tryd.prog (wr.alloc (.cells #[.int .u8 (48 + (z : Int) % 10)] 5)) = .ok (.string ⟨#[c]⟩) (wr.alloc (.cells #[.int .u8 (48 + (z : Int) % 10)] 5)) := by
          refine row_string (n := 1) (ty := 5) (fr := (0, 0)) [c] Tryd.underlying34 Tryd.underlying5 Tryd.underlying9 rfl ?_
          rw [(MapKept.heap_alloc wr _).1]
          simp [bv, hc]
        have hd0 : decide ((z : Int) % 10 < 0) = false := decide_eq_false (by omega)
        have hd1 : ¬ (z : Int) % 10 < 0 := by omega
        have HB : Hid (∀ o, Below w.heap.size w (wr.alloc o)) := fun o => hbw.alloc hbw.size o
        have hd1' : 0 < d := by
          rcases Nat.eq_zero_or_pos d with h | h
          · have := HZ.out
            rw [h] at this
            omega
          · exact h
        have HZ2 : Hid (z / 10 < 10 ^ (d - 1)) := by
          have h2 := HZ.out
          obtain ⟨m, rfl⟩ : ∃ m, d = m + 1 := ⟨d - 1, by omega⟩
          rw [Nat.pow_succ] at h2
          unfold Hid
          rw [Nat.add_sub_cancel]
          omega
        have hsz : (⟨#[c]⟩ ++ u : ByteArray).size + (d - 1) ≤ 20 := by
          rw [ByteArray.size_append]
          have : (⟨#[c]⟩ : ByteArray).size = 1 := rfl
          omega
        have HN : Hid ((z / 10 = 0 → (⟨#[c]⟩ ++ u : ByteArray).data.toList = Lib.decDigits n) ∧ (0 < z / 10 → Lib.decDigits n = Lib.decDigits (z / 10) ++ (⟨#[c]⟩ ++ u : ByteArray).data.toList)) := by
          have e : (⟨#[c]⟩ ++ u : ByteArray).data.toList = c :: u.data.toList := by simp [ByteArray.data_append]
          have h2 := HU.out.2 hz0
          rw [e]
          refine ⟨fun h => ?_, fun h => ?_⟩
          · rw [h2, dec_small z (by omega), hcd.out, Nat.mod_eq_of_lt (by omega)]
            rfl
          · rw [h2, dec_big z (by omega), hcd.out, List.append_assoc]
            rfl
        go_wp2
        go_roundw
        case rel => exact ⟨z / 10, ⟨#[c]⟩ ++ u, d - 1, by go_num, rfl, by omega, HZ2, hsz, HN, HB.out _⟩
        case measure => simp [intOf]; omega
  · have hn0 : n = 0 := by simpa using h0
    subst hn0
    have HS : Hid (Lib.decDigits 0 = [48]) := by unfold Hid; rw [dec_small 0 (by decide)]; rfl
    go_enter Tryd.func12, Tryd.ntmps12
    go_wp2
    go_ret
    exact ⟨ret_ba (by rw [HS.out]), Below.refl _ _⟩
theorem dec_len (z : Nat) (h : z < 1000) : (⟨(Lib.decDigits z).toArray⟩ : ByteArray).size ≤ 20 := by
  have e : ∀ l : List UInt8, (⟨l.toArray⟩ : ByteArray).size = l.length := fun _ => rfl
  rw [e]
  by_cases h1 : z < 10
  · rw [dec_small z h1]; simp
  · rw [dec_big z h1, List.length_append]
    by_cases h2 : z / 10 < 10
    · rw [dec_small _ h2]; simp
    · rw [dec_big _ h2, List.length_append, dec_small _ (by omega)]; simp
/-- A token's text. -/
def tokB (u p : Nat) : ByteArray := ⟨#[116]⟩ ++ ⟨(Lib.decDigits u).toArray⟩ ++ ⟨#[45]⟩ ++ ⟨(Lib.decDigits p).toArray⟩
def tokS (u p : Int) : ByteArray := if (isB u 1 6 && isB p 0 120) = true then tokB u.toNat p.toNat else ⟨#[]⟩
set_option maxHeartbeats 2000000 in
set_option maxRecDepth 100000 in
theorem token_spec (u p : Int) (w : World) :
    Calls Tryd.prog 5 #[.int .i64 u, .int .i64 p] w fun e w' => e = .returned (.string (tokS u p)) ∧ Below w.heap.size w w' := by
  cases h1 : isB u 1 6
  · have HS : Hid (tokS u p = ⟨#[]⟩) := by unfold Hid tokS; rw [h1]; rfl
    go_enter Tryd.func5, Tryd.ntmps5
    go_wp2_with (go_at_call 10; refine (user_spec _ _).mono ?_; rintro e w' ⟨rfl, rfl⟩; rw [h1])
    go_ret
    exact ⟨ret_ba HS.out.symm, Below.refl _ _⟩
  cases h2 : isB p 0 120
  · have HS : Hid (tokS u p = ⟨#[]⟩) := by unfold Hid tokS; rw [h2, Bool.and_false]; rfl
    go_enter Tryd.func5, Tryd.ntmps5
    go_wp2_with (first
      | (go_at_call 10; refine (user_spec _ _).mono ?_; rintro e w' ⟨rfl, rfl⟩; rw [h1])
      | (go_at_call 11; refine (is_spec _ _ _ _).mono ?_; rintro e w' ⟨rfl, rfl⟩; rw [h2]))
    go_ret
    exact ⟨ret_ba HS.out.symm, Below.refl _ _⟩
  have HS : Hid (tokS u p = tokB u.toNat p.toNat) := by unfold Hid tokS; rw [h1, h2]; rfl
  obtain ⟨a, rfl⟩ : ∃ a : Nat, u = a := ⟨u.toNat, by have := isB_yes h1; omega⟩
  obtain ⟨b, rfl⟩ : ∃ b : Nat, p = b := ⟨p.toNat, by have := isB_yes h2; omega⟩
  have ha6 := isB_yes h1
  have hb6 := isB_yes h2
  have HA : Hid ((a : Int) ≤ 9223372036854775807) := by have := isB_yes h1; unfold Hid; omega
  have HB : Hid ((b : Int) ≤ 9223372036854775807) := by have := isB_yes h2; unfold Hid; omega
  have HDA := fun W => dec_spec a W HA.out
  have HDB := fun W => dec_spec b W HB.out
  have hsa : (⟨(Lib.decDigits a).toArray⟩ : ByteArray).size ≤ 20 := dec_len _ (by omega)
  have hsb : (⟨(Lib.decDigits b).toArray⟩ : ByteArray).size ≤ 20 := dec_len _ (by omega)
  obtain ⟨sa, HSA⟩ : ∃ s : ByteArray, Hid (s = ⟨(Lib.decDigits a).toArray⟩) := ⟨_, (rfl : (⟨(Lib.decDigits a).toArray⟩ : ByteArray) = _)⟩
  obtain ⟨sb, HSB⟩ : ∃ s : ByteArray, Hid (s = ⟨(Lib.decDigits b).toArray⟩) := ⟨_, (rfl : (⟨(Lib.decDigits b).toArray⟩ : ByteArray) = _)⟩
  rw [← HSA.out] at HDA hsa
  rw [← HSB.out] at HDB hsb
  have HS' : Hid (tokS a b = ⟨#[116]⟩ ++ sa ++ ⟨#[45]⟩ ++ sb) := by unfold Hid; rw [HSA.out, HSB.out]; exact HS.out
  go_enter Tryd.func5, Tryd.ntmps5
  go_wp2_with (first
    | (go_at_call 10; refine (user_spec _ _).mono ?_; rintro e w' ⟨rfl, rfl⟩; rw [h1])
    | (go_at_call 11; refine (is_spec _ _ _ _).mono ?_; rintro e w' ⟨rfl, rfl⟩; rw [h2]))
  refine (HDA w).mono ?_
  rintro e w1 ⟨rfl, hb1⟩
  have HB1 : Hid (Below w.heap.size w w1) := hb1
  clear hb1
  go_wp2_with fail
  refine (HDB w1).mono ?_
  rintro e w2 ⟨rfl, hb2⟩
  have HB2 : Hid (Below w.heap.size w w2) := HB1.out.trans (hb2.mono HB1.out.size)
  clear hb2
  go_wp2
  go_ret
  exact ⟨ret_ba HS'.out.symm, HB2.out⟩
end Go.Proofs.YtdldblfopcbfeaaDoor
