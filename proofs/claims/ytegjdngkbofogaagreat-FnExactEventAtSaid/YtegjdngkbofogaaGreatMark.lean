/- Marks in rows of events: their texts, their numbers. -/
import Derived.Test.YtegjdngkbofogaaGreatGrTo2
namespace Go.Proofs.YtegjdngkbofogaaGreat
open Go.RowKit

theorem digit_lt (z : Nat) : 48 + z % 10 < 256 := by omega
set_option maxHeartbeats 2000000 in
set_option maxRecDepth 100000 in
theorem mark_text (n : Nat) (w : World) (h0 : 0 < n) (h1 : n < 10 ^ 10) :
    Calls Tryz.prog 63 #[.int .i64 n] w fun e w' => ∃ u : ByteArray, e = .returned (.string u) ∧ u.size ≤ 30 ∧ Below w.heap.size w w' := by
  go_enter Tryz.func63, Tryz.ntmps63
  go_wp2
  go_loopw [0, 3] (fun k s wr => ∃ (z : Nat) (u : ByteArray) (d : Nat), k = .int .i64 z ∧ s = .string u ∧ z ≤ n ∧ Hid (z < 10 ^ d) ∧ u.size + d ≤ 20 ∧ Below w.heap.size w wr) (fun k _ _ => (intOf k).toNat)
  case atStart => exact ⟨n, ⟨#[]⟩, 10, rfl, rfl, Nat.le_refl _, h1, by decide, Below.refl _ _⟩
  case round =>
    obtain ⟨z, u, d, rfl, rfl, hzn, HZ, hud, hbw⟩ := hrel
    have hz10 : z < 10000000000 := Nat.lt_of_le_of_lt hzn (by simpa using h1)
    by_cases hz : 0 < z
    · obtain ⟨c, hc⟩ : ∃ c : UInt8, (c.toNat : Int) = 48 + (z : Int) % 10 := ⟨UInt8.ofNat (48 + z % 10), by
        rw [UInt8.toNat_ofNat', Nat.mod_eq_of_lt (by have := digit_lt z; omega)]
        omega⟩
      have hcv : (convert 114 9 (.slice (some ⟨wr.heap.size, 0, none⟩) 1 1)).run Tryz.prog (wr.alloc (.cells #[.int .u8 (48 + (z : Int) % 10)] 5)) = .ok (.string ⟨#[c]⟩) (wr.alloc (.cells #[.int .u8 (48 + (z : Int) % 10)] 5)) := by
        refine row_string (n := 1) (ty := 5) (fr := (0, 0)) [c] Tryz.underlying114 Tryz.underlying5 Tryz.underlying9 rfl ?_
        rw [(MapKept.heap_alloc wr _).1]
        simp [bv, hc]
      have hd1 : 0 < d := by
        rcases Nat.eq_zero_or_pos d with h | h
        · have := HZ.out
          rw [h] at this
          omega
        · exact h
      have HN : Hid (z / 10 < 10 ^ (d - 1)) := by
        have h2 := HZ.out
        obtain ⟨m, rfl⟩ : ∃ m, d = m + 1 := ⟨d - 1, by omega⟩
        rw [Nat.pow_succ] at h2
        unfold Hid
        rw [Nat.add_sub_cancel]
        omega
      have HB : Hid (∀ o, Below w.heap.size w (wr.alloc o)) := fun o => hbw.alloc hbw.size o
      have hsz : (⟨#[c]⟩ ++ u : ByteArray).size + (d - 1) ≤ 20 := by
        rw [ByteArray.size_append]
        have : (⟨#[c]⟩ : ByteArray).size = 1 := rfl
        omega
      go_wp2
      go_roundw
      case rel => exact ⟨z / 10, ⟨#[c]⟩ ++ u, d - 1, by go_num, rfl, by omega, HN, hsz, HB.out _⟩
      case measure => simp [intOf]; omega
    · have HS : Hid ((⟨#[109]⟩ ++ u : ByteArray).size ≤ 30) := by
        have : (⟨#[109]⟩ : ByteArray).size = 1 := rfl
        unfold Hid
        rw [ByteArray.size_append]
        omega
      go_wp2
      go_ret
      exact ⟨_, rfl, HS.out, hbw⟩
end Go.Proofs.YtegjdngkbofogaaGreat
