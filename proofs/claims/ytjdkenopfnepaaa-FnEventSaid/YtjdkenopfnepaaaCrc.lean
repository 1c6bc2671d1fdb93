/- The contracts of the CRC's functions, the specification's and the program's: one and the same register, bit by bit. -/
import Derived.Test.YtjdkenopfnepaaaBytes
import Derived.OpenShut
namespace Go.Proofs.Ytjdkenopfnepaaa
open Go.RowKit

/-- One bit; k bits; a byte; a text; the CRC. -/
def bitStep (q : Int) : Int := if (bits .and .u32 q 1 == 1) = true then bits .xor .u32 (q / 2) 3988292384 else q / 2
def bitSteps : Nat → Int → Int
  | 0, q => q
  | k + 1, q => bitStep (bitSteps k q)
def byteStep (r c : Int) : Int := bitSteps 8 (bits .xor .u32 r c)
def crcL (l : List UInt8) (r : Int) : Int := l.foldl (fun q b => byteStep q (b.toNat : Int)) r
def crcOf (crc : Int) (l : List UInt8) : Int := bits .xor .u32 (crcL l (bits .xor .u32 crc 4294967295)) 4294967295
theorem crcL_snoc (l : List UInt8) (b : UInt8) (r : Int) : crcL (l ++ [b]) r = byteStep (crcL l r) (b.toNat : Int) := by simp [crcL]
def In32 (q : Int) : Prop := 0 ≤ q ∧ q ≤ 4294967295
theorem xor32 (a b : Int) : In32 (bits .xor .u32 a b) := bounds_u32 (wf_bits _ _ _ _)
theorem bitStep_in {q : Int} (h : In32 q) : In32 (bitStep q) := by
  unfold bitStep
  split
  · exact xor32 _ _
  · unfold In32 at h ⊢; omega
theorem bitSteps_in {q : Int} (h : In32 q) : ∀ k, In32 (bitSteps k q)
  | 0 => h
  | k + 1 => bitStep_in (bitSteps_in h k)
theorem byteStep_in (r c : Int) : In32 (byteStep r c) := bitSteps_in (xor32 _ _) 8
theorem crcL_in : ∀ (l : List UInt8) {r : Int}, In32 r → In32 (crcL l r)
  | [], _, h => h
  | b :: l, r, _ => crcL_in l (byteStep_in r (b.toNat : Int))
theorem crcOf_in (crc : Int) (l : List UInt8) : In32 (crcOf crc l) := xor32 _ _
theorem wrap_xor (a b : Int) : wrap64 (bits .xor .u32 a b) = bits .xor .u32 a b := by
  have h := xor32 a b
  unfold In32 at h
  unfold wrap64
  omega
theorem bs_take (s : ByteArray) (k : Nat) (h : k < s.size) : s.data.toList.take (k + 1) = s.data.toList.take k ++ [s[k]] := by
  rw [List.take_succ_eq_append_getElem (by simpa using h)]; rfl

set_option maxHeartbeats 400000 in
theorem step_impl (r c : Int) (w : World) (_h0 : 0 ≤ r) (_h1 : r ≤ 4294967295) (_hc0 : 0 ≤ c) (_hc1 : c ≤ 255) :
    Calls Try.prog 140 #[.int .u32 r, .int .u8 c] w fun e w' => e = .returned (.int .u32 (byteStep r c)) ∧ w = w' := by
  go_enter Try.func140, Try.ntmps140
  go_wp2
  go_loop [0, 10] (fun s i => ∃ (k : Nat) (q : Int), k ≤ 8 ∧ i = .int .i64 k ∧ s = .int .u32 q ∧ 0 ≤ q ∧ q ≤ 4294967295 ∧ Hid (q = bitSteps k (bits .xor .u32 r c))) (fun _ i => 8 - (intOf i).toNat)
  case atStart => exact ⟨0, _, by omega, rfl, rfl, (xor32 r c).1, (xor32 r c).2, rfl⟩
  case round =>
    obtain ⟨k, q, hk, rfl, rfl, hq0, hq1, HQ⟩ := hrel
    by_cases hlt : k < 8
    · have hin := bitStep_in (q := q) ⟨hq0, hq1⟩
      cases hb : (bits .and .u32 q 1 == 1)
      · have e : bitStep q = q / 2 := by unfold bitStep; rw [hb]; rfl
        have HN : Hid (q / 2 = bitSteps (k + 1) (bits .xor .u32 r c)) := by unfold Hid; rw [bitSteps, ← HQ.out, e]
        rw [e] at hin
        have HI : Hid (In32 (q / 2)) := hin
        clear e hin
        go_wp2
        go_round
        case rel => exact ⟨k + 1, _, by omega, by go_num, rfl, HI.out.1, HI.out.2, HN⟩
        case measure => simp [intOf]; omega
      · have e : bitStep q = bits .xor .u32 (q / 2) 3988292384 := by unfold bitStep; rw [hb]; rfl
        have HN : Hid (bits .xor .u32 (q / 2) 3988292384 = bitSteps (k + 1) (bits .xor .u32 r c)) := by unfold Hid; rw [bitSteps, ← HQ.out, e]
        rw [e] at hin
        have HI : Hid (In32 (bits .xor .u32 (q / 2) 3988292384)) := hin
        clear e hin
        go_wp2
        go_round
        case rel => exact ⟨k + 1, _, by omega, by go_num, rfl, HI.out.1, HI.out.2, HN⟩
        case measure => simp [intOf]; omega
    · have he : k = 8 := by omega
      have HN : Hid (q = byteStep r c) := by unfold Hid byteStep; rw [← he]; exact HQ.out
      clear he
      go_wp2
      go_ret
      exact ⟨ret_int HN.out, rfl⟩

set_option maxHeartbeats 400000 in
theorem crcmore_impl (crc : Int) (s : ByteArray) (w : World) (hs : (s.size : Int) ≤ 8000) (h0 : 0 ≤ crc) (h1 : crc ≤ 4294967295) :
    Calls Try.prog 127 #[.int .i64 crc, .string s] w fun e w' => e = .returned (.int .i64 (crcOf crc s.data.toList)) ∧ w = w' := by
  have b1 : decide (8000 < (s.size : Int)) = false := by simp; omega
  have b2 : decide (crc < 0) = false := by simp; omega
  have b3 : decide (4294967295 < crc) = false := by simp; omega
  go_enter Try.func127, Try.ntmps127
  go_wp2
  go_loop [5, 6] (fun r i => ∃ (k : Nat) (q : Int), k ≤ s.size ∧ i = .int .i64 k ∧ r = .int .u32 q ∧ 0 ≤ q ∧ q ≤ 4294967295 ∧ Hid (q = crcL (s.data.toList.take k) (bits .xor .u32 crc 4294967295))) (fun _ i => s.size - (intOf i).toNat)
  case atStart => exact ⟨0, _, by omega, rfl, rfl, (xor32 _ _).1, (xor32 _ _).2, rfl⟩
  case round =>
    obtain ⟨k, q, hk, rfl, rfl, hq0, hq1, HQ⟩ := hrel
    by_cases hlt : k < s.size
    · have HN : Hid (byteStep q (s[k].toNat : Int) = crcL (s.data.toList.take (k + 1)) (bits .xor .u32 crc 4294967295)) := by
        unfold Hid; rw [bs_take s k hlt, crcL_snoc, ← HQ.out]
      have hby : (s[k].toNat : Int) ≤ 255 := by have := s[k].toNat_lt; omega
      go_wp2_with (go_at_call 140; refine (step_impl q _ _ hq0 hq1 (by omega) hby).mono ?_; rintro e w' ⟨rfl, rfl⟩)
      go_round
      case rel => exact ⟨k + 1, _, by omega, by go_num, rfl, (byteStep_in _ _).1, (byteStep_in _ _).2, HN⟩
      case measure => simp [intOf]; omega
    · have he : k = s.size := by omega
      have HN : Hid (bits .xor .u32 q 4294967295 = crcOf crc s.data.toList) := by
        unfold Hid crcOf; rw [HQ.out, he, List.take_of_length_le (by simp)]
      clear he
      go_wp2
      go_ret
      exact ⟨ret_int ((wrap_xor _ _).trans HN.out), rfl⟩

set_option maxHeartbeats 400000 in
theorem crc_spec (crc : Int) (s : ByteArray) (w : World) (hs : (s.size : Int) ≤ 8000) (h0 : 0 ≤ crc) (h1 : crc ≤ 4294967295) :
    Calls Try.prog 101 #[.int .i64 crc, .string s] w fun e w' => e = .returned (.int .i64 (crcOf crc s.data.toList)) ∧ w = w' := by
  go_enter Try.func101, Try.ntmps101
  go_wp2
  go_loop [5, 6] (fun r i => ∃ (k : Nat) (q : Int), k ≤ s.size ∧ i = .int .i64 k ∧ r = .int .u32 q ∧ 0 ≤ q ∧ q ≤ 4294967295 ∧ Hid (q = crcL (s.data.toList.take k) (bits .xor .u32 crc 4294967295))) (fun _ i => s.size - (intOf i).toNat)
  case atStart => exact ⟨0, _, by omega, rfl, rfl, (xor32 _ _).1, (xor32 _ _).2, rfl⟩
  case round =>
    obtain ⟨k, p, hk, rfl, rfl, hp0, hp1, HP⟩ := hrel
    by_cases hlt : k < s.size
    · have HN : Hid (byteStep p (s[k].toNat : Int) = crcL (s.data.toList.take (k + 1)) (bits .xor .u32 crc 4294967295)) := by
        unfold Hid; rw [bs_take s k hlt, crcL_snoc, ← HP.out]
      have hby : (s[k].toNat : Int) ≤ 255 := by have := s[k].toNat_lt; omega
      go_wp2
      go_loop [5, 7] (fun r i => ∃ (j : Nat) (q : Int), j ≤ 8 ∧ i = .int .i64 j ∧ r = .int .u32 q ∧ 0 ≤ q ∧ q ≤ 4294967295 ∧ Hid (q = bitSteps j (bits .xor .u32 p (s[k].toNat : Int)))) (fun _ i => 8 - (intOf i).toNat)
      case atStart => exact ⟨0, _, by omega, rfl, rfl, (xor32 _ _).1, (xor32 _ _).2, rfl⟩
      case round =>
        obtain ⟨j, q, hj, rfl, rfl, hq0, hq1, HQ⟩ := hrel
        by_cases hjt : j < 8
        · have hin := bitStep_in (q := q) ⟨hq0, hq1⟩
          cases hb : (bits .and .u32 q 1 == 1)
          · have e : bitStep q = q / 2 := by unfold bitStep; rw [hb]; rfl
            have HM : Hid (q / 2 = bitSteps (j + 1) (bits .xor .u32 p (s[k].toNat : Int))) := by unfold Hid; rw [bitSteps, ← HQ.out, e]
            rw [e] at hin
            have HI : Hid (In32 (q / 2)) := hin
            clear e hin
            go_wp2
            go_round
            case rel => exact ⟨j + 1, _, by omega, by go_num, rfl, HI.out.1, HI.out.2, HM⟩
            case measure => simp [intOf]; omega
          · have e : bitStep q = bits .xor .u32 (q / 2) 3988292384 := by unfold bitStep; rw [hb]; rfl
            have HM : Hid (bits .xor .u32 (q / 2) 3988292384 = bitSteps (j + 1) (bits .xor .u32 p (s[k].toNat : Int))) := by unfold Hid; rw [bitSteps, ← HQ.out, e]
            rw [e] at hin
            have HI : Hid (In32 (bits .xor .u32 (q / 2) 3988292384)) := hin
            clear e hin
            go_wp2
            go_round
            case rel => exact ⟨j + 1, _, by omega, by go_num, rfl, HI.out.1, HI.out.2, HM⟩
            case measure => simp [intOf]; omega
        · have he : j = 8 := by omega
          have HM : Hid (q = byteStep p (s[k].toNat : Int)) := by unfold Hid byteStep; rw [← he]; exact HQ.out
          clear he
          go_wp2
          go_round
          case rel => exact ⟨k + 1, _, by omega, by go_num, rfl, hq0, hq1, by unfold Hid; rw [← HN.out]; exact HM.out⟩
          case measure => simp [intOf]; omega
    · have he : k = s.size := by omega
      have HN : Hid (bits .xor .u32 p 4294967295 = crcOf crc s.data.toList) := by
        unfold Hid crcOf; rw [HP.out, he, List.take_of_length_le (by simp)]
      clear he
      go_wp2
      go_ret
      exact ⟨ret_int ((wrap_xor _ _).trans HN.out), rfl⟩
end Go.Proofs.Ytjdkenopfnepaaa
