/- The contracts of Seal, the specification's and the program's. -/
import Derived.Test.YtjdkenopfnepaaaCrc
import Derived.Test.YtjdkenopfnepaaaJoin
namespace Go.Proofs.Ytjdkenopfnepaaa
open Go.RowKit

/-- The four bytes of a number, the lowest first. -/
def fourB (n : Int) : List UInt8 := [(n % 256).toNat.toUInt8, (n / 256 % 256).toNat.toUInt8, (n / 65536 % 256).toNat.toUInt8, (n / 16777216 % 256).toNat.toUInt8]
theorem u8_of (n : Int) (h0 : 0 ≤ n) (h1 : n ≤ 255) : (n.toNat.toUInt8.toNat : Int) = n := by
  have : n.toNat.toUInt8.toNat = n.toNat % 256 := rfl
  omega
theorem bv_four (n : Int) (h0 : 0 ≤ n) (h1 : n ≤ 4294967295) : bv (fourB n) = [.int .u8 (n % 256), .int .u8 (n / 256 % 256), .int .u8 (n / 65536 % 256), .int .u8 (n / 16777216)] := by
  have e : n / 16777216 % 256 = n / 16777216 := by omega
  simp only [bv, fourB, List.map_cons, List.map_nil, e]
  rw [u8_of (n % 256) (by omega) (by omega), u8_of (n / 256 % 256) (by omega) (by omega), u8_of (n / 65536 % 256) (by omega) (by omega), u8_of (n / 16777216) (by omega) (by omega)]

theorem bv_four2 (n : Int) (h0 : 0 ≤ n) (h1 : n ≤ 4294967295) : bv (fourB n) = [.int .u8 (n % 256), .int .u8 (n / 256 % 256), .int .u8 (n / 256 / 256 % 256), .int .u8 (n / 256 / 256 / 256 % 256)] := by
  have e1 : n / 256 / 256 % 256 = n / 65536 % 256 := by omega
  have e2 : n / 256 / 256 / 256 % 256 = n / 16777216 := by omega
  rw [e1, e2, bv_four n h0 h1]

set_option maxHeartbeats 400000 in
theorem four_spec (n : Int) (w : World) (h0 : 0 ≤ n) (h1 : n ≤ 4294967295) :
    Calls Try.prog 100 #[.int .i64 n] w fun e w' => e = .returned (.string ⟨(fourB n).toArray⟩) ∧ Below w.heap.size w w' := by
  have hcv := row_string (P := Try.prog) (w := w.alloc (.cells #[.int .u8 (n % 256), .int .u8 (n / 256 % 256), .int .u8 (n / 65536 % 256), .int .u8 (n / 16777216)] 5)) (g := w.heap.size) (n := 4) (cap := 4) (fourB n) Try.underlying22 Try.underlying5 Try.underlying9 rfl (by rw [bv_four n h0 h1]; exact (MapKept.heap_alloc w _).1)
  go_enter Try.func100, Try.ntmps100
  go_wp2
  go_ret
  exact ⟨rfl, (Below.refl _ _).alloc (Nat.le_refl _) _⟩

set_option maxHeartbeats 400000 in
theorem four_impl (n : Int) (w : World) (h0 : 0 ≤ n) (h1 : n ≤ 4294967295) :
    Calls Try.prog 98 #[.int .i64 n] w fun e w' => e = .returned (.string ⟨(fourB n).toArray⟩) ∧ Below w.heap.size w w' := by
  have hmk : ∀ w, (Instr.makeSlice 22 (.int .i64 4) (.int .i64 4)).run Try.prog w = .ok (.slice (some ⟨w.heap.size, 0, none⟩) 4 4) (w.alloc (.cells #[.int .u8 0, .int .u8 0, .int .u8 0, .int .u8 0] 5)) := fun _ => by kernel_rfl
  have hcv := row_string (P := Try.prog) (w := w.alloc (.cells #[.int .u8 (n % 256), .int .u8 (n / 256 % 256), .int .u8 (n / 256 / 256 % 256), .int .u8 (n / 256 / 256 / 256 % 256)] 5)) (g := w.heap.size) (n := 4) (cap := 4) (fourB n) Try.underlying22 Try.underlying5 Try.underlying9 rfl (by rw [bv_four2 n h0 h1]; exact (MapKept.heap_alloc w _).1)
  go_enter Try.func98, Try.ntmps98
  go_wp2
  refine wp_loop_rounds 5 ?_
  rw [rounds_succ]
  go_wp2
  rw [rounds_succ]
  go_wp2
  rw [rounds_succ]
  go_wp2
  rw [rounds_succ]
  go_wp2
  rw [rounds_succ]
  go_wp2
  go_ret
  exact ⟨rfl, (Below.refl _ _).alloc (Nat.le_refl _) _⟩

/-- The text and behind it the four bytes of its CRC. -/
def sealB (l : List UInt8) : List UInt8 := l ++ fourB (crcOf 0 l)

theorem crc_impl (s : ByteArray) (w : World) (hs : (s.size : Int) ≤ 8000) :
    Calls Try.prog 99 #[.string s] w fun e w' => e = .returned (.int .i64 (crcOf 0 s.data.toList)) ∧ w = w' := by
  go_enter Try.func99, Try.ntmps99
  go_wp2_with (go_at_call 127; refine (crcmore_impl 0 s _ hs (by omega) (by omega)).mono ?_; rintro e w' ⟨rfl, rfl⟩)
  go_ret
  exact ⟨rfl, rfl⟩

set_option maxHeartbeats 400000 in
theorem seal_spec (s : ByteArray) (w : World) (hs : (s.size : Int) ≤ 7996) :
    Calls Try.prog 50 #[.string s] w fun e w' => e = .returned (.string ⟨(sealB s.data.toList).toArray⟩) ∧ Below w.heap.size w w' := by
  have hin := crcOf_in 0 s.data.toList
  go_enter Try.func50, Try.ntmps50
  go_wp2_with fail
  refine (crc_spec 0 s _ (by omega) (by omega) (by omega)).mono ?_
  rintro e w1 ⟨rfl, rfl⟩
  go_wp2_with fail
  refine (four_spec _ _ hin.1 hin.2).mono ?_
  rintro e w1 ⟨rfl, hb1⟩
  have hl4 : (fourB (crcOf 0 s.data.toList)).length = 4 := rfl
  go_wp2
  go_ret
  exact ⟨ret_bytes (by simp [sealB]), hb1⟩

set_option maxHeartbeats 400000 in
theorem seal_impl (s : ByteArray) (w : World) (hs : (s.size : Int) ≤ 7996) :
    Calls Try.prog 46 #[.string s] w fun e w' => e = .returned (.string ⟨(sealB s.data.toList).toArray⟩) ∧ Below w.heap.size w w' := by
  have hin := crcOf_in 0 s.data.toList
  go_enter Try.func46, Try.ntmps46
  go_wp2_with fail
  refine (crc_impl s _ (by omega)).mono ?_
  rintro e w1 ⟨rfl, rfl⟩
  go_wp2_with fail
  refine (four_impl _ _ hin.1 hin.2).mono ?_
  rintro e w1 ⟨rfl, hb1⟩
  go_wp2_with fail
  refine (joined_two s _ _ _ ?_).mono ?_
  · show s.size + 4 ≤ _
    omega
  rintro e w2 ⟨rfl, hb2⟩
  go_wp2
  go_ret
  exact ⟨rfl, hb1.trans (hb2.mono hb1.size)⟩
end Go.Proofs.Ytjdkenopfnepaaa
