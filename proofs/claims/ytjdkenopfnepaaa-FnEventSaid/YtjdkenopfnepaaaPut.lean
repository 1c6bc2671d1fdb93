/- The contracts of PutNum, the specification's and the program's: both hand back the same bytes. -/
import Derived.Test.YtjdkenopfnepaaaBytes
namespace Go.Proofs.Ytjdkenopfnepaaa
open Go.RowKit

/-- The number from 0 to 2^64-1 that stands for n. -/
def foldZ (n : Int) : Nat := if n < 0 then (-2 * n - 1).toNat else (2 * n).toNat
theorem foldZ_neg (n : Int) (h : n < 0) : 2 * -(n + 1) + 1 = (foldZ n : Int) := by unfold foldZ; rw [if_pos h]; omega
theorem foldZ_pos (n : Int) (h : 0 ≤ n) : 2 * n = (foldZ n : Int) := by unfold foldZ; rw [if_neg (by omega)]; omega
theorem foldZ_lt (n : Int) (h1 : -9223372036854775808 ≤ n) (h2 : n ≤ 9223372036854775807) : foldZ n < 128 ^ 9 * 2 := by
  unfold foldZ; split <;> omega

/-- The bytes of u, seven bits a byte, with k bytes at most ahead of the last. -/
def vb : Nat → Nat → List UInt8
  | 0, u => [u.toUInt8]
  | k + 1, u => if u < 128 then [u.toUInt8] else (u % 128 + 128).toUInt8 :: vb k (u / 128)
theorem vb_small (k u : Nat) (h : u < 128) : vb k u = [u.toUInt8] := by
  cases k with
  | zero => rfl
  | succ k => simp [vb, h]
theorem vb_big (k u : Nat) (h : ¬ u < 128) : vb (k + 1) u = (u % 128 + 128).toUInt8 :: vb k (u / 128) := by simp [vb, h]
theorem vb_len : ∀ k u, (vb k u).length ≤ k + 1
  | 0, u => by simp [vb]
  | k + 1, u => by
    unfold vb
    split
    · simp
    · have := vb_len k (u / 128)
      simp; omega
def putB (n : Int) : List UInt8 := vb 9 (foldZ n)
theorem u8_low (z : Nat) (h : (z : Int) < 128) : (z : Int) = (z.toUInt8.toNat : Int) := by
  have : z.toUInt8.toNat = z % 256 := rfl
  omega
theorem u8_more (z : Nat) : (z : Int) % 128 + 128 = ((z % 128 + 128).toUInt8.toNat : Int) := by
  have : (z % 128 + 128).toUInt8.toNat = (z % 128 + 128) % 256 := rfl
  omega

theorem fold_spec (n : Int) (w : World) (h1 : -9223372036854775808 ≤ n) (h2 : n ≤ 9223372036854775807) :
    Calls Try.prog 130 #[.int .i64 n] w fun e w' => e = .returned (.int .u64 (foldZ n)) ∧ w = w' := by
  by_cases h : n < 0
  · go_enter Try.func130, Try.ntmps130
    go_wp2
    go_ret
    exact ⟨ret_int (foldZ_neg n h), rfl⟩
  · go_enter Try.func130, Try.ntmps130
    go_wp2
    go_ret
    exact ⟨ret_int (foldZ_pos n (by omega)), rfl⟩
theorem fold_impl (n : Int) (w : World) (h1 : -9223372036854775808 ≤ n) (h2 : n ≤ 9223372036854775807) :
    Calls Try.prog 97 #[.int .i64 n] w fun e w' => e = .returned (.int .u64 (foldZ n)) ∧ w = w' := by
  by_cases h : n < 0
  · go_enter Try.func97, Try.ntmps97
    go_wp2
    go_ret
    exact ⟨ret_int (foldZ_neg n h), rfl⟩
  · go_enter Try.func97, Try.ntmps97
    go_wp2
    go_ret
    exact ⟨ret_int (foldZ_pos n (by omega)), rfl⟩


set_option maxHeartbeats 400000 in
set_option maxRecDepth 100000 in
theorem put_spec (n : Int) (w : World) (h1 : -9223372036854775808 ≤ n) (h2 : n ≤ 9223372036854775807) :
    Calls Try.prog 106 #[.int .i64 n] w fun e w' => e = .returned (.string ⟨(putB n).toArray⟩) ∧ Below w.heap.size w w' := by
  obtain ⟨i0, hi, hz0, hz1, hz2⟩ := info_parts Try.info5
  go_enter Try.func106, Try.ntmps106
  go_wp2_with (go_at_call 130; refine (fold_spec _ _ h1 h2).mono ?_; rintro e w' ⟨rfl, rfl⟩)
  go_loopw [3, 4] (fun u v wr => ∃ (k z : Nat) (acc : List UInt8), u = .int .u64 z ∧ acc ++ vb k z = putB n ∧ acc.length + k = 9 ∧ z < 128 ^ k * 2 ∧
     wr.ownsRow w.heap.size 5 1 v acc.length (bv acc) ∧ Below w.heap.size w wr) (fun u _ _ => (intOf u).toNat)
  case atStart =>
    refine ⟨9, foldZ n, [], rfl, rfl, rfl, foldZ_lt n h1 h2, ?_, (Below.refl _ _).alloc (Nat.le_refl _) _⟩
    exact ⟨rfl, .inr ⟨w.heap.size, 0, #[], rfl, Nat.le_refl _, (MapKept.heap_alloc w _).1, Nat.le_refl _, by decide, rfl, rfl⟩⟩
  case round =>
    obtain ⟨k, z, acc, rfl, hpb, hk, hzl, hown, hb⟩ := hrel
    have hsize := hb.size
    have HP : Hid (acc ++ vb k z = putB n ∧ acc.length + k = 9 ∧ z < 128 ^ k * 2) := ⟨hpb, hk, hzl⟩
    have hz64 : (z : Int) ≤ 18446744073709551615 := by
      have : 128 ^ k ≤ 128 ^ 9 := Nat.pow_le_pow_right (by decide) (by omega)
      omega
    have hal : acc.length ≤ 9 := by omega
    clear hpb hk hzl
    by_cases hlt : (z : Int) < 128
    · go_wp2_with (at_builtin; refine wpList_append_own _ rfl (.tmp 19) (.tmp 22) 22 rfl w.heap.size 5 i0 (.int .u8 0) 1 1 Try.underlying22 hi hz0 hz1 hz2 rfl (by decide) _ _ _ rfl (hown.alloc _) ⟨wr.heap.size, 0, none⟩ 1 1 [.int .u8 (z : Int)] rfl rfl (cell_one_new _ _ _) (by intro u hu; simp at hu; subst hu; rfl) (by unfold maxLen; omega) (by omega) (by simp; omega) ?_; intro v1 w1 hown1 hgrow1 hnil1; obtain ⟨g, cap, rfl⟩ := own_form hown1 (by omega); have hcv := own_string (P := Try.prog) (n := acc.length + 1) (acc ++ [z.toUInt8]) Try.underlying22 Try.underlying5 Try.underlying9 (by simp) (by rw [bv_snoc, ← u8_low z hlt]; exact hown1))
      go_ret
      exact ⟨by rw [← HP.out.1, vb_small k z (by omega)]; rfl, (hb.alloc (by omega) _).grown hgrow1 (by simp; omega) (fun j hj => (hown.lt j hj).1)⟩
    · go_wp2_with (at_builtin; refine wpList_append_own _ rfl (.tmp 10) (.tmp 15) 22 rfl w.heap.size 5 i0 (.int .u8 0) 1 1 Try.underlying22 hi hz0 hz1 hz2 rfl (by decide) _ _ _ rfl (hown.alloc _) ⟨wr.heap.size, 0, none⟩ 1 1 [.int .u8 ((z : Int) % 128 + 128)] rfl rfl (cell_one_new _ _ _) (by intro u hu; simp at hu; subst hu; rfl) (by unfold maxLen; omega) (by omega) (by simp; omega) ?_; intro v1 w1 hown1 hgrow1 hnil1)
      go_roundw
      case rel =>
        obtain ⟨hp1, hp2, hp3⟩ := HP.out
        obtain ⟨k', rfl⟩ : ∃ k', k = k' + 1 := ⟨k - 1, by
          rcases k with _ | k
          · simp at hp3; omega
          · omega⟩
        refine ⟨k', z / 128, acc ++ [(z % 128 + 128).toUInt8], by go_num, ?_, by simp; omega, ?_, ?_, (hb.alloc (by omega) _).grown hgrow1 (by simp; omega) (fun j hj => (hown.lt j hj).1)⟩
        · rw [← hp1, vb_big k' z (by omega)]; simp
        · rw [Nat.pow_succ] at hp3; omega
        · rw [bv_snoc, ← u8_more z]; simpa using hown1
      case measure => simp [intOf]; omega
set_option maxHeartbeats 400000 in
set_option maxRecDepth 100000 in
theorem put_impl (n : Int) (w : World) (h1 : -9223372036854775808 ≤ n) (h2 : n ≤ 9223372036854775807) :
    Calls Try.prog 44 #[.int .i64 n] w fun e w' => e = .returned (.string ⟨(putB n).toArray⟩) ∧ Below w.heap.size w w' := by
  obtain ⟨i0, hi, hz0, hz1, hz2⟩ := info_parts Try.info5
  go_enter Try.func44, Try.ntmps44
  go_wp2_with (go_at_call 97; refine (fold_impl _ _ h1 h2).mono ?_; rintro e w' ⟨rfl, rfl⟩)
  go_loopw [3, 4] (fun v u wr => ∃ (k z : Nat) (acc : List UInt8), u = .int .u64 z ∧ acc ++ vb k z = putB n ∧ acc.length + k = 9 ∧ z < 128 ^ k * 2 ∧
     wr.ownsRow w.heap.size 5 1 v acc.length (bv acc) ∧ Below w.heap.size w wr) (fun _ u _ => (intOf u).toNat)
  case atStart =>
    exact ⟨9, foldZ n, [], rfl, rfl, rfl, foldZ_lt n h1 h2, ⟨rfl, .inl ⟨rfl, rfl⟩⟩, Below.refl _ _⟩
  case round =>
    obtain ⟨k, z, acc, rfl, hpb, hk, hzl, hown, hb⟩ := hrel
    have hsize := hb.size
    have HP : Hid (acc ++ vb k z = putB n ∧ acc.length + k = 9 ∧ z < 128 ^ k * 2) := ⟨hpb, hk, hzl⟩
    have hz64 : (z : Int) ≤ 18446744073709551615 := by
      have : 128 ^ k ≤ 128 ^ 9 := Nat.pow_le_pow_right (by decide) (by omega)
      omega
    have hal : acc.length ≤ 9 := by omega
    clear hpb hk hzl
    by_cases hlt : (z : Int) < 128
    · go_wp2_with (at_builtin; refine wpList_append_own _ rfl (.tmp 18) (.tmp 21) 22 rfl w.heap.size 5 i0 (.int .u8 0) 1 1 Try.underlying22 hi hz0 hz1 hz2 rfl (by decide) _ _ _ rfl (hown.alloc _) ⟨wr.heap.size, 0, none⟩ 1 1 [.int .u8 (z : Int)] rfl rfl (cell_one_new _ _ _) (by intro u hu; simp at hu; subst hu; rfl) (by unfold maxLen; omega) (by omega) (by simp; omega) ?_; intro v1 w1 hown1 hgrow1 hnil1; obtain ⟨g, cap, rfl⟩ := own_form hown1 (by omega); have hcv := own_string (P := Try.prog) (n := acc.length + 1) (acc ++ [z.toUInt8]) Try.underlying22 Try.underlying5 Try.underlying9 (by simp) (by rw [bv_snoc, ← u8_low z hlt]; exact hown1))
      go_ret
      exact ⟨by rw [← HP.out.1, vb_small k z (by omega)]; rfl, (hb.alloc (by omega) _).grown hgrow1 (by simp; omega) (fun j hj => (hown.lt j hj).1)⟩
    · go_wp2_with (at_builtin; refine wpList_append_own _ rfl (.tmp 9) (.tmp 14) 22 rfl w.heap.size 5 i0 (.int .u8 0) 1 1 Try.underlying22 hi hz0 hz1 hz2 rfl (by decide) _ _ _ rfl (hown.alloc _) ⟨wr.heap.size, 0, none⟩ 1 1 [.int .u8 ((z : Int) % 128 + 128)] rfl rfl (cell_one_new _ _ _) (by intro u hu; simp at hu; subst hu; rfl) (by unfold maxLen; omega) (by omega) (by simp; omega) ?_; intro v1 w1 hown1 hgrow1 hnil1)
      go_roundw
      case rel =>
        obtain ⟨hp1, hp2, hp3⟩ := HP.out
        obtain ⟨k', rfl⟩ : ∃ k', k = k' + 1 := ⟨k - 1, by
          rcases k with _ | k
          · simp at hp3; omega
          · omega⟩
        refine ⟨k', z / 128, acc ++ [(z % 128 + 128).toUInt8], by go_num, ?_, by simp; omega, ?_, ?_, (hb.alloc (by omega) _).grown hgrow1 (by simp; omega) (fun j hj => (hown.lt j hj).1)⟩
        · rw [← hp1, vb_big k' z (by omega)]; simp
        · rw [Nat.pow_succ] at hp3; omega
        · rw [bv_snoc, ← u8_more z]; simpa using hown1
      case measure => simp [intOf]; omega
end Go.Proofs.Ytjdkenopfnepaaa
