/- Plain facts: a number is read back from its bytes; of bytes that end too early nothing is read. -/
import Derived.Test.YtjdkenopfnepaaaPut
import Derived.Test.YtjdkenopfnepaaaGetPlain
import Derived.Lib.Strings
namespace Go.Proofs.Ytjdkenopfnepaaa
open Go.RowKit

theorem unf_fold (n : Int) : unfZ (foldZ n) = n := by
  unfold unfZ foldZ
  by_cases h : n < 0
  · rw [if_pos h, if_pos (by omega)]; omega
  · rw [if_neg h, if_neg (by omega)]; omega
theorem byte_at {s : ByteArray} {i : Nat} {b : UInt8} (h : s.data.toList[i]? = some b) : ∃ hi : i < s.size, s[i] = b := by
  obtain ⟨h1, h2⟩ := List.getElem?_eq_some_iff.1 h
  exact ⟨h1, h2⟩
theorem vb_pos (k u : Nat) : 1 ≤ (vb k u).length := by
  cases k with
  | zero => simp [vb]
  | succ k => unfold vb; split <;> simp
theorem low_toNat {u : Nat} (h : u < 128) : u.toUInt8.toNat = u := by
  have : u.toUInt8.toNat = u % 256 := rfl
  omega
theorem more_toNat (u : Nat) : (u % 128 + 128).toUInt8.toNat = u % 128 + 128 := by
  have : (u % 128 + 128).toUInt8.toNat = (u % 128 + 128) % 256 := rfl
  omega
theorem pow_step (u z k : Nat) : z + u % 128 * 2 ^ (7 * k) + u / 128 * 128 ^ (k + 1) = z + u * 128 ^ k := by
  have h : u = u % 128 + 128 * (u / 128) := by omega
  have e : 128 ^ (k + 1) = 128 * 128 ^ k := by rw [Nat.pow_succ, Nat.mul_comm]
  rw [e, ← pow7]
  conv => rhs; rw [h, Nat.add_mul]
  rw [Nat.add_assoc]
  congr 2
  rw [Nat.mul_comm 128 (u / 128), Nat.mul_assoc]
theorem G_put (s : ByteArray) (p : Nat) : ∀ j k z u, j + k = 9 → u < 2 * 128 ^ j → (k = 0 ∨ 1 ≤ u) → (∀ i (h : i < (vb j u).length), s.data.toList[p + k + i]? = some (vb j u)[i]) →
    G s p (j + 1) k z = (unfZ (z + u * 128 ^ k), (p : Int) + k + (vb j u).length, 0) := by
  intro j
  induction j with
  | zero =>
    intro k z u hjk hu hk hb
    have hu2 : u < 2 := by simpa using hu
    have h0 := hb 0 (by simp [vb])
    simp only [vb, Nat.add_zero, List.getElem_cons_zero] at h0
    obtain ⟨hi, hs⟩ := byte_at h0
    have hn : s[p + k].toNat = u := by rw [hs, low_toNat (by omega)]
    rw [G_done s p 0 k z hi (by omega) (by omega) (by omega)]
    unfold nx
    rw [hn, Nat.mod_eq_of_lt (by omega : u < 128), ← pow7]
    simp [vb]
  | succ j ih =>
    intro k z u hjk hu hk hb
    by_cases hs : u < 128
    · rw [vb_small _ _ hs] at hb ⊢
      have h0 := hb 0 (by simp)
      simp only [Nat.add_zero, List.getElem_cons_zero] at h0
      obtain ⟨hi, hs'⟩ := byte_at h0
      have hn : s[p + k].toNat = u := by rw [hs', low_toNat hs]
      rw [G_done s p _ k z hi (by omega) (by omega) (by omega)]
      unfold nx
      rw [hn, Nat.mod_eq_of_lt hs, ← pow7]
      simp
    · rw [vb_big _ _ hs] at hb ⊢
      have h0 := hb 0 (by simp)
      simp only [Nat.add_zero, List.getElem_cons_zero] at h0
      obtain ⟨hi, hs'⟩ := byte_at h0
      have hn : s[p + k].toNat = u % 128 + 128 := by rw [hs', more_toNat]
      rw [G_more s p _ k z hi (by omega) (by omega)]
      have hstep := ih (k + 1) (nx z s[p + k].toNat k) (u / 128) (by omega) (by rw [Nat.pow_succ] at hu; omega) (.inr (by omega)) (fun i h => by
        have := hb (i + 1) (by simpa using h)
        simp only [List.getElem_cons_succ] at this
        rw [← this]
        congr 1
        omega)
      rw [hstep]
      have e : nx z s[p + k].toNat k + u / 128 * 128 ^ (k + 1) = z + u * 128 ^ k := by
        unfold nx
        rw [hn, show (u % 128 + 128) % 128 = u % 128 by omega]
        exact pow_step u z k
      rw [e]
      simp
      omega
theorem G_cut (s : ByteArray) (p : Nat) : ∀ j k z u, j + k = 9 → u < 2 * 128 ^ j → (∀ i (h : i + 1 < (vb j u).length), s.data.toList[p + k + i]? = some ((vb j u)[i]'(by omega))) → s.size + 1 = p + k + (vb j u).length →
    G s p (j + 1) k z = (0, 0, 4) := by
  intro j
  induction j with
  | zero =>
    intro k z u _ _ _ hs
    exact G_short s p 0 k z (by simp [vb] at hs; omega)
  | succ j ih =>
    intro k z u hjk hu hb hs
    by_cases hsm : u < 128
    · rw [vb_small _ _ hsm] at hs
      exact G_short s p _ k z (by simp at hs; omega)
    · have hl := vb_pos j (u / 128)
      rw [vb_big _ _ hsm] at hs
      have h0 := hb 0 (by rw [vb_big _ _ hsm]; simp; omega)
      simp only [vb_big _ _ hsm, Nat.add_zero, List.getElem_cons_zero] at h0
      obtain ⟨hi, hs'⟩ := byte_at h0
      have hn : s[p + k].toNat = u % 128 + 128 := by rw [hs', more_toNat]
      rw [G_more s p _ k z hi (by omega) (by omega)]
      refine ih (k + 1) _ (u / 128) (by omega) (by rw [Nat.pow_succ] at hu; omega) (fun i h => ?_) (by simp at hs; omega)
      have h1 := hb (i + 1) (by rw [vb_big _ _ hsm]; simpa using h)
      simp only [vb_big _ _ hsm, List.getElem_cons_succ] at h1
      rw [← h1]
      congr 1
      omega
/-- A number that stands between others is read back. -/
theorem G_num (pre post : List UInt8) (n : Int) (h1 : -9223372036854775808 ≤ n) (h2 : n ≤ 9223372036854775807) :
    G ⟨(pre ++ putB n ++ post).toArray⟩ pre.length 10 0 0 = (n, (pre.length : Int) + (putB n).length, 0) := by
  have hf := foldZ_lt n h1 h2
  have h := G_put ⟨(pre ++ putB n ++ post).toArray⟩ pre.length 9 0 0 (foldZ n) rfl (by omega) (.inl rfl) (fun i h => by
    have hi : i < (putB n).length := h
    simp only [Nat.add_zero, List.append_assoc]
    rw [List.getElem?_append_right (by omega), Nat.add_sub_cancel_left, List.getElem?_append_left hi, List.getElem?_eq_getElem hi]
    rfl)
  rw [h]
  simp [unf_fold, putB]
theorem G_num_cut (n : Int) (h1 : -9223372036854775808 ≤ n) (h2 : n ≤ 9223372036854775807) (s : ByteArray) (hs : s.data.toList = (putB n).take ((putB n).length - 1)) : G s 0 10 0 0 = (0, 0, 4) := by
  have hf := foldZ_lt n h1 h2
  have hl : 1 ≤ (putB n).length := vb_pos 9 _
  have hsz : s.size = (putB n).length - 1 := by
    have : s.data.toList.length = s.size := rfl
    rw [← this, hs, List.length_take]; omega
  refine G_cut s 0 9 0 0 (foldZ n) rfl (by omega) (fun i h => ?_) ?_
  · have hi : i + 1 < (putB n).length := h
    rw [hs, List.getElem?_take, if_pos (by omega), show 0 + 0 + i = i by omega, List.getElem?_eq_getElem (by omega)]
    rfl
  · show s.size + 1 = 0 + 0 + (putB n).length
    omega
end Go.Proofs.Ytjdkenopfnepaaa
