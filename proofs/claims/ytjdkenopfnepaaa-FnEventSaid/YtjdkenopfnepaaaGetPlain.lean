/- Plain facts on how a number is read from its bytes; no walk. -/
import Derived.Test.YtjdkenopfnepaaaBytes
import Derived.Laws.BitsLemmas
import Derived.Laws.Bits64b
namespace Go.Proofs.Ytjdkenopfnepaaa
open Go.RowKit

/-- The number so far, with one more byte's seven bits. -/
def nx (z c k : Nat) : Nat := z + c % 128 * 2 ^ (7 * k)
/-- The number that u stands for. -/
def unfZ (y : Nat) : Int := if y % 2 = 1 then -((y : Int) / 2) - 1 else (y : Int) / 2
/-- What is read from place p on, when k bytes are read, and came to z: the number, the place behind it, the code. -/
def G (s : ByteArray) (p : Nat) : Nat → Nat → Nat → Int × Int × Int
  | 0, _, _ => (0, 0, 3)
  | f + 1, k, z => match s.data.toList[p + k]? with
    | none => (0, 0, 4)
    | some b => if k = 9 ∧ 1 < b.toNat then (0, 0, 3) else if 128 ≤ b.toNat then G s p f (k + 1) (nx z b.toNat k) else if b.toNat = 0 ∧ 0 < k then (0, 0, 3) else (unfZ (nx z b.toNat k), (p : Int) + k + 1, 0)
theorem at_some (s : ByteArray) (i : Nat) (h : i < s.size) : s.data.toList[i]? = some s[i] := by
  have : i < s.data.toList.length := h
  rw [List.getElem?_eq_getElem this]; rfl
theorem at_none (s : ByteArray) (i : Nat) (h : s.size ≤ i) : s.data.toList[i]? = none := List.getElem?_eq_none h
theorem G_short (s : ByteArray) (p f k z : Nat) (h : s.size ≤ p + k) : G s p (f + 1) k z = (0, 0, 4) := by
  unfold G; rw [at_none s _ h]
theorem G_big (s : ByteArray) (p f k z : Nat) (h : p + k < s.size) (h9 : k = 9) (hc : 1 < s[p + k].toNat) : G s p (f + 1) k z = (0, 0, 3) := by
  unfold G; rw [at_some s _ h]; simp only []; rw [if_pos ⟨h9, hc⟩]
theorem G_more (s : ByteArray) (p f k z : Nat) (h : p + k < s.size) (h9 : ¬ k = 9) (hc : 128 ≤ s[p + k].toNat) : G s p (f + 1) k z = G s p f (k + 1) (nx z s[p + k].toNat k) := by
  rw [G, at_some s _ h]; simp only []; rw [if_neg (by omega), if_pos hc]
theorem G_zero (s : ByteArray) (p f k z : Nat) (h : p + k < s.size) (hk : 0 < k) (hc : s[p + k].toNat = 0) : G s p (f + 1) k z = (0, 0, 3) := by
  unfold G; rw [at_some s _ h]; simp only []; rw [if_neg (by omega), if_neg (by omega), if_pos ⟨hc, hk⟩]
theorem G_done (s : ByteArray) (p f k z : Nat) (h : p + k < s.size) (h9 : ¬ (k = 9 ∧ 1 < s[p + k].toNat)) (hc : s[p + k].toNat < 128) (hz : ¬ (s[p + k].toNat = 0 ∧ 0 < k)) :
    G s p (f + 1) k z = (unfZ (nx z s[p + k].toNat k), (p : Int) + k + 1, 0) := by
  unfold G; rw [at_some s _ h]; simp only []; rw [if_neg h9, if_neg (by omega), if_neg hz]

theorem pow7 (k : Nat) : 128 ^ k = 2 ^ (7 * k) := by rw [Nat.pow_mul]
theorem nx_lt {z c k : Nat} (hz : z < 128 ^ k) : nx z c k < 128 ^ (k + 1) := by
  have : c % 128 * 2 ^ (7 * k) ≤ 127 * 2 ^ (7 * k) := Nat.mul_le_mul_right _ (by omega)
  unfold nx
  rw [Nat.pow_succ, pow7] at *
  omega
theorem nx_64 {z c k : Nat} (hz : z < 128 ^ k) (hk : k ≤ 9) (h9 : k = 9 → c ≤ 1) : nx z c k ≤ 18446744073709551615 := by
  by_cases h : k = 9
  · subst h
    have := h9 rfl
    unfold nx
    rcases (show c = 0 ∨ c = 1 by omega) with rfl | rfl <;> simp at hz ⊢ <;> omega
  · have h1 := nx_lt (c := c) hz
    have h2 : 128 ^ (k + 1) ≤ 128 ^ 9 := Nat.pow_le_pow_right (by decide) (by omega)
    omega
theorem z_64 {z k : Nat} (hz : z < 128 ^ k) (hk : k ≤ 9) : z ≤ 9223372036854775807 := by
  have h2 : 128 ^ k ≤ 128 ^ 9 := Nat.pow_le_pow_right (by decide) hk
  omega
theorem wrap_nat {n : Nat} (h : n ≤ 18446744073709551615) : IntKind.u64.wrap (n : Int) = (n : Int) := by
  rw [IntKind.wrap_u64]; omega
theorem shl_cast (c k : Nat) : ((c : Int) % 128 * 2 ^ (7 * k)) = ((c % 128 * 2 ^ (7 * k) : Nat) : Int) := by
  simp
theorem add_nx {z c k : Nat} (hz : z < 128 ^ k) (hk : k ≤ 9) (h9 : k = 9 → c ≤ 1) :
    IntKind.u64.wrap ((z : Int) + IntKind.u64.wrap ((c : Int) % 128 * 2 ^ (7 * k))) = ((nx z c k : Nat) : Int) := by
  have h := nx_64 hz hk h9
  have hs : c % 128 * 2 ^ (7 * k) ≤ 18446744073709551615 := by unfold nx at h; omega
  rw [shl_cast, wrap_nat hs, ← Int.natCast_add, wrap_nat (by unfold nx at h; exact h)]
  rfl
theorem or_nx {z c k : Nat} (hz : z < 128 ^ k) (hk : k ≤ 9) (h9 : k = 9 → c ≤ 1) :
    bits .or .u64 (z : Int) (IntKind.u64.wrap ((c : Int) % 128 * 2 ^ (7 * k))) = ((nx z c k : Nat) : Int) := by
  have h := nx_64 hz hk h9
  have hs : c % 128 * 2 ^ (7 * k) ≤ 18446744073709551615 := by unfold nx at h; omega
  rw [shl_cast, wrap_nat hs]
  rw [bits_or_u64_nat z _ (by have := z_64 hz hk; omega) (by omega)]
  congr 1
  unfold nx
  rw [Nat.mul_comm, Nat.add_comm, Nat.two_pow_add_eq_or_of_lt (by rw [← pow7]; exact hz), Nat.or_comm]
/-- What is handed back: a number, a place, a code. -/
def numV (a b c : Int) : Value := .agg #[.int .i64 a, .int .i64 b, .int .i64 c]
theorem numV_of {R : Int × Int × Int} {a b c : Int} (h : R = (a, b, c)) : numV R.1 R.2.1 R.2.2 = numV a b c := by rw [h]
theorem unfZ_odd {y : Nat} (h : ((y : Int) % 2 == 1) = true) : unfZ y = -((y : Int) / 2) - 1 := by
  have : (y : Int) % 2 = 1 := by simpa using h
  unfold unfZ; rw [if_pos (by omega)]
theorem unfZ_even {y : Nat} (h : ((y : Int) % 2 == 1) = false) : unfZ y = (y : Int) / 2 := by
  have : ¬ (y : Int) % 2 = 1 := by simpa using h
  unfold unfZ; rw [if_neg (by omega)]


def textA (t : ByteArray) (b c : Int) : Value := .agg #[.string t, .int .i64 b, .int .i64 c]
/-- The number is read: then where it ends. -/
theorem G_place (s : ByteArray) (p : Nat) : ∀ f k z n q, G s p f k z = (n, q, 0) → 0 ≤ q ∧ q ≤ s.size
  | 0, k, z, n, q, h => by simp [G] at h
  | f + 1, k, z, n, q, h => by
    by_cases hlt : p + k < s.size
    · by_cases h9 : k = 9 ∧ 1 < s[p + k].toNat
      · rw [G_big s p f k z hlt h9.1 h9.2] at h; simp at h
      · by_cases hc : 128 ≤ s[p + k].toNat
        · rw [G_more s p f k z hlt (by omega) hc] at h
          exact G_place s p f (k + 1) _ n q h
        · by_cases hz : s[p + k].toNat = 0 ∧ 0 < k
          · rw [G_zero s p f k z hlt hz.2 hz.1] at h; simp at h
          · rw [G_done s p f k z hlt h9 (by omega) hz] at h
            simp at h
            omega
    · rw [G_short s p f k z (by omega)] at h; simp at h

theorem G_fault (s : ByteArray) (p : Nat) : ∀ f k z a b c, G s p f k z = (a, b, c) → c ≠ 0 → a = 0 ∧ b = 0
  | 0, k, z, a, b, c, h, _ => by simp [G] at h; omega
  | f + 1, k, z, a, b, c, h, hc0 => by
    by_cases hlt : p + k < s.size
    · by_cases h9 : k = 9 ∧ 1 < s[p + k].toNat
      · rw [G_big s p f k z hlt h9.1 h9.2] at h; simp at h; omega
      · by_cases hc : 128 ≤ s[p + k].toNat
        · rw [G_more s p f k z hlt (by omega) hc] at h
          exact G_fault s p f (k + 1) _ a b c h hc0
        · by_cases hz : s[p + k].toNat = 0 ∧ 0 < k
          · rw [G_zero s p f k z hlt hz.2 hz.1] at h; simp at h; omega
          · rw [G_done s p f k z hlt h9 (by omega) hz] at h
            simp at h
            omega
    · rw [G_short s p f k z (by omega)] at h; simp at h; omega

end Go.Proofs.Ytjdkenopfnepaaa
