/- Plain facts on the CRC: it goes on from text to text; with one byte turned it is another one. -/
import Derived.Test.YtjdkenopfnepaaaUnsealImpl
namespace Go.Proofs.Ytjdkenopfnepaaa
open Go.RowKit

/-- The exclusive or of two numbers of 32 bits. -/
theorem xor_nat (a b : Nat) (ha : a < 4294967296) (hb : b < 4294967296) : bits .xor .u32 (a : Int) (b : Int) = ((a ^^^ b : Nat) : Int) := by
  show IntKind.u32.wrap ((BitVec.ofInt 32 (a : Int) ^^^ BitVec.ofInt 32 (b : Int)).toNat : Int) = _
  have h1 : (BitVec.ofInt 32 (a : Int)).toNat = a := by
    rw [BitVec.ofInt_natCast, BitVec.toNat_ofNat]; exact Nat.mod_eq_of_lt (by omega)
  have h2 : (BitVec.ofInt 32 (b : Int)).toNat = b := by
    rw [BitVec.ofInt_natCast, BitVec.toNat_ofNat]; exact Nat.mod_eq_of_lt (by omega)
  have hx : a ^^^ b < 2 ^ 32 := Nat.xor_lt_two_pow (by omega) (by omega)
  rw [BitVec.toNat_xor, h1, h2]
  rw [IntKind.wrap_u32]
  omega
theorem and_one (a : Nat) (ha : a < 4294967296) : bits .and .u32 (a : Int) 1 = ((a % 2 : Nat) : Int) := by
  show IntKind.u32.wrap ((BitVec.ofInt 32 (a : Int) &&& BitVec.ofInt 32 1).toNat : Int) = _
  have h1 : (BitVec.ofInt 32 (a : Int)).toNat = a := by
    rw [BitVec.ofInt_natCast, BitVec.toNat_ofNat]; exact Nat.mod_eq_of_lt (by omega)
  have h2 : (BitVec.ofInt 32 1).toNat = 1 := by decide
  rw [BitVec.toNat_and, h1, h2, Nat.and_one_is_mod, IntKind.wrap_u32]
  omega
theorem in32_nat {q : Int} (h : In32 q) : ∃ n : Nat, n < 4294967296 ∧ q = (n : Int) := ⟨q.toNat, by unfold In32 at h; omega, by unfold In32 at h; omega⟩
/-- One bit, on natural numbers. -/
def natStep (n : Nat) : Nat := if n % 2 = 1 then (n / 2) ^^^ 3988292384 else n / 2
theorem bitStep_nat (n : Nat) (h : n < 4294967296) : bitStep (n : Int) = (natStep n : Int) := by
  unfold bitStep natStep
  rw [and_one n h]
  by_cases hp : n % 2 = 1
  · rw [if_pos (by simp [hp]), if_pos hp]
    have e : ((n : Int) / 2) = ((n / 2 : Nat) : Int) := by omega
    rw [e]
    exact xor_nat (n / 2) 3988292384 (by omega) (by omega)
  · rw [if_neg (by simp; omega), if_neg hp]
    omega
theorem xor_cancel {a b c : Nat} (h : a ^^^ c = b ^^^ c) : a = b := by
  have := congrArg (· ^^^ c) h
  simpa [Nat.xor_assoc] using this
theorem natStep_inj {n m : Nat} (hn : n < 4294967296) (hm : m < 4294967296) (h : natStep n = natStep m) : n = m := by
  have hP : Nat.testBit 3988292384 31 = true := by decide
  have hlow : ∀ k, k < 4294967296 → (k / 2).testBit 31 = false := fun k hk => Nat.testBit_lt_two_pow (by omega)
  have hb := congrArg (fun x => Nat.testBit x 31) h
  unfold natStep at h hb
  by_cases pn : n % 2 = 1 <;> by_cases pm : m % 2 = 1
  · rw [if_pos pn, if_pos pm] at h
    have := xor_cancel h
    omega
  · simp [pn, pm, Nat.testBit_xor, hP, hlow n hn, hlow m hm] at hb
  · simp [pn, pm, Nat.testBit_xor, hP, hlow n hn, hlow m hm] at hb
  · rw [if_neg pn, if_neg pm] at h
    omega
theorem bitStep_inj {q r : Int} (hq : In32 q) (hr : In32 r) (h : bitStep q = bitStep r) : q = r := by
  obtain ⟨n, hn, rfl⟩ := in32_nat hq
  obtain ⟨m, hm, rfl⟩ := in32_nat hr
  rw [bitStep_nat n hn, bitStep_nat m hm] at h
  have := natStep_inj hn hm (by omega)
  omega
theorem bitSteps_inj {q r : Int} (hq : In32 q) (hr : In32 r) : ∀ k, bitSteps k q = bitSteps k r → q = r
  | 0, h => h
  | k + 1, h => bitSteps_inj hq hr k (bitStep_inj (bitSteps_in hq k) (bitSteps_in hr k) h)
theorem xor_inj {a b c : Int} (ha : In32 a) (hb : In32 b) (hc : In32 c) (h : bits .xor .u32 a c = bits .xor .u32 b c) : a = b := by
  obtain ⟨x, hx, rfl⟩ := in32_nat ha
  obtain ⟨y, hy, rfl⟩ := in32_nat hb
  obtain ⟨z, hz, rfl⟩ := in32_nat hc
  rw [xor_nat x z hx hz, xor_nat y z hy hz] at h
  have := xor_cancel (show x ^^^ z = y ^^^ z by omega)
  omega
theorem xor_inj2 {a b c : Int} (ha : In32 a) (hb : In32 b) (hc : In32 c) (h : bits .xor .u32 c a = bits .xor .u32 c b) : a = b := by
  obtain ⟨x, hx, rfl⟩ := in32_nat ha
  obtain ⟨y, hy, rfl⟩ := in32_nat hb
  obtain ⟨z, hz, rfl⟩ := in32_nat hc
  rw [xor_nat z x hz hx, xor_nat z y hz hy, Nat.xor_comm z x, Nat.xor_comm z y] at h
  have := xor_cancel (show x ^^^ z = y ^^^ z by omega)
  omega
theorem xor_twice {a c : Int} (ha : In32 a) (hc : In32 c) : bits .xor .u32 (bits .xor .u32 a c) c = a := by
  obtain ⟨x, hx, rfl⟩ := in32_nat ha
  obtain ⟨z, hz, rfl⟩ := in32_nat hc
  have hb : x ^^^ z < 4294967296 := Nat.xor_lt_two_pow (n := 32) (by omega) (by omega)
  rw [xor_nat x z hx hz, xor_nat _ z hb hz, Nat.xor_assoc, Nat.xor_self, Nat.xor_zero]
theorem u8_in (b : UInt8) : In32 (b.toNat : Int) := by have := b.toNat_lt; unfold In32; omega
theorem byteStep_inj {q r c : Int} (hq : In32 q) (hr : In32 r) (hc : In32 c) (h : byteStep q c = byteStep r c) : q = r :=
  xor_inj hq hr hc (bitSteps_inj (xor32 _ _) (xor32 _ _) 8 h)
theorem byteStep_inj2 {q c d : Int} (hq : In32 q) (hc : In32 c) (hd : In32 d) (h : byteStep q c = byteStep q d) : c = d :=
  xor_inj2 hc hd hq (bitSteps_inj (xor32 _ _) (xor32 _ _) 8 h)
theorem crcL_inj : ∀ (l : List UInt8) {q r : Int}, In32 q → In32 r → crcL l q = crcL l r → q = r
  | [], _, _, _, _, h => h
  | b :: l, _, _, hq, hr, h => byteStep_inj hq hr (u8_in b) (crcL_inj l (byteStep_in _ _) (byteStep_in _ _) h)
theorem crcL_append (l m : List UInt8) (r : Int) : crcL (l ++ m) r = crcL m (crcL l r) := by simp [crcL]
theorem ones_in : In32 4294967295 := by unfold In32; omega
/-- A CRC goes on from text to text. -/
theorem crc_goes_on (l m : List UInt8) : crcOf (crcOf 0 l) m = crcOf 0 (l ++ m) := by
  unfold crcOf
  rw [xor_twice (crcL_in l (xor32 _ _)) ones_in, crcL_append]
/-- With one byte turned it is another one. -/
theorem crc_turned (l : List UInt8) (k : Nat) (hk : k < l.length) (b : UInt8) (hb : b ≠ l[k]) : crcOf 0 (l.set k b) ≠ crcOf 0 l := by
  intro h
  have h1 := xor_inj (crcL_in _ (xor32 _ _)) (crcL_in _ (xor32 _ _)) ones_in h
  have e1 : l.set k b = l.take k ++ b :: l.drop (k + 1) := by rw [List.set_eq_take_append_cons_drop, if_pos hk]
  have e2 : l = l.take k ++ l[k] :: l.drop (k + 1) := by simp
  rw [e1, crcL_append] at h1
  conv at h1 => rhs; rw [e2, crcL_append]
  have h2 := crcL_inj (l.drop (k + 1)) (byteStep_in _ _) (byteStep_in _ _) (show crcL (l.drop (k + 1)) (byteStep (crcL (l.take k) _) (b.toNat : Int)) = crcL (l.drop (k + 1)) (byteStep (crcL (l.take k) _) (l[k].toNat : Int)) from h1)
  have h3 := byteStep_inj2 (crcL_in _ (xor32 _ _)) (u8_in _) (u8_in _) h2
  exact hb (UInt8.toNat_inj.1 (by omega))
theorem u8_eq {x y : Int} (hx : 0 ≤ x ∧ x ≤ 255) (hy : 0 ≤ y ∧ y ≤ 255) (h : x.toNat.toUInt8 = y.toNat.toUInt8) : x = y := by
  have h1 := congrArg UInt8.toNat h
  have ex : x.toNat.toUInt8.toNat = x.toNat % 256 := rfl
  have ey : y.toNat.toUInt8.toNat = y.toNat % 256 := rfl
  omega
theorem four_inj {a b : Int} (ha : In32 a) (hb : In32 b) (h : fourB a = fourB b) : a = b := by
  unfold fourB at h
  simp only [List.cons.injEq, and_true] at h
  obtain ⟨h1, h2, h3, h4⟩ := h
  have e1 := u8_eq (by omega) (by omega) h1
  have e2 := u8_eq (by omega) (by omega) h2
  have e3 := u8_eq (by omega) (by omega) h3
  have e4 := u8_eq (by omega) (by omega) h4
  unfold In32 at ha hb
  omega
theorem okS_list (L : List UInt8) : okS ⟨L.toArray⟩ = (fourB (crcOf 0 (L.take (L.length - 4))) == L.drop (L.length - 4)) := by
  have hs : (⟨L.toArray⟩ : ByteArray).size = L.length := by show L.toArray.size = _; simp
  unfold okS
  rw [Lib.extract_toList, Lib.extract_data, hs]
  simp only [List.drop_zero, Nat.sub_zero]
  rw [List.take_of_length_le (l := List.drop _ _) (by simp)]
/-- A seal is one. -/
theorem ok_seal (l : List UInt8) : okS ⟨(sealB l).toArray⟩ = true := by
  have h4 : (fourB (crcOf 0 l)).length = 4 := rfl
  have hl : (sealB l).length - 4 = l.length := by simp [sealB, h4]
  rw [okS_list, hl]
  simp [sealB]
/-- With one byte turned it is none. -/
theorem ok_turned (l : List UInt8) (k : Nat) (hk : k < (sealB l).length) (b : UInt8) (hb : b ≠ (sealB l)[k]) : okS ⟨((sealB l).set k b).toArray⟩ = false := by
  have h4 : (fourB (crcOf 0 l)).length = 4 := rfl
  have hl : ((sealB l).set k b).length - 4 = l.length := by simp [sealB, h4]
  rw [okS_list, hl]
  rw [beq_eq_false_iff_ne]
  intro h
  by_cases hkl : k < l.length
  · have e1 : ((sealB l).set k b).take l.length = l.set k b := by
      unfold sealB; rw [List.set_append_left _ _ hkl]; simp
    have e2 : ((sealB l).set k b).drop l.length = fourB (crcOf 0 l) := by
      unfold sealB; rw [List.set_append_left _ _ hkl]; simp
    rw [e1, e2] at h
    have hb' : b ≠ l[k] := by
      have : (sealB l)[k] = l[k] := by simp [sealB, hkl]
      rwa [this] at hb
    exact crc_turned l k hkl b hb' (four_inj (crcOf_in _ _) (crcOf_in _ _) h)
  · have e1 : ((sealB l).set k b).take l.length = l := by
      unfold sealB; rw [List.set_append_right _ _ (by omega)]; simp
    have e2 : ((sealB l).set k b).drop l.length = (fourB (crcOf 0 l)).set (k - l.length) b := by
      unfold sealB; rw [List.set_append_right _ _ (by omega)]; simp
    rw [e1, e2] at h
    have hlen : (sealB l).length = l.length + 4 := by simp [sealB, h4]
    have hk2 : k - l.length < (fourB (crcOf 0 l)).length := by omega
    have h5 := congrArg (fun m => m[k - l.length]?) h
    simp [hk2] at h5
    have e3 : (sealB l)[k] = (fourB (crcOf 0 l))[k - l.length] := List.getElem_append_right (by omega : l.length ≤ k)
    rw [e3] at hb
    exact hb h5.symm
end Go.Proofs.Ytjdkenopfnepaaa
