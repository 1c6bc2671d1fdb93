/- lwAt, a text as new bytes, and a byte that is turned. -/
import Derived.Test.YtjdkenopfnepaaaSrc
import Derived.Test.YtjdkenopfnepaaaCrcPlain
namespace Go.Proofs.Ytjdkenopfnepaaa
open Go.RowKit

/-- 'lwAt': some number below 'most'. -/
def AtPost (most : Int) (w : World) (e : Ending) (w' : World) : Prop := ∃ r : Int, e = .returned (.int .i64 r) ∧ 0 ≤ r ∧ r < most ∧ w = w'
set_option maxHeartbeats 1000000 in
theorem lw_at (base : Nat) (a : Option Addr) (len cap at_ : Nat) (most : Int) (w : World) (hm : 0 < most) (hm2 : most ≤ 1000000) (hat : at_ ≤ 1) (hc : CodeAt w base a len) :
    Calls Try.prog 20 #[.slice a len cap, .int .i64 at_, .int .i64 most] w (AtPost most w) := by
  have hlen := hc.1
  by_cases h1 : most ≤ 1
  · have b1 : decide (most ≤ 1) = true := by simpa using h1
    clear hc
    go_enter Try.func20, Try.ntmps20
    go_wp2
    go_ret
    exact ⟨0, rfl, by omega, by omega, rfl⟩
  have b1 : decide (most ≤ 1) = false := by simp; omega
  by_cases h0 : len < 1
  · have b2 : ((len : Int) == 0) = true := by simp; omega
    clear hc
    go_enter Try.func20, Try.ntmps20
    go_wp2
    go_ret
    exact ⟨0, rfl, by omega, by omega, rfl⟩
  have b2 : ((len : Int) == 0) = false := by simp; omega
  obtain ⟨b, off, rfl, hbb, hbs, hcell⟩ := hc.2 (by omega)
  obtain ⟨c, hc0, hc1, hck⟩ := hcell (at_ % len) (Nat.mod_lt _ (by omega))
  clear hc hcell
  have hm1 : (at_ : Int) % (len : Int) < (len : Int) := Int.emod_lt_of_pos _ (by omega)
  have hm0 : 0 ≤ (at_ : Int) % (len : Int) := Int.emod_nonneg _ (by omega)
  go_enter Try.func20, Try.ntmps20
  go_wp2
  go_ret
  exact ⟨c % most, rfl, Int.emod_nonneg _ (by omega), Int.emod_lt_of_pos _ (by omega), rfl⟩

/-- '[]byte(s)': a new row that holds the bytes. -/
theorem to_bytes {P : Program} (w : World) (src dst e : TypeId) (l : List UInt8) (hs : P.underlying src = some .string) (hd : P.underlying dst = some (.slice e)) (he : P.underlying e = some (.int .u8)) :
    ∃ cap w', (convert src dst (.string ⟨l.toArray⟩)).run P w = .ok (.slice (some ⟨w.heap.size, 0, none⟩) l.length cap) w' ∧ Below w.heap.size w w' ∧ w.heap.size < w'.heap.size ∧
      ∀ j (h : j < l.length), w'.cell? ⟨w.heap.size, j, none⟩ = some (.int .u8 (l[j].toNat : Int)) ∧ w'.frozen? ⟨w.heap.size, j, none⟩ = false := by
  have hrun := run_bytes_of_string (P := P) w src dst e ⟨l.toArray⟩ hs hd he
  have hsz : (⟨l.toArray⟩ : ByteArray).size = l.length := by show l.toArray.size = _; simp
  rw [hsz] at hrun
  refine ⟨_, _, hrun, ((Below.refl _ _).drew.alloc (Nat.le_refl _) _), by show w.heap.size < (w.heap.push _).size; simp, fun j hj => ⟨?_, ?_⟩⟩
  · have h1 := World.cell?_alloc_mark w.drew (bytesRow ⟨l.toArray⟩ (grownCap w l.length 0 e)) e ((bytesRow ⟨l.toArray⟩ (grownCap w l.length 0 e)).size, (bytesRow ⟨l.toArray⟩ (grownCap w l.length 0 e)).size + 1) j
    have h2 := bytesRow_at ⟨l.toArray⟩ (grownCap w l.length 0 e) j (by simpa using hj)
    exact h1.trans (by rw [h2]; simp)
  · have h1 := World.frozen?_alloc_mark w.drew (bytesRow ⟨l.toArray⟩ (grownCap w l.length 0 e)) e (bytesRow ⟨l.toArray⟩ (grownCap w l.length 0 e)).size ((bytesRow ⟨l.toArray⟩ (grownCap w l.length 0 e)).size + 1) j
    have h3 : j < (bytesRow ⟨l.toArray⟩ (grownCap w l.length 0 e)).size := by
      have h2 := bytesRow_at ⟨l.toArray⟩ (grownCap w l.length 0 e) j (by simpa using hj)
      exact (Array.getElem?_eq_some_iff.1 h2).1
    exact h1.trans (by simp; omega)

theorem xor8_nat (a b : Nat) (ha : a < 256) (hb : b < 256) : bits .xor .u8 (a : Int) (b : Int) = ((a ^^^ b : Nat) : Int) := by
  show IntKind.u8.wrap ((BitVec.ofInt 8 (a : Int) ^^^ BitVec.ofInt 8 (b : Int)).toNat : Int) = _
  have h1 : (BitVec.ofInt 8 (a : Int)).toNat = a := by
    rw [BitVec.ofInt_natCast, BitVec.toNat_ofNat]; exact Nat.mod_eq_of_lt (by omega)
  have h2 : (BitVec.ofInt 8 (b : Int)).toNat = b := by
    rw [BitVec.ofInt_natCast, BitVec.toNat_ofNat]; exact Nat.mod_eq_of_lt (by omega)
  have hx : a ^^^ b < 2 ^ 8 := Nat.xor_lt_two_pow (by omega) (by omega)
  rw [BitVec.toNat_xor, h1, h2]
  rw [IntKind.wrap_u8]
  omega
/-- The turned byte is another one. -/
theorem turned_byte (c : UInt8) (r : Int) (h0 : 0 ≤ r) (h1 : r < 255) : ∃ y : UInt8, bits .xor .u8 (c.toNat : Int) (IntKind.u8.wrap (IntKind.i64.wrap (1 + r))) = (y.toNat : Int) ∧ y ≠ c := by
  obtain ⟨d, hd, hd1, hd2⟩ : ∃ d : Nat, 1 + r = (d : Int) ∧ 1 ≤ d ∧ d < 256 := ⟨(1 + r).toNat, by omega, by omega, by omega⟩
  have e : IntKind.u8.wrap (IntKind.i64.wrap (1 + r)) = (d : Int) := by rw [hd, IntKind.wrap_i64, IntKind.wrap_u8]; omega
  have hc := c.toNat_lt
  have hx : c.toNat ^^^ d < 2 ^ 8 := Nat.xor_lt_two_pow (by omega) (by omega)
  have ey : (c.toNat ^^^ d).toUInt8.toNat = (c.toNat ^^^ d) % 256 := rfl
  refine ⟨(c.toNat ^^^ d).toUInt8, by rw [e, xor8_nat _ _ (by omega) hd2, ey]; omega, fun h => ?_⟩
  have h2 := congrArg UInt8.toNat h
  rw [ey, Nat.mod_eq_of_lt (by omega)] at h2
  have h3 := congrArg (c.toNat ^^^ ·) h2
  simp [← Nat.xor_assoc] at h3
  omega
theorem ba_ext {a b : ByteArray} (h : a.data.toList = b.data.toList) : a = b := by
  cases a; cases b; simp_all
theorem out_seal (l : List UInt8) : outS ⟨(sealB l).toArray⟩ ⟨l.toArray⟩ 0 := by
  have h4 : (fourB (crcOf 0 l)).length = 4 := rfl
  have hs : (⟨(sealB l).toArray⟩ : ByteArray).size = l.length + 4 := by show (sealB l).toArray.size = _; simp [sealB, h4]
  refine .inl ⟨ok_seal l, ba_ext ?_, rfl⟩
  rw [Lib.extract_data, hs]
  simp [sealB]
theorem out_turned (l : List UInt8) (k : Nat) (hk : k < (sealB l).length) (y : UInt8) (hy : y ≠ (sealB l)[k]) : outS ⟨((sealB l).set k y).toArray⟩ ⟨#[]⟩ 5 := .inr ⟨ok_turned l k hk y hy, rfl, rfl⟩

end Go.Proofs.Ytjdkenopfnepaaa
