/- The law on Seal, Unseal and the CRC walked: for all bytes that are drawn from the call returns true. -/
import Derived.Test.YtaonnjcfpklkfaaDrawSeal
import Derived.Test.YtaonnjcfpklkfaaCrcPlain
namespace Go.Proofs.Ytaonnjcfpklkfaa
open Go.RowKit

/-- '[]byte(s)': a new row that holds the bytes. -/
theorem to_bytes {P : Program} (w : World) (src dst e : TypeId) (l : List UInt8) (hs : P.underlying src = some .string) (hd : P.underlying dst = some (.slice e)) (he : P.underlying e = some (.int .u8)) :
    ∃ cap w', (convert src dst (.string ⟨l.toArray⟩)).run P w = .ok (.slice (some ⟨w.heap.size, 0, none⟩) l.length cap) w' ∧ Below w.heap.size w w' ∧ w.heap.size < w'.heap.size ∧
      ∀ j (h : j < l.length), w'.cell? ⟨w.heap.size, j, none⟩ = some (.int .u8 (l[j].toNat : Int)) ∧ w'.frozen? ⟨w.heap.size, j, none⟩ = false := by
  have hrun := run_bytes_of_string (P := P) w src dst e ⟨l.toArray⟩ hs hd he
  have hsz : (⟨l.toArray⟩ : ByteArray).size = l.length := by show l.toArray.size = _; simp
  rw [hsz] at hrun
  refine ⟨_, _, hrun, ((Below.refl _ _).drew.alloc (Nat.le_refl _) _), by show w.heap.size < (w.heap.push _).size; simp, fun j hj => ⟨?_, ?_⟩⟩
  · have h1 := World.cell?_alloc_mark w.drew (bytesRow ⟨l.toArray⟩ (grownCap w l.length 0 e)) e ((bytesRow ⟨l.toArray⟩ (grownCap w l.length 0 e)).size, (bytesRow ⟨l.toArray⟩ (grownCap w l.length 0 e)).size + 1) j
    have h2 := bytesRow_at ⟨l.toArray⟩ (grownCap w l.length 0 e) j (by simpa using hj)
    exact h1.trans (by rw [h2]; simp)
  · have h1 := World.frozen?_alloc_mark w.drew (bytesRow ⟨l.toArray⟩ (grownCap w l.length 0 e)) e (bytesRow ⟨l.toArray⟩ (grownCap w l.length 0 e)).size ((bytesRow ⟨l.toArray⟩ (grownCap w l.length 0 e)).size + 1) j
    have h3 : j < (bytesRow ⟨l.toArray⟩ (grownCap w l.length 0 e)).size := by
      have h2 := bytesRow_at ⟨l.toArray⟩ (grownCap w l.length 0 e) j (by simpa using hj)
      exact (Array.getElem?_eq_some_iff.1 h2).1
    exact h1.trans (by simp; omega)

theorem xor8_nat (a b : Nat) (ha : a < 256) (hb : b < 256) : bits .xor .u8 (a : Int) (b : Int) = ((a ^^^ b : Nat) : Int) := by
  show IntKind.u8.wrap ((BitVec.ofInt 8 (a : Int) ^^^ BitVec.ofInt 8 (b : Int)).toNat : Int) = _
  have h1 : (BitVec.ofInt 8 (a : Int)).toNat = a := by
    rw [BitVec.ofInt_natCast, BitVec.toNat_ofNat]; exact Nat.mod_eq_of_lt (by omega)
  have h2 : (BitVec.ofInt 8 (b : Int)).toNat = b := by
    rw [BitVec.ofInt_natCast, BitVec.toNat_ofNat]; exact Nat.mod_eq_of_lt (by omega)
  have hx : a ^^^ b < 2 ^ 8 := Nat.xor_lt_two_pow (by omega) (by omega)
  rw [BitVec.toNat_xor, h1, h2]
  rw [IntKind.wrap_u8]
  omega
/-- The turned byte is another one. -/
theorem turned_byte (c : UInt8) (r : Int) (h0 : 0 ≤ r) (h1 : r < 255) : ∃ y : UInt8, bits .xor .u8 (c.toNat : Int) (IntKind.u8.wrap (IntKind.i64.wrap (1 + r))) = (y.toNat : Int) ∧ y ≠ c := by
  obtain ⟨d, hd, hd1, hd2⟩ : ∃ d : Nat, 1 + r = (d : Int) ∧ 1 ≤ d ∧ d < 256 := ⟨(1 + r).toNat, by omega, by omega, by omega⟩
  have e : IntKind.u8.wrap (IntKind.i64.wrap (1 + r)) = (d : Int) := by rw [hd, IntKind.wrap_i64, IntKind.wrap_u8]; omega
  have hc := c.toNat_lt
  have hx : c.toNat ^^^ d < 2 ^ 8 := Nat.xor_lt_two_pow (by omega) (by omega)
  have ey : (c.toNat ^^^ d).toUInt8.toNat = (c.toNat ^^^ d) % 256 := rfl
  refine ⟨(c.toNat ^^^ d).toUInt8, by rw [e, xor8_nat _ _ (by omega) hd2, ey]; omega, fun h => ?_⟩
  have h2 := congrArg UInt8.toNat h
  rw [ey, Nat.mod_eq_of_lt (by omega)] at h2
  have h3 := congrArg (c.toNat ^^^ ·) h2
  simp [← Nat.xor_assoc] at h3
  omega
theorem ba_ext {a b : ByteArray} (h : a.data.toList = b.data.toList) : a = b := by
  cases a; cases b; simp_all
theorem out_seal (l : List UInt8) : outS ⟨(sealB l).toArray⟩ ⟨l.toArray⟩ 0 := by
  have h4 : (fourB (crcOf 0 l)).length = 4 := rfl
  have hs : (⟨(sealB l).toArray⟩ : ByteArray).size = l.length + 4 := by show (sealB l).toArray.size = _; simp [sealB, h4]
  refine .inl ⟨ok_seal l, ba_ext ?_, rfl⟩
  rw [Lib.extract_data, hs]
  simp [sealB]
theorem out_turned (l : List UInt8) (k : Nat) (hk : k < (sealB l).length) (y : UInt8) (hy : y ≠ (sealB l)[k]) : outS ⟨((sealB l).set k y).toArray⟩ ⟨#[]⟩ 5 := .inr ⟨ok_turned l k hk y hy, rfl, rfl⟩

/-- CrcMore, whatever number it is handed. -/
def crcV (c : Int) (l : List UInt8) : Int := if 0 ≤ c ∧ c ≤ 4294967295 then crcOf c l else 0
theorem crcm_spec (c : Int) (s : ByteArray) (w : World) (hs : (s.size : Int) ≤ 8000) :
    Calls Try.prog 13 #[.int .i64 c, .string s] w fun e w' => e = .returned (.int .i64 (crcV c s.data.toList)) ∧ w = w' := by
  have b1 : decide (8000 < (s.size : Int)) = false := by simp; omega
  by_cases hn : c < 0
  · have HV : Hid (crcV c s.data.toList = 0) := by unfold Hid crcV; rw [if_neg (by omega)]
    have b2 : decide (c < 0) = true := by simp; omega
    go_enter Try.func13, Try.ntmps13
    go_wp2
    go_ret
    exact ⟨ret_int HV.out.symm, rfl⟩
  have b2 : decide (c < 0) = false := by simp; omega
  by_cases hg : 4294967295 < c
  · have HV : Hid (crcV c s.data.toList = 0) := by unfold Hid crcV; rw [if_neg (by omega)]
    have b3 : decide (4294967295 < c) = true := by simp; omega
    go_enter Try.func13, Try.ntmps13
    go_wp2
    go_ret
    exact ⟨ret_int HV.out.symm, rfl⟩
  have b3 : decide (4294967295 < c) = false := by simp; omega
  have HV : Hid (crcV c s.data.toList = crcOf c s.data.toList) := by unfold Hid crcV; rw [if_pos (by omega)]
  go_enter Try.func13, Try.ntmps13
  go_wp2_with (go_at_call 52; refine (crc_spec c s _ hs (by omega) (by omega)).mono ?_; rintro e w' ⟨rfl, rfl⟩)
  go_ret
  exact ⟨ret_int HV.out.symm, rfl⟩
theorem crcm_impl (c : Int) (s : ByteArray) (w : World) (hs : (s.size : Int) ≤ 8000) :
    Calls Try.prog 12 #[.int .i64 c, .string s] w fun e w' => e = .returned (.int .i64 (crcV c s.data.toList)) ∧ w = w' := by
  have b1 : decide (8000 < (s.size : Int)) = false := by simp; omega
  by_cases hn : c < 0
  · have HV : Hid (crcV c s.data.toList = 0) := by unfold Hid crcV; rw [if_neg (by omega)]
    have b2 : decide (c < 0) = true := by simp; omega
    go_enter Try.func12, Try.ntmps12
    go_wp2
    go_ret
    exact ⟨ret_int HV.out.symm, rfl⟩
  have b2 : decide (c < 0) = false := by simp; omega
  by_cases hg : 4294967295 < c
  · have HV : Hid (crcV c s.data.toList = 0) := by unfold Hid crcV; rw [if_neg (by omega)]
    have b3 : decide (4294967295 < c) = true := by simp; omega
    go_enter Try.func12, Try.ntmps12
    go_wp2
    go_ret
    exact ⟨ret_int HV.out.symm, rfl⟩
  have hv : crcV c s.data.toList = crcOf c s.data.toList := by unfold crcV; rw [if_pos (by omega)]
  rw [hv]
  exact crcmore_impl c s w hs (by omega) (by omega)
theorem crcV_on (l m : List UInt8) : crcV (crcOf 0 l) m = crcOf 0 (l ++ m) := by
  have h := crcOf_in 0 l
  unfold In32 at h
  unfold crcV
  rw [if_pos h, crc_goes_on]

theorem field_code (x : ByteArray) (b c : Int) (W : World) : (Instr.field 27 (.agg #[.string x, .int .i64 b, .int .i64 c]) 2).run Try.prog W = .ok (.int .i64 c) W := by kernel_rfl

theorem seal_impl_big (s : ByteArray) (w : World) (hs : (s.size : Int) > 7996) :
    Calls Try.prog 7 #[.string s] w fun e w' => e = .returned (.string ⟨#[]⟩) ∧ w = w' := by
  go_enter Try.func7, Try.ntmps7
  go_wp2
  go_ret
  exact ⟨rfl, rfl⟩
theorem seal_spec_big (s : ByteArray) (w : World) (hs : (s.size : Int) > 7996) :
    Calls Try.prog 8 #[.string s] w fun e w' => e = .returned (.string ⟨#[]⟩) ∧ w = w' := by
  go_enter Try.func8, Try.ntmps8
  go_wp2
  go_ret
  exact ⟨rfl, rfl⟩

set_option maxHeartbeats 2000000 in
set_option maxRecDepth 100000 in
theorem seal_law_small (a0 a1 : Option Addr) (len0 cap0 len1 cap1 : Nat) (w : World) (h0 : CodeAt w w.heap.size a0 len0) (h1 : CodeAt w w.heap.size a1 len1) :
    Calls Try.prog 3 #[.slice a0 len0 cap0, .slice a1 len1 cap1] w fun e w' => e = .returned (.bool true) ∧ Below w.heap.size w w' := by
  have hl0 := h0.1
  have hl1 := h1.1
  have H0 : Hid (CodeAt w w.heap.size a0 len0 ∧ CodeAt w w.heap.size a1 len1) := ⟨h0, h1⟩
  clear h0 h1
  have hfld := field_code
  have b0 : decide (1048576 < (len0 : Int)) = false := by simp; omega
  have b1 : decide (1048576 < (len1 : Int)) = false := by simp; omega
  go_enter Try.func3, Try.ntmps3
  go_wp2_with fail
  refine (draw_seal w.heap.size a0 len0 cap0 _ (Nat.le_refl _) H0.out.1).mono ?_
  rintro e w1 ⟨l, rfl, hl, hb1⟩
  have hB1 : Hid (Below w.heap.size w w1) := hb1
  have hs1 : w.heap.size ≤ w1.heap.size := hb1.size
  clear hb1
  have hsz : (⟨l.toArray⟩ : ByteArray).size = l.length := by show l.toArray.size = _; simp
  by_cases hsm : (l.length : Int) ≤ 7996
  · go_wp2_with fail
    refine (seal_impl _ _ (by rw [hsz]; exact hsm)).mono ?_
    rintro e w2 ⟨rfl, hb2⟩
    have hB2 : Hid (Below w.heap.size w w2) := hB1.out.trans (hb2.mono hs1)
    have hs2 : w.heap.size ≤ w2.heap.size := hB2.out.size
    clear hb2
    go_wp2_with fail
    refine (seal_spec _ _ (by rw [hsz]; exact hsm)).mono ?_
    rintro e w3 ⟨rfl, hb3⟩
    have hB3 : Hid (Below w.heap.size w w3) := hB2.out.trans (hb3.mono hs2)
    have hs3 : w.heap.size ≤ w3.heap.size := hB3.out.size
    clear hb3
    have hne : ((sealB l).isEmpty) = false := by simp [sealB, fourB]
    obtain ⟨cap4, w4, hcv, hb4, hz4, hrow⟩ := to_bytes (P := Try.prog) w3 9 22 5 (sealB l) Try.underlying9 Try.underlying22 Try.underlying5
    have HR : Hid (∀ j (h : j < (sealB l).length), w4.cell? ⟨w3.heap.size, j, none⟩ = some (.int .u8 ((sealB l)[j].toNat : Int)) ∧ w4.frozen? ⟨w3.heap.size, j, none⟩ = false) := hrow
    have hB4 : Hid (Below w.heap.size w w4) := hB3.out.trans (hb4.mono hs3)
    have hlen : (sealB l).length = l.length + 4 := by simp [sealB, fourB]
    have HL : Hid ((sealB l).length = l.length + 4) := hlen
    have hlo : 4 ≤ (sealB l).length := by omega
    have hhi : (sealB l).length ≤ 8000 := by omega
    clear hrow hb4 hlen
    go_wp2_with fail
    refine (lw_at w.heap.size a1 len1 cap1 0 _ _ (by omega) (by omega) (by omega) (H0.out.2.kept hB4.out)).mono ?_
    rintro e w5 ⟨k, rfl, hk0, hk1, rfl⟩
    obtain ⟨k, rfl⟩ := Int.eq_ofNat_of_zero_le hk0
    have hkl : k < (sealB l).length := by omega
    obtain ⟨hck, hfk⟩ := HR.out k hkl
    go_wp2_with fail
    have HC1 : Hid (CodeAt w4.drew w.heap.size a1 len1) := H0.out.2.kept hB4.out.drew
    go_region_with (go_at_call 9; refine (lw_at w.heap.size a1 len1 cap1 1 255 _ (by omega) (by omega) (by omega) HC1.out).mono ?_; rintro e w5 ⟨r, rfl, hr0, hr1, rfl⟩)
    all_goals
      obtain ⟨y, hy, hyn⟩ := turned_byte (sealB l)[k] r hr0 hr1
      have HO2 : Hid (outS ⟨((sealB l).set k y).toArray⟩ ⟨#[]⟩ 5) := out_turned l k hkl y hyn
      rw [hy]
      obtain ⟨W5, hW5⟩ : ∃ W5, W5 = (w4.setCell ⟨w3.heap.size, k, none⟩ (.int .u8 (y.toNat : Int))).drew := ⟨_, rfl⟩
      rw [← hW5]
      have HW : Hid (W5 = (w4.setCell ⟨w3.heap.size, k, none⟩ (.int .u8 (y.toNat : Int))).drew) := hW5
      clear hW5 hyn hy hck hfk hr0 hr1
      have hrow5 : ∀ j (h : j < ((sealB l).set k y).length), W5.cell? ⟨w3.heap.size, j, none⟩ = some (.int .u8 (((sealB l).set k y)[j].toNat : Int)) := fun j h => by
        have hj : j < (sealB l).length := by simpa using h
        have h1 := (HR.out j hj).1
        rw [HW.out]
        show (w4.setCell ⟨w3.heap.size, k, none⟩ (.int .u8 (y.toNat : Int))).cell? ⟨w3.heap.size, j, none⟩ = _
        by_cases e : k = j
        · subst e
          rw [World.cell?_setCell_same' w4 _ _ (by rw [h1]; rfl)]; simp
        · rw [List.getElem_set_ne e]
          refine Eq.trans ?_ h1
          apply World.cell?_setCell_other
          simp
      have hB5 : Hid (Below w.heap.size w W5) := by unfold Hid; rw [HW.out]; exact (hB4.out.setCell hs3 _).drew
      have hz5 : w3.heap.size < W5.heap.size := by rw [HW.out]; show _ < (w4.setCell _ _).heap.size; simpa [World.setCell] using hz4
      have HR5 : Hid (∀ j (h : j < ((sealB l).set k y).length), W5.cell? ⟨w3.heap.size, j, none⟩ = some (.int .u8 (((sealB l).set k y)[j].toNat : Int))) := hrow5
      have hsS : (⟨(sealB l).toArray⟩ : ByteArray).size = (sealB l).length := by show (sealB l).toArray.size = _; simp
      have hsT : (⟨((sealB l).set k y).toArray⟩ : ByteArray).size = (sealB l).length := by show ((sealB l).set k y).toArray.size = _; simp
      have HSS : Hid ((⟨(sealB l).toArray⟩ : ByteArray).size = (sealB l).length ∧ (⟨((sealB l).set k y).toArray⟩ : ByteArray).size = (sealB l).length) := ⟨hsS, hsT⟩
      clear hrow5 hsS hsT
      go_wp2_with fail
      refine (unseal_impl_any ⟨(sealB l).toArray⟩ _ (by rw [HSS.out.1]; omega) (by rw [HSS.out.1]; omega) ⟨l.toArray⟩ 0 (out_seal l)).mono ?_
      rintro e w6 ⟨rfl, hb6⟩
      unfold textV
      have hB6 : Hid (Below w.heap.size w w6) := hB5.out.trans (hb6.mono hB5.out.size)
      have hcv6 : (convert 22 9 (.slice (some ⟨w3.heap.size, 0, none⟩) (sealB l).length cap4)).run Try.prog w6 = .ok (.string ⟨((sealB l).set k y).toArray⟩) w6 := by
        have h := run_convert_bytes_back (P := Try.prog) w6 22 9 5 ⟨w3.heap.size, 0, none⟩ cap4 ((sealB l).set k y) Try.underlying22 Try.underlying5 Try.underlying9 (fun j hj => by
          rw [Addr.add_lit, Nat.zero_add, hb6.cell (p := ⟨w3.heap.size, j, none⟩) hz5]
          exact HR5.out j hj)
        rw [List.length_set] at h
        exact h
      clear hb6
      go_wp2_with fail
      refine (unseal_impl_any ⟨((sealB l).set k y).toArray⟩ _ (by rw [HSS.out.2]; omega) (by rw [HSS.out.2]; omega) ⟨#[]⟩ 5 HO2.out).mono ?_
      rintro e w7 ⟨rfl, hb7⟩
      unfold textV
      have hB7 : Hid (Below w.heap.size w w7) := hB6.out.trans (hb7.mono hB6.out.size)
      clear hb7 hcv6
      go_wp2_with fail
      refine (draw_crc w.heap.size a1 len1 cap1 _ hB7.out.size (H0.out.2.kept hB7.out)).mono ?_
      rintro e w8 ⟨c, u, rfl, hu, hb8⟩
      have hB8 : Hid (Below w.heap.size w w8) := hB7.out.trans hb8
      have hsu : (⟨u.toArray⟩ : ByteArray).size = u.length := by show u.toArray.size = _; simp
      have HSU : Hid ((⟨u.toArray⟩ : ByteArray).size = u.length) := hsu
      have hgo := crcV_on l u
      clear hb8 hsu
      by_cases hlong : 8000 < (l.length : Int) + (u.length : Int)
      · go_wp2
        go_ret
        exact ⟨rfl, hB8.out⟩
      · go_wp2_with fail
        refine (crcm_impl c ⟨u.toArray⟩ _ (by rw [HSU.out]; omega)).mono ?_
        rintro e w9 ⟨rfl, rfl⟩
        go_wp2_with fail
        refine (crcm_spec c ⟨u.toArray⟩ _ (by rw [HSU.out]; omega)).mono ?_
        rintro e w9 ⟨rfl, rfl⟩
        go_wp2_with fail
        refine (crc_impl ⟨l.toArray⟩ _ (by rw [hsz]; omega)).mono ?_
        rintro e w9 ⟨rfl, rfl⟩
        go_wp2_with fail
        refine (crcm_impl _ ⟨u.toArray⟩ _ (by rw [HSU.out]; omega)).mono ?_
        rintro e w9 ⟨rfl, rfl⟩
        go_wp2_with fail
        rw [ByteArray.mk_append_mk]
        refine (crc_impl ⟨(l ++ u).toArray⟩ _ (by show ((l ++ u).toArray.size : Int) ≤ 8000; simp; omega)).mono ?_
        rintro e w9 ⟨rfl, rfl⟩
        go_wp2
        go_ret
        exact ⟨rfl, hB8.out⟩
  · go_wp2_with fail
    refine (seal_impl_big _ _ (by rw [hsz]; omega)).mono ?_
    rintro e w2 ⟨rfl, rfl⟩
    go_wp2_with fail
    refine (seal_spec_big _ _ (by rw [hsz]; omega)).mono ?_
    rintro e w2 ⟨rfl, rfl⟩
    go_wp2_with fail
    refine (draw_crc w.heap.size a1 len1 cap1 _ hB1.out.size (H0.out.2.kept hB1.out)).mono ?_
    rintro e w8 ⟨c, u, rfl, hu, hb8⟩
    have hB8 : Hid (Below w.heap.size w w8) := hB1.out.trans hb8
    have hsu : (⟨u.toArray⟩ : ByteArray).size = u.length := by show u.toArray.size = _; simp
    have HSU : Hid ((⟨u.toArray⟩ : ByteArray).size = u.length) := hsu
    have hgo := crcV_on l u
    clear hb8 hsu
    by_cases hlong : 8000 < (l.length : Int) + (u.length : Int)
    · go_wp2
      go_ret
      exact ⟨rfl, hB8.out⟩
    · go_wp2_with fail
      refine (crcm_impl c ⟨u.toArray⟩ _ (by rw [HSU.out]; omega)).mono ?_
      rintro e w9 ⟨rfl, rfl⟩
      go_wp2_with fail
      refine (crcm_spec c ⟨u.toArray⟩ _ (by rw [HSU.out]; omega)).mono ?_
      rintro e w9 ⟨rfl, rfl⟩
      go_wp2_with fail
      refine (crc_impl ⟨l.toArray⟩ _ (by rw [hsz]; omega)).mono ?_
      rintro e w9 ⟨rfl, rfl⟩
      go_wp2_with fail
      refine (crcm_impl _ ⟨u.toArray⟩ _ (by rw [HSU.out]; omega)).mono ?_
      rintro e w9 ⟨rfl, rfl⟩
      go_wp2_with fail
      rw [ByteArray.mk_append_mk]
      refine (crc_impl ⟨(l ++ u).toArray⟩ _ (by show ((l ++ u).toArray.size : Int) ≤ 8000; simp; omega)).mono ?_
      rintro e w9 ⟨rfl, rfl⟩
      go_wp2
      go_ret
      exact ⟨rfl, hB8.out⟩
end Go.Proofs.Ytaonnjcfpklkfaa
