/- What DrawSeal, DrawCrcMore and lwAt hand back. -/
import Derived.Test.YtaonnjcfpklkfaaSrc
import Derived.Test.YtaonnjcfpklkfaaSeal
namespace Go.Proofs.Ytaonnjcfpklkfaa
open Go.RowKit

/-- Some text of at most 20000 bytes. -/
def TextPost (base : Nat) (w : World) (e : Ending) (w' : World) : Prop :=
  ∃ l : List UInt8, e = .returned (.string ⟨l.toArray⟩) ∧ l.length ≤ 20000 ∧ Below base w w'
theorem bv_zeros (n : Nat) : bv (List.replicate n 0) = List.replicate n (.int .u8 0) := by simp [bv]

set_option maxHeartbeats 1000000 in
theorem draw_seal (base : Nat) (a : Option Addr) (len cap : Nat) (w : World) (hb : base ≤ w.heap.size) (hc : CodeAt w base a len) :
    Calls Try.prog 6 #[.slice a len cap] w (TextPost base w) := by
  obtain ⟨i0, hi, hz0, hz1, hz2⟩ := info_parts Try.info5
  have HC : Hid (CodeAt w base a len) := hc
  clear hc
  go_enter Try.func6, Try.ntmps6
  go_wp2_with fail
  refine (draw_source base a len cap _ hb HC.out).mono ?_
  rintro e w1 ⟨g, rfl, hs1, hb1⟩
  have H1 : Hid (SrcAt w1 base g ∧ Below base w w1) := ⟨hs1, hb1⟩
  clear hs1 hb1
  go_wp2_with fail
  refine (draw_one base g 30 _ H1.out.1 (by omega)).mono ?_
  rintro e w2 ⟨b, rfl, hs2, hg2, hz2'⟩
  have H2 : Hid (SrcAt w2 base g ∧ Below base w w2) := ⟨hs2, H1.out.2.trans (grown_below hg2 H1.out.1.1 H1.out.1.lt)⟩
  clear hs2 hg2 hz2'
  cases b
  · go_wp2_with fail
    refine (draw_n base g 20 _ H2.out.1 (by omega)).mono ?_
    rintro e w3 ⟨r, rfl, h0, h1, h2, hs3, hg3, hz3⟩
    have hr : r < 20 := h1 (by omega)
    have H3 : Hid (SrcAt w3 base g ∧ Below base w w3) := ⟨hs3, H2.out.2.trans (grown_below hg3 H2.out.1.1 H2.out.1.lt)⟩
    clear h1 h2 hs3 hg3 hz3
    obtain ⟨n, rfl⟩ := Int.eq_ofNat_of_zero_le h0
    go_wp2_with fail
    refine (draw_bytes base g n _ H3.out.1 (by omega)).mono ?_
    rintro e w4 ⟨l, rfl, hl, hs4, hb4⟩
    have H4 : Hid (l.length = n ∧ Below base w w4) := ⟨hl, H3.out.2.trans hb4⟩
    clear hl hs4 hb4
    go_wp2
    go_ret
    exact ⟨l, rfl, by have := H4.out.1; omega, H4.out.2⟩
  · go_wp2_with fail
    refine (draw_n base g 3 _ H2.out.1 (by omega)).mono ?_
    rintro e w3 ⟨r, rfl, h0, h1, h2, hs3, hg3, hz3⟩
    have hr : r < 3 := h1 (by omega)
    have hw3 : base ≤ w3.heap.size := Nat.le_trans hs3.1 (Nat.le_of_lt hs3.lt)
    have H3 : Hid (Below base w w3) := H2.out.2.trans (grown_below hg3 H2.out.1.1 H2.out.1.lt)
    clear h1 h2 hs3 hg3 hz3
    obtain ⟨n, rfl⟩ := Int.eq_ofNat_of_zero_le h0
    go_wp2_with (at_make; refine wpList_make_full _ rfl _ _ 22 rfl w3.heap.size 5 i0 (.int .u8 0) 1 Try.underlying22 hi hz0 hz1 .i64 .i64 _ _ (19995 + n) rfl rfl (by omega) (by omega) (by rw [hz2]; omega) (by unfold maxLen; omega) (Nat.le_refl _) ?_; intro w4 hown hgrow; rw [made_zeros, ← bv_zeros] at hown; have hcv := own_string (P := Try.prog) (n := 19995 + n) (List.replicate (19995 + n) 0) Try.underlying22 Try.underlying5 Try.underlying9 (by simp) hown)
    go_ret
    exact ⟨List.replicate (19995 + n) 0, rfl, by simp; omega, H3.out.grown hgrow hw3 (fun k h => by cases h)⟩

/-- A number of int64, and a text of at most 9 bytes. -/
def CrcPost (base : Nat) (w : World) (e : Ending) (w' : World) : Prop :=
  ∃ (c : Int) (l : List UInt8), e = .returned (.tuple #[.int .i64 c, .string ⟨l.toArray⟩]) ∧ l.length ≤ 9 ∧ Below base w w'

set_option maxHeartbeats 1000000 in
theorem draw_crc (base : Nat) (a : Option Addr) (len cap : Nat) (w : World) (hb : base ≤ w.heap.size) (hc : CodeAt w base a len) :
    Calls Try.prog 11 #[.slice a len cap] w (CrcPost base w) := by
  have HC : Hid (CodeAt w base a len) := hc
  clear hc
  go_enter Try.func11, Try.ntmps11
  go_wp2_with fail
  refine (draw_source base a len cap _ hb HC.out).mono ?_
  rintro e w1 ⟨g, rfl, hs1, hb1⟩
  have H1 : Hid (SrcAt w1 base g ∧ Below base w w1) := ⟨hs1, hb1⟩
  clear hs1 hb1
  go_wp2_with fail
  refine (draw_n base g 9 _ H1.out.1 (by omega)).mono ?_
  rintro e w2 ⟨r, rfl, h0, h1, h2, hs2, hg2, hz2⟩
  have hr : r < 9 := h1 (by omega)
  have H2 : Hid (SrcAt w2 base g ∧ Below base w w2) := ⟨hs2, H1.out.2.trans (grown_below hg2 H1.out.1.1 H1.out.1.lt)⟩
  clear h1 h2 hs2 hg2 hz2
  obtain ⟨n, rfl⟩ := Int.eq_ofNat_of_zero_le h0
  go_wp2_with fail
  refine (draw_bytes base g n _ H2.out.1 (by omega)).mono ?_
  rintro e w3 ⟨l, rfl, hl, hs3, hb3⟩
  have H3 : Hid (l.length = n ∧ SrcAt w3 base g ∧ Below base w w3) := ⟨hl, hs3, H2.out.2.trans hb3⟩
  have hl9 : l.length ≤ 9 := by omega
  clear hl hs3 hb3
  go_wp2_with fail
  refine (draw_one base g 5 _ H3.out.2.1 (by omega)).mono ?_
  rintro e w4 ⟨b, rfl, hs4, hg4, hz4⟩
  have H4 : Hid (SrcAt w4 base g ∧ Below base w w4) := ⟨hs4, H3.out.2.2.trans (grown_below hg4 H3.out.2.1.1 H3.out.2.1.lt)⟩
  clear hs4 hg4 hz4
  cases b
  · go_wp2_with fail
    refine (draw_n base g 9 _ H4.out.1 (by omega)).mono ?_
    rintro e w5 ⟨r2, rfl, h20, h21, h22, hs5, hg5, hz5⟩
    have hr2 : r2 < 9 := h21 (by omega)
    have H5 : Hid (SrcAt w5 base g ∧ Below base w w5) := ⟨hs5, H4.out.2.trans (grown_below hg5 H4.out.1.1 H4.out.1.lt)⟩
    clear h21 h22 hs5 hg5 hz5
    obtain ⟨n2, rfl⟩ := Int.eq_ofNat_of_zero_le h20
    go_wp2_with fail
    refine (draw_bytes base g n2 _ H5.out.1 (by omega)).mono ?_
    rintro e w6 ⟨l2, rfl, hl2, hs6, hb6⟩
    have H6 : Hid (Below base w w6) := H5.out.2.trans hb6
    have hl29 : (({ data := l2.toArray } : ByteArray).size : Int) ≤ 9 := by show (l2.toArray.size : Int) ≤ 9; simp; omega
    have hl28 : (l2.length : Int) ≤ 9 := by omega
    clear hl2 hs6 hb6
    go_wp2_with (first | (go_at_call 52; refine (crc_spec 0 _ _ (by omega) (by omega) (by omega)).mono ?_; rintro e w' ⟨rfl, rfl⟩) | go_in)
    go_ret2
    exact ⟨_, l, rfl, hl9, H6.out⟩
  · go_wp2_with fail
    refine (draw_edge base g _ H4.out.1).mono ?_
    rintro e w5 ⟨r2, rfl, h20, h21, hs5, hb5⟩
    have H5 : Hid (Below base w w5) := H4.out.2.trans hb5
    clear h20 h21 hs5 hb5
    go_wp2
    go_ret2
    exact ⟨_, l, rfl, hl9, H5.out⟩

/-- 'lwAt': some number below 'most'. -/
def AtPost (most : Int) (w : World) (e : Ending) (w' : World) : Prop := ∃ r : Int, e = .returned (.int .i64 r) ∧ 0 ≤ r ∧ r < most ∧ w = w'
set_option maxHeartbeats 1000000 in
theorem lw_at (base : Nat) (a : Option Addr) (len cap at_ : Nat) (most : Int) (w : World) (hm : 0 < most) (hm2 : most ≤ 1000000) (hat : at_ ≤ 1) (hc : CodeAt w base a len) :
    Calls Try.prog 9 #[.slice a len cap, .int .i64 at_, .int .i64 most] w (AtPost most w) := by
  have hlen := hc.1
  by_cases h1 : most ≤ 1
  · have b1 : decide (most ≤ 1) = true := by simpa using h1
    clear hc
    go_enter Try.func9, Try.ntmps9
    go_wp2
    go_ret
    exact ⟨0, rfl, by omega, by omega, rfl⟩
  have b1 : decide (most ≤ 1) = false := by simp; omega
  by_cases h0 : len < 1
  · have b2 : ((len : Int) == 0) = true := by simp; omega
    clear hc
    go_enter Try.func9, Try.ntmps9
    go_wp2
    go_ret
    exact ⟨0, rfl, by omega, by omega, rfl⟩
  have b2 : ((len : Int) == 0) = false := by simp; omega
  obtain ⟨b, off, rfl, hbb, hbs, hcell⟩ := hc.2 (by omega)
  obtain ⟨c, hc0, hc1, hck⟩ := hcell (at_ % len) (Nat.mod_lt _ (by omega))
  clear hc hcell
  have hm1 : (at_ : Int) % (len : Int) < (len : Int) := Int.emod_lt_of_pos _ (by omega)
  have hm0 : 0 ≤ (at_ : Int) % (len : Int) := Int.emod_nonneg _ (by omega)
  go_enter Try.func9, Try.ntmps9
  go_wp2
  go_ret
  exact ⟨c % most, rfl, Int.emod_nonneg _ (by omega), Int.emod_lt_of_pos _ (by omega), rfl⟩
end Go.Proofs.Ytaonnjcfpklkfaa
