/- What DrawPutNum and DrawPutText hand back. -/
import Derived.Test.YthlbdoppaledeaaDoorSrc
namespace Go.Proofs.YthlbdoppaledeaaDoor
open Go.RowKit

/-- Some number of int64. -/
def NumPost (base : Nat) (w : World) (e : Ending) (w' : World) : Prop :=
  ∃ n : Int, e = .returned (.int .i64 n) ∧ -9223372036854775808 ≤ n ∧ n ≤ 9223372036854775807 ∧ Below base w w'
/-- Some text of at most 20010 bytes. -/
def TxtPost (base : Nat) (w : World) (e : Ending) (w' : World) : Prop :=
  ∃ l : List UInt8, e = .returned (.string ⟨l.toArray⟩) ∧ l.length ≤ 20010 ∧ Below base w w'
theorem bv_zeros (n : Nat) : bv (List.replicate n 0) = List.replicate n (.int .u8 0) := by simp [bv]

set_option maxHeartbeats 1000000 in
theorem draw_any (base g : Nat) (w : World) (hs : SrcAt w base g) :
    Calls Tryd.prog 13 #[.pointer (some ⟨g, 0, none⟩)] w (NumPost base w) := by
  have H0 : Hid (SrcAt w base g) := hs
  clear hs
  go_enter Tryd.func13, Tryd.ntmps13
  go_wp2_with fail
  refine (draw_one base g 4 _ H0.out (by omega)).mono ?_
  rintro e w2 ⟨b, rfl, hs2, hg2, hz2'⟩
  have H2 : Hid (SrcAt w2 base g ∧ Below base w w2) := ⟨hs2, grown_below hg2 H0.out.1 H0.out.lt⟩
  clear hs2 hg2 hz2'
  cases b
  · go_wp2_with fail
    refine (draw_n base g 1099511627776 _ H2.out.1 (by omega)).mono ?_
    rintro e w3 ⟨r, rfl, h0, h1, h2, hs3, hg3, hz3⟩
    have hr : r < 1099511627776 := h1 (by omega)
    have H3 : Hid (Below base w w3) := H2.out.2.trans (grown_below hg3 H2.out.1.1 H2.out.1.lt)
    clear h1 h2 hs3 hg3 hz3
    go_wp2
    go_ret
    exact ⟨_, rfl, by omega, by omega, H3.out⟩
  · go_wp2_with fail
    refine (draw_edge base g _ H2.out.1).mono ?_
    rintro e w3 ⟨r, rfl, h0, h1, hs3, hb3⟩
    have H3 : Hid (Below base w w3 ∧ -9223372036854775808 ≤ r ∧ r ≤ 9223372036854775807) := ⟨H2.out.2.trans hb3, h0, h1⟩
    clear h0 h1 hs3 hb3
    go_wp2
    go_ret
    exact ⟨_, rfl, H3.out.2.1, H3.out.2.2, H3.out.1⟩

set_option maxHeartbeats 1000000 in
theorem draw_num (base : Nat) (a : Option Addr) (len cap : Nat) (w : World) (hb : base ≤ w.heap.size) (hc : CodeAt w base a len) :
    Calls Tryd.prog 4 #[.slice a len cap] w (NumPost base w) := by
  have HC : Hid (CodeAt w base a len) := hc
  clear hc
  go_enter Tryd.func4, Tryd.ntmps4
  go_wp2_with fail
  refine (draw_source base a len cap _ hb HC.out).mono ?_
  rintro e w1 ⟨g, rfl, hs1, hb1⟩
  have H1 : Hid (SrcAt w1 base g ∧ Below base w w1) := ⟨hs1, hb1⟩
  clear hs1 hb1
  go_wp2_with fail
  refine (draw_any base g _ H1.out.1).mono ?_
  rintro e w2 ⟨n, rfl, h0, h1, hb2⟩
  have H2 : Hid (Below base w w2 ∧ -9223372036854775808 ≤ n ∧ n ≤ 9223372036854775807) := ⟨H1.out.2.trans hb2, h0, h1⟩
  clear h0 h1 hb2
  go_wp2
  go_ret
  exact ⟨n, rfl, H2.out.2.1, H2.out.2.2, H2.out.1⟩

set_option maxHeartbeats 1000000 in
theorem draw_text (base : Nat) (a : Option Addr) (len cap : Nat) (w : World) (hb : base ≤ w.heap.size) (hc : CodeAt w base a len) :
    Calls Tryd.prog 8 #[.slice a len cap] w (TxtPost base w) := by
  obtain ⟨i0, hi, hz0, hz1, hz2⟩ := info_parts Tryd.info5
  have HC : Hid (CodeAt w base a len) := hc
  clear hc
  go_enter Tryd.func8, Tryd.ntmps8
  go_wp2_with fail
  refine (draw_source base a len cap _ hb HC.out).mono ?_
  rintro e w1 ⟨g, rfl, hs1, hb1⟩
  have H1 : Hid (SrcAt w1 base g ∧ Below base w w1) := ⟨hs1, hb1⟩
  clear hs1 hb1
  go_wp2_with fail
  refine (draw_one base g 8 _ H1.out.1 (by omega)).mono ?_
  rintro e w2 ⟨b, rfl, hs2, hg2, hz2'⟩
  have H2 : Hid (SrcAt w2 base g ∧ Below base w w2) := ⟨hs2, H1.out.2.trans (grown_below hg2 H1.out.1.1 H1.out.1.lt)⟩
  clear hs2 hg2 hz2'
  cases b
  · go_wp2_with fail
    refine (draw_n base g 20 _ H2.out.1 (by omega)).mono ?_
    rintro e w3 ⟨r, rfl, h0, h1, h2, hs3, hg3, hz3⟩
    have hr : r < 20 := h1 (by omega)
    have H3 : Hid (SrcAt w3 base g ∧ Below base w w3) := ⟨hs3, H2.out.2.trans (grown_below hg3 H2.out.1.1 H2.out.1.lt)⟩
    clear h1 h2 hs3 hg3 hz3
    obtain ⟨n, rfl⟩ := Int.eq_ofNat_of_zero_le h0
    go_wp2_with fail
    refine (draw_bytes base g n _ H3.out.1 (by omega)).mono ?_
    rintro e w4 ⟨l, rfl, hl, hs4, hb4⟩
    have H4 : Hid (l.length = n ∧ Below base w w4) := ⟨hl, H3.out.2.trans hb4⟩
    clear hl hs4 hb4
    go_wp2
    go_ret
    exact ⟨l, rfl, by have := H4.out.1; omega, H4.out.2⟩
  · go_wp2_with fail
    refine (draw_n base g 3 _ H2.out.1 (by omega)).mono ?_
    rintro e w3 ⟨r, rfl, h0, h1, h2, hs3, hg3, hz3⟩
    have hr : r < 3 := h1 (by omega)
    have hw3 : base ≤ w3.heap.size := Nat.le_trans hs3.1 (Nat.le_of_lt hs3.lt)
    have H3 : Hid (Below base w w3) := H2.out.2.trans (grown_below hg3 H2.out.1.1 H2.out.1.lt)
    clear h1 h2 hs3 hg3 hz3
    obtain ⟨n, rfl⟩ := Int.eq_ofNat_of_zero_le h0
    go_wp2_with (at_make; refine wpList_make_full _ rfl _ _ 22 rfl w3.heap.size 5 i0 (.int .u8 0) 1 Tryd.underlying22 hi hz0 hz1 .i64 .i64 _ _ (19999 + n) rfl rfl (by omega) (by omega) (by rw [hz2]; omega) (by unfold maxLen; omega) (Nat.le_refl _) ?_; intro w4 hown hgrow; rw [made_zeros, ← bv_zeros] at hown; have hcv := own_string (P := Tryd.prog) (n := 19999 + n) (List.replicate (19999 + n) 0) Tryd.underlying22 Tryd.underlying5 Tryd.underlying9 (by simp) hown)
    go_ret
    exact ⟨List.replicate (19999 + n) 0, rfl, by simp; omega, H3.out.grown hgrow hw3 (fun k h => by cases h)⟩
end Go.Proofs.YthlbdoppaledeaaDoor
