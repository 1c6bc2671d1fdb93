/- The law on numbers and texts walked: for all bytes that are drawn from the call returns true. -/
import Derived.Test.YthlbdoppaledeaaDoorDrawNums
import Derived.Test.YthlbdoppaledeaaDoorNumsPlain
import Derived.Test.YthlbdoppaledeaaDoorPutText
import Derived.Test.YthlbdoppaledeaaDoorGetNum
import Derived.Test.YthlbdoppaledeaaDoorReadText
namespace Go.Proofs.YthlbdoppaledeaaDoor
open Go.RowKit

theorem field_num (a b c : Int) (W : World) : (Instr.field 26 (.agg #[.int .i64 a, .int .i64 b, .int .i64 c]) 2).run Tryd.prog W = .ok (.int .i64 c) W := by kernel_rfl
theorem field_text (x : ByteArray) (b c : Int) (W : World) : (Instr.field 31 (.agg #[.string x, .int .i64 b, .int .i64 c]) 2).run Tryd.prog W = .ok (.int .i64 c) W := by kernel_rfl
/-- A number between two texts is read back. -/
theorem get_mid (pre post : List UInt8) (n : Int) (w : World) (hg : laidE w) (h1 : -9223372036854775808 ≤ n) (h2 : n ≤ 9223372036854775807) (hs : pre.length + post.length ≤ 7000) :
    Calls Tryd.prog 7 #[.string ⟨(pre ++ putB n ++ post).toArray⟩, .int .i64 (pre.length : Int)] w fun e w' => e = .returned (numV n ((pre.length : Int) + (putB n).length) 0) ∧ Below w.heap.size w w' := by
  have hl : (putB n).length ≤ 10 := vb_len 9 _
  have hz : (⟨(pre ++ putB n ++ post).toArray⟩ : ByteArray).size = pre.length + (putB n).length + post.length := by show (pre ++ putB n ++ post).toArray.size = _; simp; omega
  exact getnum_impl _ _ w hg _ _ _ fun w => read_impl _ pre.length w (by rw [hz]; omega) (by omega) _ (G_num pre post n h1 h2).symm
theorem str_mid (l : List UInt8) : (⟨#[120, 121]⟩ ++ ⟨l.toArray⟩ ++ ⟨#[122]⟩ : ByteArray) = ⟨([120, 121] ++ l ++ [122]).toArray⟩ := by
  rw [ByteArray.mk_append_mk, ByteArray.mk_append_mk]
theorem get_cut (n : Int) (s : ByteArray) (w : World) (hg : laidE w) (h1 : -9223372036854775808 ≤ n) (h2 : n ≤ 9223372036854775807) (hs : s.data.toList = (putB n).take ((putB n).length - 1)) :
    Calls Tryd.prog 7 #[.string s, .int .i64 0] w fun e w' => e = .returned (numV 0 0 4) ∧ Below w.heap.size w w' := by
  have hl : (putB n).length ≤ 10 := vb_len 9 _
  have hz : s.size = s.data.toList.length := rfl
  exact getnum_impl _ _ w hg _ _ _ fun w => read_impl _ 0 w (by rw [hz, hs, List.length_take]; omega) (by omega) _ (G_num_cut n h1 h2 s hs).symm
theorem str_take (l : List UInt8) : ((⟨l.toArray⟩ : ByteArray).extract 0 (l.length - 1)).data.toList = l.take (l.length - 1) := by
  rw [Lib.extract_data]; simp
/-- A text's bytes: its length, then itself. -/
def putT (u : List UInt8) : List UInt8 := putB u.length ++ u
theorem putT_len (u : List UInt8) : (putT u).length = (putB u.length).length + u.length := by simp [putT]
theorem size_list (u : List UInt8) : (⟨u.toArray⟩ : ByteArray).size = u.length := by show u.toArray.size = _; simp
theorem ptext_impl (u : List UInt8) (w : World) (hl : u.length ≤ 8000) :
    Calls Tryd.prog 9 #[.string ⟨u.toArray⟩] w fun e w' => e = .returned (.string ⟨(putT u).toArray⟩) ∧ Below w.heap.size w w' := by
  have h := puttext_impl ⟨u.toArray⟩ w (by rw [size_list]; omega)
  rw [size_list] at h
  exact h
theorem ptext_spec (u : List UInt8) (w : World) (hl : u.length ≤ 8000) :
    Calls Tryd.prog 10 #[.string ⟨u.toArray⟩] w fun e w' => e = .returned (.string ⟨(putT u).toArray⟩) ∧ Below w.heap.size w w' := by
  have h := puttext_spec ⟨u.toArray⟩ w (by rw [size_list]; omega)
  rw [size_list] at h
  exact h
theorem ba_ext {a b : ByteArray} (h : a.data.toList = b.data.toList) : a = b := by
  cases a; cases b; simp_all
theorem text_mid (u : List UInt8) (w : World) (hg : laidE w) (hl : (putT u).length + 1 ≤ 8000) :
    Calls Tryd.prog 11 #[.string ⟨(120 :: putT u).toArray⟩, .int .i64 1] w fun e w' => e = .returned (textA ⟨u.toArray⟩ ((putT u).length + 1) 0) ∧ Below w.heap.size w w' := by
  have hp := putT_len u
  have hz : (⟨(120 :: putT u).toArray⟩ : ByteArray).size = 1 + ((putB u.length).length + u.length) := by rw [size_list]; simp; omega
  have hr : ∀ w, Calls Tryd.prog 22 #[.string ⟨(120 :: putT u).toArray⟩, .int .i64 1] w (textPost w ((⟨(120 :: putT u).toArray⟩ : ByteArray).extract (1 + (putB u.length).length) (1 + (putB u.length).length + u.length)) ((1 + (putB u.length).length : Nat) + (u.length : Int)) 0) := fun w =>
    readtext_ok _ _ w u.length (1 + (putB u.length).length) (by rw [hz]; omega) (by omega) (by rw [hz]; omega) (by rw [hz]; omega) fun w =>
      read_impl _ 1 w (by rw [hz]; omega) (by omega) ((u.length : Int), ((1 + (putB u.length).length : Nat) : Int), 0) (by
        have h := G_num [120] u u.length (by omega) (by omega)
        have e : ([120] ++ putB u.length ++ u : List UInt8) = 120 :: putT u := by simp [putT]
        rw [e] at h
        exact (h.trans (by simp)).symm)
  have e1 : (⟨(120 :: putT u).toArray⟩ : ByteArray).extract (1 + (putB u.length).length) (1 + (putB u.length).length + u.length) = ⟨u.toArray⟩ := by
    apply ba_ext
    rw [Lib.extract_data]
    have e : 120 :: putT u = ([120] ++ putB u.length) ++ u := by simp [putT]
    rw [e]
    simp [Nat.add_comm 1 (putB u.length).length]
  rw [e1] at hr
  have e2 : ((1 + (putB u.length).length : Nat) + (u.length : Int)) = ((putT u).length : Int) + 1 := by rw [hp]; omega
  rw [e2] at hr
  exact gettext_impl _ _ w hg _ _ _ hr
theorem text_cut (u : List UInt8) (w : World) (hg : laidE w) (hl : (putT u).length + 1 ≤ 8000) :
    Calls Tryd.prog 11 #[.string ((⟨(putT u).toArray⟩ : ByteArray).extract 0 ((putT u).length - 1)), .int .i64 0] w fun e w' => e = .returned (textA ⟨#[]⟩ 0 4) ∧ Below w.heap.size w w' := by
  have hp := putT_len u
  have hpos : 1 ≤ (putB u.length).length := vb_pos 9 _
  have ht := str_take (putT u)
  obtain ⟨s, hs⟩ : ∃ s, s = (⟨(putT u).toArray⟩ : ByteArray).extract 0 ((putT u).length - 1) := ⟨_, rfl⟩
  rw [← hs] at ht ⊢
  have hz : s.size = (putT u).length - 1 := by
    have : s.size = s.data.toList.length := rfl
    rw [this, ht, List.length_take]; omega
  refine gettext_impl _ _ w hg _ _ _ fun w => ?_
  by_cases hu : u = []
  · subst hu
    refine readtext_err _ _ w 4 (by omega) fun w => read_impl _ 0 w (by rw [hz]; omega) (by omega) (0, 0, 4) (G_num_cut 0 (by omega) (by omega) s (by rw [ht]; simp [putT])).symm
  · have hul : 1 ≤ u.length := List.length_pos_iff.2 hu
    have e : s = ⟨([] ++ putB u.length ++ u.take (u.length - 1)).toArray⟩ := by
      apply ba_ext
      rw [ht]
      show _ = [] ++ putB u.length ++ u.take (u.length - 1)
      rw [List.nil_append, hp]
      unfold putT
      rw [List.take_append, List.take_of_length_le (by omega)]
      congr 2
      omega
    refine readtext_short _ _ w u.length (putB u.length).length (by rw [hz]; omega) (by omega) (by rw [hz]; omega) (by rw [hz]; omega) fun w => read_impl _ 0 w (by rw [hz]; omega) (by omega) ((u.length : Int), ((putB u.length).length : Int), 0) ?_
    rw [e]
    have h := G_num [] (u.take (u.length - 1)) u.length (by omega) (by omega)
    exact (h.trans (by simp)).symm

set_option maxHeartbeats 2000000 in
theorem nums_law_small (a0 a1 : Option Addr) (len0 cap0 len1 cap1 : Nat) (w : World) (h0 : CodeAt w w.heap.size a0 len0) (h1 : CodeAt w w.heap.size a1 len1) (hg : laidE w) :
    Calls Tryd.prog 3 #[.slice a0 len0 cap0, .slice a1 len1 cap1] w fun e w' => e = .returned (.bool true) ∧ Below w.heap.size w w' := by
  have hl0 := h0.1
  have hl1 := h1.1
  have H0 : Hid (CodeAt w w.heap.size a0 len0 ∧ CodeAt w w.heap.size a1 len1 ∧ laidE w) := ⟨h0, h1, hg⟩
  clear h0 h1 hg
  have hfn := field_num
  have hft := field_text
  have b0 : decide (1048576 < (len0 : Int)) = false := by simp; omega
  have b1 : decide (1048576 < (len1 : Int)) = false := by simp; omega
  go_enter Tryd.func3, Tryd.ntmps3
  go_wp2_with fail
  refine (draw_num w.heap.size a0 len0 cap0 _ (Nat.le_refl _) H0.out.1).mono ?_
  rintro e w1 ⟨n, rfl, hn1, hn2, hb1⟩
  have hB1 : Hid (Below w.heap.size w w1) := hb1
  have HN : Hid (-9223372036854775808 ≤ n ∧ n ≤ 9223372036854775807) := ⟨hn1, hn2⟩
  have hp1 : 1 ≤ (putB n).length := vb_pos 9 _
  have hp2 : (putB n).length ≤ 10 := vb_len 9 _
  clear hb1
  go_wp2_with fail
  refine (put_impl n _ HN.out.1 HN.out.2).mono ?_
  rintro e w2 ⟨rfl, hb2⟩
  have hB2 : Hid (Below w.heap.size w w2) := hB1.out.trans (hb2.mono hB1.out.size)
  clear hb2
  go_wp2_with fail
  refine (put_spec n _ HN.out.1 HN.out.2).mono ?_
  rintro e w3 ⟨rfl, hb3⟩
  have hB3 : Hid (Below w.heap.size w w3) := hB2.out.trans (hb3.mono hB2.out.size)
  clear hb3
  have c1 : decide (((putB n).length : Int) < 1) = false := by simp; omega
  have c2 : decide (10 < ((putB n).length : Int)) = false := by simp; omega
  go_wp2_with fail
  rw [str_mid]
  refine (get_mid [120, 121] [122] n _ (H0.out.2.2.later hB3.out) HN.out.1 HN.out.2 (by decide)).mono ?_
  rintro e w4 ⟨rfl, hb4⟩
  have hB4 : Hid (Below w.heap.size w w4) := hB3.out.trans (hb4.mono hB3.out.size)
  clear hb4
  unfold numV
  have hq : (([120, 121] : List UInt8).length : Int) + ((putB n).length : Int) = ((putB n).length : Int) + 2 := by simp; omega
  rw [hq]
  clear hq
  go_wp2_with fail
  refine (get_cut n _ _ (H0.out.2.2.later (hB4.out.alloc hB4.out.size _)) HN.out.1 HN.out.2 (str_take _)).mono ?_
  rintro e w5 ⟨rfl, hb5⟩
  have hB5 : Hid (Below w.heap.size w w5) := (hB4.out.alloc hB4.out.size _).trans (hb5.mono (Nat.le_trans hB4.out.size (by simp)))
  clear hb5
  unfold numV
  go_wp2_with fail
  refine (draw_text w.heap.size a1 len1 cap1 _ hB5.out.size (H0.out.2.1.kept hB5.out)).mono ?_
  rintro e w6 ⟨u, rfl, hu, hb6⟩
  have hB6 : Hid (Below w.heap.size w w6) := hB5.out.trans hb6
  clear hb6
  by_cases hsm : u.length ≤ 8000
  · go_wp2_with fail
    refine (ptext_impl u _ hsm).mono ?_
    rintro e w7 ⟨rfl, hb7⟩
    have hB7 : Hid (Below w.heap.size w w7) := hB6.out.trans (hb7.mono hB6.out.size)
    clear hb7
    go_wp2_with fail
    refine (ptext_spec u _ hsm).mono ?_
    rintro e w8 ⟨rfl, hb8⟩
    have hB8 : Hid (Below w.heap.size w w8) := hB7.out.trans (hb8.mono hB7.out.size)
    clear hb8
    have hpp : 1 ≤ (putB u.length).length := vb_pos 9 _
    have hne : ((putT u).isEmpty) = false := by
      have h1 := putT_len u
      rw [List.isEmpty_eq_false_iff]
      intro h
      rw [h] at h1
      simp at h1
      omega
    have hpl : (putT u).length ≤ 8010 := by have h1 := putT_len u; have h2 : (putB u.length).length ≤ 10 := vb_len 9 _; omega
    have hpos : 1 ≤ (putT u).length := by have h1 := putT_len u; omega
    clear hpp
    by_cases hlong : 8000 < ((putT u).length : Int) + 1
    · have bl : decide (8000 < ((putT u).length : Int) + 1) = true := by simpa using hlong
      go_wp2
      go_ret
      exact ⟨rfl, hB8.out⟩
    · have bl : decide (8000 < ((putT u).length : Int) + 1) = false := by simpa using hlong
      go_wp2_with fail
      rw [ByteArray.mk_append_mk]
      refine (text_mid u _ (H0.out.2.2.later hB8.out) (by omega)).mono ?_
      rintro e w9 ⟨rfl, hb9⟩
      have hB9 : Hid (Below w.heap.size w w9) := hB8.out.trans (hb9.mono hB8.out.size)
      clear hb9
      unfold textA
      go_wp2_with fail
      refine (text_cut u _ (H0.out.2.2.later hB9.out) (by omega)).mono ?_
      rintro e w10 ⟨rfl, hb10⟩
      have hB10 : Hid (Below w.heap.size w w10) := hB9.out.trans (hb10.mono hB9.out.size)
      clear hb10
      unfold textA
      go_wp2
      go_ret
      exact ⟨rfl, hB10.out⟩
  · go_wp2_with fail
    refine (puttext_impl_big _ _ (by rw [size_list]; omega)).mono ?_
    rintro e w7 ⟨rfl, rfl⟩
    go_wp2_with fail
    refine (puttext_spec_big _ _ (by rw [size_list]; omega)).mono ?_
    rintro e w7 ⟨rfl, rfl⟩
    go_wp2_with fail
    refine (puttext_spec_big _ _ (by rw [size_list]; omega)).mono ?_
    rintro e w7 ⟨rfl, rfl⟩
    go_wp2
    go_ret
    exact ⟨rfl, hB6.out⟩
end Go.Proofs.YthlbdoppaledeaaDoor
