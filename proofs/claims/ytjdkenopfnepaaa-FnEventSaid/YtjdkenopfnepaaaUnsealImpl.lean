/- The contracts of Unseal, the program's. -/
import Derived.Test.YtjdkenopfnepaaaSeal
import Derived.Deep.RegionWith
import Derived.Lib.Strings
namespace Go.Proofs.Ytjdkenopfnepaaa
open Go.RowKit

/-- What is handed back: a text, the place 0, a code. -/
def textV (t : ByteArray) (c : Int) : Value := .agg #[.string t, .int .i64 0, .int .i64 c]

/-- Do the last four bytes bear the CRC of all ahead of them? -/
def okS (s : ByteArray) : Bool := fourB (crcOf 0 (s.extract 0 (s.size - 4)).data.toList) == (s.extract (s.size - 4) s.size).toList
/-- What is handed back of a text that is neither too long nor too short. -/
def outS (s t : ByteArray) (c : Int) : Prop := (okS s = true ∧ t = s.extract 0 (s.size - 4) ∧ c = 0) ∨ (okS s = false ∧ t = ⟨#[]⟩ ∧ c = 5)
theorem outS_yes {s t : ByteArray} {c : Int} (h : outS s t c) (hb : (!fourB (crcOf 0 (s.extract 0 (s.size - 4)).data.toList) == (s.extract (s.size - 4) s.size).toList) = false) : t = s.extract 0 (s.size - 4) ∧ c = 0 := by
  rcases h with ⟨_, h⟩ | ⟨h, _⟩
  · exact h
  · unfold okS at h; rw [h] at hb; cases hb
theorem outS_no {s t : ByteArray} {c : Int} (h : outS s t c) (hb : (!fourB (crcOf 0 (s.extract 0 (s.size - 4)).data.toList) == (s.extract (s.size - 4) s.size).toList) = true) : t = ⟨#[]⟩ ∧ c = 5 := by
  rcases h with ⟨h, _⟩ | ⟨_, h⟩
  · unfold okS at h; rw [h] at hb; cases hb
  · exact h
theorem seal_same (s : ByteArray) (h4 : 4 ≤ (s.size : Int)) : (sealB (s.extract 0 (s.size - 4)).data.toList == s.toList) = okS s := by
  have hl : s.data.toList.length = s.size := rfl
  unfold okS sealB
  rw [Lib.toList_data, Lib.extract_toList, Lib.extract_data]
  generalize fourB _ = f
  rw [List.drop_zero, Nat.sub_zero, List.take_of_length_le (l := s.data.toList.drop (s.size - 4)) (by rw [List.length_drop]; omega)]
  rw [Bool.eq_iff_iff]
  simp only [beq_iff_eq]
  constructor
  · intro h
    have := congrArg (List.drop (s.size - 4)) h
    rw [List.drop_append, List.drop_eq_nil_of_le (by rw [List.length_take]; omega)] at this
    rw [← this, List.length_take, show s.size - 4 - min (s.size - 4) s.data.toList.length = 0 by omega]
    simp
  · intro h
    rw [h, List.take_append_drop]


set_option maxHeartbeats 400000 in
theorem unseal_impl_big (s : ByteArray) (w : World) (hs : (s.size : Int) > 8000) :
    Calls Try.prog 52 #[.string s] w fun e w' => e = .returned (textV ⟨#[]⟩ 2) ∧ Below w.heap.size w w' := by
  go_enter Try.func52, Try.ntmps52
  go_wp2
  exact bodyPost_ret (v := textV ⟨#[]⟩ 2) (by simp [results, Try.results52, go_sem, textV]) rfl ⟨rfl, (Below.refl _ _).alloc (Nat.le_refl _) _⟩
set_option maxHeartbeats 400000 in
theorem unseal_impl_short (s : ByteArray) (w : World) (hs : (s.size : Int) < 4) :
    Calls Try.prog 52 #[.string s] w fun e w' => e = .returned (textV ⟨#[]⟩ 4) ∧ Below w.heap.size w w' := by
  go_enter Try.func52, Try.ntmps52
  go_wp2
  exact bodyPost_ret (v := textV ⟨#[]⟩ 4) (by simp [results, Try.results52, go_sem, textV]) rfl ⟨rfl, (Below.refl _ _).alloc (Nat.le_refl _) _⟩
set_option maxHeartbeats 1000000 in
theorem unseal_impl_any (s : ByteArray) (w : World) (hs : (s.size : Int) ≤ 8000) (h4 : 4 ≤ (s.size : Int)) (t : ByteArray) (c : Int) (ho : outS s t c) :
    Calls Try.prog 52 #[.string s] w fun e w' => e = .returned (textV t c) ∧ Below w.heap.size w w' := by
  have HO : Hid (outS s t c) := ho
  clear ho
  have HS : Hid ((sealB (s.extract 0 (s.size - 4)).data.toList == s.toList) = okS s) := seal_same s h4
  have hbs : ((s.extract 0 (s.size - 4)).size : Int) ≤ 7996 := by simp only [ByteArray.size_extract]; omega
  go_enter Try.func52, Try.ntmps52
  go_wp2_with fail
  generalize hB : s.extract 0 (s.size - 4) = body at hbs ⊢
  have HB : Hid (s.extract 0 (s.size - 4) = body) := hB
  clear hB
  refine (seal_impl body _ hbs).mono ?_
  rintro e w1 ⟨rfl, hb1⟩
  obtain ⟨hc1, hf1⟩ := bcell hb1
  have hz : w.heap.size < w1.heap.size := by have := hb1.size; simp at this; omega
  have hbw : Below w.heap.size w w1 := ((Below.refl _ _).alloc (Nat.le_refl _) _).trans (hb1.mono (by simp))
  go_wp2_with fail
  · have htest : (!sealB body.data.toList == s.toList) = true := by assumption
    have hB := HB.out
    rw [← hB, HS.out] at htest
    obtain ⟨rfl, rfl⟩ := outS_no HO.out htest
    refine bodyPost_ret (v := textV ⟨#[]⟩ 5) ?_ rfl ⟨rfl, ?_⟩
    · simp [results, Try.results52, go_sem, textV, hc1]
    · exact ((hbw.setCell (Nat.le_refl _) _).setCell (Nat.le_refl _) _).setCell (Nat.le_refl _) _
  · have htest : (!sealB body.data.toList == s.toList) = false := by assumption
    have hB := HB.out
    rw [← hB, HS.out] at htest
    obtain ⟨rfl, rfl⟩ := outS_yes HO.out htest
    clear htest hB
    refine (joined_one body _ _ (by omega)).mono ?_
    rintro e w2 ⟨rfl, hb2⟩
    obtain ⟨hc2, hf2⟩ := bcell hb2
    go_wp2
    have hB := HB.out
    refine bodyPost_ret (v := textV (s.extract 0 (s.size - 4)) 0) ?_ rfl ⟨rfl, ?_⟩
    · simp [results, Try.results52, go_sem, textV, hc1, hc2, hz, hB]
    · exact (((hbw.trans (hb2.mono (by omega))).setCell (Nat.le_refl _) _).setCell (Nat.le_refl _) _).setCell (Nat.le_refl _) _
end Go.Proofs.Ytjdkenopfnepaaa
