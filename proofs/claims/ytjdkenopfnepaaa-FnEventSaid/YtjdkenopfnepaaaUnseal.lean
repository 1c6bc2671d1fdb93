/- The contracts of Unseal, the specification's. -/
import Derived.Test.YtjdkenopfnepaaaUnsealImpl
import Derived.Deep.RegionWith
import Derived.Lib.Strings
namespace Go.Proofs.Ytjdkenopfnepaaa
open Go.RowKit

theorem crc_spec0 (s : ByteArray) (w : World) (hs : (s.size : Int) ≤ 8000) :
    Calls Try.prog 101 #[.int .i64 0, .string s] w fun e w' => e = .returned (.int .i64 (crcOf 0 s.data.toList)) ∧ w = w' := crc_spec 0 s w hs (by omega) (by omega)

set_option maxHeartbeats 400000 in
theorem unseal_spec_big (s : ByteArray) (w : World) (hs : (s.size : Int) > 8000) :
    Calls Try.prog 51 #[.string s] w fun e w' => e = .returned (textV ⟨#[]⟩ 2) ∧ Below w.heap.size w w' := by
  go_enter Try.func51, Try.ntmps51
  go_wp2
  exact bodyPost_ret (v := textV ⟨#[]⟩ 2) (by simp [results, Try.results51, go_sem, textV]) rfl ⟨rfl, (Below.refl _ _).alloc (Nat.le_refl _) _⟩
set_option maxHeartbeats 400000 in
theorem unseal_spec_short (s : ByteArray) (w : World) (hs : (s.size : Int) < 4) :
    Calls Try.prog 51 #[.string s] w fun e w' => e = .returned (textV ⟨#[]⟩ 4) ∧ Below w.heap.size w w' := by
  go_enter Try.func51, Try.ntmps51
  go_wp2
  exact bodyPost_ret (v := textV ⟨#[]⟩ 4) (by simp [results, Try.results51, go_sem, textV]) rfl ⟨rfl, (Below.refl _ _).alloc (Nat.le_refl _) _⟩
set_option maxHeartbeats 1000000 in
theorem unseal_spec_any (s : ByteArray) (w : World) (hs : (s.size : Int) ≤ 8000) (h4 : 4 ≤ (s.size : Int)) (t : ByteArray) (c : Int) (ho : outS s t c) :
    Calls Try.prog 51 #[.string s] w fun e w' => e = .returned (textV t c) ∧ Below w.heap.size w w' := by
  have HO : Hid (outS s t c) := ho
  clear ho
  have hbs : ((s.extract 0 (s.size - 4)).size : Int) ≤ 8000 := by simp only [ByteArray.size_extract]; omega
  go_enter Try.func51, Try.ntmps51
  go_wp2
  have hsl : ∀ W, (Instr.slice 9 (.string s) (some (.int .i64 ((s.size : Int) - 4))) none none).run Try.prog W = .ok (.string (s.extract (s.size - 4) s.size)) W := fun W => by
    rw [run_slice_string_l W 9 s Try.underlying9 .i64 _ (by omega) (by omega)]
    congr 3
    omega
  have hw1 : wrap64 ((s.size : Int) - 4) = (s.size : Int) - 4 := by unfold wrap64; omega
  have hw2 : IntKind.i64.wrap ((s.size : Int) - 4) = (s.size : Int) - 4 := by rw [IntKind.wrap_i64]; omega
  generalize hB : s.extract 0 (s.size - 4) = body at hbs ⊢
  have HB : Hid (s.extract 0 (s.size - 4) = body) := hB
  clear hB
  have HI : ∀ l, 0 ≤ crcOf 0 l ∧ crcOf 0 l ≤ 4294967295 := fun l => crcOf_in 0 l
  go_region_with (first
    | (go_at_call 101; refine (crc_spec0 _ _ hbs).mono ?_; rintro e w' ⟨rfl, rfl⟩)
    | (go_at_call 100; refine (four_spec _ _ (HI _).1 (HI _).2).mono ?_; rintro e w1 ⟨rfl, hb1⟩; obtain ⟨hc1, hf1⟩ := bcell hb1))
  all_goals go_wp2
  · rename_i htest
    have hB := HB.out
    rw [← hB] at htest
    obtain ⟨rfl, rfl⟩ := outS_no HO.out htest
    refine bodyPost_ret (v := textV ⟨#[]⟩ 5) ?_ rfl ⟨rfl, ?_⟩
    · simp [results, Try.results51, go_sem, textV, hc1]
    · exact (((((Below.refl _ _).alloc (Nat.le_refl _) _).drew.trans (hb1.mono (by simp))).setCell (Nat.le_refl _) _).setCell (Nat.le_refl _) _).setCell (Nat.le_refl _) _
  · rename_i htest
    have hB := HB.out
    rw [← hB] at htest
    obtain ⟨rfl, rfl⟩ := outS_yes HO.out htest
    refine bodyPost_ret (v := textV (s.extract 0 (s.size - 4)) 0) ?_ rfl ⟨rfl, ?_⟩
    · simp [results, Try.results51, go_sem, textV, hc1, hB]
    · exact (((((Below.refl _ _).alloc (Nat.le_refl _) _).drew.trans (hb1.mono (by simp))).setCell (Nat.le_refl _) _).setCell (Nat.le_refl _) _).setCell (Nat.le_refl _) _
end Go.Proofs.Ytjdkenopfnepaaa
