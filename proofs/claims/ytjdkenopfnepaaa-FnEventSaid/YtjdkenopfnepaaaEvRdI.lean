/- The program's reader: its object in memory, and what one call of it reads. -/
import Derived.Test.YtjdkenopfnepaaaEvReadPlain
import Derived.Test.YtjdkenopfnepaaaReadText0
import Derived.Deep.RegionHeld3
import Derived.WalkSmall
namespace Go.Proofs.Ytjdkenopfnepaaa
open Go.RowKit

theorem readtext_any (s : ByteArray) (p : Nat) (w : World) (hs : (s.size : Int) ≤ 8000) (hp : (p : Int) ≤ 8000) :
    Calls Try.prog 129 #[.string s, .int .i64 p] w (textPost w (H s p).1 (H s p).2.1 (H s p).2.2) := by
  have hI : ∀ w, Calls Try.prog 128 #[.string s, .int .i64 p] w (readPost w (G s p 10 0 0).1 (G s p 10 0 0).2.1 (G s p 10 0 0).2.2) := fun w => read_impl s p w (by omega) (by omega) _ rfl
  unfold H
  obtain ⟨⟨a, b, c⟩, hR⟩ : ∃ R, G s p 10 0 0 = R := ⟨_, rfl⟩
  rw [hR] at hI ⊢
  simp only [] at hI ⊢
  by_cases hc : c = 0
  · subst hc
    obtain ⟨hb0, hb1⟩ := G_place s p 10 0 0 a b hR
    rw [if_neg (by simp)]
    by_cases ha : a < 0
    · rw [if_pos (.inl ha)]; exact readtext_neg s p w a b ha hI
    by_cases hA : 8000 < a
    · rw [if_pos (.inr hA)]; exact readtext_big s p w a b hA hI
    rw [if_neg (by omega)]
    obtain ⟨m, rfl⟩ := Int.eq_ofNat_of_zero_le (show 0 ≤ a by omega)
    obtain ⟨q, rfl⟩ := Int.eq_ofNat_of_zero_le (show 0 ≤ b by omega)
    by_cases hq : (s.size : Int) - m < q
    · rw [if_pos hq]; exact readtext_short s p w m q (by omega) (by omega) hb1 hq hI
    · rw [if_neg hq]; exact readtext_ok s p w m q (by omega) (by omega) hb1 (by omega) hI
  · obtain ⟨ha, hb⟩ : a = 0 ∧ b = 0 := G_fault s p 10 0 0 a b c hR hc
    subst ha hb
    rw [if_pos hc]
    exact readtext_err s p w c hc hI

/-- The reader's object: block g. -/
def RdI (w : World) (g : Nat) (s : ByteArray) (st : Nat × Bool) : Prop :=
  ∃ err, w.heap[g]? = some (.cells #[.string s, .int .i64 st.1, err] 80 (0, 0)) ∧ (st.2 = false → err = .nilIface) ∧ (st.2 = true → ∃ N : Nat, err = .iface 175 (.pointer (some ⟨N, 0, none⟩))) ∧ (st.1 : Int) ≤ 8000
theorem RdI.lt {w : World} {g : Nat} {s : ByteArray} {st : Nat × Bool} (h : RdI w g s st) : g < w.heap.size := by
  obtain ⟨_, hh, _⟩ := h
  exact (Array.getElem?_eq_some_iff.1 hh).1
theorem RdI.kept {w w' : World} {g : Nat} {s : ByteArray} {st : Nat × Bool} (h : RdI w g s st) (hg : w'.heap[g]? = w.heap[g]?) : RdI w' g s st := by
  obtain ⟨err, hh, r⟩ := h
  exact ⟨err, hg.trans hh, r⟩
theorem grown_below2 {w w1 : World} {g : Nat} (hb : Below w.heap.size w w1) (v1 v2 : Value) : w.grownBy ((w1.setCell ⟨g, 1, none⟩ v1).setCell ⟨g, 2, none⟩ v2) (some g) :=
  ⟨hb.os, hb.tape, hb.output, by simpa [World.setCell] using hb.size, fun k hk hne => by
    rw [Below.heap_setCell _ _ _ _ (fun e => hne (by simp [e])), Below.heap_setCell _ _ _ _ (fun e => hne (by simp [e]))]
    exact hb.block k hk⟩
theorem below_undrew {w w1 : World} (hb : Below w.drew.heap.size w.drew w1) : Below w.heap.size w w1 := (Below.drew (Below.refl _ _)).trans hb
set_option maxHeartbeats 1000000 in
theorem num_impl (g : Nat) (s : ByteArray) (st : Nat × Bool) (w : World) (hr : RdI w g s st) (hs : (s.size : Int) ≤ 8000) :
    Calls Try.prog 102 #[.pointer (some ⟨g, 0, none⟩)] w fun e w' => e = .returned (.int .i64 (stepI s st).1) ∧ RdI w' g s (stepI s st).2 ∧ w.grownBy w' (some g) := by
  obtain ⟨p, bad⟩ := st
  have hgl := hr.lt
  cases bad
  · obtain ⟨err, hh, he, _, hp⟩ := hr
    obtain rfl := he rfl
    simp only [] at hp hh
    have HE : Hid (stepI s (p, false) = ((G s p 10 0 0).1, (G s p 10 0 0).2.1.toNat, (G s p 10 0 0).2.2 != 0)) := rfl
    have HH : Hid (w.heap[g]? = some (.cells #[.string s, .int .i64 p, .nilIface] 80 (0, 0))) := hh
    have c0 : w.cell? ⟨g, 0, none⟩ = some (.string s) := cell_of_heap hh
    have c1 : w.cell? ⟨g, 1, none⟩ = some (.int .i64 p) := cell_of_heap hh
    have c2 : w.cell? ⟨g, 2, none⟩ = some .nilIface := cell_of_heap hh
    have f1 : w.frozen? ⟨g, 1, none⟩ = false := frozen_of_heap hh
    have f2 : w.frozen? ⟨g, 2, none⟩ = false := frozen_of_heap hh
    have hin := G_in s p
    obtain ⟨⟨a, b, c⟩, hR⟩ : ∃ R, G s p 10 0 0 = R := ⟨_, rfl⟩
    have HG : Hid (G s p 10 0 0 = (a, b, c)) := hR
    rw [hR] at hin
    simp only [] at hin
    have HC : Hid (∀ w, Calls Try.prog 128 #[.string s, .int .i64 p] w (readPost w a b c)) := by
      intro w
      have h := read_impl s p w hs (by omega) (G s p 10 0 0) rfl
      rw [hR] at h
      exact h
    clear hh he hR
    by_cases hc0 : c = 0
    · go_enter Try.func102, Try.ntmps102
      go_wp2_with fail
      go_region_held3 (fun w' => w'.cell? ⟨g, 0, none⟩ = some (.string s) ∧ w'.cell? ⟨g, 1, none⟩ = some (.int .i64 p) ∧ w'.cell? ⟨g, 2, none⟩ = some .nilIface ∧ w'.frozen? ⟨g, 1, none⟩ = false ∧ w'.frozen? ⟨g, 2, none⟩ = false) (simp [go_sem, *]) (first
        | (go_at_call 128; refine (HC.out _).mono ?_; rintro e w1 ⟨hb1, (⟨h0, rfl⟩ | ⟨hc, ha, hb, N, hN, hN2, rfl, hcell⟩)⟩; rotate_left; (exact absurd hc0 hc); have hb1 := below_undrew hb1; obtain ⟨hc1, hf1⟩ := bcell hb1))
      go_wp2
      go_ret
      refine ⟨by rw [HE.out, HG.out]; rfl, ?_, grown_below2 hb1 _ _⟩
      rw [HE.out, HG.out]
      refine ⟨.nilIface, ?_, fun _ => rfl, fun h => ?_, ?_⟩
      · rw [heap_set (heap_set ((hb1.block g hgl).trans HH.out) _)]
        simp only []
        rw [Int.toNat_of_nonneg hin.1]
        rfl
      · simp [hc0] at h
      · show ((b.toNat : Nat) : Int) ≤ 8000
        omega
    · go_enter Try.func102, Try.ntmps102
      go_wp2_with fail
      go_region_held3 (fun w' => w'.cell? ⟨g, 0, none⟩ = some (.string s) ∧ w'.cell? ⟨g, 1, none⟩ = some (.int .i64 p) ∧ w'.cell? ⟨g, 2, none⟩ = some .nilIface ∧ w'.frozen? ⟨g, 1, none⟩ = false ∧ w'.frozen? ⟨g, 2, none⟩ = false) (simp [go_sem, *]) (first
        | (go_at_call 128; refine (HC.out _).mono ?_; rintro e w1 ⟨hb1, (⟨h0, rfl⟩ | ⟨hc, ha, hb, N, hN, hN2, rfl, hcell⟩)⟩; (exact absurd h0 hc0); have hb1 := below_undrew hb1; obtain ⟨hc1, hf1⟩ := bcell hb1; have HA : Hid (a = 0 ∧ b = 0) := ⟨ha, hb⟩; clear ha hb hcell))
      go_wp2
      go_ret
      refine ⟨by rw [HE.out, HG.out]; show _ = Ending.returned (.int .i64 a); rw [HA.out.1]; rfl, ?_, grown_below2 hb1 _ _⟩
      rw [HE.out, HG.out]
      refine ⟨.iface 175 (.pointer (some ⟨N, 0, none⟩)), ?_, fun h => ?_, fun _ => ⟨N, rfl⟩, ?_⟩
      · rw [heap_set (heap_set ((hb1.block g hgl).trans HH.out) _)]
        simp only []
        rw [HA.out.2]
        rfl
      · simp [hc0] at h
      · show ((b.toNat : Nat) : Int) ≤ 8000
        omega
  · obtain ⟨err, hh, _, he, hp⟩ := hr
    obtain ⟨N, rfl⟩ := he rfl
    have HH : Hid (w.heap[g]? = some (.cells #[.string s, .int .i64 p, .iface 175 (.pointer (some ⟨N, 0, none⟩))] 80 (0, 0))) := hh
    have c2 : w.cell? ⟨g, 2, none⟩ = some (.iface 175 (.pointer (some ⟨N, 0, none⟩))) := cell_of_heap hh
    clear hh he
    go_enter Try.func102, Try.ntmps102
    go_wp2
    go_ret
    exact ⟨rfl, (show RdI w g s (p, true) from ⟨_, HH.out, fun h => by simp at h, fun _ => ⟨N, rfl⟩, hp⟩), World.grownBy.refl _ _⟩
set_option maxHeartbeats 1000000 in
theorem word_impl (g : Nat) (s : ByteArray) (st : Nat × Bool) (w : World) (hr : RdI w g s st) (hs : (s.size : Int) ≤ 8000) :
    Calls Try.prog 103 #[.pointer (some ⟨g, 0, none⟩)] w fun e w' => e = .returned (.string (wordI s st).1) ∧ RdI w' g s (wordI s st).2 ∧ w.grownBy w' (some g) := by
  obtain ⟨p, bad⟩ := st
  have hgl := hr.lt
  cases bad
  · obtain ⟨err, hh, he, _, hp⟩ := hr
    obtain rfl := he rfl
    simp only [] at hp hh
    have HE : Hid (wordI s (p, false) = ((H s p).1, (H s p).2.1.toNat, (H s p).2.2 != 0)) := rfl
    have HH : Hid (w.heap[g]? = some (.cells #[.string s, .int .i64 p, .nilIface] 80 (0, 0))) := hh
    have c0 : w.cell? ⟨g, 0, none⟩ = some (.string s) := cell_of_heap hh
    have c1 : w.cell? ⟨g, 1, none⟩ = some (.int .i64 p) := cell_of_heap hh
    have c2 : w.cell? ⟨g, 2, none⟩ = some .nilIface := cell_of_heap hh
    have f1 : w.frozen? ⟨g, 1, none⟩ = false := frozen_of_heap hh
    have f2 : w.frozen? ⟨g, 2, none⟩ = false := frozen_of_heap hh
    have hin := H_in s p
    obtain ⟨⟨a, b, c⟩, hR⟩ : ∃ R, H s p = R := ⟨_, rfl⟩
    have HG : Hid (H s p = (a, b, c)) := hR
    rw [hR] at hin
    simp only [] at hin
    have HC : Hid (∀ w, Calls Try.prog 129 #[.string s, .int .i64 p] w (textPost w a b c)) := by
      intro w
      have h := readtext_any s p w hs hp
      rw [hR] at h
      exact h
    clear hh he hR
    by_cases hc0 : c = 0
    · go_enter Try.func103, Try.ntmps103
      go_wp2_with fail
      go_region_held3 (fun w' => w'.cell? ⟨g, 0, none⟩ = some (.string s) ∧ w'.cell? ⟨g, 1, none⟩ = some (.int .i64 p) ∧ w'.cell? ⟨g, 2, none⟩ = some .nilIface ∧ w'.frozen? ⟨g, 1, none⟩ = false ∧ w'.frozen? ⟨g, 2, none⟩ = false) (simp [go_sem, *]) (first
        | (go_at_call 129; refine (HC.out _).mono ?_; rintro e w1 ⟨hb1, (⟨h0, rfl⟩ | ⟨hc, ha, hb, N, hN, hN2, rfl, hcell⟩)⟩; rotate_left; (exact absurd hc0 hc); have hb1 := below_undrew hb1; obtain ⟨hc1, hf1⟩ := bcell hb1))
      go_wp2
      go_ret
      refine ⟨by rw [HE.out, HG.out]; rfl, ?_, grown_below2 hb1 _ _⟩
      rw [HE.out, HG.out]
      refine ⟨.nilIface, ?_, fun _ => rfl, fun h => ?_, ?_⟩
      · rw [heap_set (heap_set ((hb1.block g hgl).trans HH.out) _)]
        simp only []
        rw [Int.toNat_of_nonneg hin.1]
        rfl
      · simp [hc0] at h
      · show ((b.toNat : Nat) : Int) ≤ 8000
        omega
    · go_enter Try.func103, Try.ntmps103
      go_wp2_with fail
      go_region_held3 (fun w' => w'.cell? ⟨g, 0, none⟩ = some (.string s) ∧ w'.cell? ⟨g, 1, none⟩ = some (.int .i64 p) ∧ w'.cell? ⟨g, 2, none⟩ = some .nilIface ∧ w'.frozen? ⟨g, 1, none⟩ = false ∧ w'.frozen? ⟨g, 2, none⟩ = false) (simp [go_sem, *]) (first
        | (go_at_call 129; refine (HC.out _).mono ?_; rintro e w1 ⟨hb1, (⟨h0, rfl⟩ | ⟨hc, ha, hb, N, hN, hN2, rfl, hcell⟩)⟩; (exact absurd h0 hc0); have hb1 := below_undrew hb1; obtain ⟨hc1, hf1⟩ := bcell hb1; have HA : Hid (a = ⟨#[]⟩ ∧ b = 0) := ⟨ha, hb⟩; clear ha hb hcell))
      go_wp2
      go_ret
      refine ⟨by rw [HE.out, HG.out]; show _ = Ending.returned (.string a); rw [HA.out.1]; rfl, ?_, grown_below2 hb1 _ _⟩
      rw [HE.out, HG.out]
      refine ⟨.iface 175 (.pointer (some ⟨N, 0, none⟩)), ?_, fun h => ?_, fun _ => ⟨N, rfl⟩, ?_⟩
      · rw [heap_set (heap_set ((hb1.block g hgl).trans HH.out) _)]
        simp only []
        rw [HA.out.2]
        rfl
      · simp [hc0] at h
      · show ((b.toNat : Nat) : Int) ≤ 8000
        omega
  · obtain ⟨err, hh, _, he, hp⟩ := hr
    obtain ⟨N, rfl⟩ := he rfl
    have HH : Hid (w.heap[g]? = some (.cells #[.string s, .int .i64 p, .iface 175 (.pointer (some ⟨N, 0, none⟩))] 80 (0, 0))) := hh
    have c2 : w.cell? ⟨g, 2, none⟩ = some (.iface 175 (.pointer (some ⟨N, 0, none⟩))) := cell_of_heap hh
    clear hh he
    go_enter Try.func103, Try.ntmps103
    go_wp2
    go_ret
    exact ⟨rfl, (show RdI w g s (p, true) from ⟨_, HH.out, fun h => by simp at h, fun _ => ⟨N, rfl⟩, hp⟩), World.grownBy.refl _ _⟩
end Go.Proofs.Ytjdkenopfnepaaa
