/- Two neighbouring parts of a row in the other order. -/
import Derived.Test.YtobkinocaomcmaaGreatZSsRow
namespace Go.Proofs.YtobkinocaomcmaaGreat
open Go.RowKit

variable {W0 : World} {g n Bd bt nt : Nat} {l : List (Int × Int)} {d : Nat → Int}
set_option maxHeartbeats 4000000 in
set_option maxRecDepth 100000 in
theorem rotate_row (a m b cap : Nat) (f : Value) (W : World) (h : Sv W0 g n Bd bt nt l d W) (ha : a < m) (hm : m < b) (hb : b ≤ n) (hn : n ≤ 1000000) :
    Calls Tryz.prog 156 #[.slice (some ⟨g, 0, none⟩) n cap, .int .i64 a, .int .i64 m, .int .i64 b, f] W fun e w' => e = .returned (.tuple #[]) ∧ Sv W0 g n Bd bt nt l (rotF d a m b) w' := by
  have H : Hid (rotF d (m - (m - a)) m (m + (b - m)) = rotF d a m b ∧ Sv W0 g n Bd bt nt l d W) := by
    refine ⟨?_, h⟩
    rw [show m - (m - a) = a by omega, show m + (b - m) = b by omega]
  clear h
  go_enter Tryz.func156, Tryz.ntmps156
  go_wp2
  go_loopw [10, 11] (fun ii jj wr => ∃ (i j : Nat) (d' : Nat → Int), 0 < i ∧ 0 < j ∧ i ≤ m - a ∧ j ≤ b - m ∧ ii = .int .i64 i ∧ jj = .int .i64 j ∧ Hid (rotF d' (m - i) m (m + j) = rotF d a m b ∧ Sv W0 g n Bd bt nt l d' wr)) (fun ii jj _ => (intOf ii).toNat + (intOf jj).toNat)
  case atStart => exact ⟨m - a, b - m, d, by omega, by omega, Nat.le_refl _, Nat.le_refl _, by congr 1; omega, by congr 1; omega, H.out⟩
  case round =>
    obtain ⟨i, j, d', hi0, hj0, hi, hj, rfl, rfl, HS⟩ := hrel
    have hk1 : i ≤ m := by omega
    have hk2 : m + j ≤ n := by omega
    rcases Nat.lt_trichotomy i j with hc | hc | hc
    · have HN : Hid (∀ W, Sv W0 g n Bd bt nt l (swpF d' (m - i) (m + j - i) i) W → rotF (swpF d' (m - i) (m + j - i) i) (m - i) m (m + (j - i)) = rotF d a m b ∧ Sv W0 g n Bd bt nt l (swpF d' (m - i) (m + j - i) i) W) := fun W hW => ⟨(rot_right hk1 hc).trans HS.out.1, hW⟩
      have HV := HS.out.2
      clear HS
      go_wp2_with fail
      refine (swap_rangeZ _ _ _ (m - i) (m + j - i) i cap (by omega) (by omega) rfl f _ HV (by omega) (by omega) hn).mono ?_
      rintro e w2 ⟨rfl, hs⟩
      have HS2 := HN.out w2 hs
      clear HN HV hs
      have HS3 : Hid (rotF (swpF d' (m - i) (m + j - i) i) (m - i) m (m + (j - i)) = rotF d a m b ∧ Sv W0 g n Bd bt nt l (swpF d' (m - i) (m + j - i) i) w2) := HS2
      clear HS2
      go_wp2
      go_roundw
      case rel => exact ⟨i, j - i, _, hi0, by omega, hi, by omega, rfl, by congr 1; omega, HS3.out⟩
      case measure => simp [intOf]; omega
    · subst hc
      have HV := HS.out.2
      have HE : Hid (swpF d' (m - i) m i = rotF d a m b) := (rot_same hk1).trans HS.out.1
      clear HS
      go_wp2_with fail
      refine (swap_rangeZ _ _ _ (m - i) m i cap (by omega) rfl rfl f _ HV (by omega) (by omega) hn).mono ?_
      rintro e w2 ⟨rfl, hs⟩
      have HS3 : Hid (Sv W0 g n Bd bt nt l (rotF d a m b) w2) := hs.eq HE.out
      clear hs HE HV
      go_wp2
      go_end0
      exact ⟨rfl, HS3.out⟩
    · have HN : Hid (∀ W, Sv W0 g n Bd bt nt l (swpF d' (m - i) m j) W → rotF (swpF d' (m - i) m j) (m - (i - j)) m (m + j) = rotF d a m b ∧ Sv W0 g n Bd bt nt l (swpF d' (m - i) m j) W) := fun W hW => ⟨(rot_left hk1 hc).trans HS.out.1, hW⟩
      have HV := HS.out.2
      clear HS
      go_wp2_with fail
      refine (swap_rangeZ _ _ _ (m - i) m j cap (by omega) rfl rfl f _ HV (by omega) (by omega) hn).mono ?_
      rintro e w2 ⟨rfl, hs⟩
      have HS3 : Hid (rotF (swpF d' (m - i) m j) (m - (i - j)) m (m + j) = rotF d a m b ∧ Sv W0 g n Bd bt nt l (swpF d' (m - i) m j) w2) := HN.out w2 hs
      clear HN HV hs
      go_wp2
      go_roundw
      case rel => exact ⟨i - j, j, _, by omega, hj0, by omega, hj, by congr 1; omega, rfl, HS3.out⟩
      case measure => simp [intOf]; omega
end Go.Proofs.YtobkinocaomcmaaGreat
