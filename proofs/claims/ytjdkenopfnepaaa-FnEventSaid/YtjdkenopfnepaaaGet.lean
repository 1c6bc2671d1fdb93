/- The contract of the specification's GetNum. -/
import Derived.Test.YtjdkenopfnepaaaGetPlain
namespace Go.Proofs.Ytjdkenopfnepaaa
open Go.RowKit

set_option maxHeartbeats 400000 in
theorem get_spec_big (s : ByteArray) (at_ : Int) (w : World) (hs : (s.size : Int) > 8000) :
    Calls Try.prog 104 #[.string s, .int .i64 at_] w fun e w' => e = .returned (numV 0 0 2) ∧ Below w.heap.size w w' := by
  go_enter Try.func104, Try.ntmps104
  go_wp2
  exact bodyPost_ret (v := numV 0 0 2) (by simp [results, Try.results104, go_sem, numV]) rfl ⟨rfl, (Below.refl _ _).alloc (Nat.le_refl _) _⟩
set_option maxHeartbeats 400000 in
theorem get_spec_neg (s : ByteArray) (at_ : Int) (w : World) (hs : (s.size : Int) ≤ 8000) (h0 : at_ < 0) :
    Calls Try.prog 104 #[.string s, .int .i64 at_] w fun e w' => e = .returned (numV 0 0 1) ∧ Below w.heap.size w w' := by
  go_enter Try.func104, Try.ntmps104
  go_wp2
  exact bodyPost_ret (v := numV 0 0 1) (by simp [results, Try.results104, go_sem, numV]) rfl ⟨rfl, (Below.refl _ _).alloc (Nat.le_refl _) _⟩

set_option maxHeartbeats 1000000 in
set_option maxRecDepth 100000 in
theorem get_spec (s : ByteArray) (p : Nat) (w : World) (hs : (s.size : Int) ≤ 8000) (h1 : (p : Int) ≤ 9223372036854775807) (R : Int × Int × Int) (hR : R = G s p 10 0 0) :
    Calls Try.prog 104 #[.string s, .int .i64 p] w fun e w' => e = .returned (numV R.1 R.2.1 R.2.2) ∧ Below w.heap.size w w' := by
  have HR : Hid (R = G s p 10 0 0) := hR
  clear hR
  go_enter Try.func104, Try.ntmps104
  go_wp2
  go_loop [5, 6] (fun u i => ∃ (k z : Nat), k ≤ 9 ∧ u = .int .u64 z ∧ i = .int .i64 k ∧ Hid (z < 128 ^ k ∧ R = G s p (9 - k + 1) k z)) (fun _ i => 10 - (intOf i).toNat)
  case atStart => exact ⟨0, 0, by omega, rfl, rfl, by decide, HR.out⟩
  case round =>
    obtain ⟨k, z, hk, rfl, rfl, HZ⟩ := hrel
    have hz := z_64 HZ.out.1 hk
    by_cases hlt : p + k < s.size
    · have hb2 : (s[p + k].toNat : Int) ≤ 255 := by have := s[p + k].toNat_lt; omega
      by_cases hB1 : 9 ≤ k ∧ 1 < s[p + k].toNat
      · have HE : Hid (R = (0, 0, 3)) := by unfold Hid; rw [HZ.out.2, G_big s p _ k z hlt (by omega) hB1.2]
        have b9 : ((k : Int) == 9) = true := by simp; omega
        have b1 : decide (1 < (s[p + k].toNat : Int)) = true := by simp; omega
        clear hB1
        go_wp2
        exact bodyPost_ret (v := numV 0 0 3) (by simp [results, Try.results104, go_sem, numV]) rfl ⟨by rw [numV_of HE.out], (Below.refl _ _).alloc (Nat.le_refl _) _⟩
      have h9 : k = 9 → s[p + k].toNat ≤ 1 := by intro h; omega
      have hadd := add_nx HZ.out.1 hk h9
      have hy := nx_64 HZ.out.1 hk h9
      by_cases hc : 128 ≤ s[p + k].toNat
      · have hk8 : k ≤ 8 := by omega
        have hnl := nx_lt (c := s[p + k].toNat) HZ.out.1
        have HE : Hid (R = G s p (9 - (k + 1) + 1) (k + 1) (nx z s[p + k].toNat k)) := by
          unfold Hid
          rw [HZ.out.2, G_more s p _ k z hlt (by omega) hc]
          congr 1
          omega
        generalize hyv : nx z s[p + k].toNat k = y at hadd hy HE hnl
        have HN : Hid (y < 128 ^ (k + 1)) := hnl
        have b9 : ((k : Int) == 9) = false := by simp; omega
        have hc' : 128 ≤ (s[p + k].toNat : Int) := by omega
        clear hnl hyv h9 hB1 hc
        go_wp2
        go_round
        case rel => exact ⟨k + 1, y, by omega, by first | rfl | rw [hadd], by go_num, HN.out, HE.out⟩
        case measure => simp [intOf]; omega
      · have hc' : (s[p + k].toNat : Int) < 128 := by omega
        by_cases hB3 : s[p + k].toNat < 1 ∧ 0 < k
        · have HE : Hid (R = (0, 0, 3)) := by unfold Hid; rw [HZ.out.2, G_zero s p _ k z hlt hB3.2 (by omega)]
          have b0 : ((s[p + k].toNat : Int) == 0) = true := by simp; omega
          have hkp : 0 < k := hB3.2
          generalize hyv : nx z s[p + k].toNat k = y at hadd hy
          clear hyv hB3 hB1 hc
          by_cases hn : 9 ≤ k
          · have b9 : ((k : Int) == 9) = true := by simp; omega
            have b1 : decide (1 < (s[p + k].toNat : Int)) = false := by simp; omega
            clear h9
            go_wp2
            exact bodyPost_ret (v := numV 0 0 3) (by simp [results, Try.results104, go_sem, numV]) rfl ⟨by rw [numV_of HE.out], (Below.refl _ _).alloc (Nat.le_refl _) _⟩
          · have b9 : ((k : Int) == 9) = false := by simp; omega
            clear h9
            go_wp2
            exact bodyPost_ret (v := numV 0 0 3) (by simp [results, Try.results104, go_sem, numV]) rfl ⟨by rw [numV_of HE.out], (Below.refl _ _).alloc (Nat.le_refl _) _⟩
        · have HE : Hid (R = (unfZ (nx z s[p + k].toNat k), (p : Int) + k + 1, 0)) := by
            unfold Hid
            rw [HZ.out.2, G_done s p _ k z hlt (by omega) (by omega) (by omega)]
          generalize hyv : nx z s[p + k].toNat k = y at hadd hy HE
          clear hyv hB1 hc
          by_cases hn : 9 ≤ k
          · have b9 : ((k : Int) == 9) = true := by simp; omega
            have b1 : decide (1 < (s[p + k].toNat : Int)) = false := by simp; omega
            clear h9
            by_cases hcz : s[p + k].toNat < 1
            · omega
            · have bz : ((s[p + k].toNat : Int) == 0) = false := by simp; omega
              clear hB3 hcz
              cases hpar : ((y : Int) % 2 == 1)
              · have HU : Hid (unfZ y = (y : Int) / 2) := unfZ_even hpar
                go_wp2
                exact bodyPost_ret (v := numV ((y : Int) / 2) ((p : Int) + k + 1) 0) (by simp [results, Try.results104, go_sem, numV]) rfl ⟨by rw [numV_of HE.out, HU.out], (Below.refl _ _).alloc (Nat.le_refl _) _⟩
              · have HU : Hid (unfZ y = -((y : Int) / 2) - 1) := unfZ_odd hpar
                go_wp2
                exact bodyPost_ret (v := numV (-((y : Int) / 2) - 1) ((p : Int) + k + 1) 0) (by simp [results, Try.results104, go_sem, numV]) rfl ⟨by rw [numV_of HE.out, HU.out], (Below.refl _ _).alloc (Nat.le_refl _) _⟩
          · have b9 : ((k : Int) == 9) = false := by simp; omega
            clear h9
            by_cases hcz : s[p + k].toNat < 1
            · have bz : ((s[p + k].toNat : Int) == 0) = true := by simp; omega
              have hkn : ¬ 0 < k := by omega
              clear hB3 hcz
              cases hpar : ((y : Int) % 2 == 1)
              · have HU : Hid (unfZ y = (y : Int) / 2) := unfZ_even hpar
                go_wp2
                exact bodyPost_ret (v := numV ((y : Int) / 2) ((p : Int) + k + 1) 0) (by simp [results, Try.results104, go_sem, numV]) rfl ⟨by rw [numV_of HE.out, HU.out], (Below.refl _ _).alloc (Nat.le_refl _) _⟩
              · have HU : Hid (unfZ y = -((y : Int) / 2) - 1) := unfZ_odd hpar
                go_wp2
                exact bodyPost_ret (v := numV (-((y : Int) / 2) - 1) ((p : Int) + k + 1) 0) (by simp [results, Try.results104, go_sem, numV]) rfl ⟨by rw [numV_of HE.out, HU.out], (Below.refl _ _).alloc (Nat.le_refl _) _⟩
            · have bz : ((s[p + k].toNat : Int) == 0) = false := by simp; omega
              clear hB3 hcz
              cases hpar : ((y : Int) % 2 == 1)
              · have HU : Hid (unfZ y = (y : Int) / 2) := unfZ_even hpar
                go_wp2
                exact bodyPost_ret (v := numV ((y : Int) / 2) ((p : Int) + k + 1) 0) (by simp [results, Try.results104, go_sem, numV]) rfl ⟨by rw [numV_of HE.out, HU.out], (Below.refl _ _).alloc (Nat.le_refl _) _⟩
              · have HU : Hid (unfZ y = -((y : Int) / 2) - 1) := unfZ_odd hpar
                go_wp2
                exact bodyPost_ret (v := numV (-((y : Int) / 2) - 1) ((p : Int) + k + 1) 0) (by simp [results, Try.results104, go_sem, numV]) rfl ⟨by rw [numV_of HE.out, HU.out], (Below.refl _ _).alloc (Nat.le_refl _) _⟩
    · have HE : Hid (R = (0, 0, 4)) := by unfold Hid; rw [HZ.out.2, G_short s p _ k z (by omega)]
      go_wp2
      exact bodyPost_ret (v := numV 0 0 4) (by simp [results, Try.results104, go_sem, numV]) rfl ⟨by rw [numV_of HE.out], (Below.refl _ _).alloc (Nat.le_refl _) _⟩
end Go.Proofs.Ytjdkenopfnepaaa
