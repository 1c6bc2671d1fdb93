/- A part of a row sorted by putting one in after the other. -/
import Derived.Test.YtobkinocaomcmaaGreatZSsRow
import Derived.Test.YtobkinocaomcmaaGreatZEvOpen
namespace Go.Proofs.YtobkinocaomcmaaGreat
open Go.RowKit

variable {W0 : World} {g n Bd bt nt : Nat} {l : List (Int × Int)} {d : Nat → Int}
/-- While the k-th is put in: it stands at j, and is lesser than all that it has passed. -/
structure InS (W0 : World) (g n Bd bt nt : Nat) (l : List (Int × Int)) (d1 : Nat → Int) (j k : Nat) (W : World) : Prop where
  sv : Sv W0 g n Bd bt nt l (shiftF d1 j k) W
  past : ∀ q, j ≤ q → q < k → Lx (dpL l) (d1 k) (d1 q)
theorem InS.drewN {d1 : Nat → Int} {j k : Nat} {W : World} (h : InS W0 g n Bd bt nt l d1 j k W) (q : Nat) : InS W0 g n Bd bt nt l d1 j k (W.drewN q) := ⟨h.sv.drewN q, h.past⟩
theorem InS.step {d1 : Nat → Int} {j k : Nat} {W : World} {x y : Int} (h : InS W0 g n Bd bt nt l d1 (j + 1) k W) (hx : x = d1 k) (hy : y = d1 j) (hk : j < k) (hn : k < n) (hc : dpL l x < dpL l y) :
    InS W0 g n Bd bt nt l d1 j k ((W.setCell ⟨g, j + 1, none⟩ (.int .i64 y)).setCell ⟨g, j, none⟩ (.int .i64 x)) := by
  have e1 : shiftF d1 (j + 1) k j = y := by rw [hy]; unfold shiftF; rw [if_pos (by omega)]
  have e2 : shiftF d1 (j + 1) k (j + 1) = x := by rw [hx]; unfold shiftF; rw [if_neg (by omega), if_pos rfl]
  have h2 := (h.sv.set (i := j + 1) (by omega) (v := y) (by rw [← e1]; exact h.sv.rng _ (by omega))).set (i := j) (by omega) (v := x) (by rw [← e2]; exact h.sv.rng _ (by omega))
  refine ⟨h2.eq ?_, fun q h1 h3 => ?_⟩
  · rw [← e1, ← e2]
    exact shiftF_step hk
  · rcases Nat.lt_or_ge q (j + 1) with c | c
    · rw [show q = j by omega, ← hx, ← hy]
      exact .inl hc
    · exact h.past q c h3
/-- When t more than the first are sorted. -/
structure OutS (W0 : World) (g n Bd bt nt : Nat) (l : List (Int × Int)) (d : Nat → Int) (a : Nat) (d1 : Nat → Int) (t : Nat) (W : World) : Prop where
  sv : Sv W0 g n Bd bt nt l d1 W
  seg : Seg a (a + 1 + t) d d1
  zero : t = 0 → d1 = d
  sorted : SortedF (dpL l) d1 a (a + 1 + t)
theorem OutS.next {W0 : World} {g n Bd bt nt : Nat} {l : List (Int × Int)} {d d1 : Nat → Int} {a t j b : Nat} {wr W : World} (h : OutS W0 g n Bd bt nt l d a d1 t wr) (hr : ∀ i j, a ≤ i → i < j → j < b → d i < d j) (hb : a + 1 + t < b)
    (hi : InS W0 g n Bd bt nt l d1 j (a + 1 + t) W) (hj : a ≤ j) (hjk : j ≤ a + 1 + t) (hend : j = a ∨ dpL l (d1 (j - 1)) ≤ dpL l (d1 (a + 1 + t))) : OutS W0 g n Bd bt nt l d a (shiftF d1 j (a + 1 + t)) (t + 1) W := by
  have hx : d1 (a + 1 + t) = d (a + 1 + t) := h.seg.out _ (.inr (Nat.le_refl _))
  refine ⟨hi.sv, (h.seg.mono (Nat.le_refl _) (by omega)).trans (shiftF_seg hjk hj (by omega)), fun e => by omega, shiftF_sorted h.sorted hj hjk (fun k k1 k2 => ?_) hi.past⟩
  rcases hend with rfl | he
  · omega
  · have hlast : Lx (dpL l) (d1 (j - 1)) (d1 (a + 1 + t)) := by
      refine Lx.of_le he ?_
      obtain ⟨i, i1, i2, e⟩ := h.seg.old (j - 1) (by omega) (by omega)
      rw [e, hx]
      exact hr i _ i1 i2 hb
    rcases Nat.lt_or_ge k (j - 1) with q | q
    · exact (h.sorted k (j - 1) k1 q (by omega)).trans hlast
    · rw [show k = j - 1 by omega]
      exact hlast
set_option maxHeartbeats 4000000 in
set_option maxRecDepth 100000 in
theorem insertion_row (a b cap : Nat) (W : World) (h : Sv W0 g n Bd bt nt l d W) (hb : b ≤ n) (hn : n ≤ 1000000) (ha : a ≤ n) (hr : ∀ i j, a ≤ i → i < j → j < b → d i < d j) :
    Calls Tryz.prog 139 #[.slice (some ⟨g, 0, none⟩) n cap, .int .i64 a, .int .i64 b, cmpFn Bd] W fun e w' => e = .returned (.tuple #[]) ∧ ∃ d', Sv W0 g n Bd bt nt l d' w' ∧ Seg a b d d' ∧ SortedF (dpL l) d' a b := by
  have H : Hid (OutS W0 g n Bd bt nt l d a d 0 W) := ⟨h, Seg.refl _ _ _, fun _ => rfl, fun i j h1 h2 h3 => by omega⟩
  have HR : Hid (∀ i j, a ≤ i → i < j → j < b → d i < d j) := hr
  clear h hr
  go_enter Tryz.func139, Tryz.ntmps139
  go_wp2
  go_loopw [8] (fun ii wr => ∃ (t k : Nat) (d1 : Nat → Int), k = a + 1 + t ∧ (t = 0 ∨ k ≤ b) ∧ ii = .int .i64 k ∧ Hid (OutS W0 g n Bd bt nt l d a d1 t wr)) (fun ii _ => b + 1 - (intOf ii).toNat)
  case atStart => exact ⟨0, a + 1, d, rfl, .inl rfl, by congr 1, H.out⟩
  case round =>
    obtain ⟨t, k, d1, hk, htb, rfl, HO⟩ := hrel
    by_cases hlt : k < b
    · have HI0 : Hid (InS W0 g n Bd bt nt l d1 k k wr) := ⟨by rw [shiftF_self]; exact HO.out.sv, fun q h1 h2 => by omega⟩
      have HNX : Hid (∀ j W, InS W0 g n Bd bt nt l d1 j k W → a ≤ j → j ≤ k → (j = a ∨ dpL l (d1 (j - 1)) ≤ dpL l (d1 k)) → OutS W0 g n Bd bt nt l d a (shiftF d1 j k) (t + 1) W) := fun j W hi h1 h2 h3 => by
        subst hk
        exact HO.out.next HR.out hlt hi h1 h2 h3
      have hak : a ≤ k := by omega
      have hkn : k < n := by omega
      clear HO
      go_wp2
      go_loopw [9] (fun jj wr => ∃ j : Nat, a ≤ j ∧ j ≤ k ∧ jj = .int .i64 j ∧ Hid (InS W0 g n Bd bt nt l d1 j k wr)) (fun jj _ => (intOf jj).toNat)
      case atStart => exact ⟨k, hak, Nat.le_refl _, rfl, HI0.out⟩
      case round =>
        obtain ⟨j, haj, hjk, rfl, HI⟩ := hrel
        by_cases hja : a < j
        · obtain ⟨j0, HJ⟩ : ∃ j0 : Nat, Hid (j = j0 + 1) := ⟨j - 1, by unfold Hid; omega⟩
          obtain ⟨x, HX⟩ : ∃ x : Int, Hid (x = d1 k) := ⟨d1 k, (rfl : d1 k = _)⟩
          obtain ⟨y, HY⟩ : ∃ y : Int, Hid (y = d1 j0) := ⟨d1 j0, (rfl : d1 j0 = _)⟩
          have hj1 := HJ.out
          have hjn : j < n := by omega
          have hj0n : j0 < n := by omega
          have haj0 : a ≤ j0 := by omega
          have hj0k : j0 ≤ k := by omega
          have hj0j : j0 < j := by omega
          have hvx : shiftF d1 j k j = x := by
            rw [HX.out]
            unfold shiftF
            rw [if_neg (by omega), if_pos rfl]
          have hvy : shiftF d1 j k j0 = y := by
            rw [HY.out]
            unfold shiftF
            rw [if_pos hj0j]
          have hcx : wr.cell? ⟨g, j, none⟩ = some (.int .i64 x) := by rw [← hvx]; exact HI.out.sv.cell j hjn
          have hcy : wr.cell? ⟨g, j0, none⟩ = some (.int .i64 y) := by rw [← hvy]; exact HI.out.sv.cell j0 hj0n
          have hf := HI.out.sv.froz
          have hrx := HI.out.sv.rng j hjn
          have hry := HI.out.sv.rng j0 hj0n
          rw [hvx] at hrx
          rw [hvy] at hry
          have HAC := fun q => cmp_call x y hrx hry (wr.drewN q) (HI.out.sv.drewN q)
          have hne : ¬ j = j0 := by omega
          have hne' : ¬ j0 = j := by omega
          have hgt : decide ((a : Int) < (j : Int)) = true := decide_eq_true (by omega)
          have hjk0 : j0 < k := by omega
          by_cases hc : dpL l x < dpL l y
          · have hc' : decide (cmpZ (dpL l x) (dpL l y) < 0) = true := by rw [cmpZ_neg]; exact decide_eq_true hc
            have HN : Hid (∀ q, InS W0 g n Bd bt nt l d1 j0 k (((wr.drewN q).setCell ⟨g, j, none⟩ (.int .i64 y)).setCell ⟨g, j0, none⟩ (.int .i64 x))) := fun q => by
              have h1 := HI.out.drewN q
              rw [hj1] at h1 ⊢
              exact h1.step HX.out HY.out hjk0 hkn hc
            obtain ⟨hw1, hw2⟩ : IntKind.i64.wrap ((j : Int) - 1) = (j0 : Int) ∧ wrap64 ((j : Int) - 1) = (j0 : Int) := ⟨wrap_natI (by omega) (by omega), wrap_nat (by omega) (by omega)⟩
            have HME : Hid (j0 < j) := hj0j
            clear HI hj1 hrx hry hvx hvy hj0j hc
            go_wp2
            go_quiet ((go_at_call 105; exact quiet_sym (HAC _)))
            go_wp2
            go_region
            all_goals clear hw1 hw2
            all_goals go_wp2
            all_goals go_roundw
            case rel => exact ⟨j0, haj0, hj0k, by have := HJ.out; congr 1; omega, HN.out _⟩
            case measure => simp [intOf]; exact Nat.sub_lt (Nat.lt_of_le_of_lt (Nat.zero_le _) hja) (Nat.succ_pos 0)
          · have hc' : decide (cmpZ (dpL l x) (dpL l y) < 0) = false := by rw [cmpZ_neg]; exact decide_eq_false hc
            have HN : Hid (∀ q, OutS W0 g n Bd bt nt l d a (shiftF d1 j k) (t + 1) (wr.drewN q)) := fun q => by
              refine HNX.out j _ (HI.out.drewN q) haj hjk (.inr ?_)
              rw [hj1, Nat.add_sub_cancel, ← HX.out, ← HY.out]
              omega
            obtain ⟨hw1, hw2⟩ : IntKind.i64.wrap ((j : Int) - 1) = (j0 : Int) ∧ wrap64 ((j : Int) - 1) = (j0 : Int) := ⟨wrap_natI (by omega) (by omega), wrap_nat (by omega) (by omega)⟩
            clear HI hj1 hrx hry hvx hvy hj0j hc
            go_wp2
            go_quiet ((go_at_call 105; exact quiet_sym (HAC _)))
            clear hw1 hw2
            go_wp2
            go_roundw
            case rel => exact ⟨t + 1, k + 1, _, by omega, .inr (by omega), by go_num, HN.out _⟩
            case measure => simp [intOf]; omega
        · have hgt : decide ((a : Int) < (j : Int)) = false := decide_eq_false (by omega)
          have HN : Hid (∀ q, OutS W0 g n Bd bt nt l d a (shiftF d1 j k) (t + 1) (wr.drewN q)) := fun q => HNX.out j _ (HI.out.drewN q) haj hjk (.inl (by omega))
          clear HI
          go_wp2
          go_quiet (fail)
          go_wp2
          go_roundw
          case rel => exact ⟨t + 1, k + 1, _, by omega, .inr (by omega), by go_num, HN.out _⟩
          case measure => simp [intOf]; omega
    · have HE : Hid (∃ d', Sv W0 g n Bd bt nt l d' wr ∧ Seg a b d d' ∧ SortedF (dpL l) d' a b) := by
        refine ⟨d1, HO.out.sv, ?_, fun i j h1 h2 h3 => HO.out.sorted i j h1 h2 (by omega)⟩
        by_cases c : t = 0
        · rw [HO.out.zero c]
          exact Seg.refl _ _ _
        · exact HO.out.seg.mono (Nat.le_refl _) (by omega)
      have hd : decide ((k : Int) < (b : Int)) = false := decide_eq_false (by omega)
      clear HO
      go_wp2
      go_end0
      exact ⟨rfl, HE.out⟩
end Go.Proofs.YtobkinocaomcmaaGreat
