/- symMerge where the first part is one number alone, or the second. symMerge's own way: what stands while it looks for where to part. symMerge where the second part is one number alone. -/
import Derived.Test.YtobkinocaomcmaaGreatZSsIns
import Derived.Test.YtobkinocaomcmaaGreatZSsRot
namespace Go.Proofs.YtobkinocaomcmaaGreat
open Go.RowKit

variable {W0 : World} {g n Bd bt nt : Nat} {l : List (Int × Int)} {d : Nat → Int}
/-- What a merging leaves. -/
def Merged (W0 : World) (g n Bd bt nt : Nat) (l : List (Int × Int)) (d : Nat → Int) (a b : Nat) (W : World) : Prop := ∃ d', Sv W0 g n Bd bt nt l d' W ∧ Seg a b d d' ∧ SortedF (dpL l) d' a b
structure LeftS (W0 : World) (g n Bd bt nt : Nat) (l : List (Int × Int)) (d : Nat → Int) (a m b i j : Nat) (W : World) : Prop where
  sv : Sv W0 g n Bd bt nt l d W
  lo : ∀ q, m ≤ q → q < i → Lx (dpL l) (d q) (d a)
  hi : ∀ q, j ≤ q → q < b → Lx (dpL l) (d a) (d q)
theorem LeftS.drewN {a m b i j : Nat} {W : World} (h : LeftS W0 g n Bd bt nt l d a m b i j W) (q : Nat) : LeftS W0 g n Bd bt nt l d a m b i j (W.drewN q) := ⟨h.sv.drewN q, h.lo, h.hi⟩
set_option maxHeartbeats 4000000 in
set_option maxRecDepth 100000 in
theorem symm_left (a m b cap : Nat) (W : World) (h : Sv W0 g n Bd bt nt l d W) (hm : m = a + 1) (hmb : m < b) (hb : b ≤ n) (hn : n ≤ 1000000) (h2 : SortedF (dpL l) d m b) (hc : CrossF d a m b) :
    Calls Tryz.prog 140 #[.slice (some ⟨g, 0, none⟩) n cap, .int .i64 a, .int .i64 m, .int .i64 b, cmpFn Bd] W fun e w' => e = .returned (.tuple #[]) ∧ Merged W0 g n Bd bt nt l d a b w' := by
  have H : Hid (LeftS W0 g n Bd bt nt l d a m b m b W) := ⟨h, fun q h1 h2 => by omega, fun q h1 h2 => by omega⟩
  have HS : Hid (SortedF (dpL l) d m b) := h2
  have HC : Hid (CrossF d a m b) := hc
  have HM : Hid (m = a + 1) := hm
  have hd0 : (((m : Int) - (a : Int)) == 1) = true := by simp; omega
  have ham : a < m := by omega
  have han : a < n := by omega
  clear h h2 hc hm
  go_enter Tryz.func140, Tryz.ntmps140
  go_wp2
  go_loopw [10, 11] (fun ii jj wr => ∃ i j : Nat, m ≤ i ∧ i ≤ j ∧ j ≤ b ∧ ii = .int .i64 i ∧ jj = .int .i64 j ∧ Hid (LeftS W0 g n Bd bt nt l d a m b i j wr)) (fun ii jj _ => (intOf jj).toNat - (intOf ii).toNat)
  case atStart => exact ⟨m, b, Nat.le_refl _, Nat.le_of_lt hmb, Nat.le_refl _, rfl, rfl, H.out⟩
  case round =>
    obtain ⟨i, j, hmi, hij, hjb, rfl, rfl, HL⟩ := hrel
    by_cases hlt : i < j
    · have hd1 : decide ((i : Int) < (j : Int)) = true := decide_eq_true (by omega)
      obtain ⟨h, HH⟩ : ∃ h : Nat, Hid (h = (i + j) / 2) := ⟨(i + j) / 2, (rfl : (i + j) / 2 = _)⟩
      have hh := HH.out
      have hih : i ≤ h := by omega
      have hhj : h < j := by omega
      have hhn : h < n := by omega
      have hhe : ((i : Int) + (j : Int)) / 2 = (h : Int) := by omega
      obtain ⟨x, HX⟩ : ∃ x : Int, Hid (x = d h) := ⟨d h, (rfl : d h = _)⟩
      obtain ⟨y, HY⟩ : ∃ y : Int, Hid (y = d a) := ⟨d a, (rfl : d a = _)⟩
      have hcx : wr.cell? ⟨g, h, none⟩ = some (.int .i64 x) := by rw [HX.out]; exact HL.out.sv.cell h hhn
      have hcy : wr.cell? ⟨g, a, none⟩ = some (.int .i64 y) := by rw [HY.out]; exact HL.out.sv.cell a han
      have HAC := fun q => cmp_call x y (by rw [HX.out]; exact HL.out.sv.rng h hhn) (by rw [HY.out]; exact HL.out.sv.rng a han) (wr.drewN q) (HL.out.sv.drewN q)
      clear hh
      by_cases hc : dpL l x < dpL l y
      · have hc' : decide (cmpZ (dpL l x) (dpL l y) < 0) = true := by rw [cmpZ_neg]; exact decide_eq_true hc
        have HN : Hid (∀ q, LeftS W0 g n Bd bt nt l d a m b (h + 1) j (wr.drewN q)) := fun q => by
          have hL := HL.out.drewN q
          refine ⟨hL.sv, fun k k1 k2 => ?_, hL.hi⟩
          have h3 : Lx (dpL l) (d h) (d a) := by rw [← HX.out, ← HY.out]; exact .inl hc
          rcases Nat.lt_or_ge k h with c | c
          · exact (HS.out k h k1 c (by omega)).trans h3
          · rw [show k = h by omega]
            exact h3
        clear HL hc
        go_wp2
        go_quiet ((go_at_call 105; exact quiet_sym (HAC _)))
        go_wp2
        go_roundw
        case rel => exact ⟨h + 1, j, by omega, by omega, hjb, by go_num, rfl, HN.out _⟩
        case measure => simp [intOf]; omega
      · have hc' : decide (cmpZ (dpL l x) (dpL l y) < 0) = false := by rw [cmpZ_neg]; exact decide_eq_false hc
        have HN : Hid (∀ q, LeftS W0 g n Bd bt nt l d a m b i h (wr.drewN q)) := fun q => by
          have hL := HL.out.drewN q
          refine ⟨hL.sv, hL.lo, fun k k1 k2 => ?_⟩
          have h3 : Lx (dpL l) (d a) (d h) := by
            have h4 := HC.out a h (Nat.le_refl _) ham (by omega) (by omega)
            rw [← HX.out, ← HY.out] at h4 ⊢
            exact Lx.of_le (by omega) h4
          rcases Nat.lt_or_ge h k with c | c
          · exact h3.trans (HS.out h k (by omega) c k2)
          · rw [show k = h by omega]
            exact h3
        clear HL hc
        go_wp2
        go_quiet ((go_at_call 105; exact quiet_sym (HAC _)))
        go_wp2
        go_roundw
        case rel => exact ⟨i, h, hmi, hih, by omega, rfl, rfl, HN.out _⟩
        case measure => simp [intOf]; omega
    · have hd1 : decide ((i : Int) < (j : Int)) = false := decide_eq_false (by omega)
      have hje : j = i := by omega
      have hib : i ≤ b := by omega
      have HF : Hid (Sv W0 g n Bd bt nt l (forthF d a a) wr) := by rw [forthF_self]; exact HL.out.sv
      have HEND : Hid (∀ W, Sv W0 g n Bd bt nt l (forthF d a (i - 1)) W → Merged W0 g n Bd bt nt l d a b W) := fun W hW => by
        have hm' := HM.out
        refine ⟨_, hW, forthF_seg (by omega) (Nat.le_refl _) (by omega), forthF_sorted (by rw [← HM.out]; exact HS.out) (by omega) (by omega) (fun k k1 k2 => HL.out.lo k (by omega) (by omega)) (fun k k1 k2 => HL.out.hi k (by omega) k2)⟩
      have hai : a + 1 ≤ i := by omega
      clear HL hje
      go_wp2
      go_loopw [13] (fun kk wr => ∃ k : Nat, a ≤ k ∧ k + 1 ≤ i ∧ kk = .int .i64 k ∧ Hid (Sv W0 g n Bd bt nt l (forthF d a k) wr)) (fun kk _ => i - (intOf kk).toNat)
      case atStart => exact ⟨a, Nat.le_refl _, hai, rfl, HF.out⟩
      case round =>
        obtain ⟨k, hak, hki, rfl, HV⟩ := hrel
        by_cases hlt2 : k + 1 < i
        · have hd2 : decide ((k : Int) < (i : Int) - 1) = true := decide_eq_true (by omega)
          obtain ⟨k1, HK⟩ : ∃ k1 : Nat, Hid (k1 = k + 1) := ⟨k + 1, (rfl : k + 1 = _)⟩
          have hk1 := HK.out
          have hkn : k < n := by omega
          have hk1n : k1 < n := by omega
          have hne : ¬ k = k1 := by omega
          have hne' : ¬ k1 = k := by omega
          obtain ⟨u, HU⟩ : ∃ u : Int, Hid (u = forthF d a k k) := ⟨_, rfl⟩
          obtain ⟨v, HVV⟩ : ∃ v : Int, Hid (v = forthF d a k k1) := ⟨_, rfl⟩
          have hcx : wr.cell? ⟨g, k, none⟩ = some (.int .i64 u) := by rw [HU.out]; exact HV.out.cell k hkn
          have hcy : wr.cell? ⟨g, k1, none⟩ = some (.int .i64 v) := by rw [HVV.out]; exact HV.out.cell k1 hk1n
          have hf := HV.out.froz
          have HN : Hid (∀ q, Sv W0 g n Bd bt nt l (forthF d a k1) (((wr.drewN q).setCell ⟨g, k, none⟩ (.int .i64 v)).setCell ⟨g, k1, none⟩ (.int .i64 u))) := fun q => by
            have h2 := ((HV.out.drewN q).set (i := k) hkn (v := v) (by rw [HVV.out]; exact HV.out.rng k1 hk1n)).set (i := k1) hk1n (v := u) (by rw [HU.out]; exact HV.out.rng k hkn)
            refine h2.eq ?_
            rw [HU.out, HVV.out, hk1]
            exact forthF_step hak
          have hgo : a ≤ k1 ∧ k1 + 1 ≤ i ∧ i - k1 < i - k := ⟨by omega, by omega, by omega⟩
          obtain ⟨hw1, hw2⟩ : IntKind.i64.wrap ((k : Int) + 1) = (k1 : Int) ∧ wrap64 ((k : Int) + 1) = (k1 : Int) := ⟨wrap_natI (by omega) (by omega), wrap_nat (by omega) (by omega)⟩
          clear HV hk1
          go_wp2
          go_region
          all_goals go_wp2
          all_goals go_roundw
          case rel => exact ⟨k1, hgo.1, hgo.2.1, rfl, HN.out _⟩
          case measure => simpa [intOf] using hgo.2.2
        · have hd2 : decide ((k : Int) < (i : Int) - 1) = false := decide_eq_false (by omega)
          have HE : Hid (Merged W0 g n Bd bt nt l d a b wr) := HEND.out _ (HV.out.eq (by rw [show i - 1 = k by omega]))
          clear HV
          go_wp2
          (try simp only [Exit.inBlock, Exit.then])
          refine bodyPost_ret (results_none rfl _ _ _) rfl ?_
          exact ⟨rfl, HE.out⟩
end Go.Proofs.YtobkinocaomcmaaGreat
namespace Go.Proofs.YtobkinocaomcmaaGreat
open Go.RowKit

structure GenS (W0 : World) (g n Bd bt nt : Nat) (l : List (Int × Int)) (d : Nat → Int) (P st0 r0 s r : Nat) (W : World) : Prop where
  sv : Sv W0 g n Bd bt nt l d W
  i1 : s = st0 ∨ Lx (dpL l) (d (s - 1)) (d (P - s))
  i2 : r = r0 ∨ Lx (dpL l) (d (P - 1 - r)) (d r)
theorem rotF_id {d : Nat → Int} {s m e : Nat} (h : s = m ∨ e = m) (hs : s ≤ m) (hm : m ≤ e) : rotF d s m e = d := by
  funext k
  unfold rotF
  by_cases c1 : s ≤ k ∧ k < s + (e - m)
  · rw [if_pos c1]
    congr 1
    omega
  · rw [if_neg c1]
    by_cases c2 : s + (e - m) ≤ k ∧ k < e
    · rw [if_pos c2]
      congr 1
      omega
    · rw [if_neg c2]
theorem CrossF.out {d d1 : Nat → Int} {a m b x y : Nat} (h : CrossF d a m b) (g : Seg x y d d1) (hd : b ≤ x ∨ y ≤ a) : CrossF d1 a m b := fun i j q1 q2 q3 q4 => by
  rw [g.out i (by omega), g.out j (by omega)]
  exact h i j q1 q2 q3 q4
end Go.Proofs.YtobkinocaomcmaaGreat
namespace Go.Proofs.YtobkinocaomcmaaGreat
open Go.RowKit

variable {W0 : World} {g n Bd bt nt : Nat} {l : List (Int × Int)} {d : Nat → Int}
structure RightS (W0 : World) (g n Bd bt nt : Nat) (l : List (Int × Int)) (d : Nat → Int) (a m i j : Nat) (W : World) : Prop where
  sv : Sv W0 g n Bd bt nt l d W
  lo : ∀ q, a ≤ q → q < i → Lx (dpL l) (d q) (d m)
  hi : ∀ q, j ≤ q → q < m → Lx (dpL l) (d m) (d q)
theorem RightS.drewN {a m i j : Nat} {W : World} (h : RightS W0 g n Bd bt nt l d a m i j W) (q : Nat) : RightS W0 g n Bd bt nt l d a m i j (W.drewN q) := ⟨h.sv.drewN q, h.lo, h.hi⟩
set_option maxHeartbeats 4000000 in
set_option maxRecDepth 100000 in
theorem symm_right (a m b cap : Nat) (W : World) (h : Sv W0 g n Bd bt nt l d W) (hm : b = m + 1) (ham : a < m) (hma : ¬ m = a + 1) (hb : b ≤ n) (hn : n ≤ 1000000) (h1 : SortedF (dpL l) d a m) (hc : CrossF d a m b) :
    Calls Tryz.prog 140 #[.slice (some ⟨g, 0, none⟩) n cap, .int .i64 a, .int .i64 m, .int .i64 b, cmpFn Bd] W fun e w' => e = .returned (.tuple #[]) ∧ Merged W0 g n Bd bt nt l d a b w' := by
  have H : Hid (RightS W0 g n Bd bt nt l d a m a m W) := ⟨h, fun q h1 h2 => by omega, fun q h1 h2 => by omega⟩
  have HS : Hid (SortedF (dpL l) d a m) := h1
  have HC : Hid (CrossF d a m b) := hc
  have HM : Hid (b = m + 1) := hm
  have hd0 : (((m : Int) - (a : Int)) == 1) = false := by simp; omega
  have hd00 : (((b : Int) - (m : Int)) == 1) = true := by simp; omega
  have hmn : m < n := by omega
  have hmb : m < b := by omega
  clear h h1 hc hm hma
  go_enter Tryz.func140, Tryz.ntmps140
  go_wp2
  go_loopw [14, 15] (fun ii jj wr => ∃ i j : Nat, a ≤ i ∧ i ≤ j ∧ j ≤ m ∧ ii = .int .i64 i ∧ jj = .int .i64 j ∧ Hid (RightS W0 g n Bd bt nt l d a m i j wr)) (fun ii jj _ => (intOf jj).toNat - (intOf ii).toNat)
  case atStart => exact ⟨a, m, Nat.le_refl _, Nat.le_of_lt ham, Nat.le_refl _, rfl, rfl, H.out⟩
  case round =>
    obtain ⟨i, j, hmi, hij, hjb, rfl, rfl, HL⟩ := hrel
    by_cases hlt : i < j
    · have hd1 : decide ((i : Int) < (j : Int)) = true := decide_eq_true (by omega)
      obtain ⟨h, HH⟩ : ∃ h : Nat, Hid (h = (i + j) / 2) := ⟨(i + j) / 2, (rfl : (i + j) / 2 = _)⟩
      have hh := HH.out
      have hih : i ≤ h := by omega
      have hhj : h < j := by omega
      have hhn : h < n := by omega
      have hhe : ((i : Int) + (j : Int)) / 2 = (h : Int) := by omega
      obtain ⟨x, HX⟩ : ∃ x : Int, Hid (x = d m) := ⟨d m, (rfl : d m = _)⟩
      obtain ⟨y, HY⟩ : ∃ y : Int, Hid (y = d h) := ⟨d h, (rfl : d h = _)⟩
      have hcx : wr.cell? ⟨g, m, none⟩ = some (.int .i64 x) := by rw [HX.out]; exact HL.out.sv.cell m hmn
      have hcy : wr.cell? ⟨g, h, none⟩ = some (.int .i64 y) := by rw [HY.out]; exact HL.out.sv.cell h hhn
      have HAC := fun q => cmp_call x y (by rw [HX.out]; exact HL.out.sv.rng m hmn) (by rw [HY.out]; exact HL.out.sv.rng h hhn) (wr.drewN q) (HL.out.sv.drewN q)
      clear hh
      by_cases hc : dpL l x < dpL l y
      · have hc' : decide (cmpZ (dpL l x) (dpL l y) < 0) = true := by rw [cmpZ_neg]; exact decide_eq_true hc
        have HN : Hid (∀ q, RightS W0 g n Bd bt nt l d a m i h (wr.drewN q)) := fun q => by
          have hL := HL.out.drewN q
          refine ⟨hL.sv, hL.lo, fun k k1 k2 => ?_⟩
          have h3 : Lx (dpL l) (d m) (d h) := by rw [← HX.out, ← HY.out]; exact .inl hc
          rcases Nat.lt_or_ge h k with c | c
          · exact h3.trans (HS.out h k (by omega) c (by omega))
          · rw [show k = h by omega]
            exact h3
        clear HL hc
        go_wp2
        go_quiet ((go_at_call 105; exact quiet_sym (HAC _)))
        go_wp2
        go_roundw
        case rel => exact ⟨i, h, hmi, hih, by omega, rfl, rfl, HN.out _⟩
        case measure => simp [intOf]; omega
      · have hc' : decide (cmpZ (dpL l x) (dpL l y) < 0) = false := by rw [cmpZ_neg]; exact decide_eq_false hc
        have HN : Hid (∀ q, RightS W0 g n Bd bt nt l d a m (h + 1) j (wr.drewN q)) := fun q => by
          have hL := HL.out.drewN q
          refine ⟨hL.sv, fun k k1 k2 => ?_, hL.hi⟩
          have h3 : Lx (dpL l) (d h) (d m) := by
            have h4 := HC.out h m (by omega) (by omega) (Nat.le_refl _) hmb
            rw [← HX.out, ← HY.out] at h4 ⊢
            exact Lx.of_le (by omega) h4
          rcases Nat.lt_or_ge k h with c | c
          · exact (HS.out k h k1 c (by omega)).trans h3
          · rw [show k = h by omega]
            exact h3
        clear HL hc
        go_wp2
        go_quiet ((go_at_call 105; exact quiet_sym (HAC _)))
        go_wp2
        go_roundw
        case rel => exact ⟨h + 1, j, by omega, by omega, hjb, by go_num, rfl, HN.out _⟩
        case measure => simp [intOf]; omega
    · have hd1 : decide ((i : Int) < (j : Int)) = false := decide_eq_false (by omega)
      have him : i ≤ m := by omega
      have HF : Hid (Sv W0 g n Bd bt nt l (shiftF d m m) wr) := by rw [shiftF_self]; exact HL.out.sv
      have HEND : Hid (∀ W, Sv W0 g n Bd bt nt l (shiftF d i m) W → Merged W0 g n Bd bt nt l d a b W) := fun W hW => by
        have hm' := HM.out
        refine ⟨_, hW, shiftF_seg him hmi hmb, ?_⟩
        have := shiftF_sorted HS.out hmi him (fun k k1 k2 => HL.out.lo k k1 k2) (fun k k1 k2 => HL.out.hi k (by omega) k2)
        rwa [← HM.out] at this
      clear HL
      go_wp2
      go_loopw [17] (fun kk wr => ∃ k : Nat, i ≤ k ∧ k ≤ m ∧ kk = .int .i64 k ∧ Hid (Sv W0 g n Bd bt nt l (shiftF d k m) wr)) (fun kk _ => (intOf kk).toNat)
      case atStart => exact ⟨m, him, Nat.le_refl _, rfl, HF.out⟩
      case round =>
        obtain ⟨k, hik, hkm, rfl, HV⟩ := hrel
        by_cases hlt2 : i < k
        · have hd2 : decide ((i : Int) < (k : Int)) = true := decide_eq_true (by omega)
          obtain ⟨k0, HK⟩ : ∃ k0 : Nat, Hid (k = k0 + 1) := ⟨k - 1, by unfold Hid; omega⟩
          have hk1 := HK.out
          have hkn : k < n := by omega
          have hk0n : k0 < n := by omega
          have hne : ¬ k = k0 := by omega
          have hne' : ¬ k0 = k := by omega
          obtain ⟨u, HU⟩ : ∃ u : Int, Hid (u = shiftF d k m k) := ⟨_, rfl⟩
          obtain ⟨v, HVV⟩ : ∃ v : Int, Hid (v = shiftF d k m k0) := ⟨_, rfl⟩
          have hcx : wr.cell? ⟨g, k, none⟩ = some (.int .i64 u) := by rw [HU.out]; exact HV.out.cell k hkn
          have hcy : wr.cell? ⟨g, k0, none⟩ = some (.int .i64 v) := by rw [HVV.out]; exact HV.out.cell k0 hk0n
          have hf := HV.out.froz
          have HN : Hid (∀ q, Sv W0 g n Bd bt nt l (shiftF d k0 m) (((wr.drewN q).setCell ⟨g, k, none⟩ (.int .i64 v)).setCell ⟨g, k0, none⟩ (.int .i64 u))) := fun q => by
            have h2 := ((HV.out.drewN q).set (i := k) hkn (v := v) (by rw [HVV.out]; exact HV.out.rng k0 hk0n)).set (i := k0) hk0n (v := u) (by rw [HU.out]; exact HV.out.rng k hkn)
            refine h2.eq ?_
            rw [HU.out, HVV.out, hk1]
            exact shiftF_step (by omega)
          have hgo : i ≤ k0 ∧ k0 ≤ m ∧ k0 < k := ⟨by omega, by omega, by omega⟩
          obtain ⟨hw1, hw2⟩ : IntKind.i64.wrap ((k : Int) - 1) = (k0 : Int) ∧ wrap64 ((k : Int) - 1) = (k0 : Int) := ⟨wrap_natI (by omega) (by omega), wrap_nat (by omega) (by omega)⟩
          clear HV hk1
          go_wp2
          go_region
          all_goals go_wp2
          all_goals go_roundw
          case rel => exact ⟨k0, hgo.1, hgo.2.1, rfl, HN.out _⟩
          case measure => simpa [intOf] using hgo.2.2
        · have hd2 : decide ((i : Int) < (k : Int)) = false := decide_eq_false (by omega)
          have HE : Hid (Merged W0 g n Bd bt nt l d a b wr) := HEND.out _ (HV.out.eq (by rw [show i = k by omega]))
          clear HV
          go_wp2
          (try simp only [Exit.inBlock, Exit.then])
          refine bodyPost_ret (results_none rfl _ _ _) rfl ?_
          exact ⟨rfl, HE.out⟩
end Go.Proofs.YtobkinocaomcmaaGreat
