/- symMerge's own way, where the middle lies in the second part, or where it begins. -/
import Derived.Test.YtobkinocaomcmaaGreatZSsSymR
namespace Go.Proofs.YtobkinocaomcmaaGreat
open Go.RowKit

variable {W0 : World} {g n Bd bt nt : Nat} {l : List (Int × Int)} {d : Nat → Int}
set_option maxHeartbeats 16000000 in
set_option maxRecDepth 100000 in
theorem symm_genB (a m b cap : Nat) (W : World) (h : Sv W0 g n Bd bt nt l d W) (ham : a < m) (hmb : m < b) (hma : ¬ m = a + 1) (hbm : ¬ b = m + 1) (hb : b ≤ n) (hn : n ≤ 1000000) (h1 : SortedF (dpL l) d a m) (h2 : SortedF (dpL l) d m b) (hc : CrossF d a m b) (hmid : ¬ (a + b) / 2 < m)
    (IH : ∀ (a' m' b' : Nat) (d' : Nat → Int) (W' : World), b' - a' < b - a → Sv W0 g n Bd bt nt l d' W' → a' < m' → m' < b' → b' ≤ n → SortedF (dpL l) d' a' m' → SortedF (dpL l) d' m' b' → CrossF d' a' m' b' →
      Calls Tryz.prog 140 #[.slice (some ⟨g, 0, none⟩) n cap, .int .i64 a', .int .i64 m', .int .i64 b', cmpFn Bd] W' fun e w' => e = .returned (.tuple #[]) ∧ Merged W0 g n Bd bt nt l d' a' b' w') :
    Calls Tryz.prog 140 #[.slice (some ⟨g, 0, none⟩) n cap, .int .i64 a, .int .i64 m, .int .i64 b, cmpFn Bd] W fun e w' => e = .returned (.tuple #[]) ∧ Merged W0 g n Bd bt nt l d a b w' := by
  have HV : Hid (Sv W0 g n Bd bt nt l d W) := h
  have HS : Hid (SortedF (dpL l) d a m ∧ SortedF (dpL l) d m b ∧ CrossF d a m b) := ⟨h1, h2, hc⟩
  have HIH : Hid (∀ (a' m' b' : Nat) (d' : Nat → Int) (W' : World), b' - a' < b - a → Sv W0 g n Bd bt nt l d' W' → a' < m' → m' < b' → b' ≤ n → SortedF (dpL l) d' a' m' → SortedF (dpL l) d' m' b' → CrossF d' a' m' b' → Calls Tryz.prog 140 #[.slice (some ⟨g, 0, none⟩) n cap, .int .i64 a', .int .i64 m', .int .i64 b', cmpFn Bd] W' fun e w' => e = .returned (.tuple #[]) ∧ Merged W0 g n Bd bt nt l d' a' b' w') := IH
  obtain ⟨mid, HMID⟩ : ∃ q : Nat, Hid (q = (a + b) / 2) := ⟨(a + b) / 2, (rfl : (a + b) / 2 = _)⟩
  rw [← HMID.out] at hmid
  have hm1 : 2 * mid ≤ a + b := by have := HMID.out; omega
  have hm2 : a + b < 2 * mid + 2 := by have := HMID.out; omega
  have hmide : ((a : Int) + (b : Int)) / 2 = (mid : Int) := by have := HMID.out; omega
  have hd0 : (((m : Int) - (a : Int)) == 1) = false := by simp; omega
  have hd00 : (((b : Int) - (m : Int)) == 1) = false := by simp; omega
  have hd3 : decide ((mid : Int) < (m : Int)) = false := decide_eq_false (by omega)
  obtain ⟨st0, HST⟩ : ∃ q : Nat, Hid (q = a) := ⟨a, (rfl : a = _)⟩
  obtain ⟨r0, HR0⟩ : ∃ q : Nat, Hid (q = m) := ⟨m, (rfl : m = _)⟩
  have hst := HST.out
  have hr0 := HR0.out
  have hb1 : a ≤ st0 := by omega
  have hb2 : st0 ≤ r0 := by omega
  have hb3 : r0 ≤ m := by omega
  have hb4 : mid + m ≤ b + st0 := by omega
  have hb5 : r0 ≤ mid := by omega
  have HEND : Hid (∀ s, st0 ≤ s → s ≤ r0 → (s = st0 → s = a ∨ mid + m - s = b) ∧ (s = r0 → s = m ∨ mid + m - s = m)) := fun s q1 q2 => ⟨fun q3 => by omega, fun q3 => by omega⟩
  clear h h1 h2 hc IH hma hbm hst hr0
  go_enter Tryz.func140, Tryz.ntmps140
  go_wp2
  go_loopw [20, 21] (fun ss rr wr => ∃ s r : Nat, st0 ≤ s ∧ s ≤ r ∧ r ≤ r0 ∧ ss = .int .i64 s ∧ rr = .int .i64 r ∧ Hid (GenS W0 g n Bd bt nt l d (mid + m) st0 r0 s r wr)) (fun ss rr _ => (intOf rr).toNat - (intOf ss).toNat)
  case atStart => exact ⟨st0, r0, Nat.le_refl _, hb2, Nat.le_refl _, by have := HST.out; congr 1; omega, by have := HR0.out; congr 1; omega, HV.out, .inl rfl, .inl rfl⟩
  case round =>
    obtain ⟨s, r, hs0, hsr, hrr, rfl, rfl, HL⟩ := hrel
    by_cases hlt : s < r
    · have hd1 : decide ((s : Int) < (r : Int)) = true := decide_eq_true (by omega)
      obtain ⟨c, HCC⟩ : ∃ q : Nat, Hid (q = (s + r) / 2) := ⟨(s + r) / 2, (rfl : (s + r) / 2 = _)⟩
      obtain ⟨pc, HPC⟩ : ∃ q : Nat, Hid (q = mid + m - 1 - c) := ⟨mid + m - 1 - c, (rfl : mid + m - 1 - c = _)⟩
      have hcc := HCC.out
      have hpc := HPC.out
      have hsc : s ≤ c := by omega
      have hcr : c < r := by omega
      have hcn : c < n := by omega
      have hcm : c < m := by omega
      have hac : a ≤ c := by omega
      have hpm : m ≤ pc := by omega
      have hpb : pc < b := by omega
      have hpn : pc < n := by omega
      have hcp : c + pc + 1 = mid + m := by omega
      have hce : ((s : Int) + (r : Int)) / 2 = (c : Int) := by omega
      have hpe : (mid : Int) + (m : Int) - 1 - (c : Int) = (pc : Int) := by omega
      obtain ⟨x, HX⟩ : ∃ x : Int, Hid (x = d pc) := ⟨d pc, (rfl : d pc = _)⟩
      obtain ⟨y, HY⟩ : ∃ y : Int, Hid (y = d c) := ⟨d c, (rfl : d c = _)⟩
      have hcx : wr.cell? ⟨g, pc, none⟩ = some (.int .i64 x) := by rw [HX.out]; exact HL.out.sv.cell pc hpn
      have hcy : wr.cell? ⟨g, c, none⟩ = some (.int .i64 y) := by rw [HY.out]; exact HL.out.sv.cell c hcn
      have HAC := fun q => cmp_call x y (by rw [HX.out]; exact HL.out.sv.rng pc hpn) (by rw [HY.out]; exact HL.out.sv.rng c hcn) (wr.drewN q) (HL.out.sv.drewN q)
      have HPE : Hid (mid + m - 1 - c = pc ∧ mid + m - (c + 1) = pc) := ⟨by omega, by omega⟩
      obtain ⟨hw1, hw2⟩ : IntKind.i64.wrap ((mid : Int) + (m : Int) - 1 - (c : Int)) = (pc : Int) ∧ wrap64 ((mid : Int) + (m : Int) - 1 - (c : Int)) = (pc : Int) := ⟨wrap_natI hpe (by omega), wrap_nat hpe (by omega)⟩
      clear hcc hpc
      by_cases hcmp : dpL l x < dpL l y
      · have hc' : decide (cmpZ (dpL l x) (dpL l y) < 0) = true := by rw [cmpZ_neg]; exact decide_eq_true hcmp
        have HN : Hid (∀ q, GenS W0 g n Bd bt nt l d (mid + m) st0 r0 s c (wr.drewN q)) := fun q => ⟨HL.out.sv.drewN q, HL.out.i1, .inr (by rw [HPE.out.1, ← HX.out, ← HY.out]; exact .inl hcmp)⟩
        clear HL hcmp
        have hgo : st0 ≤ s ∧ s ≤ c ∧ c ≤ r0 ∧ c - s < r - s := ⟨by omega, by omega, by omega, by omega⟩
        go_wp2
        go_quiet ((go_at_call 105; exact quiet_sym (HAC _)))
        clear hw1 hw2
        go_wp2
        go_roundw
        case rel => exact ⟨s, c, hgo.1, hgo.2.1, hgo.2.2.1, rfl, rfl, HN.out _⟩
        case measure => simpa [intOf] using hgo.2.2.2
      · have hc' : decide (cmpZ (dpL l x) (dpL l y) < 0) = false := by rw [cmpZ_neg]; exact decide_eq_false hcmp
        have HN : Hid (∀ q, GenS W0 g n Bd bt nt l d (mid + m) st0 r0 (c + 1) r (wr.drewN q)) := fun q => ⟨HL.out.sv.drewN q, .inr (by
          have h4 := HS.out.2.2 c pc hac hcm hpm hpb
          rw [HPE.out.2, Nat.add_sub_cancel]
          rw [← HX.out, ← HY.out] at h4 ⊢
          exact Lx.of_le (by omega) h4), HL.out.i2⟩
        clear HL hcmp
        have hgo : st0 ≤ c + 1 ∧ c + 1 ≤ r ∧ r ≤ r0 ∧ r - (c + 1) < r - s := ⟨by omega, by omega, by omega, by omega⟩
        go_wp2
        go_quiet ((go_at_call 105; exact quiet_sym (HAC _)))
        clear hw1 hw2
        go_wp2
        go_roundw
        case rel => exact ⟨c + 1, r, hgo.1, hgo.2.1, hgo.2.2.1, by go_num, rfl, HN.out _⟩
        case measure => simp [intOf]; omega
    · have hd1 : decide ((s : Int) < (r : Int)) = false := decide_eq_false (by omega)
      obtain ⟨e, HE⟩ : ∃ q : Nat, Hid (q = mid + m - s) := ⟨mid + m - s, (rfl : mid + m - s = _)⟩
      have he := HE.out
      have hee : (mid : Int) + (m : Int) - (s : Int) = (e : Int) := by omega
      have has : a ≤ s := by omega
      have hsm : s ≤ m := by omega
      have hme : m ≤ e := by omega
      have heb : e ≤ b := by omega
      have hmd : mid = s + (e - m) := by omega
      have HH : Hid (Half (dpL l) d (rotF d s m e) a s mid e b) := by
        obtain ⟨q1, q2⟩ := HEND.out s hs0 (by omega)
        rw [← HE.out] at q1 q2
        refine half_rot has hsm hme heb hmd HS.out.1 HS.out.2.1 HS.out.2.2 ?_ ?_
        · rcases HL.out.i1 with c | c
          · rcases q1 c with c | c
            · exact .inl c
            · exact .inr (.inl c)
          · rw [← HE.out] at c
            exact .inr (.inr c)
        · rcases HL.out.i2 with c | c
          · rcases q2 (by omega) with c | c
            · exact .inl c
            · exact .inr (.inl c)
          · rw [show mid + m - 1 - r = e - 1 by omega, show r = s by omega] at c
            exact .inr (.inr c)
      have HV1 : Hid (Sv W0 g n Bd bt nt l d wr) := HL.out.sv
      have hsz : mid - a < b - a ∧ b - mid < b - a ∧ mid ≤ n ∧ a ≤ mid ∧ mid ≤ b ∧ s ≤ mid ∧ mid ≤ e := ⟨by omega, by omega, by omega, by omega, by omega, by omega, by omega⟩
      clear HL he hmd
      rcases Nat.lt_or_ge s m with i1 | i1
      · have id1 : decide ((s : Int) < (m : Int)) = true := decide_eq_true (by omega)
        rcases Nat.lt_or_ge m e with i2 | i2
        · have id2 : decide ((m : Int) < (e : Int)) = true := decide_eq_true (by omega)
          go_wp2_with fail
          all_goals
            refine (rotate_row s m e cap _ _ HV1.out i1 i2 (by omega) hn).mono ?_
            rintro e' w3 ⟨rfl, hv3⟩
            have HV2 : Hid (Sv W0 g n Bd bt nt l (rotF d s m e) w3) := hv3
            clear hv3 HV1
            rcases Nat.lt_or_ge a s with j1 | j1
            · have jd1 : decide ((a : Int) < (s : Int)) = true := decide_eq_true (by omega)
              rcases Nat.lt_or_ge s mid with j2 | j2
              · have jd2 : decide ((s : Int) < (mid : Int)) = true := decide_eq_true (by omega)
                go_wp2_with fail
                all_goals
                  refine (HIH.out a s mid _ _ hsz.1 HV2.out j1 j2 hsz.2.2.1 HH.out.s1 HH.out.s2 HH.out.c1).mono ?_
                  rintro e' w4 ⟨rfl, d1, hv4, hg4, hk4⟩
                  have HV3 : Hid (Sv W0 g n Bd bt nt l d1 w4) := hv4
                  have K1 : Hid (Seg a mid (rotF d s m e) d1 ∧ SortedF (dpL l) d1 a mid) := ⟨hg4, hk4⟩
                  clear hv4 hg4 hk4 HV2
                  rcases Nat.lt_or_ge mid e with k1 | k1
                  · have kd1 : decide ((mid : Int) < (e : Int)) = true := decide_eq_true (by omega)
                    rcases Nat.lt_or_ge e b with k2 | k2
                    · have kd2 : decide ((e : Int) < (b : Int)) = true := decide_eq_true (by omega)
                      go_wp2_with fail
                      all_goals
                        refine (HIH.out mid e b _ _ hsz.2.1 HV3.out k1 k2 hb (HH.out.s3.out K1.out.1 (.inr (Nat.le_refl _))) (HH.out.s4.out K1.out.1 (.inr hsz.2.2.2.2.2.2)) (HH.out.c2.out K1.out.1 (.inr (Nat.le_refl _)))).mono ?_
                        rintro e' w5 ⟨rfl, d2, hv5, hg5, hk5⟩
                        have HF : Hid (Merged W0 g n Bd bt nt l d a b w5) := ⟨d2, hv5, HH.out.end hsz.2.2.2.1 hsz.2.2.2.2.1 K1.out.1 K1.out.2 hg5 hk5⟩
                        clear hv5 hg5 hk5
                        go_wp2
                        all_goals first
                          | (go_end0; exact ⟨rfl, HF.out⟩)
                          | (exfalso; omega)
                    · have kd2 : decide ((e : Int) < (b : Int)) = false := decide_eq_false (by omega)
                      have hq : e = b := by omega
                      have HS3 : Hid (SortedF (dpL l) d1 mid b) := by rw [← hq]; exact HH.out.s3.out K1.out.1 (.inr (Nat.le_refl _))
                      have HF : Hid (Merged W0 g n Bd bt nt l d a b w4) := ⟨_, HV3.out, HH.out.end hsz.2.2.2.1 hsz.2.2.2.2.1 K1.out.1 K1.out.2 (Seg.refl _ _ _) HS3.out⟩
                      go_wp2
                      all_goals first
                        | (go_end0; exact ⟨rfl, HF.out⟩)
                        | (exfalso; omega)
                  · have kd1 : decide ((mid : Int) < (e : Int)) = false := decide_eq_false (by omega)
                    have hq : mid = e := by omega
                    have HS3 : Hid (SortedF (dpL l) d1 mid b) := by rw [hq]; exact HH.out.s4.out K1.out.1 (.inr hsz.2.2.2.2.2.2)
                    have HF : Hid (Merged W0 g n Bd bt nt l d a b w4) := ⟨_, HV3.out, HH.out.end hsz.2.2.2.1 hsz.2.2.2.2.1 K1.out.1 K1.out.2 (Seg.refl _ _ _) HS3.out⟩
                    go_wp2
                    all_goals first
                      | (go_end0; exact ⟨rfl, HF.out⟩)
                      | (exfalso; omega)
              · have jd2 : decide ((s : Int) < (mid : Int)) = false := decide_eq_false (by omega)
                have hq : s = mid := by omega
                have K1 : Hid (Seg a mid (rotF d s m e) (rotF d s m e) ∧ SortedF (dpL l) (rotF d s m e) a mid) := ⟨Seg.refl _ _ _, by have := HH.out.s1; rwa [hq] at this ⊢⟩
                have HV3 := HV2
                clear hq
                rcases Nat.lt_or_ge mid e with k1 | k1
                · have kd1 : decide ((mid : Int) < (e : Int)) = true := decide_eq_true (by omega)
                  rcases Nat.lt_or_ge e b with k2 | k2
                  · have kd2 : decide ((e : Int) < (b : Int)) = true := decide_eq_true (by omega)
                    go_wp2_with fail
                    all_goals
                      refine (HIH.out mid e b _ _ hsz.2.1 HV3.out k1 k2 hb (HH.out.s3.out K1.out.1 (.inr (Nat.le_refl _))) (HH.out.s4.out K1.out.1 (.inr hsz.2.2.2.2.2.2)) (HH.out.c2.out K1.out.1 (.inr (Nat.le_refl _)))).mono ?_
                      rintro e' w5 ⟨rfl, d2, hv5, hg5, hk5⟩
                      have HF : Hid (Merged W0 g n Bd bt nt l d a b w5) := ⟨d2, hv5, HH.out.end hsz.2.2.2.1 hsz.2.2.2.2.1 K1.out.1 K1.out.2 hg5 hk5⟩
                      clear hv5 hg5 hk5
                      go_wp2
                      all_goals first
                        | (go_end0; exact ⟨rfl, HF.out⟩)
                        | (exfalso; omega)
                  · have kd2 : decide ((e : Int) < (b : Int)) = false := decide_eq_false (by omega)
                    have hq : e = b := by omega
                    have HS3 : Hid (SortedF (dpL l) (rotF d s m e) mid b) := by rw [← hq]; exact HH.out.s3.out K1.out.1 (.inr (Nat.le_refl _))
                    have HF : Hid (Merged W0 g n Bd bt nt l d a b w3) := ⟨_, HV3.out, HH.out.end hsz.2.2.2.1 hsz.2.2.2.2.1 K1.out.1 K1.out.2 (Seg.refl _ _ _) HS3.out⟩
                    go_wp2
                    all_goals first
                      | (go_end0; exact ⟨rfl, HF.out⟩)
                      | (exfalso; omega)
                · have kd1 : decide ((mid : Int) < (e : Int)) = false := decide_eq_false (by omega)
                  have hq : mid = e := by omega
                  have HS3 : Hid (SortedF (dpL l) (rotF d s m e) mid b) := by rw [hq]; exact HH.out.s4.out K1.out.1 (.inr hsz.2.2.2.2.2.2)
                  have HF : Hid (Merged W0 g n Bd bt nt l d a b w3) := ⟨_, HV3.out, HH.out.end hsz.2.2.2.1 hsz.2.2.2.2.1 K1.out.1 K1.out.2 (Seg.refl _ _ _) HS3.out⟩
                  go_wp2
                  all_goals first
                    | (go_end0; exact ⟨rfl, HF.out⟩)
                    | (exfalso; omega)
            · have jd1 : decide ((a : Int) < (s : Int)) = false := decide_eq_false (by omega)
              have hq : a = s := by omega
              have K1 : Hid (Seg a mid (rotF d s m e) (rotF d s m e) ∧ SortedF (dpL l) (rotF d s m e) a mid) := ⟨Seg.refl _ _ _, by have := HH.out.s2; rwa [← hq] at this ⊢⟩
              have HV3 := HV2
              clear hq
              rcases Nat.lt_or_ge mid e with k1 | k1
              · have kd1 : decide ((mid : Int) < (e : Int)) = true := decide_eq_true (by omega)
                rcases Nat.lt_or_ge e b with k2 | k2
                · have kd2 : decide ((e : Int) < (b : Int)) = true := decide_eq_true (by omega)
                  go_wp2_with fail
                  all_goals
                    refine (HIH.out mid e b _ _ hsz.2.1 HV3.out k1 k2 hb (HH.out.s3.out K1.out.1 (.inr (Nat.le_refl _))) (HH.out.s4.out K1.out.1 (.inr hsz.2.2.2.2.2.2)) (HH.out.c2.out K1.out.1 (.inr (Nat.le_refl _)))).mono ?_
                    rintro e' w5 ⟨rfl, d2, hv5, hg5, hk5⟩
                    have HF : Hid (Merged W0 g n Bd bt nt l d a b w5) := ⟨d2, hv5, HH.out.end hsz.2.2.2.1 hsz.2.2.2.2.1 K1.out.1 K1.out.2 hg5 hk5⟩
                    clear hv5 hg5 hk5
                    go_wp2
                    all_goals first
                      | (go_end0; exact ⟨rfl, HF.out⟩)
                      | (exfalso; omega)
                · have kd2 : decide ((e : Int) < (b : Int)) = false := decide_eq_false (by omega)
                  have hq : e = b := by omega
                  have HS3 : Hid (SortedF (dpL l) (rotF d s m e) mid b) := by rw [← hq]; exact HH.out.s3.out K1.out.1 (.inr (Nat.le_refl _))
                  have HF : Hid (Merged W0 g n Bd bt nt l d a b w3) := ⟨_, HV3.out, HH.out.end hsz.2.2.2.1 hsz.2.2.2.2.1 K1.out.1 K1.out.2 (Seg.refl _ _ _) HS3.out⟩
                  go_wp2
                  all_goals first
                    | (go_end0; exact ⟨rfl, HF.out⟩)
                    | (exfalso; omega)
              · have kd1 : decide ((mid : Int) < (e : Int)) = false := decide_eq_false (by omega)
                have hq : mid = e := by omega
                have HS3 : Hid (SortedF (dpL l) (rotF d s m e) mid b) := by rw [hq]; exact HH.out.s4.out K1.out.1 (.inr hsz.2.2.2.2.2.2)
                have HF : Hid (Merged W0 g n Bd bt nt l d a b w3) := ⟨_, HV3.out, HH.out.end hsz.2.2.2.1 hsz.2.2.2.2.1 K1.out.1 K1.out.2 (Seg.refl _ _ _) HS3.out⟩
                go_wp2
                all_goals first
                  | (go_end0; exact ⟨rfl, HF.out⟩)
                  | (exfalso; omega)
        · have id2 : decide ((m : Int) < (e : Int)) = false := decide_eq_false (by omega)
          have HV2 : Hid (Sv W0 g n Bd bt nt l (rotF d s m e) wr) := HV1.out.eq (rotF_id (by omega) hsm hme).symm
          clear HV1
          rcases Nat.lt_or_ge a s with j1 | j1
          · have jd1 : decide ((a : Int) < (s : Int)) = true := decide_eq_true (by omega)
            rcases Nat.lt_or_ge s mid with j2 | j2
            · have jd2 : decide ((s : Int) < (mid : Int)) = true := decide_eq_true (by omega)
              go_wp2_with fail
              all_goals
                refine (HIH.out a s mid _ _ hsz.1 HV2.out j1 j2 hsz.2.2.1 HH.out.s1 HH.out.s2 HH.out.c1).mono ?_
                rintro e' w4 ⟨rfl, d1, hv4, hg4, hk4⟩
                have HV3 : Hid (Sv W0 g n Bd bt nt l d1 w4) := hv4
                have K1 : Hid (Seg a mid (rotF d s m e) d1 ∧ SortedF (dpL l) d1 a mid) := ⟨hg4, hk4⟩
                clear hv4 hg4 hk4 HV2
                rcases Nat.lt_or_ge mid e with k1 | k1
                · have kd1 : decide ((mid : Int) < (e : Int)) = true := decide_eq_true (by omega)
                  rcases Nat.lt_or_ge e b with k2 | k2
                  · have kd2 : decide ((e : Int) < (b : Int)) = true := decide_eq_true (by omega)
                    go_wp2_with fail
                    all_goals
                      refine (HIH.out mid e b _ _ hsz.2.1 HV3.out k1 k2 hb (HH.out.s3.out K1.out.1 (.inr (Nat.le_refl _))) (HH.out.s4.out K1.out.1 (.inr hsz.2.2.2.2.2.2)) (HH.out.c2.out K1.out.1 (.inr (Nat.le_refl _)))).mono ?_
                      rintro e' w5 ⟨rfl, d2, hv5, hg5, hk5⟩
                      have HF : Hid (Merged W0 g n Bd bt nt l d a b w5) := ⟨d2, hv5, HH.out.end hsz.2.2.2.1 hsz.2.2.2.2.1 K1.out.1 K1.out.2 hg5 hk5⟩
                      clear hv5 hg5 hk5
                      go_wp2
                      all_goals first
                        | (go_end0; exact ⟨rfl, HF.out⟩)
                        | (exfalso; omega)
                  · have kd2 : decide ((e : Int) < (b : Int)) = false := decide_eq_false (by omega)
                    have hq : e = b := by omega
                    have HS3 : Hid (SortedF (dpL l) d1 mid b) := by rw [← hq]; exact HH.out.s3.out K1.out.1 (.inr (Nat.le_refl _))
                    have HF : Hid (Merged W0 g n Bd bt nt l d a b w4) := ⟨_, HV3.out, HH.out.end hsz.2.2.2.1 hsz.2.2.2.2.1 K1.out.1 K1.out.2 (Seg.refl _ _ _) HS3.out⟩
                    go_wp2
                    all_goals first
                      | (go_end0; exact ⟨rfl, HF.out⟩)
                      | (exfalso; omega)
                · have kd1 : decide ((mid : Int) < (e : Int)) = false := decide_eq_false (by omega)
                  have hq : mid = e := by omega
                  have HS3 : Hid (SortedF (dpL l) d1 mid b) := by rw [hq]; exact HH.out.s4.out K1.out.1 (.inr hsz.2.2.2.2.2.2)
                  have HF : Hid (Merged W0 g n Bd bt nt l d a b w4) := ⟨_, HV3.out, HH.out.end hsz.2.2.2.1 hsz.2.2.2.2.1 K1.out.1 K1.out.2 (Seg.refl _ _ _) HS3.out⟩
                  go_wp2
                  all_goals first
                    | (go_end0; exact ⟨rfl, HF.out⟩)
                    | (exfalso; omega)
            · have jd2 : decide ((s : Int) < (mid : Int)) = false := decide_eq_false (by omega)
              have hq : s = mid := by omega
              have K1 : Hid (Seg a mid (rotF d s m e) (rotF d s m e) ∧ SortedF (dpL l) (rotF d s m e) a mid) := ⟨Seg.refl _ _ _, by have := HH.out.s1; rwa [hq] at this ⊢⟩
              have HV3 := HV2
              clear hq
              rcases Nat.lt_or_ge mid e with k1 | k1
              · have kd1 : decide ((mid : Int) < (e : Int)) = true := decide_eq_true (by omega)
                rcases Nat.lt_or_ge e b with k2 | k2
                · have kd2 : decide ((e : Int) < (b : Int)) = true := decide_eq_true (by omega)
                  go_wp2_with fail
                  all_goals
                    refine (HIH.out mid e b _ _ hsz.2.1 HV3.out k1 k2 hb (HH.out.s3.out K1.out.1 (.inr (Nat.le_refl _))) (HH.out.s4.out K1.out.1 (.inr hsz.2.2.2.2.2.2)) (HH.out.c2.out K1.out.1 (.inr (Nat.le_refl _)))).mono ?_
                    rintro e' w5 ⟨rfl, d2, hv5, hg5, hk5⟩
                    have HF : Hid (Merged W0 g n Bd bt nt l d a b w5) := ⟨d2, hv5, HH.out.end hsz.2.2.2.1 hsz.2.2.2.2.1 K1.out.1 K1.out.2 hg5 hk5⟩
                    clear hv5 hg5 hk5
                    go_wp2
                    all_goals first
                      | (go_end0; exact ⟨rfl, HF.out⟩)
                      | (exfalso; omega)
                · have kd2 : decide ((e : Int) < (b : Int)) = false := decide_eq_false (by omega)
                  have hq : e = b := by omega
                  have HS3 : Hid (SortedF (dpL l) (rotF d s m e) mid b) := by rw [← hq]; exact HH.out.s3.out K1.out.1 (.inr (Nat.le_refl _))
                  have HF : Hid (Merged W0 g n Bd bt nt l d a b wr) := ⟨_, HV3.out, HH.out.end hsz.2.2.2.1 hsz.2.2.2.2.1 K1.out.1 K1.out.2 (Seg.refl _ _ _) HS3.out⟩
                  go_wp2
                  all_goals first
                    | (go_end0; exact ⟨rfl, HF.out⟩)
                    | (exfalso; omega)
              · have kd1 : decide ((mid : Int) < (e : Int)) = false := decide_eq_false (by omega)
                have hq : mid = e := by omega
                have HS3 : Hid (SortedF (dpL l) (rotF d s m e) mid b) := by rw [hq]; exact HH.out.s4.out K1.out.1 (.inr hsz.2.2.2.2.2.2)
                have HF : Hid (Merged W0 g n Bd bt nt l d a b wr) := ⟨_, HV3.out, HH.out.end hsz.2.2.2.1 hsz.2.2.2.2.1 K1.out.1 K1.out.2 (Seg.refl _ _ _) HS3.out⟩
                go_wp2
                all_goals first
                  | (go_end0; exact ⟨rfl, HF.out⟩)
                  | (exfalso; omega)
          · have jd1 : decide ((a : Int) < (s : Int)) = false := decide_eq_false (by omega)
            have hq : a = s := by omega
            have K1 : Hid (Seg a mid (rotF d s m e) (rotF d s m e) ∧ SortedF (dpL l) (rotF d s m e) a mid) := ⟨Seg.refl _ _ _, by have := HH.out.s2; rwa [← hq] at this ⊢⟩
            have HV3 := HV2
            clear hq
            rcases Nat.lt_or_ge mid e with k1 | k1
            · have kd1 : decide ((mid : Int) < (e : Int)) = true := decide_eq_true (by omega)
              rcases Nat.lt_or_ge e b with k2 | k2
              · have kd2 : decide ((e : Int) < (b : Int)) = true := decide_eq_true (by omega)
                go_wp2_with fail
                all_goals
                  refine (HIH.out mid e b _ _ hsz.2.1 HV3.out k1 k2 hb (HH.out.s3.out K1.out.1 (.inr (Nat.le_refl _))) (HH.out.s4.out K1.out.1 (.inr hsz.2.2.2.2.2.2)) (HH.out.c2.out K1.out.1 (.inr (Nat.le_refl _)))).mono ?_
                  rintro e' w5 ⟨rfl, d2, hv5, hg5, hk5⟩
                  have HF : Hid (Merged W0 g n Bd bt nt l d a b w5) := ⟨d2, hv5, HH.out.end hsz.2.2.2.1 hsz.2.2.2.2.1 K1.out.1 K1.out.2 hg5 hk5⟩
                  clear hv5 hg5 hk5
                  go_wp2
                  all_goals first
                    | (go_end0; exact ⟨rfl, HF.out⟩)
                    | (exfalso; omega)
              · have kd2 : decide ((e : Int) < (b : Int)) = false := decide_eq_false (by omega)
                have hq : e = b := by omega
                have HS3 : Hid (SortedF (dpL l) (rotF d s m e) mid b) := by rw [← hq]; exact HH.out.s3.out K1.out.1 (.inr (Nat.le_refl _))
                have HF : Hid (Merged W0 g n Bd bt nt l d a b wr) := ⟨_, HV3.out, HH.out.end hsz.2.2.2.1 hsz.2.2.2.2.1 K1.out.1 K1.out.2 (Seg.refl _ _ _) HS3.out⟩
                go_wp2
                all_goals first
                  | (go_end0; exact ⟨rfl, HF.out⟩)
                  | (exfalso; omega)
            · have kd1 : decide ((mid : Int) < (e : Int)) = false := decide_eq_false (by omega)
              have hq : mid = e := by omega
              have HS3 : Hid (SortedF (dpL l) (rotF d s m e) mid b) := by rw [hq]; exact HH.out.s4.out K1.out.1 (.inr hsz.2.2.2.2.2.2)
              have HF : Hid (Merged W0 g n Bd bt nt l d a b wr) := ⟨_, HV3.out, HH.out.end hsz.2.2.2.1 hsz.2.2.2.2.1 K1.out.1 K1.out.2 (Seg.refl _ _ _) HS3.out⟩
              go_wp2
              all_goals first
                | (go_end0; exact ⟨rfl, HF.out⟩)
                | (exfalso; omega)
      · have id1 : decide ((s : Int) < (m : Int)) = false := decide_eq_false (by omega)
        have HV2 : Hid (Sv W0 g n Bd bt nt l (rotF d s m e) wr) := HV1.out.eq (rotF_id (by omega) hsm hme).symm
        clear HV1
        rcases Nat.lt_or_ge a s with j1 | j1
        · have jd1 : decide ((a : Int) < (s : Int)) = true := decide_eq_true (by omega)
          rcases Nat.lt_or_ge s mid with j2 | j2
          · have jd2 : decide ((s : Int) < (mid : Int)) = true := decide_eq_true (by omega)
            go_wp2_with fail
            all_goals
              refine (HIH.out a s mid _ _ hsz.1 HV2.out j1 j2 hsz.2.2.1 HH.out.s1 HH.out.s2 HH.out.c1).mono ?_
              rintro e' w4 ⟨rfl, d1, hv4, hg4, hk4⟩
              have HV3 : Hid (Sv W0 g n Bd bt nt l d1 w4) := hv4
              have K1 : Hid (Seg a mid (rotF d s m e) d1 ∧ SortedF (dpL l) d1 a mid) := ⟨hg4, hk4⟩
              clear hv4 hg4 hk4 HV2
              rcases Nat.lt_or_ge mid e with k1 | k1
              · have kd1 : decide ((mid : Int) < (e : Int)) = true := decide_eq_true (by omega)
                rcases Nat.lt_or_ge e b with k2 | k2
                · have kd2 : decide ((e : Int) < (b : Int)) = true := decide_eq_true (by omega)
                  go_wp2_with fail
                  all_goals
                    refine (HIH.out mid e b _ _ hsz.2.1 HV3.out k1 k2 hb (HH.out.s3.out K1.out.1 (.inr (Nat.le_refl _))) (HH.out.s4.out K1.out.1 (.inr hsz.2.2.2.2.2.2)) (HH.out.c2.out K1.out.1 (.inr (Nat.le_refl _)))).mono ?_
                    rintro e' w5 ⟨rfl, d2, hv5, hg5, hk5⟩
                    have HF : Hid (Merged W0 g n Bd bt nt l d a b w5) := ⟨d2, hv5, HH.out.end hsz.2.2.2.1 hsz.2.2.2.2.1 K1.out.1 K1.out.2 hg5 hk5⟩
                    clear hv5 hg5 hk5
                    go_wp2
                    all_goals first
                      | (go_end0; exact ⟨rfl, HF.out⟩)
                      | (exfalso; omega)
                · have kd2 : decide ((e : Int) < (b : Int)) = false := decide_eq_false (by omega)
                  have hq : e = b := by omega
                  have HS3 : Hid (SortedF (dpL l) d1 mid b) := by rw [← hq]; exact HH.out.s3.out K1.out.1 (.inr (Nat.le_refl _))
                  have HF : Hid (Merged W0 g n Bd bt nt l d a b w4) := ⟨_, HV3.out, HH.out.end hsz.2.2.2.1 hsz.2.2.2.2.1 K1.out.1 K1.out.2 (Seg.refl _ _ _) HS3.out⟩
                  go_wp2
                  all_goals first
                    | (go_end0; exact ⟨rfl, HF.out⟩)
                    | (exfalso; omega)
              · have kd1 : decide ((mid : Int) < (e : Int)) = false := decide_eq_false (by omega)
                have hq : mid = e := by omega
                have HS3 : Hid (SortedF (dpL l) d1 mid b) := by rw [hq]; exact HH.out.s4.out K1.out.1 (.inr hsz.2.2.2.2.2.2)
                have HF : Hid (Merged W0 g n Bd bt nt l d a b w4) := ⟨_, HV3.out, HH.out.end hsz.2.2.2.1 hsz.2.2.2.2.1 K1.out.1 K1.out.2 (Seg.refl _ _ _) HS3.out⟩
                go_wp2
                all_goals first
                  | (go_end0; exact ⟨rfl, HF.out⟩)
                  | (exfalso; omega)
          · have jd2 : decide ((s : Int) < (mid : Int)) = false := decide_eq_false (by omega)
            have hq : s = mid := by omega
            have K1 : Hid (Seg a mid (rotF d s m e) (rotF d s m e) ∧ SortedF (dpL l) (rotF d s m e) a mid) := ⟨Seg.refl _ _ _, by have := HH.out.s1; rwa [hq] at this ⊢⟩
            have HV3 := HV2
            clear hq
            rcases Nat.lt_or_ge mid e with k1 | k1
            · have kd1 : decide ((mid : Int) < (e : Int)) = true := decide_eq_true (by omega)
              rcases Nat.lt_or_ge e b with k2 | k2
              · have kd2 : decide ((e : Int) < (b : Int)) = true := decide_eq_true (by omega)
                go_wp2_with fail
                all_goals
                  refine (HIH.out mid e b _ _ hsz.2.1 HV3.out k1 k2 hb (HH.out.s3.out K1.out.1 (.inr (Nat.le_refl _))) (HH.out.s4.out K1.out.1 (.inr hsz.2.2.2.2.2.2)) (HH.out.c2.out K1.out.1 (.inr (Nat.le_refl _)))).mono ?_
                  rintro e' w5 ⟨rfl, d2, hv5, hg5, hk5⟩
                  have HF : Hid (Merged W0 g n Bd bt nt l d a b w5) := ⟨d2, hv5, HH.out.end hsz.2.2.2.1 hsz.2.2.2.2.1 K1.out.1 K1.out.2 hg5 hk5⟩
                  clear hv5 hg5 hk5
                  go_wp2
                  all_goals first
                    | (go_end0; exact ⟨rfl, HF.out⟩)
                    | (exfalso; omega)
              · have kd2 : decide ((e : Int) < (b : Int)) = false := decide_eq_false (by omega)
                have hq : e = b := by omega
                have HS3 : Hid (SortedF (dpL l) (rotF d s m e) mid b) := by rw [← hq]; exact HH.out.s3.out K1.out.1 (.inr (Nat.le_refl _))
                have HF : Hid (Merged W0 g n Bd bt nt l d a b wr) := ⟨_, HV3.out, HH.out.end hsz.2.2.2.1 hsz.2.2.2.2.1 K1.out.1 K1.out.2 (Seg.refl _ _ _) HS3.out⟩
                go_wp2
                all_goals first
                  | (go_end0; exact ⟨rfl, HF.out⟩)
                  | (exfalso; omega)
            · have kd1 : decide ((mid : Int) < (e : Int)) = false := decide_eq_false (by omega)
              have hq : mid = e := by omega
              have HS3 : Hid (SortedF (dpL l) (rotF d s m e) mid b) := by rw [hq]; exact HH.out.s4.out K1.out.1 (.inr hsz.2.2.2.2.2.2)
              have HF : Hid (Merged W0 g n Bd bt nt l d a b wr) := ⟨_, HV3.out, HH.out.end hsz.2.2.2.1 hsz.2.2.2.2.1 K1.out.1 K1.out.2 (Seg.refl _ _ _) HS3.out⟩
              go_wp2
              all_goals first
                | (go_end0; exact ⟨rfl, HF.out⟩)
                | (exfalso; omega)
        · have jd1 : decide ((a : Int) < (s : Int)) = false := decide_eq_false (by omega)
          have hq : a = s := by omega
          have K1 : Hid (Seg a mid (rotF d s m e) (rotF d s m e) ∧ SortedF (dpL l) (rotF d s m e) a mid) := ⟨Seg.refl _ _ _, by have := HH.out.s2; rwa [← hq] at this ⊢⟩
          have HV3 := HV2
          clear hq
          rcases Nat.lt_or_ge mid e with k1 | k1
          · have kd1 : decide ((mid : Int) < (e : Int)) = true := decide_eq_true (by omega)
            rcases Nat.lt_or_ge e b with k2 | k2
            · have kd2 : decide ((e : Int) < (b : Int)) = true := decide_eq_true (by omega)
              go_wp2_with fail
              all_goals
                refine (HIH.out mid e b _ _ hsz.2.1 HV3.out k1 k2 hb (HH.out.s3.out K1.out.1 (.inr (Nat.le_refl _))) (HH.out.s4.out K1.out.1 (.inr hsz.2.2.2.2.2.2)) (HH.out.c2.out K1.out.1 (.inr (Nat.le_refl _)))).mono ?_
                rintro e' w5 ⟨rfl, d2, hv5, hg5, hk5⟩
                have HF : Hid (Merged W0 g n Bd bt nt l d a b w5) := ⟨d2, hv5, HH.out.end hsz.2.2.2.1 hsz.2.2.2.2.1 K1.out.1 K1.out.2 hg5 hk5⟩
                clear hv5 hg5 hk5
                go_wp2
                all_goals first
                  | (go_end0; exact ⟨rfl, HF.out⟩)
                  | (exfalso; omega)
            · have kd2 : decide ((e : Int) < (b : Int)) = false := decide_eq_false (by omega)
              have hq : e = b := by omega
              have HS3 : Hid (SortedF (dpL l) (rotF d s m e) mid b) := by rw [← hq]; exact HH.out.s3.out K1.out.1 (.inr (Nat.le_refl _))
              have HF : Hid (Merged W0 g n Bd bt nt l d a b wr) := ⟨_, HV3.out, HH.out.end hsz.2.2.2.1 hsz.2.2.2.2.1 K1.out.1 K1.out.2 (Seg.refl _ _ _) HS3.out⟩
              go_wp2
              all_goals first
                | (go_end0; exact ⟨rfl, HF.out⟩)
                | (exfalso; omega)
          · have kd1 : decide ((mid : Int) < (e : Int)) = false := decide_eq_false (by omega)
            have hq : mid = e := by omega
            have HS3 : Hid (SortedF (dpL l) (rotF d s m e) mid b) := by rw [hq]; exact HH.out.s4.out K1.out.1 (.inr hsz.2.2.2.2.2.2)
            have HF : Hid (Merged W0 g n Bd bt nt l d a b wr) := ⟨_, HV3.out, HH.out.end hsz.2.2.2.1 hsz.2.2.2.2.1 K1.out.1 K1.out.2 (Seg.refl _ _ _) HS3.out⟩
            go_wp2
            all_goals first
              | (go_end0; exact ⟨rfl, HF.out⟩)
              | (exfalso; omega)
end Go.Proofs.YtobkinocaomcmaaGreat
