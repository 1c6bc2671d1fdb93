/- symMerge: two neighbouring sorted parts of a row merged in their place. A row of at most sixty numbers, rising, sorted by the other number of each. -/
import Derived.Test.YtobkinocaomcmaaGreatZSsSymA
import Derived.Test.YtobkinocaomcmaaGreatZSsSymB
import Derived.Test.YtobkinocaomcmaaGreatZSsSymR
namespace Go.Proofs.YtobkinocaomcmaaGreat
open Go.RowKit

variable {W0 : World} {g n Bd bt nt : Nat} {l : List (Int × Int)}
theorem symm_row (cap : Nat) (hn : n ≤ 1000000) : ∀ (s a m b : Nat) (d : Nat → Int) (W : World), b - a ≤ s → Sv W0 g n Bd bt nt l d W → a < m → m < b → b ≤ n → SortedF (dpL l) d a m → SortedF (dpL l) d m b → CrossF d a m b →
    Calls Tryz.prog 140 #[.slice (some ⟨g, 0, none⟩) n cap, .int .i64 a, .int .i64 m, .int .i64 b, cmpFn Bd] W fun e w' => e = .returned (.tuple #[]) ∧ Merged W0 g n Bd bt nt l d a b w'
  | 0, a, m, b, d, W, hs, _, h1, h2, _, _, _, _ => by omega
  | s + 1, a, m, b, d, W, hs, h, ham, hmb, hb, q1, q2, qc => by
    by_cases c1 : m = a + 1
    · exact symm_left a m b cap W h c1 hmb hb hn q2 qc
    · by_cases c2 : b = m + 1
      · exact symm_right a m b cap W h c2 ham c1 hb hn q1 qc
      · have IH : ∀ (a' m' b' : Nat) (d' : Nat → Int) (W' : World), b' - a' < b - a → Sv W0 g n Bd bt nt l d' W' → a' < m' → m' < b' → b' ≤ n → SortedF (dpL l) d' a' m' → SortedF (dpL l) d' m' b' → CrossF d' a' m' b' →
            Calls Tryz.prog 140 #[.slice (some ⟨g, 0, none⟩) n cap, .int .i64 a', .int .i64 m', .int .i64 b', cmpFn Bd] W' fun e w' => e = .returned (.tuple #[]) ∧ Merged W0 g n Bd bt nt l d' a' b' w' :=
          fun a' m' b' d' W' hlt k1 k2 k3 k4 k5 k6 k7 => symm_row cap hn s a' m' b' d' W' (by omega) k1 k2 k3 k4 k5 k6 k7
        by_cases c3 : (a + b) / 2 < m
        · exact symm_genA a m b cap W h ham hmb c2 hb hn q1 q2 qc c3 IH
        · exact symm_genB a m b cap W h ham hmb c1 c2 hb hn q1 q2 qc c3 IH
theorem symm_rowZ (cap : Nat) (hn : n ≤ 1000000) (za zm zb : Int) (a m b : Nat) (e1 : za = a) (e2 : zm = m) (e3 : zb = b) (d : Nat → Int) (W : World) (h : Sv W0 g n Bd bt nt l d W) (ham : a < m) (hmb : m < b) (hb : b ≤ n) (h1 : SortedF (dpL l) d a m) (h2 : SortedF (dpL l) d m b) (hc : CrossF d a m b) :
    Calls Tryz.prog 140 #[.slice (some ⟨g, 0, none⟩) n cap, .int .i64 za, .int .i64 zm, .int .i64 zb, cmpFn Bd] W fun e w' => e = .returned (.tuple #[]) ∧ Merged W0 g n Bd bt nt l d a b w' := by
  subst e1 e2 e3
  exact symm_row cap hn (b - a) a m b d W (Nat.le_refl _) h ham hmb hb h1 h2 hc
end Go.Proofs.YtobkinocaomcmaaGreat
namespace Go.Proofs.YtobkinocaomcmaaGreat
open Go.RowKit

/-- Sorted in blocks of s, each of the numbers that stood in it. -/
structure SB (dp : Int → Int) (s n : Nat) (d0 d : Nat → Int) : Prop where
  srt : ∀ p q, p < q → q < n → p / s = q / s → Lx dp (d p) (d q)
  old : ∀ p, p < n → ∃ q, q < n ∧ q / s = p / s ∧ d p = d0 q
  all : ∀ q, q < n → ∃ p, p < n ∧ p / s = q / s ∧ d p = d0 q
/-- So far as k blocks of twenty. -/
structure S20 (dp : Int → Int) (n : Nat) (d0 d : Nat → Int) (k : Nat) : Prop where
  srt : ∀ p q, p < q → q < 20 * k → p / 20 = q / 20 → Lx dp (d p) (d q)
  old : ∀ p, p < 20 * k → ∃ q, q < 20 * k ∧ q / 20 = p / 20 ∧ d p = d0 q
  all : ∀ q, q < 20 * k → ∃ p, p < 20 * k ∧ p / 20 = q / 20 ∧ d p = d0 q
  rest : ∀ p, 20 * k ≤ p → d p = d0 p
theorem S20.next {dp : Int → Int} {n : Nat} {d0 d d' : Nat → Int} {k : Nat} (h : S20 dp n d0 d k) (hg : Seg (20 * k) (20 * k + 20) d d') (hs : SortedF dp d' (20 * k) (20 * k + 20)) : S20 dp n d0 d' (k + 1) := by
  refine ⟨fun p q h1 h2 h3 => ?_, fun p h1 => ?_, fun q h1 => ?_, fun p h1 => ?_⟩
  · by_cases c : q < 20 * k
    · rw [hg.out p (.inl (by omega)), hg.out q (.inl c)]
      exact h.srt p q h1 c h3
    · exact hs p q (by omega) h1 (by omega)
  · by_cases c : p < 20 * k
    · obtain ⟨q, q1, q2, q3⟩ := h.old p c
      exact ⟨q, by omega, q2, by rw [hg.out p (.inl c)]; exact q3⟩
    · obtain ⟨q, q1, q2, q3⟩ := hg.old p (by omega) (by omega)
      exact ⟨q, by omega, by omega, q3.trans (h.rest q q1)⟩
  · by_cases c : q < 20 * k
    · obtain ⟨p, p1, p2, p3⟩ := h.all q c
      exact ⟨p, by omega, p2, by rw [hg.out p (.inl p1)]; exact p3⟩
    · obtain ⟨p, p1, p2, p3⟩ := hg.all q (by omega) (by omega)
      exact ⟨p, by omega, by omega, p3.trans (h.rest q (by omega))⟩
  · rw [hg.out p (.inr (by omega))]
    exact h.rest p (by omega)
/-- The last block, which may be a short one. -/
theorem S20.end {dp : Int → Int} {n : Nat} {d0 d d' : Nat → Int} {k : Nat} (h : S20 dp n d0 d k) (hk : 20 * k ≤ n) (hkn : n < 20 * k + 20) (hg : Seg (20 * k) n d d') (hs : SortedF dp d' (20 * k) n) : SB dp 20 n d0 d' := by
  refine ⟨fun p q h1 h2 h3 => ?_, fun p h1 => ?_, fun q h1 => ?_⟩
  · by_cases c : q < 20 * k
    · rw [hg.out p (.inl (by omega)), hg.out q (.inl c)]
      exact h.srt p q h1 c h3
    · exact hs p q (by omega) h1 (by omega)
  · by_cases c : p < 20 * k
    · obtain ⟨q, q1, q2, q3⟩ := h.old p c
      exact ⟨q, by omega, q2, by rw [hg.out p (.inl c)]; exact q3⟩
    · obtain ⟨q, q1, q2, q3⟩ := hg.old p (by omega) (by omega)
      exact ⟨q, by omega, by omega, q3.trans (h.rest q q1)⟩
  · by_cases c : q < 20 * k
    · obtain ⟨p, p1, p2, p3⟩ := h.all q c
      exact ⟨p, by omega, p2, by rw [hg.out p (.inl p1)]; exact p3⟩
    · obtain ⟨p, p1, p2, p3⟩ := hg.all q (by omega) (by omega)
      exact ⟨p, by omega, by omega, p3.trans (h.rest q (by omega))⟩
/-- The first two blocks merged. -/
theorem SB.merge {dp : Int → Int} {s n hi : Nat} {d0 d d' : Nat → Int} (h : SB dp s n d0 d) (hs : (s = 20 ∧ (hi = 40 ∨ (hi = n ∧ n ≤ 40))) ∨ (s = 40 ∧ hi = n)) (hn : n ≤ 60) (hh : hi ≤ n) (hg : Seg 0 hi d d') (hk : SortedF dp d' 0 hi) : SB dp (2 * s) n d0 d' := by
  refine ⟨fun p q h1 h2 h3 => ?_, fun p h1 => ?_, fun q h1 => ?_⟩
  · by_cases c : q < hi
    · exact hk p q (Nat.zero_le _) h1 c
    · have hp : hi ≤ p := by rcases hs with ⟨rfl, c2 | c2⟩ | ⟨rfl, c2⟩ <;> omega
      rw [hg.out p (.inr hp), hg.out q (.inr (by omega))]
      exact h.srt p q h1 h2 (by rcases hs with ⟨rfl, c2 | c2⟩ | ⟨rfl, c2⟩ <;> omega)
  · by_cases c : p < hi
    · obtain ⟨i, i1, i2, i3⟩ := hg.old p (Nat.zero_le _) c
      obtain ⟨q, q1, q2, q3⟩ := h.old i (by omega)
      exact ⟨q, q1, by rcases hs with ⟨rfl, c2 | c2⟩ | ⟨rfl, c2⟩ <;> omega, i3.trans q3⟩
    · obtain ⟨q, q1, q2, q3⟩ := h.old p h1
      exact ⟨q, q1, by rcases hs with ⟨rfl, c2 | c2⟩ | ⟨rfl, c2⟩ <;> omega, by rw [hg.out p (.inr (by omega))]; exact q3⟩
  · obtain ⟨i, i1, i2, i3⟩ := h.all q h1
    by_cases c : i < hi
    · obtain ⟨p, p1, p2, p3⟩ := hg.all i (Nat.zero_le _) c
      exact ⟨p, by omega, by rcases hs with ⟨rfl, c2 | c2⟩ | ⟨rfl, c2⟩ <;> omega, p3.trans i3⟩
    · exact ⟨i, i1, by rcases hs with ⟨rfl, c2 | c2⟩ | ⟨rfl, c2⟩ <;> omega, by rw [hg.out i (.inr (by omega))]; exact i3⟩
theorem SB.cross {dp : Int → Int} {s n hi : Nat} {d0 d : Nat → Int} (h : SB dp s n d0 d) (hs : s = 20 ∨ s = 40) (hr : ∀ i j, i < j → j < n → d0 i < d0 j) (hh : hi ≤ n) : CrossF d 0 s hi := fun i j _ i2 j1 j2 => by
  obtain ⟨p, p1, p2, p3⟩ := h.old i (by rcases hs with rfl | rfl <;> omega)
  obtain ⟨q, q1, q2, q3⟩ := h.old j (by omega)
  rw [p3, q3]
  exact hr p q (by rcases hs with rfl | rfl <;> omega) q1
theorem SB.low {dp : Int → Int} {s n : Nat} {d0 d : Nat → Int} (h : SB dp s n d0 d) (hs : s = 20 ∨ s = 40) (hn : s ≤ n) : SortedF dp d 0 s := fun i j _ i2 j2 => h.srt i j i2 (by omega) (by rcases hs with rfl | rfl <;> omega)
theorem SB.high {dp : Int → Int} {s n hi : Nat} {d0 d : Nat → Int} (h : SB dp s n d0 d) (hs : (s = 20 ∧ hi ≤ 40) ∨ s = 40) (hn : n ≤ 60) (hh : hi ≤ n) : SortedF dp d s hi := fun i j i1 i2 j2 => h.srt i j i2 (by omega) (by rcases hs with ⟨rfl, c⟩ | rfl <;> omega)
/-- What a sorting leaves: the same numbers, sorted. -/
structure SDone (dp : Int → Int) (n : Nat) (d0 d : Nat → Int) : Prop where
  srt : SortedF dp d 0 n
  old : ∀ p, p < n → ∃ q, q < n ∧ d p = d0 q
  all : ∀ q, q < n → ∃ p, p < n ∧ d p = d0 q
theorem SB.done {dp : Int → Int} {s n : Nat} {d0 d : Nat → Int} (h : SB dp s n d0 d) (hs : s = 20 ∨ s = 40 ∨ s = 80) (hn : n ≤ s) : SDone dp n d0 d :=
  ⟨fun i j _ h1 h2 => h.srt i j h1 h2 (by rcases hs with rfl | rfl | rfl <;> omega), fun p hp => by
    obtain ⟨q, q1, _, q3⟩ := h.old p hp
    exact ⟨q, q1, q3⟩, fun q hq => by
    obtain ⟨p, p1, _, p3⟩ := h.all q hq
    exact ⟨p, p1, p3⟩⟩
variable {W0 : World} {g n Bd bt nt : Nat} {l : List (Int × Int)} {d : Nat → Int}
set_option maxHeartbeats 8000000 in
set_option maxRecDepth 100000 in
theorem stable_row (cap : Nat) (W : World) (h : Sv W0 g n Bd bt nt l d W) (hn : n ≤ 60) (hr : ∀ i j, i < j → j < n → d i < d j) :
    Calls Tryz.prog 130 #[.slice (some ⟨g, 0, none⟩) n cap, .int .i64 n, cmpFn Bd] W fun e w' => e = .returned (.tuple #[]) ∧ ∃ d', Sv W0 g n Bd bt nt l d' w' ∧ SDone (dpL l) n d d' := by
  have H : Hid (Sv W0 g n Bd bt nt l d W ∧ S20 (dpL l) n d d 0) := ⟨h, fun p q h1 h2 => by omega, fun p h1 => by omega, fun q h1 => by omega, fun _ _ => rfl⟩
  have HR : Hid (∀ i j, i < j → j < n → d i < d j) := hr
  clear h hr
  go_enter Tryz.func130, Tryz.ntmps130
  go_wp2
  go_loopw [7, 8] (fun aa bb wr => ∃ (k A B : Nat) (d1 : Nat → Int), aa = .int .i64 A ∧ bb = .int .i64 B ∧ Hid (20 * k ≤ n ∧ A = 20 * k ∧ B = 20 * k + 20) ∧ Hid (Sv W0 g n Bd bt nt l d1 wr ∧ S20 (dpL l) n d d1 k)) (fun aa _ _ => n + 20 - (intOf aa).toNat)
  case atStart => exact ⟨0, 0, 20, d, rfl, rfl, ⟨Nat.zero_le _, rfl, rfl⟩, H.out⟩
  case round =>
    obtain ⟨k, A, B, d1, rfl, rfl, HAB, HS⟩ := hrel
    have hkn := HAB.out.1
    have HA : Hid (A = 20 * k) := HAB.out.2.1
    have HB : Hid (B = 20 * k + 20) := HAB.out.2.2
    have hAn : A ≤ n := by rw [HA.out]; exact hkn
    have hAB : B = A + 20 := by rw [HA.out, HB.out]
    clear hkn
    have HRI : Hid (∀ i j, A ≤ i → i < j → j < n → d1 i < d1 j) := fun i j h1 h2 h3 => by
      rw [HS.out.2.rest i (by rw [← HA.out]; exact h1), HS.out.2.rest j (by rw [← HA.out]; omega)]
      exact HR.out i j h2 h3
    by_cases hlt : B ≤ n
    · have hd1 : decide ((B : Int) ≤ (n : Int)) = true := decide_eq_true (by omega)
      have HNX : Hid (∀ d' W, Sv W0 g n Bd bt nt l d' W → Seg A B d1 d' → SortedF (dpL l) d' A B → Sv W0 g n Bd bt nt l d' W ∧ S20 (dpL l) n d d' (k + 1)) := fun d' W h1 h2 h3 => by
        rw [HA.out, HB.out] at h2 h3
        exact ⟨h1, HS.out.2.next h2 h3⟩
      have hsv := HS.out.1
      have hAn2 : A < n := by omega
      have hB2 : B = 20 * (k + 1) := by rw [HB.out]; omega
      have HG : Hid (n + 20 - B < n + 20 - A ∧ 20 * (k + 1) ≤ n ∧ B = 20 * (k + 1) ∧ B + 20 = 20 * (k + 1) + 20) := ⟨by omega, by omega, hB2, by omega⟩
      clear HS hB2 hAB
      go_wp2_with fail
      refine (insertion_row A B cap _ hsv hlt (by omega) hAn (fun i j h1 h2 h3 => HRI.out i j h1 h2 (by omega))).mono ?_
      rintro e w2 ⟨rfl, d2, hv2, hg2, hs2⟩
      have HN : Hid (Sv W0 g n Bd bt nt l d2 w2 ∧ S20 (dpL l) n d d2 (k + 1)) := HNX.out d2 w2 hv2 hg2 hs2
      clear hv2 hg2 hs2 hsv HNX HRI HAB HA HB
      go_wp2
      go_roundw
      case rel => exact ⟨k + 1, B, B + 20, d2, rfl, by go_num, HG.out.2, HN.out⟩
      case measure => simpa [intOf] using HG.out.1
    · have hd1 : decide ((B : Int) ≤ (n : Int)) = false := decide_eq_false (by omega)
      have HNX : Hid (∀ d' W, Sv W0 g n Bd bt nt l d' W → Seg A n d1 d' → SortedF (dpL l) d' A n → Sv W0 g n Bd bt nt l d' W ∧ SB (dpL l) 20 n d d') := fun d' W h1 h2 h3 => by
        rw [HA.out] at h2 h3
        exact ⟨h1, HS.out.2.end HAB.out.1 (by have := HB.out; omega) h2 h3⟩
      have hsv := HS.out.1
      clear HS hAB
      go_wp2_with fail
      refine (insertion_row A n cap _ hsv (Nat.le_refl _) (by omega) hAn (fun i j h1 h2 h3 => HRI.out i j h1 h2 h3)).mono ?_
      rintro e w2 ⟨rfl, d2, hv2, hg2, hs2⟩
      have HN : Hid (Sv W0 g n Bd bt nt l d2 w2 ∧ SB (dpL l) 20 n d d2) := HNX.out d2 w2 hv2 hg2 hs2
      clear hv2 hg2 hs2 hsv HNX HRI hAn HA HB HAB hd1 hlt
      go_wp2
      go_loopw [6] (fun ss wr => ∃ (s : Nat) (d3 : Nat → Int), (s = 20 ∨ s = 40 ∨ s = 80) ∧ ss = .int .i64 s ∧ Hid (Sv W0 g n Bd bt nt l d3 wr ∧ SB (dpL l) s n d d3)) (fun ss _ => 100 - (intOf ss).toNat)
      case atStart => exact ⟨20, d2, .inl rfl, rfl, HN.out⟩
      case round =>
        obtain ⟨s, d3, hs, rfl, HV⟩ := hrel
        by_cases hsn : s < n
        · have hs2 : s = 20 ∨ s = 40 := by omega
          have hd2 : decide ((s : Int) < (n : Int)) = true := decide_eq_true (by omega)
          obtain ⟨S2, HS2⟩ : ∃ q : Nat, Hid (q = 2 * s) := ⟨2 * s, (rfl : 2 * s = _)⟩
          have hS2 := HS2.out
          have hse : (2 : Int) * (s : Int) = (S2 : Int) := by omega
          have HSE : Hid ((s : Int) * 2 = (S2 : Int)) := by unfold Hid; omega
          have HH : Hid ((s = 20 ∧ S2 = 40) ∨ (s = 40 ∧ S2 = 80)) := by unfold Hid; omega
          have hs40 : s ≤ 40 := by omega
          have hS80 : S2 ≤ 80 := by omega
          have h100 : 100 - S2 < 100 - s ∧ (S2 = 20 ∨ S2 = 40 ∨ S2 = 80) := ⟨by omega, by omega⟩
          have HV0 : Hid (Sv W0 g n Bd bt nt l d3 wr ∧ SB (dpL l) s n d d3) := HV.out
          have HS3 : Hid (s = 20 ∨ s = 40) := hs2
          have H100 : Hid (100 - S2 < 100 - s ∧ (S2 = 20 ∨ S2 = 40 ∨ S2 = 80)) := h100
          clear HV hS2 hs hs2 h100
          go_wp2
          go_loopw [7, 8] (fun aa bb wr => ∃ (a b : Nat) (d4 : Nat → Int), aa = .int .i64 a ∧ bb = .int .i64 b ∧ Hid ((a = 0 ∧ b = S2 ∧ Sv W0 g n Bd bt nt l d4 wr ∧ SB (dpL l) s n d d4) ∨ (a = S2 ∧ b = S2 + S2 ∧ s = 20 ∧ 40 ≤ n ∧ Sv W0 g n Bd bt nt l d4 wr ∧ SB (dpL l) 40 n d d4))) (fun aa _ _ => 1000 - (intOf aa).toNat)
          case atStart => exact ⟨0, S2, d3, rfl, rfl, .inl ⟨rfl, rfl, HV0.out.1, HV0.out.2⟩⟩
          case round =>
            obtain ⟨a, b, d4, rfl, rfl, HV⟩ := hrel
            have ha200 : a ≤ 200 := by have := HH.out; rcases HV.out with c | c <;> omega
            have hb200 : b ≤ 200 := by have := HH.out; rcases HV.out with c | c <;> omega
            rcases HV.out with ⟨ha, hb, hv, hsb⟩ | ⟨ha, hb, hq20, hq40, hv, hsb⟩
            · by_cases hbn : b ≤ n
              · have hd3 : decide ((b : Int) ≤ (n : Int)) = true := decide_eq_true (by omega)
                have hq : s = 20 ∧ S2 = 40 := by have := HH.out; omega
                have HNX : Hid (∀ d' W, Sv W0 g n Bd bt nt l d' W → Seg a b d4 d' → SortedF (dpL l) d' a b → Sv W0 g n Bd bt nt l d' W ∧ SB (dpL l) 40 n d d') := fun d' W q1 q2 q3 => by
                  subst ha hb
                  rw [hq.2] at q2 q3
                  have := hsb.merge (.inl ⟨hq.1, .inl rfl⟩) hn (by omega) q2 q3
                  rw [hq.1] at this
                  exact ⟨q1, this⟩
                have HP : Hid (SortedF (dpL l) d4 a s ∧ SortedF (dpL l) d4 s b ∧ CrossF d4 a s b) := by
                  subst ha hb
                  exact ⟨hsb.low (.inl hq.1) (by omega), hsb.high (.inl ⟨hq.1, by omega⟩) hn hbn, hsb.cross (.inl hq.1) HR.out hbn⟩
                have hgo : a < s ∧ s < b ∧ (a : Int) + (s : Int) = (s : Int) ∧ 1000 - b < 1000 - a ∧ s = 20 ∧ 40 ≤ n ∧ b = S2 := ⟨by omega, by omega, by omega, by omega, hq.1, by omega, hb⟩
                have HGO0 : Hid (a < s ∧ s < b ∧ (a : Int) + (s : Int) = (s : Int) ∧ 1000 - b < 1000 - a ∧ s = 20 ∧ 40 ≤ n ∧ b = S2) := hgo
                have HBN : Hid (b ≤ n) := hbn
                clear HV hsb ha hb hq hgo
                go_wp2_with fail
                refine (symm_rowZ cap (by omega) _ _ _ a s b rfl HGO0.out.2.2.1 rfl d4 _ hv HGO0.out.1 HGO0.out.2.1 HBN.out HP.out.1 HP.out.2.1 HP.out.2.2).mono ?_
                rintro e w4 ⟨rfl, d5, hv5, hg5, hk5⟩
                have HN5 : Hid (Sv W0 g n Bd bt nt l d5 w4 ∧ SB (dpL l) 40 n d d5) := HNX.out d5 w4 hv5 hg5 hk5
                have HGO : Hid (1000 - b < 1000 - a ∧ s = 20 ∧ 40 ≤ n ∧ b = S2) := ⟨HGO0.out.2.2.2.1, HGO0.out.2.2.2.2.1, HGO0.out.2.2.2.2.2.1, HGO0.out.2.2.2.2.2.2⟩
                clear hv5 hg5 hk5 hv HNX HP
                go_wp2
                go_roundw
                case rel => exact ⟨b, b + S2, d5, rfl, by go_num, .inr ⟨HGO.out.2.2.2, by rw [HGO.out.2.2.2], HGO.out.2.1, HGO.out.2.2.1, HN5.out.1, HN5.out.2⟩⟩
                case measure => simpa [intOf] using HGO.out.1
              · have hd3 : decide ((b : Int) ≤ (n : Int)) = false := decide_eq_false (by omega)
                have hd5 : (a : Int) + (s : Int) < (n : Int) := by omega
                have hd4 : decide ((a : Int) + (s : Int) < (n : Int)) = true := decide_eq_true hd5
                have HNX : Hid (∀ d' W, Sv W0 g n Bd bt nt l d' W → Seg a n d4 d' → SortedF (dpL l) d' a n → Sv W0 g n Bd bt nt l d' W ∧ SB (dpL l) S2 n d d') := fun d' W q1 q2 q3 => by
                  subst ha
                  have := hsb.merge (hi := n) (by rcases HH.out with ⟨c1, c2⟩ | ⟨c1, c2⟩; exact .inl ⟨c1, .inr ⟨rfl, by omega⟩⟩; exact .inr ⟨c1, rfl⟩) hn (Nat.le_refl _) q2 q3
                  rw [← HS2.out] at this
                  exact ⟨q1, this⟩
                have HP : Hid (SortedF (dpL l) d4 a s ∧ SortedF (dpL l) d4 s n ∧ CrossF d4 a s n) := by
                  subst ha
                  exact ⟨hsb.low HS3.out (by omega), hsb.high (by rcases HH.out with ⟨c1, c2⟩ | ⟨c1, c2⟩; exact .inl ⟨c1, by omega⟩; exact .inr c1) hn (Nat.le_refl _), hsb.cross HS3.out HR.out (Nat.le_refl _)⟩
                have HAS : Hid (a < s ∧ (a : Int) + (s : Int) = (s : Int)) := ⟨by omega, by omega⟩
                clear HV hsb ha hb
                go_wp2_with fail
                refine (symm_rowZ cap (by omega) _ _ _ a s n rfl HAS.out.2 rfl d4 _ hv HAS.out.1 hsn (Nat.le_refl _) HP.out.1 HP.out.2.1 HP.out.2.2).mono ?_
                rintro e w4 ⟨rfl, d5, hv5, hg5, hk5⟩
                have HN5 : Hid (Sv W0 g n Bd bt nt l d5 w4 ∧ SB (dpL l) S2 n d d5) := HNX.out d5 w4 hv5 hg5 hk5
                clear hv5 hg5 hk5 hv HNX HP
                go_wp2
                go_roundw
                case rel => exact ⟨S2, d5, H100.out.2, by have := HSE.out; congr 1, HN5.out⟩
                case measure => have h1 := HSE.out; have h2 := H100.out.1; simp [intOf]; omega
            · have hbn : ¬ b ≤ n := by have := HH.out; omega
              have hd3 : decide ((b : Int) ≤ (n : Int)) = false := decide_eq_false (by omega)
              obtain ⟨mm, HMM⟩ : ∃ q : Nat, Hid (q = a + s) := ⟨a + s, (rfl : a + s = _)⟩
              have hmm := HMM.out
              have hame : (a : Int) + (s : Int) = (mm : Int) := by omega
              have hd5 : ¬ mm < n := by have := HH.out; omega
              have hd4 : decide ((mm : Int) < (n : Int)) = false := decide_eq_false (by omega)
              clear hmm
              have HN5 : Hid (Sv W0 g n Bd bt nt l d4 wr ∧ SB (dpL l) S2 n d d4) := ⟨hv, by have h1 := HH.out; rw [show S2 = 40 by omega]; exact hsb⟩
              clear HV hsb ha hb hq20 hq40 hv
              go_wp2
              go_roundw
              case rel => exact ⟨S2, d4, H100.out.2, by have := HSE.out; congr 1, HN5.out⟩
              case measure => have h1 := HSE.out; have h2 := H100.out.1; simp [intOf]; omega
        · have hd2 : decide ((s : Int) < (n : Int)) = false := decide_eq_false (by omega)
          have HF : Hid (∃ d', Sv W0 g n Bd bt nt l d' wr ∧ SDone (dpL l) n d d') := ⟨d3, HV.out.1, HV.out.2.done hs (by omega)⟩
          clear HV
          go_wp2
          go_end0
          exact ⟨rfl, HF.out⟩
end Go.Proofs.YtobkinocaomcmaaGreat
