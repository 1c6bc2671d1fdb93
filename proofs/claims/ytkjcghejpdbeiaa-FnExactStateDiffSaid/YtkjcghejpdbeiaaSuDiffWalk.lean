/- The law on StateDiff walked. -/
import Derived.Test.YtkjcghejpdbeiaaSuDiff2
import Derived.Test.YtkjcghejpdbeiaaSuMark
import Derived.Test.YtkjcghejpdbeiaaStOpen
namespace Go.Proofs.Ytkjcghejpdbeiaa
open Go.RowKit

theorem EnsOwn.lt2 {w : World} {base : Nat} {v : Value} {xs : List En} (h : EnsOwn w base v xs) : ∀ g, v.ownBlock = some g → base ≤ g ∧ g < w.heap.size := by
  intro g hg
  rcases h.2 with ⟨rfl, _⟩ | ⟨q, cap, cur, rfl, h2, h3, _⟩
  · cases hg
  · have e2 : q = g := by simpa [Value.ownBlock] using hg
    subst e2
    exact ⟨h2, (Array.getElem?_eq_some_iff.1 h3).1⟩
theorem EnsOwn.ensAt2 {w : World} {base n k : Nat} {a : Option Addr} {xs : List En} (h : EnsOwn w base (.slice a n k) xs) (hl : xs.length ≤ 1048576) : EnsAt w a xs := by
  obtain ⟨a', c', e, _, h1, _⟩ := h.at hl
  cases e
  exact h1
theorem EnsAt.only {w w' : World} {b g : Nat} {xs : List En} (h : EnsAt w (some ⟨g, 0, none⟩) xs) (ho : OnlyB b w w') (hne : g ≠ b) : EnsAt w' (some ⟨g, 0, none⟩) xs := by
  refine ⟨h.len, fun hp => ?_⟩
  obtain ⟨b', off, ha, hb, hc⟩ := h.row hp
  cases ha
  exact ⟨g, 0, rfl, by rw [ho.size]; exact hb, fun i hi j hj => (World.cell?_of_block (a := ⟨g, 0 + (i * 3 + j), none⟩) (ho.block g hne)).trans (hc i hi j hj)⟩
theorem Spot.only {w w' : World} {b g n : Nat} (h : Spot w (some ⟨g, 0, none⟩) n) (ho : OnlyB b w w') (hne : g ≠ b) : Spot w' (some ⟨g, 0, none⟩) n := by
  rcases h with h0 | ⟨b', ha, hlt, hc, hf⟩
  · exact .inl h0
  · cases ha
    exact .inr ⟨g, rfl, by rw [ho.size]; exact hlt, fun q hq => by rw [World.cell?_of_block (a := ⟨g, q, none⟩) (ho.block g hne)]; exact hc q hq, fun q => by rw [World.frozen?_of_block (a := ⟨g, q, none⟩) (ho.block g hne)]; exact hf q⟩
/-- What the law holds: a row of the specification's. -/
structure LD (w : World) (L : List En) (a6 : Option Addr) (c6 : Nat) (V : World) : Prop where
  below : Below w.heap.size w V
  o6 : EnsOwn V 0 (.slice a6 L.length c6) L
theorem LD.on {w : World} {L : List En} {a6 : Option Addr} {c6 : Nat} {V V' : World} (h : LD w L a6 c6 V) (hb : Below V.heap.size V V') : LD w L a6 c6 V' := ⟨h.below.trans (hb.mono h.below.size), h.o6.kept hb⟩
theorem LD.only {w : World} {L : List En} {a6 : Option Addr} {c6 : Nat} {V V' : World} (h : LD w L a6 c6 V) {b : Nat} (ho : OnlyB b V V') (h0 : w.heap.size ≤ b) (h7 : (Value.slice a6 L.length c6).ownBlock ≠ some b) : LD w L a6 c6 V' := ⟨h.below.trans (ho.below h0), ho.ens h.o6 h7⟩
set_option maxHeartbeats 8000000 in
set_option maxRecDepth 100000 in
theorem walk_fnExactStateDiff_gr (xs : List En) (a : Option Addr) (cap : Nat) (ds : List En) (d : Option Addr) (cd : Nat) (w : World) (h : EnsRaw w a xs) (hd : EnsRaw w d ds) :
    Calls Try.prog 5 #[.slice a xs.length cap, .slice d ds.length cd] w fun e w' => e = .returned (.bool true) ∧ Below w.heap.size w w' := by
  have hl := h.len
  have hld := hd.len
  by_cases hs : (xs.length : Int) ≤ 1048576
  · obtain ⟨L1, HL1⟩ : ∃ L : Int, Hid (L = szN xs.length 1048576) := ⟨szN xs.length 1048576, (rfl : (szN xs.length 1048576 : Int) = _)⟩
    have hL1 : L1 = 1048576 - xs.length := by rw [HL1.out]; exact szN_yes hs
    have HLL1 : Hid (L1 = 1048576 - (xs.length : Int)) := hL1
    have h1a : 0 ≤ L1 := by omega
    have h1b : L1 ≤ 1048576 := by omega
    clear hL1
    by_cases hs2 : (ds.length : Int) ≤ L1
    · have hle : xs.length ≤ 1048576 := by omega
      have hsum : xs.length + ds.length ≤ 1048576 := by have := HLL1.out; omega
      have hld2 : ds.length ≤ 1048576 := by omega
      obtain ⟨L2, HL2⟩ : ∃ L : Int, Hid (L = szN ds.length L1) := ⟨szN ds.length L1, (rfl : (szN ds.length L1 : Int) = _)⟩
      have h2a : 0 ≤ L2 := by rw [HL2.out, szN_yes hs2]; omega
      have HE : Hid (∀ w', Below w.heap.size w w' → EnsAt w' a xs) := fun w' hb => (h.kept hb).at hle
      have HDE : Hid (∀ w', Below w.heap.size w w' → EnsAt w' d ds) := fun w' hb => (hd.kept hb).at hld2
      have hL8 := sdL_length xs ds
      have hLL : (sdL xs ds).length ≤ 1048576 := by omega
      clear h hd hs hs2
      go_enter Try.func5, Try.ntmps5
      go_wp2_with fail
      refine (sz_entries xs a cap 1048576 _ hl (by omega) (by omega)).mono ?_
      rintro e wz ⟨rfl, rfl⟩
      rw [← HL1.out]
      go_wp2_with fail
      refine (sz_entries ds d cd L1 _ hld (by omega) (by omega)).mono ?_
      rintro e wz ⟨rfl, rfl⟩
      rw [← HL2.out]
      go_wp2_with fail
      refine (to_entries xs a cap _ (HE.out _ (Below.refl _ _))).mono ?_
      rintro e w2 ⟨a2, rfl, hn2⟩
      have HB2 : Hid (Below w.heap.size w w2) := hn2.below
      have HR2 : Hid (EnsAt w2 a2 xs) := hn2.at hle
      clear hn2
      go_wp2_with fail
      refine (to_entries ds d cd _ (HDE.out _ HB2.out)).mono ?_
      rintro e w3 ⟨d3, rfl, hn3⟩
      have HB3 : Hid (Below w.heap.size w w3) := HB2.out.trans (hn3.below.mono HB2.out.size)
      have HR3 : Hid (EnsAt w3 a2 xs ∧ EnsAt w3 d3 ds) := ⟨HR2.out.kept hn3.below, hn3.at hld2⟩
      clear hn3 HR2 HB2
      go_wp2_with fail
      refine (stateDiff_spec xs ds a2 d3 xs.length ds.length w3 HR3.out.1 HR3.out.2).mono ?_
      rintro e w5 ⟨v6, rfl, ho4, hb4⟩
      obtain ⟨a6, c6, rfl, -, -, -⟩ := ho4.at hLL
      have HB5 : Hid (Below w.heap.size w w5) := HB3.out.trans (hb4.mono HB3.out.size)
      have H5 : Hid (EnsOwn w5 0 (.slice a6 (sdL xs ds).length c6) (sdL xs ds) ∧ ∀ q, (Value.slice a6 (sdL xs ds).length c6).ownBlock = some q → q < w5.heap.size) := ⟨owns_baseC ho4 (Nat.zero_le _), fun q hq => (ho4.lt2 q hq).2⟩
      clear ho4 hb4 HR3 HB3
      go_wp2_with fail
      refine (to_entries xs a cap _ (HE.out _ HB5.out)).mono ?_
      rintro e w6 ⟨a7, rfl, hn6⟩
      obtain ⟨b7, hb7a, hb7b, hb7c, -, -⟩ := hn6.row
      subst hb7a
      have HN6 : Hid (EnsNew w5 xs (some ⟨b7, 0, none⟩) w6) := hn6
      clear hn6
      go_wp2_with fail
      refine (to_entries ds d cd _ (HDE.out _ (HB5.out.trans (HN6.out.below.mono HB5.out.size)))).mono ?_
      rintro e w7 ⟨a8, rfl, hn7⟩
      obtain ⟨b8, hb8a, hb8b, hb8c, -, -⟩ := hn7.row
      subst hb8a
      have HN7 : Hid (EnsNew w6 ds (some ⟨b8, 0, none⟩) w7) := hn7
      clear hn7
      go_wp2_with fail
      refine (stateDiff_impl xs ds (some ⟨b7, 0, none⟩) (some ⟨b8, 0, none⟩) xs.length ds.length w7 ((HN6.out.at hle).kept HN7.out.below) (HN7.out.at hld2)).mono ?_
      rintro e w9 ⟨v9, rfl, ho8, hb8⟩
      obtain ⟨a9, c9, rfl, -, -, -⟩ := ho8.at hLL
      have HB9 : Hid (Below w7.heap.size w7 w9 ∧ Below w5.heap.size w5 w9) := ⟨hb8, HN6.out.below.trans ((HN7.out.below.trans (hb8.mono HN7.out.below.size)).mono HN6.out.below.size)⟩
      have HQ9 : Hid (LD w (sdL xs ds) a6 c6 w9 ∧ EnsOwn w9 w7.heap.size (.slice a9 (sdL xs ds).length c9) (sdL xs ds) ∧ EnsAt w9 (some ⟨b7, 0, none⟩) xs ∧ Spot w9 (some ⟨b7, 0, none⟩) xs.length ∧ EnsAt w9 (some ⟨b8, 0, none⟩) ds ∧ Spot w9 (some ⟨b8, 0, none⟩) ds.length) := by
        have h79 : Below w6.heap.size w6 w9 := HN7.out.below.trans (HB9.out.1.mono HN7.out.below.size)
        exact ⟨⟨HB5.out.trans (HB9.out.2.mono HB5.out.size), H5.out.1.kept HB9.out.2⟩, ho8, (HN6.out.at hle).kept h79, HN6.out.spot.kept h79, (HN7.out.at hld2).kept HB9.out.1, HN7.out.spot.kept HB9.out.1⟩
      have HD : Hid (w.heap.size ≤ w5.heap.size ∧ w5.heap.size ≤ b7 ∧ b7 < b8 ∧ b8 < w7.heap.size ∧ (∀ q, (Value.slice a6 (sdL xs ds).length c6).ownBlock = some q → q < w5.heap.size) ∧ ∀ q, (Value.slice a9 (sdL xs ds).length c9).ownBlock = some q → w7.heap.size ≤ q) :=
        ⟨HB5.out.size, hb7b, by omega, hb8c, H5.out.2, fun q hq => (ho8.lt2 q hq).1⟩
      clear ho8 hb8 HN6 HN7 HB9 H5 HB5 hb7b hb7c hb8b hb8c
      go_wp2_with fail
      refine (eq_entries (sdL xs ds) a9 a6 c9 c6 w9 (HQ9.out.2.1.ensAt2 hLL) (HQ9.out.1.o6.ensAt2 hLL)).mono ?_
      rintro e w10 ⟨rfl, hb10⟩
      have H10 : Hid (LD w (sdL xs ds) a6 c6 w10 ∧ EnsOwn w10 w7.heap.size (.slice a9 (sdL xs ds).length c9) (sdL xs ds) ∧ EnsAt w10 (some ⟨b7, 0, none⟩) xs ∧ Spot w10 (some ⟨b7, 0, none⟩) xs.length ∧ EnsAt w10 (some ⟨b8, 0, none⟩) ds ∧ Spot w10 (some ⟨b8, 0, none⟩) ds.length) := ⟨HQ9.out.1.on hb10, HQ9.out.2.1.kept hb10, HQ9.out.2.2.1.kept hb10, HQ9.out.2.2.2.1.kept hb10, HQ9.out.2.2.2.2.1.kept hb10, HQ9.out.2.2.2.2.2.kept hb10⟩
      clear hb10 HQ9
      go_wp2_with fail
      refine (to_entries xs a cap _ (HE.out _ H10.out.1.below)).mono ?_
      rintro e w11 ⟨a11, rfl, hn11⟩
      have HA11 : Hid (EnsAt w11 a11 xs ∧ EnsAt w11 (some ⟨b7, 0, none⟩) xs) := ⟨hn11.at hle, H10.out.2.2.1.kept hn11.below⟩
      have H11 : Hid (LD w (sdL xs ds) a6 c6 w11 ∧ EnsOwn w11 w7.heap.size (.slice a9 (sdL xs ds).length c9) (sdL xs ds) ∧ Spot w11 (some ⟨b7, 0, none⟩) xs.length ∧ EnsAt w11 (some ⟨b8, 0, none⟩) ds ∧ Spot w11 (some ⟨b8, 0, none⟩) ds.length) := ⟨H10.out.1.on hn11.below, H10.out.2.1.kept hn11.below, H10.out.2.2.2.1.kept hn11.below, H10.out.2.2.2.2.1.kept hn11.below, H10.out.2.2.2.2.2.kept hn11.below⟩
      clear hn11 H10
      go_wp2_with fail
      refine (eq_entries xs (some ⟨b7, 0, none⟩) a11 xs.length xs.length w11 HA11.out.2 HA11.out.1).mono ?_
      rintro e w12 ⟨rfl, hb12⟩
      have H12 : Hid (LD w (sdL xs ds) a6 c6 w12 ∧ EnsOwn w12 w7.heap.size (.slice a9 (sdL xs ds).length c9) (sdL xs ds) ∧ Spot w12 (some ⟨b7, 0, none⟩) xs.length ∧ EnsAt w12 (some ⟨b8, 0, none⟩) ds ∧ Spot w12 (some ⟨b8, 0, none⟩) ds.length) := ⟨H11.out.1.on hb12, H11.out.2.1.kept hb12, H11.out.2.2.1.kept hb12, H11.out.2.2.2.1.kept hb12, H11.out.2.2.2.2.kept hb12⟩
      clear hb12 H11 HA11
      go_wp2_with fail
      refine (to_entries ds d cd _ (HDE.out _ H12.out.1.below)).mono ?_
      rintro e w13 ⟨a13, rfl, hn13⟩
      have HA13 : Hid (EnsAt w13 a13 ds ∧ EnsAt w13 (some ⟨b8, 0, none⟩) ds) := ⟨hn13.at hld2, H12.out.2.2.2.1.kept hn13.below⟩
      have H13 : Hid (LD w (sdL xs ds) a6 c6 w13 ∧ EnsOwn w13 w7.heap.size (.slice a9 (sdL xs ds).length c9) (sdL xs ds) ∧ Spot w13 (some ⟨b7, 0, none⟩) xs.length ∧ Spot w13 (some ⟨b8, 0, none⟩) ds.length) := ⟨H12.out.1.on hn13.below, H12.out.2.1.kept hn13.below, H12.out.2.2.1.kept hn13.below, H12.out.2.2.2.2.kept hn13.below⟩
      clear hn13 H12
      go_wp2_with fail
      refine (eq_entries ds (some ⟨b8, 0, none⟩) a13 ds.length ds.length w13 HA13.out.2 HA13.out.1).mono ?_
      rintro e w14 ⟨rfl, hb14⟩
      have H14 : Hid (LD w (sdL xs ds) a6 c6 w14 ∧ EnsOwn w14 w7.heap.size (.slice a9 (sdL xs ds).length c9) (sdL xs ds) ∧ Spot w14 (some ⟨b7, 0, none⟩) xs.length ∧ Spot w14 (some ⟨b8, 0, none⟩) ds.length) := ⟨H13.out.1.on hb14, H13.out.2.1.kept hb14, H13.out.2.2.1.kept hb14, H13.out.2.2.2.kept hb14⟩
      clear hb14 H13 HA13
      go_wp2_with fail
      refine (mark_ens xs.length (some ⟨b7, 0, none⟩) xs.length 1 ⟨by omega, by omega⟩ (by omega) w14 H14.out.2.2.1).mono ?_
      rintro e w15 ⟨rfl, hm15⟩
      obtain ⟨K, HK⟩ : ∃ K : Int, Hid (K = 1 + (xs.length : Int) * 3) := ⟨1 + (xs.length : Int) * 3, (rfl : 1 + (xs.length : Int) * 3 = _)⟩
      have hK0 : 0 ≤ K ∧ K ≤ 100000000 := by rw [HK.out]; omega
      have H15 : Hid (LD w (sdL xs ds) a6 c6 w15 ∧ EnsOwn w15 w7.heap.size (.slice a9 (sdL xs ds).length c9) (sdL xs ds) ∧ Spot w15 (some ⟨b8, 0, none⟩) ds.length) := by
        rcases hm15 with ⟨_, rfl⟩ | ⟨b, hab, hon, _⟩
        · exact ⟨H14.out.1, H14.out.2.1, H14.out.2.2.2⟩
        · cases hab
          obtain ⟨q1, q2, q3, q4, q5, q6⟩ := HD.out
          exact ⟨H14.out.1.only hon (by omega) (fun e => by have := q5 _ e; omega), hon.ens H14.out.2.1 (fun e => by have := q6 _ e; omega), H14.out.2.2.2.only hon (by omega)⟩
      rw [← HK.out]
      clear hm15 H14
      go_wp2_with fail
      refine (mark_ens ds.length (some ⟨b8, 0, none⟩) ds.length K hK0 (by omega) w15 H15.out.2.2).mono ?_
      rintro e w16 ⟨rfl, hm16⟩
      obtain ⟨K2, HK2⟩ : ∃ K2 : Int, Hid (K2 = K + (ds.length : Int) * 3) := ⟨K + (ds.length : Int) * 3, (rfl : K + (ds.length : Int) * 3 = _)⟩
      have hK2 : 0 ≤ K2 := by rw [HK2.out]; omega
      have H16 : Hid (LD w (sdL xs ds) a6 c6 w16 ∧ EnsOwn w16 w7.heap.size (.slice a9 (sdL xs ds).length c9) (sdL xs ds)) := by
        rcases hm16 with ⟨_, rfl⟩ | ⟨b, hab, hon, _⟩
        · exact ⟨H15.out.1, H15.out.2.1⟩
        · cases hab
          obtain ⟨q1, q2, q3, q4, q5, q6⟩ := HD.out
          exact ⟨H15.out.1.only hon (by omega) (fun e => by have := q5 _ e; omega), hon.ens H15.out.2.1 (fun e => by have := q6 _ e; omega)⟩
      rw [← HK2.out]
      clear hm16 H15
      go_wp2_with fail
      refine (eq_entries (sdL xs ds) a9 a6 c9 c6 w16 (H16.out.2.ensAt2 hLL) (H16.out.1.o6.ensAt2 hLL)).mono ?_
      rintro e w17 ⟨rfl, hb17⟩
      have H17 : Hid (LD w (sdL xs ds) a6 c6 w17 ∧ EnsOwn w17 w7.heap.size (.slice a9 (sdL xs ds).length c9) (sdL xs ds)) := ⟨H16.out.1.on hb17, H16.out.2.kept hb17⟩
      clear hb17 H16
      go_wp2_with fail
      refine (mark_ens (sdL xs ds).length a9 c9 1 ⟨by omega, by omega⟩ (by omega) w17 (H17.out.2.spot rfl)).mono ?_
      rintro e w18 ⟨rfl, hm18⟩
      obtain ⟨M, HM⟩ : ∃ M : Int, Hid (M = 1 + ((sdL xs ds).length : Int) * 3) := ⟨1 + ((sdL xs ds).length : Int) * 3, (rfl : 1 + ((sdL xs ds).length : Int) * 3 = _)⟩
      have hM0 : 0 ≤ M := by rw [HM.out]; omega
      have H18 : Hid (LD w (sdL xs ds) a6 c6 w18 ∧ Marks w18 a9 (sdL xs ds).length 1) := by
        refine ⟨?_, hm18.marks⟩
        rcases hm18 with ⟨_, rfl⟩ | ⟨b, hab, hon, _⟩
        · exact H17.out.1
        · obtain ⟨q1, q2, q3, q4, q5, q6⟩ := HD.out
          have hbb := q6 b (by rw [hab]; rfl)
          exact H17.out.1.only hon (by omega) (fun e => by have := q5 _ e; omega)
      rw [← HM.out]
      clear hm18 H17
      go_wp2_with fail
      refine (held_ens (sdL xs ds).length a9 c9 1 ⟨by omega, by omega⟩ (by omega) w18 H18.out.2).mono ?_
      rintro e wz ⟨rfl, rfl⟩
      rw [← HM.out]
      go_wp2_with fail
      refine (to_entries xs a cap _ (HE.out _ H18.out.1.below)).mono ?_
      rintro e w20 ⟨a20, rfl, hn20⟩
      have H20 : Hid (LD w (sdL xs ds) a6 c6 w20 ∧ Marks w20 a9 (sdL xs ds).length 1 ∧ EnsAt w20 a20 xs) := ⟨H18.out.1.on hn20.below, H18.out.2.kept hn20.below, hn20.at hle⟩
      clear hn20 H18
      go_wp2_with fail
      refine (to_entries ds d cd _ (HDE.out _ H20.out.1.below)).mono ?_
      rintro e w21 ⟨a21, rfl, hn21⟩
      have H21 : Hid (LD w (sdL xs ds) a6 c6 w21 ∧ Marks w21 a9 (sdL xs ds).length 1 ∧ EnsAt w21 a20 xs ∧ EnsAt w21 a21 ds) := ⟨H20.out.1.on hn21.below, H20.out.2.1.kept hn21.below, H20.out.2.2.kept hn21.below, hn21.at hld2⟩
      clear hn21 H20
      go_wp2_with fail
      refine (stateDiff_impl xs ds a20 a21 xs.length ds.length w21 H21.out.2.2.1 H21.out.2.2.2).mono ?_
      rintro e w22 ⟨v22, rfl, ho22, hb22⟩
      obtain ⟨a22, c22, rfl, -, -, -⟩ := ho22.at hLL
      have H22 : Hid (LD w (sdL xs ds) a6 c6 w22 ∧ Marks w22 a9 (sdL xs ds).length 1 ∧ EnsAt w22 a22 (sdL xs ds)) := ⟨H21.out.1.on hb22, H21.out.2.1.kept hb22, ho22.ensAt2 hLL⟩
      clear ho22 hb22 H21
      go_wp2_with fail
      refine (eq_entries (sdL xs ds) a22 a6 c22 c6 w22 H22.out.2.2 (H22.out.1.o6.ensAt2 hLL)).mono ?_
      rintro e w24 ⟨rfl, hb24⟩
      have H24 : Hid (LD w (sdL xs ds) a6 c6 w24 ∧ Marks w24 a9 (sdL xs ds).length 1) := ⟨H22.out.1.on hb24, H22.out.2.1.kept hb24⟩
      clear hb24 H22
      go_wp2_with fail
      refine (held_ens (sdL xs ds).length a9 c9 1 ⟨by omega, by omega⟩ (by omega) w24 H24.out.2).mono ?_
      rintro e wz ⟨rfl, rfl⟩
      rw [← HM.out]
      go_wp2
      go_ret
      exact ⟨rfl, H24.out.1.below⟩
    · have HS2 : Hid (szN ds.length L1 = -1) := szN_no hs2
      clear h hd hs hs2
      go_enter Try.func5, Try.ntmps5
      go_wp2_with fail
      refine (sz_entries xs a cap 1048576 _ hl (by omega) (by omega)).mono ?_
      rintro e wz ⟨rfl, rfl⟩
      rw [← HL1.out]
      go_wp2_with fail
      refine (sz_entries ds d cd L1 _ hld (by omega) (by omega)).mono ?_
      rintro e wz ⟨rfl, rfl⟩
      rw [HS2.out]
      go_wp2
      go_ret
      exact ⟨rfl, Below.refl _ _⟩
  · have HS : Hid (szN xs.length 1048576 = -1) := szN_no hs
    clear h hd hs
    go_enter Try.func5, Try.ntmps5
    go_wp2_with fail
    refine (sz_entries xs a cap 1048576 _ hl (by omega) (by omega)).mono ?_
    rintro e wz ⟨rfl, rfl⟩
    rw [HS.out]
    go_wp2
    go_ret
    exact ⟨rfl, Below.refl _ _⟩
end Go.Proofs.Ytkjcghejpdbeiaa
