/- The law on StatePut walked. -/
import Derived.Test.YtkjcghejpdbeiaaSuPutLaw
namespace Go.Proofs.Ytkjcghejpdbeiaa
open Go.RowKit

set_option maxHeartbeats 8000000 in
set_option maxRecDepth 100000 in
theorem walk_fnExactStatePut_gr (xs : List En) (a : Option Addr) (cap : Nat) (x : En) (w : World) (h : EnsRaw w a xs) (_ : True) :
    Calls Try.prog 4 #[.slice a xs.length cap, .agg #[.int .i64 x.kind, .int .i64 x.key, .int .i64 x.id]] w fun e w' => e = .returned (.bool true) ∧ Below w.heap.size w w' := by
  have hl := h.len
  have HBS := BX.start w x
  by_cases hs : (xs.length : Int) ≤ 1048576
  · have hle : xs.length ≤ 1048576 := by omega
    have HE : Hid (∀ w', Below w.heap.size w w' → EnsAt w' a xs) := fun w' hb => (h.kept hb).at hle
    have HS : Hid (szN xs.length 1048576 = 1048576 - xs.length) := szN_yes hs
    obtain ⟨L, HL⟩ : ∃ L : Int, Hid (L = szN xs.length 1048576) := ⟨szN xs.length 1048576, (rfl : (szN xs.length 1048576 : Int) = _)⟩
    have hL : 0 ≤ L := by rw [HL.out, HS.out]; omega
    have hLL := spL_length xs x hle
    clear h hs
    go_enter Try.func4, Try.ntmps4
    go_wp2_with fail
    refine (sz_entries xs a cap 1048576 _ hl (by omega) (by omega)).mono ?_
    rintro e wz ⟨rfl, rfl⟩
    rw [← HL.out]
    obtain ⟨w1, HW1⟩ : ∃ q, Hid (q = w.alloc (.cells #[.int .i64 x.kind, .int .i64 x.key, .int .i64 x.id] 35)) := ⟨w.alloc (.cells #[.int .i64 x.kind, .int .i64 x.key, .int .i64 x.id] 35), (rfl : w.alloc (.cells #[.int .i64 x.kind, .int .i64 x.key, .int .i64 x.id] 35) = _)⟩
    have HBX : Hid (BX w x w1) := by rw [HW1.out]; exact HBS
    rw [← HW1.out]
    clear HBS
    go_wp2
    go_cut [6] (fun r wx => ∃ B a6 c6, r = .pointer (some ⟨B, 0, none⟩) ∧ Hid (OutAt w1 (spL xs x) (spC xs x) B a6 c6 wx))
    case first =>
      refine wp_region_held_drew (S := (fun W => BX w x W ∧ Below w1.heap.size w1 W)) (by kernel_rfl) ⟨HBX.out.drew, (Below.refl _ _).drew⟩ (fun h0 => ?_)
      refine wpAnyH_take (i := 0) (v := (.slice a xs.length cap)) rfl (by kernel_rfl) (by kernel_rfl) (by kernel_rfl) (fun _ _ _ h => h) (Or.inl ⟨by kernel_rfl, ?_⟩) h0 ?_
      · intro W hW
        go_simp
      refine wpAnyH_take (i := 2) (v := (.agg #[.int .i64 x.kind, .int .i64 x.key, .int .i64 x.id])) rfl (by kernel_rfl) (by kernel_rfl) (by kernel_rfl) (fun _ _ _ h => h) (Or.inl ⟨by kernel_rfl, ?_⟩) h0 ?_
      · intro W hW
        have f0 : W.cell? ⟨w.heap.size, 0, none⟩ = some (.int .i64 x.kind) := cell_of_heap hW.1.box
        have f1 : W.cell? ⟨w.heap.size, 1, none⟩ = some (.int .i64 x.key) := cell_of_heap hW.1.box
        have f2 : W.cell? ⟨w.heap.size, 2, none⟩ = some (.int .i64 x.id) := cell_of_heap hW.1.box
        go_simp
      refine wpAnyH_ready (rs := [1, 5]) (by kernel_rfl) (by simp) ?_
      refine AllReadyH.cons rfl (fun K hK => ?_) (AllReadyH.cons rfl (fun K hK => ?_) AllReadyH.nil)
      · go_simp
        refine (to_entries xs a cap _ (HE.out _ h0.1.below)).mono ?_
        rintro e v1 ⟨a2, rfl, hn2⟩
        have hr1 := hn2.at hle
        have hb1 := hn2.below
        clear hn2
        have h1 : BX w x v1 ∧ Below w1.heap.size w1 v1 := ⟨h0.1.on hb1, h0.2.trans (hb1.mono h0.2.size)⟩
        refine hK.out _ _ h1 (fun _ => ?_)
        clear hK K
        refine wpAnyH_ready (rs := [3, 5]) (by kernel_rfl) (by simp) ?_
        refine AllReadyH.cons rfl (fun K hK => ?_) (AllReadyH.cons rfl (fun K hK => ?_) AllReadyH.nil)
        · go_simp
          refine (to_entry x _).mono ?_
          rintro e v2 ⟨rfl, hb2⟩
          have hr2 := hr1.kept hb2
          have h2 : BX w x v2 ∧ Below w1.heap.size w1 v2 := ⟨h1.1.on hb2, h1.2.trans (hb2.mono h1.2.size)⟩
          refine hK.out _ _ h2 (fun _ => ?_)
          clear hK K
          refine wpAnyH_ready (rs := [4, 5]) (by kernel_rfl) (by simp) ?_
          refine AllReadyH.cons rfl (fun K hK => ?_) (AllReadyH.cons rfl (fun K hK => ?_) AllReadyH.nil)
          · go_simp
            refine (statePut_spec xs x a2 xs.length _ hr2).mono ?_
            rintro e v3 ⟨v, rfl, ho3, hb3⟩
            obtain ⟨a3, c3, rfl, -, -, -⟩ := ho3.at (spL_length xs x hle)
            have hr3 : EnsOwn v3 w1.heap.size (.slice a3 (spL xs x).length c3) (spL xs x) := owns_baseC ho3 h2.2.size
            clear ho3
            have h3 : BX w x v3 ∧ Below w1.heap.size w1 v3 := ⟨h2.1.on hb3, h2.2.trans (hb3.mono h2.2.size)⟩
            refine hK.out _ _ h3 (fun _ => ?_)
            clear hK K
            refine wpAnyH_ready (rs := [5]) (by kernel_rfl) (by simp) ?_
            refine AllReadyH.cons rfl (fun K hK => ?_) AllReadyH.nil
            go_simp
            have h4 : BX w x (v3.alloc (.cells #[.slice none 0 0, .int .i64 0] 39)) ∧ Below w1.heap.size w1 (v3.alloc (.cells #[.slice none 0 0, .int .i64 0] 39)) := ⟨h3.1.on ((Below.refl _ _).alloc (Nat.le_refl _) _), h3.2.alloc h3.2.size _⟩
            have al4 : (v3.alloc (.cells #[.slice none 0 0, .int .i64 0] 39)).heap[v3.heap.size]? = some (.cells #[.slice none 0 0, .int .i64 0] 39 (0, 0)) := (MapKept.heap_alloc _ _).1
            have lo4 : w1.heap.size ≤ v3.heap.size := h3.2.size
            have hr4 := hr3.kept ((Below.refl _ _).alloc (Nat.le_refl _) (.cells #[.slice none 0 0, .int .i64 0] 39))
            refine hK.out _ _ h4 (fun _ => ?_)
            clear hK K
            have hB3 := h3
            have hR3 := hr3
            have HF : Hid (OutAt w1 (spL xs x) (spC xs x) (v3.heap.size) a3 c3 (v3.alloc (.cells #[.slice a3 (spL xs x).length c3, .int .i64 (spC xs x)] 39))) := out_last hB3.2 hR3 
            have hS : BX w x (v3.alloc (.cells #[.slice a3 (spL xs x).length c3, .int .i64 (spC xs x)] 39)) := hB3.1.on ((Below.refl _ _).alloc (Nat.le_refl _) _)
            refine wpAnyH_ready (rs := [6]) (by kernel_rfl) (by simp) ?_
            refine AllReadyH.cons rfl (fun K hK => ?_) AllReadyH.nil
            go_simp
            refine hK.out _ _ ⟨hS, HF.out.below⟩ (fun _ => ?_)
            clear hK K
            refine wpAnyH_done (by kernel_rfl) ?_ _
            go_wp2_with fail
            go_meet
            exact ⟨_, a3, c3, rfl, HF⟩
          · go_simp
            have h5 : BX w x (v2.alloc (.cells #[.slice none 0 0, .int .i64 0] 39)) ∧ Below w1.heap.size w1 (v2.alloc (.cells #[.slice none 0 0, .int .i64 0] 39)) := ⟨h2.1.on ((Below.refl _ _).alloc (Nat.le_refl _) _), h2.2.alloc h2.2.size _⟩
            have al5 : (v2.alloc (.cells #[.slice none 0 0, .int .i64 0] 39)).heap[v2.heap.size]? = some (.cells #[.slice none 0 0, .int .i64 0] 39 (0, 0)) := (MapKept.heap_alloc _ _).1
            have lo5 : w1.heap.size ≤ v2.heap.size := h2.2.size
            have hr5 := hr2.kept ((Below.refl _ _).alloc (Nat.le_refl _) (.cells #[.slice none 0 0, .int .i64 0] 39))
            refine hK.out _ _ h5 (fun _ => ?_)
            clear hK K
            refine wpAnyH_ready (rs := [4]) (by kernel_rfl) (by simp) ?_
            refine AllReadyH.cons rfl (fun K hK => ?_) AllReadyH.nil
            go_simp
            refine (statePut_spec xs x a2 xs.length _ hr5).mono ?_
            rintro e v6 ⟨v, rfl, ho6, hb6⟩
            obtain ⟨a3, c3, rfl, -, -, -⟩ := ho6.at (spL_length xs x hle)
            have hr6 : EnsOwn v6 w1.heap.size (.slice a3 (spL xs x).length c3) (spL xs x) := owns_baseC ho6 h5.2.size
            clear ho6
            have h6 : BX w x v6 ∧ Below w1.heap.size w1 v6 := ⟨h5.1.on hb6, h5.2.trans (hb6.mono h5.2.size)⟩
            have al6 : v6.heap[v2.heap.size]? = some (.cells #[.slice none 0 0, .int .i64 0] 39 (0, 0)) := (hb6.block _ (Array.getElem?_eq_some_iff.1 al5).1).trans al5
            refine hK.out _ _ h6 (fun _ => ?_)
            clear hK K
            have hq0 : v6.cell? ⟨v2.heap.size, 0, none⟩ = some (.slice none 0 0) := cell_of_heap al6
            have hq1 : v6.cell? ⟨v2.heap.size, 1, none⟩ = some (.int .i64 0) := cell_of_heap al6
            have hfr : ∀ q, v6.frozen? ⟨v2.heap.size, q, none⟩ = false := fun q => frozen_of_heap al6
            have HF : Hid (OutAt w1 (spL xs x) (spC xs x) (v2.heap.size) a3 c3 ((v6.setCell ⟨v2.heap.size, 0, none⟩ (.slice a3 (spL xs x).length c3)).setCell ⟨v2.heap.size, 1, none⟩ (.int .i64 (spC xs x)))) := out_leaf h6.2 al6 hr6 lo5
            have hS : BX w x ((v6.setCell ⟨v2.heap.size, 0, none⟩ (.slice a3 (spL xs x).length c3)).setCell ⟨v2.heap.size, 1, none⟩ (.int .i64 (spC xs x))) := (h6.1.setCell (Nat.lt_of_lt_of_le HBX.out.lt lo5)).setCell (Nat.lt_of_lt_of_le HBX.out.lt lo5)
            refine wpAnyH_ready (rs := [6]) (by kernel_rfl) (by simp) ?_
            refine AllReadyH.cons rfl (fun K hK => ?_) AllReadyH.nil
            go_simp
            refine hK.out _ _ ⟨hS, HF.out.below⟩ (fun _ => ?_)
            clear hK K
            refine wpAnyH_done (by kernel_rfl) ?_ _
            go_wp2_with fail
            go_meet
            exact ⟨_, a3, c3, rfl, HF⟩
        · go_simp
          have h7 : BX w x (v1.alloc (.cells #[.slice none 0 0, .int .i64 0] 39)) ∧ Below w1.heap.size w1 (v1.alloc (.cells #[.slice none 0 0, .int .i64 0] 39)) := ⟨h1.1.on ((Below.refl _ _).alloc (Nat.le_refl _) _), h1.2.alloc h1.2.size _⟩
          have al7 : (v1.alloc (.cells #[.slice none 0 0, .int .i64 0] 39)).heap[v1.heap.size]? = some (.cells #[.slice none 0 0, .int .i64 0] 39 (0, 0)) := (MapKept.heap_alloc _ _).1
          have lo7 : w1.heap.size ≤ v1.heap.size := h1.2.size
          have hr7 := hr1.kept ((Below.refl _ _).alloc (Nat.le_refl _) (.cells #[.slice none 0 0, .int .i64 0] 39))
          refine hK.out _ _ h7 (fun _ => ?_)
          clear hK K
          refine wpAnyH_ready (rs := [3]) (by kernel_rfl) (by simp) ?_
          refine AllReadyH.cons rfl (fun K hK => ?_) AllReadyH.nil
          go_simp
          refine (to_entry x _).mono ?_
          rintro e v8 ⟨rfl, hb8⟩
          have hr8 := hr7.kept hb8
          have h8 : BX w x v8 ∧ Below w1.heap.size w1 v8 := ⟨h7.1.on hb8, h7.2.trans (hb8.mono h7.2.size)⟩
          have al8 : v8.heap[v1.heap.size]? = some (.cells #[.slice none 0 0, .int .i64 0] 39 (0, 0)) := (hb8.block _ (Array.getElem?_eq_some_iff.1 al7).1).trans al7
          refine hK.out _ _ h8 (fun _ => ?_)
          clear hK K
          refine wpAnyH_ready (rs := [4]) (by kernel_rfl) (by simp) ?_
          refine AllReadyH.cons rfl (fun K hK => ?_) AllReadyH.nil
          go_simp
          refine (statePut_spec xs x a2 xs.length _ hr8).mono ?_
          rintro e v9 ⟨v, rfl, ho9, hb9⟩
          obtain ⟨a3, c3, rfl, -, -, -⟩ := ho9.at (spL_length xs x hle)
          have hr9 : EnsOwn v9 w1.heap.size (.slice a3 (spL xs x).length c3) (spL xs x) := owns_baseC ho9 h8.2.size
          clear ho9
          have h9 : BX w x v9 ∧ Below w1.heap.size w1 v9 := ⟨h8.1.on hb9, h8.2.trans (hb9.mono h8.2.size)⟩
          have al9 : v9.heap[v1.heap.size]? = some (.cells #[.slice none 0 0, .int .i64 0] 39 (0, 0)) := (hb9.block _ (Array.getElem?_eq_some_iff.1 al8).1).trans al8
          refine hK.out _ _ h9 (fun _ => ?_)
          clear hK K
          have hq0 : v9.cell? ⟨v1.heap.size, 0, none⟩ = some (.slice none 0 0) := cell_of_heap al9
          have hq1 : v9.cell? ⟨v1.heap.size, 1, none⟩ = some (.int .i64 0) := cell_of_heap al9
          have hfr : ∀ q, v9.frozen? ⟨v1.heap.size, q, none⟩ = false := fun q => frozen_of_heap al9
          have HF : Hid (OutAt w1 (spL xs x) (spC xs x) (v1.heap.size) a3 c3 ((v9.setCell ⟨v1.heap.size, 0, none⟩ (.slice a3 (spL xs x).length c3)).setCell ⟨v1.heap.size, 1, none⟩ (.int .i64 (spC xs x)))) := out_leaf h9.2 al9 hr9 lo7
          have hS : BX w x ((v9.setCell ⟨v1.heap.size, 0, none⟩ (.slice a3 (spL xs x).length c3)).setCell ⟨v1.heap.size, 1, none⟩ (.int .i64 (spC xs x))) := (h9.1.setCell (Nat.lt_of_lt_of_le HBX.out.lt lo7)).setCell (Nat.lt_of_lt_of_le HBX.out.lt lo7)
          refine wpAnyH_ready (rs := [6]) (by kernel_rfl) (by simp) ?_
          refine AllReadyH.cons rfl (fun K hK => ?_) AllReadyH.nil
          go_simp
          refine hK.out _ _ ⟨hS, HF.out.below⟩ (fun _ => ?_)
          clear hK K
          refine wpAnyH_done (by kernel_rfl) ?_ _
          go_wp2_with fail
          go_meet
          exact ⟨_, a3, c3, rfl, HF⟩
      · go_simp
        have h10 : BX w x (w1.drew.alloc (.cells #[.slice none 0 0, .int .i64 0] 39)) ∧ Below w1.heap.size w1 (w1.drew.alloc (.cells #[.slice none 0 0, .int .i64 0] 39)) := ⟨h0.1.on ((Below.refl _ _).alloc (Nat.le_refl _) _), h0.2.alloc h0.2.size _⟩
        have al10 : (w1.drew.alloc (.cells #[.slice none 0 0, .int .i64 0] 39)).heap[w1.heap.size]? = some (.cells #[.slice none 0 0, .int .i64 0] 39 (0, 0)) := (MapKept.heap_alloc _ _).1
        have lo10 : w1.heap.size ≤ w1.heap.size := h0.2.size
        refine hK.out _ _ h10 (fun _ => ?_)
        clear hK K
        refine wpAnyH_ready (rs := [1]) (by kernel_rfl) (by simp) ?_
        refine AllReadyH.cons rfl (fun K hK => ?_) AllReadyH.nil
        go_simp
        refine (to_entries xs a cap _ (HE.out _ h10.1.below)).mono ?_
        rintro e v11 ⟨a2, rfl, hn2⟩
        have hr11 := hn2.at hle
        have hb11 := hn2.below
        clear hn2
        have h11 : BX w x v11 ∧ Below w1.heap.size w1 v11 := ⟨h10.1.on hb11, h10.2.trans (hb11.mono h10.2.size)⟩
        have al11 : v11.heap[w1.heap.size]? = some (.cells #[.slice none 0 0, .int .i64 0] 39 (0, 0)) := (hb11.block _ (Array.getElem?_eq_some_iff.1 al10).1).trans al10
        refine hK.out _ _ h11 (fun _ => ?_)
        clear hK K
        refine wpAnyH_ready (rs := [3]) (by kernel_rfl) (by simp) ?_
        refine AllReadyH.cons rfl (fun K hK => ?_) AllReadyH.nil
        go_simp
        refine (to_entry x _).mono ?_
        rintro e v12 ⟨rfl, hb12⟩
        have hr12 := hr11.kept hb12
        have h12 : BX w x v12 ∧ Below w1.heap.size w1 v12 := ⟨h11.1.on hb12, h11.2.trans (hb12.mono h11.2.size)⟩
        have al12 : v12.heap[w1.heap.size]? = some (.cells #[.slice none 0 0, .int .i64 0] 39 (0, 0)) := (hb12.block _ (Array.getElem?_eq_some_iff.1 al11).1).trans al11
        refine hK.out _ _ h12 (fun _ => ?_)
        clear hK K
        refine wpAnyH_ready (rs := [4]) (by kernel_rfl) (by simp) ?_
        refine AllReadyH.cons rfl (fun K hK => ?_) AllReadyH.nil
        go_simp
        refine (statePut_spec xs x a2 xs.length _ hr12).mono ?_
        rintro e v13 ⟨v, rfl, ho13, hb13⟩
        obtain ⟨a3, c3, rfl, -, -, -⟩ := ho13.at (spL_length xs x hle)
        have hr13 : EnsOwn v13 w1.heap.size (.slice a3 (spL xs x).length c3) (spL xs x) := owns_baseC ho13 h12.2.size
        clear ho13
        have h13 : BX w x v13 ∧ Below w1.heap.size w1 v13 := ⟨h12.1.on hb13, h12.2.trans (hb13.mono h12.2.size)⟩
        have al13 : v13.heap[w1.heap.size]? = some (.cells #[.slice none 0 0, .int .i64 0] 39 (0, 0)) := (hb13.block _ (Array.getElem?_eq_some_iff.1 al12).1).trans al12
        refine hK.out _ _ h13 (fun _ => ?_)
        clear hK K
        have hq0 : v13.cell? ⟨w1.heap.size, 0, none⟩ = some (.slice none 0 0) := cell_of_heap al13
        have hq1 : v13.cell? ⟨w1.heap.size, 1, none⟩ = some (.int .i64 0) := cell_of_heap al13
        have hfr : ∀ q, v13.frozen? ⟨w1.heap.size, q, none⟩ = false := fun q => frozen_of_heap al13
        have HF : Hid (OutAt w1 (spL xs x) (spC xs x) (w1.heap.size) a3 c3 ((v13.setCell ⟨w1.heap.size, 0, none⟩ (.slice a3 (spL xs x).length c3)).setCell ⟨w1.heap.size, 1, none⟩ (.int .i64 (spC xs x)))) := out_leaf h13.2 al13 hr13 lo10
        have hS : BX w x ((v13.setCell ⟨w1.heap.size, 0, none⟩ (.slice a3 (spL xs x).length c3)).setCell ⟨w1.heap.size, 1, none⟩ (.int .i64 (spC xs x))) := (h13.1.setCell (Nat.lt_of_lt_of_le HBX.out.lt lo10)).setCell (Nat.lt_of_lt_of_le HBX.out.lt lo10)
        refine wpAnyH_ready (rs := [6]) (by kernel_rfl) (by simp) ?_
        refine AllReadyH.cons rfl (fun K hK => ?_) AllReadyH.nil
        go_simp
        refine hK.out _ _ ⟨hS, HF.out.below⟩ (fun _ => ?_)
        clear hK K
        refine wpAnyH_done (by kernel_rfl) ?_ _
        go_wp2_with fail
        go_meet
        exact ⟨_, a3, c3, rfl, HF⟩
    obtain ⟨B6, a6, c6, rfl, HO6⟩ := hcut
    have HX6 : Hid (BX w x wc) := HBX.out.on HO6.out.below
    clear HBX HW1
    go_wp2_with fail
    refine (to_entries xs a cap _ (HE.out _ HX6.out.below)).mono ?_
    rintro e w4 ⟨a4, rfl, hn4⟩
    have HX4 : Hid (BX w x w4) := HX6.out.on hn4.below
    have HN4 : Hid (EnsNew wc xs a4 w4) := hn4
    clear hn4
    have pw40 : w4.cell? ⟨w.heap.size, 0, none⟩ = some (.int .i64 x.kind) := cell_of_heap HX4.out.box
    have pw41 : w4.cell? ⟨w.heap.size, 1, none⟩ = some (.int .i64 x.key) := cell_of_heap HX4.out.box
    have pw42 : w4.cell? ⟨w.heap.size, 2, none⟩ = some (.int .i64 x.id) := cell_of_heap HX4.out.box
    go_wp2_with fail
    refine (to_entry x _).mono ?_
    rintro e w5 ⟨rfl, hb5⟩
    have HB5 : Hid (Below w4.heap.size w4 w5) := hb5
    clear hb5 pw40 pw41 pw42
    go_wp2_with fail
    refine (statePut_impl xs x a4 xs.length w5 ((HN4.out.at hle).kept HB5.out)).mono ?_
    rintro e w6 ⟨v8, rfl, ho6, hb6⟩
    obtain ⟨a8, c8, rfl, -, -, -⟩ := ho6.at hLL
    obtain ⟨w7, HW7⟩ : ∃ q, Hid (q = w6.alloc (.cells #[.slice a8 (spL xs x).length c8, .int .i64 (spC xs x)] 39)) := ⟨w6.alloc (.cells #[.slice a8 (spL xs x).length c8, .int .i64 (spC xs x)] 39), (rfl : w6.alloc (.cells #[.slice a8 (spL xs x).length c8, .int .i64 (spC xs x)] 39) = _)⟩
    have HB7 : Hid (Below wc.heap.size wc w7 ∧ Below w4.heap.size w4 w7) := by
      have q1 := HN4.out.below.size
      have q2 := HB5.out.size
      have q3 := hb6.size
      have h1 : Below w4.heap.size w4 w7 := by
        rw [HW7.out]
        exact (HB5.out.trans (hb6.mono q2)).alloc (by omega) _
      exact ⟨HN4.out.below.trans (h1.mono q1), h1⟩
    have HLP7 : Hid (LP w x (spL xs x) (spC xs x) B6 a6 c6 w6.heap.size a8 c8 w7) :=
      ⟨HX6.out.on HB7.out.1, (HB7.out.1.block _ (Array.getElem?_eq_some_iff.1 HO6.out.box).1).trans HO6.out.box, owns_baseC (HO6.out.own.kept HB7.out.1) (Nat.zero_le _), by rw [HW7.out]; exact (MapKept.heap_alloc w6 _).1⟩
    have HO8 : Hid (EnsOwn w7 w5.heap.size (.slice a8 (spL xs x).length c8) (spL xs x)) := by rw [HW7.out]; exact ho6.kept ((Below.refl _ _).alloc (Nat.le_refl _) _)
    obtain ⟨b4, hb4a, hb4b, hb4c, -, -⟩ := HN4.out.row
    subst hb4a
    have HD : Hid (w.heap.size < wc.heap.size ∧ B6 < wc.heap.size ∧ wc.heap.size ≤ b4 ∧ b4 < w4.heap.size ∧ w4.heap.size ≤ w5.heap.size ∧ w5.heap.size ≤ w6.heap.size ∧ (∀ q, (Value.slice a6 (spL xs x).length c6).ownBlock = some q → q < wc.heap.size) ∧ ∀ q, (Value.slice a8 (spL xs x).length c8).ownBlock = some q → w5.heap.size ≤ q ∧ q < w6.heap.size) :=
      ⟨HX6.out.lt, (Array.getElem?_eq_some_iff.1 HO6.out.box).1, hb4b, hb4c, HB5.out.size, hb6.size, fun q hq => (HO6.out.own.lt q hq).2, fun q hq => ho6.lt q hq⟩
    have HX7 : Hid (EnsAt w7 (some ⟨b4, 0, none⟩) xs ∧ Spot w7 (some ⟨b4, 0, none⟩) xs.length) := ⟨(HN4.out.at hle).kept HB7.out.2, HN4.out.spot.kept HB7.out.2⟩
    have h60 : w6.cell? ⟨B6, 0, none⟩ = some (.slice a6 (spL xs x).length c6) := by
      have := HLP7.out.b6
      rw [HW7.out, Below.heap_alloc _ _ _ (by have := HD.out; omega)] at this
      exact cell_of_heap this
    have h61 : w6.cell? ⟨B6, 1, none⟩ = some (.int .i64 (spC xs x)) := by
      have := HLP7.out.b6
      rw [HW7.out, Below.heap_alloc _ _ _ (by have := HD.out; omega)] at this
      exact cell_of_heap this
    have hlt6 : B6 < w6.heap.size := by have := HD.out; omega
    have hne6 : ¬ B6 = w6.heap.size := by omega
    clear ho6 hb6 hb4b hb4c HB5 HN4 HO6 HX6 HX4
    go_wp2_with fail
    rw [← HW7.out]
    refine (eq_out (spL xs x) (spC xs x) a8 a6 c8 c6 w7 (HO8.out.ensAt hLL) (HLP7.out.o6.ensAt hLL)).mono ?_
    rintro e w8 ⟨rfl, hb8⟩
    have H8 : Hid (LP w x (spL xs x) (spC xs x) B6 a6 c6 w6.heap.size a8 c8 w8 ∧ EnsOwn w8 w5.heap.size (.slice a8 (spL xs x).length c8) (spL xs x) ∧ EnsAt w8 (some ⟨b4, 0, none⟩) xs ∧ Spot w8 (some ⟨b4, 0, none⟩) xs.length) := ⟨HLP7.out.on hb8, HO8.out.kept hb8, HX7.out.1.kept hb8, HX7.out.2.kept hb8⟩
    clear hb8 HLP7 HO8 HX7 HB7 h60 h61 hlt6 hne6 HW7
    go_wp2_with fail
    refine (to_entries xs a cap _ (HE.out _ H8.out.1.bx.below)).mono ?_
    rintro e w9 ⟨a9, rfl, hn9⟩
    have H9 : Hid (LP w x (spL xs x) (spC xs x) B6 a6 c6 w6.heap.size a8 c8 w9 ∧ EnsOwn w9 w5.heap.size (.slice a8 (spL xs x).length c8) (spL xs x) ∧ EnsAt w9 (some ⟨b4, 0, none⟩) xs ∧ Spot w9 (some ⟨b4, 0, none⟩) xs.length) := ⟨H8.out.1.on hn9.below, H8.out.2.1.kept hn9.below, H8.out.2.2.1.kept hn9.below, H8.out.2.2.2.kept hn9.below⟩
    have HA9 : Hid (EnsAt w9 a9 xs) := hn9.at hle
    clear hn9 H8
    go_wp2_with fail
    refine (eq_entries xs (some ⟨b4, 0, none⟩) a9 xs.length xs.length w9 H9.out.2.2.1 HA9.out).mono ?_
    rintro e w10 ⟨rfl, hb10⟩
    have H10 : Hid (LP w x (spL xs x) (spC xs x) B6 a6 c6 w6.heap.size a8 c8 w10 ∧ EnsOwn w10 w5.heap.size (.slice a8 (spL xs x).length c8) (spL xs x) ∧ Spot w10 (some ⟨b4, 0, none⟩) xs.length) := ⟨H9.out.1.on hb10, H9.out.2.1.kept hb10, H9.out.2.2.2.kept hb10⟩
    clear hb10 H9 HA9
    go_wp2_with fail
    refine (mark_ens xs.length (some ⟨b4, 0, none⟩) xs.length 1 ⟨by omega, by omega⟩ (by omega) w10 H10.out.2.2).mono ?_
    rintro e w11 ⟨rfl, hm11⟩
    obtain ⟨K, HK⟩ : ∃ K : Int, Hid (K = 1 + (xs.length : Int) * 3) := ⟨1 + (xs.length : Int) * 3, (rfl : 1 + (xs.length : Int) * 3 = _)⟩
    have hK0 : 0 ≤ K := by rw [HK.out]; omega
    have H11 : Hid (LP w x (spL xs x) (spC xs x) B6 a6 c6 w6.heap.size a8 c8 w11 ∧ EnsOwn w11 w5.heap.size (.slice a8 (spL xs x).length c8) (spL xs x)) := by
      rcases hm11 with ⟨_, rfl⟩ | ⟨b, hab, hon, _⟩
      · exact ⟨H10.out.1, H10.out.2.1⟩
      · cases hab
        obtain ⟨q1, q2, q3, q4, q5, q6, q7, q8⟩ := HD.out
        exact ⟨H10.out.1.only hon (by omega) (by omega) (by omega) (fun e => by have := q7 _ e; omega), hon.ens H10.out.2.1 (fun e => by have := q8 _ e; omega)⟩
    rw [← HK.out]
    clear hm11 H10
    have e0 : w11.cell? ⟨w6.heap.size, 0, none⟩ = some (.slice a8 (spL xs x).length c8) := cell_of_heap H11.out.1.b8
    have e1 : w11.cell? ⟨w6.heap.size, 1, none⟩ = some (.int .i64 (spC xs x)) := cell_of_heap H11.out.1.b8
    have d0 : w11.cell? ⟨B6, 0, none⟩ = some (.slice a6 (spL xs x).length c6) := cell_of_heap H11.out.1.b6
    have d1 : w11.cell? ⟨B6, 1, none⟩ = some (.int .i64 (spC xs x)) := cell_of_heap H11.out.1.b6
    go_wp2_with fail
    refine (eq_out (spL xs x) (spC xs x) a8 a6 c8 c6 w11 (H11.out.2.ensAt hLL) (H11.out.1.o6.ensAt hLL)).mono ?_
    rintro e w12 ⟨rfl, hb12⟩
    have H12 : Hid (LP w x (spL xs x) (spC xs x) B6 a6 c6 w6.heap.size a8 c8 w12 ∧ EnsOwn w12 w5.heap.size (.slice a8 (spL xs x).length c8) (spL xs x)) := ⟨H11.out.1.on hb12, H11.out.2.kept hb12⟩
    clear hb12 H11 e0 e1 d0 d1
    have e0 : w12.cell? ⟨w6.heap.size, 0, none⟩ = some (.slice a8 (spL xs x).length c8) := cell_of_heap H12.out.1.b8
    have e1 : w12.cell? ⟨w6.heap.size, 1, none⟩ = some (.int .i64 (spC xs x)) := cell_of_heap H12.out.1.b8
    have d0 : w12.cell? ⟨B6, 0, none⟩ = some (.slice a6 (spL xs x).length c6) := cell_of_heap H12.out.1.b6
    have d1 : w12.cell? ⟨B6, 1, none⟩ = some (.int .i64 (spC xs x)) := cell_of_heap H12.out.1.b6
    go_wp2_with fail
    refine (mark_out (spL xs x).length (spC xs x) a8 c8 (by omega) w12 (H12.out.2.spot rfl)).mono ?_
    rintro e w13 ⟨rfl, o, hm13⟩
    obtain ⟨M, HM⟩ : ∃ M : Int, Hid (M = 1 + ((spL xs x).length : Int) * 3) := ⟨1 + ((spL xs x).length : Int) * 3, (rfl : 1 + ((spL xs x).length : Int) * 3 = _)⟩
    have hM0 : 0 ≤ M := by rw [HM.out]; omega
    have H13 : Hid (LP w x (spL xs x) (spC xs x) B6 a6 c6 w6.heap.size a8 c8 w13 ∧ Marks w13 a8 (spL xs x).length 1) := by
      refine ⟨?_, hm13.marks⟩
      have hal : Below w12.heap.size w12 (w12.alloc o) := (Below.refl _ _).alloc (Nat.le_refl _) _
      rcases hm13 with ⟨_, rfl⟩ | ⟨b, hab, hon, _⟩
      · exact H12.out.1.on hal
      · obtain ⟨q1, q2, q3, q4, q5, q6, q7, q8⟩ := HD.out
        have hbb := q8 b (by rw [hab]; rfl)
        exact (H12.out.1.on hal).only hon (by omega) (by omega) (by omega) (fun e => by have := q7 _ e; omega)
    rw [← HM.out]
    clear hm13 H12 e0 e1 d0 d1
    have e0 : w13.cell? ⟨w6.heap.size, 0, none⟩ = some (.slice a8 (spL xs x).length c8) := cell_of_heap H13.out.1.b8
    have e1 : w13.cell? ⟨w6.heap.size, 1, none⟩ = some (.int .i64 (spC xs x)) := cell_of_heap H13.out.1.b8
    have d0 : w13.cell? ⟨B6, 0, none⟩ = some (.slice a6 (spL xs x).length c6) := cell_of_heap H13.out.1.b6
    have d1 : w13.cell? ⟨B6, 1, none⟩ = some (.int .i64 (spC xs x)) := cell_of_heap H13.out.1.b6
    go_wp2_with fail
    refine (held_out (spL xs x).length (spC xs x) a8 c8 (by omega) w13 H13.out.2).mono ?_
    rintro e w14 ⟨rfl, hb14⟩
    rw [← HM.out]
    have H14 : Hid (LP w x (spL xs x) (spC xs x) B6 a6 c6 w6.heap.size a8 c8 w14 ∧ Marks w14 a8 (spL xs x).length 1) := ⟨H13.out.1.on hb14, H13.out.2.kept hb14⟩
    have HBX : Hid (BX w x w14) := H14.out.1.bx
    clear hb14 H13 e0 e1 d0 d1 HD
    go_wp2
    go_cut [12] (fun r wx => ∃ B a6 c6, r = .pointer (some ⟨B, 0, none⟩) ∧ Hid (OutAt w14 (spL xs x) (spC xs x) B a6 c6 wx))
    case first =>
      refine wp_region_held_drew (S := (fun W => BX w x W ∧ Below w14.heap.size w14 W)) (by kernel_rfl) ⟨HBX.out.drew, (Below.refl _ _).drew⟩ (fun h0 => ?_)
      refine wpAnyH_take (i := 0) (v := (.slice a xs.length cap)) rfl (by kernel_rfl) (by kernel_rfl) (by kernel_rfl) (fun _ _ _ h => h) (Or.inl ⟨by kernel_rfl, ?_⟩) h0 ?_
      · intro W hW
        go_simp
      refine wpAnyH_take (i := 2) (v := (.agg #[.int .i64 x.kind, .int .i64 x.key, .int .i64 x.id])) rfl (by kernel_rfl) (by kernel_rfl) (by kernel_rfl) (fun _ _ _ h => h) (Or.inl ⟨by kernel_rfl, ?_⟩) h0 ?_
      · intro W hW
        have f0 : W.cell? ⟨w.heap.size, 0, none⟩ = some (.int .i64 x.kind) := cell_of_heap hW.1.box
        have f1 : W.cell? ⟨w.heap.size, 1, none⟩ = some (.int .i64 x.key) := cell_of_heap hW.1.box
        have f2 : W.cell? ⟨w.heap.size, 2, none⟩ = some (.int .i64 x.id) := cell_of_heap hW.1.box
        go_simp
      refine wpAnyH_ready (rs := [1, 5]) (by kernel_rfl) (by simp) ?_
      refine AllReadyH.cons rfl (fun K hK => ?_) (AllReadyH.cons rfl (fun K hK => ?_) AllReadyH.nil)
      · go_simp
        refine (to_entries xs a cap _ (HE.out _ h0.1.below)).mono ?_
        rintro e v1 ⟨a2, rfl, hn2⟩
        have hr1 := hn2.at hle
        have hb1 := hn2.below
        clear hn2
        have h1 : BX w x v1 ∧ Below w14.heap.size w14 v1 := ⟨h0.1.on hb1, h0.2.trans (hb1.mono h0.2.size)⟩
        refine hK.out _ _ h1 (fun _ => ?_)
        clear hK K
        refine wpAnyH_ready (rs := [3, 5]) (by kernel_rfl) (by simp) ?_
        refine AllReadyH.cons rfl (fun K hK => ?_) (AllReadyH.cons rfl (fun K hK => ?_) AllReadyH.nil)
        · go_simp
          refine (to_entry x _).mono ?_
          rintro e v2 ⟨rfl, hb2⟩
          have hr2 := hr1.kept hb2
          have h2 : BX w x v2 ∧ Below w14.heap.size w14 v2 := ⟨h1.1.on hb2, h1.2.trans (hb2.mono h1.2.size)⟩
          refine hK.out _ _ h2 (fun _ => ?_)
          clear hK K
          refine wpAnyH_ready (rs := [4, 5]) (by kernel_rfl) (by simp) ?_
          refine AllReadyH.cons rfl (fun K hK => ?_) (AllReadyH.cons rfl (fun K hK => ?_) AllReadyH.nil)
          · go_simp
            refine (statePut_impl xs x a2 xs.length _ hr2).mono ?_
            rintro e v3 ⟨v, rfl, ho3, hb3⟩
            obtain ⟨a3, c3, rfl, -, -, -⟩ := ho3.at (spL_length xs x hle)
            have hr3 : EnsOwn v3 w14.heap.size (.slice a3 (spL xs x).length c3) (spL xs x) := owns_baseC ho3 h2.2.size
            clear ho3
            have h3 : BX w x v3 ∧ Below w14.heap.size w14 v3 := ⟨h2.1.on hb3, h2.2.trans (hb3.mono h2.2.size)⟩
            refine hK.out _ _ h3 (fun _ => ?_)
            clear hK K
            refine wpAnyH_ready (rs := [5]) (by kernel_rfl) (by simp) ?_
            refine AllReadyH.cons rfl (fun K hK => ?_) AllReadyH.nil
            go_simp
            have h4 : BX w x (v3.alloc (.cells #[.slice none 0 0, .int .i64 0] 39)) ∧ Below w14.heap.size w14 (v3.alloc (.cells #[.slice none 0 0, .int .i64 0] 39)) := ⟨h3.1.on ((Below.refl _ _).alloc (Nat.le_refl _) _), h3.2.alloc h3.2.size _⟩
            have al4 : (v3.alloc (.cells #[.slice none 0 0, .int .i64 0] 39)).heap[v3.heap.size]? = some (.cells #[.slice none 0 0, .int .i64 0] 39 (0, 0)) := (MapKept.heap_alloc _ _).1
            have lo4 : w14.heap.size ≤ v3.heap.size := h3.2.size
            have hr4 := hr3.kept ((Below.refl _ _).alloc (Nat.le_refl _) (.cells #[.slice none 0 0, .int .i64 0] 39))
            refine hK.out _ _ h4 (fun _ => ?_)
            clear hK K
            have hB3 := h3
            have hR3 := hr3
            have HF : Hid (OutAt w14 (spL xs x) (spC xs x) (v3.heap.size) a3 c3 (v3.alloc (.cells #[.slice a3 (spL xs x).length c3, .int .i64 (spC xs x)] 39))) := out_last hB3.2 hR3 
            have hS : BX w x (v3.alloc (.cells #[.slice a3 (spL xs x).length c3, .int .i64 (spC xs x)] 39)) := hB3.1.on ((Below.refl _ _).alloc (Nat.le_refl _) _)
            refine wpAnyH_ready (rs := [6]) (by kernel_rfl) (by simp) ?_
            refine AllReadyH.cons rfl (fun K hK => ?_) AllReadyH.nil
            go_simp
            refine hK.out _ _ ⟨hS, HF.out.below⟩ (fun _ => ?_)
            clear hK K
            refine wpAnyH_done (by kernel_rfl) ?_ _
            go_wp2_with fail
            go_meet
            exact ⟨_, a3, c3, rfl, HF⟩
          · go_simp
            have h5 : BX w x (v2.alloc (.cells #[.slice none 0 0, .int .i64 0] 39)) ∧ Below w14.heap.size w14 (v2.alloc (.cells #[.slice none 0 0, .int .i64 0] 39)) := ⟨h2.1.on ((Below.refl _ _).alloc (Nat.le_refl _) _), h2.2.alloc h2.2.size _⟩
            have al5 : (v2.alloc (.cells #[.slice none 0 0, .int .i64 0] 39)).heap[v2.heap.size]? = some (.cells #[.slice none 0 0, .int .i64 0] 39 (0, 0)) := (MapKept.heap_alloc _ _).1
            have lo5 : w14.heap.size ≤ v2.heap.size := h2.2.size
            have hr5 := hr2.kept ((Below.refl _ _).alloc (Nat.le_refl _) (.cells #[.slice none 0 0, .int .i64 0] 39))
            refine hK.out _ _ h5 (fun _ => ?_)
            clear hK K
            refine wpAnyH_ready (rs := [4]) (by kernel_rfl) (by simp) ?_
            refine AllReadyH.cons rfl (fun K hK => ?_) AllReadyH.nil
            go_simp
            refine (statePut_impl xs x a2 xs.length _ hr5).mono ?_
            rintro e v6 ⟨v, rfl, ho6, hb6⟩
            obtain ⟨a3, c3, rfl, -, -, -⟩ := ho6.at (spL_length xs x hle)
            have hr6 : EnsOwn v6 w14.heap.size (.slice a3 (spL xs x).length c3) (spL xs x) := owns_baseC ho6 h5.2.size
            clear ho6
            have h6 : BX w x v6 ∧ Below w14.heap.size w14 v6 := ⟨h5.1.on hb6, h5.2.trans (hb6.mono h5.2.size)⟩
            have al6 : v6.heap[v2.heap.size]? = some (.cells #[.slice none 0 0, .int .i64 0] 39 (0, 0)) := (hb6.block _ (Array.getElem?_eq_some_iff.1 al5).1).trans al5
            refine hK.out _ _ h6 (fun _ => ?_)
            clear hK K
            have hq0 : v6.cell? ⟨v2.heap.size, 0, none⟩ = some (.slice none 0 0) := cell_of_heap al6
            have hq1 : v6.cell? ⟨v2.heap.size, 1, none⟩ = some (.int .i64 0) := cell_of_heap al6
            have hfr : ∀ q, v6.frozen? ⟨v2.heap.size, q, none⟩ = false := fun q => frozen_of_heap al6
            have HF : Hid (OutAt w14 (spL xs x) (spC xs x) (v2.heap.size) a3 c3 ((v6.setCell ⟨v2.heap.size, 0, none⟩ (.slice a3 (spL xs x).length c3)).setCell ⟨v2.heap.size, 1, none⟩ (.int .i64 (spC xs x)))) := out_leaf h6.2 al6 hr6 lo5
            have hS : BX w x ((v6.setCell ⟨v2.heap.size, 0, none⟩ (.slice a3 (spL xs x).length c3)).setCell ⟨v2.heap.size, 1, none⟩ (.int .i64 (spC xs x))) := (h6.1.setCell (Nat.lt_of_lt_of_le HBX.out.lt lo5)).setCell (Nat.lt_of_lt_of_le HBX.out.lt lo5)
            refine wpAnyH_ready (rs := [6]) (by kernel_rfl) (by simp) ?_
            refine AllReadyH.cons rfl (fun K hK => ?_) AllReadyH.nil
            go_simp
            refine hK.out _ _ ⟨hS, HF.out.below⟩ (fun _ => ?_)
            clear hK K
            refine wpAnyH_done (by kernel_rfl) ?_ _
            go_wp2_with fail
            go_meet
            exact ⟨_, a3, c3, rfl, HF⟩
        · go_simp
          have h7 : BX w x (v1.alloc (.cells #[.slice none 0 0, .int .i64 0] 39)) ∧ Below w14.heap.size w14 (v1.alloc (.cells #[.slice none 0 0, .int .i64 0] 39)) := ⟨h1.1.on ((Below.refl _ _).alloc (Nat.le_refl _) _), h1.2.alloc h1.2.size _⟩
          have al7 : (v1.alloc (.cells #[.slice none 0 0, .int .i64 0] 39)).heap[v1.heap.size]? = some (.cells #[.slice none 0 0, .int .i64 0] 39 (0, 0)) := (MapKept.heap_alloc _ _).1
          have lo7 : w14.heap.size ≤ v1.heap.size := h1.2.size
          have hr7 := hr1.kept ((Below.refl _ _).alloc (Nat.le_refl _) (.cells #[.slice none 0 0, .int .i64 0] 39))
          refine hK.out _ _ h7 (fun _ => ?_)
          clear hK K
          refine wpAnyH_ready (rs := [3]) (by kernel_rfl) (by simp) ?_
          refine AllReadyH.cons rfl (fun K hK => ?_) AllReadyH.nil
          go_simp
          refine (to_entry x _).mono ?_
          rintro e v8 ⟨rfl, hb8⟩
          have hr8 := hr7.kept hb8
          have h8 : BX w x v8 ∧ Below w14.heap.size w14 v8 := ⟨h7.1.on hb8, h7.2.trans (hb8.mono h7.2.size)⟩
          have al8 : v8.heap[v1.heap.size]? = some (.cells #[.slice none 0 0, .int .i64 0] 39 (0, 0)) := (hb8.block _ (Array.getElem?_eq_some_iff.1 al7).1).trans al7
          refine hK.out _ _ h8 (fun _ => ?_)
          clear hK K
          refine wpAnyH_ready (rs := [4]) (by kernel_rfl) (by simp) ?_
          refine AllReadyH.cons rfl (fun K hK => ?_) AllReadyH.nil
          go_simp
          refine (statePut_impl xs x a2 xs.length _ hr8).mono ?_
          rintro e v9 ⟨v, rfl, ho9, hb9⟩
          obtain ⟨a3, c3, rfl, -, -, -⟩ := ho9.at (spL_length xs x hle)
          have hr9 : EnsOwn v9 w14.heap.size (.slice a3 (spL xs x).length c3) (spL xs x) := owns_baseC ho9 h8.2.size
          clear ho9
          have h9 : BX w x v9 ∧ Below w14.heap.size w14 v9 := ⟨h8.1.on hb9, h8.2.trans (hb9.mono h8.2.size)⟩
          have al9 : v9.heap[v1.heap.size]? = some (.cells #[.slice none 0 0, .int .i64 0] 39 (0, 0)) := (hb9.block _ (Array.getElem?_eq_some_iff.1 al8).1).trans al8
          refine hK.out _ _ h9 (fun _ => ?_)
          clear hK K
          have hq0 : v9.cell? ⟨v1.heap.size, 0, none⟩ = some (.slice none 0 0) := cell_of_heap al9
          have hq1 : v9.cell? ⟨v1.heap.size, 1, none⟩ = some (.int .i64 0) := cell_of_heap al9
          have hfr : ∀ q, v9.frozen? ⟨v1.heap.size, q, none⟩ = false := fun q => frozen_of_heap al9
          have HF : Hid (OutAt w14 (spL xs x) (spC xs x) (v1.heap.size) a3 c3 ((v9.setCell ⟨v1.heap.size, 0, none⟩ (.slice a3 (spL xs x).length c3)).setCell ⟨v1.heap.size, 1, none⟩ (.int .i64 (spC xs x)))) := out_leaf h9.2 al9 hr9 lo7
          have hS : BX w x ((v9.setCell ⟨v1.heap.size, 0, none⟩ (.slice a3 (spL xs x).length c3)).setCell ⟨v1.heap.size, 1, none⟩ (.int .i64 (spC xs x))) := (h9.1.setCell (Nat.lt_of_lt_of_le HBX.out.lt lo7)).setCell (Nat.lt_of_lt_of_le HBX.out.lt lo7)
          refine wpAnyH_ready (rs := [6]) (by kernel_rfl) (by simp) ?_
          refine AllReadyH.cons rfl (fun K hK => ?_) AllReadyH.nil
          go_simp
          refine hK.out _ _ ⟨hS, HF.out.below⟩ (fun _ => ?_)
          clear hK K
          refine wpAnyH_done (by kernel_rfl) ?_ _
          go_wp2_with fail
          go_meet
          exact ⟨_, a3, c3, rfl, HF⟩
      · go_simp
        have h10 : BX w x (w14.drew.alloc (.cells #[.slice none 0 0, .int .i64 0] 39)) ∧ Below w14.heap.size w14 (w14.drew.alloc (.cells #[.slice none 0 0, .int .i64 0] 39)) := ⟨h0.1.on ((Below.refl _ _).alloc (Nat.le_refl _) _), h0.2.alloc h0.2.size _⟩
        have al10 : (w14.drew.alloc (.cells #[.slice none 0 0, .int .i64 0] 39)).heap[w14.heap.size]? = some (.cells #[.slice none 0 0, .int .i64 0] 39 (0, 0)) := (MapKept.heap_alloc _ _).1
        have lo10 : w14.heap.size ≤ w14.heap.size := h0.2.size
        refine hK.out _ _ h10 (fun _ => ?_)
        clear hK K
        refine wpAnyH_ready (rs := [1]) (by kernel_rfl) (by simp) ?_
        refine AllReadyH.cons rfl (fun K hK => ?_) AllReadyH.nil
        go_simp
        refine (to_entries xs a cap _ (HE.out _ h10.1.below)).mono ?_
        rintro e v11 ⟨a2, rfl, hn2⟩
        have hr11 := hn2.at hle
        have hb11 := hn2.below
        clear hn2
        have h11 : BX w x v11 ∧ Below w14.heap.size w14 v11 := ⟨h10.1.on hb11, h10.2.trans (hb11.mono h10.2.size)⟩
        have al11 : v11.heap[w14.heap.size]? = some (.cells #[.slice none 0 0, .int .i64 0] 39 (0, 0)) := (hb11.block _ (Array.getElem?_eq_some_iff.1 al10).1).trans al10
        refine hK.out _ _ h11 (fun _ => ?_)
        clear hK K
        refine wpAnyH_ready (rs := [3]) (by kernel_rfl) (by simp) ?_
        refine AllReadyH.cons rfl (fun K hK => ?_) AllReadyH.nil
        go_simp
        refine (to_entry x _).mono ?_
        rintro e v12 ⟨rfl, hb12⟩
        have hr12 := hr11.kept hb12
        have h12 : BX w x v12 ∧ Below w14.heap.size w14 v12 := ⟨h11.1.on hb12, h11.2.trans (hb12.mono h11.2.size)⟩
        have al12 : v12.heap[w14.heap.size]? = some (.cells #[.slice none 0 0, .int .i64 0] 39 (0, 0)) := (hb12.block _ (Array.getElem?_eq_some_iff.1 al11).1).trans al11
        refine hK.out _ _ h12 (fun _ => ?_)
        clear hK K
        refine wpAnyH_ready (rs := [4]) (by kernel_rfl) (by simp) ?_
        refine AllReadyH.cons rfl (fun K hK => ?_) AllReadyH.nil
        go_simp
        refine (statePut_impl xs x a2 xs.length _ hr12).mono ?_
        rintro e v13 ⟨v, rfl, ho13, hb13⟩
        obtain ⟨a3, c3, rfl, -, -, -⟩ := ho13.at (spL_length xs x hle)
        have hr13 : EnsOwn v13 w14.heap.size (.slice a3 (spL xs x).length c3) (spL xs x) := owns_baseC ho13 h12.2.size
        clear ho13
        have h13 : BX w x v13 ∧ Below w14.heap.size w14 v13 := ⟨h12.1.on hb13, h12.2.trans (hb13.mono h12.2.size)⟩
        have al13 : v13.heap[w14.heap.size]? = some (.cells #[.slice none 0 0, .int .i64 0] 39 (0, 0)) := (hb13.block _ (Array.getElem?_eq_some_iff.1 al12).1).trans al12
        refine hK.out _ _ h13 (fun _ => ?_)
        clear hK K
        have hq0 : v13.cell? ⟨w14.heap.size, 0, none⟩ = some (.slice none 0 0) := cell_of_heap al13
        have hq1 : v13.cell? ⟨w14.heap.size, 1, none⟩ = some (.int .i64 0) := cell_of_heap al13
        have hfr : ∀ q, v13.frozen? ⟨w14.heap.size, q, none⟩ = false := fun q => frozen_of_heap al13
        have HF : Hid (OutAt w14 (spL xs x) (spC xs x) (w14.heap.size) a3 c3 ((v13.setCell ⟨w14.heap.size, 0, none⟩ (.slice a3 (spL xs x).length c3)).setCell ⟨w14.heap.size, 1, none⟩ (.int .i64 (spC xs x)))) := out_leaf h13.2 al13 hr13 lo10
        have hS : BX w x ((v13.setCell ⟨w14.heap.size, 0, none⟩ (.slice a3 (spL xs x).length c3)).setCell ⟨w14.heap.size, 1, none⟩ (.int .i64 (spC xs x))) := (h13.1.setCell (Nat.lt_of_lt_of_le HBX.out.lt lo10)).setCell (Nat.lt_of_lt_of_le HBX.out.lt lo10)
        refine wpAnyH_ready (rs := [6]) (by kernel_rfl) (by simp) ?_
        refine AllReadyH.cons rfl (fun K hK => ?_) AllReadyH.nil
        go_simp
        refine hK.out _ _ ⟨hS, HF.out.below⟩ (fun _ => ?_)
        clear hK K
        refine wpAnyH_done (by kernel_rfl) ?_ _
        go_wp2_with fail
        go_meet
        exact ⟨_, a3, c3, rfl, HF⟩
    obtain ⟨B12, a12, c12, rfl, HO12⟩ := hcut
    have H15 : Hid (LP w x (spL xs x) (spC xs x) B6 a6 c6 w6.heap.size a8 c8 wc ∧ Marks wc a8 (spL xs x).length 1) := ⟨H14.out.1.on HO12.out.below, H14.out.2.kept HO12.out.below⟩
    have HO15 : Hid (EnsAt wc a12 (spL xs x)) := HO12.out.own.ensAt hLL
    have f0 : wc.cell? ⟨B12, 0, none⟩ = some (.slice a12 (spL xs x).length c12) := cell_of_heap HO12.out.box
    have f1 : wc.cell? ⟨B12, 1, none⟩ = some (.int .i64 (spC xs x)) := cell_of_heap HO12.out.box
    clear H14 HO12 HBX
    have e0 : wc.cell? ⟨w6.heap.size, 0, none⟩ = some (.slice a8 (spL xs x).length c8) := cell_of_heap H15.out.1.b8
    have e1 : wc.cell? ⟨w6.heap.size, 1, none⟩ = some (.int .i64 (spC xs x)) := cell_of_heap H15.out.1.b8
    have d0 : wc.cell? ⟨B6, 0, none⟩ = some (.slice a6 (spL xs x).length c6) := cell_of_heap H15.out.1.b6
    have d1 : wc.cell? ⟨B6, 1, none⟩ = some (.int .i64 (spC xs x)) := cell_of_heap H15.out.1.b6
    go_wp2_with fail
    refine (eq_out (spL xs x) (spC xs x) a12 a6 c12 c6 wc HO15.out (H15.out.1.o6.ensAt hLL)).mono ?_
    rintro e w16 ⟨rfl, hb16⟩
    have H16 : Hid (LP w x (spL xs x) (spC xs x) B6 a6 c6 w6.heap.size a8 c8 w16 ∧ Marks w16 a8 (spL xs x).length 1) := ⟨H15.out.1.on hb16, H15.out.2.kept hb16⟩
    clear hb16 H15 e0 e1 d0 d1 f0 f1 HO15
    have e0 : w16.cell? ⟨w6.heap.size, 0, none⟩ = some (.slice a8 (spL xs x).length c8) := cell_of_heap H16.out.1.b8
    have e1 : w16.cell? ⟨w6.heap.size, 1, none⟩ = some (.int .i64 (spC xs x)) := cell_of_heap H16.out.1.b8
    have d0 : w16.cell? ⟨B6, 0, none⟩ = some (.slice a6 (spL xs x).length c6) := cell_of_heap H16.out.1.b6
    have d1 : w16.cell? ⟨B6, 1, none⟩ = some (.int .i64 (spC xs x)) := cell_of_heap H16.out.1.b6
    go_wp2_with fail
    refine (held_out (spL xs x).length (spC xs x) a8 c8 (by omega) w16 H16.out.2).mono ?_
    rintro e w17 ⟨rfl, hb17⟩
    rw [← HM.out]
    have H17 : Hid (LP w x (spL xs x) (spC xs x) B6 a6 c6 w6.heap.size a8 c8 w17) := H16.out.1.on hb17
    clear hb17 H16 e0 e1 d0 d1
    go_wp2
    go_ret
    exact ⟨rfl, H17.out.bx.below⟩
  · have HS : Hid (szN xs.length 1048576 = -1) := szN_no hs
    clear h hs
    go_enter Try.func4, Try.ntmps4
    go_wp2_with fail
    refine (sz_entries xs a cap 1048576 _ hl (by omega) (by omega)).mono ?_
    rintro e wz ⟨rfl, rfl⟩
    rw [HS.out]
    go_wp2
    go_ret
    exact ⟨rfl, HBS.below⟩
end Go.Proofs.Ytkjcghejpdbeiaa
