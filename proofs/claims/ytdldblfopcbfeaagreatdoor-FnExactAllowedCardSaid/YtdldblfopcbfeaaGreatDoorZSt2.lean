/- Rows of entries: what the specification and the program tell of them. -/
import Derived.Test.YtdldblfopcbfeaaGreatDoorZSt
import Derived.Deep.RegionHeld
namespace Go.Proofs.YtdldblfopcbfeaaGreatDoor
open Go.RowKit

/-- A row of entries in memory. -/
structure EnsAt (w : World) (a : Option Addr) (xs : List En) : Prop where
  len : xs.length ≤ 1048576
  row : 0 < xs.length → ∃ b off, a = some ⟨b, off, none⟩ ∧ b < w.heap.size ∧ ∀ i (h : i < xs.length) j, j < 3 → w.cell? ⟨b, off + (i * 3 + j), none⟩ = (enCells xs[i])[j]?
theorem EnsAt.kept {w w' : World} {a : Option Addr} {xs : List En} (h : EnsAt w a xs) (hb : Below w.heap.size w w') : EnsAt w' a xs := by
  refine ⟨h.len, fun hl => ?_⟩
  obtain ⟨b, off, ha, hbb, hc⟩ := h.row hl
  exact ⟨b, off, ha, Nat.lt_of_lt_of_le hbb hb.size, fun i hi j hj => (hb.cell (p := ⟨b, off + (i * 3 + j), none⟩) hbb).trans (hc i hi j hj)⟩
/-- The row rises at a place. -/
def riseAt (xs : List En) (i : Nat) : Bool := match i with
  | 0 => true
  | j + 1 => match xs[j]?, xs[j + 1]? with
    | some x, some y => lessB x y
    | _, _ => true
def riseB (xs : List En) : Bool := (List.range xs.length).all (riseAt xs)
def rowE (gone : Bool) (xs : List En) : Bool := decide (xs.length ≤ 400) && riseB xs && xs.all (entB gone)
theorem riseAt_succ {xs : List En} {j : Nat} (h : j + 1 < xs.length) : riseAt xs (j + 1) = lessB xs[j] xs[j + 1] := by
  simp [riseAt, List.getElem?_eq_getElem h, List.getElem?_eq_getElem (show j < xs.length by omega)]
theorem riseB_no {xs : List En} {k : Nat} (hk : k < xs.length) (h : riseAt xs k = false) : riseB xs = false := List.all_eq_false.2 ⟨k, List.mem_range.2 hk, by simp [h]⟩
theorem riseB_yes {xs : List En} (h : ∀ j, j < xs.length → riseAt xs j = true) : riseB xs = true := List.all_eq_true.2 fun j hj => h j (List.mem_range.1 hj)
set_option maxHeartbeats 4000000 in
set_option maxRecDepth 100000 in
theorem rise_impl (xs : List En) (a : Option Addr) (cap : Nat) (w : World) (h : EnsAt w a xs) :
    Calls Tryz.prog 85 #[.slice a xs.length cap] w fun e w' => e = .returned (.bool (riseB xs)) ∧ Below w.heap.size w w' := by
  have hl := h.len
  have H : Hid (EnsAt w a xs) := h
  clear h
  go_enter Tryz.func85, Tryz.ntmps85
  go_wp2
  go_loopw [3] (fun i wr => ∃ j : Nat, j ≤ xs.length ∧ i = .int .i64 (j + 1 : Nat) ∧ Hid (∀ q, q < j + 1 → riseAt xs q = true) ∧ Below w.heap.size w wr) (fun i _ => xs.length + 1 - (intOf i).toNat)
  case atStart => exact ⟨0, Nat.zero_le _, rfl, fun q hq => (by have : q = 0 := (by omega); subst this; rfl), Below.refl _ _⟩
  case round =>
    obtain ⟨j, hj, rfl, HO, hbw⟩ := hrel
    by_cases hlt : j + 1 < xs.length
    · have HE : Hid (EnsAt wr a xs) := H.out.kept hbw
      obtain ⟨b, off, rfl, hbb, hcell⟩ := HE.out.row (by omega)
      have hg0 : wr.cell? ⟨b, off + j * 3, none⟩ = some (.int .i64 xs[j].kind) := by
        have := hcell j (by omega) 0 (by omega)
        exact this
      have hg1 : wr.cell? ⟨b, off + j * 3 + 1, none⟩ = some (.int .i64 xs[j].key) := by
        have := hcell j (by omega) 1 (by omega)
        rwa [← Nat.add_assoc] at this
      have hg2 : wr.cell? ⟨b, off + j * 3 + 2, none⟩ = some (.int .i64 xs[j].id) := by
        have := hcell j (by omega) 2 (by omega)
        rwa [← Nat.add_assoc] at this
      have hc0 : wr.cell? ⟨b, off + (j + 1) * 3, none⟩ = some (.int .i64 xs[j + 1].kind) := by
        have := hcell (j + 1) hlt 0 (by omega)
        exact this
      have hc1 : wr.cell? ⟨b, off + (j + 1) * 3 + 1, none⟩ = some (.int .i64 xs[j + 1].key) := by
        have := hcell (j + 1) hlt 1 (by omega)
        rwa [← Nat.add_assoc] at this
      have hc2 : wr.cell? ⟨b, off + (j + 1) * 3 + 2, none⟩ = some (.int .i64 xs[j + 1].id) := by
        have := hcell (j + 1) hlt 2 (by omega)
        rwa [← Nat.add_assoc] at this
      clear hcell
      have HC := cmpS_less xs[j] xs[j + 1]
      cases hless : lessB xs[j] xs[j + 1]
      · have HS : Hid (riseB xs = false) := riseB_no hlt (by rw [riseAt_succ hlt]; exact hless)
        have HLE : Hid (0 ≤ cmpS xs[j] xs[j + 1]) := by rw [hless] at HC; simpa [Hid] using HC
        clear HC hless
        go_wp2
        refine wp_region_held_drew (S := (fun W => Below wr.heap.size wr W)) (by kernel_rfl) (Below.drew (Below.refl _ _)) (fun hHeld => ?_)
        refine wpAnyH_take (i := 0) (v := (.slice (some ⟨b, off, none⟩) xs.length cap)) rfl (by kernel_rfl) (by kernel_rfl) (by kernel_rfl) (fun _ _ _ h => h) (Or.inl ⟨by kernel_rfl, ?_⟩) hHeld ?_
        · intro W hW
          go_simp
        refine wpAnyH_take (i := 1) (v := (.int .i64 (j + 1 : Nat))) rfl (by kernel_rfl) (by kernel_rfl) (by kernel_rfl) (fun _ _ _ h => h) (Or.inl ⟨by kernel_rfl, ?_⟩) hHeld ?_
        · intro W hW
          go_simp
        refine wpAnyH_take (i := 2) (v := (.int .i64 (j : Nat))) rfl (by kernel_rfl) (by kernel_rfl) (by kernel_rfl) (fun _ _ _ h => h) (Or.inl ⟨by kernel_rfl, ?_⟩) hHeld ?_
        · intro W hW
          go_simp
          rw [IntKind.wrap_i64] <;> omega
        refine wpAnyH_take (i := 3) (v := (.pointer (some ⟨b, off + j * 3, none⟩))) rfl (by kernel_rfl) (by kernel_rfl) (by kernel_rfl) (fun _ _ _ h => h) (Or.inl ⟨by kernel_rfl, ?_⟩) hHeld ?_
        · intro W hW
          go_simp
          intro hbad
          exact absurd hbad (by omega)
        refine wpAnyH_take (i := 4) (v := (.agg #[.int .i64 xs[j].kind, .int .i64 xs[j].key, .int .i64 xs[j].id])) rfl (by kernel_rfl) (by kernel_rfl) (by kernel_rfl) (fun _ _ _ h => h) (Or.inl ⟨by kernel_rfl, ?_⟩) hHeld ?_
        · intro W hW
          have f0 := (hW.cell (p := ⟨b, off + j * 3, none⟩) hbb).trans hg0
          have f1 := (hW.cell (p := ⟨b, off + j * 3 + 1, none⟩) hbb).trans hg1
          have f2 := (hW.cell (p := ⟨b, off + j * 3 + 2, none⟩) hbb).trans hg2
          go_simp
        refine wpAnyH_take (i := 6) (v := (.slice (some ⟨b, off, none⟩) xs.length cap)) rfl (by kernel_rfl) (by kernel_rfl) (by kernel_rfl) (fun _ _ _ h => h) (Or.inl ⟨by kernel_rfl, ?_⟩) hHeld ?_
        · intro W hW
          go_simp
        refine wpAnyH_take (i := 7) (v := (.int .i64 (j + 1 : Nat))) rfl (by kernel_rfl) (by kernel_rfl) (by kernel_rfl) (fun _ _ _ h => h) (Or.inl ⟨by kernel_rfl, ?_⟩) hHeld ?_
        · intro W hW
          go_simp
        refine wpAnyH_take (i := 8) (v := (.pointer (some ⟨b, off + (j + 1) * 3, none⟩))) rfl (by kernel_rfl) (by kernel_rfl) (by kernel_rfl) (fun _ _ _ h => h) (Or.inl ⟨by kernel_rfl, ?_⟩) hHeld ?_
        · intro W hW
          go_simp
          intro hbad
          exact absurd hbad (by omega)
        refine wpAnyH_take (i := 9) (v := (.agg #[.int .i64 xs[j + 1].kind, .int .i64 xs[j + 1].key, .int .i64 xs[j + 1].id])) rfl (by kernel_rfl) (by kernel_rfl) (by kernel_rfl) (fun _ _ _ h => h) (Or.inl ⟨by kernel_rfl, ?_⟩) hHeld ?_
        · intro W hW
          have f0 := (hW.cell (p := ⟨b, off + (j + 1) * 3, none⟩) hbb).trans hc0
          have f1 := (hW.cell (p := ⟨b, off + (j + 1) * 3 + 1, none⟩) hbb).trans hc1
          have f2 := (hW.cell (p := ⟨b, off + (j + 1) * 3 + 2, none⟩) hbb).trans hc2
          go_simp
        refine wpAnyH_ready (rs := [5]) (by kernel_rfl) (by simp) ?_
        refine AllReadyH.cons rfl (fun K hK => ?_) AllReadyH.nil
        go_simp
        refine (slotOf_impl xs[j] _).mono ?_
        rintro e w1 ⟨rfl, hb1⟩
        have hd1 : Below wr.heap.size wr w1 := hHeld.trans (hb1.mono hHeld.size)
        clear hb1
        refine hK.out _ _ hd1 (fun hH1 => ?_)
        clear hK K
        refine wpAnyH_ready (rs := [10]) (by kernel_rfl) (by simp) ?_
        refine AllReadyH.cons rfl (fun K hK => ?_) AllReadyH.nil
        go_simp
        refine (slotOf_impl xs[j + 1] _).mono ?_
        rintro e w2 ⟨rfl, hb2⟩
        have hd2 : Below wr.heap.size wr w2 := hH1.trans (hb2.mono hH1.size)
        clear hb2
        refine hK.out _ _ hd2 (fun hH2 => ?_)
        clear hK K
        refine wpAnyH_ready (rs := [11]) (by kernel_rfl) (by simp) ?_
        refine AllReadyH.cons rfl (fun K hK => ?_) AllReadyH.nil
        go_simp
        refine (slots_impl xs[j] xs[j + 1] _).mono ?_
        rintro e w3 ⟨rfl, hb3⟩
        have hd3 : Below wr.heap.size wr w3 := hH2.trans (hb3.mono hH2.size)
        clear hb3
        refine hK.out _ _ hd3 (fun hH3 => ?_)
        clear hK K
        refine wpAnyH_take (i := 12) (v := (.bool true)) rfl (by kernel_rfl) (by kernel_rfl) (by kernel_rfl) (fun _ _ _ h => h) (Or.inl ⟨by kernel_rfl, ?_⟩) hH3 ?_
        · intro W hW
          have hle := HLE.out
          go_simp
        refine wpAnyH_done (by kernel_rfl) ?_ _
        simp only [Act.put, List.setIfInBounds_toArray, List.set_cons_zero, List.set_cons_succ, List.getElem_toArray, List.getElem_cons_zero, List.getElem_cons_succ]
        go_wp2
        go_ret
        exact ⟨ret_bool HS.out.symm, hbw.trans (hH3.mono hbw.size)⟩
      · have HS : Hid (∀ q, q < j + 1 + 1 → riseAt xs q = true) := fun q hq => by
          by_cases e : q = j + 1
          · subst e
            rw [riseAt_succ hlt]
            exact hless
          · exact HO.out q (by omega)
        have HLE : Hid (cmpS xs[j] xs[j + 1] < 0) := by
          rw [hless] at HC
          simpa [Hid] using HC
        clear HC hless
        go_wp2
        refine wp_region_held_drew (S := (fun W => Below wr.heap.size wr W)) (by kernel_rfl) (Below.drew (Below.refl _ _)) (fun hHeld => ?_)
        refine wpAnyH_take (i := 0) (v := (.slice (some ⟨b, off, none⟩) xs.length cap)) rfl (by kernel_rfl) (by kernel_rfl) (by kernel_rfl) (fun _ _ _ h => h) (Or.inl ⟨by kernel_rfl, ?_⟩) hHeld ?_
        · intro W hW
          go_simp
        refine wpAnyH_take (i := 1) (v := (.int .i64 (j + 1 : Nat))) rfl (by kernel_rfl) (by kernel_rfl) (by kernel_rfl) (fun _ _ _ h => h) (Or.inl ⟨by kernel_rfl, ?_⟩) hHeld ?_
        · intro W hW
          go_simp
        refine wpAnyH_take (i := 2) (v := (.int .i64 (j : Nat))) rfl (by kernel_rfl) (by kernel_rfl) (by kernel_rfl) (fun _ _ _ h => h) (Or.inl ⟨by kernel_rfl, ?_⟩) hHeld ?_
        · intro W hW
          go_simp
          rw [IntKind.wrap_i64] <;> omega
        refine wpAnyH_take (i := 3) (v := (.pointer (some ⟨b, off + j * 3, none⟩))) rfl (by kernel_rfl) (by kernel_rfl) (by kernel_rfl) (fun _ _ _ h => h) (Or.inl ⟨by kernel_rfl, ?_⟩) hHeld ?_
        · intro W hW
          go_simp
          intro hbad
          exact absurd hbad (by omega)
        refine wpAnyH_take (i := 4) (v := (.agg #[.int .i64 xs[j].kind, .int .i64 xs[j].key, .int .i64 xs[j].id])) rfl (by kernel_rfl) (by kernel_rfl) (by kernel_rfl) (fun _ _ _ h => h) (Or.inl ⟨by kernel_rfl, ?_⟩) hHeld ?_
        · intro W hW
          have f0 := (hW.cell (p := ⟨b, off + j * 3, none⟩) hbb).trans hg0
          have f1 := (hW.cell (p := ⟨b, off + j * 3 + 1, none⟩) hbb).trans hg1
          have f2 := (hW.cell (p := ⟨b, off + j * 3 + 2, none⟩) hbb).trans hg2
          go_simp
        refine wpAnyH_take (i := 6) (v := (.slice (some ⟨b, off, none⟩) xs.length cap)) rfl (by kernel_rfl) (by kernel_rfl) (by kernel_rfl) (fun _ _ _ h => h) (Or.inl ⟨by kernel_rfl, ?_⟩) hHeld ?_
        · intro W hW
          go_simp
        refine wpAnyH_take (i := 7) (v := (.int .i64 (j + 1 : Nat))) rfl (by kernel_rfl) (by kernel_rfl) (by kernel_rfl) (fun _ _ _ h => h) (Or.inl ⟨by kernel_rfl, ?_⟩) hHeld ?_
        · intro W hW
          go_simp
        refine wpAnyH_take (i := 8) (v := (.pointer (some ⟨b, off + (j + 1) * 3, none⟩))) rfl (by kernel_rfl) (by kernel_rfl) (by kernel_rfl) (fun _ _ _ h => h) (Or.inl ⟨by kernel_rfl, ?_⟩) hHeld ?_
        · intro W hW
          go_simp
          intro hbad
          exact absurd hbad (by omega)
        refine wpAnyH_take (i := 9) (v := (.agg #[.int .i64 xs[j + 1].kind, .int .i64 xs[j + 1].key, .int .i64 xs[j + 1].id])) rfl (by kernel_rfl) (by kernel_rfl) (by kernel_rfl) (fun _ _ _ h => h) (Or.inl ⟨by kernel_rfl, ?_⟩) hHeld ?_
        · intro W hW
          have f0 := (hW.cell (p := ⟨b, off + (j + 1) * 3, none⟩) hbb).trans hc0
          have f1 := (hW.cell (p := ⟨b, off + (j + 1) * 3 + 1, none⟩) hbb).trans hc1
          have f2 := (hW.cell (p := ⟨b, off + (j + 1) * 3 + 2, none⟩) hbb).trans hc2
          go_simp
        refine wpAnyH_ready (rs := [5]) (by kernel_rfl) (by simp) ?_
        refine AllReadyH.cons rfl (fun K hK => ?_) AllReadyH.nil
        go_simp
        refine (slotOf_impl xs[j] _).mono ?_
        rintro e w1 ⟨rfl, hb1⟩
        have hd1 : Below wr.heap.size wr w1 := hHeld.trans (hb1.mono hHeld.size)
        clear hb1
        refine hK.out _ _ hd1 (fun hH1 => ?_)
        clear hK K
        refine wpAnyH_ready (rs := [10]) (by kernel_rfl) (by simp) ?_
        refine AllReadyH.cons rfl (fun K hK => ?_) AllReadyH.nil
        go_simp
        refine (slotOf_impl xs[j + 1] _).mono ?_
        rintro e w2 ⟨rfl, hb2⟩
        have hd2 : Below wr.heap.size wr w2 := hH1.trans (hb2.mono hH1.size)
        clear hb2
        refine hK.out _ _ hd2 (fun hH2 => ?_)
        clear hK K
        refine wpAnyH_ready (rs := [11]) (by kernel_rfl) (by simp) ?_
        refine AllReadyH.cons rfl (fun K hK => ?_) AllReadyH.nil
        go_simp
        refine (slots_impl xs[j] xs[j + 1] _).mono ?_
        rintro e w3 ⟨rfl, hb3⟩
        have hd3 : Below wr.heap.size wr w3 := hH2.trans (hb3.mono hH2.size)
        clear hb3
        refine hK.out _ _ hd3 (fun hH3 => ?_)
        clear hK K
        refine wpAnyH_take (i := 12) (v := (.bool false)) rfl (by kernel_rfl) (by kernel_rfl) (by kernel_rfl) (fun _ _ _ h => h) (Or.inl ⟨by kernel_rfl, ?_⟩) hH3 ?_
        · intro W hW
          have hle := HLE.out
          go_simp
        refine wpAnyH_done (by kernel_rfl) ?_ _
        simp only [Act.put, List.setIfInBounds_toArray, List.set_cons_zero, List.set_cons_succ, List.getElem_toArray, List.getElem_cons_zero, List.getElem_cons_succ]
        go_wp2
        go_roundw
        case rel => exact ⟨j + 1, by omega, by go_num, HS, hbw.trans (hH3.mono hbw.size)⟩
        case measure => simp [intOf]; omega
    · have HS : Hid (riseB xs = true) := riseB_yes fun q hq => HO.out q (by omega)
      go_wp2
      go_ret
      exact ⟨ret_bool HS.out.symm, hbw⟩
end Go.Proofs.YtdldblfopcbfeaaGreatDoor
