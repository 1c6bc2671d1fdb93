/- StateRight, of the program and of the specification. What the laws do with rows of entries: their size, a copy of them, and whether two are alike. -/
import Derived.Test.YteajcmkaoahbeaaGreatDoorZSt3
import Derived.Test.YteajcmkaoahbeaaGreatDoorZEvTo
namespace Go.Proofs.YteajcmkaoahbeaaGreatDoor
open Go.RowKit

set_option maxHeartbeats 4000000 in
set_option maxRecDepth 100000 in
theorem entries_stand (xs : List En) (a : Option Addr) (cap : Nat) (w : World) (h : EnsAt w a xs) :
    Calls Tryz.prog 113 #[.slice a xs.length cap, .func (.func 114) #[] #[]] w fun e w' => e = .returned (.bool (rowE false xs)) ∧ Below w.heap.size w w' := by
  have hl := h.len
  have H : Hid (EnsAt w a xs) := h
  clear h
  by_cases hbig : xs.length ≤ 400
  · have bb : decide (400 < xs.length) = false := decide_eq_false (by omega)
    cases hrise : riseB xs
    · have HS : Hid (rowE false xs = false) := rowE_rise hrise
      go_enter Tryz.func113, Tryz.ntmps113
      go_wp2_with (go_at_call 148; refine (rise_impl xs a cap _ H.out).mono ?_; rintro e w1 ⟨rfl, hb1⟩; rw [hrise])
      go_ret
      exact ⟨ret_bool HS.out.symm, hb1⟩
    · go_enter Tryz.func113, Tryz.ntmps113
      go_wp2_with (go_at_call 148; refine (rise_impl xs a cap _ H.out).mono ?_; rintro e w1 ⟨rfl, hb1⟩; rw [hrise]; have HB1 : Hid (Below w.heap.size w w1) := hb1; clear hb1)
      go_loopw [17] (fun i wr => ∃ k : Nat, k ≤ xs.length ∧ i = .int .i64 k ∧ Hid (∀ q (h : q < xs.length), q < k → entB false xs[q] = true) ∧ Below w.heap.size w wr) (fun i _ => xs.length - (intOf i).toNat)
      case atStart => exact ⟨0, Nat.zero_le _, rfl, fun _ _ h => absurd h (Nat.not_lt_zero _), HB1.out⟩
      case round =>
        clear HB1
        obtain ⟨k, hk, rfl, HO, hbw⟩ := hrel
        by_cases hlt : k < xs.length
        · have HE : Hid (EnsAt wr a xs) := H.out.kept hbw
          obtain ⟨b, off, rfl, hbb, hcell⟩ := HE.out.row (by omega)
          have hc0 : wr.cell? ⟨b, off + k * 3, none⟩ = some (.int .i64 xs[k].kind) := hcell k hlt 0 (by omega)
          have hc1 : wr.cell? ⟨b, off + k * 3 + 1, none⟩ = some (.int .i64 xs[k].key) := by
            have := hcell k hlt 1 (by omega)
            rwa [← Nat.add_assoc] at this
          have hc2 : wr.cell? ⟨b, off + k * 3 + 2, none⟩ = some (.int .i64 xs[k].id) := by
            have := hcell k hlt 2 (by omega)
            rwa [← Nat.add_assoc] at this
          have HA : Hid (∀ o, Below w.heap.size w (wr.alloc o)) := fun o => hbw.alloc hbw.size o
          clear hcell
          go_wp2_with fail
          refine (canStand_impl xs[k] _).mono ?_
          rintro e w2 ⟨rfl, hb2⟩
          have HW : Hid (Below w.heap.size w w2) := (HA.out _).trans (hb2.mono (HA.out _).size)
          clear hb2
          cases hent : entB false xs[k]
          · have HS : Hid (rowE false xs = false) := rowE_ent hlt hent
            go_wp2
            go_ret
            exact ⟨ret_bool HS.out.symm, HW.out⟩
          · have HN : Hid (∀ q (h : q < xs.length), q < k + 1 → entB false xs[q] = true) := fun q h hq => by
              by_cases e : q = k
              · subst e
                exact hent
              · exact HO.out q h (by omega)
            go_wp2
            go_roundw
            case rel => exact ⟨k + 1, by omega, by go_num, HN, HW.out⟩
            case measure => simp [intOf]; omega
        · have HS : Hid (rowE false xs = true) := rowE_yes hbig hrise fun q hq => HO.out q hq (by omega)
          go_wp2
          go_ret
          exact ⟨ret_bool HS.out.symm, hbw⟩
  · have bb : decide (400 < xs.length) = true := decide_eq_true (by omega)
    have HS : Hid (rowE false xs = false) := rowE_big hbig
    go_enter Tryz.func113, Tryz.ntmps113
    go_wp2
    go_ret
    exact ⟨ret_bool HS.out.symm, Below.refl _ _⟩
set_option maxHeartbeats 1000000 in
set_option maxRecDepth 100000 in
theorem state_spec_ (xs : List En) (a : Option Addr) (cap : Nat) (w : World) (h : EnsAt w a xs) :
    Calls Tryz.prog 64 #[.slice a xs.length cap] w fun e w' => e = .returned (.bool (rowE false xs)) ∧ Below w.heap.size w w' := by
  have HS := srow_spec false xs a cap w h
  clear h
  go_enter Tryz.func64, Tryz.ntmps64
  go_wp2_with (go_at_call 97; refine HS.mono ?_; rintro e w1 ⟨rfl, hb1⟩)
  go_ret
  exact ⟨rfl, hb1⟩
end Go.Proofs.YteajcmkaoahbeaaGreatDoor
namespace Go.Proofs.YteajcmkaoahbeaaGreatDoor
open Go.RowKit

/-- A row of entries that came in: as long as it may be. -/
structure EnsRaw (w : World) (a : Option Addr) (xs : List En) : Prop where
  len : xs.length ≤ maxLen
  row : 0 < xs.length → ∃ b off, a = some ⟨b, off, none⟩ ∧ b < w.heap.size ∧ ∀ i (h : i < xs.length) j, j < 3 → w.cell? ⟨b, off + (i * 3 + j), none⟩ = (enCells xs[i])[j]?
theorem EnsRaw.kept {w w' : World} {a : Option Addr} {xs : List En} (h : EnsRaw w a xs) (hb : Below w.heap.size w w') : EnsRaw w' a xs := by
  refine ⟨h.len, fun hl => ?_⟩
  obtain ⟨b, off, ha, hbb, hc⟩ := h.row hl
  exact ⟨b, off, ha, Nat.lt_of_lt_of_le hbb hb.size, fun i hi j hj => (hb.cell (p := ⟨b, off + (i * 3 + j), none⟩) hbb).trans (hc i hi j hj)⟩
theorem EnsRaw.at {w : World} {a : Option Addr} {xs : List En} (h : EnsRaw w a xs) (hl : xs.length ≤ 1048576) : EnsAt w a xs := ⟨hl, h.row⟩
/-- What is left of a measure. -/
def szN (x : Nat) (left : Int) : Int := if (x : Int) ≤ left then left - x else -1
theorem szN_yes {x : Nat} {left : Int} (h : (x : Int) ≤ left) : szN x left = left - x := if_pos h
theorem szN_no {x : Nat} {left : Int} (h : ¬ (x : Int) ≤ left) : szN x left = -1 := if_neg h
set_option maxHeartbeats 1000000 in
set_option maxRecDepth 100000 in
theorem sz_entries (xs : List En) (a : Option Addr) (cap : Nat) (left : Int) (w : World) (hl : xs.length ≤ maxLen) (h0 : 0 ≤ left) (h1 : left ≤ 1048576) :
    Calls Tryz.prog 36 #[.slice a xs.length cap, .int .i64 left] w fun e w' => e = .returned (.int .i64 (szN xs.length left)) ∧ w = w' := by
  unfold maxLen at hl
  by_cases c : (xs.length : Int) ≤ left
  · have HS : Hid (szN xs.length left = left - xs.length) := szN_yes c
    go_enter Tryz.func36, Tryz.ntmps36
    go_wp2
    go_ret
    exact ⟨ret_int HS.out.symm, rfl⟩
  · have HS : Hid (szN xs.length left = -1) := szN_no c
    go_enter Tryz.func36, Tryz.ntmps36
    go_wp2
    go_ret
    exact ⟨ret_int HS.out.symm, rfl⟩
set_option maxHeartbeats 1000000 in
set_option maxRecDepth 100000 in
theorem to_entry (x : En) (w : World) : Calls Tryz.prog 71 #[.agg #[.int .i64 x.kind, .int .i64 x.key, .int .i64 x.id]] w fun e w' => e = .returned (.agg #[.int .i64 x.kind, .int .i64 x.key, .int .i64 x.id]) ∧ Below w.heap.size w w' := by
  go_enter Tryz.func71, Tryz.ntmps71
  go_wp2
  refine bodyPost_ret (v := .agg #[.int .i64 x.kind, .int .i64 x.key, .int .i64 x.id]) (by simp [results, Tryz.results71, go_sem]) rfl ⟨rfl, ?_⟩
  exact (((Below.refl _ _).alloc (Nat.le_refl _) _).alloc (by simp) _).alloc (by simp; omega) _
set_option maxHeartbeats 1000000 in
set_option maxRecDepth 100000 in
theorem eq_entry (x : En) (w : World) : Calls Tryz.prog 47 #[.agg #[.int .i64 x.kind, .int .i64 x.key, .int .i64 x.id], .agg #[.int .i64 x.kind, .int .i64 x.key, .int .i64 x.id]] w fun e w' => e = .returned (.bool true) ∧ Below w.heap.size w w' := by
  go_enter Tryz.func47, Tryz.ntmps47
  go_wp2
  go_ret
  exact ⟨rfl, ((Below.refl _ _).alloc (Nat.le_refl _) _).alloc (by simp) _⟩
set_option maxHeartbeats 4000000 in
set_option maxRecDepth 100000 in
theorem eq_entries (xs : List En) (a1 a2 : Option Addr) (cap1 cap2 : Nat) (w : World) (h1 : EnsAt w a1 xs) (h2 : EnsAt w a2 xs) :
    Calls Tryz.prog 15 #[.slice a1 xs.length cap1, .slice a2 xs.length cap2] w fun e w' => e = .returned (.bool true) ∧ Below w.heap.size w w' := by
  have hl := h1.len
  have H1 : Hid (EnsAt w a1 xs) := h1
  have H2 : Hid (EnsAt w a2 xs) := h2
  clear h1 h2
  go_enter Tryz.func15, Tryz.ntmps15
  go_wp2
  go_loopw [5] (fun i wr => ∃ k : Nat, k ≤ xs.length ∧ i = .int .i64 k ∧ Below w.heap.size w wr) (fun i _ => xs.length - (intOf i).toNat)
  case atStart => exact ⟨0, Nat.zero_le _, rfl, Below.refl _ _⟩
  case round =>
    obtain ⟨k, hk, rfl, hbw⟩ := hrel
    by_cases hlt : k < xs.length
    · have HE1 : Hid (EnsAt wr a1 xs) := H1.out.kept hbw
      have HE2 : Hid (EnsAt wr a2 xs) := H2.out.kept hbw
      obtain ⟨b1, off1, rfl, hbb1, hcell1⟩ := HE1.out.row (by omega)
      obtain ⟨b2, off2, rfl, hbb2, hcell2⟩ := HE2.out.row (by omega)
      have hc0 : wr.cell? ⟨b1, off1 + k * 3, none⟩ = some (.int .i64 xs[k].kind) := by
        have := hcell1 k hlt 0 (by omega)
        exact this
      have hc1 : wr.cell? ⟨b1, off1 + k * 3 + 1, none⟩ = some (.int .i64 xs[k].key) := by
        have := hcell1 k hlt 1 (by omega)
        rwa [← Nat.add_assoc] at this
      have hc2 : wr.cell? ⟨b1, off1 + k * 3 + 2, none⟩ = some (.int .i64 xs[k].id) := by
        have := hcell1 k hlt 2 (by omega)
        rwa [← Nat.add_assoc] at this
      have hg0 : wr.cell? ⟨b2, off2 + k * 3, none⟩ = some (.int .i64 xs[k].kind) := by
        have := hcell2 k hlt 0 (by omega)
        exact this
      have hg1 : wr.cell? ⟨b2, off2 + k * 3 + 1, none⟩ = some (.int .i64 xs[k].key) := by
        have := hcell2 k hlt 1 (by omega)
        rwa [← Nat.add_assoc] at this
      have hg2 : wr.cell? ⟨b2, off2 + k * 3 + 2, none⟩ = some (.int .i64 xs[k].id) := by
        have := hcell2 k hlt 2 (by omega)
        rwa [← Nat.add_assoc] at this
      clear hcell1 hcell2
      go_wp2
      refine wp_region_held_drew (S := (fun W => Below wr.heap.size wr W)) (by kernel_rfl) (Below.drew (Below.refl _ _)) (fun hHeld => ?_)
      refine wpAnyH_take (i := 0) (v := (.slice (some ⟨b1, off1, none⟩) xs.length cap1)) rfl (by kernel_rfl) (by kernel_rfl) (by kernel_rfl) (fun _ _ _ h => h) (Or.inl ⟨by kernel_rfl, ?_⟩) hHeld ?_
      · intro W hW
        go_simp
      refine wpAnyH_take (i := 1) (v := (.int .i64 k)) rfl (by kernel_rfl) (by kernel_rfl) (by kernel_rfl) (fun _ _ _ h => h) (Or.inl ⟨by kernel_rfl, ?_⟩) hHeld ?_
      · intro W hW
        go_simp
      refine wpAnyH_take (i := 2) (v := (.pointer (some ⟨b1, off1 + k * 3, none⟩))) rfl (by kernel_rfl) (by kernel_rfl) (by kernel_rfl) (fun _ _ _ h => h) (Or.inl ⟨by kernel_rfl, ?_⟩) hHeld ?_
      · intro W hW
        go_simp
      refine wpAnyH_take (i := 3) (v := (.agg #[.int .i64 xs[k].kind, .int .i64 xs[k].key, .int .i64 xs[k].id])) rfl (by kernel_rfl) (by kernel_rfl) (by kernel_rfl) (fun _ _ _ h => h) (Or.inl ⟨by kernel_rfl, ?_⟩) hHeld ?_
      · intro W hW
        have f0 := (hW.cell (p := ⟨b1, off1 + k * 3, none⟩) hbb1).trans hc0
        have f1 := (hW.cell (p := ⟨b1, off1 + k * 3 + 1, none⟩) hbb1).trans hc1
        have f2 := (hW.cell (p := ⟨b1, off1 + k * 3 + 2, none⟩) hbb1).trans hc2
        go_simp
      refine wpAnyH_take (i := 4) (v := (.slice (some ⟨b2, off2, none⟩) xs.length cap2)) rfl (by kernel_rfl) (by kernel_rfl) (by kernel_rfl) (fun _ _ _ h => h) (Or.inl ⟨by kernel_rfl, ?_⟩) hHeld ?_
      · intro W hW
        go_simp
      refine wpAnyH_take (i := 5) (v := (.int .i64 k)) rfl (by kernel_rfl) (by kernel_rfl) (by kernel_rfl) (fun _ _ _ h => h) (Or.inl ⟨by kernel_rfl, ?_⟩) hHeld ?_
      · intro W hW
        go_simp
      refine wpAnyH_take (i := 6) (v := (.pointer (some ⟨b2, off2 + k * 3, none⟩))) rfl (by kernel_rfl) (by kernel_rfl) (by kernel_rfl) (fun _ _ _ h => h) (Or.inl ⟨by kernel_rfl, ?_⟩) hHeld ?_
      · intro W hW
        go_simp
      refine wpAnyH_take (i := 7) (v := (.agg #[.int .i64 xs[k].kind, .int .i64 xs[k].key, .int .i64 xs[k].id])) rfl (by kernel_rfl) (by kernel_rfl) (by kernel_rfl) (fun _ _ _ h => h) (Or.inl ⟨by kernel_rfl, ?_⟩) hHeld ?_
      · intro W hW
        have f0 := (hW.cell (p := ⟨b2, off2 + k * 3, none⟩) hbb2).trans hg0
        have f1 := (hW.cell (p := ⟨b2, off2 + k * 3 + 1, none⟩) hbb2).trans hg1
        have f2 := (hW.cell (p := ⟨b2, off2 + k * 3 + 2, none⟩) hbb2).trans hg2
        go_simp
      refine wpAnyH_ready (rs := [8]) (by kernel_rfl) (by simp) ?_
      refine AllReadyH.cons rfl (fun K hK => ?_) AllReadyH.nil
      go_simp
      refine (eq_entry xs[k] _).mono ?_
      rintro e w1 ⟨rfl, hb1⟩
      have hd1 : Below wr.heap.size wr w1 := hHeld.trans (hb1.mono hHeld.size)
      clear hb1
      refine hK.out _ _ hd1 (fun hH1 => ?_)
      clear hK K
      refine wpAnyH_take (i := 9) (v := (.bool false)) rfl (by kernel_rfl) (by kernel_rfl) (by kernel_rfl) (fun _ _ _ h => h) (Or.inl ⟨by kernel_rfl, ?_⟩) hH1 ?_
      · intro W hW
        go_simp
      refine wpAnyH_done (by kernel_rfl) ?_ _
      simp only [Act.put, List.setIfInBounds_toArray, List.set_cons_zero, List.set_cons_succ, List.getElem_toArray, List.getElem_cons_zero, List.getElem_cons_succ]
      go_wp2
      go_roundw
      case rel => exact ⟨k + 1, by omega, by go_num, hbw.trans (hH1.mono hbw.size)⟩
      case measure => simp [intOf]; omega
    · go_wp2
      go_ret
      exact ⟨rfl, hbw⟩
/-- Three cells set, one behind the other. -/
def set3 (w : World) (G o : Nat) (v0 v1 v2 : Value) : World := ((w.setCell ⟨G, o, none⟩ v0).setCell ⟨G, o + 1, none⟩ v1).setCell ⟨G, o + 2, none⟩ v2
theorem set3_other (w : World) (G o : Nat) (v0 v1 v2 : Value) (q : Nat) (h : q < o ∨ o + 3 ≤ q) : (set3 w G o v0 v1 v2).cell? ⟨G, q, none⟩ = w.cell? ⟨G, q, none⟩ := by
  unfold set3
  rw [World.cell?_setCell_other _ ⟨G, o + 2, none⟩ ⟨G, q, none⟩ _ (fun e => by have := congrArg Addr.off e; simp at this; omega)]
  rw [World.cell?_setCell_other _ ⟨G, o + 1, none⟩ ⟨G, q, none⟩ _ (fun e => by have := congrArg Addr.off e; simp at this; omega)]
  rw [World.cell?_setCell_other _ ⟨G, o, none⟩ ⟨G, q, none⟩ _ (fun e => by have := congrArg Addr.off e; simp at this; omega)]
theorem set3_cell0 {w : World} {G o : Nat} (v0 v1 v2 : Value) {u : Value} (h : w.cell? ⟨G, o, none⟩ = some u) : (set3 w G o v0 v1 v2).cell? ⟨G, o, none⟩ = some v0 := by
  unfold set3
  rw [World.cell?_setCell_other _ ⟨G, o + 2, none⟩ ⟨G, o, none⟩ _ (by simp), World.cell?_setCell_other _ ⟨G, o + 1, none⟩ ⟨G, o, none⟩ _ (by simp)]
  exact World.cell?_setCell_same _ _ _ h
theorem set3_cell1 {w : World} {G o : Nat} (v0 v1 v2 : Value) {u : Value} (h : w.cell? ⟨G, o + 1, none⟩ = some u) : (set3 w G o v0 v1 v2).cell? ⟨G, o + 1, none⟩ = some v1 := by
  unfold set3
  rw [World.cell?_setCell_other _ ⟨G, o + 2, none⟩ ⟨G, o + 1, none⟩ _ (by simp)]
  refine World.cell?_setCell_same _ _ _ (u := u) ?_
  rw [World.cell?_setCell_other _ ⟨G, o, none⟩ ⟨G, o + 1, none⟩ _ (by simp)]
  exact h
theorem set3_cell2 {w : World} {G o : Nat} (v0 v1 v2 : Value) {u : Value} (h : w.cell? ⟨G, o + 2, none⟩ = some u) : (set3 w G o v0 v1 v2).cell? ⟨G, o + 2, none⟩ = some v2 := by
  unfold set3
  refine World.cell?_setCell_same _ _ _ (u := u) ?_
  rw [World.cell?_setCell_other _ ⟨G, o + 1, none⟩ ⟨G, o + 2, none⟩ _ (by simp), World.cell?_setCell_other _ ⟨G, o, none⟩ ⟨G, o + 2, none⟩ _ (by simp)]
  exact h
/-- The copy when k entries are laid in. -/
structure EnInv (w : World) (xs : List En) (k : Nat) (W : World) : Prop where
  cells : ∀ i (h : i < xs.length) j, i < k → j < 3 → W.cell? ⟨w.heap.size, i * 3 + j, none⟩ = (enCells xs[i])[j]?
  rest : ∀ q, k * 3 ≤ q → q < xs.length * 3 → ∃ u, W.cell? ⟨w.heap.size, q, none⟩ = some u
  free : ∀ q, W.frozen? ⟨w.heap.size, q, none⟩ = false
  below : Below w.heap.size w W
  there : w.heap.size < W.heap.size
theorem EnInv.next {w : World} {xs : List En} {k : Nat} {W W1 : World} (h : EnInv w xs k W) (hlt : k < xs.length) (hb : Below W.heap.size W W1) :
    EnInv w xs (k + 1) (set3 W1 w.heap.size (k * 3) (.int .i64 xs[k].kind) (.int .i64 xs[k].key) (.int .i64 xs[k].id)) := by
  have hz := h.there
  have old : ∀ q, W1.cell? ⟨w.heap.size, q, none⟩ = W.cell? ⟨w.heap.size, q, none⟩ := fun q => hb.cell (p := ⟨w.heap.size, q, none⟩) hz
  have hk : ∀ j, j < 3 → ∃ u, W1.cell? ⟨w.heap.size, k * 3 + j, none⟩ = some u := fun j hj => by
    rw [old]
    exact h.rest _ (by omega) (by omega)
  refine ⟨fun i hi j hik hj => ?_, fun q hq1 hq2 => ?_, fun q => ?_, ?_, ?_⟩
  · by_cases e : i < k
    · rw [set3_other _ _ _ _ _ _ _ (by omega), old]
      exact h.cells i hi j e hj
    · have e2 : i = k := by omega
      subst e2
      match j, hj with
      | 0, _ =>
        obtain ⟨u, hu⟩ := hk 0 (by omega)
        exact set3_cell0 _ _ _ hu
      | 1, _ =>
        obtain ⟨u, hu⟩ := hk 1 (by omega)
        exact set3_cell1 _ _ _ hu
      | 2, _ =>
        obtain ⟨u, hu⟩ := hk 2 (by omega)
        exact set3_cell2 _ _ _ hu
  · rw [set3_other _ _ _ _ _ _ _ (by omega), old]
    exact h.rest q (by omega) hq2
  · have : (set3 W1 w.heap.size (k * 3) (.int .i64 xs[k].kind) (.int .i64 xs[k].key) (.int .i64 xs[k].id)).frozen? ⟨w.heap.size, q, none⟩ = W1.frozen? ⟨w.heap.size, q, none⟩ := by unfold set3; simp
    rw [this, hb.frozen (p := ⟨w.heap.size, q, none⟩) hz]
    exact h.free q
  · unfold set3
    exact (((h.below.trans (hb.mono h.below.size)).setCell (Nat.le_refl _) _).setCell (Nat.le_refl _) _).setCell (Nat.le_refl _) _
  · have : (set3 W1 w.heap.size (k * 3) (.int .i64 xs[k].kind) (.int .i64 xs[k].key) (.int .i64 xs[k].id)).heap.size = W1.heap.size := by unfold set3; simp
    rw [this]
    exact Nat.lt_of_lt_of_le hz hb.size
/-- A copy of a row. -/
structure EnsNew (w : World) (xs : List En) (a : Option Addr) (W : World) : Prop where
  row : ∃ b, a = some ⟨b, 0, none⟩ ∧ w.heap.size ≤ b ∧ b < W.heap.size ∧ (∀ q, W.frozen? ⟨b, q, none⟩ = false) ∧ ∀ i (h : i < xs.length) j, j < 3 → W.cell? ⟨b, i * 3 + j, none⟩ = (enCells xs[i])[j]?
  below : Below w.heap.size w W
theorem EnsNew.at {w W : World} {xs : List En} {a : Option Addr} (h : EnsNew w xs a W) (hl : xs.length ≤ 1048576) : EnsAt W a xs := by
  obtain ⟨b, ha, _, hb, _, hc⟩ := h.row
  exact ⟨hl, fun _ => ⟨b, 0, ha, hb, fun i hi j hj => by rw [Nat.zero_add]; exact hc i hi j hj⟩⟩
theorem Tryz.infoEn : (Tryz.prog.info? 73).map (fun i => (i.zero, i.size, i.bytes)) = some (some (.agg #[.int .i64 0, .int .i64 0, .int .i64 0]), 3, 24) := by kernel_rfl
theorem made_there3 {w0 : World} {base G n : Nat} {e : TypeId} {ys : List Value} (h : w0.ownsRow base e 3 (.slice (some ⟨G, 0, none⟩) n n) n ys) : (∀ q, q < n * 3 → ∃ u, w0.cell? ⟨G, q, none⟩ = some u) ∧ (∀ q, w0.frozen? ⟨G, q, none⟩ = false) ∧ G < w0.heap.size := by
  rcases h.2 with ⟨h1, _⟩ | ⟨g, c, cur, h1, _, h2, _, _, h3, _⟩
  · cases h1
  · cases h1
    refine ⟨fun q hq => ?_, fun q => frozen_of_heap h2, (Array.getElem?_eq_some_iff.1 h2).1⟩
    rw [cell_of_heap h2]
    exact ⟨cur[q]'(by omega), Array.getElem?_eq_getElem _⟩
set_option maxHeartbeats 4000000 in
set_option maxRecDepth 100000 in
theorem to_entries (xs : List En) (a : Option Addr) (cap : Nat) (w : World) (h : EnsAt w a xs) :
    Calls Tryz.prog 42 #[.slice a xs.length cap] w fun e w' => ∃ a', e = .returned (.slice a' xs.length xs.length) ∧ EnsNew w xs a' w' := by
  obtain ⟨i0, hi, hz0, hz1, hz2⟩ := info_parts Tryz.infoEn
  have hl := h.len
  have H : Hid (EnsAt w a xs) := h
  clear h
  go_enter Tryz.func42, Tryz.ntmps42
  go_wp2_with (at_make; refine wpList_make_full _ rfl _ _ 28 rfl w.heap.size 73 i0 _ 3 Tryz.underlying28 hi hz0 hz1 .i64 .i64 _ _ xs.length rfl rfl (by omega) (by omega) (by rw [hz2]; omega) (by unfold maxLen; omega) (Nat.le_refl _) ?_; intro w0 hown0 hgrow0)
  have HI0 : Hid (EnInv w xs 0 w0) := by
    obtain ⟨q1, q2, q3⟩ := made_there3 hown0
    exact ⟨fun i _ j hik => absurd hik (Nat.not_lt_zero _), fun q _ hq => q1 q hq, q2, (Below.refl _ _).grown hgrow0 (Nat.le_refl _) (fun k h => by cases h), q3⟩
  clear hown0 hgrow0
  go_wp2
  go_loopw [4] (fun i wr => ∃ k : Nat, k ≤ xs.length ∧ i = .int .i64 k ∧ Hid (EnInv w xs k wr)) (fun i _ => xs.length - (intOf i).toNat)
  case atStart => exact ⟨0, Nat.zero_le _, rfl, HI0⟩
  case round =>
    clear HI0
    obtain ⟨k, hk, rfl, HI⟩ := hrel
    by_cases hlt : k < xs.length
    · have HE : Hid (EnsAt wr a xs) := H.out.kept HI.out.below
      obtain ⟨b, off, rfl, hbb, hcell⟩ := HE.out.row (by omega)
      have hc0 : wr.cell? ⟨b, off + k * 3, none⟩ = some (.int .i64 xs[k].kind) := by
        have := hcell k hlt 0 (by omega)
        exact this
      have hc1 : wr.cell? ⟨b, off + k * 3 + 1, none⟩ = some (.int .i64 xs[k].key) := by
        have := hcell k hlt 1 (by omega)
        rwa [← Nat.add_assoc] at this
      have hc2 : wr.cell? ⟨b, off + k * 3 + 2, none⟩ = some (.int .i64 xs[k].id) := by
        have := hcell k hlt 2 (by omega)
        rwa [← Nat.add_assoc] at this
      clear hcell
      go_wp2_with fail
      refine (to_entry xs[k] _).mono ?_
      rintro e w1 ⟨rfl, hb1⟩
      have HI1 : Hid (EnInv w xs (k + 1) (set3 w1 w.heap.size (k * 3) (.int .i64 xs[k].kind) (.int .i64 xs[k].key) (.int .i64 xs[k].id))) := HI.out.next hlt hb1
      have hold : ∀ j, j < 3 → ∃ u, w1.cell? ⟨w.heap.size, k * 3 + j, none⟩ = some u := fun j hj => by
        rw [hb1.cell (p := ⟨w.heap.size, k * 3 + j, none⟩) HI.out.there]
        exact HI.out.rest _ (by omega) (by omega)
      obtain ⟨ux0, hu0⟩ := hold 0 (by omega)
      obtain ⟨ux1, hu1⟩ := hold 1 (by omega)
      obtain ⟨ux2, hu2⟩ := hold 2 (by omega)
      have hf : ∀ q, w1.frozen? ⟨w.heap.size, q, none⟩ = false := fun q => by
        rw [hb1.frozen (p := ⟨w.heap.size, q, none⟩) HI.out.there]
        exact HI.out.free q
      rw [Nat.add_zero] at hu0
      clear hb1 hold hc0 hc1 hc2
      go_wp2
      go_roundw
      case rel => exact ⟨k + 1, by omega, by go_num, HI1⟩
      case measure => simp [intOf]; omega
    · have HE : Hid (EnsNew w xs (some ⟨w.heap.size, 0, none⟩) wr) := ⟨⟨w.heap.size, rfl, Nat.le_refl _, HI.out.there, HI.out.free, fun i hi j hj => HI.out.cells i hi j (by omega) hj⟩, HI.out.below⟩
      go_wp2
      go_ret
      exact ⟨_, rfl, HE.out⟩
end Go.Proofs.YteajcmkaoahbeaaGreatDoor
