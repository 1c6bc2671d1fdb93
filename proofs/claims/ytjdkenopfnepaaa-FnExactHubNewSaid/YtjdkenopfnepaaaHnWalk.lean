/- The law on HubNew walked. -/
import Derived.Test.YtjdkenopfnepaaaHnMake
namespace Go.Proofs.Ytjdkenopfnepaaa
open Go.RowKit

/-- The three rooms without anything, at block g. -/
structure HnG (W : World) (g : Nat) : Prop where
  lt : g < W.heap.size
  cell : ∀ i, i < 3 → ∀ j, j < 3 → W.cell? ⟨g, i * 3 + j, none⟩ = [Value.int .i64 ((i : Int) + 1), .slice none 0 0, .slice none 0 0][j]?
  froz : ∀ q, W.frozen? ⟨g, q, none⟩ = false
theorem HnG.on {W W' : World} {g : Nat} (h : HnG W g) (hb : Below W.heap.size W W') : HnG W' g :=
  ⟨Nat.lt_of_lt_of_le h.lt hb.size, fun i hi j hj => (World.cell?_of_block (a := ⟨g, i * 3 + j, none⟩) (hb.block g h.lt)).trans (h.cell i hi j hj), fun q => (World.frozen?_of_block (a := ⟨g, q, none⟩) (hb.block g h.lt)).trans (h.froz q)⟩
theorem HnG.but {W W' : World} {g b : Nat} (h : HnG W g) (hb : W.grownBy W' (some b)) (hne : g ≠ b) : HnG W' g := by
  have hk := hb.block g h.lt (by simpa using hne)
  exact ⟨Nat.lt_of_lt_of_le h.lt hb.size, fun i hi j hj => (World.cell?_of_block (a := ⟨g, i * 3 + j, none⟩) hk).trans (h.cell i hi j hj), fun q => (World.frozen?_of_block (a := ⟨g, q, none⟩) hk).trans (h.froz q)⟩
theorem HnG.set {W : World} {g : Nat} (h : HnG W g) {i : Nat} (hi : i < 3) : HnG (W.setCell ⟨g, i * 3, none⟩ (.int .i64 ((i : Int) + 1))) g := by
  refine ⟨by simpa [World.setCell] using h.lt, fun k hk j hj => ?_, fun q => ?_⟩
  · by_cases e : k * 3 + j = i * 3
    · have e1 : k = i := by omega
      have e2 : j = 0 := by omega
      subst e1
      subst e2
      have h0 := h.cell k hk 0 (by omega)
      exact World.cell?_setCell_same W ⟨g, k * 3, none⟩ _ h0
    · rw [World.cell?_setCell_other W ⟨g, i * 3, none⟩ ⟨g, k * 3 + j, none⟩ _ (fun x => e (by injection x with _ x2 _; exact x2.symm))]
      exact h.cell k hk j hj
  · rw [World.frozen?_setCell]
    exact h.froz q
/-- What the law holds: two houses, and their variables. -/
structure HL (w : World) (b1 b2 g c h d : Nat) (V : World) : Prop where
  below : Below w.heap.size w V
  one : HnG V g
  box1 : V.heap[b1]? = some (.cells #[.slice (some ⟨g, 0, none⟩) 3 c, .slice none 0 0] 59 (0, 0))
  two : HnG V h
  box2 : V.heap[b2]? = some (.cells #[.slice (some ⟨h, 0, none⟩) 3 d, .slice none 0 0] 59 (0, 0))
  far : w.heap.size ≤ g ∧ g < b1 ∧ b1 < h ∧ h < b2
theorem HL.on {w : World} {b1 b2 g c h d : Nat} {V V' : World} (k : HL w b1 b2 g c h d V) (hb : Below V.heap.size V V') : HL w b1 b2 g c h d V' :=
  ⟨k.below.trans (hb.mono k.below.size), k.one.on hb, (hb.block _ (Array.getElem?_eq_some_iff.1 k.box1).1).trans k.box1, k.two.on hb, (hb.block _ (Array.getElem?_eq_some_iff.1 k.box2).1).trans k.box2, k.far⟩
theorem HL.mark {w : World} {b1 b2 g c h d : Nat} {V V' : World} (k : HL w b1 b2 g c h d V) (h2 : HnG V' h) (hg : V.grownBy V' (some h)) : HL w b1 b2 g c h d V' := by
  obtain ⟨f1, f2, f3, f4⟩ := k.far
  have l1 := (Array.getElem?_eq_some_iff.1 k.box1).1
  have l2 := (Array.getElem?_eq_some_iff.1 k.box2).1
  refine ⟨k.below.trans ⟨hg.os, hg.tape, hg.output, hg.size, fun q hq => hg.block q (Nat.lt_of_lt_of_le hq k.below.size) (by simp; omega)⟩, k.one.but hg (by omega), (hg.block _ l1 (by simp; omega)).trans k.box1, h2, (hg.block _ l2 (by simp; omega)).trans k.box2, k.far⟩
theorem HubPost.got {w : World} {e : Ending} {w' : World} (h : HubPost w e w') : ∃ g c, e = .returned (.agg #[.slice (some ⟨g, 0, none⟩) 3 c, .slice none 0 0]) ∧ HnG w' g ∧ w.heap.size ≤ g ∧ Below w.heap.size w w' := by
  obtain ⟨a, c, rfl, ho, hb⟩ := h
  obtain ⟨a', c', e, hat, h2⟩ := ho.at
  cases e
  have hl : (roomsTo 3).length = 3 := roomsTo_len 3
  rcases h2 with ⟨_, h0⟩ | ⟨g, rfl, hge, hlt, hf⟩
  · omega
  · refine ⟨g, c, rfl, ⟨hlt, fun i hi j hj => ?_, hf⟩, hge, hb⟩
    obtain ⟨g', e, _, hc⟩ := hat (by omega)
    cases e
    rw [hc i (by omega) j hj]
    simp [roomsTo]
set_option maxHeartbeats 1000000 in
theorem eq_evs0 (w : World) : Calls Try.prog 136 #[.slice none 0 0, .slice none 0 0] w fun e w' => e = .returned (.bool true) ∧ w' = w := by
  go_enter Try.func136, Try.ntmps136
  go_wp2
  go_loopw [5] (fun i wr => i = .int .i64 (0 : Nat) ∧ wr = w) (fun _ _ => 0)
  case atStart => exact ⟨rfl, rfl⟩
  case round =>
    obtain ⟨rfl, rfl⟩ := hrel
    have hz : decide (((0 : Nat) : Int) < ((0 : Nat) : Int)) = false := decide_eq_false (by omega)
    go_wp2
    go_ret
    exact ⟨rfl, rfl⟩
set_option maxHeartbeats 1000000 in
theorem eq_spots0 (w : World) : Calls Try.prog 90 #[.slice none 0 0, .slice none 0 0] w fun e w' => e = .returned (.bool true) ∧ w' = w := by
  go_enter Try.func90, Try.ntmps90
  go_wp2
  go_loopw [5] (fun i wr => i = .int .i64 (0 : Nat) ∧ wr = w) (fun _ _ => 0)
  case atStart => exact ⟨rfl, rfl⟩
  case round =>
    obtain ⟨rfl, rfl⟩ := hrel
    have hz : decide (((0 : Nat) : Int) < ((0 : Nat) : Int)) = false := decide_eq_false (by omega)
    go_wp2
    go_ret
    exact ⟨rfl, rfl⟩
set_option maxHeartbeats 1000000 in
theorem mark_evs0 (k : Int) (w : World) : Calls Try.prog 123 #[.slice none 0 0, .int .i64 k] w fun e w' => e = .returned (.int .i64 k) ∧ w' = w := by
  go_enter Try.func123, Try.ntmps123
  go_wp2
  go_loopw [1, 5] (fun v i wr => v = .int .i64 k ∧ i = .int .i64 (0 : Nat) ∧ wr = w) (fun _ _ _ => 0)
  case atStart => exact ⟨rfl, rfl, rfl⟩
  case round =>
    obtain ⟨rfl, rfl, rfl⟩ := hrel
    have hz : decide (((0 : Nat) : Int) < ((0 : Nat) : Int)) = false := decide_eq_false (by omega)
    go_wp2
    go_ret
    exact ⟨rfl, rfl⟩
set_option maxHeartbeats 1000000 in
theorem held_evs0 (k : Int) (w : World) : Calls Try.prog 124 #[.slice none 0 0, .int .i64 k] w fun e w' => e = .returned (.int .i64 k) ∧ w' = w := by
  go_enter Try.func124, Try.ntmps124
  go_wp2
  go_loopw [1, 5] (fun v i wr => v = .int .i64 k ∧ i = .int .i64 (0 : Nat) ∧ wr = w) (fun _ _ _ => 0)
  case atStart => exact ⟨rfl, rfl, rfl⟩
  case round =>
    obtain ⟨rfl, rfl, rfl⟩ := hrel
    have hz : decide (((0 : Nat) : Int) < ((0 : Nat) : Int)) = false := decide_eq_false (by omega)
    go_wp2
    go_ret
    exact ⟨rfl, rfl⟩
set_option maxHeartbeats 1000000 in
theorem mark_spots0 (k : Int) (w : World) : Calls Try.prog 92 #[.slice none 0 0, .int .i64 k] w fun e w' => e = .returned (.int .i64 k) ∧ w' = w := by
  go_enter Try.func92, Try.ntmps92
  go_wp2
  go_loopw [1, 5] (fun v i wr => v = .int .i64 k ∧ i = .int .i64 (0 : Nat) ∧ wr = w) (fun _ _ _ => 0)
  case atStart => exact ⟨rfl, rfl, rfl⟩
  case round =>
    obtain ⟨rfl, rfl, rfl⟩ := hrel
    have hz : decide (((0 : Nat) : Int) < ((0 : Nat) : Int)) = false := decide_eq_false (by omega)
    go_wp2
    go_ret
    exact ⟨rfl, rfl⟩
set_option maxHeartbeats 1000000 in
theorem held_spots0 (k : Int) (w : World) : Calls Try.prog 94 #[.slice none 0 0, .int .i64 k] w fun e w' => e = .returned (.int .i64 k) ∧ w' = w := by
  go_enter Try.func94, Try.ntmps94
  go_wp2
  go_loopw [1, 5] (fun v i wr => v = .int .i64 k ∧ i = .int .i64 (0 : Nat) ∧ wr = w) (fun _ _ _ => 0)
  case atStart => exact ⟨rfl, rfl, rfl⟩
  case round =>
    obtain ⟨rfl, rfl, rfl⟩ := hrel
    have hz : decide (((0 : Nat) : Int) < ((0 : Nat) : Int)) = false := decide_eq_false (by omega)
    go_wp2
    go_ret
    exact ⟨rfl, rfl⟩
set_option maxHeartbeats 1000000 in
theorem eq_graph0 (r : Int) (w : World) : Calls Try.prog 121 #[.agg #[.int .i64 r, .slice none 0 0, .slice none 0 0], .agg #[.int .i64 r, .slice none 0 0, .slice none 0 0]] w fun e w' => e = .returned (.bool true) ∧ Below w.heap.size w w' := by
  go_enter Try.func121, Try.ntmps121
  go_wp2_with (go_at_call 136; refine (eq_evs0 _).mono ?_; rintro e w' ⟨rfl, rfl⟩)
  go_ret
  exact ⟨rfl, ((Below.refl _ _).alloc (Nat.le_refl _) _).alloc (by simp) _⟩
set_option maxHeartbeats 4000000 in
set_option maxRecDepth 100000 in
theorem eq_graphs (g h c d : Nat) (w : World) (hg : HnG w g) (hh : HnG w h) : Calls Try.prog 89 #[.slice (some ⟨g, 0, none⟩) 3 c, .slice (some ⟨h, 0, none⟩) 3 d] w fun e w' => e = .returned (.bool true) ∧ Below w.heap.size w w' := by
  have HG : Hid (HnG w g ∧ HnG w h) := ⟨hg, hh⟩
  clear hg hh
  go_enter Try.func89, Try.ntmps89
  go_wp2
  go_loopw [5] (fun i wr => ∃ q : Nat, q ≤ 3 ∧ i = .int .i64 q ∧ Below w.heap.size w wr) (fun i _ => 3 - (intOf i).toNat)
  case atStart => exact ⟨0, by omega, rfl, Below.refl _ _⟩
  case round =>
    obtain ⟨q, hq, rfl, hbw⟩ := hrel
    by_cases hlt : q < 3
    · have hd : decide ((q : Int) < 3) = true := decide_eq_true (by omega)
      have HR : Hid (∀ W, Below wr.heap.size wr W → HnG W g ∧ HnG W h) := fun W hW => ⟨(HG.out.1.on hbw).on hW, (HG.out.2.on hbw).on hW⟩
      go_wp2
      refine wp_region_held_drew (S := (fun W => Below wr.heap.size wr W)) (by kernel_rfl) (Below.drew (Below.refl _ _)) (fun hHeld => ?_)
      refine wpAnyH_take (i := 0) (v := (.slice (some ⟨g, 0, none⟩) 3 c)) rfl (by kernel_rfl) (by kernel_rfl) (by kernel_rfl) (fun _ _ _ h => h) (Or.inl ⟨by kernel_rfl, ?_⟩) hHeld ?_
      · intro W hW
        go_simp
      refine wpAnyH_take (i := 1) (v := (.int .i64 q)) rfl (by kernel_rfl) (by kernel_rfl) (by kernel_rfl) (fun _ _ _ h => h) (Or.inl ⟨by kernel_rfl, ?_⟩) hHeld ?_
      · intro W hW
        go_simp
      refine wpAnyH_take (i := 2) (v := (.pointer (some ⟨g, q * 3, none⟩))) rfl (by kernel_rfl) (by kernel_rfl) (by kernel_rfl) (fun _ _ _ h => h) (Or.inl ⟨by kernel_rfl, ?_⟩) hHeld ?_
      · intro W hW
        go_simp
        exact fun h3 => absurd h3 (by omega)
      refine wpAnyH_take (i := 3) (v := (.agg #[.int .i64 ((q : Int) + 1), .slice none 0 0, .slice none 0 0])) rfl (by kernel_rfl) (by kernel_rfl) (by kernel_rfl) (fun _ _ _ h => h) (Or.inl ⟨by kernel_rfl, ?_⟩) hHeld ?_
      · intro W hW
        have f := (HR.out W hW).1
        have f0 : W.cell? ⟨g, q * 3, none⟩ = some (.int .i64 ((q : Int) + 1)) := f.cell q hlt 0 (by omega)
        have f1 : W.cell? ⟨g, q * 3 + 1, none⟩ = some (.slice none 0 0) := f.cell q hlt 1 (by omega)
        have f2 : W.cell? ⟨g, q * 3 + 2, none⟩ = some (.slice none 0 0) := f.cell q hlt 2 (by omega)
        go_simp
      refine wpAnyH_take (i := 4) (v := (.slice (some ⟨h, 0, none⟩) 3 d)) rfl (by kernel_rfl) (by kernel_rfl) (by kernel_rfl) (fun _ _ _ h => h) (Or.inl ⟨by kernel_rfl, ?_⟩) hHeld ?_
      · intro W hW
        go_simp
      refine wpAnyH_take (i := 5) (v := (.int .i64 q)) rfl (by kernel_rfl) (by kernel_rfl) (by kernel_rfl) (fun _ _ _ h => h) (Or.inl ⟨by kernel_rfl, ?_⟩) hHeld ?_
      · intro W hW
        go_simp
      refine wpAnyH_take (i := 6) (v := (.pointer (some ⟨h, q * 3, none⟩))) rfl (by kernel_rfl) (by kernel_rfl) (by kernel_rfl) (fun _ _ _ h => h) (Or.inl ⟨by kernel_rfl, ?_⟩) hHeld ?_
      · intro W hW
        go_simp
        exact fun h3 => absurd h3 (by omega)
      refine wpAnyH_take (i := 7) (v := (.agg #[.int .i64 ((q : Int) + 1), .slice none 0 0, .slice none 0 0])) rfl (by kernel_rfl) (by kernel_rfl) (by kernel_rfl) (fun _ _ _ h => h) (Or.inl ⟨by kernel_rfl, ?_⟩) hHeld ?_
      · intro W hW
        have f := (HR.out W hW).2
        have f0 : W.cell? ⟨h, q * 3, none⟩ = some (.int .i64 ((q : Int) + 1)) := f.cell q hlt 0 (by omega)
        have f1 : W.cell? ⟨h, q * 3 + 1, none⟩ = some (.slice none 0 0) := f.cell q hlt 1 (by omega)
        have f2 : W.cell? ⟨h, q * 3 + 2, none⟩ = some (.slice none 0 0) := f.cell q hlt 2 (by omega)
        go_simp
      refine wpAnyH_ready (rs := [8]) (by kernel_rfl) (by simp) ?_
      refine AllReadyH.cons rfl (fun K hK => ?_) AllReadyH.nil
      go_simp
      refine (eq_graph0 _ _).mono ?_
      rintro e w1 ⟨rfl, hb1⟩
      have HB1 : Hid (Below wr.heap.size wr w1) := hHeld.trans (hb1.mono hHeld.size)
      clear hb1
      refine hK.out _ _ HB1.out (fun hH1 => ?_)
      clear hK K
      refine wpAnyH_take (i := 9) (v := (.bool false)) rfl (by kernel_rfl) (by kernel_rfl) (by kernel_rfl) (fun _ _ _ h => h) (Or.inl ⟨by kernel_rfl, ?_⟩) hH1 ?_
      · intro W hW
        go_simp
      refine wpAnyH_done (by kernel_rfl) ?_ _
      simp only [Act.put, List.setIfInBounds_toArray, List.set_cons_zero, List.set_cons_succ, List.getElem_toArray, List.getElem_cons_zero, List.getElem_cons_succ]
      go_wp2
      go_roundw
      case rel => exact ⟨q + 1, by omega, by go_num, hbw.trans (HB1.out.mono hbw.size)⟩
      case measure => simp [intOf]; omega
    · have e : q = 3 := by omega
      subst e
      have hd : decide (((3 : Nat) : Int) < 3) = false := decide_eq_false (by omega)
      go_wp2
      go_ret
      exact ⟨rfl, hbw⟩
set_option maxHeartbeats 1000000 in
theorem eq_hub (g h c d : Nat) (w : World) (hg : HnG w g) (hh : HnG w h) : Calls Try.prog 39 #[.agg #[.slice (some ⟨g, 0, none⟩) 3 c, .slice none 0 0], .agg #[.slice (some ⟨h, 0, none⟩) 3 d, .slice none 0 0]] w fun e w' => e = .returned (.bool true) ∧ Below w.heap.size w w' := by
  have HB : Hid (∀ o1 o2, Below w.heap.size w ((w.alloc o1).alloc o2)) := fun o1 o2 => ((Below.refl _ _).alloc (Nat.le_refl _) o1).alloc (by simp) o2
  have HQ := fun o1 o2 => eq_graphs g h c d ((w.alloc o1).alloc o2) (hg.on (HB.out o1 o2)) (hh.on (HB.out o1 o2))
  clear hg hh
  go_enter Try.func39, Try.ntmps39
  go_wp2_with fail
  refine (HQ _ _).mono ?_
  rintro e w1 ⟨rfl, hb1⟩
  obtain ⟨hc1, hf1⟩ := bcell hb1
  have HW1 : Hid (Below w.heap.size w w1) := (HB.out _ _).trans (hb1.mono (by simp; omega))
  clear hb1 HQ
  go_wp2_with fail
  refine (eq_spots0 _).mono ?_
  rintro e wz ⟨rfl, rfl⟩
  go_wp2
  go_ret
  exact ⟨rfl, HW1.out⟩
set_option maxHeartbeats 4000000 in
set_option maxRecDepth 100000 in
theorem mark_graphs (g c : Nat) (w : World) (hg : HnG w g) : Calls Try.prog 91 #[.slice (some ⟨g, 0, none⟩) 3 c, .int .i64 1] w fun e w' => e = .returned (.int .i64 4) ∧ HnG w' g ∧ w.grownBy w' (some g) := by
  have HG : Hid (HnG w g) := hg
  clear hg
  go_enter Try.func91, Try.ntmps91
  go_wp2
  go_loopw [1, 5] (fun v i wr => ∃ q : Nat, q ≤ 3 ∧ v = .int .i64 ((q : Int) + 1) ∧ i = .int .i64 q ∧ Hid (HnG wr g ∧ w.grownBy wr (some g))) (fun _ i _ => 3 - (intOf i).toNat)
  case atStart => exact ⟨0, by omega, rfl, rfl, HG.out, World.grownBy.refl _ _⟩
  case round =>
    clear HG
    obtain ⟨q, hq, rfl, rfl, HG⟩ := hrel
    by_cases hlt : q < 3
    · have hd : decide ((q : Int) < 3) = true := decide_eq_true (by omega)
      have hc0 : wr.cell? ⟨g, q * 3, none⟩ = some (.int .i64 ((q : Int) + 1)) := HG.out.1.cell q hlt 0 (by omega)
      have hc1 : wr.cell? ⟨g, q * 3 + 1, none⟩ = some (.slice none 0 0) := HG.out.1.cell q hlt 1 (by omega)
      have hc2 : wr.cell? ⟨g, q * 3 + 2, none⟩ = some (.slice none 0 0) := HG.out.1.cell q hlt 2 (by omega)
      have hf0 : wr.frozen? ⟨g, q * 3, none⟩ = false := HG.out.1.froz _
      have HN : Hid (HnG (wr.setCell ⟨g, q * 3, none⟩ (.int .i64 ((q : Int) + 1))) g ∧ w.grownBy (wr.setCell ⟨g, q * 3, none⟩ (.int .i64 ((q : Int) + 1))) (some g)) := ⟨HG.out.1.set hlt, HG.out.2.trans ⟨rfl, rfl, rfl, by simp [World.setCell], fun k _ hk => Below.heap_setCell _ _ _ _ (fun e => hk (by simp [e]))⟩⟩
      go_wp2_with (go_at_call 123; refine (mark_evs0 _ _).mono ?_; rintro e w' ⟨rfl, rfl⟩)
      go_roundw
      case rel => exact ⟨q + 1, by omega, by go_num, by go_num, HN.out⟩
      case measure => simp [intOf]; omega
    · have e : q = 3 := by omega
      subst e
      have hd : decide (((3 : Nat) : Int) < 3) = false := decide_eq_false (by omega)
      go_wp2
      go_ret
      exact ⟨rfl, HG.out⟩
set_option maxHeartbeats 1000000 in
theorem mark_hub (g c : Nat) (w : World) (hg : HnG w g) : Calls Try.prog 40 #[.agg #[.slice (some ⟨g, 0, none⟩) 3 c, .slice none 0 0], .int .i64 1] w fun e w' => e = .returned (.int .i64 4) ∧ HnG w' g ∧ w.grownBy w' (some g) := by
  have HQ := fun o => mark_graphs g c (w.alloc o) (hg.on ((Below.refl _ _).alloc (Nat.le_refl _) _))
  have hne : w.heap.size ≠ g := by have := hg.lt; omega
  clear hg
  go_enter Try.func40, Try.ntmps40
  go_wp2_with fail
  refine (HQ _).mono ?_
  rintro e w1 ⟨rfl, hg1, hr1⟩
  have HW : Hid (HnG w1 g ∧ w.grownBy w1 (some g)) := ⟨hg1, (World.grownBy_alloc w _ _).trans hr1⟩
  have hk1 := hr1.block w.heap.size (by simp) (by simpa using hne)
  have hc0 : w1.cell? ⟨w.heap.size, 1, none⟩ = some (.slice none 0 0) := (World.cell?_of_block (a := ⟨w.heap.size, 1, none⟩) hk1).trans (cell_of_heap (MapKept.heap_alloc w _).1)
  clear hg1 hr1 hk1 HQ
  go_wp2_with (go_at_call 92; refine (mark_spots0 _ _).mono ?_; rintro e w' ⟨rfl, rfl⟩)
  go_ret
  exact ⟨rfl, HW.out⟩
set_option maxHeartbeats 4000000 in
set_option maxRecDepth 100000 in
theorem held_graphs (g c : Nat) (w : World) (hg : HnG w g) : Calls Try.prog 93 #[.slice (some ⟨g, 0, none⟩) 3 c, .int .i64 1] w fun e w' => e = .returned (.int .i64 4) ∧ w' = w := by
  have HG : Hid (HnG w g) := hg
  clear hg
  go_enter Try.func93, Try.ntmps93
  go_wp2
  go_loopw [1, 5] (fun v i wr => ∃ q : Nat, q ≤ 3 ∧ v = .int .i64 ((q : Int) + 1) ∧ i = .int .i64 q ∧ wr = w) (fun _ i _ => 3 - (intOf i).toNat)
  case atStart => exact ⟨0, by omega, rfl, rfl, rfl⟩
  case round =>
    obtain ⟨q, hq, rfl, rfl, rfl⟩ := hrel
    by_cases hlt : q < 3
    · have hd : decide ((q : Int) < 3) = true := decide_eq_true (by omega)
      have hc0 : wr.cell? ⟨g, q * 3, none⟩ = some (.int .i64 ((q : Int) + 1)) := HG.out.cell q hlt 0 (by omega)
      have hc1 : wr.cell? ⟨g, q * 3 + 1, none⟩ = some (.slice none 0 0) := HG.out.cell q hlt 1 (by omega)
      have hc2 : wr.cell? ⟨g, q * 3 + 2, none⟩ = some (.slice none 0 0) := HG.out.cell q hlt 2 (by omega)
      go_wp2_with (go_at_call 124; refine (held_evs0 _ _).mono ?_; rintro e w' ⟨rfl, rfl⟩)
      go_roundw
      case rel => exact ⟨q + 1, by omega, by go_num, by go_num, by simp⟩
      case measure => simp [intOf]; omega
    · have e : q = 3 := by omega
      subst e
      have hd : decide (((3 : Nat) : Int) < 3) = false := decide_eq_false (by omega)
      go_wp2
      go_ret
      exact ⟨rfl, rfl⟩
set_option maxHeartbeats 1000000 in
theorem held_hub (g c : Nat) (w : World) (hg : HnG w g) : Calls Try.prog 41 #[.agg #[.slice (some ⟨g, 0, none⟩) 3 c, .slice none 0 0], .int .i64 1] w fun e w' => e = .returned (.int .i64 4) ∧ Below w.heap.size w w' := by
  have HQ := fun o => held_graphs g c (w.alloc o) (hg.on ((Below.refl _ _).alloc (Nat.le_refl _) _))
  clear hg
  go_enter Try.func41, Try.ntmps41
  go_wp2_with fail
  refine (HQ _).mono ?_
  rintro e w1 ⟨rfl, rfl⟩
  clear HQ
  go_wp2_with (go_at_call 94; refine (held_spots0 _ _).mono ?_; rintro e w' ⟨rfl, rfl⟩)
  go_ret
  exact ⟨rfl, (Below.refl _ _).alloc (Nat.le_refl _) _⟩
set_option maxHeartbeats 4000000 in
set_option maxRecDepth 100000 in
theorem walk_fnExactHubNew (w : World) : Calls Try.prog 5 #[] w fun e w' => e = .returned (.bool true) ∧ Below w.heap.size w w' := by
  go_enter Try.func5, Try.ntmps5
  go_wp2_with fail
  refine (hubNew_spec w).mono ?_
  intro e w1 h1
  obtain ⟨g, c, rfl, hg1, hgb, hb1⟩ := h1.got
  have H1 : Hid (∀ o, HnG (w1.alloc o) g ∧ Below w.heap.size w (w1.alloc o)) := fun o => ⟨hg1.on ((Below.refl _ _).alloc (Nat.le_refl _) _), hb1.alloc hb1.size _⟩
  have hz1 : w.heap.size ≤ w1.heap.size := hb1.size
  have hgl : g < w1.heap.size := hg1.lt
  have HX1 : Hid ((w1.alloc (.cells #[.slice (some ⟨g, 0, none⟩) 3 c, .slice none 0 0] 59)).heap[w1.heap.size]? = some (.cells #[.slice (some ⟨g, 0, none⟩) 3 c, .slice none 0 0] 59 (0, 0))) := (MapKept.heap_alloc w1 _).1
  clear h1 hg1 hb1
  go_wp2_with fail
  refine (hubNew_impl _).mono ?_
  intro e w2 h2
  obtain ⟨h, d, rfl, hh2, hhb, hb2⟩ := h2.got
  have hb1h : w1.heap.size < h := by simp at hhb; omega
  have HL2 : Hid (HL w w1.heap.size w2.heap.size g c h d (w2.alloc (.cells #[.slice (some ⟨h, 0, none⟩) 3 d, .slice none 0 0] 59))) := by
    have hba : Below w2.heap.size w2 (w2.alloc (.cells #[.slice (some ⟨h, 0, none⟩) 3 d, .slice none 0 0] 59)) := (Below.refl _ _).alloc (Nat.le_refl _) _
    have hz2 := hb2.size
    exact ⟨((H1.out _).2.trans (hb2.mono (by simp; omega))).trans (hba.mono (by simp at hz2; omega)), ((H1.out _).1.on hb2).on hba, (hba.block _ (by simp at hz2; omega)).trans ((hb2.block _ (by simp)).trans HX1.out), hh2.on hba, (MapKept.heap_alloc w2 _).1, ⟨hgb, hgl, hb1h, hh2.lt⟩⟩
  clear h2 hh2 hb2 hhb H1 HX1
  have k1 : ∀ V, HL w w1.heap.size w2.heap.size g c h d V → V.cell? ⟨w1.heap.size, 0, none⟩ = some (.slice (some ⟨g, 0, none⟩) 3 c) ∧ V.cell? ⟨w1.heap.size, 1, none⟩ = some (.slice none 0 0) ∧ V.cell? ⟨w2.heap.size, 0, none⟩ = some (.slice (some ⟨h, 0, none⟩) 3 d) ∧ V.cell? ⟨w2.heap.size, 1, none⟩ = some (.slice none 0 0) := fun V k => ⟨cell_of_heap k.box1, cell_of_heap k.box1, cell_of_heap k.box2, cell_of_heap k.box2⟩
  have K : Hid (∀ V, HL w w1.heap.size w2.heap.size g c h d V → V.cell? ⟨w1.heap.size, 0, none⟩ = some (.slice (some ⟨g, 0, none⟩) 3 c) ∧ V.cell? ⟨w1.heap.size, 1, none⟩ = some (.slice none 0 0) ∧ V.cell? ⟨w2.heap.size, 0, none⟩ = some (.slice (some ⟨h, 0, none⟩) 3 d) ∧ V.cell? ⟨w2.heap.size, 1, none⟩ = some (.slice none 0 0)) := k1
  clear k1
  obtain ⟨m1, m2, m3, m4⟩ := K.out _ HL2.out
  go_wp2_with fail
  refine (eq_hub h g d c _ HL2.out.two HL2.out.one).mono ?_
  rintro e w3 ⟨rfl, hb3⟩
  have HL3 : Hid (HL w w1.heap.size w2.heap.size g c h d w3) := HL2.out.on hb3
  clear hb3 HL2 m1 m2 m3 m4
  obtain ⟨m1, m2, m3, m4⟩ := K.out _ HL3.out
  go_wp2_with fail
  refine (mark_hub h d _ HL3.out.two).mono ?_
  rintro e w4 ⟨rfl, hh4, hg4⟩
  have HL4 : Hid (HL w w1.heap.size w2.heap.size g c h d w4) := HL3.out.mark hh4 hg4
  clear hh4 hg4 HL3 m1 m2 m3 m4
  obtain ⟨m1, m2, m3, m4⟩ := K.out _ HL4.out
  go_wp2_with fail
  refine (held_hub h d _ HL4.out.two).mono ?_
  rintro e w5 ⟨rfl, hb5⟩
  have HL5 : Hid (HL w w1.heap.size w2.heap.size g c h d w5) := HL4.out.on hb5
  clear hb5 HL4 m1 m2 m3 m4
  obtain ⟨m1, m2, m3, m4⟩ := K.out _ HL5.out
  go_wp2_with fail
  refine (hubNew_impl _).mono ?_
  intro e w6 h6
  obtain ⟨p, q, rfl, hp6, hpb, hb6⟩ := h6.got
  have HL6 : Hid (∀ o, HL w w1.heap.size w2.heap.size g c h d (w6.alloc o) ∧ HnG (w6.alloc o) p) := fun o => ⟨(HL5.out.on hb6).on ((Below.refl _ _).alloc (Nat.le_refl _) _), hp6.on ((Below.refl _ _).alloc (Nat.le_refl _) _)⟩
  have hm : ∀ o, (w6.alloc o).cell? ⟨w1.heap.size, 0, none⟩ = some (.slice (some ⟨g, 0, none⟩) 3 c) ∧ (w6.alloc o).cell? ⟨w1.heap.size, 1, none⟩ = some (.slice none 0 0) := fun o => ⟨(K.out _ (HL6.out o).1).1, (K.out _ (HL6.out o).1).2.1⟩
  have n1 : ∀ o, (w6.alloc o).cell? ⟨w1.heap.size, 0, none⟩ = some (.slice (some ⟨g, 0, none⟩) 3 c) := fun o => (hm o).1
  have n2 : ∀ o, (w6.alloc o).cell? ⟨w1.heap.size, 1, none⟩ = some (.slice none 0 0) := fun o => (hm o).2
  clear h6 hp6 hb6 HL5 hm m1 m2 m3 m4
  go_wp2_with fail
  refine (eq_hub p g q c _ (HL6.out _).2 (HL6.out _).1.one).mono ?_
  rintro e w7 ⟨rfl, hb7⟩
  have HL7 : Hid (HL w w1.heap.size w2.heap.size g c h d w7) := (HL6.out _).1.on hb7
  clear hb7 HL6 n1 n2
  obtain ⟨m1, m2, m3, m4⟩ := K.out _ HL7.out
  go_wp2_with fail
  refine (held_hub h d _ HL7.out.two).mono ?_
  rintro e w8 ⟨rfl, hb8⟩
  have HL8 : Hid (HL w w1.heap.size w2.heap.size g c h d w8) := HL7.out.on hb8
  clear hb8 HL7 m1 m2 m3 m4
  go_wp2
  go_ret
  exact ⟨rfl, HL8.out.below⟩
end Go.Proofs.Ytjdkenopfnepaaa
