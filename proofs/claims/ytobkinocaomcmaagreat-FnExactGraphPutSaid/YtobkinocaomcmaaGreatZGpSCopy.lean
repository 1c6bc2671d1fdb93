/- The specification's copy of a graph. -/
import Derived.Test.YtobkinocaomcmaaGreatZGpSPut
namespace Go.Proofs.YtobkinocaomcmaaGreat
open Go.RowKit

theorem cells_at03 {w : World} {b : Nat} {vs : List Value} {t : TypeId} (h : w.heap[b]? = some (.cells vs.toArray t (0, 0))) : ∀ j u, vs[j]? = some u → w.cell? ((⟨b, 0, none⟩ : Addr).add j) = some u := fun j u hj => by
  rw [Addr.add_lit, cell_of_heap h]
  simpa using hj
set_option maxHeartbeats 8000000 in
set_option maxRecDepth 100000 in
theorem copy03_spec (g : Gr) (a : Option Addr) (cap : Nat) (p : Option Addr) (cp : Nat) (w : World) (h : EvsAt w a g.evs) (h2 : EvsAt w p g.pk) (hl : g.evs.length ≤ 1000) (hl2 : g.pk.length ≤ 1000) :
    Calls Tryz.prog 86 #[.agg #[.int .i64 g.room, .slice a g.evs.length cap, .slice p g.pk.length cp]] w fun e w' => ∃ v1 v2 r1 r2, e = .returned (.agg #[.int .i64 g.room, v1, v2]) ∧ SOut w.heap.size w' v1 r1 ∧ SOut w.heap.size w' v2 r2 ∧ vs r1 = vs g.evs ∧ vs r2 = vs g.pk ∧ Below w.heap.size w w' := by
  obtain ⟨i0, hi, hz0, hz1, hz2⟩ := info_parts Tryz.infoEv
  have HE : Hid (EvsAt w a g.evs) := h
  have HP : Hid (EvsAt w p g.pk) := h2
  clear h h2
  go_enter Tryz.func86, Tryz.ntmps86
  go_wp2
  obtain ⟨w0, HW0⟩ : ∃ q, Hid (q = ((w.alloc (.cells #[.int .i64 g.room, .slice a g.evs.length cap, .slice p g.pk.length cp] 32)).alloc (.cells #[.int .i64 0, .slice none 0 0, .slice none 0 0] 32)).alloc (.cells #[.int .i64 g.room, .slice none 0 0, .slice none 0 0] 32)) := ⟨_, rfl⟩
  rw [← HW0.out]
  have HC0 : Hid (CO w g a cap p cp w0 (w.heap.size + 3) (.slice none 0 0) (.slice none 0 0) w0) := by
    rw [HW0.out]
    refine ⟨((((Below.refl _ _).alloc (Nat.le_refl _) _).alloc (by simp) _).alloc (by simp; omega) _), (Below.heap_alloc _ _ _ (by simp; omega)).trans ((Below.heap_alloc _ _ _ (by simp)).trans (MapKept.heap_alloc w _).1), (Below.heap_alloc _ _ _ (by simp)).trans (new_blockC _ _ _ (by simp)), new_blockC _ _ _ (by simp), Nat.le_refl _, by simp, fun q h1 h2 => by omega⟩
  simp only [Nat.add_assoc, Nat.reduceAdd]
  go_loopw [4] (fun i wr => ∃ (k : Nat) (u : Value) (rs : List Em), k ≤ g.evs.length ∧ i = .int .i64 k ∧ Hid (CO w g a cap p cp w0 (w.heap.size + 3) u (.slice none 0 0) wr ∧ SOut (w.heap.size + 3) wr u rs ∧ vs rs = vs (g.evs.take k))) (fun i _ => g.evs.length - (intOf i).toNat)
  case atStart => exact ⟨0, _, [], Nat.zero_le _, rfl, HC0.out, SOut.nil _ _, by simp [vs]⟩
  case round =>
    obtain ⟨k, u, rs, hk, rfl, HI⟩ := hrel
    have hsb : wr.cell? ⟨w.heap.size, 1, none⟩ = some (.slice a g.evs.length cap) := cell_of_heap HI.out.1.gbox
    by_cases hlt : k < g.evs.length
    · have hd : decide ((k : Int) < (g.evs.length : Int)) = true := decide_eq_true (by omega)
      have hev : EvsAt wr a g.evs := HE.out.kept HI.out.1.below
      have HN : Hid (NumsAt wr.drew g.evs[k].p g.evs[k].v.prev) := (hev.nums _ (List.getElem_mem hlt)).kept (Below.refl _ _).drew
      obtain ⟨b, off, rfl, hbb, hcell⟩ := hev.row (by omega)
      have hc0 : wr.cell? ⟨b, off + k * 9, none⟩ = some (.int .i64 g.evs[k].v.id) := hcell k hlt 0 (by omega)
      have hc1 : wr.cell? ⟨b, off + k * 9 + 1, none⟩ = some (.int .i64 g.evs[k].v.room) := by rw [Nat.add_assoc]; exact hcell k hlt 1 (by omega)
      have hc2 : wr.cell? ⟨b, off + k * 9 + 2, none⟩ = some (.int .i64 g.evs[k].v.author) := by rw [Nat.add_assoc]; exact hcell k hlt 2 (by omega)
      have hc3 : wr.cell? ⟨b, off + k * 9 + 3, none⟩ = some (.int .i64 g.evs[k].v.kind) := by rw [Nat.add_assoc]; exact hcell k hlt 3 (by omega)
      have hc4 : wr.cell? ⟨b, off + k * 9 + 4, none⟩ = some (.int .i64 g.evs[k].v.key) := by rw [Nat.add_assoc]; exact hcell k hlt 4 (by omega)
      have hc5 : wr.cell? ⟨b, off + k * 9 + 5, none⟩ = some (.int .i64 g.evs[k].v.n) := by rw [Nat.add_assoc]; exact hcell k hlt 5 (by omega)
      have hc6 : wr.cell? ⟨b, off + k * 9 + 6, none⟩ = some (.string g.evs[k].v.text) := by rw [Nat.add_assoc]; exact hcell k hlt 6 (by omega)
      have hc7 : wr.cell? ⟨b, off + k * 9 + 7, none⟩ = some (.slice g.evs[k].p g.evs[k].v.prev.length g.evs[k].c) := by rw [Nat.add_assoc]; exact hcell k hlt 7 (by omega)
      have hc8 : wr.cell? ⟨b, off + k * 9 + 8, none⟩ = some (.int .i64 g.evs[k].v.time) := by rw [Nat.add_assoc]; exact hcell k hlt 8 (by omega)
      have hcd : wr.cell? ⟨w.heap.size + 2, 1, none⟩ = some u := cell_of_heap HI.out.1.obox
      have hrl : rs.length = k := by have := congrArg List.length HI.out.2.2; rw [vs_length, vs_length, List.length_take] at this; omega
      have hlo := HI.out.1.lo
      have hhi := HI.out.1.hi
      clear hcell hev
      go_wp2
      refine wp_region_any (by kernel_rfl) ?_
      change wpAny _ _ _ _ _ _ _ (World.drew _)
      refine wpAny_take (i := 0) (v := (.pointer (some ⟨w.heap.size + 2, 1, none⟩))) rfl (by kernel_rfl) (by kernel_rfl) (by kernel_rfl) (fun _ _ _ h => h) (Or.inl ⟨by kernel_rfl, ?_⟩) ?_
      · intro w
        go_simp
      refine wpAny_take (i := 2) (v := (.pointer (some ⟨w.heap.size, 1, none⟩))) rfl (by kernel_rfl) (by kernel_rfl) (by kernel_rfl) (fun _ _ _ h => h) (Or.inl ⟨by kernel_rfl, ?_⟩) ?_
      · intro w
        go_simp
      refine wpAny_take (i := 4) (v := (.int .i64 k)) rfl (by kernel_rfl) (by kernel_rfl) (by kernel_rfl) (fun _ _ _ h => h) (Or.inl ⟨by kernel_rfl, ?_⟩) ?_
      · intro w
        go_simp
      refine wpAny_ready (rs := [1, 3]) (by kernel_rfl) (by simp) ?_
      refine AllReady.cons rfl (fun K hK => ?_) (AllReady.cons rfl (fun K hK => ?_) AllReady.nil)
      · go_simp
        refine hK _ _ ?_
        clear hK K
        refine wpAny_ready (rs := [3]) (by kernel_rfl) (by simp) ?_
        refine AllReady.cons rfl (fun K hK => ?_) AllReady.nil
        go_simp
        refine hK _ _ ?_
        clear hK K
        refine wpAny_take (i := 5) (v := (.pointer (some ⟨b, off + k * 9, none⟩))) rfl (by kernel_rfl) (by kernel_rfl) (by kernel_rfl) (fun _ _ _ h => h) (Or.inl ⟨by kernel_rfl, ?_⟩) ?_
        · intro w
          go_simp
        refine wpAny_ready (rs := [6]) (by kernel_rfl) (by simp) ?_
        refine AllReady.cons rfl (fun K hK => ?_) AllReady.nil
        go_simp
        refine hK _ _ ?_
        clear hK K
        refine wpAny_ready (rs := [7]) (by kernel_rfl) (by simp) ?_
        refine AllReady.cons rfl (fun K hK => ?_) AllReady.nil
        go_simp
        refine (copy_specC g.evs[k].v g.evs[k].p g.evs[k].c _ HN.out).mono ?_
        rintro e w4 ⟨a4, c4, rfl, ho4, hb4⟩
        have H4 : Hid (w4.ownsRow wr.heap.size 2 1 (.slice a4 g.evs[k].v.prev.length c4) g.evs[k].v.prev.length (nv g.evs[k].v.prev) ∧ Below wr.heap.size wr w4) := ⟨ho4, ⟨hb4.os, hb4.tape, hb4.output, hb4.size, hb4.block⟩⟩
        have hz4 : wr.heap.size ≤ w4.heap.size := hb4.size
        have hlt4 : w.heap.size + 2 < w4.heap.size := by omega
        have hne4 : ¬ w.heap.size + 2 = w4.heap.size := by omega
        have hd4 : w4.cell? ⟨w.heap.size + 2, 1, none⟩ = some u := cell_of_heap (HI.out.1.on (H4.out.2.mono HI.out.1.hi)).obox
        clear ho4 hb4
        refine hK _ _ ?_
        clear hK K
        refine wpAny_ready (rs := [8]) (by kernel_rfl) (by simp) ?_
        refine AllReady.cons rfl (fun K hK => ?_) AllReady.nil
        go_simp
        have HB5 : Hid (∀ o, Below w4.heap.size w4 (w4.alloc o)) := fun o => (Below.refl _ _).alloc (Nat.le_refl _) _
        refine hK _ _ ?_
        clear hK K
        refine wpAny_ready (rs := [9]) (by kernel_rfl) (by simp) ?_
        refine AllReady.cons rfl (fun K hK => ?_) AllReady.nil
        refine wp_append_own _ (.tmp 17) (.tmp 24) 30 rfl (w.heap.size + 3) 37 i0 _ 9 96 Tryz.underlying30 hi hz0 hz1 hz2 rfl (by decide) u rs.length (mcs rs) rfl (((HI.out.2.1.kept H4.out.2).kept (HB5.out _)).1) ⟨w4.heap.size, 0, none⟩ 1 1 (emCells (Em.mk g.evs[k].v a4 c4)) rfl rfl (cells_at03 (vs := emCells (Em.mk g.evs[k].v a4 c4)) (MapKept.heap_alloc _ _).1) (fun u hu => by simp [emCells] at hu; rcases hu with rfl | rfl | rfl | rfl | rfl | rfl | rfl | rfl | rfl <;> rfl) (by unfold maxLen; omega) (by omega) (by simp; omega) (fun v6 w6 hO6 hg6 hn6 => ?_)
        have hO6b : EmsOwn w6 (w.heap.size + 3) v6 (rs ++ [Em.mk g.evs[k].v a4 c4]) := by unfold EmsOwn; rw [mcs_append, List.length_append, mcs_one_cons]; exact hO6
        obtain ⟨hS6, hB6⟩ := HI.out.2.1.more HI.out.1.hi H4.out.2 H4.out.1 (HB5.out _) hO6b hg6
        have H6 : Hid (CO w g (some ⟨b, off, none⟩) cap p cp w0 (w.heap.size + 3) u (.slice none 0 0) w6 ∧ SOut (w.heap.size + 3) w6 v6 (rs ++ [Em.mk g.evs[k].v a4 c4]) ∧ vs (rs ++ [Em.mk g.evs[k].v a4 c4]) = vs (g.evs.take (k + 1))) := ⟨HI.out.1.on hB6, hS6, vs_more hlt HI.out.2.2 a4 c4⟩
        have hf6 : w6.frozen? ⟨w.heap.size + 2, 1, none⟩ = false := frozen_of_heap H6.out.1.obox
        have hc6 : w6.cell? ⟨w.heap.size + 2, 1, none⟩ = some u := cell_of_heap H6.out.1.obox
        obtain ⟨a6, c6, e6⟩ := hS6.slice
        rw [List.length_append, List.length_singleton, hrl] at e6
        subst e6
        clear hO6 hO6b hg6 hn6 hS6 hB6
        refine hK _ _ ?_
        clear hK K
        refine wpAny_take (i := 10) (v := (.pointer (some ⟨w.heap.size + 2, 1, none⟩))) rfl (by kernel_rfl) (by kernel_rfl) (by kernel_rfl) (fun _ _ _ h => h) (Or.inl ⟨by kernel_rfl, ?_⟩) ?_
        · intro w
          go_simp
        refine wpAny_ready (rs := [11]) (by kernel_rfl) (by simp) ?_
        refine AllReady.cons rfl (fun K hK => ?_) AllReady.nil
        go_simp
        refine hK _ _ ?_
        clear hK K
        refine wpAny_done (by kernel_rfl) ?_ _
        go_wp2
        go_roundw
        case rel => exact ⟨k + 1, _, rs ++ [Em.mk g.evs[k].v a4 c4], by omega, by go_num, H6.out.1.put1 _, H6.out.2.1.set (b := w.heap.size + 2) (o := 1) (by have := H6.out.1.lo; omega) _, H6.out.2.2⟩
        case measure => simp [intOf]; omega
      · go_simp
        refine hK _ _ ?_
        clear hK K
        refine wpAny_take (i := 5) (v := (.pointer (some ⟨b, off + k * 9, none⟩))) rfl (by kernel_rfl) (by kernel_rfl) (by kernel_rfl) (fun _ _ _ h => h) (Or.inl ⟨by kernel_rfl, ?_⟩) ?_
        · intro w
          go_simp
        refine wpAny_ready (rs := [1, 6]) (by kernel_rfl) (by simp) ?_
        refine AllReady.cons rfl (fun K hK => ?_) (AllReady.cons rfl (fun K hK => ?_) AllReady.nil)
        · go_simp
          refine hK _ _ ?_
          clear hK K
          refine wpAny_ready (rs := [6]) (by kernel_rfl) (by simp) ?_
          refine AllReady.cons rfl (fun K hK => ?_) AllReady.nil
          go_simp
          refine hK _ _ ?_
          clear hK K
          refine wpAny_ready (rs := [7]) (by kernel_rfl) (by simp) ?_
          refine AllReady.cons rfl (fun K hK => ?_) AllReady.nil
          go_simp
          refine (copy_specC g.evs[k].v g.evs[k].p g.evs[k].c _ HN.out).mono ?_
          rintro e w4 ⟨a4, c4, rfl, ho4, hb4⟩
          have H4 : Hid (w4.ownsRow wr.heap.size 2 1 (.slice a4 g.evs[k].v.prev.length c4) g.evs[k].v.prev.length (nv g.evs[k].v.prev) ∧ Below wr.heap.size wr w4) := ⟨ho4, ⟨hb4.os, hb4.tape, hb4.output, hb4.size, hb4.block⟩⟩
          have hz4 : wr.heap.size ≤ w4.heap.size := hb4.size
          have hlt4 : w.heap.size + 2 < w4.heap.size := by omega
          have hne4 : ¬ w.heap.size + 2 = w4.heap.size := by omega
          have hd4 : w4.cell? ⟨w.heap.size + 2, 1, none⟩ = some u := cell_of_heap (HI.out.1.on (H4.out.2.mono HI.out.1.hi)).obox
          clear ho4 hb4
          refine hK _ _ ?_
          clear hK K
          refine wpAny_ready (rs := [8]) (by kernel_rfl) (by simp) ?_
          refine AllReady.cons rfl (fun K hK => ?_) AllReady.nil
          go_simp
          have HB5 : Hid (∀ o, Below w4.heap.size w4 (w4.alloc o)) := fun o => (Below.refl _ _).alloc (Nat.le_refl _) _
          refine hK _ _ ?_
          clear hK K
          refine wpAny_ready (rs := [9]) (by kernel_rfl) (by simp) ?_
          refine AllReady.cons rfl (fun K hK => ?_) AllReady.nil
          refine wp_append_own _ (.tmp 17) (.tmp 24) 30 rfl (w.heap.size + 3) 37 i0 _ 9 96 Tryz.underlying30 hi hz0 hz1 hz2 rfl (by decide) u rs.length (mcs rs) rfl (((HI.out.2.1.kept H4.out.2).kept (HB5.out _)).1) ⟨w4.heap.size, 0, none⟩ 1 1 (emCells (Em.mk g.evs[k].v a4 c4)) rfl rfl (cells_at03 (vs := emCells (Em.mk g.evs[k].v a4 c4)) (MapKept.heap_alloc _ _).1) (fun u hu => by simp [emCells] at hu; rcases hu with rfl | rfl | rfl | rfl | rfl | rfl | rfl | rfl | rfl <;> rfl) (by unfold maxLen; omega) (by omega) (by simp; omega) (fun v6 w6 hO6 hg6 hn6 => ?_)
          have hO6b : EmsOwn w6 (w.heap.size + 3) v6 (rs ++ [Em.mk g.evs[k].v a4 c4]) := by unfold EmsOwn; rw [mcs_append, List.length_append, mcs_one_cons]; exact hO6
          obtain ⟨hS6, hB6⟩ := HI.out.2.1.more HI.out.1.hi H4.out.2 H4.out.1 (HB5.out _) hO6b hg6
          have H6 : Hid (CO w g (some ⟨b, off, none⟩) cap p cp w0 (w.heap.size + 3) u (.slice none 0 0) w6 ∧ SOut (w.heap.size + 3) w6 v6 (rs ++ [Em.mk g.evs[k].v a4 c4]) ∧ vs (rs ++ [Em.mk g.evs[k].v a4 c4]) = vs (g.evs.take (k + 1))) := ⟨HI.out.1.on hB6, hS6, vs_more hlt HI.out.2.2 a4 c4⟩
          have hf6 : w6.frozen? ⟨w.heap.size + 2, 1, none⟩ = false := frozen_of_heap H6.out.1.obox
          have hc6 : w6.cell? ⟨w.heap.size + 2, 1, none⟩ = some u := cell_of_heap H6.out.1.obox
          obtain ⟨a6, c6, e6⟩ := hS6.slice
          rw [List.length_append, List.length_singleton, hrl] at e6
          subst e6
          clear hO6 hO6b hg6 hn6 hS6 hB6
          refine hK _ _ ?_
          clear hK K
          refine wpAny_take (i := 10) (v := (.pointer (some ⟨w.heap.size + 2, 1, none⟩))) rfl (by kernel_rfl) (by kernel_rfl) (by kernel_rfl) (fun _ _ _ h => h) (Or.inl ⟨by kernel_rfl, ?_⟩) ?_
          · intro w
            go_simp
          refine wpAny_ready (rs := [11]) (by kernel_rfl) (by simp) ?_
          refine AllReady.cons rfl (fun K hK => ?_) AllReady.nil
          go_simp
          refine hK _ _ ?_
          clear hK K
          refine wpAny_done (by kernel_rfl) ?_ _
          go_wp2
          go_roundw
          case rel => exact ⟨k + 1, _, rs ++ [Em.mk g.evs[k].v a4 c4], by omega, by go_num, H6.out.1.put1 _, H6.out.2.1.set (b := w.heap.size + 2) (o := 1) (by have := H6.out.1.lo; omega) _, H6.out.2.2⟩
          case measure => simp [intOf]; omega
        · go_simp
          refine hK _ _ ?_
          clear hK K
          refine wpAny_ready (rs := [1, 7]) (by kernel_rfl) (by simp) ?_
          refine AllReady.cons rfl (fun K hK => ?_) (AllReady.cons rfl (fun K hK => ?_) AllReady.nil)
          · go_simp
            refine hK _ _ ?_
            clear hK K
            refine wpAny_ready (rs := [7]) (by kernel_rfl) (by simp) ?_
            refine AllReady.cons rfl (fun K hK => ?_) AllReady.nil
            go_simp
            refine (copy_specC g.evs[k].v g.evs[k].p g.evs[k].c _ HN.out).mono ?_
            rintro e w4 ⟨a4, c4, rfl, ho4, hb4⟩
            have H4 : Hid (w4.ownsRow wr.heap.size 2 1 (.slice a4 g.evs[k].v.prev.length c4) g.evs[k].v.prev.length (nv g.evs[k].v.prev) ∧ Below wr.heap.size wr w4) := ⟨ho4, ⟨hb4.os, hb4.tape, hb4.output, hb4.size, hb4.block⟩⟩
            have hz4 : wr.heap.size ≤ w4.heap.size := hb4.size
            have hlt4 : w.heap.size + 2 < w4.heap.size := by omega
            have hne4 : ¬ w.heap.size + 2 = w4.heap.size := by omega
            have hd4 : w4.cell? ⟨w.heap.size + 2, 1, none⟩ = some u := cell_of_heap (HI.out.1.on (H4.out.2.mono HI.out.1.hi)).obox
            clear ho4 hb4
            refine hK _ _ ?_
            clear hK K
            refine wpAny_ready (rs := [8]) (by kernel_rfl) (by simp) ?_
            refine AllReady.cons rfl (fun K hK => ?_) AllReady.nil
            go_simp
            have HB5 : Hid (∀ o, Below w4.heap.size w4 (w4.alloc o)) := fun o => (Below.refl _ _).alloc (Nat.le_refl _) _
            refine hK _ _ ?_
            clear hK K
            refine wpAny_ready (rs := [9]) (by kernel_rfl) (by simp) ?_
            refine AllReady.cons rfl (fun K hK => ?_) AllReady.nil
            refine wp_append_own _ (.tmp 17) (.tmp 24) 30 rfl (w.heap.size + 3) 37 i0 _ 9 96 Tryz.underlying30 hi hz0 hz1 hz2 rfl (by decide) u rs.length (mcs rs) rfl (((HI.out.2.1.kept H4.out.2).kept (HB5.out _)).1) ⟨w4.heap.size, 0, none⟩ 1 1 (emCells (Em.mk g.evs[k].v a4 c4)) rfl rfl (cells_at03 (vs := emCells (Em.mk g.evs[k].v a4 c4)) (MapKept.heap_alloc _ _).1) (fun u hu => by simp [emCells] at hu; rcases hu with rfl | rfl | rfl | rfl | rfl | rfl | rfl | rfl | rfl <;> rfl) (by unfold maxLen; omega) (by omega) (by simp; omega) (fun v6 w6 hO6 hg6 hn6 => ?_)
            have hO6b : EmsOwn w6 (w.heap.size + 3) v6 (rs ++ [Em.mk g.evs[k].v a4 c4]) := by unfold EmsOwn; rw [mcs_append, List.length_append, mcs_one_cons]; exact hO6
            obtain ⟨hS6, hB6⟩ := HI.out.2.1.more HI.out.1.hi H4.out.2 H4.out.1 (HB5.out _) hO6b hg6
            have H6 : Hid (CO w g (some ⟨b, off, none⟩) cap p cp w0 (w.heap.size + 3) u (.slice none 0 0) w6 ∧ SOut (w.heap.size + 3) w6 v6 (rs ++ [Em.mk g.evs[k].v a4 c4]) ∧ vs (rs ++ [Em.mk g.evs[k].v a4 c4]) = vs (g.evs.take (k + 1))) := ⟨HI.out.1.on hB6, hS6, vs_more hlt HI.out.2.2 a4 c4⟩
            have hf6 : w6.frozen? ⟨w.heap.size + 2, 1, none⟩ = false := frozen_of_heap H6.out.1.obox
            have hc6 : w6.cell? ⟨w.heap.size + 2, 1, none⟩ = some u := cell_of_heap H6.out.1.obox
            obtain ⟨a6, c6, e6⟩ := hS6.slice
            rw [List.length_append, List.length_singleton, hrl] at e6
            subst e6
            clear hO6 hO6b hg6 hn6 hS6 hB6
            refine hK _ _ ?_
            clear hK K
            refine wpAny_take (i := 10) (v := (.pointer (some ⟨w.heap.size + 2, 1, none⟩))) rfl (by kernel_rfl) (by kernel_rfl) (by kernel_rfl) (fun _ _ _ h => h) (Or.inl ⟨by kernel_rfl, ?_⟩) ?_
            · intro w
              go_simp
            refine wpAny_ready (rs := [11]) (by kernel_rfl) (by simp) ?_
            refine AllReady.cons rfl (fun K hK => ?_) AllReady.nil
            go_simp
            refine hK _ _ ?_
            clear hK K
            refine wpAny_done (by kernel_rfl) ?_ _
            go_wp2
            go_roundw
            case rel => exact ⟨k + 1, _, rs ++ [Em.mk g.evs[k].v a4 c4], by omega, by go_num, H6.out.1.put1 _, H6.out.2.1.set (b := w.heap.size + 2) (o := 1) (by have := H6.out.1.lo; omega) _, H6.out.2.2⟩
            case measure => simp [intOf]; omega
          · go_simp
            refine (copy_specC g.evs[k].v g.evs[k].p g.evs[k].c _ HN.out).mono ?_
            rintro e w4 ⟨a4, c4, rfl, ho4, hb4⟩
            have H4 : Hid (w4.ownsRow wr.heap.size 2 1 (.slice a4 g.evs[k].v.prev.length c4) g.evs[k].v.prev.length (nv g.evs[k].v.prev) ∧ Below wr.heap.size wr w4) := ⟨ho4, ⟨hb4.os, hb4.tape, hb4.output, hb4.size, hb4.block⟩⟩
            have hz4 : wr.heap.size ≤ w4.heap.size := hb4.size
            have hlt4 : w.heap.size + 2 < w4.heap.size := by omega
            have hne4 : ¬ w.heap.size + 2 = w4.heap.size := by omega
            have hd4 : w4.cell? ⟨w.heap.size + 2, 1, none⟩ = some u := cell_of_heap (HI.out.1.on (H4.out.2.mono HI.out.1.hi)).obox
            clear ho4 hb4
            refine hK _ _ ?_
            clear hK K
            refine wpAny_ready (rs := [1, 8]) (by kernel_rfl) (by simp) ?_
            refine AllReady.cons rfl (fun K hK => ?_) (AllReady.cons rfl (fun K hK => ?_) AllReady.nil)
            · go_simp
              refine hK _ _ ?_
              clear hK K
              refine wpAny_ready (rs := [8]) (by kernel_rfl) (by simp) ?_
              refine AllReady.cons rfl (fun K hK => ?_) AllReady.nil
              go_simp
              have HB5 : Hid (∀ o, Below w4.heap.size w4 (w4.alloc o)) := fun o => (Below.refl _ _).alloc (Nat.le_refl _) _
              refine hK _ _ ?_
              clear hK K
              refine wpAny_ready (rs := [9]) (by kernel_rfl) (by simp) ?_
              refine AllReady.cons rfl (fun K hK => ?_) AllReady.nil
              refine wp_append_own _ (.tmp 17) (.tmp 24) 30 rfl (w.heap.size + 3) 37 i0 _ 9 96 Tryz.underlying30 hi hz0 hz1 hz2 rfl (by decide) u rs.length (mcs rs) rfl (((HI.out.2.1.kept H4.out.2).kept (HB5.out _)).1) ⟨w4.heap.size, 0, none⟩ 1 1 (emCells (Em.mk g.evs[k].v a4 c4)) rfl rfl (cells_at03 (vs := emCells (Em.mk g.evs[k].v a4 c4)) (MapKept.heap_alloc _ _).1) (fun u hu => by simp [emCells] at hu; rcases hu with rfl | rfl | rfl | rfl | rfl | rfl | rfl | rfl | rfl <;> rfl) (by unfold maxLen; omega) (by omega) (by simp; omega) (fun v6 w6 hO6 hg6 hn6 => ?_)
              have hO6b : EmsOwn w6 (w.heap.size + 3) v6 (rs ++ [Em.mk g.evs[k].v a4 c4]) := by unfold EmsOwn; rw [mcs_append, List.length_append, mcs_one_cons]; exact hO6
              obtain ⟨hS6, hB6⟩ := HI.out.2.1.more HI.out.1.hi H4.out.2 H4.out.1 (HB5.out _) hO6b hg6
              have H6 : Hid (CO w g (some ⟨b, off, none⟩) cap p cp w0 (w.heap.size + 3) u (.slice none 0 0) w6 ∧ SOut (w.heap.size + 3) w6 v6 (rs ++ [Em.mk g.evs[k].v a4 c4]) ∧ vs (rs ++ [Em.mk g.evs[k].v a4 c4]) = vs (g.evs.take (k + 1))) := ⟨HI.out.1.on hB6, hS6, vs_more hlt HI.out.2.2 a4 c4⟩
              have hf6 : w6.frozen? ⟨w.heap.size + 2, 1, none⟩ = false := frozen_of_heap H6.out.1.obox
              have hc6 : w6.cell? ⟨w.heap.size + 2, 1, none⟩ = some u := cell_of_heap H6.out.1.obox
              obtain ⟨a6, c6, e6⟩ := hS6.slice
              rw [List.length_append, List.length_singleton, hrl] at e6
              subst e6
              clear hO6 hO6b hg6 hn6 hS6 hB6
              refine hK _ _ ?_
              clear hK K
              refine wpAny_take (i := 10) (v := (.pointer (some ⟨w.heap.size + 2, 1, none⟩))) rfl (by kernel_rfl) (by kernel_rfl) (by kernel_rfl) (fun _ _ _ h => h) (Or.inl ⟨by kernel_rfl, ?_⟩) ?_
              · intro w
                go_simp
              refine wpAny_ready (rs := [11]) (by kernel_rfl) (by simp) ?_
              refine AllReady.cons rfl (fun K hK => ?_) AllReady.nil
              go_simp
              refine hK _ _ ?_
              clear hK K
              refine wpAny_done (by kernel_rfl) ?_ _
              go_wp2
              go_roundw
              case rel => exact ⟨k + 1, _, rs ++ [Em.mk g.evs[k].v a4 c4], by omega, by go_num, H6.out.1.put1 _, H6.out.2.1.set (b := w.heap.size + 2) (o := 1) (by have := H6.out.1.lo; omega) _, H6.out.2.2⟩
              case measure => simp [intOf]; omega
            · go_simp
              have HB5 : Hid (∀ o, Below w4.heap.size w4 (w4.alloc o)) := fun o => (Below.refl _ _).alloc (Nat.le_refl _) _
              refine hK _ _ ?_
              clear hK K
              refine wpAny_ready (rs := [1]) (by kernel_rfl) (by simp) ?_
              refine AllReady.cons rfl (fun K hK => ?_) AllReady.nil
              go_simp
              refine hK _ _ ?_
              clear hK K
              refine wpAny_ready (rs := [9]) (by kernel_rfl) (by simp) ?_
              refine AllReady.cons rfl (fun K hK => ?_) AllReady.nil
              refine wp_append_own _ (.tmp 17) (.tmp 24) 30 rfl (w.heap.size + 3) 37 i0 _ 9 96 Tryz.underlying30 hi hz0 hz1 hz2 rfl (by decide) u rs.length (mcs rs) rfl (((HI.out.2.1.kept H4.out.2).kept (HB5.out _)).1) ⟨w4.heap.size, 0, none⟩ 1 1 (emCells (Em.mk g.evs[k].v a4 c4)) rfl rfl (cells_at03 (vs := emCells (Em.mk g.evs[k].v a4 c4)) (MapKept.heap_alloc _ _).1) (fun u hu => by simp [emCells] at hu; rcases hu with rfl | rfl | rfl | rfl | rfl | rfl | rfl | rfl | rfl <;> rfl) (by unfold maxLen; omega) (by omega) (by simp; omega) (fun v6 w6 hO6 hg6 hn6 => ?_)
              have hO6b : EmsOwn w6 (w.heap.size + 3) v6 (rs ++ [Em.mk g.evs[k].v a4 c4]) := by unfold EmsOwn; rw [mcs_append, List.length_append, mcs_one_cons]; exact hO6
              obtain ⟨hS6, hB6⟩ := HI.out.2.1.more HI.out.1.hi H4.out.2 H4.out.1 (HB5.out _) hO6b hg6
              have H6 : Hid (CO w g (some ⟨b, off, none⟩) cap p cp w0 (w.heap.size + 3) u (.slice none 0 0) w6 ∧ SOut (w.heap.size + 3) w6 v6 (rs ++ [Em.mk g.evs[k].v a4 c4]) ∧ vs (rs ++ [Em.mk g.evs[k].v a4 c4]) = vs (g.evs.take (k + 1))) := ⟨HI.out.1.on hB6, hS6, vs_more hlt HI.out.2.2 a4 c4⟩
              have hf6 : w6.frozen? ⟨w.heap.size + 2, 1, none⟩ = false := frozen_of_heap H6.out.1.obox
              have hc6 : w6.cell? ⟨w.heap.size + 2, 1, none⟩ = some u := cell_of_heap H6.out.1.obox
              obtain ⟨a6, c6, e6⟩ := hS6.slice
              rw [List.length_append, List.length_singleton, hrl] at e6
              subst e6
              clear hO6 hO6b hg6 hn6 hS6 hB6
              refine hK _ _ ?_
              clear hK K
              refine wpAny_take (i := 10) (v := (.pointer (some ⟨w.heap.size + 2, 1, none⟩))) rfl (by kernel_rfl) (by kernel_rfl) (by kernel_rfl) (fun _ _ _ h => h) (Or.inl ⟨by kernel_rfl, ?_⟩) ?_
              · intro w
                go_simp
              refine wpAny_ready (rs := [11]) (by kernel_rfl) (by simp) ?_
              refine AllReady.cons rfl (fun K hK => ?_) AllReady.nil
              go_simp
              refine hK _ _ ?_
              clear hK K
              refine wpAny_done (by kernel_rfl) ?_ _
              go_wp2
              go_roundw
              case rel => exact ⟨k + 1, _, rs ++ [Em.mk g.evs[k].v a4 c4], by omega, by go_num, H6.out.1.put1 _, H6.out.2.1.set (b := w.heap.size + 2) (o := 1) (by have := H6.out.1.lo; omega) _, H6.out.2.2⟩
              case measure => simp [intOf]; omega
    · have e : k = g.evs.length := by omega
      subst e
      have hd : decide ((g.evs.length : Int) < (g.evs.length : Int)) = false := decide_eq_false (by omega)
      go_wp2
      have HC1 : Hid (CO w g a cap p cp wr wr.heap.size u (.slice none 0 0) wr ∧ SOut (w.heap.size + 3) wr u rs ∧ vs rs = vs g.evs) := ⟨⟨HI.out.1.below, HI.out.1.gbox, HI.out.1.rbox, HI.out.1.obox, HI.out.1.hi, Nat.le_refl _, fun _ _ _ => rfl⟩, HI.out.2.1, by rw [HI.out.2.2, List.take_length]⟩
      clear HI hsb hd hk HC0 HW0
      skip
      generalize wr = w1 at HC1 ⊢
      generalize u = u1 at HC1 ⊢
      generalize rs = r1 at HC1 ⊢
      go_loopw [5] (fun i wr => ∃ (k : Nat) (u : Value) (rs : List Em), k ≤ g.pk.length ∧ i = .int .i64 k ∧ Hid (CO w g a cap p cp w1 w1.heap.size u1 u wr ∧ SOut w1.heap.size wr u rs ∧ vs rs = vs (g.pk.take k))) (fun i _ => g.pk.length - (intOf i).toNat)
      case atStart => exact ⟨0, _, [], Nat.zero_le _, rfl, HC1.out.1, SOut.nil _ _, by simp [vs]⟩
      case round =>
        obtain ⟨k, u, rs, hk, rfl, HI⟩ := hrel
        have hsb : wr.cell? ⟨w.heap.size, 2, none⟩ = some (.slice p g.pk.length cp) := cell_of_heap HI.out.1.gbox
        by_cases hlt : k < g.pk.length
        · have hd : decide ((k : Int) < (g.pk.length : Int)) = true := decide_eq_true (by omega)
          have hev : EvsAt wr p g.pk := HP.out.kept HI.out.1.below
          have HN : Hid (NumsAt wr.drew g.pk[k].p g.pk[k].v.prev) := (hev.nums _ (List.getElem_mem hlt)).kept (Below.refl _ _).drew
          obtain ⟨b, off, rfl, hbb, hcell⟩ := hev.row (by omega)
          have hc0 : wr.cell? ⟨b, off + k * 9, none⟩ = some (.int .i64 g.pk[k].v.id) := hcell k hlt 0 (by omega)
          have hc1 : wr.cell? ⟨b, off + k * 9 + 1, none⟩ = some (.int .i64 g.pk[k].v.room) := by rw [Nat.add_assoc]; exact hcell k hlt 1 (by omega)
          have hc2 : wr.cell? ⟨b, off + k * 9 + 2, none⟩ = some (.int .i64 g.pk[k].v.author) := by rw [Nat.add_assoc]; exact hcell k hlt 2 (by omega)
          have hc3 : wr.cell? ⟨b, off + k * 9 + 3, none⟩ = some (.int .i64 g.pk[k].v.kind) := by rw [Nat.add_assoc]; exact hcell k hlt 3 (by omega)
          have hc4 : wr.cell? ⟨b, off + k * 9 + 4, none⟩ = some (.int .i64 g.pk[k].v.key) := by rw [Nat.add_assoc]; exact hcell k hlt 4 (by omega)
          have hc5 : wr.cell? ⟨b, off + k * 9 + 5, none⟩ = some (.int .i64 g.pk[k].v.n) := by rw [Nat.add_assoc]; exact hcell k hlt 5 (by omega)
          have hc6 : wr.cell? ⟨b, off + k * 9 + 6, none⟩ = some (.string g.pk[k].v.text) := by rw [Nat.add_assoc]; exact hcell k hlt 6 (by omega)
          have hc7 : wr.cell? ⟨b, off + k * 9 + 7, none⟩ = some (.slice g.pk[k].p g.pk[k].v.prev.length g.pk[k].c) := by rw [Nat.add_assoc]; exact hcell k hlt 7 (by omega)
          have hc8 : wr.cell? ⟨b, off + k * 9 + 8, none⟩ = some (.int .i64 g.pk[k].v.time) := by rw [Nat.add_assoc]; exact hcell k hlt 8 (by omega)
          have hcd : wr.cell? ⟨w.heap.size + 2, 2, none⟩ = some u := cell_of_heap HI.out.1.obox
          have hrl : rs.length = k := by have := congrArg List.length HI.out.2.2; rw [vs_length, vs_length, List.length_take] at this; omega
          have hlo := HI.out.1.lo
          have hhi := HI.out.1.hi
          clear hcell hev
          go_wp2
          refine wp_region_any (by kernel_rfl) ?_
          change wpAny _ _ _ _ _ _ _ (World.drew _)
          refine wpAny_take (i := 0) (v := (.pointer (some ⟨w.heap.size + 2, 2, none⟩))) rfl (by kernel_rfl) (by kernel_rfl) (by kernel_rfl) (fun _ _ _ h => h) (Or.inl ⟨by kernel_rfl, ?_⟩) ?_
          · intro w
            go_simp
          refine wpAny_take (i := 2) (v := (.pointer (some ⟨w.heap.size, 2, none⟩))) rfl (by kernel_rfl) (by kernel_rfl) (by kernel_rfl) (fun _ _ _ h => h) (Or.inl ⟨by kernel_rfl, ?_⟩) ?_
          · intro w
            go_simp
          refine wpAny_take (i := 4) (v := (.int .i64 k)) rfl (by kernel_rfl) (by kernel_rfl) (by kernel_rfl) (fun _ _ _ h => h) (Or.inl ⟨by kernel_rfl, ?_⟩) ?_
          · intro w
            go_simp
          refine wpAny_ready (rs := [1, 3]) (by kernel_rfl) (by simp) ?_
          refine AllReady.cons rfl (fun K hK => ?_) (AllReady.cons rfl (fun K hK => ?_) AllReady.nil)
          · go_simp
            refine hK _ _ ?_
            clear hK K
            refine wpAny_ready (rs := [3]) (by kernel_rfl) (by simp) ?_
            refine AllReady.cons rfl (fun K hK => ?_) AllReady.nil
            go_simp
            refine hK _ _ ?_
            clear hK K
            refine wpAny_take (i := 5) (v := (.pointer (some ⟨b, off + k * 9, none⟩))) rfl (by kernel_rfl) (by kernel_rfl) (by kernel_rfl) (fun _ _ _ h => h) (Or.inl ⟨by kernel_rfl, ?_⟩) ?_
            · intro w
              go_simp
            refine wpAny_ready (rs := [6]) (by kernel_rfl) (by simp) ?_
            refine AllReady.cons rfl (fun K hK => ?_) AllReady.nil
            go_simp
            refine hK _ _ ?_
            clear hK K
            refine wpAny_ready (rs := [7]) (by kernel_rfl) (by simp) ?_
            refine AllReady.cons rfl (fun K hK => ?_) AllReady.nil
            go_simp
            refine (copy_specC g.pk[k].v g.pk[k].p g.pk[k].c _ HN.out).mono ?_
            rintro e w4 ⟨a4, c4, rfl, ho4, hb4⟩
            have H4 : Hid (w4.ownsRow wr.heap.size 2 1 (.slice a4 g.pk[k].v.prev.length c4) g.pk[k].v.prev.length (nv g.pk[k].v.prev) ∧ Below wr.heap.size wr w4) := ⟨ho4, ⟨hb4.os, hb4.tape, hb4.output, hb4.size, hb4.block⟩⟩
            have hz4 : wr.heap.size ≤ w4.heap.size := hb4.size
            have hlt4 : w.heap.size + 2 < w4.heap.size := by omega
            have hne4 : ¬ w.heap.size + 2 = w4.heap.size := by omega
            have hd4 : w4.cell? ⟨w.heap.size + 2, 2, none⟩ = some u := cell_of_heap (HI.out.1.on (H4.out.2.mono HI.out.1.hi)).obox
            clear ho4 hb4
            refine hK _ _ ?_
            clear hK K
            refine wpAny_ready (rs := [8]) (by kernel_rfl) (by simp) ?_
            refine AllReady.cons rfl (fun K hK => ?_) AllReady.nil
            go_simp
            have HB5 : Hid (∀ o, Below w4.heap.size w4 (w4.alloc o)) := fun o => (Below.refl _ _).alloc (Nat.le_refl _) _
            refine hK _ _ ?_
            clear hK K
            refine wpAny_ready (rs := [9]) (by kernel_rfl) (by simp) ?_
            refine AllReady.cons rfl (fun K hK => ?_) AllReady.nil
            refine wp_append_own _ (.tmp 35) (.tmp 42) 30 rfl w1.heap.size 37 i0 _ 9 96 Tryz.underlying30 hi hz0 hz1 hz2 rfl (by decide) u rs.length (mcs rs) rfl (((HI.out.2.1.kept H4.out.2).kept (HB5.out _)).1) ⟨w4.heap.size, 0, none⟩ 1 1 (emCells (Em.mk g.pk[k].v a4 c4)) rfl rfl (cells_at03 (vs := emCells (Em.mk g.pk[k].v a4 c4)) (MapKept.heap_alloc _ _).1) (fun u hu => by simp [emCells] at hu; rcases hu with rfl | rfl | rfl | rfl | rfl | rfl | rfl | rfl | rfl <;> rfl) (by unfold maxLen; omega) (by omega) (by simp; omega) (fun v6 w6 hO6 hg6 hn6 => ?_)
            have hO6b : EmsOwn w6 w1.heap.size v6 (rs ++ [Em.mk g.pk[k].v a4 c4]) := by unfold EmsOwn; rw [mcs_append, List.length_append, mcs_one_cons]; exact hO6
            obtain ⟨hS6, hB6⟩ := HI.out.2.1.more HI.out.1.hi H4.out.2 H4.out.1 (HB5.out _) hO6b hg6
            have H6 : Hid (CO w g a cap (some ⟨b, off, none⟩) cp w1 w1.heap.size u1 u w6 ∧ SOut w1.heap.size w6 v6 (rs ++ [Em.mk g.pk[k].v a4 c4]) ∧ vs (rs ++ [Em.mk g.pk[k].v a4 c4]) = vs (g.pk.take (k + 1))) := ⟨HI.out.1.on hB6, hS6, vs_more hlt HI.out.2.2 a4 c4⟩
            have hf6 : w6.frozen? ⟨w.heap.size + 2, 2, none⟩ = false := frozen_of_heap H6.out.1.obox
            have hc6 : w6.cell? ⟨w.heap.size + 2, 2, none⟩ = some u := cell_of_heap H6.out.1.obox
            obtain ⟨a6, c6, e6⟩ := hS6.slice
            rw [List.length_append, List.length_singleton, hrl] at e6
            subst e6
            clear hO6 hO6b hg6 hn6 hS6 hB6
            refine hK _ _ ?_
            clear hK K
            refine wpAny_take (i := 10) (v := (.pointer (some ⟨w.heap.size + 2, 2, none⟩))) rfl (by kernel_rfl) (by kernel_rfl) (by kernel_rfl) (fun _ _ _ h => h) (Or.inl ⟨by kernel_rfl, ?_⟩) ?_
            · intro w
              go_simp
            refine wpAny_ready (rs := [11]) (by kernel_rfl) (by simp) ?_
            refine AllReady.cons rfl (fun K hK => ?_) AllReady.nil
            go_simp
            refine hK _ _ ?_
            clear hK K
            refine wpAny_done (by kernel_rfl) ?_ _
            go_wp2
            go_roundw
            case rel => exact ⟨k + 1, _, rs ++ [Em.mk g.pk[k].v a4 c4], by omega, by go_num, H6.out.1.put2 _, H6.out.2.1.set (b := w.heap.size + 2) (o := 2) (by have := H6.out.1.lo; omega) _, H6.out.2.2⟩
            case measure => simp [intOf]; omega
          · go_simp
            refine hK _ _ ?_
            clear hK K
            refine wpAny_take (i := 5) (v := (.pointer (some ⟨b, off + k * 9, none⟩))) rfl (by kernel_rfl) (by kernel_rfl) (by kernel_rfl) (fun _ _ _ h => h) (Or.inl ⟨by kernel_rfl, ?_⟩) ?_
            · intro w
              go_simp
            refine wpAny_ready (rs := [1, 6]) (by kernel_rfl) (by simp) ?_
            refine AllReady.cons rfl (fun K hK => ?_) (AllReady.cons rfl (fun K hK => ?_) AllReady.nil)
            · go_simp
              refine hK _ _ ?_
              clear hK K
              refine wpAny_ready (rs := [6]) (by kernel_rfl) (by simp) ?_
              refine AllReady.cons rfl (fun K hK => ?_) AllReady.nil
              go_simp
              refine hK _ _ ?_
              clear hK K
              refine wpAny_ready (rs := [7]) (by kernel_rfl) (by simp) ?_
              refine AllReady.cons rfl (fun K hK => ?_) AllReady.nil
              go_simp
              refine (copy_specC g.pk[k].v g.pk[k].p g.pk[k].c _ HN.out).mono ?_
              rintro e w4 ⟨a4, c4, rfl, ho4, hb4⟩
              have H4 : Hid (w4.ownsRow wr.heap.size 2 1 (.slice a4 g.pk[k].v.prev.length c4) g.pk[k].v.prev.length (nv g.pk[k].v.prev) ∧ Below wr.heap.size wr w4) := ⟨ho4, ⟨hb4.os, hb4.tape, hb4.output, hb4.size, hb4.block⟩⟩
              have hz4 : wr.heap.size ≤ w4.heap.size := hb4.size
              have hlt4 : w.heap.size + 2 < w4.heap.size := by omega
              have hne4 : ¬ w.heap.size + 2 = w4.heap.size := by omega
              have hd4 : w4.cell? ⟨w.heap.size + 2, 2, none⟩ = some u := cell_of_heap (HI.out.1.on (H4.out.2.mono HI.out.1.hi)).obox
              clear ho4 hb4
              refine hK _ _ ?_
              clear hK K
              refine wpAny_ready (rs := [8]) (by kernel_rfl) (by simp) ?_
              refine AllReady.cons rfl (fun K hK => ?_) AllReady.nil
              go_simp
              have HB5 : Hid (∀ o, Below w4.heap.size w4 (w4.alloc o)) := fun o => (Below.refl _ _).alloc (Nat.le_refl _) _
              refine hK _ _ ?_
              clear hK K
              refine wpAny_ready (rs := [9]) (by kernel_rfl) (by simp) ?_
              refine AllReady.cons rfl (fun K hK => ?_) AllReady.nil
              refine wp_append_own _ (.tmp 35) (.tmp 42) 30 rfl w1.heap.size 37 i0 _ 9 96 Tryz.underlying30 hi hz0 hz1 hz2 rfl (by decide) u rs.length (mcs rs) rfl (((HI.out.2.1.kept H4.out.2).kept (HB5.out _)).1) ⟨w4.heap.size, 0, none⟩ 1 1 (emCells (Em.mk g.pk[k].v a4 c4)) rfl rfl (cells_at03 (vs := emCells (Em.mk g.pk[k].v a4 c4)) (MapKept.heap_alloc _ _).1) (fun u hu => by simp [emCells] at hu; rcases hu with rfl | rfl | rfl | rfl | rfl | rfl | rfl | rfl | rfl <;> rfl) (by unfold maxLen; omega) (by omega) (by simp; omega) (fun v6 w6 hO6 hg6 hn6 => ?_)
              have hO6b : EmsOwn w6 w1.heap.size v6 (rs ++ [Em.mk g.pk[k].v a4 c4]) := by unfold EmsOwn; rw [mcs_append, List.length_append, mcs_one_cons]; exact hO6
              obtain ⟨hS6, hB6⟩ := HI.out.2.1.more HI.out.1.hi H4.out.2 H4.out.1 (HB5.out _) hO6b hg6
              have H6 : Hid (CO w g a cap (some ⟨b, off, none⟩) cp w1 w1.heap.size u1 u w6 ∧ SOut w1.heap.size w6 v6 (rs ++ [Em.mk g.pk[k].v a4 c4]) ∧ vs (rs ++ [Em.mk g.pk[k].v a4 c4]) = vs (g.pk.take (k + 1))) := ⟨HI.out.1.on hB6, hS6, vs_more hlt HI.out.2.2 a4 c4⟩
              have hf6 : w6.frozen? ⟨w.heap.size + 2, 2, none⟩ = false := frozen_of_heap H6.out.1.obox
              have hc6 : w6.cell? ⟨w.heap.size + 2, 2, none⟩ = some u := cell_of_heap H6.out.1.obox
              obtain ⟨a6, c6, e6⟩ := hS6.slice
              rw [List.length_append, List.length_singleton, hrl] at e6
              subst e6
              clear hO6 hO6b hg6 hn6 hS6 hB6
              refine hK _ _ ?_
              clear hK K
              refine wpAny_take (i := 10) (v := (.pointer (some ⟨w.heap.size + 2, 2, none⟩))) rfl (by kernel_rfl) (by kernel_rfl) (by kernel_rfl) (fun _ _ _ h => h) (Or.inl ⟨by kernel_rfl, ?_⟩) ?_
              · intro w
                go_simp
              refine wpAny_ready (rs := [11]) (by kernel_rfl) (by simp) ?_
              refine AllReady.cons rfl (fun K hK => ?_) AllReady.nil
              go_simp
              refine hK _ _ ?_
              clear hK K
              refine wpAny_done (by kernel_rfl) ?_ _
              go_wp2
              go_roundw
              case rel => exact ⟨k + 1, _, rs ++ [Em.mk g.pk[k].v a4 c4], by omega, by go_num, H6.out.1.put2 _, H6.out.2.1.set (b := w.heap.size + 2) (o := 2) (by have := H6.out.1.lo; omega) _, H6.out.2.2⟩
              case measure => simp [intOf]; omega
            · go_simp
              refine hK _ _ ?_
              clear hK K
              refine wpAny_ready (rs := [1, 7]) (by kernel_rfl) (by simp) ?_
              refine AllReady.cons rfl (fun K hK => ?_) (AllReady.cons rfl (fun K hK => ?_) AllReady.nil)
              · go_simp
                refine hK _ _ ?_
                clear hK K
                refine wpAny_ready (rs := [7]) (by kernel_rfl) (by simp) ?_
                refine AllReady.cons rfl (fun K hK => ?_) AllReady.nil
                go_simp
                refine (copy_specC g.pk[k].v g.pk[k].p g.pk[k].c _ HN.out).mono ?_
                rintro e w4 ⟨a4, c4, rfl, ho4, hb4⟩
                have H4 : Hid (w4.ownsRow wr.heap.size 2 1 (.slice a4 g.pk[k].v.prev.length c4) g.pk[k].v.prev.length (nv g.pk[k].v.prev) ∧ Below wr.heap.size wr w4) := ⟨ho4, ⟨hb4.os, hb4.tape, hb4.output, hb4.size, hb4.block⟩⟩
                have hz4 : wr.heap.size ≤ w4.heap.size := hb4.size
                have hlt4 : w.heap.size + 2 < w4.heap.size := by omega
                have hne4 : ¬ w.heap.size + 2 = w4.heap.size := by omega
                have hd4 : w4.cell? ⟨w.heap.size + 2, 2, none⟩ = some u := cell_of_heap (HI.out.1.on (H4.out.2.mono HI.out.1.hi)).obox
                clear ho4 hb4
                refine hK _ _ ?_
                clear hK K
                refine wpAny_ready (rs := [8]) (by kernel_rfl) (by simp) ?_
                refine AllReady.cons rfl (fun K hK => ?_) AllReady.nil
                go_simp
                have HB5 : Hid (∀ o, Below w4.heap.size w4 (w4.alloc o)) := fun o => (Below.refl _ _).alloc (Nat.le_refl _) _
                refine hK _ _ ?_
                clear hK K
                refine wpAny_ready (rs := [9]) (by kernel_rfl) (by simp) ?_
                refine AllReady.cons rfl (fun K hK => ?_) AllReady.nil
                refine wp_append_own _ (.tmp 35) (.tmp 42) 30 rfl w1.heap.size 37 i0 _ 9 96 Tryz.underlying30 hi hz0 hz1 hz2 rfl (by decide) u rs.length (mcs rs) rfl (((HI.out.2.1.kept H4.out.2).kept (HB5.out _)).1) ⟨w4.heap.size, 0, none⟩ 1 1 (emCells (Em.mk g.pk[k].v a4 c4)) rfl rfl (cells_at03 (vs := emCells (Em.mk g.pk[k].v a4 c4)) (MapKept.heap_alloc _ _).1) (fun u hu => by simp [emCells] at hu; rcases hu with rfl | rfl | rfl | rfl | rfl | rfl | rfl | rfl | rfl <;> rfl) (by unfold maxLen; omega) (by omega) (by simp; omega) (fun v6 w6 hO6 hg6 hn6 => ?_)
                have hO6b : EmsOwn w6 w1.heap.size v6 (rs ++ [Em.mk g.pk[k].v a4 c4]) := by unfold EmsOwn; rw [mcs_append, List.length_append, mcs_one_cons]; exact hO6
                obtain ⟨hS6, hB6⟩ := HI.out.2.1.more HI.out.1.hi H4.out.2 H4.out.1 (HB5.out _) hO6b hg6
                have H6 : Hid (CO w g a cap (some ⟨b, off, none⟩) cp w1 w1.heap.size u1 u w6 ∧ SOut w1.heap.size w6 v6 (rs ++ [Em.mk g.pk[k].v a4 c4]) ∧ vs (rs ++ [Em.mk g.pk[k].v a4 c4]) = vs (g.pk.take (k + 1))) := ⟨HI.out.1.on hB6, hS6, vs_more hlt HI.out.2.2 a4 c4⟩
                have hf6 : w6.frozen? ⟨w.heap.size + 2, 2, none⟩ = false := frozen_of_heap H6.out.1.obox
                have hc6 : w6.cell? ⟨w.heap.size + 2, 2, none⟩ = some u := cell_of_heap H6.out.1.obox
                obtain ⟨a6, c6, e6⟩ := hS6.slice
                rw [List.length_append, List.length_singleton, hrl] at e6
                subst e6
                clear hO6 hO6b hg6 hn6 hS6 hB6
                refine hK _ _ ?_
                clear hK K
                refine wpAny_take (i := 10) (v := (.pointer (some ⟨w.heap.size + 2, 2, none⟩))) rfl (by kernel_rfl) (by kernel_rfl) (by kernel_rfl) (fun _ _ _ h => h) (Or.inl ⟨by kernel_rfl, ?_⟩) ?_
                · intro w
                  go_simp
                refine wpAny_ready (rs := [11]) (by kernel_rfl) (by simp) ?_
                refine AllReady.cons rfl (fun K hK => ?_) AllReady.nil
                go_simp
                refine hK _ _ ?_
                clear hK K
                refine wpAny_done (by kernel_rfl) ?_ _
                go_wp2
                go_roundw
                case rel => exact ⟨k + 1, _, rs ++ [Em.mk g.pk[k].v a4 c4], by omega, by go_num, H6.out.1.put2 _, H6.out.2.1.set (b := w.heap.size + 2) (o := 2) (by have := H6.out.1.lo; omega) _, H6.out.2.2⟩
                case measure => simp [intOf]; omega
              · go_simp
                refine (copy_specC g.pk[k].v g.pk[k].p g.pk[k].c _ HN.out).mono ?_
                rintro e w4 ⟨a4, c4, rfl, ho4, hb4⟩
                have H4 : Hid (w4.ownsRow wr.heap.size 2 1 (.slice a4 g.pk[k].v.prev.length c4) g.pk[k].v.prev.length (nv g.pk[k].v.prev) ∧ Below wr.heap.size wr w4) := ⟨ho4, ⟨hb4.os, hb4.tape, hb4.output, hb4.size, hb4.block⟩⟩
                have hz4 : wr.heap.size ≤ w4.heap.size := hb4.size
                have hlt4 : w.heap.size + 2 < w4.heap.size := by omega
                have hne4 : ¬ w.heap.size + 2 = w4.heap.size := by omega
                have hd4 : w4.cell? ⟨w.heap.size + 2, 2, none⟩ = some u := cell_of_heap (HI.out.1.on (H4.out.2.mono HI.out.1.hi)).obox
                clear ho4 hb4
                refine hK _ _ ?_
                clear hK K
                refine wpAny_ready (rs := [1, 8]) (by kernel_rfl) (by simp) ?_
                refine AllReady.cons rfl (fun K hK => ?_) (AllReady.cons rfl (fun K hK => ?_) AllReady.nil)
                · go_simp
                  refine hK _ _ ?_
                  clear hK K
                  refine wpAny_ready (rs := [8]) (by kernel_rfl) (by simp) ?_
                  refine AllReady.cons rfl (fun K hK => ?_) AllReady.nil
                  go_simp
                  have HB5 : Hid (∀ o, Below w4.heap.size w4 (w4.alloc o)) := fun o => (Below.refl _ _).alloc (Nat.le_refl _) _
                  refine hK _ _ ?_
                  clear hK K
                  refine wpAny_ready (rs := [9]) (by kernel_rfl) (by simp) ?_
                  refine AllReady.cons rfl (fun K hK => ?_) AllReady.nil
                  refine wp_append_own _ (.tmp 35) (.tmp 42) 30 rfl w1.heap.size 37 i0 _ 9 96 Tryz.underlying30 hi hz0 hz1 hz2 rfl (by decide) u rs.length (mcs rs) rfl (((HI.out.2.1.kept H4.out.2).kept (HB5.out _)).1) ⟨w4.heap.size, 0, none⟩ 1 1 (emCells (Em.mk g.pk[k].v a4 c4)) rfl rfl (cells_at03 (vs := emCells (Em.mk g.pk[k].v a4 c4)) (MapKept.heap_alloc _ _).1) (fun u hu => by simp [emCells] at hu; rcases hu with rfl | rfl | rfl | rfl | rfl | rfl | rfl | rfl | rfl <;> rfl) (by unfold maxLen; omega) (by omega) (by simp; omega) (fun v6 w6 hO6 hg6 hn6 => ?_)
                  have hO6b : EmsOwn w6 w1.heap.size v6 (rs ++ [Em.mk g.pk[k].v a4 c4]) := by unfold EmsOwn; rw [mcs_append, List.length_append, mcs_one_cons]; exact hO6
                  obtain ⟨hS6, hB6⟩ := HI.out.2.1.more HI.out.1.hi H4.out.2 H4.out.1 (HB5.out _) hO6b hg6
                  have H6 : Hid (CO w g a cap (some ⟨b, off, none⟩) cp w1 w1.heap.size u1 u w6 ∧ SOut w1.heap.size w6 v6 (rs ++ [Em.mk g.pk[k].v a4 c4]) ∧ vs (rs ++ [Em.mk g.pk[k].v a4 c4]) = vs (g.pk.take (k + 1))) := ⟨HI.out.1.on hB6, hS6, vs_more hlt HI.out.2.2 a4 c4⟩
                  have hf6 : w6.frozen? ⟨w.heap.size + 2, 2, none⟩ = false := frozen_of_heap H6.out.1.obox
                  have hc6 : w6.cell? ⟨w.heap.size + 2, 2, none⟩ = some u := cell_of_heap H6.out.1.obox
                  obtain ⟨a6, c6, e6⟩ := hS6.slice
                  rw [List.length_append, List.length_singleton, hrl] at e6
                  subst e6
                  clear hO6 hO6b hg6 hn6 hS6 hB6
                  refine hK _ _ ?_
                  clear hK K
                  refine wpAny_take (i := 10) (v := (.pointer (some ⟨w.heap.size + 2, 2, none⟩))) rfl (by kernel_rfl) (by kernel_rfl) (by kernel_rfl) (fun _ _ _ h => h) (Or.inl ⟨by kernel_rfl, ?_⟩) ?_
                  · intro w
                    go_simp
                  refine wpAny_ready (rs := [11]) (by kernel_rfl) (by simp) ?_
                  refine AllReady.cons rfl (fun K hK => ?_) AllReady.nil
                  go_simp
                  refine hK _ _ ?_
                  clear hK K
                  refine wpAny_done (by kernel_rfl) ?_ _
                  go_wp2
                  go_roundw
                  case rel => exact ⟨k + 1, _, rs ++ [Em.mk g.pk[k].v a4 c4], by omega, by go_num, H6.out.1.put2 _, H6.out.2.1.set (b := w.heap.size + 2) (o := 2) (by have := H6.out.1.lo; omega) _, H6.out.2.2⟩
                  case measure => simp [intOf]; omega
                · go_simp
                  have HB5 : Hid (∀ o, Below w4.heap.size w4 (w4.alloc o)) := fun o => (Below.refl _ _).alloc (Nat.le_refl _) _
                  refine hK _ _ ?_
                  clear hK K
                  refine wpAny_ready (rs := [1]) (by kernel_rfl) (by simp) ?_
                  refine AllReady.cons rfl (fun K hK => ?_) AllReady.nil
                  go_simp
                  refine hK _ _ ?_
                  clear hK K
                  refine wpAny_ready (rs := [9]) (by kernel_rfl) (by simp) ?_
                  refine AllReady.cons rfl (fun K hK => ?_) AllReady.nil
                  refine wp_append_own _ (.tmp 35) (.tmp 42) 30 rfl w1.heap.size 37 i0 _ 9 96 Tryz.underlying30 hi hz0 hz1 hz2 rfl (by decide) u rs.length (mcs rs) rfl (((HI.out.2.1.kept H4.out.2).kept (HB5.out _)).1) ⟨w4.heap.size, 0, none⟩ 1 1 (emCells (Em.mk g.pk[k].v a4 c4)) rfl rfl (cells_at03 (vs := emCells (Em.mk g.pk[k].v a4 c4)) (MapKept.heap_alloc _ _).1) (fun u hu => by simp [emCells] at hu; rcases hu with rfl | rfl | rfl | rfl | rfl | rfl | rfl | rfl | rfl <;> rfl) (by unfold maxLen; omega) (by omega) (by simp; omega) (fun v6 w6 hO6 hg6 hn6 => ?_)
                  have hO6b : EmsOwn w6 w1.heap.size v6 (rs ++ [Em.mk g.pk[k].v a4 c4]) := by unfold EmsOwn; rw [mcs_append, List.length_append, mcs_one_cons]; exact hO6
                  obtain ⟨hS6, hB6⟩ := HI.out.2.1.more HI.out.1.hi H4.out.2 H4.out.1 (HB5.out _) hO6b hg6
                  have H6 : Hid (CO w g a cap (some ⟨b, off, none⟩) cp w1 w1.heap.size u1 u w6 ∧ SOut w1.heap.size w6 v6 (rs ++ [Em.mk g.pk[k].v a4 c4]) ∧ vs (rs ++ [Em.mk g.pk[k].v a4 c4]) = vs (g.pk.take (k + 1))) := ⟨HI.out.1.on hB6, hS6, vs_more hlt HI.out.2.2 a4 c4⟩
                  have hf6 : w6.frozen? ⟨w.heap.size + 2, 2, none⟩ = false := frozen_of_heap H6.out.1.obox
                  have hc6 : w6.cell? ⟨w.heap.size + 2, 2, none⟩ = some u := cell_of_heap H6.out.1.obox
                  obtain ⟨a6, c6, e6⟩ := hS6.slice
                  rw [List.length_append, List.length_singleton, hrl] at e6
                  subst e6
                  clear hO6 hO6b hg6 hn6 hS6 hB6
                  refine hK _ _ ?_
                  clear hK K
                  refine wpAny_take (i := 10) (v := (.pointer (some ⟨w.heap.size + 2, 2, none⟩))) rfl (by kernel_rfl) (by kernel_rfl) (by kernel_rfl) (fun _ _ _ h => h) (Or.inl ⟨by kernel_rfl, ?_⟩) ?_
                  · intro w
                    go_simp
                  refine wpAny_ready (rs := [11]) (by kernel_rfl) (by simp) ?_
                  refine AllReady.cons rfl (fun K hK => ?_) AllReady.nil
                  go_simp
                  refine hK _ _ ?_
                  clear hK K
                  refine wpAny_done (by kernel_rfl) ?_ _
                  go_wp2
                  go_roundw
                  case rel => exact ⟨k + 1, _, rs ++ [Em.mk g.pk[k].v a4 c4], by omega, by go_num, H6.out.1.put2 _, H6.out.2.1.set (b := w.heap.size + 2) (o := 2) (by have := H6.out.1.lo; omega) _, H6.out.2.2⟩
                  case measure => simp [intOf]; omega
        · have e : k = g.pk.length := by omega
          subst e
          have hd : decide ((g.pk.length : Int) < (g.pk.length : Int)) = false := decide_eq_false (by omega)
          obtain ⟨a1, c1, rfl⟩ := HC1.out.2.1.slice
          obtain ⟨a2, c2, rfl⟩ := HI.out.2.1.slice
          have hg0 : wr.cell? ⟨w.heap.size + 2, 0, none⟩ = some (.int .i64 g.room) := cell_of_heap HI.out.1.obox
          have hg1 : wr.cell? ⟨w.heap.size + 2, 1, none⟩ = some (.slice a1 r1.length c1) := cell_of_heap HI.out.1.obox
          have hg2 : wr.cell? ⟨w.heap.size + 2, 2, none⟩ = some (.slice a2 rs.length c2) := cell_of_heap HI.out.1.obox
          have hq0 : wr.cell? ⟨w.heap.size + 1, 0, none⟩ = some (.int .i64 0) := cell_of_heap HI.out.1.rbox
          have hq1 : wr.cell? ⟨w.heap.size + 1, 1, none⟩ = some (.slice none 0 0) := cell_of_heap HI.out.1.rbox
          have hq2 : wr.cell? ⟨w.heap.size + 1, 2, none⟩ = some (.slice none 0 0) := cell_of_heap HI.out.1.rbox
          have hf : ∀ o, wr.frozen? ⟨w.heap.size + 1, o, none⟩ = false := fun o => frozen_of_heap HI.out.1.rbox
          go_wp2
          have hS1 : SOut (w.heap.size + 3) wr (.slice a1 r1.length c1) r1 := HC1.out.2.1.agree fun q h1 h2 => HI.out.1.agree q h1 h2
          have hlo := HI.out.1.lo
          trace_state
          skip
          refine bodyPost_ret (v := .agg #[.int .i64 g.room, .slice a1 r1.length c1, .slice a2 rs.length c2]) (by simp [results, Tryz.results86, go_sem, hq0, hq1, hq2]) rfl ⟨_, _, r1, rs, rfl, (((hS1.set (by omega) _).set (by omega) _).set (by omega) _).low (by omega), (((HI.out.2.1.set (by omega) _).set (by omega) _).set (by omega) _).low (by omega), HC1.out.2.2, by rw [HI.out.2.2, List.take_length], (((HI.out.1.below.setCell (by simp) _).setCell (by simp) _).setCell (by simp) _)⟩
end Go.Proofs.YtobkinocaomcmaaGreat
