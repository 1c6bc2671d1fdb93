/- The specification's GraphRight. -/
import Derived.Test.YteajcmkaoahbeaaGreatDoorZGrRow
import Derived.Deep.RegionHeld
namespace Go.Proofs.YteajcmkaoahbeaaGreatDoor
open Go.RowKit

/-- A graph: its Room, its Events, its Parked. -/
structure Gr where
  room : Int
  evs : List Em
  pk : List Em
/-- Of each of Events all behind which it stands are among them, and none is parked. -/
def evsB (g : Gr) : Bool := g.evs.all fun m => allIn (idsOf g.evs) m.v.prev && decide (atI (idsOf g.pk) m.v.id < 0)
def pkB (g : Gr) : Bool := g.pk.all fun m => !allIn (idsOf g.evs) m.v.prev
def depB (g : Gr) : Bool := (idsOf g.evs).all fun id => decide (0 < dep (pvOf g.evs) (idsOf g.evs).length id)
def rightG (g : Gr) : Bool := isB g.room 1 3 && rowB g.evs g.room 60 && rowB g.pk g.room 20 && evsB g && pkB g && depB g
/-- The graph's variable, and its rows. -/
structure GAt (w : World) (g : Gr) (a : Option Addr) (cap : Nat) (p : Option Addr) (cp : Nat) (W : World) : Prop where
  box : W.heap[w.heap.size]? = some (.cells #[.int .i64 g.room, .slice a g.evs.length cap, .slice p g.pk.length cp] 32 (0, 0))
  evs : EvsAt W a g.evs
  pk : EvsAt W p g.pk
  below : Below w.heap.size w W
theorem GAt.on {w : World} {g : Gr} {a : Option Addr} {cap : Nat} {p : Option Addr} {cp : Nat} {W W' : World} (h : GAt w g a cap p cp W) (hb : Below W.heap.size W W') : GAt w g a cap p cp W' :=
  ⟨(hb.block _ (Array.getElem?_eq_some_iff.1 h.box).1).trans h.box, h.evs.kept hb, h.pk.kept hb, h.below.trans (hb.mono h.below.size)⟩
theorem evsB_no {g : Gr} {k : Nat} (hk : k < g.evs.length) (h : (allIn (idsOf g.evs) g.evs[k].v.prev && decide (atI (idsOf g.pk) g.evs[k].v.id < 0)) = false) : evsB g = false := List.all_eq_false.2 ⟨g.evs[k], List.getElem_mem hk, by simp [h]⟩
theorem evsB_yes {g : Gr} (h : ∀ j (h : j < g.evs.length), (allIn (idsOf g.evs) g.evs[j].v.prev && decide (atI (idsOf g.pk) g.evs[j].v.id < 0)) = true) : evsB g = true := List.all_eq_true.2 fun m hm => by
  obtain ⟨j, hj, rfl⟩ := List.getElem_of_mem hm
  exact h j hj
theorem rightG_pk {g : Gr} (h : pkB g = false) : rightG g = false := by simp [rightG, h]
theorem rightG_dep {g : Gr} (h : depB g = false) : rightG g = false := by simp [rightG, h]
theorem rowB_rise {es : List Em} {room : Int} {most : Nat} (h : rowB es room most = true) : ∀ (d i : Nat) (hj : i + d + 1 < es.length), es[i].v.id < es[i + d + 1].v.id
  | 0, i, hj => by
    simp only [rowB, Bool.and_eq_true] at h
    have h1 := List.all_eq_true.1 h.2 (i + 1) (List.mem_range.2 hj)
    rw [okAt_succ hj] at h1
    simp only [Bool.and_eq_true] at h1
    simpa using h1.2
  | d + 1, i, hj => by
    have h0 := rowB_rise h d i (by omega)
    simp only [rowB, Bool.and_eq_true] at h
    have hj2 : i + d + 1 + 1 < es.length := by omega
    have h1 := List.all_eq_true.1 h.2 (i + d + 1 + 1) (List.mem_range.2 hj2)
    rw [okAt_succ hj2] at h1
    simp only [Bool.and_eq_true] at h1
    have h2 : es[i + d + 1].v.id < es[i + d + 1 + 1].v.id := by simpa using h1.2
    have e : es[i + (d + 1) + 1].v.id = es[i + d + 1 + 1].v.id := rfl
    omega
theorem rowB_nodup {es : List Em} {room : Int} {most : Nat} (h : rowB es room most = true) : (idsOf es).Nodup := by
  refine List.pairwise_iff_getElem.2 fun i j hi hj hij => ?_
  obtain ⟨d, rfl⟩ : ∃ d, j = i + d + 1 := ⟨j - i - 1, by omega⟩
  have h1 := rowB_rise h d i (by simpa [idsOf] using hj)
  simp only [idsOf, List.getElem_map]
  omega
theorem rightG_evs {g : Gr} (h : evsB g = false) : rightG g = false := by simp [rightG, h]

set_option maxHeartbeats 4000000 in
set_option maxRecDepth 100000 in
theorem graph_spec (g : Gr) (a : Option Addr) (cap : Nat) (p : Option Addr) (cp : Nat) (w : World) (h : EvsAt w a g.evs) (h2 : EvsAt w p g.pk) :
    Calls Tryz.prog 37 #[.agg #[.int .i64 g.room, .slice a g.evs.length cap, .slice p g.pk.length cp]] w fun e w' => e = .returned (.bool (rightG g)) ∧ Below w.heap.size w w' := by
  obtain ⟨room, evs, pk⟩ := g
  simp only at h h2 ⊢
  have hl := h.len
  have hl2 := h2.len
  have HG : Hid (GAt w ⟨room, evs, pk⟩ a cap p cp (w.alloc (.cells #[.int .i64 room, .slice a evs.length cap, .slice p pk.length cp] 32))) := ⟨(MapKept.heap_alloc w _).1, h.kept ((Below.refl _ _).alloc (Nat.le_refl _) _), h2.kept ((Below.refl _ _).alloc (Nat.le_refl _) _), (Below.refl _ _).alloc (Nat.le_refl _) _⟩
  clear h h2
  cases c1 : isB room 1 3
  · have HS : Hid (rightG ⟨room, evs, pk⟩ = false) := by unfold Hid; simp [rightG, c1]
    go_enter Tryz.func37, Tryz.ntmps37
    go_wp2_with (go_at_call 61; refine (is_spec _ _ _ _).mono ?_; rintro e w' ⟨rfl, rfl⟩; rw [c1])
    go_ret
    exact ⟨ret_bool HS.out.symm, HG.out.below⟩
  cases c2 : rowB evs room 60
  · have HS : Hid (rightG ⟨room, evs, pk⟩ = false) := by unfold Hid; simp [rightG, c2]
    go_enter Tryz.func37, Tryz.ntmps37
    go_wp2_with (first
      | (go_at_call 61; refine (is_spec _ _ _ _).mono ?_; rintro e w' ⟨rfl, rfl⟩; rw [c1])
      | (go_at_call 62; refine (row_spec evs room 60 a cap _ HG.out.evs (by omega)).mono ?_; rintro e w1 ⟨rfl, hb1⟩; rw [c2]; have HG1 : Hid (GAt w ⟨room, evs, pk⟩ a cap p cp w1) := HG.out.on hb1; clear hb1))
    go_ret
    exact ⟨ret_bool HS.out.symm, HG1.out.below⟩
  cases c3 : rowB pk room 20
  · have HS : Hid (rightG ⟨room, evs, pk⟩ = false) := by unfold Hid; simp [rightG, c3]
    go_enter Tryz.func37, Tryz.ntmps37
    go_wp2_with (first
        | (go_at_call 61; refine (is_spec _ _ _ _).mono ?_; rintro e w' ⟨rfl, rfl⟩; rw [c1])
        | (go_at_call 62; have hq := HG1; refine (row_spec pk room 20 p cp _ HG1.out.pk (by omega)).mono ?_; rintro e w2 ⟨rfl, hb2⟩; rw [c3]; have HG2 : Hid (GAt w ⟨room, evs, pk⟩ a cap p cp w2) := HG1.out.on hb2; clear hb2 hq)
        | (go_at_call 62; refine (row_spec evs room 60 a cap _ HG.out.evs (by omega)).mono ?_; rintro e w1 ⟨rfl, hb1⟩; rw [c2]; have HG1 : Hid (GAt w ⟨room, evs, pk⟩ a cap p cp w1) := HG.out.on hb1; have hy0 : w1.cell? ⟨w.heap.size, 0, none⟩ = some (.int .i64 room) := cell_of_heap HG1.out.box; have hy2 : w1.cell? ⟨w.heap.size, 2, none⟩ = some (.slice p pk.length cp) := cell_of_heap HG1.out.box; clear hb1))
    go_ret
    exact ⟨ret_bool HS.out.symm, HG2.out.below⟩
  go_enter Tryz.func37, Tryz.ntmps37
  go_wp2_with (first
      | (go_at_call 61; refine (is_spec _ _ _ _).mono ?_; rintro e w' ⟨rfl, rfl⟩; rw [c1])
      | (go_at_call 62; have hq := HG1; refine (row_spec pk room 20 p cp _ HG1.out.pk (by omega)).mono ?_; rintro e w2 ⟨rfl, hb2⟩; rw [c3]; have HG2 : Hid (GAt w ⟨room, evs, pk⟩ a cap p cp w2) := HG1.out.on hb2; clear hb2 hq)
      | (go_at_call 62; refine (row_spec evs room 60 a cap _ HG.out.evs (by omega)).mono ?_; rintro e w1 ⟨rfl, hb1⟩; rw [c2]; have HG1 : Hid (GAt w ⟨room, evs, pk⟩ a cap p cp w1) := HG.out.on hb1; have hy0 : w1.cell? ⟨w.heap.size, 0, none⟩ = some (.int .i64 room) := cell_of_heap HG1.out.box; have hy2 : w1.cell? ⟨w.heap.size, 2, none⟩ = some (.slice p pk.length cp) := cell_of_heap HG1.out.box; clear hb1))
  go_loopw [3] (fun i wr => ∃ k : Nat, k ≤ evs.length ∧ i = .int .i64 k ∧ Hid (∀ j (h : j < evs.length), j < k → (allIn (idsOf evs) evs[j].v.prev && decide (atI (idsOf pk) evs[j].v.id < 0)) = true) ∧ Hid (GAt w ⟨room, evs, pk⟩ a cap p cp wr)) (fun i _ => evs.length - (intOf i).toNat)
  case atStart => exact ⟨0, Nat.zero_le _, rfl, fun _ _ h => absurd h (Nat.not_lt_zero _), HG2⟩
  case round =>
    clear HG HG1 HG2
    obtain ⟨k, hk, rfl, HO, HG⟩ := hrel
    have hx1 : wr.cell? ⟨w.heap.size, 1, none⟩ = some (.slice a evs.length cap) := cell_of_heap HG.out.box
    have hx2 : wr.cell? ⟨w.heap.size, 2, none⟩ = some (.slice p pk.length cp) := cell_of_heap HG.out.box
    have hz : w.heap.size < wr.heap.size := (Array.getElem?_eq_some_iff.1 HG.out.box).1
    by_cases hlt : k < evs.length
    · have HE : Hid (EvsAt wr a evs) := HG.out.evs
      have HP : Hid (EvsAt wr p pk) := HG.out.pk
      obtain ⟨b, off, rfl, hbb, hcell⟩ := HE.out.row (by omega)
      have hc0 : wr.cell? ⟨b, off + k * 9, none⟩ = some (.int .i64 evs[k].v.id) := hcell k hlt 0 (by omega)
      have hc1 : wr.cell? ⟨b, off + k * 9 + 1, none⟩ = some (.int .i64 evs[k].v.room) := by rw [Nat.add_assoc]; exact hcell k hlt 1 (by omega)
      have hc2 : wr.cell? ⟨b, off + k * 9 + 2, none⟩ = some (.int .i64 evs[k].v.author) := by rw [Nat.add_assoc]; exact hcell k hlt 2 (by omega)
      have hc3 : wr.cell? ⟨b, off + k * 9 + 3, none⟩ = some (.int .i64 evs[k].v.kind) := by rw [Nat.add_assoc]; exact hcell k hlt 3 (by omega)
      have hc4 : wr.cell? ⟨b, off + k * 9 + 4, none⟩ = some (.int .i64 evs[k].v.key) := by rw [Nat.add_assoc]; exact hcell k hlt 4 (by omega)
      have hc5 : wr.cell? ⟨b, off + k * 9 + 5, none⟩ = some (.int .i64 evs[k].v.n) := by rw [Nat.add_assoc]; exact hcell k hlt 5 (by omega)
      have hc6 : wr.cell? ⟨b, off + k * 9 + 6, none⟩ = some (.string evs[k].v.text) := by rw [Nat.add_assoc]; exact hcell k hlt 6 (by omega)
      have hc7 : wr.cell? ⟨b, off + k * 9 + 7, none⟩ = some (.slice evs[k].p evs[k].v.prev.length evs[k].c) := by rw [Nat.add_assoc]; exact hcell k hlt 7 (by omega)
      have hc8 : wr.cell? ⟨b, off + k * 9 + 8, none⟩ = some (.int .i64 evs[k].v.time) := by rw [Nat.add_assoc]; exact hcell k hlt 8 (by omega)
      clear hcell
      cases ha : allIn (idsOf evs) evs[k].v.prev
      · have HS : Hid (rightG ⟨room, evs, pk⟩ = false) := rightG_evs (evsB_no (g := ⟨room, evs, pk⟩) hlt (by simp [ha]))
        go_wp2
        refine wp_region_held_drew (S := (fun W => Below wr.heap.size wr W)) (by kernel_rfl) (Below.drew (Below.refl _ _)) (fun hHeld => ?_)
        refine wpAnyH_take (i := 0) (v := (.pointer (some ⟨w.heap.size, 1, none⟩))) rfl (by kernel_rfl) (by kernel_rfl) (by kernel_rfl) (fun _ _ _ h => h) (Or.inl ⟨by kernel_rfl, ?_⟩) hHeld ?_
        · intro W hW
          go_simp
        refine wpAnyH_take (i := 1) (v := (.slice (some ⟨b, off, none⟩) evs.length cap)) rfl (by kernel_rfl) (by kernel_rfl) (by kernel_rfl) (fun _ _ _ h => h) (Or.inl ⟨by kernel_rfl, ?_⟩) hHeld ?_
        · intro W hW
          have f := (hW.cell (p := ⟨w.heap.size, 1, none⟩) hz).trans hx1
          go_simp
        refine wpAnyH_take (i := 2) (v := (.pointer (some ⟨w.heap.size, 1, none⟩))) rfl (by kernel_rfl) (by kernel_rfl) (by kernel_rfl) (fun _ _ _ h => h) (Or.inl ⟨by kernel_rfl, ?_⟩) hHeld ?_
        · intro W hW
          go_simp
        refine wpAnyH_take (i := 3) (v := (.slice (some ⟨b, off, none⟩) evs.length cap)) rfl (by kernel_rfl) (by kernel_rfl) (by kernel_rfl) (fun _ _ _ h => h) (Or.inl ⟨by kernel_rfl, ?_⟩) hHeld ?_
        · intro W hW
          have f := (hW.cell (p := ⟨w.heap.size, 1, none⟩) hz).trans hx1
          go_simp
        refine wpAnyH_take (i := 4) (v := (.int .i64 k)) rfl (by kernel_rfl) (by kernel_rfl) (by kernel_rfl) (fun _ _ _ h => h) (Or.inl ⟨by kernel_rfl, ?_⟩) hHeld ?_
        · intro W hW
          go_simp
        refine wpAnyH_take (i := 5) (v := (.pointer (some ⟨b, off + k * 9, none⟩))) rfl (by kernel_rfl) (by kernel_rfl) (by kernel_rfl) (fun _ _ _ h => h) (Or.inl ⟨by kernel_rfl, ?_⟩) hHeld ?_
        · intro W hW
          go_simp
        refine wpAnyH_take (i := 6) (v := (.agg #[.int .i64 evs[k].v.id, .int .i64 evs[k].v.room, .int .i64 evs[k].v.author, .int .i64 evs[k].v.kind, .int .i64 evs[k].v.key, .int .i64 evs[k].v.n, .string evs[k].v.text, .slice evs[k].p evs[k].v.prev.length evs[k].c, .int .i64 evs[k].v.time])) rfl (by kernel_rfl) (by kernel_rfl) (by kernel_rfl) (fun _ _ _ h => h) (Or.inl ⟨by kernel_rfl, ?_⟩) hHeld ?_
        · intro W hW
          have f0 := (hW.cell (p := ⟨b, off + k * 9, none⟩) hbb).trans hc0
          have f1 := (hW.cell (p := ⟨b, off + k * 9 + 1, none⟩) hbb).trans hc1
          have f2 := (hW.cell (p := ⟨b, off + k * 9 + 2, none⟩) hbb).trans hc2
          have f3 := (hW.cell (p := ⟨b, off + k * 9 + 3, none⟩) hbb).trans hc3
          have f4 := (hW.cell (p := ⟨b, off + k * 9 + 4, none⟩) hbb).trans hc4
          have f5 := (hW.cell (p := ⟨b, off + k * 9 + 5, none⟩) hbb).trans hc5
          have f6 := (hW.cell (p := ⟨b, off + k * 9 + 6, none⟩) hbb).trans hc6
          have f7 := (hW.cell (p := ⟨b, off + k * 9 + 7, none⟩) hbb).trans hc7
          have f8 := (hW.cell (p := ⟨b, off + k * 9 + 8, none⟩) hbb).trans hc8
          go_simp
        refine wpAnyH_ready (rs := [7]) (by kernel_rfl) (by simp) ?_
        refine AllReadyH.cons rfl (fun K hK => ?_) AllReadyH.nil
        go_simp
        refine (all_spec evs evs[k] _ cap _ (HE.out.kept hHeld) ((HE.out.nums _ (List.getElem_mem hlt)).kept hHeld)).mono ?_
        rintro e w1 ⟨rfl, hb1⟩
        rw [ha]
        have hd1 : Below wr.heap.size wr w1 := hHeld.trans (hb1.mono hHeld.size)
        clear hb1
        refine hK.out _ _ hd1 (fun hH1 => ?_)
        clear hK K
        refine wpAnyH_take (i := 8) (v := (.bool true)) rfl (by kernel_rfl) (by kernel_rfl) (by kernel_rfl) (fun _ _ _ h => h) (Or.inl ⟨by kernel_rfl, ?_⟩) hH1 ?_
        · intro W hW
          go_simp
        refine wpAnyH_take (i := 9) (v := (.bool true)) rfl (by kernel_rfl) (by kernel_rfl) (by kernel_rfl) (fun _ _ _ h => h) (Or.inl ⟨by kernel_rfl, ?_⟩) hH1 ?_
        · intro W hW
          go_simp
        refine wpAnyH_take (i := 10) (v := undef) rfl (by kernel_rfl) (by kernel_rfl) (by kernel_rfl) (fun _ _ _ h => h) (Or.inr ⟨by kernel_rfl, rfl⟩) hH1 ?_
        refine wpAnyH_take (i := 11) (v := undef) rfl (by kernel_rfl) (by kernel_rfl) (by kernel_rfl) (fun _ _ _ h => h) (Or.inr ⟨by kernel_rfl, rfl⟩) hH1 ?_
        refine wpAnyH_take (i := 12) (v := undef) rfl (by kernel_rfl) (by kernel_rfl) (by kernel_rfl) (fun _ _ _ h => h) (Or.inr ⟨by kernel_rfl, rfl⟩) hH1 ?_
        refine wpAnyH_take (i := 13) (v := undef) rfl (by kernel_rfl) (by kernel_rfl) (by kernel_rfl) (fun _ _ _ h => h) (Or.inr ⟨by kernel_rfl, rfl⟩) hH1 ?_
        refine wpAnyH_take (i := 14) (v := undef) rfl (by kernel_rfl) (by kernel_rfl) (by kernel_rfl) (fun _ _ _ h => h) (Or.inr ⟨by kernel_rfl, rfl⟩) hH1 ?_
        refine wpAnyH_take (i := 15) (v := undef) rfl (by kernel_rfl) (by kernel_rfl) (by kernel_rfl) (fun _ _ _ h => h) (Or.inr ⟨by kernel_rfl, rfl⟩) hH1 ?_
        refine wpAnyH_take (i := 16) (v := undef) rfl (by kernel_rfl) (by kernel_rfl) (by kernel_rfl) (fun _ _ _ h => h) (Or.inr ⟨by kernel_rfl, rfl⟩) hH1 ?_
        refine wpAnyH_take (i := 17) (v := undef) rfl (by kernel_rfl) (by kernel_rfl) (by kernel_rfl) (fun _ _ _ h => h) (Or.inr ⟨by kernel_rfl, rfl⟩) hH1 ?_
        refine wpAnyH_take (i := 18) (v := undef) rfl (by kernel_rfl) (by kernel_rfl) (by kernel_rfl) (fun _ _ _ h => h) (Or.inr ⟨by kernel_rfl, rfl⟩) hH1 ?_
        refine wpAnyH_take (i := 19) (v := undef) rfl (by kernel_rfl) (by kernel_rfl) (by kernel_rfl) (fun _ _ _ h => h) (Or.inr ⟨by kernel_rfl, rfl⟩) hH1 ?_
        refine wpAnyH_take (i := 20) (v := (.bool true)) rfl (by kernel_rfl) (by kernel_rfl) (by kernel_rfl) (fun _ _ _ h => h) (Or.inl ⟨by kernel_rfl, ?_⟩) hH1 ?_
        · intro W hW
          go_simp
        refine wpAnyH_done (by kernel_rfl) ?_ _
        simp only [Act.put, List.setIfInBounds_toArray, List.set_cons_zero, List.set_cons_succ, List.getElem_toArray, List.getElem_cons_zero, List.getElem_cons_succ]
        go_wp2
        go_ret
        exact ⟨ret_bool HS.out.symm, (HG.out.on hH1).below⟩
      cases hat : decide (0 ≤ atI (idsOf pk) evs[k].v.id)
      · have HS : Hid (∀ j (h : j < evs.length), j < k + 1 → (allIn (idsOf evs) evs[j].v.prev && decide (atI (idsOf pk) evs[j].v.id < 0)) = true) := fun j h hj => by
          by_cases e : j = k
          · subst e
            have : ¬ 0 ≤ atI (idsOf pk) evs[j].v.id := by simpa using hat
            rw [ha]
            simp
            omega
          · exact HO.out j h (by omega)
        go_wp2
        refine wp_region_held_drew (S := (fun W => Below wr.heap.size wr W)) (by kernel_rfl) (Below.drew (Below.refl _ _)) (fun hHeld => ?_)
        refine wpAnyH_take (i := 0) (v := (.pointer (some ⟨w.heap.size, 1, none⟩))) rfl (by kernel_rfl) (by kernel_rfl) (by kernel_rfl) (fun _ _ _ h => h) (Or.inl ⟨by kernel_rfl, ?_⟩) hHeld ?_
        · intro W hW
          go_simp
        refine wpAnyH_take (i := 1) (v := (.slice (some ⟨b, off, none⟩) evs.length cap)) rfl (by kernel_rfl) (by kernel_rfl) (by kernel_rfl) (fun _ _ _ h => h) (Or.inl ⟨by kernel_rfl, ?_⟩) hHeld ?_
        · intro W hW
          have f := (hW.cell (p := ⟨w.heap.size, 1, none⟩) hz).trans hx1
          go_simp
        refine wpAnyH_take (i := 2) (v := (.pointer (some ⟨w.heap.size, 1, none⟩))) rfl (by kernel_rfl) (by kernel_rfl) (by kernel_rfl) (fun _ _ _ h => h) (Or.inl ⟨by kernel_rfl, ?_⟩) hHeld ?_
        · intro W hW
          go_simp
        refine wpAnyH_take (i := 3) (v := (.slice (some ⟨b, off, none⟩) evs.length cap)) rfl (by kernel_rfl) (by kernel_rfl) (by kernel_rfl) (fun _ _ _ h => h) (Or.inl ⟨by kernel_rfl, ?_⟩) hHeld ?_
        · intro W hW
          have f := (hW.cell (p := ⟨w.heap.size, 1, none⟩) hz).trans hx1
          go_simp
        refine wpAnyH_take (i := 4) (v := (.int .i64 k)) rfl (by kernel_rfl) (by kernel_rfl) (by kernel_rfl) (fun _ _ _ h => h) (Or.inl ⟨by kernel_rfl, ?_⟩) hHeld ?_
        · intro W hW
          go_simp
        refine wpAnyH_take (i := 5) (v := (.pointer (some ⟨b, off + k * 9, none⟩))) rfl (by kernel_rfl) (by kernel_rfl) (by kernel_rfl) (fun _ _ _ h => h) (Or.inl ⟨by kernel_rfl, ?_⟩) hHeld ?_
        · intro W hW
          go_simp
        refine wpAnyH_take (i := 6) (v := (.agg #[.int .i64 evs[k].v.id, .int .i64 evs[k].v.room, .int .i64 evs[k].v.author, .int .i64 evs[k].v.kind, .int .i64 evs[k].v.key, .int .i64 evs[k].v.n, .string evs[k].v.text, .slice evs[k].p evs[k].v.prev.length evs[k].c, .int .i64 evs[k].v.time])) rfl (by kernel_rfl) (by kernel_rfl) (by kernel_rfl) (fun _ _ _ h => h) (Or.inl ⟨by kernel_rfl, ?_⟩) hHeld ?_
        · intro W hW
          have f0 := (hW.cell (p := ⟨b, off + k * 9, none⟩) hbb).trans hc0
          have f1 := (hW.cell (p := ⟨b, off + k * 9 + 1, none⟩) hbb).trans hc1
          have f2 := (hW.cell (p := ⟨b, off + k * 9 + 2, none⟩) hbb).trans hc2
          have f3 := (hW.cell (p := ⟨b, off + k * 9 + 3, none⟩) hbb).trans hc3
          have f4 := (hW.cell (p := ⟨b, off + k * 9 + 4, none⟩) hbb).trans hc4
          have f5 := (hW.cell (p := ⟨b, off + k * 9 + 5, none⟩) hbb).trans hc5
          have f6 := (hW.cell (p := ⟨b, off + k * 9 + 6, none⟩) hbb).trans hc6
          have f7 := (hW.cell (p := ⟨b, off + k * 9 + 7, none⟩) hbb).trans hc7
          have f8 := (hW.cell (p := ⟨b, off + k * 9 + 8, none⟩) hbb).trans hc8
          go_simp
        refine wpAnyH_ready (rs := [7]) (by kernel_rfl) (by simp) ?_
        refine AllReadyH.cons rfl (fun K hK => ?_) AllReadyH.nil
        go_simp
        refine (all_spec evs evs[k] _ cap _ (HE.out.kept hHeld) ((HE.out.nums _ (List.getElem_mem hlt)).kept hHeld)).mono ?_
        rintro e w1 ⟨rfl, hb1⟩
        rw [ha]
        have hd1 : Below wr.heap.size wr w1 := hHeld.trans (hb1.mono hHeld.size)
        clear hb1
        refine hK.out _ _ hd1 (fun hH1 => ?_)
        clear hK K
        refine wpAnyH_take (i := 8) (v := (.bool false)) rfl (by kernel_rfl) (by kernel_rfl) (by kernel_rfl) (fun _ _ _ h => h) (Or.inl ⟨by kernel_rfl, ?_⟩) hH1 ?_
        · intro W hW
          go_simp
        refine wpAnyH_take (i := 9) (v := (.bool false)) rfl (by kernel_rfl) (by kernel_rfl) (by kernel_rfl) (fun _ _ _ h => h) (Or.inl ⟨by kernel_rfl, ?_⟩) hH1 ?_
        · intro W hW
          go_simp
        refine wpAnyH_take (i := 10) (v := (.pointer (some ⟨w.heap.size, 2, none⟩))) rfl (by kernel_rfl) (by kernel_rfl) (by kernel_rfl) (fun _ _ _ h => h) (Or.inl ⟨by kernel_rfl, ?_⟩) hH1 ?_
        · intro W hW
          go_simp
        refine wpAnyH_take (i := 11) (v := (.slice p pk.length cp)) rfl (by kernel_rfl) (by kernel_rfl) (by kernel_rfl) (fun _ _ _ h => h) (Or.inl ⟨by kernel_rfl, ?_⟩) hH1 ?_
        · intro W hW
          have f := (hW.cell (p := ⟨w.heap.size, 2, none⟩) hz).trans hx2
          go_simp
        refine wpAnyH_take (i := 12) (v := (.pointer (some ⟨w.heap.size, 1, none⟩))) rfl (by kernel_rfl) (by kernel_rfl) (by kernel_rfl) (fun _ _ _ h => h) (Or.inl ⟨by kernel_rfl, ?_⟩) hH1 ?_
        · intro W hW
          go_simp
        refine wpAnyH_take (i := 13) (v := (.slice (some ⟨b, off, none⟩) evs.length cap)) rfl (by kernel_rfl) (by kernel_rfl) (by kernel_rfl) (fun _ _ _ h => h) (Or.inl ⟨by kernel_rfl, ?_⟩) hH1 ?_
        · intro W hW
          have f := (hW.cell (p := ⟨w.heap.size, 1, none⟩) hz).trans hx1
          go_simp
        refine wpAnyH_take (i := 14) (v := (.int .i64 k)) rfl (by kernel_rfl) (by kernel_rfl) (by kernel_rfl) (fun _ _ _ h => h) (Or.inl ⟨by kernel_rfl, ?_⟩) hH1 ?_
        · intro W hW
          go_simp
        refine wpAnyH_take (i := 15) (v := (.pointer (some ⟨b, off + k * 9, none⟩))) rfl (by kernel_rfl) (by kernel_rfl) (by kernel_rfl) (fun _ _ _ h => h) (Or.inl ⟨by kernel_rfl, ?_⟩) hH1 ?_
        · intro W hW
          go_simp
        refine wpAnyH_take (i := 16) (v := (.pointer (some ⟨b, off + k * 9, none⟩))) rfl (by kernel_rfl) (by kernel_rfl) (by kernel_rfl) (fun _ _ _ h => h) (Or.inl ⟨by kernel_rfl, ?_⟩) hH1 ?_
        · intro W hW
          go_simp
        refine wpAnyH_take (i := 17) (v := (.int .i64 evs[k].v.id)) rfl (by kernel_rfl) (by kernel_rfl) (by kernel_rfl) (fun _ _ _ h => h) (Or.inl ⟨by kernel_rfl, ?_⟩) hH1 ?_
        · intro W hW
          have f0 := (hW.cell (p := ⟨b, off + k * 9, none⟩) hbb).trans hc0
          go_simp
        refine wpAnyH_ready (rs := [18]) (by kernel_rfl) (by simp) ?_
        refine AllReadyH.cons rfl (fun K hK => ?_) AllReadyH.nil
        go_simp
        refine (at_spec pk evs[k].v.id p cp _ (HP.out.kept hH1)).mono ?_
        rintro e w2 ⟨rfl, rfl⟩
        refine hK.out _ _ hH1 (fun hH2 => ?_)
        clear hK K
        refine wpAnyH_take (i := 19) (v := (.bool false)) rfl (by kernel_rfl) (by kernel_rfl) (by kernel_rfl) (fun _ _ _ h => h) (Or.inl ⟨by kernel_rfl, ?_⟩) hH2 ?_
        · intro W hW
          go_simp
        refine wpAnyH_take (i := 20) (v := (.bool false)) rfl (by kernel_rfl) (by kernel_rfl) (by kernel_rfl) (fun _ _ _ h => h) (Or.inl ⟨by kernel_rfl, ?_⟩) hH2 ?_
        · intro W hW
          go_simp
        refine wpAnyH_done (by kernel_rfl) ?_ _
        simp only [Act.put, List.setIfInBounds_toArray, List.set_cons_zero, List.set_cons_succ, List.getElem_toArray, List.getElem_cons_zero, List.getElem_cons_succ]
        go_wp2
        exact ⟨⟨k + 1, by omega, by go_num, HS, HG.out.on hH2⟩, by simp [intOf]; omega⟩
      · have HS : Hid (rightG ⟨room, evs, pk⟩ = false) := rightG_evs (evsB_no (g := ⟨room, evs, pk⟩) hlt (by
          have : 0 ≤ atI (idsOf pk) evs[k].v.id := by simpa using hat
          simp [ha]
          omega))
        go_wp2
        refine wp_region_held_drew (S := (fun W => Below wr.heap.size wr W)) (by kernel_rfl) (Below.drew (Below.refl _ _)) (fun hHeld => ?_)
        refine wpAnyH_take (i := 0) (v := (.pointer (some ⟨w.heap.size, 1, none⟩))) rfl (by kernel_rfl) (by kernel_rfl) (by kernel_rfl) (fun _ _ _ h => h) (Or.inl ⟨by kernel_rfl, ?_⟩) hHeld ?_
        · intro W hW
          go_simp
        refine wpAnyH_take (i := 1) (v := (.slice (some ⟨b, off, none⟩) evs.length cap)) rfl (by kernel_rfl) (by kernel_rfl) (by kernel_rfl) (fun _ _ _ h => h) (Or.inl ⟨by kernel_rfl, ?_⟩) hHeld ?_
        · intro W hW
          have f := (hW.cell (p := ⟨w.heap.size, 1, none⟩) hz).trans hx1
          go_simp
        refine wpAnyH_take (i := 2) (v := (.pointer (some ⟨w.heap.size, 1, none⟩))) rfl (by kernel_rfl) (by kernel_rfl) (by kernel_rfl) (fun _ _ _ h => h) (Or.inl ⟨by kernel_rfl, ?_⟩) hHeld ?_
        · intro W hW
          go_simp
        refine wpAnyH_take (i := 3) (v := (.slice (some ⟨b, off, none⟩) evs.length cap)) rfl (by kernel_rfl) (by kernel_rfl) (by kernel_rfl) (fun _ _ _ h => h) (Or.inl ⟨by kernel_rfl, ?_⟩) hHeld ?_
        · intro W hW
          have f := (hW.cell (p := ⟨w.heap.size, 1, none⟩) hz).trans hx1
          go_simp
        refine wpAnyH_take (i := 4) (v := (.int .i64 k)) rfl (by kernel_rfl) (by kernel_rfl) (by kernel_rfl) (fun _ _ _ h => h) (Or.inl ⟨by kernel_rfl, ?_⟩) hHeld ?_
        · intro W hW
          go_simp
        refine wpAnyH_take (i := 5) (v := (.pointer (some ⟨b, off + k * 9, none⟩))) rfl (by kernel_rfl) (by kernel_rfl) (by kernel_rfl) (fun _ _ _ h => h) (Or.inl ⟨by kernel_rfl, ?_⟩) hHeld ?_
        · intro W hW
          go_simp
        refine wpAnyH_take (i := 6) (v := (.agg #[.int .i64 evs[k].v.id, .int .i64 evs[k].v.room, .int .i64 evs[k].v.author, .int .i64 evs[k].v.kind, .int .i64 evs[k].v.key, .int .i64 evs[k].v.n, .string evs[k].v.text, .slice evs[k].p evs[k].v.prev.length evs[k].c, .int .i64 evs[k].v.time])) rfl (by kernel_rfl) (by kernel_rfl) (by kernel_rfl) (fun _ _ _ h => h) (Or.inl ⟨by kernel_rfl, ?_⟩) hHeld ?_
        · intro W hW
          have f0 := (hW.cell (p := ⟨b, off + k * 9, none⟩) hbb).trans hc0
          have f1 := (hW.cell (p := ⟨b, off + k * 9 + 1, none⟩) hbb).trans hc1
          have f2 := (hW.cell (p := ⟨b, off + k * 9 + 2, none⟩) hbb).trans hc2
          have f3 := (hW.cell (p := ⟨b, off + k * 9 + 3, none⟩) hbb).trans hc3
          have f4 := (hW.cell (p := ⟨b, off + k * 9 + 4, none⟩) hbb).trans hc4
          have f5 := (hW.cell (p := ⟨b, off + k * 9 + 5, none⟩) hbb).trans hc5
          have f6 := (hW.cell (p := ⟨b, off + k * 9 + 6, none⟩) hbb).trans hc6
          have f7 := (hW.cell (p := ⟨b, off + k * 9 + 7, none⟩) hbb).trans hc7
          have f8 := (hW.cell (p := ⟨b, off + k * 9 + 8, none⟩) hbb).trans hc8
          go_simp
        refine wpAnyH_ready (rs := [7]) (by kernel_rfl) (by simp) ?_
        refine AllReadyH.cons rfl (fun K hK => ?_) AllReadyH.nil
        go_simp
        refine (all_spec evs evs[k] _ cap _ (HE.out.kept hHeld) ((HE.out.nums _ (List.getElem_mem hlt)).kept hHeld)).mono ?_
        rintro e w1 ⟨rfl, hb1⟩
        rw [ha]
        have hd1 : Below wr.heap.size wr w1 := hHeld.trans (hb1.mono hHeld.size)
        clear hb1
        refine hK.out _ _ hd1 (fun hH1 => ?_)
        clear hK K
        refine wpAnyH_take (i := 8) (v := (.bool false)) rfl (by kernel_rfl) (by kernel_rfl) (by kernel_rfl) (fun _ _ _ h => h) (Or.inl ⟨by kernel_rfl, ?_⟩) hH1 ?_
        · intro W hW
          go_simp
        refine wpAnyH_take (i := 9) (v := (.bool false)) rfl (by kernel_rfl) (by kernel_rfl) (by kernel_rfl) (fun _ _ _ h => h) (Or.inl ⟨by kernel_rfl, ?_⟩) hH1 ?_
        · intro W hW
          go_simp
        refine wpAnyH_take (i := 10) (v := (.pointer (some ⟨w.heap.size, 2, none⟩))) rfl (by kernel_rfl) (by kernel_rfl) (by kernel_rfl) (fun _ _ _ h => h) (Or.inl ⟨by kernel_rfl, ?_⟩) hH1 ?_
        · intro W hW
          go_simp
        refine wpAnyH_take (i := 11) (v := (.slice p pk.length cp)) rfl (by kernel_rfl) (by kernel_rfl) (by kernel_rfl) (fun _ _ _ h => h) (Or.inl ⟨by kernel_rfl, ?_⟩) hH1 ?_
        · intro W hW
          have f := (hW.cell (p := ⟨w.heap.size, 2, none⟩) hz).trans hx2
          go_simp
        refine wpAnyH_take (i := 12) (v := (.pointer (some ⟨w.heap.size, 1, none⟩))) rfl (by kernel_rfl) (by kernel_rfl) (by kernel_rfl) (fun _ _ _ h => h) (Or.inl ⟨by kernel_rfl, ?_⟩) hH1 ?_
        · intro W hW
          go_simp
        refine wpAnyH_take (i := 13) (v := (.slice (some ⟨b, off, none⟩) evs.length cap)) rfl (by kernel_rfl) (by kernel_rfl) (by kernel_rfl) (fun _ _ _ h => h) (Or.inl ⟨by kernel_rfl, ?_⟩) hH1 ?_
        · intro W hW
          have f := (hW.cell (p := ⟨w.heap.size, 1, none⟩) hz).trans hx1
          go_simp
        refine wpAnyH_take (i := 14) (v := (.int .i64 k)) rfl (by kernel_rfl) (by kernel_rfl) (by kernel_rfl) (fun _ _ _ h => h) (Or.inl ⟨by kernel_rfl, ?_⟩) hH1 ?_
        · intro W hW
          go_simp
        refine wpAnyH_take (i := 15) (v := (.pointer (some ⟨b, off + k * 9, none⟩))) rfl (by kernel_rfl) (by kernel_rfl) (by kernel_rfl) (fun _ _ _ h => h) (Or.inl ⟨by kernel_rfl, ?_⟩) hH1 ?_
        · intro W hW
          go_simp
        refine wpAnyH_take (i := 16) (v := (.pointer (some ⟨b, off + k * 9, none⟩))) rfl (by kernel_rfl) (by kernel_rfl) (by kernel_rfl) (fun _ _ _ h => h) (Or.inl ⟨by kernel_rfl, ?_⟩) hH1 ?_
        · intro W hW
          go_simp
        refine wpAnyH_take (i := 17) (v := (.int .i64 evs[k].v.id)) rfl (by kernel_rfl) (by kernel_rfl) (by kernel_rfl) (fun _ _ _ h => h) (Or.inl ⟨by kernel_rfl, ?_⟩) hH1 ?_
        · intro W hW
          have f0 := (hW.cell (p := ⟨b, off + k * 9, none⟩) hbb).trans hc0
          go_simp
        refine wpAnyH_ready (rs := [18]) (by kernel_rfl) (by simp) ?_
        refine AllReadyH.cons rfl (fun K hK => ?_) AllReadyH.nil
        go_simp
        refine (at_spec pk evs[k].v.id p cp _ (HP.out.kept hH1)).mono ?_
        rintro e w2 ⟨rfl, rfl⟩
        refine hK.out _ _ hH1 (fun hH2 => ?_)
        clear hK K
        refine wpAnyH_take (i := 19) (v := (.bool true)) rfl (by kernel_rfl) (by kernel_rfl) (by kernel_rfl) (fun _ _ _ h => h) (Or.inl ⟨by kernel_rfl, ?_⟩) hH2 ?_
        · intro W hW
          go_simp
        refine wpAnyH_take (i := 20) (v := (.bool true)) rfl (by kernel_rfl) (by kernel_rfl) (by kernel_rfl) (fun _ _ _ h => h) (Or.inl ⟨by kernel_rfl, ?_⟩) hH2 ?_
        · intro W hW
          go_simp
        refine wpAnyH_done (by kernel_rfl) ?_ _
        simp only [Act.put, List.setIfInBounds_toArray, List.set_cons_zero, List.set_cons_succ, List.getElem_toArray, List.getElem_cons_zero, List.getElem_cons_succ]
        go_wp2
        go_ret
        exact ⟨ret_bool HS.out.symm, (HG.out.on hH2).below⟩
    · have HEV : Hid (∀ j (h : j < evs.length), (allIn (idsOf evs) evs[j].v.prev && decide (atI (idsOf pk) evs[j].v.id < 0)) = true) := fun j h => HO.out j h (by omega)
      clear HO
      go_wp2
      go_loopw [4] (fun i wr => ∃ k : Nat, k ≤ pk.length ∧ i = .int .i64 k ∧ Hid (∀ j (h : j < pk.length), j < k → allIn (idsOf evs) pk[j].v.prev = false) ∧ Hid (GAt w ⟨room, evs, pk⟩ a cap p cp wr)) (fun i _ => pk.length - (intOf i).toNat)
      case atStart => exact ⟨0, Nat.zero_le _, rfl, fun _ _ h => absurd h (Nat.not_lt_zero _), HG⟩
      case round =>
        clear HG hx1 hx2 hz hk
        obtain ⟨q, hq, rfl, HO, HG⟩ := hrel
        have hx1 : wr.cell? ⟨w.heap.size, 1, none⟩ = some (.slice a evs.length cap) := cell_of_heap HG.out.box
        have hx2 : wr.cell? ⟨w.heap.size, 2, none⟩ = some (.slice p pk.length cp) := cell_of_heap HG.out.box
        have hz : w.heap.size < wr.heap.size := (Array.getElem?_eq_some_iff.1 HG.out.box).1
        by_cases hqt : q < pk.length
        · have HE : Hid (EvsAt wr a evs) := HG.out.evs
          have HP : Hid (EvsAt wr p pk) := HG.out.pk
          obtain ⟨b, off, rfl, hbb, hcell⟩ := HP.out.row (by omega)
          have hc0 : wr.cell? ⟨b, off + q * 9, none⟩ = some (.int .i64 pk[q].v.id) := hcell q hqt 0 (by omega)
          have hc1 : wr.cell? ⟨b, off + q * 9 + 1, none⟩ = some (.int .i64 pk[q].v.room) := by rw [Nat.add_assoc]; exact hcell q hqt 1 (by omega)
          have hc2 : wr.cell? ⟨b, off + q * 9 + 2, none⟩ = some (.int .i64 pk[q].v.author) := by rw [Nat.add_assoc]; exact hcell q hqt 2 (by omega)
          have hc3 : wr.cell? ⟨b, off + q * 9 + 3, none⟩ = some (.int .i64 pk[q].v.kind) := by rw [Nat.add_assoc]; exact hcell q hqt 3 (by omega)
          have hc4 : wr.cell? ⟨b, off + q * 9 + 4, none⟩ = some (.int .i64 pk[q].v.key) := by rw [Nat.add_assoc]; exact hcell q hqt 4 (by omega)
          have hc5 : wr.cell? ⟨b, off + q * 9 + 5, none⟩ = some (.int .i64 pk[q].v.n) := by rw [Nat.add_assoc]; exact hcell q hqt 5 (by omega)
          have hc6 : wr.cell? ⟨b, off + q * 9 + 6, none⟩ = some (.string pk[q].v.text) := by rw [Nat.add_assoc]; exact hcell q hqt 6 (by omega)
          have hc7 : wr.cell? ⟨b, off + q * 9 + 7, none⟩ = some (.slice pk[q].p pk[q].v.prev.length pk[q].c) := by rw [Nat.add_assoc]; exact hcell q hqt 7 (by omega)
          have hc8 : wr.cell? ⟨b, off + q * 9 + 8, none⟩ = some (.int .i64 pk[q].v.time) := by rw [Nat.add_assoc]; exact hcell q hqt 8 (by omega)
          clear hcell
          cases ha : allIn (idsOf evs) pk[q].v.prev
          · have HS : Hid (∀ j (h : j < pk.length), j < q + 1 → allIn (idsOf evs) pk[j].v.prev = false) := fun j h hj => by
              by_cases e : j = q
              · subst e
                exact ha
              · exact HO.out j h (by omega)
            go_wp2
            refine wp_region_held_drew (S := (fun W => Below wr.heap.size wr W)) (by kernel_rfl) (Below.drew (Below.refl _ _)) (fun hHeld => ?_)
            refine wpAnyH_take (i := 0) (v := (.pointer (some ⟨w.heap.size, 1, none⟩))) rfl (by kernel_rfl) (by kernel_rfl) (by kernel_rfl) (fun _ _ _ h => h) (Or.inl ⟨by kernel_rfl, ?_⟩) hHeld ?_
            · intro W hW
              go_simp
            refine wpAnyH_take (i := 1) (v := (.slice a evs.length cap)) rfl (by kernel_rfl) (by kernel_rfl) (by kernel_rfl) (fun _ _ _ h => h) (Or.inl ⟨by kernel_rfl, ?_⟩) hHeld ?_
            · intro W hW
              have f := (hW.cell (p := ⟨w.heap.size, 1, none⟩) hz).trans hx1
              go_simp
            refine wpAnyH_take (i := 2) (v := (.pointer (some ⟨w.heap.size, 2, none⟩))) rfl (by kernel_rfl) (by kernel_rfl) (by kernel_rfl) (fun _ _ _ h => h) (Or.inl ⟨by kernel_rfl, ?_⟩) hHeld ?_
            · intro W hW
              go_simp
            refine wpAnyH_take (i := 3) (v := (.slice (some ⟨b, off, none⟩) pk.length cp)) rfl (by kernel_rfl) (by kernel_rfl) (by kernel_rfl) (fun _ _ _ h => h) (Or.inl ⟨by kernel_rfl, ?_⟩) hHeld ?_
            · intro W hW
              have f := (hW.cell (p := ⟨w.heap.size, 2, none⟩) hz).trans hx2
              go_simp
            refine wpAnyH_take (i := 4) (v := (.int .i64 q)) rfl (by kernel_rfl) (by kernel_rfl) (by kernel_rfl) (fun _ _ _ h => h) (Or.inl ⟨by kernel_rfl, ?_⟩) hHeld ?_
            · intro W hW
              go_simp
            refine wpAnyH_take (i := 5) (v := (.pointer (some ⟨b, off + q * 9, none⟩))) rfl (by kernel_rfl) (by kernel_rfl) (by kernel_rfl) (fun _ _ _ h => h) (Or.inl ⟨by kernel_rfl, ?_⟩) hHeld ?_
            · intro W hW
              go_simp
            refine wpAnyH_take (i := 6) (v := (.agg #[.int .i64 pk[q].v.id, .int .i64 pk[q].v.room, .int .i64 pk[q].v.author, .int .i64 pk[q].v.kind, .int .i64 pk[q].v.key, .int .i64 pk[q].v.n, .string pk[q].v.text, .slice pk[q].p pk[q].v.prev.length pk[q].c, .int .i64 pk[q].v.time])) rfl (by kernel_rfl) (by kernel_rfl) (by kernel_rfl) (fun _ _ _ h => h) (Or.inl ⟨by kernel_rfl, ?_⟩) hHeld ?_
            · intro W hW
              have f0 := (hW.cell (p := ⟨b, off + q * 9, none⟩) hbb).trans hc0
              have f1 := (hW.cell (p := ⟨b, off + q * 9 + 1, none⟩) hbb).trans hc1
              have f2 := (hW.cell (p := ⟨b, off + q * 9 + 2, none⟩) hbb).trans hc2
              have f3 := (hW.cell (p := ⟨b, off + q * 9 + 3, none⟩) hbb).trans hc3
              have f4 := (hW.cell (p := ⟨b, off + q * 9 + 4, none⟩) hbb).trans hc4
              have f5 := (hW.cell (p := ⟨b, off + q * 9 + 5, none⟩) hbb).trans hc5
              have f6 := (hW.cell (p := ⟨b, off + q * 9 + 6, none⟩) hbb).trans hc6
              have f7 := (hW.cell (p := ⟨b, off + q * 9 + 7, none⟩) hbb).trans hc7
              have f8 := (hW.cell (p := ⟨b, off + q * 9 + 8, none⟩) hbb).trans hc8
              go_simp
            refine wpAnyH_ready (rs := [7]) (by kernel_rfl) (by simp) ?_
            refine AllReadyH.cons rfl (fun K hK => ?_) AllReadyH.nil
            go_simp
            refine (all_spec evs pk[q] a cap _ (HE.out.kept hHeld) ((HP.out.nums _ (List.getElem_mem hqt)).kept hHeld)).mono ?_
            rintro e w1 ⟨rfl, hb1⟩
            rw [ha]
            have hd1 : Below wr.heap.size wr w1 := hHeld.trans (hb1.mono hHeld.size)
            clear hb1
            refine hK.out _ _ hd1 (fun hH1 => ?_)
            clear hK K
            refine wpAnyH_done (by kernel_rfl) ?_ _
            go_wp2
            exact ⟨⟨q + 1, by omega, by go_num, HS, HG.out.on hH1⟩, by simp [intOf]; omega⟩
          · have HS : Hid (rightG ⟨room, evs, pk⟩ = false) := rightG_pk (List.all_eq_false.2 ⟨pk[q], List.getElem_mem hqt, by simp [ha]⟩)
            go_wp2
            refine wp_region_held_drew (S := (fun W => Below wr.heap.size wr W)) (by kernel_rfl) (Below.drew (Below.refl _ _)) (fun hHeld => ?_)
            refine wpAnyH_take (i := 0) (v := (.pointer (some ⟨w.heap.size, 1, none⟩))) rfl (by kernel_rfl) (by kernel_rfl) (by kernel_rfl) (fun _ _ _ h => h) (Or.inl ⟨by kernel_rfl, ?_⟩) hHeld ?_
            · intro W hW
              go_simp
            refine wpAnyH_take (i := 1) (v := (.slice a evs.length cap)) rfl (by kernel_rfl) (by kernel_rfl) (by kernel_rfl) (fun _ _ _ h => h) (Or.inl ⟨by kernel_rfl, ?_⟩) hHeld ?_
            · intro W hW
              have f := (hW.cell (p := ⟨w.heap.size, 1, none⟩) hz).trans hx1
              go_simp
            refine wpAnyH_take (i := 2) (v := (.pointer (some ⟨w.heap.size, 2, none⟩))) rfl (by kernel_rfl) (by kernel_rfl) (by kernel_rfl) (fun _ _ _ h => h) (Or.inl ⟨by kernel_rfl, ?_⟩) hHeld ?_
            · intro W hW
              go_simp
            refine wpAnyH_take (i := 3) (v := (.slice (some ⟨b, off, none⟩) pk.length cp)) rfl (by kernel_rfl) (by kernel_rfl) (by kernel_rfl) (fun _ _ _ h => h) (Or.inl ⟨by kernel_rfl, ?_⟩) hHeld ?_
            · intro W hW
              have f := (hW.cell (p := ⟨w.heap.size, 2, none⟩) hz).trans hx2
              go_simp
            refine wpAnyH_take (i := 4) (v := (.int .i64 q)) rfl (by kernel_rfl) (by kernel_rfl) (by kernel_rfl) (fun _ _ _ h => h) (Or.inl ⟨by kernel_rfl, ?_⟩) hHeld ?_
            · intro W hW
              go_simp
            refine wpAnyH_take (i := 5) (v := (.pointer (some ⟨b, off + q * 9, none⟩))) rfl (by kernel_rfl) (by kernel_rfl) (by kernel_rfl) (fun _ _ _ h => h) (Or.inl ⟨by kernel_rfl, ?_⟩) hHeld ?_
            · intro W hW
              go_simp
            refine wpAnyH_take (i := 6) (v := (.agg #[.int .i64 pk[q].v.id, .int .i64 pk[q].v.room, .int .i64 pk[q].v.author, .int .i64 pk[q].v.kind, .int .i64 pk[q].v.key, .int .i64 pk[q].v.n, .string pk[q].v.text, .slice pk[q].p pk[q].v.prev.length pk[q].c, .int .i64 pk[q].v.time])) rfl (by kernel_rfl) (by kernel_rfl) (by kernel_rfl) (fun _ _ _ h => h) (Or.inl ⟨by kernel_rfl, ?_⟩) hHeld ?_
            · intro W hW
              have f0 := (hW.cell (p := ⟨b, off + q * 9, none⟩) hbb).trans hc0
              have f1 := (hW.cell (p := ⟨b, off + q * 9 + 1, none⟩) hbb).trans hc1
              have f2 := (hW.cell (p := ⟨b, off + q * 9 + 2, none⟩) hbb).trans hc2
              have f3 := (hW.cell (p := ⟨b, off + q * 9 + 3, none⟩) hbb).trans hc3
              have f4 := (hW.cell (p := ⟨b, off + q * 9 + 4, none⟩) hbb).trans hc4
              have f5 := (hW.cell (p := ⟨b, off + q * 9 + 5, none⟩) hbb).trans hc5
              have f6 := (hW.cell (p := ⟨b, off + q * 9 + 6, none⟩) hbb).trans hc6
              have f7 := (hW.cell (p := ⟨b, off + q * 9 + 7, none⟩) hbb).trans hc7
              have f8 := (hW.cell (p := ⟨b, off + q * 9 + 8, none⟩) hbb).trans hc8
              go_simp
            refine wpAnyH_ready (rs := [7]) (by kernel_rfl) (by simp) ?_
            refine AllReadyH.cons rfl (fun K hK => ?_) AllReadyH.nil
            go_simp
            refine (all_spec evs pk[q] a cap _ (HE.out.kept hHeld) ((HP.out.nums _ (List.getElem_mem hqt)).kept hHeld)).mono ?_
            rintro e w1 ⟨rfl, hb1⟩
            rw [ha]
            have hd1 : Below wr.heap.size wr w1 := hHeld.trans (hb1.mono hHeld.size)
            clear hb1
            refine hK.out _ _ hd1 (fun hH1 => ?_)
            clear hK K
            refine wpAnyH_done (by kernel_rfl) ?_ _
            go_wp2
            go_ret
            exact ⟨ret_bool HS.out.symm, (HG.out.on hH1).below⟩
        · have HPK : Hid (pkB ⟨room, evs, pk⟩ = true) := List.all_eq_true.2 fun m hm => by
            obtain ⟨j, hj, rfl⟩ := List.getElem_of_mem hm
            have hj2 : j < pk.length := hj
            have h3 := HO.out j hj2 (by omega)
            show (!allIn (idsOf evs) pk[j].v.prev) = true
            rw [h3]
            rfl
          have HEB : Hid (evsB ⟨room, evs, pk⟩ = true) := evsB_yes (g := ⟨room, evs, pk⟩) HEV.out
          clear HO
          go_wp2_with fail
          refine (depths_spec evs a cap _ HG.out.evs (rowB_nodup c2) (fun m hm => ?_)).mono ?_
          · obtain ⟨j, hj, rfl⟩ := List.getElem_of_mem hm
            intro x hx
            have h1 := HEV.out j hj
            rw [Bool.and_eq_true] at h1
            exact atI_mem.1 (by simpa using List.all_eq_true.1 h1.1 x hx)
          rintro e w3 ⟨rfl, ht⟩
          have HLN : Hid ((idsOf evs).length = evs.length) := by unfold Hid; simp [idsOf]
          obtain ⟨nb, hnb⟩ : ∃ nb, nb = wr.heap.size := ⟨_, rfl⟩
          rw [← hnb] at ht ⊢
          have HT : Hid (∀ j (h : j < (idsOf evs).length), w3.cell? ⟨nb, j, none⟩ = some (.int .i64 (dep (pvOf evs) (idsOf evs).length (idsOf evs)[j] : Int))) := fun j h => by
            have h1 := ht.cell (j := j) (by rw [← HLN.out]; exact h)
            rwa [getD_map _ _ _ h] at h1
          have HW : Hid (Below w.heap.size w w3) := HG.out.below.trans (ht.below.mono HG.out.below.size)
          clear ht hnb
          go_wp2
          go_loopw [6] (fun i wl => ∃ k : Nat, k ≤ evs.length ∧ i = .int .i64 k ∧ Hid (∀ j (h : j < (idsOf evs).length), j < k → 0 < dep (pvOf evs) (idsOf evs).length (idsOf evs)[j]) ∧ Hid (∀ j (h : j < (idsOf evs).length), wl.cell? ⟨nb, j, none⟩ = some (.int .i64 (dep (pvOf evs) (idsOf evs).length (idsOf evs)[j] : Int))) ∧ Hid (Below w.heap.size w wl)) (fun i _ => evs.length - (intOf i).toNat)
          case atStart => exact ⟨0, Nat.zero_le _, rfl, fun _ _ h => absurd h (Nat.not_lt_zero _), HT, HW⟩
          case round =>
            clear HT HW
            obtain ⟨t, ht, rfl, HO, HT, HW⟩ := hrel
            by_cases htt : t < evs.length
            · have hti : t < (idsOf evs).length := by rw [HLN.out]; exact htt
              obtain ⟨z, HZ, hcz⟩ : ∃ z : Nat, Hid (z = dep (pvOf evs) (idsOf evs).length (idsOf evs)[t]) ∧ wr.cell? ⟨nb, t, none⟩ = some (.int .i64 (z : Int)) := ⟨dep (pvOf evs) (idsOf evs).length (idsOf evs)[t], rfl, HT.out t hti⟩
              by_cases hz0 : z = 0
              · have HS : Hid (rightG ⟨room, evs, pk⟩ = false) := rightG_dep (List.all_eq_false.2 ⟨(idsOf evs)[t], List.getElem_mem hti, by rw [← HZ.out, hz0]; simp⟩)
                subst hz0
                go_wp2
                go_ret
                exact ⟨ret_bool HS.out.symm, HW.out⟩
              · have b9 : ((z : Int) == 0) = false := by simp; omega
                have HS : Hid (∀ j (h : j < (idsOf evs).length), j < t + 1 → 0 < dep (pvOf evs) (idsOf evs).length (idsOf evs)[j]) := fun j h hj => by
                  by_cases e : j = t
                  · subst e
                    rw [← HZ.out]
                    omega
                  · exact HO.out j h (by omega)
                clear hz0
                go_wp2
                go_roundw
                case rel => exact ⟨t + 1, by omega, by go_num, HS, HT, HW⟩
                case measure => simp [intOf]; omega
            · have HS : Hid (rightG ⟨room, evs, pk⟩ = true) := by
                have hd : depB ⟨room, evs, pk⟩ = true := List.all_eq_true.2 fun x hx => by
                  obtain ⟨j, hj, rfl⟩ := List.getElem_of_mem hx
                  have hj2 : j < (idsOf evs).length := hj
                  exact decide_eq_true (HO.out j hj2 (by have := HLN.out; omega))
                have e : rightG ⟨room, evs, pk⟩ = (isB room 1 3 && rowB evs room 60 && rowB pk room 20 && evsB ⟨room, evs, pk⟩ && pkB ⟨room, evs, pk⟩ && depB ⟨room, evs, pk⟩) := rfl
                unfold Hid
                rw [e, c1, c2, c3, HEB.out, HPK.out, hd]
                rfl
              go_wp2
              go_ret
              exact ⟨ret_bool HS.out.symm, HW.out⟩
end Go.Proofs.YteajcmkaoahbeaaGreatDoor
