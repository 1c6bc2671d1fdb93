/- Two rows of events, and two graphs, held against each other; what is right of a graph is right of its copies. Two graphs held against each other; what is right of a graph is right of its copies. A row of events, and a graph, that came in, opened. -/
import Derived.Test.YtdldblfopcbfeaaGreatDoorZGrTo2
import Derived.Deep.RegionHeld
import Derived.Test.YtdldblfopcbfeaaGreatDoorZEvOpen
import Derived.Test.YtdldblfopcbfeaaGreatDoorZGrTo
import Derived.Test.YtdldblfopcbfeaaGreatDoorZGrSpec
import Derived.Deep.Slices
namespace Go.Proofs.YtdldblfopcbfeaaGreatDoor
open Go.RowKit

set_option maxHeartbeats 4000000 in
set_option maxRecDepth 100000 in
theorem eq_events (es fs : List Em) (a1 a2 : Option Addr) (cap1 cap2 : Nat) (w : World) (h1 : EvsAt w a1 es) (h2 : EvsAt w a2 fs) (hs : es.map (·.v) = fs.map (·.v)) :
    Calls Tryz.prog 28 #[.slice a1 es.length cap1, .slice a2 es.length cap2] w fun e w' => e = .returned (.bool true) ∧ Below w.heap.size w w' := by
  have hl := h1.len
  have hlen : es.length = fs.length := by have := congrArg List.length hs; simpa using this
  have HV : Hid (∀ k (h : k < es.length) (h' : k < fs.length), es[k].v = fs[k].v) := fun k h h' => by
    have : (es.map (·.v))[k]'(by simpa using h) = (fs.map (·.v))[k]'(by simpa using h') := by simp only [hs]
    simpa using this
  have H1 : Hid (EvsAt w a1 es) := h1
  have H2 : Hid (EvsAt w a2 fs) := h2
  have HLN : Hid (es.length = fs.length) := hlen
  clear h1 h2 hs hlen
  go_enter Tryz.func28, Tryz.ntmps28
  go_wp2
  go_loopw [5] (fun i wr => ∃ k : Nat, k ≤ es.length ∧ i = .int .i64 k ∧ Below w.heap.size w wr) (fun i _ => es.length - (intOf i).toNat)
  case atStart => exact ⟨0, Nat.zero_le _, rfl, Below.refl _ _⟩
  case round =>
    obtain ⟨k, hk, rfl, hbw⟩ := hrel
    by_cases hlt : k < es.length
    · have hlf : k < fs.length := by rw [← HLN.out]; exact hlt
      have HE1 : Hid (EvsAt wr a1 es) := H1.out.kept hbw
      have HE2 : Hid (EvsAt wr a2 fs) := H2.out.kept hbw
      obtain ⟨b1, off1, rfl, hbb1, hcell1⟩ := HE1.out.row (by omega)
      obtain ⟨b2, off2, rfl, hbb2, hcell2⟩ := HE2.out.row (by omega)
      have hv := HV.out k hlt hlf
      have hc0 : wr.cell? ⟨b1, off1 + k * 9, none⟩ = some (.int .i64 es[k].v.id) := by
        have := hcell1 k hlt 0 (by omega)
        exact this
      have hc1 : wr.cell? ⟨b1, off1 + k * 9 + 1, none⟩ = some (.int .i64 es[k].v.room) := by
        have := hcell1 k hlt 1 (by omega)
        rwa [← Nat.add_assoc] at this
      have hc2 : wr.cell? ⟨b1, off1 + k * 9 + 2, none⟩ = some (.int .i64 es[k].v.author) := by
        have := hcell1 k hlt 2 (by omega)
        rwa [← Nat.add_assoc] at this
      have hc3 : wr.cell? ⟨b1, off1 + k * 9 + 3, none⟩ = some (.int .i64 es[k].v.kind) := by
        have := hcell1 k hlt 3 (by omega)
        rwa [← Nat.add_assoc] at this
      have hc4 : wr.cell? ⟨b1, off1 + k * 9 + 4, none⟩ = some (.int .i64 es[k].v.key) := by
        have := hcell1 k hlt 4 (by omega)
        rwa [← Nat.add_assoc] at this
      have hc5 : wr.cell? ⟨b1, off1 + k * 9 + 5, none⟩ = some (.int .i64 es[k].v.n) := by
        have := hcell1 k hlt 5 (by omega)
        rwa [← Nat.add_assoc] at this
      have hc6 : wr.cell? ⟨b1, off1 + k * 9 + 6, none⟩ = some (.string es[k].v.text) := by
        have := hcell1 k hlt 6 (by omega)
        rwa [← Nat.add_assoc] at this
      have hc7 : wr.cell? ⟨b1, off1 + k * 9 + 7, none⟩ = some (.slice es[k].p es[k].v.prev.length es[k].c) := by
        have := hcell1 k hlt 7 (by omega)
        rwa [← Nat.add_assoc] at this
      have hc8 : wr.cell? ⟨b1, off1 + k * 9 + 8, none⟩ = some (.int .i64 es[k].v.time) := by
        have := hcell1 k hlt 8 (by omega)
        rwa [← Nat.add_assoc] at this
      obtain ⟨q2, c2, HQ⟩ : ∃ q2 c2, Hid (emCells fs[k] = [.int .i64 es[k].v.id, .int .i64 es[k].v.room, .int .i64 es[k].v.author, .int .i64 es[k].v.kind, .int .i64 es[k].v.key, .int .i64 es[k].v.n, .string es[k].v.text, .slice q2 es[k].v.prev.length c2, .int .i64 es[k].v.time]) := ⟨fs[k].p, fs[k].c, by unfold Hid emCells; rw [hv]⟩
      have HN2 : Hid (NumsAt wr q2 es[k].v.prev) := by
        have h1 := HE2.out.nums _ (List.getElem_mem hlf)
        have h2 := HQ.out
        unfold emCells at h2
        simp only [List.cons.injEq, Value.slice.injEq] at h2
        rw [hv, ← h2.2.2.2.2.2.2.2.1.1]
        exact h1
      have hg0 : wr.cell? ⟨b2, off2 + k * 9, none⟩ = some (.int .i64 es[k].v.id) := by
        have := hcell2 k hlf 0 (by omega)
        rw [HQ.out] at this
        exact this
      have hg1 : wr.cell? ⟨b2, off2 + k * 9 + 1, none⟩ = some (.int .i64 es[k].v.room) := by
        have := hcell2 k hlf 1 (by omega)
        rw [HQ.out] at this
        rwa [← Nat.add_assoc] at this
      have hg2 : wr.cell? ⟨b2, off2 + k * 9 + 2, none⟩ = some (.int .i64 es[k].v.author) := by
        have := hcell2 k hlf 2 (by omega)
        rw [HQ.out] at this
        rwa [← Nat.add_assoc] at this
      have hg3 : wr.cell? ⟨b2, off2 + k * 9 + 3, none⟩ = some (.int .i64 es[k].v.kind) := by
        have := hcell2 k hlf 3 (by omega)
        rw [HQ.out] at this
        rwa [← Nat.add_assoc] at this
      have hg4 : wr.cell? ⟨b2, off2 + k * 9 + 4, none⟩ = some (.int .i64 es[k].v.key) := by
        have := hcell2 k hlf 4 (by omega)
        rw [HQ.out] at this
        rwa [← Nat.add_assoc] at this
      have hg5 : wr.cell? ⟨b2, off2 + k * 9 + 5, none⟩ = some (.int .i64 es[k].v.n) := by
        have := hcell2 k hlf 5 (by omega)
        rw [HQ.out] at this
        rwa [← Nat.add_assoc] at this
      have hg6 : wr.cell? ⟨b2, off2 + k * 9 + 6, none⟩ = some (.string es[k].v.text) := by
        have := hcell2 k hlf 6 (by omega)
        rw [HQ.out] at this
        rwa [← Nat.add_assoc] at this
      have hg7 : wr.cell? ⟨b2, off2 + k * 9 + 7, none⟩ = some (.slice q2 es[k].v.prev.length c2) := by
        have := hcell2 k hlf 7 (by omega)
        rw [HQ.out] at this
        rwa [← Nat.add_assoc] at this
      have hg8 : wr.cell? ⟨b2, off2 + k * 9 + 8, none⟩ = some (.int .i64 es[k].v.time) := by
        have := hcell2 k hlf 8 (by omega)
        rw [HQ.out] at this
        rwa [← Nat.add_assoc] at this
      clear hcell1 hcell2 hv
      go_wp2
      refine wp_region_held_drew (S := (fun W => Below wr.heap.size wr W)) (by kernel_rfl) (Below.drew (Below.refl _ _)) (fun hHeld => ?_)
      refine wpAnyH_take (i := 0) (v := (.slice (some ⟨b1, off1, none⟩) es.length cap1)) rfl (by kernel_rfl) (by kernel_rfl) (by kernel_rfl) (fun _ _ _ h => h) (Or.inl ⟨by kernel_rfl, ?_⟩) hHeld ?_
      · intro W hW
        go_simp
      refine wpAnyH_take (i := 1) (v := (.int .i64 k)) rfl (by kernel_rfl) (by kernel_rfl) (by kernel_rfl) (fun _ _ _ h => h) (Or.inl ⟨by kernel_rfl, ?_⟩) hHeld ?_
      · intro W hW
        go_simp
      refine wpAnyH_take (i := 2) (v := (.pointer (some ⟨b1, off1 + k * 9, none⟩))) rfl (by kernel_rfl) (by kernel_rfl) (by kernel_rfl) (fun _ _ _ h => h) (Or.inl ⟨by kernel_rfl, ?_⟩) hHeld ?_
      · intro W hW
        go_simp
      refine wpAnyH_take (i := 3) (v := (.agg #[.int .i64 es[k].v.id, .int .i64 es[k].v.room, .int .i64 es[k].v.author, .int .i64 es[k].v.kind, .int .i64 es[k].v.key, .int .i64 es[k].v.n, .string es[k].v.text, .slice es[k].p es[k].v.prev.length es[k].c, .int .i64 es[k].v.time])) rfl (by kernel_rfl) (by kernel_rfl) (by kernel_rfl) (fun _ _ _ h => h) (Or.inl ⟨by kernel_rfl, ?_⟩) hHeld ?_
      · intro W hW
        have f0 := (hW.cell (p := ⟨b1, off1 + k * 9, none⟩) hbb1).trans hc0
        have f1 := (hW.cell (p := ⟨b1, off1 + k * 9 + 1, none⟩) hbb1).trans hc1
        have f2 := (hW.cell (p := ⟨b1, off1 + k * 9 + 2, none⟩) hbb1).trans hc2
        have f3 := (hW.cell (p := ⟨b1, off1 + k * 9 + 3, none⟩) hbb1).trans hc3
        have f4 := (hW.cell (p := ⟨b1, off1 + k * 9 + 4, none⟩) hbb1).trans hc4
        have f5 := (hW.cell (p := ⟨b1, off1 + k * 9 + 5, none⟩) hbb1).trans hc5
        have f6 := (hW.cell (p := ⟨b1, off1 + k * 9 + 6, none⟩) hbb1).trans hc6
        have f7 := (hW.cell (p := ⟨b1, off1 + k * 9 + 7, none⟩) hbb1).trans hc7
        have f8 := (hW.cell (p := ⟨b1, off1 + k * 9 + 8, none⟩) hbb1).trans hc8
        go_simp
      refine wpAnyH_take (i := 4) (v := (.slice (some ⟨b2, off2, none⟩) es.length cap2)) rfl (by kernel_rfl) (by kernel_rfl) (by kernel_rfl) (fun _ _ _ h => h) (Or.inl ⟨by kernel_rfl, ?_⟩) hHeld ?_
      · intro W hW
        go_simp
      refine wpAnyH_take (i := 5) (v := (.int .i64 k)) rfl (by kernel_rfl) (by kernel_rfl) (by kernel_rfl) (fun _ _ _ h => h) (Or.inl ⟨by kernel_rfl, ?_⟩) hHeld ?_
      · intro W hW
        go_simp
      refine wpAnyH_take (i := 6) (v := (.pointer (some ⟨b2, off2 + k * 9, none⟩))) rfl (by kernel_rfl) (by kernel_rfl) (by kernel_rfl) (fun _ _ _ h => h) (Or.inl ⟨by kernel_rfl, ?_⟩) hHeld ?_
      · intro W hW
        go_simp
      refine wpAnyH_take (i := 7) (v := (.agg #[.int .i64 es[k].v.id, .int .i64 es[k].v.room, .int .i64 es[k].v.author, .int .i64 es[k].v.kind, .int .i64 es[k].v.key, .int .i64 es[k].v.n, .string es[k].v.text, .slice q2 es[k].v.prev.length c2, .int .i64 es[k].v.time])) rfl (by kernel_rfl) (by kernel_rfl) (by kernel_rfl) (fun _ _ _ h => h) (Or.inl ⟨by kernel_rfl, ?_⟩) hHeld ?_
      · intro W hW
        have f0 := (hW.cell (p := ⟨b2, off2 + k * 9, none⟩) hbb2).trans hg0
        have f1 := (hW.cell (p := ⟨b2, off2 + k * 9 + 1, none⟩) hbb2).trans hg1
        have f2 := (hW.cell (p := ⟨b2, off2 + k * 9 + 2, none⟩) hbb2).trans hg2
        have f3 := (hW.cell (p := ⟨b2, off2 + k * 9 + 3, none⟩) hbb2).trans hg3
        have f4 := (hW.cell (p := ⟨b2, off2 + k * 9 + 4, none⟩) hbb2).trans hg4
        have f5 := (hW.cell (p := ⟨b2, off2 + k * 9 + 5, none⟩) hbb2).trans hg5
        have f6 := (hW.cell (p := ⟨b2, off2 + k * 9 + 6, none⟩) hbb2).trans hg6
        have f7 := (hW.cell (p := ⟨b2, off2 + k * 9 + 7, none⟩) hbb2).trans hg7
        have f8 := (hW.cell (p := ⟨b2, off2 + k * 9 + 8, none⟩) hbb2).trans hg8
        go_simp
      refine wpAnyH_ready (rs := [8]) (by kernel_rfl) (by simp) ?_
      refine AllReadyH.cons rfl (fun K hK => ?_) AllReadyH.nil
      go_simp
      refine (eq_event es[k].v es[k].p q2 es[k].c c2 _ ((HE1.out.nums _ (List.getElem_mem hlt)).kept hHeld) (HN2.out.kept hHeld)).mono ?_
      rintro e w1 ⟨rfl, hb1⟩
      have hd1 : Below wr.heap.size wr w1 := hHeld.trans (hb1.mono hHeld.size)
      clear hb1
      refine hK.out _ _ hd1 (fun hH1 => ?_)
      clear hK K
      refine wpAnyH_take (i := 9) (v := (.bool false)) rfl (by kernel_rfl) (by kernel_rfl) (by kernel_rfl) (fun _ _ _ h => h) (Or.inl ⟨by kernel_rfl, ?_⟩) hH1 ?_
      · intro W hW
        go_simp
      refine wpAnyH_done (by kernel_rfl) ?_ _
      simp only [Act.put, List.setIfInBounds_toArray, List.set_cons_zero, List.set_cons_succ, List.getElem_toArray, List.getElem_cons_zero, List.getElem_cons_succ]
      go_wp2
      go_roundw
      case rel => exact ⟨k + 1, by omega, by go_num, hbw.trans (hH1.mono hbw.size)⟩
      case measure => simp [intOf]; omega
    · go_wp2
      go_ret
      exact ⟨rfl, hbw⟩
end Go.Proofs.YtdldblfopcbfeaaGreatDoor
namespace Go.Proofs.YtdldblfopcbfeaaGreatDoor
open Go.RowKit

theorem idsOf_v (es : List Em) : idsOf es = (es.map (·.v)).map (·.id) := by simp [idsOf]
theorem pvOf_v (es : List Em) (id : Int) : pvOf es id = ((es.map (·.v)).find? fun v => v.id == id).map (·.prev) := by
  unfold pvOf
  rw [List.find?_map, Option.map_map]
  rfl
theorem okAt_v {es fs : List Em} (h : es.map (·.v) = fs.map (·.v)) (room : Int) (i : Nat) : okAt es room i = okAt fs room i := by
  have key : ∀ j : Nat, (es[j]?).map (·.v) = (fs[j]?).map (·.v) := fun j => by
    have : (es.map (·.v))[j]? = (fs.map (·.v))[j]? := by rw [h]
    simpa using this
  have h1 := key i
  unfold okAt
  cases c1 : es[i]? <;> cases c2 : fs[i]? <;> rw [c1, c2] at h1 <;> simp at h1
  cases i with
  | zero => simp [h1]
  | succ j =>
    have h2 := key j
    cases c3 : es[j]? <;> cases c4 : fs[j]? <;> rw [c3, c4] at h2 <;> simp at h2
    · simp [h1, c3, c4]
    · simp [h1, h2, c3, c4]
theorem rowB_v {es fs : List Em} (h : es.map (·.v) = fs.map (·.v)) (room : Int) (most : Nat) : rowB es room most = rowB fs room most := by
  have hl : es.length = fs.length := by have := congrArg List.length h; simpa using this
  unfold rowB
  rw [hl]
  congr 1
  rw [Bool.eq_iff_iff, List.all_eq_true, List.all_eq_true]
  constructor <;> intro hh x hx
  · rw [← okAt_v h]; exact hh x hx
  · rw [okAt_v h]; exact hh x hx
theorem all_v {es : List Em} (p : Ev → Bool) : es.all (fun m => p m.v) = (es.map (·.v)).all p := by simp [List.all_map, Function.comp_def]
/-- What is right of a graph is right of its copies. -/
theorem rightG_same {g h : Gr} (hr : g.room = h.room) (he : g.evs.map (·.v) = h.evs.map (·.v)) (hp : g.pk.map (·.v) = h.pk.map (·.v)) : rightG g = rightG h := by
  have ei : idsOf g.evs = idsOf h.evs := by rw [idsOf_v, idsOf_v, he]
  have pi : idsOf g.pk = idsOf h.pk := by rw [idsOf_v, idsOf_v, hp]
  have ep : pvOf g.evs = pvOf h.evs := funext fun id => by rw [pvOf_v, pvOf_v, he]
  have e1 : evsB g = evsB h := by
    unfold evsB
    rw [all_v (es := g.evs) (fun v => allIn (idsOf g.evs) v.prev && decide (atI (idsOf g.pk) v.id < 0)), all_v (es := h.evs) (fun v => allIn (idsOf h.evs) v.prev && decide (atI (idsOf h.pk) v.id < 0)), he, ei, pi]
  have e2 : pkB g = pkB h := by
    unfold pkB
    rw [all_v (es := g.pk) (fun v => !allIn (idsOf g.evs) v.prev), all_v (es := h.pk) (fun v => !allIn (idsOf h.evs) v.prev), hp, ei]
  have e3 : depB g = depB h := by
    unfold depB
    rw [ei, ep]
  unfold rightG
  rw [hr, rowB_v he, rowB_v hp, e1, e2, e3]
theorem GrNew.right {w W : World} {g g' : Gr} {a' p' : Option Addr} (h : GrNew w g g' a' p' W) : rightG g' = rightG g := rightG_same h.room h.evs.same h.pk.same
set_option maxHeartbeats 4000000 in
set_option maxRecDepth 100000 in
theorem eq_graph (g h : Gr) (a1 p1 a2 p2 : Option Addr) (c1 d1 c2 d2 : Nat) (w : World) (h1 : EvsAt w a1 g.evs) (h2 : EvsAt w p1 g.pk) (h3 : EvsAt w a2 h.evs) (h4 : EvsAt w p2 h.pk) (he : g.evs.map (·.v) = h.evs.map (·.v)) (hp : g.pk.map (·.v) = h.pk.map (·.v)) :
    Calls Tryz.prog 12 #[.agg #[.int .i64 g.room, .slice a1 g.evs.length c1, .slice p1 g.pk.length d1], .agg #[.int .i64 g.room, .slice a2 g.evs.length c2, .slice p2 g.pk.length d2]] w fun e w' => e = .returned (.bool true) ∧ Below w.heap.size w w' := by
  have HE : Hid (∀ w', Below w.heap.size w w' → (EvsAt w' a1 g.evs ∧ EvsAt w' a2 h.evs) ∧ EvsAt w' p1 g.pk ∧ EvsAt w' p2 h.pk) := fun w' hb => ⟨⟨h1.kept hb, h3.kept hb⟩, h2.kept hb, h4.kept hb⟩
  have HS : Hid (g.evs.map (·.v) = h.evs.map (·.v) ∧ g.pk.map (·.v) = h.pk.map (·.v)) := ⟨he, hp⟩
  have HB : Hid (∀ o1 o2, Below w.heap.size w ((w.alloc o1).alloc o2)) := fun o1 o2 => ((Below.refl _ _).alloc (Nat.le_refl _) _).alloc (by simp) _
  clear h1 h2 h3 h4 he hp
  go_enter Tryz.func12, Tryz.ntmps12
  go_wp2_with fail
  refine (eq_events g.evs h.evs a1 a2 c1 c2 _ (HE.out _ (HB.out _ _)).1.1 (HE.out _ (HB.out _ _)).1.2 HS.out.1).mono ?_
  rintro e w1 ⟨rfl, hb1⟩
  obtain ⟨hc1, hf1⟩ := bcell hb1
  have HW1 : Hid (Below w.heap.size w w1) := (HB.out _ _).trans (hb1.mono (by simp; omega))
  clear hb1
  go_wp2_with fail
  refine (eq_events g.pk h.pk p1 p2 d1 d2 _ (HE.out _ HW1.out).2.1 (HE.out _ HW1.out).2.2 HS.out.2).mono ?_
  rintro e w2 ⟨rfl, hb2⟩
  have HW2 : Hid (Below w.heap.size w w2) := HW1.out.trans (hb2.mono HW1.out.size)
  clear hb2
  go_wp2
  go_ret
  exact ⟨rfl, HW2.out⟩
end Go.Proofs.YtdldblfopcbfeaaGreatDoor
namespace Go.Proofs.YtdldblfopcbfeaaGreatDoor
open Go.ChangeShapes Go.WideShapes Go.ChangeAt Go.RowKit Go.Deep

set_option maxHeartbeats 400000 in
set_option maxRecDepth 100000 in
theorem open_ev_cells {H : Type} {enc : TypeId × Value → H} {W : World} {fuel : Nat} {cs : List Value} {x0 : DataW H × List MemPlace} (hl9 : cs.length = 9) (hf : DataW.trod enc Tryz.prog W 0 (fun _ => true) true fuel 28 cs = some x0) :
    ∃ m : Em, cs = emCells m ∧ m.v.text.size ≤ maxLen ∧ m.v.prev.length ≤ maxLen ∧ (m.v.prev.length ≤ 1048576 → NumsAt W m.p m.v.prev) := by
  obtain ⟨c0, c1, c2, c3, c4, c5, c6, c7, c8, hcs⟩ := array9 (cs := cs.toArray) (by simpa using hl9)
  have hcs' : cs = [c0, c1, c2, c3, c4, c5, c6, c7, c8] := by simpa using congrArg Array.toList hcs
  subst hcs'
  obtain ⟨xs, n, _, _, _, hlen, hf⟩ := DataW.trod_struct Tryz.underlying28 hf
  have hlen9 : xs.length = 9 := hlen
  clear hl9 hlen hcs
  have g0 : DataW.trod enc Tryz.prog W 0 (fun _ => true) true n 2 [c0] = xs[0]? := by have := hf 0 _ rfl; simpa [Value.cells, Tryz.cellsInt] using this
  have g1 : DataW.trod enc Tryz.prog W 0 (fun _ => true) true n 2 [c1] = xs[1]? := by have := hf 1 _ rfl; simpa [Value.cells, Tryz.cellsInt] using this
  have g2 : DataW.trod enc Tryz.prog W 0 (fun _ => true) true n 2 [c2] = xs[2]? := by have := hf 2 _ rfl; simpa [Value.cells, Tryz.cellsInt] using this
  have g3 : DataW.trod enc Tryz.prog W 0 (fun _ => true) true n 2 [c3] = xs[3]? := by have := hf 3 _ rfl; simpa [Value.cells, Tryz.cellsInt] using this
  have g4 : DataW.trod enc Tryz.prog W 0 (fun _ => true) true n 2 [c4] = xs[4]? := by have := hf 4 _ rfl; simpa [Value.cells, Tryz.cellsInt] using this
  have g5 : DataW.trod enc Tryz.prog W 0 (fun _ => true) true n 2 [c5] = xs[5]? := by have := hf 5 _ rfl; simpa [Value.cells, Tryz.cellsInt] using this
  have g6 : DataW.trod enc Tryz.prog W 0 (fun _ => true) true n 9 [c6] = xs[6]? := by have := hf 6 _ rfl; simpa [Value.cells, Tryz.cellsStr] using this
  have g7 : DataW.trod enc Tryz.prog W 0 (fun _ => true) true n 26 [c7] = xs[7]? := by have := hf 7 _ rfl; simpa [Value.cells, Tryz.cellsNums] using this
  have g8 : DataW.trod enc Tryz.prog W 0 (fun _ => true) true n 2 [c8] = xs[8]? := by have := hf 8 _ rfl; simpa [Value.cells, Tryz.cellsInt] using this
  obtain ⟨y0, k0⟩ := some_of g0 (by omega)
  obtain ⟨y1, k1⟩ := some_of g1 (by omega)
  obtain ⟨y2, k2⟩ := some_of g2 (by omega)
  obtain ⟨y3, k3⟩ := some_of g3 (by omega)
  obtain ⟨y4, k4⟩ := some_of g4 (by omega)
  obtain ⟨y5, k5⟩ := some_of g5 (by omega)
  obtain ⟨y6, k6⟩ := some_of g6 (by omega)
  obtain ⟨y7, k7⟩ := some_of g7 (by omega)
  obtain ⟨y8, k8⟩ := some_of g8 (by omega)
  obtain ⟨n0, e0, _, w0⟩ := DataW.trod_int Tryz.underlying2 k0
  obtain ⟨n1, e1, _, w1⟩ := DataW.trod_int Tryz.underlying2 k1
  obtain ⟨n2, e2, _, w2⟩ := DataW.trod_int Tryz.underlying2 k2
  obtain ⟨n3, e3, _, w3⟩ := DataW.trod_int Tryz.underlying2 k3
  obtain ⟨n4, e4, _, w4⟩ := DataW.trod_int Tryz.underlying2 k4
  obtain ⟨n5, e5, _, w5⟩ := DataW.trod_int Tryz.underlying2 k5
  obtain ⟨n8, e8, _, w8⟩ := DataW.trod_int Tryz.underlying2 k8
  obtain ⟨t6, e6, _, w6⟩ := DataW.trod_string Tryz.underlying9 k6
  simp only [List.cons.injEq, and_true] at e0 e1 e2 e3 e4 e5 e8 e6
  subst e0 e1 e2 e3 e4 e5 e8 e6
  rcases open_ints Tryz.underlying26 Tryz.underlying2 (by kernel_rfl) k7 with ⟨hcs, _⟩ | ⟨x, l, c, zs, hcs, _, hl, hm, hz, _, hcell, hwz⟩
  · simp only [List.cons.injEq, and_true] at hcs
    subst hcs
    exact ⟨⟨⟨n0, n1, n2, n3, n4, n5, t6, [], n8⟩, none, 0⟩, rfl, w6, by simp [maxLen], fun _ => ⟨by simp, fun h => by simp at h⟩⟩
  · simp only [List.cons.injEq, and_true] at hcs
    subst hcs
    have hz' : zs.length = c := by simpa using hz
    have hlen : (zs.take l).length = l := by rw [List.length_take]; omega
    refine ⟨⟨⟨n0, n1, n2, n3, n4, n5, t6, zs.take l, n8⟩, some x, c⟩, ?_, w6, ?_, fun hle => ⟨hle, fun hpos => ?_⟩⟩
    · simp only [emCells, hlen]
    · show (zs.take l).length ≤ maxLen
      omega
    · simp only [hlen] at hpos
      obtain ⟨b, off, rfl, hb⟩ := ints_at hcell (by omega)
      have hbs : b < W.heap.size := by
        have := hcell 0 (by omega)
        exact World.block_lt_of_cell? _ _ (by simpa using this)
      refine ⟨b, off, rfl, hbs, fun j hj => ?_⟩
      have hj2 : j < l := by simpa only [hlen] using hj
      have h1 := hcell j (by omega)
      rw [Addr.add_lit] at h1
      rw [h1]
      simp [show j < zs.length by omega]
/-- A row of events opened. -/
theorem open_events {H : Type} {enc : TypeId × Value → H} {W : World} {fuel : Nat} {c : Value} {x0 : DataW H × List MemPlace} (hf : DataW.trod enc Tryz.prog W 0 (fun _ => true) true fuel 22 [c] = some x0) :
    ∃ (es : List Em) (a : Option Addr) (cap : Nat), c = .slice a es.length cap ∧ EvsRaw W a es := by
  rcases open_slice Tryz.underlying22 hf with ⟨h0, _⟩ | ⟨a, len, cap, m, n, D, Pl, hcs, _, hl, hm, hmm, _, hx⟩
  · simp only [List.cons.injEq, and_true] at h0
    exact ⟨[], none, 0, h0, ⟨by simp, fun h => absurd h (Nat.lt_irrefl 0), fun m hm => (by cases hm), fun m hm => (by cases hm)⟩⟩
  · simp only [List.cons.injEq, and_true] at hcs
    simp only [if_true] at hmm
    have each : ∀ i, i < len → ∃ e : Em, (∀ j, j < 9 → W.cell? (a.add (i * 9 + j)) = (emCells e)[j]?) ∧ e.v.text.size ≤ maxLen ∧ e.v.prev.length ≤ maxLen ∧ (e.v.prev.length ≤ 1048576 → NumsAt W e.p e.v.prev) := fun i hi => by
      obtain ⟨cs', h1, h2⟩ := hx i (by omega)
      rw [Tryz.cellsEv] at h1
      obtain ⟨_, hlen, hcell⟩ := World.cells?_some h1
      obtain ⟨e, rfl, h3⟩ := open_ev_cells hlen h2
      refine ⟨e, fun j hj => ?_, h3⟩
      have := hcell j hj
      rwa [add_add] at this
    haveI : Inhabited Em := ⟨⟨⟨0, 0, 0, 0, 0, 0, ⟨#[]⟩, [], 0⟩, none, 0⟩⟩
    obtain ⟨q, hq⟩ := choose_lt each
    have hlq : ((List.range len).map q).length = len := by simp
    have hgq : ∀ i (h : i < ((List.range len).map q).length), ((List.range len).map q)[i] = q i := fun i h => by simp
    have hmem : ∀ e ∈ (List.range len).map q, ∃ i, i < len ∧ e = q i := fun e he => by
      obtain ⟨i, hi, rfl⟩ := List.mem_map.1 he
      exact ⟨i, List.mem_range.1 hi, rfl⟩
    refine ⟨(List.range len).map q, some a, cap, by rw [hlq]; exact hcs, ⟨by rw [hlq]; omega, fun hpos => ?_, fun e he => ?_, fun e he => ?_⟩⟩
    · rw [hlq] at hpos
      obtain ⟨b, off, spot⟩ := a
      have h0 := (hq 0 hpos).1 0 (by omega)
      have hspot : spot = none := by simpa [Addr.add] using World.cell?_spot h0
      subst hspot
      refine ⟨b, off, rfl, ?_, fun i hi j hj => ?_⟩
      · have := World.block_lt_of_cell? _ _ h0
        simpa [Addr.add] using this
      · rw [hgq]
        have := (hq i (by rw [hlq] at hi; exact hi)).1 j hj
        rwa [Addr.add_lit] at this
    · obtain ⟨i, hi, rfl⟩ := hmem e he
      exact ⟨(hq i hi).2.1, (hq i hi).2.2.1⟩
    · obtain ⟨i, hi, rfl⟩ := hmem e he
      exact (hq i hi).2.2.2
theorem Tryz.cellsGr : Tryz.prog.cellsOf 24 = 3 := by kernel_rfl
theorem Tryz.cellsEvs : Tryz.prog.cellsOf 22 = 1 := by kernel_rfl
theorem array3 {α : Type} {cs : Array α} (h : cs.size = 3) : ∃ c0 c1 c2, cs = #[c0, c1, c2] := by
  obtain ⟨l⟩ := cs
  match l, h with
  | [c0, c1, c2], _ => exact ⟨c0, c1, c2, rfl⟩
set_option maxRecDepth 100000 in
theorem open_graph {H : Type} {enc : TypeId × Value → H} {W : World} {r : Reach} {b0 : Nat} {v : Value} {d : DataW H} {p : List MemPlace} (hv : Value.okWide Tryz.prog W r b0 24 v) (h : DataW.Trod enc Tryz.prog W 0 (fun _ => true) true 24 v d p) :
    ∃ (g : Gr) (a : Option Addr) (cap : Nat) (q : Option Addr) (cq : Nat), v = .agg #[.int .i64 g.room, .slice a g.evs.length cap, .slice q g.pk.length cq] ∧ EvsRaw W a g.evs ∧ EvsRaw W q g.pk := by
  obtain ⟨cs, rfl, hsz⟩ := okWide_struct Tryz.underlying24 hv
  rw [Tryz.cellsGr] at hsz
  obtain ⟨c0, c1, c2, rfl⟩ := array3 hsz
  obtain ⟨fuel, hf⟩ := h
  obtain ⟨xs, n, _, _, _, hlen, hf⟩ := DataW.trod_struct Tryz.underlying24 hf
  have hlen3 : xs.length = 3 := hlen
  have g0 : DataW.trod enc Tryz.prog W 0 (fun _ => true) true n 2 [c0] = xs[0]? := by have := hf 0 _ rfl; simpa [Value.cells, Tryz.cellsInt] using this
  have g1 : DataW.trod enc Tryz.prog W 0 (fun _ => true) true n 22 [c1] = xs[1]? := by have := hf 1 _ rfl; simpa [Value.cells, Tryz.cellsEvs] using this
  have g2 : DataW.trod enc Tryz.prog W 0 (fun _ => true) true n 22 [c2] = xs[2]? := by have := hf 2 _ rfl; simpa [Value.cells, Tryz.cellsEvs] using this
  obtain ⟨y0, k0⟩ := some_of g0 (by omega)
  obtain ⟨y1, k1⟩ := some_of g1 (by omega)
  obtain ⟨y2, k2⟩ := some_of g2 (by omega)
  obtain ⟨n0, e0, _, _⟩ := DataW.trod_int Tryz.underlying2 k0
  simp only [List.cons.injEq, and_true] at e0
  subst e0
  obtain ⟨es, a, cap, rfl, h1⟩ := open_events k1
  obtain ⟨ps, q, cq, rfl, h2⟩ := open_events k2
  exact ⟨⟨n0, es, ps⟩, a, cap, q, cq, rfl, h1, h2⟩
end Go.Proofs.YtdldblfopcbfeaaGreatDoor
