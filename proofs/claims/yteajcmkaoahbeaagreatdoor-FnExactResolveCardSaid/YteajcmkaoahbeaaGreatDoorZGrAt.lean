/- Two rows of events, and two graphs, held against each other; what is right of a graph is right of its copies. Two graphs held against each other; what is right of a graph is right of its copies. EventAt, of the specification and of the program. -/
import Derived.Test.YteajcmkaoahbeaaGreatDoorZGrTo2
import Derived.Deep.RegionHeld
import Derived.Test.YteajcmkaoahbeaaGreatDoorZMsSet2
import Derived.Test.YteajcmkaoahbeaaGreatDoorZSuSort
import Derived.Test.YteajcmkaoahbeaaGreatDoorZGrChart
namespace Go.Proofs.YteajcmkaoahbeaaGreatDoor
open Go.RowKit

set_option maxHeartbeats 4000000 in
set_option maxRecDepth 100000 in
theorem eq_events (es fs : List Em) (a1 a2 : Option Addr) (cap1 cap2 : Nat) (w : World) (h1 : EvsAt w a1 es) (h2 : EvsAt w a2 fs) (hs : es.map (·.v) = fs.map (·.v)) :
    Calls Tryz.prog 48 #[.slice a1 es.length cap1, .slice a2 es.length cap2] w fun e w' => e = .returned (.bool true) ∧ Below w.heap.size w w' := by
  have hl := h1.len
  have hlen : es.length = fs.length := by have := congrArg List.length hs; simpa using this
  have HV : Hid (∀ k (h : k < es.length) (h' : k < fs.length), es[k].v = fs[k].v) := fun k h h' => by
    have : (es.map (·.v))[k]'(by simpa using h) = (fs.map (·.v))[k]'(by simpa using h') := by simp only [hs]
    simpa using this
  have H1 : Hid (EvsAt w a1 es) := h1
  have H2 : Hid (EvsAt w a2 fs) := h2
  have HLN : Hid (es.length = fs.length) := hlen
  clear h1 h2 hs hlen
  go_enter Tryz.func48, Tryz.ntmps48
  go_wp2
  go_loopw [5] (fun i wr => ∃ k : Nat, k ≤ es.length ∧ i = .int .i64 k ∧ Below w.heap.size w wr) (fun i _ => es.length - (intOf i).toNat)
  case atStart => exact ⟨0, Nat.zero_le _, rfl, Below.refl _ _⟩
  case round =>
    obtain ⟨k, hk, rfl, hbw⟩ := hrel
    by_cases hlt : k < es.length
    · have hlf : k < fs.length := by rw [← HLN.out]; exact hlt
      have HE1 : Hid (EvsAt wr a1 es) := H1.out.kept hbw
      have HE2 : Hid (EvsAt wr a2 fs) := H2.out.kept hbw
      obtain ⟨b1, off1, rfl, hbb1, hcell1⟩ := HE1.out.row (by omega)
      obtain ⟨b2, off2, rfl, hbb2, hcell2⟩ := HE2.out.row (by omega)
      have hv := HV.out k hlt hlf
      have hc0 : wr.cell? ⟨b1, off1 + k * 9, none⟩ = some (.int .i64 es[k].v.id) := by
        have := hcell1 k hlt 0 (by omega)
        exact this
      have hc1 : wr.cell? ⟨b1, off1 + k * 9 + 1, none⟩ = some (.int .i64 es[k].v.room) := by
        have := hcell1 k hlt 1 (by omega)
        rwa [← Nat.add_assoc] at this
      have hc2 : wr.cell? ⟨b1, off1 + k * 9 + 2, none⟩ = some (.int .i64 es[k].v.author) := by
        have := hcell1 k hlt 2 (by omega)
        rwa [← Nat.add_assoc] at this
      have hc3 : wr.cell? ⟨b1, off1 + k * 9 + 3, none⟩ = some (.int .i64 es[k].v.kind) := by
        have := hcell1 k hlt 3 (by omega)
        rwa [← Nat.add_assoc] at this
      have hc4 : wr.cell? ⟨b1, off1 + k * 9 + 4, none⟩ = some (.int .i64 es[k].v.key) := by
        have := hcell1 k hlt 4 (by omega)
        rwa [← Nat.add_assoc] at this
      have hc5 : wr.cell? ⟨b1, off1 + k * 9 + 5, none⟩ = some (.int .i64 es[k].v.n) := by
        have := hcell1 k hlt 5 (by omega)
        rwa [← Nat.add_assoc] at this
      have hc6 : wr.cell? ⟨b1, off1 + k * 9 + 6, none⟩ = some (.string es[k].v.text) := by
        have := hcell1 k hlt 6 (by omega)
        rwa [← Nat.add_assoc] at this
      have hc7 : wr.cell? ⟨b1, off1 + k * 9 + 7, none⟩ = some (.slice es[k].p es[k].v.prev.length es[k].c) := by
        have := hcell1 k hlt 7 (by omega)
        rwa [← Nat.add_assoc] at this
      have hc8 : wr.cell? ⟨b1, off1 + k * 9 + 8, none⟩ = some (.int .i64 es[k].v.time) := by
        have := hcell1 k hlt 8 (by omega)
        rwa [← Nat.add_assoc] at this
      obtain ⟨q2, c2, HQ⟩ : ∃ q2 c2, Hid (emCells fs[k] = [.int .i64 es[k].v.id, .int .i64 es[k].v.room, .int .i64 es[k].v.author, .int .i64 es[k].v.kind, .int .i64 es[k].v.key, .int .i64 es[k].v.n, .string es[k].v.text, .slice q2 es[k].v.prev.length c2, .int .i64 es[k].v.time]) := ⟨fs[k].p, fs[k].c, by unfold Hid emCells; rw [hv]⟩
      have HN2 : Hid (NumsAt wr q2 es[k].v.prev) := by
        have h1 := HE2.out.nums _ (List.getElem_mem hlf)
        have h2 := HQ.out
        unfold emCells at h2
        simp only [List.cons.injEq, Value.slice.injEq] at h2
        rw [hv, ← h2.2.2.2.2.2.2.2.1.1]
        exact h1
      have hg0 : wr.cell? ⟨b2, off2 + k * 9, none⟩ = some (.int .i64 es[k].v.id) := by
        have := hcell2 k hlf 0 (by omega)
        rw [HQ.out] at this
        exact this
      have hg1 : wr.cell? ⟨b2, off2 + k * 9 + 1, none⟩ = some (.int .i64 es[k].v.room) := by
        have := hcell2 k hlf 1 (by omega)
        rw [HQ.out] at this
        rwa [← Nat.add_assoc] at this
      have hg2 : wr.cell? ⟨b2, off2 + k * 9 + 2, none⟩ = some (.int .i64 es[k].v.author) := by
        have := hcell2 k hlf 2 (by omega)
        rw [HQ.out] at this
        rwa [← Nat.add_assoc] at this
      have hg3 : wr.cell? ⟨b2, off2 + k * 9 + 3, none⟩ = some (.int .i64 es[k].v.kind) := by
        have := hcell2 k hlf 3 (by omega)
        rw [HQ.out] at this
        rwa [← Nat.add_assoc] at this
      have hg4 : wr.cell? ⟨b2, off2 + k * 9 + 4, none⟩ = some (.int .i64 es[k].v.key) := by
        have := hcell2 k hlf 4 (by omega)
        rw [HQ.out] at this
        rwa [← Nat.add_assoc] at this
      have hg5 : wr.cell? ⟨b2, off2 + k * 9 + 5, none⟩ = some (.int .i64 es[k].v.n) := by
        have := hcell2 k hlf 5 (by omega)
        rw [HQ.out] at this
        rwa [← Nat.add_assoc] at this
      have hg6 : wr.cell? ⟨b2, off2 + k * 9 + 6, none⟩ = some (.string es[k].v.text) := by
        have := hcell2 k hlf 6 (by omega)
        rw [HQ.out] at this
        rwa [← Nat.add_assoc] at this
      have hg7 : wr.cell? ⟨b2, off2 + k * 9 + 7, none⟩ = some (.slice q2 es[k].v.prev.length c2) := by
        have := hcell2 k hlf 7 (by omega)
        rw [HQ.out] at this
        rwa [← Nat.add_assoc] at this
      have hg8 : wr.cell? ⟨b2, off2 + k * 9 + 8, none⟩ = some (.int .i64 es[k].v.time) := by
        have := hcell2 k hlf 8 (by omega)
        rw [HQ.out] at this
        rwa [← Nat.add_assoc] at this
      clear hcell1 hcell2 hv
      go_wp2
      refine wp_region_held_drew (S := (fun W => Below wr.heap.size wr W)) (by kernel_rfl) (Below.drew (Below.refl _ _)) (fun hHeld => ?_)
      refine wpAnyH_take (i := 0) (v := (.slice (some ⟨b1, off1, none⟩) es.length cap1)) rfl (by kernel_rfl) (by kernel_rfl) (by kernel_rfl) (fun _ _ _ h => h) (Or.inl ⟨by kernel_rfl, ?_⟩) hHeld ?_
      · intro W hW
        go_simp
      refine wpAnyH_take (i := 1) (v := (.int .i64 k)) rfl (by kernel_rfl) (by kernel_rfl) (by kernel_rfl) (fun _ _ _ h => h) (Or.inl ⟨by kernel_rfl, ?_⟩) hHeld ?_
      · intro W hW
        go_simp
      refine wpAnyH_take (i := 2) (v := (.pointer (some ⟨b1, off1 + k * 9, none⟩))) rfl (by kernel_rfl) (by kernel_rfl) (by kernel_rfl) (fun _ _ _ h => h) (Or.inl ⟨by kernel_rfl, ?_⟩) hHeld ?_
      · intro W hW
        go_simp
      refine wpAnyH_take (i := 3) (v := (.agg #[.int .i64 es[k].v.id, .int .i64 es[k].v.room, .int .i64 es[k].v.author, .int .i64 es[k].v.kind, .int .i64 es[k].v.key, .int .i64 es[k].v.n, .string es[k].v.text, .slice es[k].p es[k].v.prev.length es[k].c, .int .i64 es[k].v.time])) rfl (by kernel_rfl) (by kernel_rfl) (by kernel_rfl) (fun _ _ _ h => h) (Or.inl ⟨by kernel_rfl, ?_⟩) hHeld ?_
      · intro W hW
        have f0 := (hW.cell (p := ⟨b1, off1 + k * 9, none⟩) hbb1).trans hc0
        have f1 := (hW.cell (p := ⟨b1, off1 + k * 9 + 1, none⟩) hbb1).trans hc1
        have f2 := (hW.cell (p := ⟨b1, off1 + k * 9 + 2, none⟩) hbb1).trans hc2
        have f3 := (hW.cell (p := ⟨b1, off1 + k * 9 + 3, none⟩) hbb1).trans hc3
        have f4 := (hW.cell (p := ⟨b1, off1 + k * 9 + 4, none⟩) hbb1).trans hc4
        have f5 := (hW.cell (p := ⟨b1, off1 + k * 9 + 5, none⟩) hbb1).trans hc5
        have f6 := (hW.cell (p := ⟨b1, off1 + k * 9 + 6, none⟩) hbb1).trans hc6
        have f7 := (hW.cell (p := ⟨b1, off1 + k * 9 + 7, none⟩) hbb1).trans hc7
        have f8 := (hW.cell (p := ⟨b1, off1 + k * 9 + 8, none⟩) hbb1).trans hc8
        go_simp
      refine wpAnyH_take (i := 4) (v := (.slice (some ⟨b2, off2, none⟩) es.length cap2)) rfl (by kernel_rfl) (by kernel_rfl) (by kernel_rfl) (fun _ _ _ h => h) (Or.inl ⟨by kernel_rfl, ?_⟩) hHeld ?_
      · intro W hW
        go_simp
      refine wpAnyH_take (i := 5) (v := (.int .i64 k)) rfl (by kernel_rfl) (by kernel_rfl) (by kernel_rfl) (fun _ _ _ h => h) (Or.inl ⟨by kernel_rfl, ?_⟩) hHeld ?_
      · intro W hW
        go_simp
      refine wpAnyH_take (i := 6) (v := (.pointer (some ⟨b2, off2 + k * 9, none⟩))) rfl (by kernel_rfl) (by kernel_rfl) (by kernel_rfl) (fun _ _ _ h => h) (Or.inl ⟨by kernel_rfl, ?_⟩) hHeld ?_
      · intro W hW
        go_simp
      refine wpAnyH_take (i := 7) (v := (.agg #[.int .i64 es[k].v.id, .int .i64 es[k].v.room, .int .i64 es[k].v.author, .int .i64 es[k].v.kind, .int .i64 es[k].v.key, .int .i64 es[k].v.n, .string es[k].v.text, .slice q2 es[k].v.prev.length c2, .int .i64 es[k].v.time])) rfl (by kernel_rfl) (by kernel_rfl) (by kernel_rfl) (fun _ _ _ h => h) (Or.inl ⟨by kernel_rfl, ?_⟩) hHeld ?_
      · intro W hW
        have f0 := (hW.cell (p := ⟨b2, off2 + k * 9, none⟩) hbb2).trans hg0
        have f1 := (hW.cell (p := ⟨b2, off2 + k * 9 + 1, none⟩) hbb2).trans hg1
        have f2 := (hW.cell (p := ⟨b2, off2 + k * 9 + 2, none⟩) hbb2).trans hg2
        have f3 := (hW.cell (p := ⟨b2, off2 + k * 9 + 3, none⟩) hbb2).trans hg3
        have f4 := (hW.cell (p := ⟨b2, off2 + k * 9 + 4, none⟩) hbb2).trans hg4
        have f5 := (hW.cell (p := ⟨b2, off2 + k * 9 + 5, none⟩) hbb2).trans hg5
        have f6 := (hW.cell (p := ⟨b2, off2 + k * 9 + 6, none⟩) hbb2).trans hg6
        have f7 := (hW.cell (p := ⟨b2, off2 + k * 9 + 7, none⟩) hbb2).trans hg7
        have f8 := (hW.cell (p := ⟨b2, off2 + k * 9 + 8, none⟩) hbb2).trans hg8
        go_simp
      refine wpAnyH_ready (rs := [8]) (by kernel_rfl) (by simp) ?_
      refine AllReadyH.cons rfl (fun K hK => ?_) AllReadyH.nil
      go_simp
      refine (eq_event es[k].v es[k].p q2 es[k].c c2 _ ((HE1.out.nums _ (List.getElem_mem hlt)).kept hHeld) (HN2.out.kept hHeld)).mono ?_
      rintro e w1 ⟨rfl, hb1⟩
      have hd1 : Below wr.heap.size wr w1 := hHeld.trans (hb1.mono hHeld.size)
      clear hb1
      refine hK.out _ _ hd1 (fun hH1 => ?_)
      clear hK K
      refine wpAnyH_take (i := 9) (v := (.bool false)) rfl (by kernel_rfl) (by kernel_rfl) (by kernel_rfl) (fun _ _ _ h => h) (Or.inl ⟨by kernel_rfl, ?_⟩) hH1 ?_
      · intro W hW
        go_simp
      refine wpAnyH_done (by kernel_rfl) ?_ _
      simp only [Act.put, List.setIfInBounds_toArray, List.set_cons_zero, List.set_cons_succ, List.getElem_toArray, List.getElem_cons_zero, List.getElem_cons_succ]
      go_wp2
      go_roundw
      case rel => exact ⟨k + 1, by omega, by go_num, hbw.trans (hH1.mono hbw.size)⟩
      case measure => simp [intOf]; omega
    · go_wp2
      go_ret
      exact ⟨rfl, hbw⟩
end Go.Proofs.YteajcmkaoahbeaaGreatDoor
namespace Go.Proofs.YteajcmkaoahbeaaGreatDoor
open Go.RowKit

theorem idsOf_v (es : List Em) : idsOf es = (es.map (·.v)).map (·.id) := by simp [idsOf]
theorem pvOf_v (es : List Em) (id : Int) : pvOf es id = ((es.map (·.v)).find? fun v => v.id == id).map (·.prev) := by
  unfold pvOf
  rw [List.find?_map, Option.map_map]
  rfl
theorem okAt_v {es fs : List Em} (h : es.map (·.v) = fs.map (·.v)) (room : Int) (i : Nat) : okAt es room i = okAt fs room i := by
  have key : ∀ j : Nat, (es[j]?).map (·.v) = (fs[j]?).map (·.v) := fun j => by
    have : (es.map (·.v))[j]? = (fs.map (·.v))[j]? := by rw [h]
    simpa using this
  have h1 := key i
  unfold okAt
  cases c1 : es[i]? <;> cases c2 : fs[i]? <;> rw [c1, c2] at h1 <;> simp at h1
  cases i with
  | zero => simp [h1]
  | succ j =>
    have h2 := key j
    cases c3 : es[j]? <;> cases c4 : fs[j]? <;> rw [c3, c4] at h2 <;> simp at h2
    · simp [h1, c3, c4]
    · simp [h1, h2, c3, c4]
theorem rowB_v {es fs : List Em} (h : es.map (·.v) = fs.map (·.v)) (room : Int) (most : Nat) : rowB es room most = rowB fs room most := by
  have hl : es.length = fs.length := by have := congrArg List.length h; simpa using this
  unfold rowB
  rw [hl]
  congr 1
  rw [Bool.eq_iff_iff, List.all_eq_true, List.all_eq_true]
  constructor <;> intro hh x hx
  · rw [← okAt_v h]; exact hh x hx
  · rw [okAt_v h]; exact hh x hx
theorem all_v {es : List Em} (p : Ev → Bool) : es.all (fun m => p m.v) = (es.map (·.v)).all p := by simp [List.all_map, Function.comp_def]
/-- What is right of a graph is right of its copies. -/
theorem rightG_same {g h : Gr} (hr : g.room = h.room) (he : g.evs.map (·.v) = h.evs.map (·.v)) (hp : g.pk.map (·.v) = h.pk.map (·.v)) : rightG g = rightG h := by
  have ei : idsOf g.evs = idsOf h.evs := by rw [idsOf_v, idsOf_v, he]
  have pi : idsOf g.pk = idsOf h.pk := by rw [idsOf_v, idsOf_v, hp]
  have ep : pvOf g.evs = pvOf h.evs := funext fun id => by rw [pvOf_v, pvOf_v, he]
  have e1 : evsB g = evsB h := by
    unfold evsB
    rw [all_v (es := g.evs) (fun v => allIn (idsOf g.evs) v.prev && decide (atI (idsOf g.pk) v.id < 0)), all_v (es := h.evs) (fun v => allIn (idsOf h.evs) v.prev && decide (atI (idsOf h.pk) v.id < 0)), he, ei, pi]
  have e2 : pkB g = pkB h := by
    unfold pkB
    rw [all_v (es := g.pk) (fun v => !allIn (idsOf g.evs) v.prev), all_v (es := h.pk) (fun v => !allIn (idsOf h.evs) v.prev), hp, ei]
  have e3 : depB g = depB h := by
    unfold depB
    rw [ei, ep]
  unfold rightG
  rw [hr, rowB_v he, rowB_v hp, e1, e2, e3]
theorem GrNew.right {w W : World} {g g' : Gr} {a' p' : Option Addr} (h : GrNew w g g' a' p' W) : rightG g' = rightG g := rightG_same h.room h.evs.same h.pk.same
set_option maxHeartbeats 4000000 in
set_option maxRecDepth 100000 in
theorem eq_graph (g h : Gr) (a1 p1 a2 p2 : Option Addr) (c1 d1 c2 d2 : Nat) (w : World) (h1 : EvsAt w a1 g.evs) (h2 : EvsAt w p1 g.pk) (h3 : EvsAt w a2 h.evs) (h4 : EvsAt w p2 h.pk) (he : g.evs.map (·.v) = h.evs.map (·.v)) (hp : g.pk.map (·.v) = h.pk.map (·.v)) :
    Calls Tryz.prog 16 #[.agg #[.int .i64 g.room, .slice a1 g.evs.length c1, .slice p1 g.pk.length d1], .agg #[.int .i64 g.room, .slice a2 g.evs.length c2, .slice p2 g.pk.length d2]] w fun e w' => e = .returned (.bool true) ∧ Below w.heap.size w w' := by
  have HE : Hid (∀ w', Below w.heap.size w w' → (EvsAt w' a1 g.evs ∧ EvsAt w' a2 h.evs) ∧ EvsAt w' p1 g.pk ∧ EvsAt w' p2 h.pk) := fun w' hb => ⟨⟨h1.kept hb, h3.kept hb⟩, h2.kept hb, h4.kept hb⟩
  have HS : Hid (g.evs.map (·.v) = h.evs.map (·.v) ∧ g.pk.map (·.v) = h.pk.map (·.v)) := ⟨he, hp⟩
  have HB : Hid (∀ o1 o2, Below w.heap.size w ((w.alloc o1).alloc o2)) := fun o1 o2 => ((Below.refl _ _).alloc (Nat.le_refl _) _).alloc (by simp) _
  clear h1 h2 h3 h4 he hp
  go_enter Tryz.func16, Tryz.ntmps16
  go_wp2_with fail
  refine (eq_events g.evs h.evs a1 a2 c1 c2 _ (HE.out _ (HB.out _ _)).1.1 (HE.out _ (HB.out _ _)).1.2 HS.out.1).mono ?_
  rintro e w1 ⟨rfl, hb1⟩
  obtain ⟨hc1, hf1⟩ := bcell hb1
  have HW1 : Hid (Below w.heap.size w w1) := (HB.out _ _).trans (hb1.mono (by simp; omega))
  clear hb1
  go_wp2_with fail
  refine (eq_events g.pk h.pk p1 p2 d1 d2 _ (HE.out _ HW1.out).2.1 (HE.out _ HW1.out).2.2 HS.out.2).mono ?_
  rintro e w2 ⟨rfl, hb2⟩
  have HW2 : Hid (Below w.heap.size w w2) := HW1.out.trans (hb2.mono HW1.out.size)
  clear hb2
  go_wp2
  go_ret
  exact ⟨rfl, HW2.out⟩
end Go.Proofs.YteajcmkaoahbeaaGreatDoor
namespace Go.Proofs.YteajcmkaoahbeaaGreatDoor
open Go.RowKit

def evG (g : Gr) (id : Int) : Ev := if rightG g = true then evIn g.evs id else zeroEv
theorem evG_same {g h : Gr} (hr : g.room = h.room) (he : g.evs.map (·.v) = h.evs.map (·.v)) (hp : g.pk.map (·.v) = h.pk.map (·.v)) (id : Int) : evG g id = evG h id := by
  unfold evG evIn
  rw [rightG_same hr he hp, he]
/-- An event handed back: its numbers in a row of its own. -/
def EvPost (v : Ev) (w : World) (e : Ending) (w' : World) : Prop :=
  ∃ (a : Option Addr) (cap : Nat), e = .returned (.agg #[.int .i64 v.id, .int .i64 v.room, .int .i64 v.author, .int .i64 v.kind, .int .i64 v.key, .int .i64 v.n, .string v.text, .slice a v.prev.length cap, .int .i64 v.time]) ∧ w'.ownsRow w.heap.size 2 1 (.slice a v.prev.length cap) v.prev.length (nv v.prev) ∧ Below w.heap.size w w'
theorem evPost_zero {w w' : World} (hb : Below w.heap.size w w') : EvPost zeroEv w (.returned (.agg #[.int .i64 0, .int .i64 0, .int .i64 0, .int .i64 0, .int .i64 0, .int .i64 0, .string ⟨#[]⟩, .slice none 0 0, .int .i64 0])) w' :=
  ⟨none, 0, rfl, ⟨rfl, .inl ⟨rfl, rfl⟩⟩, hb⟩
theorem ownsRow_above {w : World} {base base' n : Nat} {e : TypeId} {v : Value} {xs : List Value} (h : w.ownsRow base e 1 v n xs) (hb : base' ≤ base) : w.ownsRow base' e 1 v n xs := owns_baseC h hb
set_option maxHeartbeats 4000000 in
set_option maxRecDepth 100000 in
theorem event_spec (g : Gr) (id : Int) (a : Option Addr) (cap : Nat) (p : Option Addr) (cp : Nat) (w : World) (h : EvsAt w a g.evs) (hd : (idsOf g.evs).Nodup) :
    Calls Tryz.prog 128 #[.agg #[.int .i64 g.room, .slice a g.evs.length cap, .slice p g.pk.length cp], .int .i64 id] w (EvPost (evIn g.evs id) w) := by
  have hl := h.len
  have HB : Hid (∀ o1 o2, Below w.heap.size w ((w.alloc o1).alloc o2)) := fun o1 o2 => ((Below.refl _ _).alloc (Nat.le_refl _) _).alloc (by simp) _
  have HE : Hid (∀ w', Below w.heap.size w w' → EvsAt w' a g.evs) := fun w' hb => h.kept hb
  clear h
  rcases atI_cases (idsOf g.evs) id with ⟨k, hk, hat, hkk⟩ | ⟨hat, hno⟩
  · have hlt : k < g.evs.length := by simpa [idsOf] using hk
    have hv : evIn g.evs id = g.evs[k].v := by
      have e : id = g.evs[k].v.id := by rw [← hkk]; simp [idsOf]
      rw [e]
      exact evIn_some hd (List.getElem_mem hlt)
    rw [hv]
    have HAT : Hid (atI (idsOf g.evs) id = k) := hat
    clear hk hat hkk hv
    have HE2 : Hid (EvsAt ((w.alloc (.cells #[.int .i64 g.room, .slice a g.evs.length cap, .slice p g.pk.length cp] 32)).alloc (.cells #[.int .i64 0, .int .i64 0, .int .i64 0, .int .i64 0, .int .i64 0, .int .i64 0, .string ⟨#[]⟩, .slice none 0 0, .int .i64 0] 114)) a g.evs) := HE.out _ (HB.out _ _)
    obtain ⟨b, off, ha, hbb, hcell⟩ := HE2.out.row (by omega)
    have hc0 : ((w.alloc (.cells #[.int .i64 g.room, .slice a g.evs.length cap, .slice p g.pk.length cp] 32)).alloc (.cells #[.int .i64 0, .int .i64 0, .int .i64 0, .int .i64 0, .int .i64 0, .int .i64 0, .string ⟨#[]⟩, .slice none 0 0, .int .i64 0] 114)).cell? ⟨b, off + k * 9, none⟩ = some (.int .i64 g.evs[k].v.id) := by
      have := hcell k hlt 0 (by omega)
      exact this
    have hc1 : ((w.alloc (.cells #[.int .i64 g.room, .slice a g.evs.length cap, .slice p g.pk.length cp] 32)).alloc (.cells #[.int .i64 0, .int .i64 0, .int .i64 0, .int .i64 0, .int .i64 0, .int .i64 0, .string ⟨#[]⟩, .slice none 0 0, .int .i64 0] 114)).cell? ⟨b, off + k * 9 + 1, none⟩ = some (.int .i64 g.evs[k].v.room) := by
      have := hcell k hlt 1 (by omega)
      rwa [← Nat.add_assoc] at this
    have hc2 : ((w.alloc (.cells #[.int .i64 g.room, .slice a g.evs.length cap, .slice p g.pk.length cp] 32)).alloc (.cells #[.int .i64 0, .int .i64 0, .int .i64 0, .int .i64 0, .int .i64 0, .int .i64 0, .string ⟨#[]⟩, .slice none 0 0, .int .i64 0] 114)).cell? ⟨b, off + k * 9 + 2, none⟩ = some (.int .i64 g.evs[k].v.author) := by
      have := hcell k hlt 2 (by omega)
      rwa [← Nat.add_assoc] at this
    have hc3 : ((w.alloc (.cells #[.int .i64 g.room, .slice a g.evs.length cap, .slice p g.pk.length cp] 32)).alloc (.cells #[.int .i64 0, .int .i64 0, .int .i64 0, .int .i64 0, .int .i64 0, .int .i64 0, .string ⟨#[]⟩, .slice none 0 0, .int .i64 0] 114)).cell? ⟨b, off + k * 9 + 3, none⟩ = some (.int .i64 g.evs[k].v.kind) := by
      have := hcell k hlt 3 (by omega)
      rwa [← Nat.add_assoc] at this
    have hc4 : ((w.alloc (.cells #[.int .i64 g.room, .slice a g.evs.length cap, .slice p g.pk.length cp] 32)).alloc (.cells #[.int .i64 0, .int .i64 0, .int .i64 0, .int .i64 0, .int .i64 0, .int .i64 0, .string ⟨#[]⟩, .slice none 0 0, .int .i64 0] 114)).cell? ⟨b, off + k * 9 + 4, none⟩ = some (.int .i64 g.evs[k].v.key) := by
      have := hcell k hlt 4 (by omega)
      rwa [← Nat.add_assoc] at this
    have hc5 : ((w.alloc (.cells #[.int .i64 g.room, .slice a g.evs.length cap, .slice p g.pk.length cp] 32)).alloc (.cells #[.int .i64 0, .int .i64 0, .int .i64 0, .int .i64 0, .int .i64 0, .int .i64 0, .string ⟨#[]⟩, .slice none 0 0, .int .i64 0] 114)).cell? ⟨b, off + k * 9 + 5, none⟩ = some (.int .i64 g.evs[k].v.n) := by
      have := hcell k hlt 5 (by omega)
      rwa [← Nat.add_assoc] at this
    have hc6 : ((w.alloc (.cells #[.int .i64 g.room, .slice a g.evs.length cap, .slice p g.pk.length cp] 32)).alloc (.cells #[.int .i64 0, .int .i64 0, .int .i64 0, .int .i64 0, .int .i64 0, .int .i64 0, .string ⟨#[]⟩, .slice none 0 0, .int .i64 0] 114)).cell? ⟨b, off + k * 9 + 6, none⟩ = some (.string g.evs[k].v.text) := by
      have := hcell k hlt 6 (by omega)
      rwa [← Nat.add_assoc] at this
    have hc7 : ((w.alloc (.cells #[.int .i64 g.room, .slice a g.evs.length cap, .slice p g.pk.length cp] 32)).alloc (.cells #[.int .i64 0, .int .i64 0, .int .i64 0, .int .i64 0, .int .i64 0, .int .i64 0, .string ⟨#[]⟩, .slice none 0 0, .int .i64 0] 114)).cell? ⟨b, off + k * 9 + 7, none⟩ = some (.slice g.evs[k].p g.evs[k].v.prev.length g.evs[k].c) := by
      have := hcell k hlt 7 (by omega)
      rwa [← Nat.add_assoc] at this
    have hc8 : ((w.alloc (.cells #[.int .i64 g.room, .slice a g.evs.length cap, .slice p g.pk.length cp] 32)).alloc (.cells #[.int .i64 0, .int .i64 0, .int .i64 0, .int .i64 0, .int .i64 0, .int .i64 0, .string ⟨#[]⟩, .slice none 0 0, .int .i64 0] 114)).cell? ⟨b, off + k * 9 + 8, none⟩ = some (.int .i64 g.evs[k].v.time) := by
      have := hcell k hlt 8 (by omega)
      rwa [← Nat.add_assoc] at this
    have HN : Hid (NumsAt ((w.alloc (.cells #[.int .i64 g.room, .slice a g.evs.length cap, .slice p g.pk.length cp] 32)).alloc (.cells #[.int .i64 0, .int .i64 0, .int .i64 0, .int .i64 0, .int .i64 0, .int .i64 0, .string ⟨#[]⟩, .slice none 0 0, .int .i64 0] 114)) g.evs[k].p g.evs[k].v.prev) := HE2.out.nums _ (List.getElem_mem hlt)
    have HA : Hid (a = some ⟨b, off, none⟩) := ha
    clear hcell
    subst ha
    go_enter Tryz.func128, Tryz.ntmps128
    go_wp2_with (first
      | (go_at_call 52; refine (at_spec g.evs id (some ⟨b, off, none⟩) cap _ HE2.out).mono ?_; rintro e w2 ⟨rfl, rfl⟩; rw [HAT.out])
      | (go_at_call 166; refine (copy_specC g.evs[k].v g.evs[k].p g.evs[k].c _ HN.out).mono ?_; rintro e w3 ⟨a3, cap3, rfl, ho3, hb3⟩; obtain ⟨hd3, hf3⟩ := bcell hb3; have HO3 : Hid (w3.ownsRow (w.heap.size + 2) 2 1 (.slice a3 g.evs[k].v.prev.length cap3) g.evs[k].v.prev.length (nv g.evs[k].v.prev) ∧ Below w.heap.size w w3) := ⟨by simpa using ho3, (HB.out _ _).trans (hb3.mono (by simp; omega))⟩; clear ho3 hb3))
    refine bodyPost_ret (v := .agg #[.int .i64 g.evs[k].v.id, .int .i64 g.evs[k].v.room, .int .i64 g.evs[k].v.author, .int .i64 g.evs[k].v.kind, .int .i64 g.evs[k].v.key, .int .i64 g.evs[k].v.n, .string g.evs[k].v.text, .slice a3 g.evs[k].v.prev.length cap3, .int .i64 g.evs[k].v.time]) (by simp [results, Tryz.results128, go_sem, hd3]) rfl ⟨a3, cap3, rfl, ?_, ?_⟩
    · refine owns_baseC (base := w.heap.size + 2) ?_ (by omega)
      repeat refine ownsRow_setCell_below ?_ (by simp) _
      exact HO3.out.1
    · repeat refine Below.setCell ?_ (by simp) _
      exact HO3.out.2
  · rw [evIn_none hno]
    have HE2 : Hid (EvsAt ((w.alloc (.cells #[.int .i64 g.room, .slice a g.evs.length cap, .slice p g.pk.length cp] 32)).alloc (.cells #[.int .i64 0, .int .i64 0, .int .i64 0, .int .i64 0, .int .i64 0, .int .i64 0, .string ⟨#[]⟩, .slice none 0 0, .int .i64 0] 114)) a g.evs) := HE.out _ (HB.out _ _)
    clear hno
    go_enter Tryz.func128, Tryz.ntmps128
    go_wp2_with (go_at_call 52; refine (at_spec g.evs id a cap _ HE2.out).mono ?_; rintro e w2 ⟨rfl, rfl⟩; rw [hat])
    refine bodyPost_ret (v := .agg #[.int .i64 0, .int .i64 0, .int .i64 0, .int .i64 0, .int .i64 0, .int .i64 0, .string ⟨#[]⟩, .slice none 0 0, .int .i64 0]) (by simp [results, Tryz.results128, go_sem]) rfl (evPost_zero (HB.out _ _))
end Go.Proofs.YteajcmkaoahbeaaGreatDoor
