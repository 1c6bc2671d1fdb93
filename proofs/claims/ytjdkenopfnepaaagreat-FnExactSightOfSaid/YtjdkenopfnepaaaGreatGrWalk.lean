/- Two graphs held against each other; what is right of a graph is right of its copies. -/
import Derived.Test.YtjdkenopfnepaaaGreatGrEq
namespace Go.Proofs.YtjdkenopfnepaaaGreat
open Go.RowKit

theorem idsOf_v (es : List Em) : idsOf es = (es.map (·.v)).map (·.id) := by simp [idsOf]
theorem pvOf_v (es : List Em) (id : Int) : pvOf es id = ((es.map (·.v)).find? fun v => v.id == id).map (·.prev) := by
  unfold pvOf
  rw [List.find?_map, Option.map_map]
  rfl
theorem okAt_v {es fs : List Em} (h : es.map (·.v) = fs.map (·.v)) (room : Int) (i : Nat) : okAt es room i = okAt fs room i := by
  have key : ∀ j : Nat, (es[j]?).map (·.v) = (fs[j]?).map (·.v) := fun j => by
    have : (es.map (·.v))[j]? = (fs.map (·.v))[j]? := by rw [h]
    simpa using this
  have h1 := key i
  unfold okAt
  cases c1 : es[i]? <;> cases c2 : fs[i]? <;> rw [c1, c2] at h1 <;> simp at h1
  cases i with
  | zero => simp [h1]
  | succ j =>
    have h2 := key j
    cases c3 : es[j]? <;> cases c4 : fs[j]? <;> rw [c3, c4] at h2 <;> simp at h2
    · simp [h1, c3, c4]
    · simp [h1, h2, c3, c4]
theorem rowB_v {es fs : List Em} (h : es.map (·.v) = fs.map (·.v)) (room : Int) (most : Nat) : rowB es room most = rowB fs room most := by
  have hl : es.length = fs.length := by have := congrArg List.length h; simpa using this
  unfold rowB
  rw [hl]
  congr 1
  rw [Bool.eq_iff_iff, List.all_eq_true, List.all_eq_true]
  constructor <;> intro hh x hx
  · rw [← okAt_v h]; exact hh x hx
  · rw [okAt_v h]; exact hh x hx
theorem all_v {es : List Em} (p : Ev → Bool) : es.all (fun m => p m.v) = (es.map (·.v)).all p := by simp [List.all_map, Function.comp_def]
/-- What is right of a graph is right of its copies. -/
theorem rightG_same {g h : Gr} (hr : g.room = h.room) (he : g.evs.map (·.v) = h.evs.map (·.v)) (hp : g.pk.map (·.v) = h.pk.map (·.v)) : rightG g = rightG h := by
  have ei : idsOf g.evs = idsOf h.evs := by rw [idsOf_v, idsOf_v, he]
  have pi : idsOf g.pk = idsOf h.pk := by rw [idsOf_v, idsOf_v, hp]
  have ep : pvOf g.evs = pvOf h.evs := funext fun id => by rw [pvOf_v, pvOf_v, he]
  have e1 : evsB g = evsB h := by
    unfold evsB
    rw [all_v (es := g.evs) (fun v => allIn (idsOf g.evs) v.prev && decide (atI (idsOf g.pk) v.id < 0)), all_v (es := h.evs) (fun v => allIn (idsOf h.evs) v.prev && decide (atI (idsOf h.pk) v.id < 0)), he, ei, pi]
  have e2 : pkB g = pkB h := by
    unfold pkB
    rw [all_v (es := g.pk) (fun v => !allIn (idsOf g.evs) v.prev), all_v (es := h.pk) (fun v => !allIn (idsOf h.evs) v.prev), hp, ei]
  have e3 : depB g = depB h := by
    unfold depB
    rw [ei, ep]
  unfold rightG
  rw [hr, rowB_v he, rowB_v hp, e1, e2, e3]
theorem GrNew.right {w W : World} {g g' : Gr} {a' p' : Option Addr} (h : GrNew w g g' a' p' W) : rightG g' = rightG g := rightG_same h.room h.evs.same h.pk.same
set_option maxHeartbeats 4000000 in
set_option maxRecDepth 100000 in
theorem eq_graph (g h : Gr) (a1 p1 a2 p2 : Option Addr) (c1 d1 c2 d2 : Nat) (w : World) (h1 : EvsAt w a1 g.evs) (h2 : EvsAt w p1 g.pk) (h3 : EvsAt w a2 h.evs) (h4 : EvsAt w p2 h.pk) (he : g.evs.map (·.v) = h.evs.map (·.v)) (hp : g.pk.map (·.v) = h.pk.map (·.v)) :
    Calls Tryz.prog 13 #[.agg #[.int .i64 g.room, .slice a1 g.evs.length c1, .slice p1 g.pk.length d1], .agg #[.int .i64 g.room, .slice a2 g.evs.length c2, .slice p2 g.pk.length d2]] w fun e w' => e = .returned (.bool true) ∧ Below w.heap.size w w' := by
  have HE : Hid (∀ w', Below w.heap.size w w' → (EvsAt w' a1 g.evs ∧ EvsAt w' a2 h.evs) ∧ EvsAt w' p1 g.pk ∧ EvsAt w' p2 h.pk) := fun w' hb => ⟨⟨h1.kept hb, h3.kept hb⟩, h2.kept hb, h4.kept hb⟩
  have HS : Hid (g.evs.map (·.v) = h.evs.map (·.v) ∧ g.pk.map (·.v) = h.pk.map (·.v)) := ⟨he, hp⟩
  have HB : Hid (∀ o1 o2, Below w.heap.size w ((w.alloc o1).alloc o2)) := fun o1 o2 => ((Below.refl _ _).alloc (Nat.le_refl _) _).alloc (by simp) _
  clear h1 h2 h3 h4 he hp
  go_enter Tryz.func13, Tryz.ntmps13
  go_wp2_with fail
  refine (eq_events g.evs h.evs a1 a2 c1 c2 _ (HE.out _ (HB.out _ _)).1.1 (HE.out _ (HB.out _ _)).1.2 HS.out.1).mono ?_
  rintro e w1 ⟨rfl, hb1⟩
  obtain ⟨hc1, hf1⟩ := bcell hb1
  have HW1 : Hid (Below w.heap.size w w1) := (HB.out _ _).trans (hb1.mono (by simp; omega))
  clear hb1
  go_wp2_with fail
  refine (eq_events g.pk h.pk p1 p2 d1 d2 _ (HE.out _ HW1.out).2.1 (HE.out _ HW1.out).2.2 HS.out.2).mono ?_
  rintro e w2 ⟨rfl, hb2⟩
  have HW2 : Hid (Below w.heap.size w w2) := HW1.out.trans (hb2.mono HW1.out.size)
  clear hb2
  go_wp2
  go_ret
  exact ⟨rfl, HW2.out⟩
end Go.Proofs.YtjdkenopfnepaaaGreat
