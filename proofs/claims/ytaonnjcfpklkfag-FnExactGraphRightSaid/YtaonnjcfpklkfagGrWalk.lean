/- The law on GraphRight walked: for every graph the call returns true. -/
import Derived.Test.YtaonnjcfpklkfagGrEq
import Derived.Test.YtaonnjcfpklkfagGrChart
import Derived.Deep.DeepCutAuto
namespace Go.Proofs.Ytaonnjcfpklkfag
open Go.RowKit

theorem idsOf_v (es : List Em) : idsOf es = (es.map (·.v)).map (·.id) := by simp [idsOf]
theorem pvOf_v (es : List Em) (id : Int) : pvOf es id = ((es.map (·.v)).find? fun v => v.id == id).map (·.prev) := by
  unfold pvOf
  rw [List.find?_map, Option.map_map]
  rfl
theorem okAt_v {es fs : List Em} (h : es.map (·.v) = fs.map (·.v)) (room : Int) (i : Nat) : okAt es room i = okAt fs room i := by
  have key : ∀ j : Nat, (es[j]?).map (·.v) = (fs[j]?).map (·.v) := fun j => by
    have : (es.map (·.v))[j]? = (fs.map (·.v))[j]? := by rw [h]
    simpa using this
  have h1 := key i
  unfold okAt
  cases c1 : es[i]? <;> cases c2 : fs[i]? <;> rw [c1, c2] at h1 <;> simp at h1
  cases i with
  | zero => simp [h1]
  | succ j =>
    have h2 := key j
    cases c3 : es[j]? <;> cases c4 : fs[j]? <;> rw [c3, c4] at h2 <;> simp at h2
    · simp [h1, c3, c4]
    · simp [h1, h2, c3, c4]
theorem rowB_v {es fs : List Em} (h : es.map (·.v) = fs.map (·.v)) (room : Int) (most : Nat) : rowB es room most = rowB fs room most := by
  have hl : es.length = fs.length := by have := congrArg List.length h; simpa using this
  unfold rowB
  rw [hl]
  congr 1
  rw [Bool.eq_iff_iff, List.all_eq_true, List.all_eq_true]
  constructor <;> intro hh x hx
  · rw [← okAt_v h]; exact hh x hx
  · rw [okAt_v h]; exact hh x hx
theorem all_v {es : List Em} (p : Ev → Bool) : es.all (fun m => p m.v) = (es.map (·.v)).all p := by simp [List.all_map, Function.comp_def]
/-- What is right of a graph is right of its copies. -/
theorem rightG_same {g h : Gr} (hr : g.room = h.room) (he : g.evs.map (·.v) = h.evs.map (·.v)) (hp : g.pk.map (·.v) = h.pk.map (·.v)) : rightG g = rightG h := by
  have ei : idsOf g.evs = idsOf h.evs := by rw [idsOf_v, idsOf_v, he]
  have pi : idsOf g.pk = idsOf h.pk := by rw [idsOf_v, idsOf_v, hp]
  have ep : pvOf g.evs = pvOf h.evs := funext fun id => by rw [pvOf_v, pvOf_v, he]
  have e1 : evsB g = evsB h := by
    unfold evsB
    rw [all_v (es := g.evs) (fun v => allIn (idsOf g.evs) v.prev && decide (atI (idsOf g.pk) v.id < 0)), all_v (es := h.evs) (fun v => allIn (idsOf h.evs) v.prev && decide (atI (idsOf h.pk) v.id < 0)), he, ei, pi]
  have e2 : pkB g = pkB h := by
    unfold pkB
    rw [all_v (es := g.pk) (fun v => !allIn (idsOf g.evs) v.prev), all_v (es := h.pk) (fun v => !allIn (idsOf h.evs) v.prev), hp, ei]
  have e3 : depB g = depB h := by
    unfold depB
    rw [ei, ep]
  unfold rightG
  rw [hr, rowB_v he, rowB_v hp, e1, e2, e3]
theorem GrNew.right {w W : World} {g g' : Gr} {a' p' : Option Addr} (h : GrNew w g g' a' p' W) : rightG g' = rightG g := rightG_same h.room h.evs.same h.pk.same
set_option maxHeartbeats 4000000 in
set_option maxRecDepth 100000 in
theorem eq_graph (g h : Gr) (a1 p1 a2 p2 : Option Addr) (c1 d1 c2 d2 : Nat) (w : World) (h1 : EvsAt w a1 g.evs) (h2 : EvsAt w p1 g.pk) (h3 : EvsAt w a2 h.evs) (h4 : EvsAt w p2 h.pk) (he : g.evs.map (·.v) = h.evs.map (·.v)) (hp : g.pk.map (·.v) = h.pk.map (·.v)) :
    Calls Try.prog 24 #[.agg #[.int .i64 g.room, .slice a1 g.evs.length c1, .slice p1 g.pk.length d1], .agg #[.int .i64 g.room, .slice a2 g.evs.length c2, .slice p2 g.pk.length d2]] w fun e w' => e = .returned (.bool true) ∧ Below w.heap.size w w' := by
  have HE : Hid (∀ w', Below w.heap.size w w' → (EvsAt w' a1 g.evs ∧ EvsAt w' a2 h.evs) ∧ EvsAt w' p1 g.pk ∧ EvsAt w' p2 h.pk) := fun w' hb => ⟨⟨h1.kept hb, h3.kept hb⟩, h2.kept hb, h4.kept hb⟩
  have HS : Hid (g.evs.map (·.v) = h.evs.map (·.v) ∧ g.pk.map (·.v) = h.pk.map (·.v)) := ⟨he, hp⟩
  have HB : Hid (∀ o1 o2, Below w.heap.size w ((w.alloc o1).alloc o2)) := fun o1 o2 => ((Below.refl _ _).alloc (Nat.le_refl _) _).alloc (by simp) _
  clear h1 h2 h3 h4 he hp
  go_enter Try.func24, Try.ntmps24
  go_wp2_with fail
  refine (eq_events g.evs h.evs a1 a2 c1 c2 _ (HE.out _ (HB.out _ _)).1.1 (HE.out _ (HB.out _ _)).1.2 HS.out.1).mono ?_
  rintro e w1 ⟨rfl, hb1⟩
  obtain ⟨hc1, hf1⟩ := bcell hb1
  have HW1 : Hid (Below w.heap.size w w1) := (HB.out _ _).trans (hb1.mono (by simp; omega))
  clear hb1
  go_wp2_with fail
  refine (eq_events g.pk h.pk p1 p2 d1 d2 _ (HE.out _ HW1.out).2.1 (HE.out _ HW1.out).2.2 HS.out.2).mono ?_
  rintro e w2 ⟨rfl, hb2⟩
  have HW2 : Hid (Below w.heap.size w w2) := HW1.out.trans (hb2.mono HW1.out.size)
  clear hb2
  go_wp2
  go_ret
  exact ⟨rfl, HW2.out⟩
set_option maxHeartbeats 8000000 in
set_option maxRecDepth 100000 in
theorem walk_fnExactGraphRight_gr (g : Gr) (a : Option Addr) (cap : Nat) (p : Option Addr) (cp : Nat) (w : World) (h : EvsRaw w a g.evs) (h2 : EvsRaw w p g.pk) :
    Calls Try.prog 6 #[.agg #[.int .i64 g.room, .slice a g.evs.length cap, .slice p g.pk.length cp]] w fun e w' => e = .returned (.bool true) ∧ Below w.heap.size w w' := by
  have HB0 : Hid (∀ o, Below w.heap.size w (w.alloc o)) := fun o => (Below.refl _ _).alloc (Nat.le_refl _) o
  have HR : Hid (∀ w', Below w.heap.size w w' → EvsRaw w' a g.evs ∧ EvsRaw w' p g.pk) := fun w' hb => ⟨h.kept hb, h2.kept hb⟩
  by_cases hs : ((wt g.evs + wt g.pk : Nat) : Int) ≤ 1048576
  · have HE : Hid (∀ w', Below w.heap.size w w' → EvsAt w' a g.evs ∧ EvsAt w' p g.pk) := fun w' hb => ⟨(h.kept hb).at (by omega), (h2.kept hb).at (by omega)⟩
    have HS : Hid (szB (wt g.evs + wt g.pk) 1048576 = 1048576 - (wt g.evs + wt g.pk : Nat)) := szB_yes hs
    obtain ⟨L, HL⟩ : ∃ L : Int, Hid (L = szB (wt g.evs + wt g.pk) 1048576) := ⟨szB (wt g.evs + wt g.pk) 1048576, (rfl : (szB (wt g.evs + wt g.pk) 1048576 : Int) = _)⟩
    have hL : 0 ≤ L := by rw [HL.out, HS.out]; omega
    clear h h2 hs
    go_enter Try.func6, Try.ntmps6
    go_wp2_with fail
    refine (sz_graph g a cap p cp 1048576 _ (HR.out _ (HB0.out _)).1 (HR.out _ (HB0.out _)).2 (by omega) (by omega)).mono ?_
    rintro e w1 ⟨rfl, hb1⟩
    rw [← HL.out]
    obtain ⟨hc1, hf1⟩ := bcell hb1
    have hz1 : w.heap.size < w1.heap.size := by have := hb1.size; simp at this; omega
    have HW1 : Hid (Below w.heap.size w w1) := (HB0.out _).trans (hb1.mono (by simp))
    clear hb1
    go_wp2_with fail
    refine (to_graph g a cap p cp _ (HE.out _ HW1.out).1 (HE.out _ HW1.out).2).mono ?_
    rintro e w2 ⟨g2, a2, p2, rfl, hn2⟩
    obtain ⟨hc2, hf2⟩ := bcell hn2.evs.below
    have hz2 : w.heap.size < w2.heap.size := Nat.lt_of_lt_of_le hz1 hn2.evs.below.size
    have HW2 : Hid (Below w.heap.size w w2) := HW1.out.trans (hn2.evs.below.mono HW1.out.size)
    have HG2 := graph_spec g2 a2 g.evs.length p2 g.pk.length w2 hn2.evs.row.at hn2.pk.row.at
    rw [hn2.room, hn2.evs.len, hn2.pk.len, hn2.right] at HG2
    clear hn2
    go_wp2_with fail
    refine HG2.mono ?_
    rintro e w3 ⟨rfl, hb3⟩
    obtain ⟨hc3, hf3⟩ := bcell hb3
    have hz3 : w.heap.size < w3.heap.size := Nat.lt_of_lt_of_le hz2 hb3.size
    have HW3 : Hid (Below w.heap.size w w3) := HW2.out.trans (hb3.mono HW2.out.size)
    clear hb3 HG2
    go_wp2_with fail
    refine (to_graph g a cap p cp _ (HE.out _ HW3.out).1 (HE.out _ HW3.out).2).mono ?_
    rintro e w4 ⟨g4, a4, p4, rfl, hn4⟩
    obtain ⟨hc4, hf4⟩ := bcell hn4.evs.below
    have hz4 : w.heap.size < w4.heap.size := Nat.lt_of_lt_of_le hz3 hn4.evs.below.size
    have HW4 : Hid (∀ o, Below w.heap.size w (w4.alloc o)) := fun o => (HW3.out.trans (hn4.evs.below.mono HW3.out.size)).alloc (Nat.le_of_lt hz4) o
    have HN4 : Hid (∀ w', Below w4.heap.size w4 w' → EvsAt w' a4 g4.evs ∧ EvsAt w' p4 g4.pk) := fun w' hb => ⟨hn4.evs.row.at.kept hb, hn4.pk.row.at.kept hb⟩
    have HQ4 : Hid (g4.room = g.room ∧ g4.evs.length = g.evs.length ∧ g4.pk.length = g.pk.length ∧ g4.evs.map (·.v) = g.evs.map (·.v) ∧ g4.pk.map (·.v) = g.pk.map (·.v)) := ⟨hn4.room, hn4.evs.len, hn4.pk.len, hn4.evs.same, hn4.pk.same⟩
    have HG4 : ∀ o, Calls Try.prog 23 #[.agg #[.int .i64 g.room, .slice a4 g.evs.length g.evs.length, .slice p4 g.pk.length g.pk.length]] (w4.alloc o) fun e w' => e = .returned (.bool (rightG g)) ∧ Below (w4.alloc o).heap.size (w4.alloc o) w' := fun o => by
      have := graph_impl g4 a4 g.evs.length p4 g.pk.length (w4.alloc o) (hn4.evs.row.at.kept ((Below.refl _ _).alloc (Nat.le_refl _) _)) (hn4.pk.row.at.kept ((Below.refl _ _).alloc (Nat.le_refl _) _))
      rwa [hn4.room, hn4.evs.len, hn4.pk.len, hn4.right] at this
    clear hn4
    go_wp2_with fail
    refine (HG4 _).mono ?_
    rintro e w5 ⟨rfl, hb5⟩
    obtain ⟨hc5, hf5⟩ := bcell hb5
    have HY5 : Hid (Below w4.heap.size w4 w5) := ((Below.refl _ _).alloc (Nat.le_refl _) _).trans (hb5.mono (by simp))
    have hx5 : w4.heap.size < w5.heap.size := by have := hb5.size; simp at this; omega
    have hz5 : w.heap.size < w5.heap.size := by omega
    have HW5 : Hid (Below w.heap.size w w5) := (HW4.out _).trans (hb5.mono (by simp; omega))
    clear hb5 HG4
    cases hr : rightG g <;>
    · go_wp2_with fail
      first
        | (go_region_with (first
            | (go_at_call 22; refine (to_graph g a cap p cp _ (HE.out _ HW5.out.drew).1 (HE.out _ HW5.out.drew).2).mono ?_; rintro e w6 ⟨g6, a6, p6, rfl, hn6⟩; have hc6 : ∀ b o, b < w5.heap.size → w6.cell? ⟨b, o, none⟩ = w5.cell? ⟨b, o, none⟩ := (bcell hn6.evs.below).1; have HW6 : Hid (Below w5.heap.size w5 w6) := (Below.drew (Below.refl _ _)).trans hn6.evs.below; have HY6 : Hid (Below w4.heap.size w4 w6) := HY5.out.trans (HW6.out.mono (Nat.le_of_lt hx5)); have HQ6 := eq_graph g4 g6 a4 p4 a6 p6 g.evs.length g.pk.length g.evs.length g.pk.length w6 (HN4.out _ HY6.out).1 (HN4.out _ HY6.out).2 hn6.evs.row.at hn6.pk.row.at (HQ4.out.2.2.2.1.trans hn6.evs.same.symm) (HQ4.out.2.2.2.2.trans hn6.pk.same.symm); rw [HQ4.out.1, HQ4.out.2.1, HQ4.out.2.2.1] at HQ6)
            | (go_at_call 24; refine HQ6.mono ?_; rintro e w7 ⟨rfl, hb7⟩; have HW7 : Hid (Below w.heap.size w w7) := HW5.out.trans ((HW6.out.mono (Nat.le_of_lt hz5)).trans (hb7.mono (Nat.le_trans (Nat.le_of_lt hz5) HW6.out.size))))))
        | fail
      all_goals go_wp2
      all_goals go_ret
      all_goals exact ⟨rfl, HW7.out⟩
  · have HS : Hid (szB (wt g.evs + wt g.pk) 1048576 = -1) := szB_no hs
    clear h h2 hs
    go_enter Try.func6, Try.ntmps6
    go_wp2_with fail
    refine (sz_graph g a cap p cp 1048576 _ (HR.out _ (HB0.out _)).1 (HR.out _ (HB0.out _)).2 (by omega) (by omega)).mono ?_
    rintro e w1 ⟨rfl, hb1⟩
    rw [HS.out]
    have HW1 : Hid (Below w.heap.size w w1) := (HB0.out _).trans (hb1.mono (by simp))
    clear hb1
    go_wp2
    go_ret
    exact ⟨rfl, HW1.out⟩
end Go.Proofs.Ytaonnjcfpklkfag
