/- What a state of a graph tells, as plain functions. -/
import Derived.Test.YtjdkenopfnepaaaGreatGrEvIn
import Derived.Test.YtjdkenopfnepaaaGreatGrChart
import Derived.Test.YtjdkenopfnepaaaGreatStAt
namespace Go.Proofs.YtjdkenopfnepaaaGreat
open Go.RowKit

/-- The event by which it stands so at a kind and a key. -/
def lastE (es : List Em) (xs : List En) (k y : Int) : Ev := evIn es (stAt xs k y)
def fitB (es : List Em) (x : En) : Bool := ((evIn es x.id).kind == x.kind) && ((evIn es x.id).key == x.key)
def fitsB (es : List Em) (xs : List En) : Bool := xs.all (fitB es)
def stateB (g : Gr) (xs : List En) : Bool := rowE false xs && fitsB g.evs xs
def sceneB (g : Gr) (xs : List En) : Bool := rightG g && stateB g xs
def memR (es : List Em) (xs : List En) (u : Int) : Int := (lastE es xs 2 u).n
def levR (es : List Em) (xs : List En) (u : Int) : Int := if stAt xs 3 u = 0 then (if (lastE es xs 1 0).author = u then 100 else 0) else (lastE es xs 3 u).n
def sigR (es : List Em) (xs : List En) : Int := if stAt xs 6 0 = 0 then 2 else (lastE es xs 6 0).n
theorem fitsB_no {es : List Em} {xs : List En} {k : Nat} (hk : k < xs.length) (h : fitB es xs[k] = false) : fitsB es xs = false := List.all_eq_false.2 ⟨xs[k], List.getElem_mem hk, by simp [h]⟩
theorem fitsB_yes {es : List Em} {xs : List En} (h : ∀ j (h : j < xs.length), fitB es xs[j] = true) : fitsB es xs = true := List.all_eq_true.2 fun x hx => by
  obtain ⟨j, hj, rfl⟩ := List.getElem_of_mem hx
  exact h j hj
theorem rowE_kind {xs : List En} (h : rowE false xs = true) {x : En} (hx : x ∈ xs) : 1 ≤ x.kind ∧ x.kind ≤ 6 ∧ 0 ≤ x.key ∧ x.key ≤ 6 ∧ 1 ≤ x.id ∧ x.id ≤ 1000000 := by
  simp only [rowE, Bool.and_eq_true] at h
  have h1 := List.all_eq_true.1 h.2 x hx
  simp only [entB, slotB, Bool.and_eq_true, Bool.false_and, Bool.or_false] at h1
  have hk := isB_yes h1.1.1
  have hy := isB_yes h1.1.2
  have hi := isB_yes h1.2
  exact ⟨hk.1, hk.2, hy.1, hy.2, hi.1, hi.2⟩
theorem fitB_out {es : List Em} {x : En} (h : x.id ∉ idsOf es) (hk : 1 ≤ x.kind) : fitB es x = false := by
  unfold fitB
  rw [evIn_none h]
  have : ((0 : Int) == x.kind) = false := by simp; omega
  simp [zeroEv, this]
theorem stAt_found {xs : List En} {k y : Int} (h : stAt xs k y ≠ 0) : ∃ x ∈ xs, x.kind = k ∧ x.key = y ∧ x.id = stAt xs k y := by
  unfold stAt at h ⊢
  cases c : xs.find? (fun x => (x.kind == k) && (x.key == y)) with
  | none => rw [c] at h; exact absurd rfl h
  | some x =>
    have hq := List.find?_some c
    simp only [Bool.and_eq_true, beq_iff_eq] at hq
    exact ⟨x, List.mem_of_find?_eq_some c, hq.1, hq.2, rfl⟩
structure Sc (g : Gr) (xs : List En) : Prop where
  right : rightG g = true
  row : rowE false xs = true
  fits : fitsB g.evs xs = true
theorem sceneB_yes {g : Gr} {xs : List En} (h : sceneB g xs = true) : Sc g xs := by
  simp only [sceneB, stateB, Bool.and_eq_true] at h
  exact ⟨h.1, h.2.1, h.2.2⟩
theorem right_rows {g : Gr} (h : rightG g = true) : rowB g.evs g.room 60 = true := by
  unfold rightG at h
  simp only [Bool.and_eq_true] at h
  exact h.1.1.1.1.2
theorem right_dup {g : Gr} (h : rightG g = true) : (idsOf g.evs).Nodup := rowB_nodup (right_rows h)
theorem right_ids {g : Gr} (h : rightG g = true) {m : Em} (hm : m ∈ g.evs) : IdIn m := (right_in (rowB_each (right_rows h) hm).1).1
theorem Sc.some {g : Gr} {xs : List En} (h : Sc g xs) {k y : Int} (hs : stAt xs k y ≠ 0) : ∃ m ∈ g.evs, m.v.id = stAt xs k y ∧ lastE g.evs xs k y = m.v ∧ m.v.kind = k ∧ m.v.key = y := by
  obtain ⟨x, hx, h1, h2, h3⟩ := stAt_found hs
  have hf := List.all_eq_true.1 h.fits x hx
  by_cases hin : x.id ∈ idsOf g.evs
  · obtain ⟨m, hm, he⟩ := List.mem_map.1 hin
    have hv : evIn g.evs x.id = m.v := by rw [← he]; exact evIn_some (right_dup h.right) hm
    unfold fitB at hf
    rw [hv] at hf
    simp only [Bool.and_eq_true, beq_iff_eq] at hf
    exact ⟨m, hm, he.trans h3, by unfold lastE; rw [← h3, hv], hf.1.trans h1, hf.2.trans h2⟩
  · rw [fitB_out hin (rowE_kind h.row hx).1] at hf
    cases hf
theorem Sc.zero {g : Gr} {xs : List En} (h : Sc g xs) {k y : Int} (hs : stAt xs k y = 0) : (0 : Int) ∉ idsOf g.evs ∧ lastE g.evs xs k y = zeroEv := by
  have h0 : (0 : Int) ∉ idsOf g.evs := fun hin => by
    obtain ⟨m, hm, he⟩ := List.mem_map.1 hin
    have := (right_ids h.right hm).1
    omega
  refine ⟨h0, ?_⟩
  unfold lastE
  rw [hs]
  exact evIn_none h0
theorem Sc.id {g : Gr} {xs : List En} (h : Sc g xs) (k y : Int) : (lastE g.evs xs k y).id = stAt xs k y := by
  by_cases hs : stAt xs k y = 0
  · rw [(h.zero hs).2, hs]
    rfl
  · obtain ⟨m, _, h1, h2, _⟩ := h.some hs
    rw [h2, h1]
theorem Sc.bound {g : Gr} {xs : List En} (h : Sc g xs) (k y : Int) : 0 ≤ stAt xs k y ∧ stAt xs k y ≤ 1000000 := by
  by_cases hs : stAt xs k y = 0
  · omega
  · obtain ⟨x, hx, _, _, h3⟩ := stAt_found hs
    have := rowE_kind h.row hx
    omega
/-- What stands for sight is never 0. -/
theorem Sc.sight {g : Gr} {xs : List En} (h : Sc g xs) (hs : stAt xs 6 0 ≠ 0) : (lastE g.evs xs 6 0).n ≠ 0 := by
  obtain ⟨m, hm, _, h2, h3, _⟩ := h.some hs
  rw [h2]
  have hr := (rowB_each (right_rows h.right) hm).1
  unfold rightB bodyB at hr
  rw [h3] at hr
  simp only [Bool.and_eq_true] at hr
  simp at hr
  have := isB_yes hr.2.1.2
  omega
theorem scene_nog {g : Gr} {xs : List En} (h : rightG g = false) : sceneB g xs = false := by simp [sceneB, h]
theorem scene_nos {g : Gr} {xs : List En} (h : stateB g xs = false) : sceneB g xs = false := by simp [sceneB, h]
theorem scene_yes {g : Gr} {xs : List En} (h : rightG g = true) (h2 : stateB g xs = true) : sceneB g xs = true := by simp [sceneB, h, h2]
end Go.Proofs.YtjdkenopfnepaaaGreat
