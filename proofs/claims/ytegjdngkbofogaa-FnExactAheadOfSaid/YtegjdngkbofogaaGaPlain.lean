/- What stands ahead of what, as plain functions: what a call of the function that calls itself leaves, and a list of what is still to do. -/
import Derived.Test.YtegjdngkbofogaaGrDepth
namespace Go.Proofs.Ytegjdngkbofogaa

/-- From b one comes to a. -/
inductive Way (pv : Int → Option (List Int)) : Int → Int → Prop
  | one {b p : Int} {ps : List Int} (h : pv b = some ps) (hp : p ∈ ps) : Way pv b p
  | more {b p a : Int} {ps : List Int} (h : pv b = some ps) (hp : p ∈ ps) (hw : Way pv p a) : Way pv b a
theorem Way.on {pv : Int → Option (List Int)} {b x p : Int} {ps : List Int} (h : Way pv b x) (hx : pv x = some ps) (hp : p ∈ ps) : Way pv b p := by
  induction h with
  | one h1 h2 => exact .more h1 h2 (.one hx hp)
  | more h1 h2 _ ih => exact .more h1 h2 (ih hx)
/-- What holds all that is next to b, and with each what is next to it, holds all to which one comes. -/
theorem Way.within {pv : Int → Option (List Int)} {P : Int → Prop} (hc : ∀ x, P x → ∀ ps, pv x = some ps → ∀ p ∈ ps, P p) {b a : Int} (h : Way pv b a) (hb : ∀ ps, pv b = some ps → ∀ p ∈ ps, P p) : P a := by
  induction h with
  | one h1 h2 => exact hb _ h1 _ h2
  | more h1 h2 _ ih => exact ih (hc _ (hb _ h1 _ h2))
theorem Way.from {pv : Int → Option (List Int)} {b a : Int} (h : Way pv b a) : ∃ ps, pv b = some ps := by
  cases h with
  | one h1 _ => exact ⟨_, h1⟩
  | more h1 _ _ => exact ⟨_, h1⟩
def lacks (ids l : List Int) : Nat := ids.countP fun id => !l.contains id
theorem lacks_none (ids : List Int) : lacks ids [] = ids.length := by
  unfold lacks
  rw [List.countP_eq_length]
  intro x _
  rfl
theorem lacks_le {ids l l' : List Int} (h : ∀ x ∈ l, x ∈ l') : lacks ids l' ≤ lacks ids l := by
  refine countP_le fun x _ hx => ?_
  simp only [Bool.not_eq_true', List.contains_eq_mem, decide_eq_false_iff_not] at hx ⊢
  exact fun hm => hx (h x hm)
theorem lacks_lt {ids l : List Int} {p : Int} (hp : p ∈ ids) (hn : p ∉ l) : lacks ids (p :: l) < lacks ids l := by
  refine countP_lt (fun x _ hx => ?_) ⟨p, hp, by simpa using hn, by simp⟩
  simp only [Bool.not_eq_true', List.contains_eq_mem, decide_eq_false_iff_not, List.mem_cons, not_or] at hx ⊢
  exact hx.2
/-- What a call at an Id leaves. -/
structure WLeft (pv : Int → Option (List Int)) (ids : List Int) (id : Int) (l l' : List Int) : Prop where
  old : ∀ x ∈ l, x ∈ l'
  dom : ∀ x ∈ l', x ∈ ids
  sound : ∀ x ∈ l', x ∈ l ∨ Way pv id x
  here : ∀ ps, pv id = some ps → ∀ p ∈ ps, p ∈ l'
  clo : ∀ x ∈ l', x ∉ l → ∀ ps, pv x = some ps → ∀ p ∈ ps, p ∈ l'
  cost : l'.length + lacks ids l' ≤ l.length + lacks ids l
/-- What is there in mid-call, when j of the numbers have been looked at. -/
structure WMid (pv : Int → Option (List Int)) (ids : List Int) (id : Int) (ps : List Int) (j : Nat) (l lj : List Int) : Prop where
  old : ∀ x ∈ l, x ∈ lj
  dom : ∀ x ∈ lj, x ∈ ids
  sound : ∀ x ∈ lj, x ∈ l ∨ Way pv id x
  here : ∀ i (h : i < ps.length), i < j → ps[i] ∈ lj
  clo : ∀ x ∈ lj, x ∉ l → ∀ qs, pv x = some qs → ∀ p ∈ qs, p ∈ lj
  cost : lj.length + lacks ids lj ≤ l.length + lacks ids l
theorem WMid.start {pv : Int → Option (List Int)} {ids : List Int} {id : Int} {ps l : List Int} (hd : ∀ x ∈ l, x ∈ ids) : WMid pv ids id ps 0 l l :=
  ⟨fun _ h => h, hd, fun _ h => .inl h, fun _ _ h => absurd h (Nat.not_lt_zero _), fun _ hx hn => absurd hx hn, Nat.le_refl _⟩
theorem WMid.skip {pv : Int → Option (List Int)} {ids : List Int} {id : Int} {ps : List Int} {j : Nat} {l lj : List Int} (h : WMid pv ids id ps j l lj) (hj : j < ps.length) (hin : ps[j] ∈ lj) : WMid pv ids id ps (j + 1) l lj :=
  ⟨h.old, h.dom, h.sound, fun i hi hij => by
    by_cases e : i = j
    · subst e; exact hin
    · exact h.here i hi (by omega), h.clo, h.cost⟩
theorem WMid.next {pv : Int → Option (List Int)} {ids : List Int} {id : Int} {ps : List Int} {j : Nat} {l lj l' : List Int} (h : WMid pv ids id ps j l lj) (hpv : pv id = some ps) (hj : j < ps.length) (hin : ps[j] ∈ ids) (hno : ps[j] ∉ lj) (hl : WLeft pv ids ps[j] (ps[j] :: lj) l') : WMid pv ids id ps (j + 1) l l' := by
  have hw : Way pv id ps[j] := .one hpv (List.getElem_mem hj)
  refine ⟨fun x hx => hl.old x (List.mem_cons_of_mem _ (h.old x hx)), hl.dom, fun x hx => ?_, fun i hi hij => ?_, fun x hx hn qs hq p hp => ?_, ?_⟩
  · rcases hl.sound x hx with h1 | h1
    · rcases List.mem_cons.1 h1 with rfl | h1
      · exact .inr hw
      · exact h.sound x h1
    · exact .inr (.more hpv (List.getElem_mem hj) h1)
  · by_cases e : i = j
    · subst e; exact hl.old _ List.mem_cons_self
    · exact hl.old _ (List.mem_cons_of_mem _ (h.here i hi (by omega)))
  · by_cases e : x = ps[j]
    · subst e
      exact hl.here qs hq p hp
    · by_cases hx2 : x ∈ lj
      · exact hl.old _ (List.mem_cons_of_mem _ (h.clo x hx2 hn qs hq p hp))
      · exact hl.clo x hx (fun hm => by
          rcases List.mem_cons.1 hm with h1 | h1
          · exact e h1
          · exact hx2 h1) qs hq p hp
  · have h1 := h.cost
    have h2 := hl.cost
    have h3 := lacks_lt hin hno
    simp only [List.length_cons] at h2
    omega
theorem WMid.less {pv : Int → Option (List Int)} {ids : List Int} {id : Int} {ps : List Int} {j : Nat} {l lj : List Int} (h : WMid pv ids id ps j l lj) (hin : ps.getD j 0 ∈ ids) (hno : ps.getD j 0 ∉ lj) : lacks ids (ps.getD j 0 :: lj) < lacks ids l := Nat.lt_of_lt_of_le (lacks_lt hin hno) (lacks_le h.old)
theorem WMid.end {pv : Int → Option (List Int)} {ids : List Int} {id : Int} {ps l lj : List Int} (h : WMid pv ids id ps ps.length l lj) (hpv : pv id = some ps) : WLeft pv ids id l lj :=
  ⟨h.old, h.dom, h.sound, fun qs hq p hp => by
    rw [hpv] at hq
    cases hq
    obtain ⟨i, hi, rfl⟩ := List.getElem_of_mem hp
    exact h.here i hi hi, h.clo, h.cost⟩
/-- An Id that is not there: nothing is next to it. -/
theorem WLeft.none {pv : Int → Option (List Int)} {ids : List Int} {id : Int} {l : List Int} (hd : ∀ x ∈ l, x ∈ ids) (h : pv id = none) : WLeft pv ids id l l :=
  ⟨fun _ h => h, hd, fun _ h => .inl h, fun ps hps => (by rw [h] at hps; cases hps), fun _ hx hn => absurd hx hn, Nat.le_refl _⟩
theorem WLeft.all {pv : Int → Option (List Int)} {ids : List Int} {id : Int} {l : List Int} (h : WLeft pv ids id [] l) (a : Int) : a ∈ l ↔ Way pv id a := by
  constructor
  · intro ha
    rcases h.sound a ha with h1 | h1
    · cases h1
    · exact h1
  · exact fun hw => hw.within (P := fun x => x ∈ l) (fun x hx => h.clo x hx (fun hn => by cases hn)) h.here
/-- What is marked, and what is still to do. -/
structure Todo (pv : Int → Option (List Int)) (ids : List Int) (a b : Int) (marks : List Bool) (todo : List Int) : Prop where
  len : marks.length = ids.length
  soundT : ∀ x ∈ todo, Way pv b x
  inT : ∀ x ∈ todo, x ∈ ids
  notA : ∀ i (h : i < ids.length), marks.getD i false = true → ids[i] ≠ a
  start : ∀ ps, pv b = some ps → ∀ p ∈ ps, p ∈ todo ∨ ∃ i, ∃ h : i < ids.length, marks.getD i false = true ∧ ids[i] = p
  clo : ∀ i (h : i < ids.length), marks.getD i false = true → ∀ ps, pv ids[i] = some ps → ∀ p ∈ ps, p ∈ todo ∨ ∃ i, ∃ h : i < ids.length, marks.getD i false = true ∧ ids[i] = p
def open' (marks : List Bool) : Nat := marks.countP fun m => !m
theorem Todo.begin {pv : Int → Option (List Int)} {ids : List Int} {a b : Int} {ps : List Int} (hpv : pv b = some ps) (hin : ∀ p ∈ ps, p ∈ ids) : Todo pv ids a b (List.replicate ids.length false) ps :=
  ⟨by simp, fun x hx => .one hpv hx, hin, fun i h hm => by simp [List.getD, h] at hm, fun qs hq p hp => by rw [hpv] at hq; cases hq; exact .inl hp, fun i h hm => by simp [List.getD, h] at hm⟩
theorem Todo.end {pv : Int → Option (List Int)} {ids : List Int} {a b : Int} {marks : List Bool} (h : Todo pv ids a b marks []) : ¬ Way pv b a := fun hw => by
  have := hw.within (P := fun x => ∃ i, ∃ h : i < ids.length, marks.getD i false = true ∧ ids[i] = x) (fun x hx ps hps p hp => by
    obtain ⟨i, hi, hm, rfl⟩ := hx
    rcases h.clo i hi hm ps hps p hp with h1 | h1
    · cases h1
    · exact h1) (fun ps hps p hp => by
    rcases h.start ps hps p hp with h1 | h1
    · cases h1
    · exact h1)
  obtain ⟨i, hi, hm, he⟩ := this
  exact h.notA i hi hm he
theorem Todo.hit {pv : Int → Option (List Int)} {ids : List Int} {a b : Int} {marks : List Bool} {r : List Int} (h : Todo pv ids a b marks (a :: r)) : Way pv b a := h.soundT a List.mem_cons_self
theorem Todo.skip {pv : Int → Option (List Int)} {ids : List Int} {a b x : Int} {marks : List Bool} {r : List Int} (h : Todo pv ids a b marks (x :: r)) {k : Nat} (hk : k < ids.length) (hx : ids[k] = x) (hm : marks.getD k false = true) : Todo pv ids a b marks r := by
  have key : ∀ p, (p ∈ x :: r ∨ ∃ i, ∃ h : i < ids.length, marks.getD i false = true ∧ ids[i] = p) → p ∈ r ∨ ∃ i, ∃ h : i < ids.length, marks.getD i false = true ∧ ids[i] = p := fun p hp => by
    rcases hp with h1 | h1
    · rcases List.mem_cons.1 h1 with rfl | h1
      · exact .inr ⟨k, hk, hm, hx⟩
      · exact .inl h1
    · exact .inr h1
  exact ⟨h.len, fun y hy => h.soundT y (List.mem_cons_of_mem _ hy), fun y hy => h.inT y (List.mem_cons_of_mem _ hy), h.notA, fun ps hps p hp => key p (h.start ps hps p hp), fun i hi hmi ps hps p hp => key p (h.clo i hi hmi ps hps p hp)⟩
theorem getD_set_of {marks : List Bool} {k i : Nat} (h : marks.getD i false = true) : (marks.set k true).getD i false = true := by
  by_cases e : k = i
  · subst e
    by_cases hl : k < marks.length
    · simp [hl]
    · rw [List.set_eq_of_length_le (by omega)]; exact h
  · simpa [List.getD, List.getElem?_set_ne e] using h
theorem Todo.next {pv : Int → Option (List Int)} {ids : List Int} {a b x : Int} {marks : List Bool} {r ps : List Int} (h : Todo pv ids a b marks (x :: r)) {k : Nat} (hk : k < ids.length) (hx : ids[k] = x) (hxa : x ≠ a) (hpv : pv x = some ps) (hin : ∀ p ∈ ps, p ∈ ids) : Todo pv ids a b (marks.set k true) (r ++ ps) := by
  have hset : (marks.set k true).getD k false = true := by simp [h.len, hk]
  have key : ∀ p, (p ∈ x :: r ∨ ∃ i, ∃ h : i < ids.length, marks.getD i false = true ∧ ids[i] = p) → p ∈ r ++ ps ∨ ∃ i, ∃ h : i < ids.length, (marks.set k true).getD i false = true ∧ ids[i] = p := fun p hp => by
    rcases hp with h1 | ⟨i, hi, hm, he⟩
    · rcases List.mem_cons.1 h1 with rfl | h1
      · exact .inr ⟨k, hk, hset, hx⟩
      · exact .inl (List.mem_append_left _ h1)
    · exact .inr ⟨i, hi, getD_set_of hm, he⟩
  have old : ∀ i (h : i < ids.length), (marks.set k true).getD i false = true → i = k ∨ marks.getD i false = true := fun i hi hm => by
    by_cases e : k = i
    · exact .inl e.symm
    · right
      simpa [List.getD, List.getElem?_set_ne e] using hm
  refine ⟨by simpa using h.len, fun y hy => ?_, fun y hy => ?_, fun i hi hm => ?_, fun qs hq p hp => key p (h.start qs hq p hp), fun i hi hm qs hq p hp => ?_⟩
  · rcases List.mem_append.1 hy with h1 | h1
    · exact h.soundT y (List.mem_cons_of_mem _ h1)
    · exact (h.soundT x List.mem_cons_self).on hpv h1
  · rcases List.mem_append.1 hy with h1 | h1
    · exact h.inT y (List.mem_cons_of_mem _ h1)
    · exact hin y h1
  · rcases old i hi hm with rfl | h1
    · rw [hx]; exact hxa
    · exact h.notA i hi h1
  · rcases old i hi hm with rfl | h1
    · rw [hx, hpv] at hq
      cases hq
      exact .inl (List.mem_append_right _ hp)
    · exact key p (h.clo i hi h1 qs hq p hp)
theorem open_set {marks : List Bool} {k : Nat} (hk : k < marks.length) (hm : marks.getD k false = false) : open' (marks.set k true) + 1 = open' marks := by
  unfold open'
  have hk2 : marks[k] = false := by simpa [List.getD, hk] using hm
  rw [List.countP_set hk]
  have : 0 < marks.countP fun m => !m := List.countP_pos_iff.2 ⟨marks[k], List.getElem_mem hk, by simp [hk2]⟩
  simp [hk2]
  omega
end Go.Proofs.Ytegjdngkbofogaa
