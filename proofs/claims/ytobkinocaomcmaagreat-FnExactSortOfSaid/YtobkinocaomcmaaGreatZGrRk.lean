/- Depths reckoned by a function that calls itself, as plain functions: a table by puts, and what a call leaves in it. -/
import Derived.Test.YtobkinocaomcmaaGreatZGrDepth
namespace Go.Proofs.YtobkinocaomcmaaGreat

/-- A table by its puts, the newest first. -/
def look : List (Int × Int) → Int → Option Int
  | [], _ => none
  | (k, v) :: l, id => if k = id then some v else look l id
theorem look_same (k v : Int) (l : List (Int × Int)) : look ((k, v) :: l) k = some v := by simp [look]
theorem look_ne {k id : Int} (h : k ≠ id) (v : Int) (l : List (Int × Int)) : look ((k, v) :: l) id = look l id := by simp [look, h]
def missing (ids : List Int) (l : List (Int × Int)) : Nat := ids.countP fun id => (look l id).isNone
/-- Of what is in the table each is 0, or its depth. -/
structure Tab (pv : Int → Option (List Int)) (ids : List Int) (l : List (Int × Int)) : Prop where
  dom : ∀ id v, look l id = some v → id ∈ ids
  val : ∀ id v, look l id = some v → v = 0 ∨ v = (dep pv ids.length id : Int)
def AllPos (pv : Int → Option (List Int)) (ids : List Int) : Prop := ∀ id ∈ ids, 0 < dep pv ids.length id
/-- What a call at an Id leaves. -/
structure Left (pv : Int → Option (List Int)) (ids : List Int) (id : Int) (l l' : List (Int × Int)) (r : Int) : Prop where
  tab : Tab pv ids l'
  old : ∀ x v, look l x = some v → look l' x = some v
  here : look l' id = some r
  cost : l'.length + 2 * missing ids l' ≤ l.length + 2 * missing ids l
  good : AllPos pv ids → (∀ x, look l x = some 0 → dep pv ids.length id < dep pv ids.length x) → r = (dep pv ids.length id : Int) ∧ ∀ x, look l' x = some 0 → look l x = some 0
/-- What is there in mid-call, when j of the numbers have been looked at. -/
structure Mid (pv : Int → Option (List Int)) (ids : List Int) (id : Int) (ps : List Int) (j : Nat) (l lj : List (Int × Int)) (m : Int) : Prop where
  tab : Tab pv ids lj
  old : ∀ x v, look ((id, 0) :: l) x = some v → look lj x = some v
  cost : lj.length + 2 * missing ids lj + 1 ≤ l.length + 2 * missing ids l
  pos : ∀ i (h : i < ps.length), i < j → 0 < dep pv ids.length ps[i]
  deep : m = (((ps.take j).map (dep pv ids.length)).foldl max 0 : Nat)
  good : AllPos pv ids → (∀ x, look l x = some 0 → dep pv ids.length id < dep pv ids.length x) → ∀ x, look lj x = some 0 → look ((id, 0) :: l) x = some 0
theorem missing_le {ids : List Int} {l l' : List (Int × Int)} (h : ∀ x v, look l x = some v → look l' x = some v) : missing ids l' ≤ missing ids l := by
  refine countP_le fun x _ hx => ?_
  cases c : look l x with
  | none => rfl
  | some v =>
    rw [h x v c] at hx
    cases hx
theorem missing_lt {ids : List Int} {l l' : List (Int × Int)} (h : ∀ x v, look l x = some v → look l' x = some v) {id v : Int} (hin : id ∈ ids) (h0 : look l id = none) (h1 : look l' id = some v) : missing ids l' < missing ids l := by
  refine countP_lt (fun x _ hx => ?_) ⟨id, hin, by rw [h0]; rfl, by rw [h1]; rfl⟩
  cases c : look l x with
  | none => rfl
  | some v =>
    rw [h x v c] at hx
    cases hx
theorem missing_none (ids : List Int) : missing ids [] = ids.length := by
  unfold missing
  rw [List.countP_eq_length]
  intro x _
  rfl
/-- The Id is there already. -/
theorem Left.known {pv : Int → Option (List Int)} {ids : List Int} {id r : Int} {l : List (Int × Int)} (ht : Tab pv ids l) (h : look l id = some r) : Left pv ids id l l r :=
  ⟨ht, fun _ _ h => h, h, Nat.le_refl _, fun _ hz => ⟨by
    rcases ht.val id r h with h0 | h0
    · subst h0
      exact absurd (hz id h) (Nat.lt_irrefl _)
    · exact h0, fun _ h => h⟩⟩
theorem Mid.start {pv : Int → Option (List Int)} {ids : List Int} {id : Int} {ps : List Int} {l : List (Int × Int)} (ht : Tab pv ids l) (hin : id ∈ ids) (h0 : look l id = none) : Mid pv ids id ps 0 l ((id, 0) :: l) 0 := by
  have hold : ∀ x v, look l x = some v → look ((id, 0) :: l) x = some v := fun x v h => by
    by_cases e : id = x
    · subst e
      rw [h0] at h
      cases h
    · rw [look_ne e]; exact h
  refine ⟨⟨fun x v h => ?_, fun x v h => ?_⟩, fun _ _ h => h, ?_, fun _ _ h => absurd h (Nat.not_lt_zero _), by simp, fun _ _ _ h => h⟩
  · by_cases e : id = x
    · subst e; exact hin
    · rw [look_ne e] at h; exact ht.dom x v h
  · by_cases e : id = x
    · subst e
      rw [look_same] at h
      left
      cases h
      rfl
    · rw [look_ne e] at h; exact ht.val x v h
  · have := missing_lt hold hin h0 (look_same id 0 l)
    simp only [List.length_cons]
    omega
theorem le_foldl_max : ∀ (l : List Nat) (a : Nat), a ≤ l.foldl max a ∧ ∀ x ∈ l, x ≤ l.foldl max a
  | [], a => ⟨Nat.le_refl _, fun _ h => by cases h⟩
  | y :: l, a => by
    obtain ⟨h1, h2⟩ := le_foldl_max l (max a y)
    rw [List.foldl_cons]
    refine ⟨by omega, fun x hx => ?_⟩
    rcases List.mem_cons.1 hx with rfl | hx
    · omega
    · exact h2 x hx
/-- A depth that is not 0 is one more than the greatest. -/
theorem dep_rec {pv : Int → Option (List Int)} {ids : List Int} (hd : ∀ id ps, pv id = some ps → id ∈ ids) {id : Int} {ps : List Int} (hpv : pv id = some ps) :
    dep pv ids.length id = if ps.all (fun p => decide (0 < dep pv ids.length p)) = true then (ps.map (dep pv ids.length)).foldl max 0 + 1 else 0 := by
  conv => lhs; rw [← dep_stable hd]
  show step pv (dep pv ids.length) id = _
  unfold step
  rw [hpv]
theorem dep_less {pv : Int → Option (List Int)} {ids : List Int} (hd : ∀ id ps, pv id = some ps → id ∈ ids) {id : Int} {ps : List Int} (hpv : pv id = some ps) (h0 : 0 < dep pv ids.length id) {p : Int} (hp : p ∈ ps) : dep pv ids.length p < dep pv ids.length id := by
  have h := dep_rec hd hpv
  by_cases c : ps.all (fun p => decide (0 < dep pv ids.length p)) = true
  · rw [if_pos c] at h
    have := (le_foldl_max (ps.map (dep pv ids.length)) 0).2 _ (List.mem_map.2 ⟨p, hp, rfl⟩)
    omega
  · rw [if_neg c] at h
    omega
/-- In mid-call what is 0 in the table is of greater depth than what is looked at. -/
theorem Mid.zeros {pv : Int → Option (List Int)} {ids : List Int} {id : Int} {ps : List Int} {j : Nat} {l lj : List (Int × Int)} {m : Int} (h : Mid pv ids id ps j l lj m) (hd : ∀ id ps, pv id = some ps → id ∈ ids) (hpv : pv id = some ps) (ha : AllPos pv ids) (hz : ∀ x, look l x = some 0 → dep pv ids.length id < dep pv ids.length x) {p : Int} (hp : p ∈ ps) : ∀ x, look lj x = some 0 → dep pv ids.length p < dep pv ids.length x := by
  intro x hx
  have hl := dep_less hd hpv (ha id (hd id ps hpv)) hp
  have h1 := h.good ha hz x hx
  by_cases e : id = x
  · subst e; exact hl
  · rw [look_ne e] at h1
    have := hz x h1
    omega
theorem Mid.stop {pv : Int → Option (List Int)} {ids : List Int} {id : Int} {ps : List Int} {j : Nat} {l lj l' : List (Int × Int)} {m : Int} (h : Mid pv ids id ps j l lj m) (hd : ∀ id ps, pv id = some ps → id ∈ ids) (hpv : pv id = some ps) (hin : ∀ p ∈ ps, p ∈ ids) (h0 : look l id = none) (hj : j < ps.length) (hl : Left pv ids ps[j] lj l' 0) : Left pv ids id l l' 0 := by
  refine ⟨hl.tab, fun x v hx => hl.old x v (h.old x v ?_), hl.old _ _ (h.old _ _ (look_same id 0 l)), ?_, fun ha hz => ?_⟩
  · rw [look_ne (fun e => by subst e; rw [h0] at hx; cases hx)]
    exact hx
  · have h1 := h.cost
    have h2 := hl.cost
    omega
  · have hp := List.getElem_mem hj
    have h1 := (hl.good ha (h.zeros hd hpv ha hz hp)).1
    have h2 := ha _ (hin _ hp)
    omega
theorem Mid.next {pv : Int → Option (List Int)} {ids : List Int} {id : Int} {ps : List Int} {j : Nat} {l lj l' : List (Int × Int)} {m r : Int} (h : Mid pv ids id ps j l lj m) (hd : ∀ id ps, pv id = some ps → id ∈ ids) (hpv : pv id = some ps) (hj : j < ps.length) (hl : Left pv ids ps[j] lj l' r) (hr : r ≠ 0) : Mid pv ids id ps (j + 1) l l' (max m r) := by
  have hv : r = (dep pv ids.length ps[j] : Int) := by
    rcases hl.tab.val _ _ hl.here with h0 | h0
    · exact absurd h0 hr
    · exact h0
  refine ⟨hl.tab, fun x v hx => hl.old x v (h.old x v hx), ?_, fun i hi hij => ?_, ?_, fun ha hz x hx => ?_⟩
  · have h1 := h.cost
    have h2 := hl.cost
    omega
  · by_cases e : i = j
    · subst e
      omega
    · exact h.pos i hi (by omega)
  · rw [List.take_succ_eq_append_getElem hj, List.map_append, List.foldl_append, h.deep, hv]
    simp only [List.map_cons, List.map_nil, List.foldl_cons, List.foldl_nil]
    omega
  · exact h.good ha hz x ((hl.good ha (h.zeros hd hpv ha hz (List.getElem_mem hj))).2 x hx)
theorem Mid.end {pv : Int → Option (List Int)} {ids : List Int} {id : Int} {ps : List Int} {l lj : List (Int × Int)} {m : Int} (h : Mid pv ids id ps ps.length l lj m) (hd : ∀ id ps, pv id = some ps → id ∈ ids) (hpv : pv id = some ps) (h0 : look l id = none) : Left pv ids id l ((id, m + 1) :: lj) (m + 1) := by
  have hD : m + 1 = (dep pv ids.length id : Int) := by
    rw [dep_rec hd hpv, if_pos (List.all_eq_true.2 fun p hp => by
      obtain ⟨i, hi, rfl⟩ := List.getElem_of_mem hp
      simpa using h.pos i hi hi), h.deep, List.take_length]
    rfl
  have hid := h.old _ _ (look_same id 0 l)
  refine ⟨⟨fun x v hx => ?_, fun x v hx => ?_⟩, fun x v hx => ?_, look_same _ _ _, ?_, fun ha hz => ⟨hD, fun x hx => ?_⟩⟩
  · by_cases e : id = x
    · subst e; exact hd _ _ hpv
    · rw [look_ne e] at hx; exact h.tab.dom x v hx
  · by_cases e : id = x
    · subst e
      rw [look_same] at hx
      cases hx
      exact .inr hD
    · rw [look_ne e] at hx; exact h.tab.val x v hx
  · have e : id ≠ x := fun e => by subst e; rw [h0] at hx; cases hx
    rw [look_ne e]
    exact h.old x v (by rw [look_ne e]; exact hx)
  · have h1 := h.cost
    have h2 : missing ids ((id, m + 1) :: lj) ≤ missing ids lj := by
      refine countP_le fun x _ hx => ?_
      by_cases e : id = x
      · subst e
        rw [look_same] at hx
        cases hx
      · rw [look_ne e] at hx; exact hx
    simp only [List.length_cons]
    omega
  · by_cases e : id = x
    · subst e
      rw [look_same] at hx
      have : m + 1 = 0 := by simpa using hx
      have h3 : (0 : Int) ≤ m := by rw [h.deep]; omega
      omega
    · rw [look_ne e] at hx
      have h4 := h.good ha hz x hx
      rwa [look_ne e] at h4
theorem Mid.less {pv : Int → Option (List Int)} {ids : List Int} {id : Int} {ps : List Int} {j : Nat} {l lj : List (Int × Int)} {m : Int} (h : Mid pv ids id ps j l lj m) (hin : id ∈ ids) (h0 : look l id = none) : missing ids lj < missing ids l := by
  refine missing_lt (fun x v hx => h.old x v ?_) hin h0 (h.old _ _ (look_same id 0 l))
  rw [look_ne (fun e => by subst e; rw [h0] at hx; cases hx)]
  exact hx
theorem missing_pos {ids : List Int} {l : List (Int × Int)} {id : Int} (hin : id ∈ ids) (h0 : look l id = none) : 0 < missing ids l := by
  unfold missing
  rw [List.countP_pos_iff]
  exact ⟨id, hin, by rw [h0]; rfl⟩
/-- The table when all Ids have been looked at. -/
structure Done (pv : Int → Option (List Int)) (ids : List Int) (l : List (Int × Int)) : Prop where
  tab : Tab pv ids l
  all : ∀ id ∈ ids, ∃ v, look l id = some v
  good : AllPos pv ids → ∀ x, look l x ≠ some 0
theorem Done.loops {pv : Int → Option (List Int)} {ids : List Int} {l : List (Int × Int)} (h : Done pv ids l) : (∃ x, look l x = some 0) ↔ ¬ AllPos pv ids := by
  constructor
  · rintro ⟨x, hx⟩ ha
    exact h.good ha x hx
  · intro hn
    obtain ⟨id, hid⟩ := Classical.not_forall.1 hn
    obtain ⟨hin, h0⟩ := Classical.not_imp.1 hid
    obtain ⟨v, hv⟩ := h.all id hin
    refine ⟨id, ?_⟩
    rw [hv]
    rcases h.tab.val _ _ hv with h1 | h1
    · rw [h1]
    · have h2 : dep pv ids.length id = 0 := by omega
      rw [h1, h2]
      rfl
theorem Done.depth {pv : Int → Option (List Int)} {ids : List Int} {l : List (Int × Int)} (h : Done pv ids l) (ha : AllPos pv ids) {id : Int} (hin : id ∈ ids) : look l id = some (dep pv ids.length id : Int) := by
  obtain ⟨v, hv⟩ := h.all id hin
  rw [hv]
  rcases h.tab.val _ _ hv with h1 | h1
  · subst h1
    exact absurd hv (h.good ha id)
  · rw [h1]
end Go.Proofs.YtobkinocaomcmaaGreat
