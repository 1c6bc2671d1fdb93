/- Depths as plain functions: by rounds, and that a table filled by rounds in place comes to them. A row of events in memory; where an event of an Id stands in a row. -/
import Derived.Test.YtdldblfopcbfeaaGreatDoorZEvOpen
namespace Go.Proofs.YtdldblfopcbfeaaGreatDoor

/-- The place of an Id in a row, or -1. -/
def atI (ids : List Int) (id : Int) : Int := match ids.idxOf? id with
  | some k => k
  | none => -1
theorem atI_found {ids : List Int} {id : Int} {k : Nat} (hk : k < ids.length) (h : ids[k] = id) (hno : ∀ j (h : j < ids.length), j < k → ids[j] ≠ id) : atI ids id = k := by
  have : ids.idxOf? id = some k := by
    rw [List.idxOf?, List.findIdx?_eq_some_iff_getElem]
    exact ⟨hk, by simp [h], fun j hj => by simpa using hno j (by omega) hj⟩
  simp [atI, this]
theorem atI_none {ids : List Int} {id : Int} (hno : ∀ j (h : j < ids.length), ids[j] ≠ id) : atI ids id = -1 := by
  have : ids.idxOf? id = none := by
    rw [List.idxOf?, List.findIdx?_eq_none_iff]
    intro x hx
    obtain ⟨j, hj, rfl⟩ := List.getElem_of_mem hx
    simpa using hno j hj
  simp [atI, this]
theorem atI_cases (ids : List Int) (id : Int) : (∃ k, ∃ h : k < ids.length, atI ids id = (k : Int) ∧ ids[k] = id) ∨ (atI ids id = -1 ∧ id ∉ ids) := by
  cases c : ids.idxOf? id with
  | none =>
    right
    refine ⟨by simp [atI, c], fun hm => ?_⟩
    rw [List.idxOf?, List.findIdx?_eq_none_iff] at c
    simpa using c id hm
  | some k =>
    left
    rw [List.idxOf?, List.findIdx?_eq_some_iff_getElem] at c
    obtain ⟨h, h1, _⟩ := c
    have h2 : ids.idxOf? id = some k := by
      rw [List.idxOf?, List.findIdx?_eq_some_iff_getElem]
      exact ⟨h, h1, by assumption⟩
    exact ⟨k, h, by simp [atI, h2], by simpa using h1⟩
theorem atI_mem {ids : List Int} {id : Int} : 0 ≤ atI ids id ↔ id ∈ ids := by
  rcases atI_cases ids id with ⟨k, h, h1, h2⟩ | ⟨h1, h2⟩
  · rw [h1]
    exact ⟨fun _ => h2 ▸ List.getElem_mem h, fun _ => by omega⟩
  · rw [h1]
    exact ⟨fun h => by omega, fun h => absurd h h2⟩
/-- One round: what stands behind numbers that are all known is one more than the greatest. -/
def step (pv : Int → Option (List Int)) (f : Int → Nat) (id : Int) : Nat := match pv id with
  | none => 0
  | some ps => if ps.all (fun p => decide (0 < f p)) = true then (ps.map f).foldl max 0 + 1 else 0
def dep (pv : Int → Option (List Int)) : Nat → Int → Nat
  | 0, _ => 0
  | k + 1, id => step pv (dep pv k) id
theorem step_congr {pv : Int → Option (List Int)} {f g : Int → Nat} {id : Int} (h : ∀ ps, pv id = some ps → ∀ p ∈ ps, f p = g p) : step pv f id = step pv g id := by
  unfold step
  cases c : pv id with
  | none => rfl
  | some ps =>
    have hp := h ps c
    have e1 : ps.all (fun p => decide (0 < f p)) = ps.all (fun p => decide (0 < g p)) := by
      rw [Bool.eq_iff_iff, List.all_eq_true, List.all_eq_true]
      constructor <;> intro hh p hm
      · rw [← hp p hm]; exact hh p hm
      · rw [hp p hm]; exact hh p hm
    have e2 : ps.map f = ps.map g := List.map_congr_left hp
    simp only [e1, e2]
theorem step_pos {pv : Int → Option (List Int)} {f : Int → Nat} {id : Int} (h : 0 < step pv f id) : ∃ ps, pv id = some ps ∧ ∀ p ∈ ps, 0 < f p := by
  unfold step at h
  cases c : pv id with
  | none => rw [c] at h; exact absurd h (Nat.lt_irrefl 0)
  | some ps =>
    rw [c] at h
    by_cases ha : ps.all (fun p => decide (0 < f p)) = true
    · exact ⟨ps, rfl, fun p hp => by simpa using List.all_eq_true.1 ha p hp⟩
    · simp only [if_neg ha] at h
      exact absurd h (Nat.lt_irrefl 0)
theorem dep_mono {pv : Int → Option (List Int)} : ∀ (k : Nat) (id : Int), 0 < dep pv k id → dep pv (k + 1) id = dep pv k id
  | 0, id, h => absurd h (Nat.lt_irrefl 0)
  | k + 1, id, h => by
    show step pv (dep pv (k + 1)) id = step pv (dep pv k) id
    obtain ⟨ps, h1, h2⟩ := step_pos h
    refine step_congr fun qs hq p hp => ?_
    rw [h1] at hq
    cases hq
    exact dep_mono k p (h2 p hp)
theorem stable_on {pv : Int → Option (List Int)} {k : Nat} (h : ∀ id, dep pv (k + 1) id = dep pv k id) : ∀ m id, dep pv (k + m) id = dep pv k id
  | 0, _ => rfl
  | m + 1, id => by
    show step pv (dep pv (k + m)) id = dep pv k id
    rw [← h id]
    exact step_congr fun _ _ p _ => stable_on h m p
theorem countP_le {α : Type} {p q : α → Bool} : ∀ {l : List α}, (∀ x ∈ l, p x = true → q x = true) → l.countP p ≤ l.countP q
  | [], _ => Nat.le_refl _
  | x :: l, h => by
    have ih := countP_le (l := l) fun y hy => h y (List.mem_cons_of_mem _ hy)
    have hx := h x List.mem_cons_self
    rw [List.countP_cons, List.countP_cons]
    cases hp : p x
    · simp; omega
    · simp [hx hp]; omega
theorem countP_lt {α : Type} {p q : α → Bool} : ∀ {l : List α}, (∀ x ∈ l, p x = true → q x = true) → (∃ x ∈ l, q x = true ∧ p x = false) → l.countP p < l.countP q
  | [], _, h => by obtain ⟨x, hx, _⟩ := h; cases hx
  | x :: l, h, he => by
    have hx := h x List.mem_cons_self
    have hl := fun y hy => h y (List.mem_cons_of_mem _ hy)
    rw [List.countP_cons, List.countP_cons]
    obtain ⟨y, hy, h1, h2⟩ := he
    rcases List.mem_cons.1 hy with rfl | hy
    · have := countP_le hl
      simp [h1, h2]; omega
    · have := countP_lt hl ⟨y, hy, h1, h2⟩
      cases hp : p x
      · simp; omega
      · simp [hx hp]; omega
/-- After as many rounds as there are Ids nothing turns any more. -/
theorem dep_stable {pv : Int → Option (List Int)} {ids : List Int} (hd : ∀ id ps, pv id = some ps → id ∈ ids) (id : Int) : dep pv (ids.length + 1) id = dep pv ids.length id := by
  have key : ∀ k, (∃ j, j ≤ k ∧ ∀ id, dep pv (j + 1) id = dep pv j id) ∨ k + 1 ≤ ids.countP (fun x => decide (0 < dep pv (k + 1) x)) := by
    intro k
    induction k with
    | zero =>
      by_cases h : ∀ id, dep pv 1 id = dep pv 0 id
      · exact .inl ⟨0, Nat.le_refl _, h⟩
      · right
        obtain ⟨x, hx⟩ := Classical.not_forall.1 h
        have hpos : 0 < dep pv 1 x := by
          have : dep pv 0 x = 0 := rfl
          omega
        obtain ⟨ps, h1, _⟩ := step_pos hpos
        exact List.countP_pos_iff.2 ⟨x, hd x ps h1, by simpa using hpos⟩
    | succ k ih =>
      rcases ih with ⟨j, hj, hs⟩ | ih
      · exact .inl ⟨j, by omega, hs⟩
      · by_cases h : ∀ id, dep pv (k + 1 + 1) id = dep pv (k + 1) id
        · exact .inl ⟨k + 1, Nat.le_refl _, h⟩
        · right
          obtain ⟨x, hx⟩ := Classical.not_forall.1 h
          have h0 : dep pv (k + 1) x = 0 := by
            rcases Nat.eq_zero_or_pos (dep pv (k + 1) x) with h | h
            · exact h
            · exact absurd (dep_mono _ _ h) hx
          have hpos : 0 < dep pv (k + 1 + 1) x := by omega
          obtain ⟨ps, h1, _⟩ := step_pos hpos
          have := countP_lt (p := fun x => decide (0 < dep pv (k + 1) x)) (q := fun x => decide (0 < dep pv (k + 1 + 1) x)) (l := ids) (fun y _ hy => by
            have : 0 < dep pv (k + 1) y := by simpa using hy
            rw [← dep_mono _ _ this] at this
            simpa using this) ⟨x, hd x ps h1, by simpa using hpos, by simp [h0]⟩
          omega
  rcases key ids.length with ⟨j, hj, hs⟩ | h
  · have e1 := stable_on hs (ids.length - j) id
    have e2 := stable_on hs (ids.length - j + 1) id
    rw [show j + (ids.length - j) = ids.length by omega] at e1
    rw [show j + (ids.length - j + 1) = ids.length + 1 by omega] at e2
    rw [e1, e2]
  · have := List.countP_le_length (p := fun x => decide (0 < dep pv (ids.length + 1) x)) (l := ids)
    omega
/-- What a table of depths, by place, holds of an Id. -/
def val (ids : List Int) (d : List Int) (p : Int) : Int := d.getD (atI ids p).toNat 0
/-- The table in round k + 1, the first i places of which have been looked at. -/
def Inv (pv : Int → Option (List Int)) (ids : List Int) (k i : Nat) (d : List Int) : Prop :=
  d.length = ids.length ∧ ∀ j (h : j < ids.length), (d.getD j 0 = 0 ∨ d.getD j 0 = (dep pv ids.length ids[j] : Int)) ∧ (0 < dep pv (if j < i then k + 1 else k) ids[j] → 0 < d.getD j 0)
theorem Inv.zero (pv : Int → Option (List Int)) (ids : List Int) : Inv pv ids 0 0 (List.replicate ids.length 0) := by
  refine ⟨by simp, fun j h => ⟨.inl (by simp [h]), fun h2 => ?_⟩⟩
  rw [if_neg (Nat.not_lt_zero _)] at h2
  exact absurd h2 (Nat.lt_irrefl 0)
theorem Inv.round {pv : Int → Option (List Int)} {ids : List Int} {k : Nat} {d : List Int} (h : Inv pv ids k ids.length d) : Inv pv ids (k + 1) 0 d := by
  refine ⟨h.1, fun j hj => ⟨(h.2 j hj).1, fun h2 => (h.2 j hj).2 ?_⟩⟩
  rw [if_pos hj]
  simpa using h2
theorem dep_le {pv : Int → Option (List Int)} {k : Nat} {id : Int} (h : 0 < dep pv k id) : 0 < dep pv (k + 1) id := by rw [dep_mono k id h]; exact h
theorem Inv.val_or {pv : Int → Option (List Int)} {ids : List Int} {k i : Nat} {d : List Int} (h : Inv pv ids k i d) {p : Int} (hp : p ∈ ids) : (val ids d p = 0 ∨ val ids d p = (dep pv ids.length p : Int)) ∧ (0 < dep pv k p → 0 < val ids d p) := by
  rcases atI_cases ids p with ⟨j, hj, h1, h2⟩ | ⟨_, h2⟩
  · have hh := h.2 j hj
    unfold val
    rw [h1, Int.toNat_natCast]
    rw [h2] at hh
    refine ⟨hh.1, fun h3 => hh.2 ?_⟩
    split
    · exact dep_le h3
    · exact h3
  · exact absurd hp h2
theorem Inv.skip {pv : Int → Option (List Int)} {ids : List Int} {k i : Nat} {d : List Int} (h : Inv pv ids k i d) (hi : 0 < d.getD i 0) : Inv pv ids k (i + 1) d := by
  refine ⟨h.1, fun j hj => ⟨(h.2 j hj).1, fun h2 => ?_⟩⟩
  by_cases e : j = i
  · rw [e]; exact hi
  · refine (h.2 j hj).2 ?_
    by_cases hl : j < i
    · rw [if_pos hl]; rwa [if_pos (by omega)] at h2
    · rw [if_neg hl]; rwa [if_neg (by omega)] at h2
theorem Inv.no {pv : Int → Option (List Int)} {ids : List Int} {k i : Nat} {d : List Int} (h : Inv pv ids k i d) (hi : i < ids.length) {ps : List Int} (hpv : pv ids[i] = some ps) (hin : ∀ p ∈ ps, p ∈ ids) (hno : ∃ p ∈ ps, ¬ 0 < val ids d p) : Inv pv ids k (i + 1) d := by
  refine ⟨h.1, fun j hj => ⟨(h.2 j hj).1, fun h2 => ?_⟩⟩
  by_cases e : j = i
  · subst e
    rw [if_pos (by omega)] at h2
    obtain ⟨qs, h3, h4⟩ := step_pos h2
    rw [hpv] at h3
    cases h3
    obtain ⟨p, hp, hnp⟩ := hno
    exact absurd ((h.val_or (hin p hp)).2 (h4 p hp)) hnp
  · refine (h.2 j hj).2 ?_
    by_cases hl : j < i
    · rw [if_pos hl]; rwa [if_pos (by omega)] at h2
    · rw [if_neg hl]; rwa [if_neg (by omega)] at h2
theorem max_cast : ∀ (l : List Int) (f : Int → Nat) (g : Int → Int) (m : Nat), (∀ p ∈ l, g p = (f p : Int)) → (l.map g).foldl max (m : Int) = (((l.map f).foldl max m : Nat) : Int)
  | [], _, _, _, _ => rfl
  | p :: l, f, g, m, h => by
    rw [List.map_cons, List.map_cons, List.foldl_cons, List.foldl_cons, h p List.mem_cons_self, show max (m : Int) (f p : Int) = ((max m (f p) : Nat) : Int) by omega]
    exact max_cast l f g _ fun q hq => h q (List.mem_cons_of_mem _ hq)
theorem Inv.set {pv : Int → Option (List Int)} {ids : List Int} (hd : ∀ id ps, pv id = some ps → id ∈ ids) {k i : Nat} {d : List Int} (h : Inv pv ids k i d) (hi : i < ids.length) {ps : List Int} (hpv : pv ids[i] = some ps) (hin : ∀ p ∈ ps, p ∈ ids) (hyes : ∀ p ∈ ps, 0 < val ids d p) :
    Inv pv ids k (i + 1) (d.set i ((ps.map (val ids d)).foldl max 0 + 1)) := by
  have hv : ∀ p ∈ ps, val ids d p = (dep pv ids.length p : Int) := fun p hp => by
    have h1 := hyes p hp
    rcases (h.val_or (hin p hp)).1 with h0 | h0
    · omega
    · exact h0
  have hN : dep pv ids.length ids[i] = (ps.map (dep pv ids.length)).foldl max 0 + 1 := by
    rw [← dep_stable hd]
    show step pv (dep pv ids.length) ids[i] = _
    unfold step
    rw [hpv]
    have ha : ps.all (fun p => decide (0 < dep pv ids.length p)) = true := List.all_eq_true.2 fun p hp => by
      have h1 := hyes p hp
      rw [hv p hp] at h1
      simpa using h1
    simp only [ha, if_true]
  have hm := max_cast ps (dep pv ids.length) (val ids d) 0 hv
  have hD : (dep pv ids.length ids[i] : Int) = (ps.map (val ids d)).foldl max 0 + 1 := by
    rw [hN]
    simp only [Int.natCast_zero] at hm
    rw [hm, Int.natCast_add]
    rfl
  refine ⟨by rw [List.length_set]; exact h.1, fun j hj => ?_⟩
  by_cases e : j = i
  · subst e
    have hg : (d.set j ((ps.map (val ids d)).foldl max 0 + 1)).getD j 0 = (ps.map (val ids d)).foldl max 0 + 1 := by
      have : j < d.length := by rw [h.1]; exact hj
      simp [this]
    rw [hg]
    have hnn : 0 < (ps.map (val ids d)).foldl max 0 + 1 := by rw [← hD, hN]; omega
    exact ⟨.inr hD.symm, fun _ => hnn⟩
  · have hg : (d.set i ((ps.map (val ids d)).foldl max 0 + 1)).getD j 0 = d.getD j 0 := by
      simp [List.getD, List.getElem?_set_ne (fun h => e h.symm)]
    rw [hg]
    refine ⟨(h.2 j hj).1, fun h2 => (h.2 j hj).2 ?_⟩
    by_cases hl : j < i
    · rw [if_pos hl]; rwa [if_pos (by omega)] at h2
    · rw [if_neg hl]; rwa [if_neg (by omega)] at h2
/-- After as many rounds as there are Ids the table holds the depths. -/
theorem Inv.end {pv : Int → Option (List Int)} {ids : List Int} {d : List Int} (h : Inv pv ids ids.length 0 d) {j : Nat} (hj : j < ids.length) : d.getD j 0 = (dep pv ids.length ids[j] : Int) := by
  obtain ⟨h1, h2⟩ := h.2 j hj
  rcases h1 with h1 | h1
  · rw [if_neg (Nat.not_lt_zero _)] at h2
    rcases Nat.eq_zero_or_pos (dep pv ids.length ids[j]) with h3 | h3
    · rw [h1, h3]; rfl
    · have := h2 h3
      omega
  · exact h1
end Go.Proofs.YtdldblfopcbfeaaGreatDoor
namespace Go.Proofs.YtdldblfopcbfeaaGreatDoor
open Go.RowKit

/-- An event of a row, with the place of its numbers. -/
structure Em where
  v : Ev
  p : Option Addr
  c : Nat
def emCells (m : Em) : List Value := [.int .i64 m.v.id, .int .i64 m.v.room, .int .i64 m.v.author, .int .i64 m.v.kind, .int .i64 m.v.key, .int .i64 m.v.n, .string m.v.text, .slice m.p m.v.prev.length m.c, .int .i64 m.v.time]
/-- A row of events in memory (an empty one lies anywhere). -/
structure EvsAt (w : World) (a : Option Addr) (es : List Em) : Prop where
  len : es.length ≤ 1048576
  row : 0 < es.length → ∃ b off, a = some ⟨b, off, none⟩ ∧ b < w.heap.size ∧ ∀ i (h : i < es.length) j, j < 9 → w.cell? ⟨b, off + (i * 9 + j), none⟩ = (emCells es[i])[j]?
  nums : ∀ m ∈ es, NumsAt w m.p m.v.prev
theorem EvsAt.kept {w w' : World} {a : Option Addr} {es : List Em} (h : EvsAt w a es) (hb : Below w.heap.size w w') : EvsAt w' a es := by
  refine ⟨h.len, fun hl => ?_, fun m hm => (h.nums m hm).kept hb⟩
  obtain ⟨b, off, ha, hbb, hc⟩ := h.row hl
  exact ⟨b, off, ha, Nat.lt_of_lt_of_le hbb hb.size, fun i hi j hj => (hb.cell (p := ⟨b, off + (i * 9 + j), none⟩) hbb).trans (hc i hi j hj)⟩
def idsOf (es : List Em) : List Int := es.map (·.v.id)
set_option maxHeartbeats 1000000 in
theorem at_spec (es : List Em) (id : Int) (a : Option Addr) (cap : Nat) (w : World) (h : EvsAt w a es) :
    Calls Tryz.prog 34 #[.slice a es.length cap, .int .i64 id] w fun e w' => e = .returned (.int .i64 (atI (idsOf es) id)) ∧ w = w' := by
  have hl := h.len
  have H : Hid (EvsAt w a es) := h
  clear h
  go_enter Tryz.func34, Tryz.ntmps34
  go_wp2
  go_loop [5] (fun i => ∃ k : Nat, k ≤ es.length ∧ i = .int .i64 k ∧ Hid (∀ j (h : j < (idsOf es).length), j < k → (idsOf es)[j] ≠ id)) (fun i => es.length - (intOf i).toNat)
  case atStart => exact ⟨0, Nat.zero_le _, rfl, fun _ _ h => absurd h (Nat.not_lt_zero _)⟩
  case round =>
    obtain ⟨k, hk, rfl, HN⟩ := hrel
    by_cases hlt : k < es.length
    · obtain ⟨b, off, rfl, hbb, hcell⟩ := H.out.row (by omega)
      have hc0 : w.cell? ⟨b, off + k * 9, none⟩ = some (.int .i64 es[k].v.id) := hcell k hlt 0 (by omega)
      clear hcell
      cases c : es[k].v.id == id
      · have HS : Hid (∀ j (h : j < (idsOf es).length), j < k + 1 → (idsOf es)[j] ≠ id) := fun j h hj => by
          by_cases e : j = k
          · subst e
            simpa [idsOf] using c
          · exact HN.out j h (by omega)
        go_wp2
        exact ⟨⟨k + 1, by omega, by go_num, HS⟩, by simp [intOf]; omega⟩
      · have HS : Hid (atI (idsOf es) id = k) := atI_found (by simpa [idsOf] using hlt) (by simpa [idsOf] using c) HN.out
        go_wp2
        go_ret
        exact ⟨ret_int HS.out.symm, rfl⟩
    · have HS : Hid (atI (idsOf es) id = -1) := atI_none fun j h => HN.out j h (by have : (idsOf es).length = es.length := by simp [idsOf]
                                                                                   omega)
      go_wp2
      go_ret
      exact ⟨ret_int HS.out.symm, rfl⟩

/-- Are all these Ids in a row? -/
def allIn (ids : List Int) (ps : List Int) : Bool := ps.all fun p => decide (0 ≤ atI ids p)
theorem allIn_no {ids ps : List Int} {k : Nat} (hk : k < ps.length) (h : atI ids ps[k] < 0) : allIn ids ps = false := by
  rw [allIn, List.all_eq_false]
  exact ⟨ps[k], List.getElem_mem hk, by simp; omega⟩
theorem allIn_yes {ids ps : List Int} (h : ∀ j (h : j < ps.length), 0 ≤ atI ids ps[j]) : allIn ids ps = true := by
  rw [allIn, List.all_eq_true]
  intro p hp
  obtain ⟨j, hj, rfl⟩ := List.getElem_of_mem hp
  have := h j hj
  simp; omega
set_option maxHeartbeats 1000000 in
set_option maxRecDepth 100000 in
theorem all_spec (es : List Em) (m : Em) (a : Option Addr) (cap : Nat) (w : World) (h : EvsAt w a es) (hm : NumsAt w m.p m.v.prev) :
    Calls Tryz.prog 33 #[.slice a es.length cap, .agg (emCells m).toArray] w fun e w' => e = .returned (.bool (allIn (idsOf es) m.v.prev)) ∧ Below w.heap.size w w' := by
  have hl := h.len
  have hlp := hm.1
  unfold emCells
  have H : Hid (∀ o, EvsAt (w.alloc o) a es) := fun o => h.kept ((Below.refl _ _).alloc (Nat.le_refl _) _)
  have HM : Hid (NumsAt w m.p m.v.prev) := hm
  have HB : Hid (∀ o, Below w.heap.size w (w.alloc o)) := fun o => (Below.refl _ _).alloc (Nat.le_refl _) _
  clear h hm
  go_enter Tryz.func33, Tryz.ntmps33
  go_wp2
  go_loopw [5] (fun i wr => ∃ k : Nat, k ≤ m.v.prev.length ∧ i = .int .i64 k ∧ Hid (∀ j (h : j < m.v.prev.length), j < k → 0 ≤ atI (idsOf es) m.v.prev[j]) ∧ wr = w.alloc (.cells (emCells m).toArray 39)) (fun i _ => m.v.prev.length - (intOf i).toNat)
  case atStart => exact ⟨0, Nat.zero_le _, rfl, fun _ _ h => absurd h (Nat.not_lt_zero _), rfl⟩
  case round =>
    obtain ⟨k, hk, rfl, HN, rfl⟩ := hrel
    unfold emCells
    by_cases hlt : k < m.v.prev.length
    · obtain ⟨b, off, hp, hbb, hcell⟩ := HM.out.2 (by omega)
      have hck := hcell k hlt
      rw [hp]
      clear hcell hp
      go_wp2_with fail
      refine (at_spec es m.v.prev[k] a cap _ (H.out _)).mono ?_
      rintro e w1 ⟨rfl, rfl⟩
      cases c : decide (atI (idsOf es) m.v.prev[k] < 0)
      · have HS : Hid (∀ j (h : j < m.v.prev.length), j < k + 1 → 0 ≤ atI (idsOf es) m.v.prev[j]) := fun j h hj => by
          by_cases e : j = k
          · subst e
            simpa using c
          · exact HN.out j h (by omega)
        go_wp2
        go_roundw
        case rel => exact ⟨k + 1, by omega, by go_num, HS, trivial⟩
        case measure => simp [intOf]; omega
      · have HS : Hid (allIn (idsOf es) m.v.prev = false) := allIn_no hlt (by simpa using c)
        go_wp2
        go_ret
        exact ⟨ret_bool HS.out.symm, HB.out _⟩
    · have HS : Hid (allIn (idsOf es) m.v.prev = true) := allIn_yes fun j h => HN.out j h (by omega)
      go_wp2
      go_ret
      exact ⟨ret_bool HS.out.symm, HB.out _⟩
end Go.Proofs.YtdldblfopcbfeaaGreatDoor
