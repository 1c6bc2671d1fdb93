/- Depths reckoned by a function that calls itself, as plain functions: a table by puts, and what a call leaves in it. A table of numbers by Ids, in a map: looks into it, and one step of a range over it. The program's function that reckons a depth, and calls itself. -/
import Derived.Test.YtdldblfopcbfeaaGreatDoorZGrDepth
import Derived.Test.YtdldblfopcbfeaaGreatDoorZGrRange
import Derived.Test.YtdldblfopcbfeaaGreatDoorZGrPlaced
namespace Go.Proofs.YtdldblfopcbfeaaGreatDoor

/-- A table by its puts, the newest first. -/
def look : List (Int × Int) → Int → Option Int
  | [], _ => none
  | (k, v) :: l, id => if k = id then some v else look l id
theorem look_same (k v : Int) (l : List (Int × Int)) : look ((k, v) :: l) k = some v := by simp [look]
theorem look_ne {k id : Int} (h : k ≠ id) (v : Int) (l : List (Int × Int)) : look ((k, v) :: l) id = look l id := by simp [look, h]
def missing (ids : List Int) (l : List (Int × Int)) : Nat := ids.countP fun id => (look l id).isNone
/-- Of what is in the table each is 0, or its depth. -/
structure Tab (pv : Int → Option (List Int)) (ids : List Int) (l : List (Int × Int)) : Prop where
  dom : ∀ id v, look l id = some v → id ∈ ids
  val : ∀ id v, look l id = some v → v = 0 ∨ v = (dep pv ids.length id : Int)
def AllPos (pv : Int → Option (List Int)) (ids : List Int) : Prop := ∀ id ∈ ids, 0 < dep pv ids.length id
/-- What a call at an Id leaves. -/
structure Left (pv : Int → Option (List Int)) (ids : List Int) (id : Int) (l l' : List (Int × Int)) (r : Int) : Prop where
  tab : Tab pv ids l'
  old : ∀ x v, look l x = some v → look l' x = some v
  here : look l' id = some r
  cost : l'.length + 2 * missing ids l' ≤ l.length + 2 * missing ids l
  good : AllPos pv ids → (∀ x, look l x = some 0 → dep pv ids.length id < dep pv ids.length x) → r = (dep pv ids.length id : Int) ∧ ∀ x, look l' x = some 0 → look l x = some 0
/-- What is there in mid-call, when j of the numbers have been looked at. -/
structure Mid (pv : Int → Option (List Int)) (ids : List Int) (id : Int) (ps : List Int) (j : Nat) (l lj : List (Int × Int)) (m : Int) : Prop where
  tab : Tab pv ids lj
  old : ∀ x v, look ((id, 0) :: l) x = some v → look lj x = some v
  cost : lj.length + 2 * missing ids lj + 1 ≤ l.length + 2 * missing ids l
  pos : ∀ i (h : i < ps.length), i < j → 0 < dep pv ids.length ps[i]
  deep : m = (((ps.take j).map (dep pv ids.length)).foldl max 0 : Nat)
  good : AllPos pv ids → (∀ x, look l x = some 0 → dep pv ids.length id < dep pv ids.length x) → ∀ x, look lj x = some 0 → look ((id, 0) :: l) x = some 0
theorem missing_le {ids : List Int} {l l' : List (Int × Int)} (h : ∀ x v, look l x = some v → look l' x = some v) : missing ids l' ≤ missing ids l := by
  refine countP_le fun x _ hx => ?_
  cases c : look l x with
  | none => rfl
  | some v =>
    rw [h x v c] at hx
    cases hx
theorem missing_lt {ids : List Int} {l l' : List (Int × Int)} (h : ∀ x v, look l x = some v → look l' x = some v) {id v : Int} (hin : id ∈ ids) (h0 : look l id = none) (h1 : look l' id = some v) : missing ids l' < missing ids l := by
  refine countP_lt (fun x _ hx => ?_) ⟨id, hin, by rw [h0]; rfl, by rw [h1]; rfl⟩
  cases c : look l x with
  | none => rfl
  | some v =>
    rw [h x v c] at hx
    cases hx
theorem missing_none (ids : List Int) : missing ids [] = ids.length := by
  unfold missing
  rw [List.countP_eq_length]
  intro x _
  rfl
/-- The Id is there already. -/
theorem Left.known {pv : Int → Option (List Int)} {ids : List Int} {id r : Int} {l : List (Int × Int)} (ht : Tab pv ids l) (h : look l id = some r) : Left pv ids id l l r :=
  ⟨ht, fun _ _ h => h, h, Nat.le_refl _, fun _ hz => ⟨by
    rcases ht.val id r h with h0 | h0
    · subst h0
      exact absurd (hz id h) (Nat.lt_irrefl _)
    · exact h0, fun _ h => h⟩⟩
theorem Mid.start {pv : Int → Option (List Int)} {ids : List Int} {id : Int} {ps : List Int} {l : List (Int × Int)} (ht : Tab pv ids l) (hin : id ∈ ids) (h0 : look l id = none) : Mid pv ids id ps 0 l ((id, 0) :: l) 0 := by
  have hold : ∀ x v, look l x = some v → look ((id, 0) :: l) x = some v := fun x v h => by
    by_cases e : id = x
    · subst e
      rw [h0] at h
      cases h
    · rw [look_ne e]; exact h
  refine ⟨⟨fun x v h => ?_, fun x v h => ?_⟩, fun _ _ h => h, ?_, fun _ _ h => absurd h (Nat.not_lt_zero _), by simp, fun _ _ _ h => h⟩
  · by_cases e : id = x
    · subst e; exact hin
    · rw [look_ne e] at h; exact ht.dom x v h
  · by_cases e : id = x
    · subst e
      rw [look_same] at h
      left
      cases h
      rfl
    · rw [look_ne e] at h; exact ht.val x v h
  · have := missing_lt hold hin h0 (look_same id 0 l)
    simp only [List.length_cons]
    omega
theorem le_foldl_max : ∀ (l : List Nat) (a : Nat), a ≤ l.foldl max a ∧ ∀ x ∈ l, x ≤ l.foldl max a
  | [], a => ⟨Nat.le_refl _, fun _ h => by cases h⟩
  | y :: l, a => by
    obtain ⟨h1, h2⟩ := le_foldl_max l (max a y)
    rw [List.foldl_cons]
    refine ⟨by omega, fun x hx => ?_⟩
    rcases List.mem_cons.1 hx with rfl | hx
    · omega
    · exact h2 x hx
/-- A depth that is not 0 is one more than the greatest. -/
theorem dep_rec {pv : Int → Option (List Int)} {ids : List Int} (hd : ∀ id ps, pv id = some ps → id ∈ ids) {id : Int} {ps : List Int} (hpv : pv id = some ps) :
    dep pv ids.length id = if ps.all (fun p => decide (0 < dep pv ids.length p)) = true then (ps.map (dep pv ids.length)).foldl max 0 + 1 else 0 := by
  conv => lhs; rw [← dep_stable hd]
  show step pv (dep pv ids.length) id = _
  unfold step
  rw [hpv]
theorem dep_less {pv : Int → Option (List Int)} {ids : List Int} (hd : ∀ id ps, pv id = some ps → id ∈ ids) {id : Int} {ps : List Int} (hpv : pv id = some ps) (h0 : 0 < dep pv ids.length id) {p : Int} (hp : p ∈ ps) : dep pv ids.length p < dep pv ids.length id := by
  have h := dep_rec hd hpv
  by_cases c : ps.all (fun p => decide (0 < dep pv ids.length p)) = true
  · rw [if_pos c] at h
    have := (le_foldl_max (ps.map (dep pv ids.length)) 0).2 _ (List.mem_map.2 ⟨p, hp, rfl⟩)
    omega
  · rw [if_neg c] at h
    omega
/-- In mid-call what is 0 in the table is of greater depth than what is looked at. -/
theorem Mid.zeros {pv : Int → Option (List Int)} {ids : List Int} {id : Int} {ps : List Int} {j : Nat} {l lj : List (Int × Int)} {m : Int} (h : Mid pv ids id ps j l lj m) (hd : ∀ id ps, pv id = some ps → id ∈ ids) (hpv : pv id = some ps) (ha : AllPos pv ids) (hz : ∀ x, look l x = some 0 → dep pv ids.length id < dep pv ids.length x) {p : Int} (hp : p ∈ ps) : ∀ x, look lj x = some 0 → dep pv ids.length p < dep pv ids.length x := by
  intro x hx
  have hl := dep_less hd hpv (ha id (hd id ps hpv)) hp
  have h1 := h.good ha hz x hx
  by_cases e : id = x
  · subst e; exact hl
  · rw [look_ne e] at h1
    have := hz x h1
    omega
theorem Mid.stop {pv : Int → Option (List Int)} {ids : List Int} {id : Int} {ps : List Int} {j : Nat} {l lj l' : List (Int × Int)} {m : Int} (h : Mid pv ids id ps j l lj m) (hd : ∀ id ps, pv id = some ps → id ∈ ids) (hpv : pv id = some ps) (hin : ∀ p ∈ ps, p ∈ ids) (h0 : look l id = none) (hj : j < ps.length) (hl : Left pv ids ps[j] lj l' 0) : Left pv ids id l l' 0 := by
  refine ⟨hl.tab, fun x v hx => hl.old x v (h.old x v ?_), hl.old _ _ (h.old _ _ (look_same id 0 l)), ?_, fun ha hz => ?_⟩
  · rw [look_ne (fun e => by subst e; rw [h0] at hx; cases hx)]
    exact hx
  · have h1 := h.cost
    have h2 := hl.cost
    omega
  · have hp := List.getElem_mem hj
    have h1 := (hl.good ha (h.zeros hd hpv ha hz hp)).1
    have h2 := ha _ (hin _ hp)
    omega
theorem Mid.next {pv : Int → Option (List Int)} {ids : List Int} {id : Int} {ps : List Int} {j : Nat} {l lj l' : List (Int × Int)} {m r : Int} (h : Mid pv ids id ps j l lj m) (hd : ∀ id ps, pv id = some ps → id ∈ ids) (hpv : pv id = some ps) (hj : j < ps.length) (hl : Left pv ids ps[j] lj l' r) (hr : r ≠ 0) : Mid pv ids id ps (j + 1) l l' (max m r) := by
  have hv : r = (dep pv ids.length ps[j] : Int) := by
    rcases hl.tab.val _ _ hl.here with h0 | h0
    · exact absurd h0 hr
    · exact h0
  refine ⟨hl.tab, fun x v hx => hl.old x v (h.old x v hx), ?_, fun i hi hij => ?_, ?_, fun ha hz x hx => ?_⟩
  · have h1 := h.cost
    have h2 := hl.cost
    omega
  · by_cases e : i = j
    · subst e
      omega
    · exact h.pos i hi (by omega)
  · rw [List.take_succ_eq_append_getElem hj, List.map_append, List.foldl_append, h.deep, hv]
    simp only [List.map_cons, List.map_nil, List.foldl_cons, List.foldl_nil]
    omega
  · exact h.good ha hz x ((hl.good ha (h.zeros hd hpv ha hz (List.getElem_mem hj))).2 x hx)
theorem Mid.end {pv : Int → Option (List Int)} {ids : List Int} {id : Int} {ps : List Int} {l lj : List (Int × Int)} {m : Int} (h : Mid pv ids id ps ps.length l lj m) (hd : ∀ id ps, pv id = some ps → id ∈ ids) (hpv : pv id = some ps) (h0 : look l id = none) : Left pv ids id l ((id, m + 1) :: lj) (m + 1) := by
  have hD : m + 1 = (dep pv ids.length id : Int) := by
    rw [dep_rec hd hpv, if_pos (List.all_eq_true.2 fun p hp => by
      obtain ⟨i, hi, rfl⟩ := List.getElem_of_mem hp
      simpa using h.pos i hi hi), h.deep, List.take_length]
    rfl
  have hid := h.old _ _ (look_same id 0 l)
  refine ⟨⟨fun x v hx => ?_, fun x v hx => ?_⟩, fun x v hx => ?_, look_same _ _ _, ?_, fun ha hz => ⟨hD, fun x hx => ?_⟩⟩
  · by_cases e : id = x
    · subst e; exact hd _ _ hpv
    · rw [look_ne e] at hx; exact h.tab.dom x v hx
  · by_cases e : id = x
    · subst e
      rw [look_same] at hx
      cases hx
      exact .inr hD
    · rw [look_ne e] at hx; exact h.tab.val x v hx
  · have e : id ≠ x := fun e => by subst e; rw [h0] at hx; cases hx
    rw [look_ne e]
    exact h.old x v (by rw [look_ne e]; exact hx)
  · have h1 := h.cost
    have h2 : missing ids ((id, m + 1) :: lj) ≤ missing ids lj := by
      refine countP_le fun x _ hx => ?_
      by_cases e : id = x
      · subst e
        rw [look_same] at hx
        cases hx
      · rw [look_ne e] at hx; exact hx
    simp only [List.length_cons]
    omega
  · by_cases e : id = x
    · subst e
      rw [look_same] at hx
      have : m + 1 = 0 := by simpa using hx
      have h3 : (0 : Int) ≤ m := by rw [h.deep]; omega
      omega
    · rw [look_ne e] at hx
      have h4 := h.good ha hz x hx
      rwa [look_ne e] at h4
theorem Mid.less {pv : Int → Option (List Int)} {ids : List Int} {id : Int} {ps : List Int} {j : Nat} {l lj : List (Int × Int)} {m : Int} (h : Mid pv ids id ps j l lj m) (hin : id ∈ ids) (h0 : look l id = none) : missing ids lj < missing ids l := by
  refine missing_lt (fun x v hx => h.old x v ?_) hin h0 (h.old _ _ (look_same id 0 l))
  rw [look_ne (fun e => by subst e; rw [h0] at hx; cases hx)]
  exact hx
theorem missing_pos {ids : List Int} {l : List (Int × Int)} {id : Int} (hin : id ∈ ids) (h0 : look l id = none) : 0 < missing ids l := by
  unfold missing
  rw [List.countP_pos_iff]
  exact ⟨id, hin, by rw [h0]; rfl⟩
/-- The table when all Ids have been looked at. -/
structure Done (pv : Int → Option (List Int)) (ids : List Int) (l : List (Int × Int)) : Prop where
  tab : Tab pv ids l
  all : ∀ id ∈ ids, ∃ v, look l id = some v
  good : AllPos pv ids → ∀ x, look l x ≠ some 0
theorem Done.loops {pv : Int → Option (List Int)} {ids : List Int} {l : List (Int × Int)} (h : Done pv ids l) : (∃ x, look l x = some 0) ↔ ¬ AllPos pv ids := by
  constructor
  · rintro ⟨x, hx⟩ ha
    exact h.good ha x hx
  · intro hn
    obtain ⟨id, hid⟩ := Classical.not_forall.1 hn
    obtain ⟨hin, h0⟩ := Classical.not_imp.1 hid
    obtain ⟨v, hv⟩ := h.all id hin
    refine ⟨id, ?_⟩
    rw [hv]
    rcases h.tab.val _ _ hv with h1 | h1
    · rw [h1]
    · have h2 : dep pv ids.length id = 0 := by omega
      rw [h1, h2]
      rfl
theorem Done.depth {pv : Int → Option (List Int)} {ids : List Int} {l : List (Int × Int)} (h : Done pv ids l) (ha : AllPos pv ids) {id : Int} (hin : id ∈ ids) : look l id = some (dep pv ids.length id : Int) := by
  obtain ⟨v, hv⟩ := h.all id hin
  rw [hv]
  rcases h.tab.val _ _ hv with h1 | h1
  · subst h1
    exact absurd hv (h.good ha id)
  · rw [h1]
end Go.Proofs.YtdldblfopcbfeaaGreatDoor
namespace Go.Proofs.YtdldblfopcbfeaaGreatDoor
open Go.RowKit

/-- A map of such puts. -/
def putL : List (Int × Int) → DataW Value
  | [] => .map []
  | (k, v) :: l => (putL l).put (.int .i64 k) (.held (.int .i64 v))
theorem putL_isMap : ∀ l, Maps.IsMap (putL l)
  | [] => ⟨[], rfl⟩
  | (k, v) :: l => by
    obtain ⟨xs, h⟩ := putL_isMap l
    unfold putL
    rw [h]
    exact ⟨_, rfl⟩
theorem has_putL : ∀ (l : List (Int × Int)) (id : Int), Maps.has (putL l) (.int .i64 id) = (look l id).isSome
  | [], id => by simp [putL, look, Maps.has_eq]
  | (k, v) :: l, id => by
    unfold putL
    by_cases e : k = id
    · subst e
      rw [Maps.has_put_same (putL_isMap l) (by trivial), look_same]
      rfl
    · rw [Maps.has_put_other (lit_ne fun h => e h.symm), has_putL l id, look_ne e]
theorem at_putL : ∀ (l : List (Int × Int)) (id : Int) (z : DataW Value), (putL l).atKey (.int .i64 id) z = match look l id with | some v => .held (.int .i64 v) | none => z
  | [], _, _ => rfl
  | (k, v) :: l, id, z => by
    unfold putL
    by_cases e : k = id
    · subst e
      rw [look_same]
      exact Maps.atKey_put_same (putL_isMap l) (by trivial) _ z
    · rw [look_ne e, ← at_putL l id z]
      exact Maps.atKey_put_other (lit_ne fun h => e h.symm) _ z
theorem zero_i64 (w : World) : (zeroValue 2).run Tryz.prog w = .ok (.int .i64 0) w := by kernel_rfl
/-- A look into the table, with whether it is there. -/
theorem look_tab {w : World} {b n : Nat} {l : List (Int × Int)} (h : w.ownsMap Tryz.prog 2 heldR b n (putL l)) {id : Int} (hid : -9223372036854775808 ≤ id ∧ id ≤ 9223372036854775807) :
    (Instr.lookup 101 (.map (some b)) (.int .i64 id) true).run Tryz.prog w = .ok (.tuple #[.int .i64 ((look l id).getD 0), .bool (look l id).isSome]) w := by
  obtain ⟨v, ps, hrun, hv⟩ := h.look_ok (Maps.int_keyed (P := Tryz.prog) Tryz.underlying2) Tryz.underlying101 (zero_i64 w) (zd := .held (.int .i64 0)) (zp := []) rfl (Maps.keyOf_int_mk Tryz.underlying2 (WalkArith.wf_i64 hid))
  rw [has_putL] at hrun
  rw [at_putL] at hv
  have hvz : v = .int .i64 ((look l id).getD 0) := by
    cases c : look l id with
    | none =>
      rw [c] at hv
      simp only [heldR, Option.some.injEq, Prod.mk.injEq, DataW.held.injEq] at hv
      exact hv.1
    | some x =>
      rw [c] at hv
      simp only [heldR, Option.some.injEq, Prod.mk.injEq, DataW.held.injEq] at hv
      exact hv.1
  rw [hrun, hvz]
theorem putL_at {l : List (Int × Int)} {id : Int} {c : Value} (h : ∀ z, (putL l).atKey (.int .i64 id) z = .held c) : ∃ v, look l id = some v ∧ c = .int .i64 v := by
  cases e : look l id with
  | none =>
    have h1 := h (.held (.bool true))
    have h2 := h (.held (.bool false))
    rw [at_putL, e] at h1 h2
    have := h1.trans h2.symm
    simp at this
  | some v =>
    refine ⟨v, rfl, ?_⟩
    have h1 := h (.held c)
    rw [at_putL, e] at h1
    simpa using h1.symm
theorem wpList_next_tab {w : World} {ops : Array Oper} {rest : List Oper} {o : Oper} {a : Act} {Q : Exit → Act → World → Prop} (hg : o.guard = none) (it : Operand) (hop : o.op = Op.next it false) (b r n : Nat) (l : List (Int × Int)) (left : Lit → Bool) (cnt : Nat)
    (hit : a.eval it = .pointer (some ⟨r, 0, none⟩)) (h : w.ranges Tryz.prog 2 heldR b r n (putL l) left cnt)
    (hDone : cnt = 0 → (∀ kl, left kl = false) → wpList Tryz.prog ops Q rest (a.put o.dst (.tuple #[.bool false])) w)
    (hMore : ∀ (id v : Int) (w' : World) (cnt' : Nat), look l id = some v → left (.int .i64 id) = true → w'.ranges Tryz.prog 2 heldR b r n (putL l) (fun z => left z && !z.sameKey (.int .i64 id)) cnt' → cnt' < cnt → w.grownBy w' (some r) → w'.heap.size = w.heap.size →
      (Instr.entry (.pointer (some ⟨r, 0, none⟩))).run Tryz.prog w' = .ok (.tuple #[.int .i64 id, .int .i64 v]) w' → wpList Tryz.prog ops Q rest (a.put o.dst (.tuple #[.bool true, .int .i64 id, .int .i64 v])) w') :
    wpList Tryz.prog ops Q (o :: rest) a w :=
  wpList_next_ranges w hg it hop 2 (Maps.int_keyed (P := Tryz.prog) Tryz.underlying2) heldR (Value.int .i64) id (fun key kl hkey => by
      obtain ⟨x, rfl, _⟩ := Maps.keyOf_int_inv Tryz.underlying2 hkey
      exact ⟨x, rfl⟩) (fun v _ _ => ⟨v, rfl⟩) b r n (putL l) left cnt hit h hDone (fun x c kl y w' cnt' hkey hlk hv hat hrg hlt hgr hsz hen => by
    obtain ⟨x', ex, rfl, _⟩ := Maps.keyOf_int_inv Tryz.underlying2 hkey
    cases ex
    have hy : y.1 = .held c := by
      have h1 : heldR c = some y := hv
      unfold heldR at h1
      cases h1
      rfl
    rw [hy] at hat
    obtain ⟨v, hlv, rfl⟩ := putL_at hat
    exact hMore x v w' cnt' hlv hlk hrg hlt hgr hsz hen)
end Go.Proofs.YtdldblfopcbfeaaGreatDoor
namespace Go.Proofs.YtdldblfopcbfeaaGreatDoor
open Go.RowKit

/-- What holds of the events, in the world in which the table is begun. -/
structure RkIn (w0 : World) (evs : List Em) (be ne : Nat) : Prop where
  map : w0.ownsMap Tryz.prog 2 heldR be ne (putAll evs)
  nums : ∀ m ∈ evs, NumsAt w0 m.p m.v.prev
  dup : (idsOf evs).Nodup
  idin : ∀ m ∈ evs, IdIn m
  prevs : ∀ m ∈ evs, ∀ p ∈ m.v.prev, p ∈ idsOf evs
  len : evs.length ≤ 60
def rkFn (Bd Be Br : Nat) : Value := .func (.func 100) #[] #[.pointer (some ⟨Bd, 0, none⟩), .pointer (some ⟨Be, 0, none⟩), .pointer (some ⟨Br, 0, none⟩)]
/-- The three variables of the function, and the table. -/
structure RkAt (w0 : World) (be bt Bd Be Br : Nat) (l : List (Int × Int)) (W : World) : Prop where
  below : Below w0.heap.size w0 W
  dv : W.heap[Bd]? = some (.cells #[.map (some bt)] 101 (0, 0))
  ev : W.heap[Be]? = some (.cells #[.map (some be)] 56 (0, 0))
  rv : W.heap[Br]? = some (.cells #[rkFn Bd Be Br] 161 (0, 0))
  tab : W.ownsMap Tryz.prog 2 heldR bt l.length (putL l)
  base : w0.heap.size ≤ bt
theorem map_ne_cells {P : Program} {k : TypeId} {R : Value → Option (DataW Value × List MemPlace)} {n b g : Nat} {D : DataW Value} {W : World} {C : Array Value} {t : TypeId} {fr : Nat × Nat} (h : W.ownsMap P k R b n D) (hc : W.heap[g]? = some (.cells C t fr)) : g ≠ b := by
  rintro rfl
  obtain ⟨es, clock, h1, _⟩ := h
  rw [h1] at hc
  cases hc
theorem RkAt.step {w0 : World} {be bt Bd Be Br : Nat} {l l' : List (Int × Int)} {W W' : World} (h : RkAt w0 be bt Bd Be Br l W) (hg : W.grownBy W' (some bt)) (ht : W'.ownsMap Tryz.prog 2 heldR bt l'.length (putL l')) : RkAt w0 be bt Bd Be Br l' W' := by
  have key : ∀ {g : Nat} {C : Array Value} {t : TypeId} {fr : Nat × Nat}, W.heap[g]? = some (.cells C t fr) → W'.heap[g]? = some (.cells C t fr) := fun {g C t fr} hc => by
    have h1 := map_ne_cells h.tab hc
    rw [hg.block g (Array.getElem?_eq_some_iff.1 hc).1 (fun e => h1 (by cases e; rfl))]
    exact hc
  exact ⟨h.below.grown hg h.below.size (fun k e => by cases e; exact h.base), key h.dv, key h.ev, key h.rv, ht, h.base⟩
theorem mem_of_pv {evs : List Em} {id : Int} (h : id ∈ idsOf evs) (hd : (idsOf evs).Nodup) : ∃ m ∈ evs, m.v.id = id ∧ pvOf evs id = some m.v.prev := by
  obtain ⟨m, hm, rfl⟩ := List.mem_map.1 h
  obtain ⟨i, hi, rfl⟩ := List.getElem_of_mem hm
  exact ⟨_, hm, rfl, pvOf_at hd hi⟩
/-- A look into the events by an Id that is there, without 'ok'. -/
theorem look_ev1 {w : World} {b n : Nat} {es : List Em} (h : w.ownsMap Tryz.prog 2 heldR b n (putAll es)) (hd : (idsOf es).Nodup) {m : Em} (hm : m ∈ es) (hid : IdIn m) :
    (Instr.lookup 56 (.map (some b)) (.int .i64 m.v.id) false).run Tryz.prog w = .ok (emVal m) w := by
  obtain ⟨v, ps, hrun, hv⟩ := h.lookup (Maps.int_keyed (P := Tryz.prog) Tryz.underlying2) Tryz.underlying56 (zero_event w) (zd := .held zeroVal) (zp := []) rfl (Maps.keyOf_int_mk Tryz.underlying2 (idIn_wf hid))
  rcases at_fold_putAll m.v.id es (.map []) ⟨[], rfl⟩ with ⟨h1, _⟩ | ⟨m', hm', h1, h2⟩
  · exact absurd (List.mem_map.2 ⟨m, hm, rfl⟩) h1
  · have e : (putAll es).atKey (.int .i64 m.v.id) (.held zeroVal) = .held (emVal m') := h2 _
    rw [e] at hv
    have hvz : v = emVal m' := by
      simp only [heldR, Option.some.injEq, Prod.mk.injEq, DataW.held.injEq] at hv
      exact hv.1
    rw [hrun, hvz, em_same hd hm' hm h1]
theorem rk_room {evs : List Em} {l : List (Int × Int)} {B : Nat} (h : l.length + 2 * missing (idsOf evs) l ≤ B) (hB : B ≤ 1000) : l.length < maxLen := by
  unfold maxLen
  omega
set_option maxHeartbeats 4000000 in
set_option maxRecDepth 100000 in
theorem reckon_known (be bt Bd Be Br : Nat) (w0 : World) (id r : Int) (l : List (Int × Int)) (W : World) (hid : -9223372036854775808 ≤ id ∧ id ≤ 9223372036854775807) (hl : look l id = some r) (h : RkAt w0 be bt Bd Be Br l W) :
    Calls Tryz.prog 100 #[.int .i64 id, .pointer (some ⟨Bd, 0, none⟩), .pointer (some ⟨Be, 0, none⟩), .pointer (some ⟨Br, 0, none⟩)] W fun e W' => e = .returned (.int .i64 r) ∧ W' = W := by
  have hrun := look_tab h.tab hid
  rw [hl] at hrun
  simp only [Option.getD_some, Option.isSome_some] at hrun
  have hd : W.cell? ⟨Bd, 0, none⟩ = some (.map (some bt)) := cell_of_heap h.dv
  clear h hl
  go_enter Tryz.func100, Tryz.ntmps100
  go_wp2
  go_ret
  exact ⟨rfl, rfl⟩
theorem Left.bound {evs : List Em} {id r : Int} {l l' : List (Int × Int)} (h : Left (pvOf evs) (idsOf evs) id l l' r) (hl : evs.length ≤ 60) : 0 ≤ r ∧ r ≤ 60 := by
  have hb := dep_bound (pv := pvOf evs) (idsOf evs).length id
  have hn : (idsOf evs).length = evs.length := by simp [idsOf]
  rcases h.tab.val _ _ h.here with h0 | h0 <;> omega
theorem Mid.bound {evs : List Em} {id m : Int} {ps : List Int} {j : Nat} {l l' : List (Int × Int)} (h : Mid (pvOf evs) (idsOf evs) id ps j l l' m) (hl : evs.length ≤ 60) : 0 ≤ m ∧ m ≤ 60 := by
  have hn : (idsOf evs).length = evs.length := by simp [idsOf]
  have := foldl_max_le (m := 60) ((ps.take j).map (dep (pvOf evs) (idsOf evs).length)) 0 (Nat.zero_le _) (fun x hx => by
    obtain ⟨p, _, rfl⟩ := List.mem_map.1 hx
    have := dep_bound (pv := pvOf evs) (idsOf evs).length p
    omega)
  rw [h.deep]
  omega
set_option maxHeartbeats 8000000 in
set_option maxRecDepth 100000 in
theorem reckon_impl (evs : List Em) (be ne bt Bd Be Br : Nat) (w0 : World) (hin : RkIn w0 evs be ne) (k : Nat) : ∀ (id : Int) (l : List (Int × Int)) (W : World), missing (idsOf evs) l ≤ k → id ∈ idsOf evs → Tab (pvOf evs) (idsOf evs) l → l.length + 2 * missing (idsOf evs) l ≤ 1000 → RkAt w0 be bt Bd Be Br l W →
    Calls Tryz.prog 100 #[.int .i64 id, .pointer (some ⟨Bd, 0, none⟩), .pointer (some ⟨Be, 0, none⟩), .pointer (some ⟨Br, 0, none⟩)] W fun e W' => ∃ l' r, e = .returned (.int .i64 r) ∧ Left (pvOf evs) (idsOf evs) id l l' r ∧ W.grownBy W' (some bt) ∧ W'.ownsMap Tryz.prog 2 heldR bt l'.length (putL l') := by
  have HIN : Hid (RkIn w0 evs be ne) := hin
  clear hin
  have known : ∀ (id r : Int) (l : List (Int × Int)) (W : World), id ∈ idsOf evs → Tab (pvOf evs) (idsOf evs) l → RkAt w0 be bt Bd Be Br l W → look l id = some r →
      Calls Tryz.prog 100 #[.int .i64 id, .pointer (some ⟨Bd, 0, none⟩), .pointer (some ⟨Be, 0, none⟩), .pointer (some ⟨Br, 0, none⟩)] W fun e W' => ∃ l' r, e = .returned (.int .i64 r) ∧ Left (pvOf evs) (idsOf evs) id l l' r ∧ W.grownBy W' (some bt) ∧ W'.ownsMap Tryz.prog 2 heldR bt l'.length (putL l') := by
    intro id r l W hid ht h hl
    obtain ⟨m, hm, rfl⟩ := List.mem_map.1 hid
    have hii := HIN.out.idin m hm
    refine (reckon_known be bt Bd Be Br w0 _ r l W ⟨by have := hii.1; omega, by have := hii.2; omega⟩ hl h).mono ?_
    rintro e W' ⟨rfl, rfl⟩
    exact ⟨l, r, rfl, Left.known ht hl, World.grownBy.refl _ _, h.tab⟩
  have K := Maps.int_keyed (P := Tryz.prog) Tryz.underlying2
  induction k with
  | zero =>
    intro id l W hk hid ht hlen h
    cases c : look l id with
    | none => exact absurd (missing_pos hid c) (by omega)
    | some r => exact known id r l W hid ht h c
  | succ k ih =>
    intro id l W hk hid ht hlen h
    cases c : look l id with
    | some r => exact known id r l W hid ht h c
    | none =>
      obtain ⟨m, hm, rfl, hpv⟩ := mem_of_pv hid HIN.out.dup
      have hii := HIN.out.idin m hm
      have hrun := look_tab h.tab (id := m.v.id) ⟨by have := hii.1; omega, by have := hii.2; omega⟩
      rw [c] at hrun
      simp only [Option.getD_none, Option.isSome_none] at hrun
      have hd : W.cell? ⟨Bd, 0, none⟩ = some (.map (some bt)) := cell_of_heap h.dv
      have hlp := (HIN.out.nums m hm).1
      have HK : Hid (keyOf Tryz.prog 2 (.int .i64 m.v.id) = some (.int .i64 m.v.id)) := Maps.keyOf_int_mk Tryz.underlying2 (idIn_wf hii)
      have H : Hid (RkAt w0 be bt Bd Be Br l W ∧ l.length < maxLen) := ⟨h, rk_room hlen (by omega)⟩
      have HC : Hid (look l m.v.id = none) := c
      have HID : Hid (m.v.id ∈ idsOf evs) := hid
      have HPV : Hid (pvOf evs m.v.id = some m.v.prev) := hpv
      have HDD : Hid (∀ id ps, pvOf evs id = some ps → id ∈ idsOf evs) := fun _ _ h => pvOf_mem h
      have HST : Hid (Mid (pvOf evs) (idsOf evs) m.v.id m.v.prev 0 l ((m.v.id, 0) :: l) 0) := Mid.start ht hid c
      have HKN : Hid (missing (idsOf evs) l ≤ k + 1 ∧ l.length + 2 * missing (idsOf evs) l ≤ 1000) := ⟨hk, hlen⟩
      have HIH := ih
      clear h c hid hpv ht hk hlen ih known
      go_enter Tryz.func100, Tryz.ntmps100
      go_wp2_with (at_mapUpdate; go_loud (refine wpList_mapUpdate_own _ rfl _ _ _ 101 rfl 2 2 K Tryz.underlying101 heldR bt l.length (putL l) rfl H.out.1.tab H.out.2 _ _ _ rfl rfl HK.out _ [] rfl ?_; intro w2 hown2 hgrow2; have HM : Hid (RkAt w0 be bt Bd Be Br ((m.v.id, 0) :: l) w2 ∧ W.grownBy w2 (some bt)) := ⟨H.out.1.step hgrow2 hown2, hgrow2⟩; have hev : w2.cell? ⟨Be, 0, none⟩ = some (.map (some be)) := cell_of_heap HM.out.1.ev; have hlk := look_ev1 (ownsMap_below HIN.out.map HM.out.1.below) HIN.out.dup hm hii; unfold emVal emCells at hlk; have hfd : (Instr.field 39 (.agg #[.int .i64 m.v.id, .int .i64 m.v.room, .int .i64 m.v.author, .int .i64 m.v.kind, .int .i64 m.v.key, .int .i64 m.v.n, .string m.v.text, .slice m.p m.v.prev.length m.c, .int .i64 m.v.time]) 7).run Tryz.prog w2 = .ok (.slice m.p m.v.prev.length m.c) w2 := (by kernel_rfl); clear hown2 hgrow2))
      go_loopw [8, 27] (fun d i wr => ∃ (j : Nat) (mx : Int) (lj : List (Int × Int)), j ≤ m.v.prev.length ∧ d = .int .i64 mx ∧ i = .int .i64 j ∧ 0 ≤ mx ∧ mx ≤ 60 ∧ Hid (Mid (pvOf evs) (idsOf evs) m.v.id m.v.prev j l lj mx ∧ RkAt w0 be bt Bd Be Br lj wr ∧ W.grownBy wr (some bt))) (fun _ i _ => m.v.prev.length - (intOf i).toNat)
      case atStart => exact ⟨0, 0, _, Nat.zero_le _, rfl, rfl, by omega, by omega, HST.out, HM.out.1, HM.out.2⟩
      case round =>
        clear HM hev hlk hfd hd hrun
        obtain ⟨j, mx, lj, hj, rfl, rfl, hm0, hm60, HM⟩ := hrel
        have hd : wr.cell? ⟨Bd, 0, none⟩ = some (.map (some bt)) := cell_of_heap HM.out.2.1.dv
        by_cases hlt : j < m.v.prev.length
        · obtain ⟨b, off, hpp, hbb, hcell⟩ := ((HIN.out.nums m hm).kept HM.out.2.1.below).2 (by omega)
          have hck := hcell j hlt
          have hrv : wr.cell? ⟨Br, 0, none⟩ = some (rkFn Bd Be Br) := cell_of_heap HM.out.2.1.rv
          unfold rkFn at hrv
          rw [hpp]
          clear hcell hpp
          go_wp2_with fail
          refine (HIH m.v.prev[j] lj _ (by have := HM.out.1.less HID.out HC.out; have := HKN.out.1; omega) (HIN.out.prevs m hm _ (List.getElem_mem hlt)) HM.out.1.tab (by have := HM.out.1.cost; have := HKN.out.2; omega) HM.out.2.1).mono ?_
          rintro e w3 ⟨l3, r, rfl, hleft, hg3, hown3⟩
          have HO3 : Hid (w3.ownsMap Tryz.prog 2 heldR bt l3.length (putL l3) ∧ W.grownBy w3 (some bt) ∧ RkAt w0 be bt Bd Be Br l3 w3) := ⟨hown3, HM.out.2.2.andThen hg3 (fun _ h => .inr h), HM.out.2.1.step hg3 hown3⟩
          obtain ⟨hr0, hr60⟩ := hleft.bound HIN.out.len
          by_cases hr : r = 0
          · subst hr
            have HS : Hid (Left (pvOf evs) (idsOf evs) m.v.id l l3 0) := HM.out.1.stop HDD.out HPV.out (HIN.out.prevs m hm) HC.out hlt hleft
            clear hleft hg3 hown3
            go_wp2
            go_ret
            exact ⟨l3, 0, rfl, HS.out, HO3.out.2.1, HO3.out.1⟩
          · have HS : Hid (Mid (pvOf evs) (idsOf evs) m.v.id m.v.prev (j + 1) l l3 (max mx r)) := HM.out.1.next HDD.out HPV.out hlt hleft hr
            have hrb : (r == 0) = false := by simpa using hr
            clear hleft hg3 hown3 hr
            go_wp2
            go_roundw
            case rel => exact ⟨j + 1, max mx r, l3, by omega, by go_num, by go_num, by omega, by omega, HS.out, HO3.out.2.2, HO3.out.2.1⟩
            case measure => simp [intOf]; omega
        · have HE : Hid (Left (pvOf evs) (idsOf evs) m.v.id l ((m.v.id, mx + 1) :: lj) (mx + 1)) := by
            have e : j = m.v.prev.length := by omega
            have h1 := HM.out.1
            rw [e] at h1
            exact h1.end HDD.out HPV.out HC.out
          have HRM : Hid (lj.length < maxLen) := rk_room (evs := evs) (B := 1000) (by have := HM.out.1.cost; have := HKN.out.2; omega) (by omega)
          go_wp2_with (at_mapUpdate; refine wpList_mapUpdate_own _ rfl _ _ _ 101 rfl 2 2 K Tryz.underlying101 heldR bt lj.length (putL lj) rfl HM.out.2.1.tab HRM.out _ _ _ rfl rfl HK.out _ [] rfl ?_; intro w4 hown4 hgrow4; have HM4 : Hid (w4.ownsMap Tryz.prog 2 heldR bt ((m.v.id, mx + 1) :: lj).length (putL ((m.v.id, mx + 1) :: lj)) ∧ W.grownBy w4 (some bt)) := ⟨hown4, HM.out.2.2.andThen hgrow4 (fun _ h => .inr h)⟩; clear hown4 hgrow4)
          go_ret
          exact ⟨_, _, rfl, HE.out, HM4.out.2, HM4.out.1⟩
end Go.Proofs.YtdldblfopcbfeaaGreatDoor
