/- The program's look whether an event waits for nothing. A range over a map of events: one step. Depths reckoned by a function that calls itself, as plain functions: a table by puts, and what a call leaves in it. A table of numbers by Ids, in a map: looks into it, and one step of a range over it. -/
import Derived.Test.YteajcmkaoahbeaaGreatDoorZGrMap
import Derived.Maps.RangeWalk
import Derived.Test.YteajcmkaoahbeaaGreatDoorZGrDepth
namespace Go.Proofs.YteajcmkaoahbeaaGreatDoor
open Go.RowKit

theorem putAll_append (es fs : List Em) : putAll (es ++ fs) = fs.foldl (fun D m => D.put (.int .i64 m.v.id) (.held (emVal m))) (putAll es) := by
  unfold putAll
  rw [List.foldl_append]
theorem putAll_isMap (es : List Em) : Maps.IsMap (putAll es) := by
  have key : ∀ (l : List Em) (D : DataW Value), Maps.IsMap D → Maps.IsMap (l.foldl (fun D m => D.put (.int .i64 m.v.id) (.held (emVal m))) D) := by
    intro l
    induction l with
    | nil => exact fun D h => h
    | cons m l ih =>
      intro D h
      refine ih _ ?_
      obtain ⟨xs, rfl⟩ := h
      exact ⟨_, rfl⟩
  exact key es _ ⟨[], rfl⟩
theorem lit_ne {a b : Int} (h : a ≠ b) : Lit.int .i64 a ≠ Lit.int .i64 b := fun e => h (by cases e; rfl)
theorem has_fold_putAll (id : Int) : ∀ (l : List Em) (D : DataW Value), Maps.IsMap D → Maps.has (l.foldl (fun D m => D.put (.int .i64 m.v.id) (.held (emVal m))) D) (.int .i64 id) = (Maps.has D (.int .i64 id) || decide (id ∈ idsOf l))
  | [], D, _ => by simp [idsOf]
  | m :: l, D, hD => by
    have hD2 : Maps.IsMap (D.put (.int .i64 m.v.id) (.held (emVal m))) := by
      obtain ⟨xs, rfl⟩ := hD
      exact ⟨_, rfl⟩
    rw [List.foldl_cons, has_fold_putAll id l _ hD2]
    by_cases e : id = m.v.id
    · subst e
      rw [Maps.has_put_same hD (by trivial)]
      simp [idsOf]
    · rw [Maps.has_put_other (lit_ne e)]
      simp [idsOf, e]
theorem has_putAll (es : List Em) (id : Int) : Maps.has (putAll es) (.int .i64 id) = decide (id ∈ idsOf es) := by
  unfold putAll
  rw [has_fold_putAll id es _ ⟨[], rfl⟩]
  simp [Maps.has_eq]
theorem at_fold_putAll (id : Int) : ∀ (l : List Em) (D : DataW Value), Maps.IsMap D → (id ∉ idsOf l ∧ ∀ z, (l.foldl (fun D m => D.put (.int .i64 m.v.id) (.held (emVal m))) D).atKey (.int .i64 id) z = D.atKey (.int .i64 id) z) ∨ ∃ m ∈ l, m.v.id = id ∧ ∀ z, (l.foldl (fun D m => D.put (.int .i64 m.v.id) (.held (emVal m))) D).atKey (.int .i64 id) z = .held (emVal m)
  | [], D, _ => .inl ⟨by simp [idsOf], fun _ => rfl⟩
  | m :: l, D, hD => by
    have hD2 : Maps.IsMap (D.put (.int .i64 m.v.id) (.held (emVal m))) := by
      obtain ⟨xs, rfl⟩ := hD
      exact ⟨_, rfl⟩
    rcases at_fold_putAll id l _ hD2 with ⟨h1, h2⟩ | ⟨m', hm, h1, h2⟩
    · by_cases e : m.v.id = id
      · right
        refine ⟨m, List.mem_cons_self, e, fun z => ?_⟩
        rw [List.foldl_cons, h2 z, ← e]
        exact Maps.atKey_put_same hD (by trivial) _ z
      · left
        refine ⟨fun hm => ?_, fun z => ?_⟩
        · rcases List.mem_cons.1 hm with h | h
          · exact e h.symm
          · exact h1 h
        · rw [List.foldl_cons, h2 z]
          exact Maps.atKey_put_other (lit_ne fun h => e h.symm) _ z
    · exact .inr ⟨m', List.mem_cons_of_mem _ hm, h1, fun z => by rw [List.foldl_cons]; exact h2 z⟩
def zeroVal : Value := .agg #[.int .i64 0, .int .i64 0, .int .i64 0, .int .i64 0, .int .i64 0, .int .i64 0, .string ⟨#[]⟩, .slice none 0 0, .int .i64 0]
theorem zero_event (w : World) : (zeroValue 114).run Tryz.prog w = .ok zeroVal w := by kernel_rfl
/-- A look into the events by an Id: the event, or none. -/
theorem look_ev {w : World} {b n : Nat} {es : List Em} (h : w.ownsMap Tryz.prog 2 heldR b n (putAll es)) {id : Int} (hid : -9223372036854775808 ≤ id ∧ id ≤ 9223372036854775807) :
    (id ∉ idsOf es ∧ (Instr.lookup 130 (.map (some b)) (.int .i64 id) true).run Tryz.prog w = .ok (.tuple #[zeroVal, .bool false]) w) ∨ ∃ m ∈ es, m.v.id = id ∧ (Instr.lookup 130 (.map (some b)) (.int .i64 id) true).run Tryz.prog w = .ok (.tuple #[emVal m, .bool true]) w := by
  obtain ⟨v, ps, hrun, hv⟩ := h.look_ok (Maps.int_keyed (P := Tryz.prog) Tryz.underlying2) Tryz.underlying130 (zero_event w) (zd := .held zeroVal) (zp := []) rfl (Maps.keyOf_int_mk Tryz.underlying2 (WalkArith.wf_i64 hid))
  rw [has_putAll] at hrun
  rcases at_fold_putAll id es (.map []) ⟨[], rfl⟩ with ⟨h1, h2⟩ | ⟨m, hm, h1, h2⟩
  · left
    refine ⟨h1, ?_⟩
    have e : (putAll es).atKey (.int .i64 id) (.held zeroVal) = .held zeroVal := h2 _
    rw [e] at hv
    have hvz : v = zeroVal := by
      simp only [heldR, Option.some.injEq, Prod.mk.injEq, DataW.held.injEq] at hv
      exact hv.1
    rw [hrun, hvz, decide_eq_false h1]
  · right
    refine ⟨m, hm, h1, ?_⟩
    have e : (putAll es).atKey (.int .i64 id) (.held zeroVal) = .held (emVal m) := h2 _
    rw [e] at hv
    have hvz : v = emVal m := by
      simp only [heldR, Option.some.injEq, Prod.mk.injEq, DataW.held.injEq] at hv
      exact hv.1
    have hin : id ∈ idsOf es := List.mem_map.2 ⟨m, hm, h1⟩
    rw [hrun, hvz, decide_eq_true hin]
theorem ownsMap_below {w w' : World} {P : Program} {k : TypeId} {R : Value → Option (DataW Value × List MemPlace)} {b n : Nat} {D : DataW Value} (h : w.ownsMap P k R b n D) (hb : Below w.heap.size w w') : w'.ownsMap P k R b n D := by
  obtain ⟨es, clock, h1, r⟩ := h
  exact ⟨es, clock, (hb.block b (Array.getElem?_eq_some_iff.1 h1).1).trans h1, r⟩
set_option maxHeartbeats 4000000 in
set_option maxRecDepth 100000 in
theorem ready_impl (evs : List Em) (m : Em) (be n : Nat) (pv : Value) (w : World) (h : w.ownsMap Tryz.prog 2 heldR be n (putAll evs)) (hm : NumsAt w m.p m.v.prev) (hp : ∀ p ∈ m.v.prev, 1 ≤ p ∧ p ≤ 1000000) (hpv : ∃ bp, pv = .map bp) :
    Calls Tryz.prog 147 #[.agg #[.map (some be), pv], .agg #[.int .i64 m.v.id, .int .i64 m.v.room, .int .i64 m.v.author, .int .i64 m.v.kind, .int .i64 m.v.key, .int .i64 m.v.n, .string m.v.text, .slice m.p m.v.prev.length m.c, .int .i64 m.v.time]] w fun e w' => e = .returned (.bool (allIn (idsOf evs) m.v.prev)) ∧ Below w.heap.size w w' := by
  obtain ⟨bp, rfl⟩ := hpv
  have hl := hm.1
  have HB : Hid (∀ o1 o2, Below w.heap.size w ((w.alloc o1).alloc o2)) := fun o1 o2 => ((Below.refl _ _).alloc (Nat.le_refl _) _).alloc (by simp) _
  have H : Hid (w.ownsMap Tryz.prog 2 heldR be n (putAll evs) ∧ NumsAt w m.p m.v.prev ∧ ∀ p ∈ m.v.prev, 1 ≤ p ∧ p ≤ 1000000) := ⟨h, hm, hp⟩
  clear h hm hp
  go_enter Tryz.func147, Tryz.ntmps147
  go_wp2
  go_loopw [12] (fun i wr => ∃ k : Nat, k ≤ m.v.prev.length ∧ i = .int .i64 k ∧ Hid (∀ j (h : j < m.v.prev.length), j < k → 0 ≤ atI (idsOf evs) m.v.prev[j]) ∧ Hid (Below w.heap.size w wr ∧ wr.heap[w.heap.size]? = some (.cells #[.map (some be), .map bp] 172 (0, 0)))) (fun i _ => m.v.prev.length - (intOf i).toNat)
  case atStart => exact ⟨0, Nat.zero_le _, rfl, fun _ _ h => absurd h (Nat.not_lt_zero _), HB.out _ _, (Below.heap_alloc _ _ _ (by simp)).trans (MapKept.heap_alloc w _).1⟩
  case round =>
    obtain ⟨k, hk, rfl, HN, HW⟩ := hrel
    by_cases hlt : k < m.v.prev.length
    · have hc : wr.cell? ⟨w.heap.size, 0, none⟩ = some (.map (some be)) := cell_of_heap HW.out.2
      have HM : Hid (wr.ownsMap Tryz.prog 2 heldR be n (putAll evs)) := ownsMap_below H.out.1 HW.out.1
      obtain ⟨b, off, hpp, hbb, hcell⟩ := (H.out.2.1.kept HW.out.1).2 (by omega)
      have hck := hcell k hlt
      have hz := H.out.2.2 _ (List.getElem_mem hlt)
      rw [hpp]
      clear hcell hpp
      rcases look_ev HM.out (id := m.v.prev[k]) ⟨by omega, by omega⟩ with ⟨hno, hrun⟩ | ⟨x, hx, hxi, hrun⟩
      · have HS : Hid (allIn (idsOf evs) m.v.prev = false) := allIn_no hlt (by
          have h3 : ¬ 0 ≤ atI (idsOf evs) m.v.prev[k] := fun h => hno (atI_mem.1 h)
          omega)
        unfold zeroVal at hrun
        clear hno
        go_wp2
        go_ret
        exact ⟨ret_bool HS.out.symm, HW.out.1.alloc HW.out.1.size _⟩
      · have HS : Hid (∀ j (h : j < m.v.prev.length), j < k + 1 → 0 ≤ atI (idsOf evs) m.v.prev[j]) := fun j h hj => by
          by_cases e : j = k
          · subst e
            exact atI_mem.2 (List.mem_map.2 ⟨x, hx, hxi⟩)
          · exact HN.out j h (by omega)
        unfold emVal emCells at hrun
        clear hx hxi
        go_wp2
        exact ⟨⟨k + 1, by omega, by go_num, HS, HW.out.1.alloc HW.out.1.size _, (Below.heap_alloc _ _ _ (Array.getElem?_eq_some_iff.1 HW.out.2).1).trans HW.out.2⟩, by simp [intOf]; omega⟩
    · have HS : Hid (allIn (idsOf evs) m.v.prev = true) := allIn_yes fun j h => HN.out j h (by omega)
      go_wp2
      go_ret
      exact ⟨ret_bool HS.out.symm, HW.out.1⟩
end Go.Proofs.YteajcmkaoahbeaaGreatDoor
namespace Go.Proofs.YteajcmkaoahbeaaGreatDoor
open Go.RowKit

/-- What stands in such a map under a key is the event of that Id. -/
theorem putAll_at {es : List Em} {id : Int} {c : Value} (h : ∀ z, (putAll es).atKey (.int .i64 id) z = .held c) : ∃ m ∈ es, m.v.id = id ∧ c = emVal m := by
  rcases at_fold_putAll id es (.map []) ⟨[], rfl⟩ with ⟨_, h2⟩ | ⟨m, hm, h1, h2⟩
  · have e1 := (h (.held (.bool true))).symm.trans (h2 (.held (.bool true)))
    have e2 := (h (.held (.bool false))).symm.trans (h2 (.held (.bool false)))
    have e3 : (DataW.map [] : DataW Value).atKey (.int .i64 id) (.held (.bool true)) = .held (.bool true) := rfl
    have e4 : (DataW.map [] : DataW Value).atKey (.int .i64 id) (.held (.bool false)) = .held (.bool false) := rfl
    rw [e3] at e1
    rw [e4] at e2
    have := e1.symm.trans e2
    simp at this
  · refine ⟨m, hm, h1, ?_⟩
    have := (h (.held c)).symm.trans (h2 (.held c))
    simpa using this
theorem wpList_next_ev {w : World} {ops : Array Oper} {rest : List Oper} {o : Oper} {a : Act} {Q : Exit → Act → World → Prop} (hg : o.guard = none) (it : Operand) (hop : o.op = Op.next it false) (b r n : Nat) (es : List Em) (left : Lit → Bool) (cnt : Nat)
    (hit : a.eval it = .pointer (some ⟨r, 0, none⟩)) (h : w.ranges Tryz.prog 2 heldR b r n (putAll es) left cnt)
    (hDone : cnt = 0 → (∀ kl, left kl = false) → wpList Tryz.prog ops Q rest (a.put o.dst (.tuple #[.bool false])) w)
    (hMore : ∀ (m : Em) (w' : World) (cnt' : Nat), m ∈ es → left (.int .i64 m.v.id) = true → w'.ranges Tryz.prog 2 heldR b r n (putAll es) (fun z => left z && !z.sameKey (.int .i64 m.v.id)) cnt' → cnt' < cnt → w.grownBy w' (some r) → w'.heap.size = w.heap.size →
      (Instr.entry (.pointer (some ⟨r, 0, none⟩))).run Tryz.prog w' = .ok (.tuple #[.int .i64 m.v.id, emVal m]) w' → wpList Tryz.prog ops Q rest (a.put o.dst (.tuple #[.bool true, .int .i64 m.v.id, emVal m])) w') :
    wpList Tryz.prog ops Q (o :: rest) a w :=
  wpList_next_ranges w hg it hop 2 (Maps.int_keyed (P := Tryz.prog) Tryz.underlying2) heldR (Value.int .i64) id (fun key kl hkey => by
      obtain ⟨x, rfl, _⟩ := Maps.keyOf_int_inv Tryz.underlying2 hkey
      exact ⟨x, rfl⟩) (fun v _ _ => ⟨v, rfl⟩) b r n (putAll es) left cnt hit h hDone (fun x c kl y w' cnt' hkey hlk hv hat hrg hlt hgr hsz hen => by
    obtain ⟨x', ex, rfl, _⟩ := Maps.keyOf_int_inv Tryz.underlying2 hkey
    cases ex
    have hy : y.1 = .held c := by
      have h1 : heldR c = some y := hv
      unfold heldR at h1
      cases h1
      rfl
    rw [hy] at hat
    obtain ⟨m, hm, rfl, rfl⟩ := putAll_at hat
    exact hMore m w' cnt' hm hlk hrg hlt hgr hsz hen)
end Go.Proofs.YteajcmkaoahbeaaGreatDoor
namespace Go.Proofs.YteajcmkaoahbeaaGreatDoor

/-- A table by its puts, the newest first. -/
def look : List (Int × Int) → Int → Option Int
  | [], _ => none
  | (k, v) :: l, id => if k = id then some v else look l id
theorem look_same (k v : Int) (l : List (Int × Int)) : look ((k, v) :: l) k = some v := by simp [look]
theorem look_ne {k id : Int} (h : k ≠ id) (v : Int) (l : List (Int × Int)) : look ((k, v) :: l) id = look l id := by simp [look, h]
def missing (ids : List Int) (l : List (Int × Int)) : Nat := ids.countP fun id => (look l id).isNone
/-- Of what is in the table each is 0, or its depth. -/
structure Tab (pv : Int → Option (List Int)) (ids : List Int) (l : List (Int × Int)) : Prop where
  dom : ∀ id v, look l id = some v → id ∈ ids
  val : ∀ id v, look l id = some v → v = 0 ∨ v = (dep pv ids.length id : Int)
def AllPos (pv : Int → Option (List Int)) (ids : List Int) : Prop := ∀ id ∈ ids, 0 < dep pv ids.length id
/-- What a call at an Id leaves. -/
structure Left (pv : Int → Option (List Int)) (ids : List Int) (id : Int) (l l' : List (Int × Int)) (r : Int) : Prop where
  tab : Tab pv ids l'
  old : ∀ x v, look l x = some v → look l' x = some v
  here : look l' id = some r
  cost : l'.length + 2 * missing ids l' ≤ l.length + 2 * missing ids l
  good : AllPos pv ids → (∀ x, look l x = some 0 → dep pv ids.length id < dep pv ids.length x) → r = (dep pv ids.length id : Int) ∧ ∀ x, look l' x = some 0 → look l x = some 0
/-- What is there in mid-call, when j of the numbers have been looked at. -/
structure Mid (pv : Int → Option (List Int)) (ids : List Int) (id : Int) (ps : List Int) (j : Nat) (l lj : List (Int × Int)) (m : Int) : Prop where
  tab : Tab pv ids lj
  old : ∀ x v, look ((id, 0) :: l) x = some v → look lj x = some v
  cost : lj.length + 2 * missing ids lj + 1 ≤ l.length + 2 * missing ids l
  pos : ∀ i (h : i < ps.length), i < j → 0 < dep pv ids.length ps[i]
  deep : m = (((ps.take j).map (dep pv ids.length)).foldl max 0 : Nat)
  good : AllPos pv ids → (∀ x, look l x = some 0 → dep pv ids.length id < dep pv ids.length x) → ∀ x, look lj x = some 0 → look ((id, 0) :: l) x = some 0
theorem missing_le {ids : List Int} {l l' : List (Int × Int)} (h : ∀ x v, look l x = some v → look l' x = some v) : missing ids l' ≤ missing ids l := by
  refine countP_le fun x _ hx => ?_
  cases c : look l x with
  | none => rfl
  | some v =>
    rw [h x v c] at hx
    cases hx
theorem missing_lt {ids : List Int} {l l' : List (Int × Int)} (h : ∀ x v, look l x = some v → look l' x = some v) {id v : Int} (hin : id ∈ ids) (h0 : look l id = none) (h1 : look l' id = some v) : missing ids l' < missing ids l := by
  refine countP_lt (fun x _ hx => ?_) ⟨id, hin, by rw [h0]; rfl, by rw [h1]; rfl⟩
  cases c : look l x with
  | none => rfl
  | some v =>
    rw [h x v c] at hx
    cases hx
theorem missing_none (ids : List Int) : missing ids [] = ids.length := by
  unfold missing
  rw [List.countP_eq_length]
  intro x _
  rfl
/-- The Id is there already. -/
theorem Left.known {pv : Int → Option (List Int)} {ids : List Int} {id r : Int} {l : List (Int × Int)} (ht : Tab pv ids l) (h : look l id = some r) : Left pv ids id l l r :=
  ⟨ht, fun _ _ h => h, h, Nat.le_refl _, fun _ hz => ⟨by
    rcases ht.val id r h with h0 | h0
    · subst h0
      exact absurd (hz id h) (Nat.lt_irrefl _)
    · exact h0, fun _ h => h⟩⟩
theorem Mid.start {pv : Int → Option (List Int)} {ids : List Int} {id : Int} {ps : List Int} {l : List (Int × Int)} (ht : Tab pv ids l) (hin : id ∈ ids) (h0 : look l id = none) : Mid pv ids id ps 0 l ((id, 0) :: l) 0 := by
  have hold : ∀ x v, look l x = some v → look ((id, 0) :: l) x = some v := fun x v h => by
    by_cases e : id = x
    · subst e
      rw [h0] at h
      cases h
    · rw [look_ne e]; exact h
  refine ⟨⟨fun x v h => ?_, fun x v h => ?_⟩, fun _ _ h => h, ?_, fun _ _ h => absurd h (Nat.not_lt_zero _), by simp, fun _ _ _ h => h⟩
  · by_cases e : id = x
    · subst e; exact hin
    · rw [look_ne e] at h; exact ht.dom x v h
  · by_cases e : id = x
    · subst e
      rw [look_same] at h
      left
      cases h
      rfl
    · rw [look_ne e] at h; exact ht.val x v h
  · have := missing_lt hold hin h0 (look_same id 0 l)
    simp only [List.length_cons]
    omega
theorem le_foldl_max : ∀ (l : List Nat) (a : Nat), a ≤ l.foldl max a ∧ ∀ x ∈ l, x ≤ l.foldl max a
  | [], a => ⟨Nat.le_refl _, fun _ h => by cases h⟩
  | y :: l, a => by
    obtain ⟨h1, h2⟩ := le_foldl_max l (max a y)
    rw [List.foldl_cons]
    refine ⟨by omega, fun x hx => ?_⟩
    rcases List.mem_cons.1 hx with rfl | hx
    · omega
    · exact h2 x hx
/-- A depth that is not 0 is one more than the greatest. -/
theorem dep_rec {pv : Int → Option (List Int)} {ids : List Int} (hd : ∀ id ps, pv id = some ps → id ∈ ids) {id : Int} {ps : List Int} (hpv : pv id = some ps) :
    dep pv ids.length id = if ps.all (fun p => decide (0 < dep pv ids.length p)) = true then (ps.map (dep pv ids.length)).foldl max 0 + 1 else 0 := by
  conv => lhs; rw [← dep_stable hd]
  show step pv (dep pv ids.length) id = _
  unfold step
  rw [hpv]
theorem dep_less {pv : Int → Option (List Int)} {ids : List Int} (hd : ∀ id ps, pv id = some ps → id ∈ ids) {id : Int} {ps : List Int} (hpv : pv id = some ps) (h0 : 0 < dep pv ids.length id) {p : Int} (hp : p ∈ ps) : dep pv ids.length p < dep pv ids.length id := by
  have h := dep_rec hd hpv
  by_cases c : ps.all (fun p => decide (0 < dep pv ids.length p)) = true
  · rw [if_pos c] at h
    have := (le_foldl_max (ps.map (dep pv ids.length)) 0).2 _ (List.mem_map.2 ⟨p, hp, rfl⟩)
    omega
  · rw [if_neg c] at h
    omega
/-- In mid-call what is 0 in the table is of greater depth than what is looked at. -/
theorem Mid.zeros {pv : Int → Option (List Int)} {ids : List Int} {id : Int} {ps : List Int} {j : Nat} {l lj : List (Int × Int)} {m : Int} (h : Mid pv ids id ps j l lj m) (hd : ∀ id ps, pv id = some ps → id ∈ ids) (hpv : pv id = some ps) (ha : AllPos pv ids) (hz : ∀ x, look l x = some 0 → dep pv ids.length id < dep pv ids.length x) {p : Int} (hp : p ∈ ps) : ∀ x, look lj x = some 0 → dep pv ids.length p < dep pv ids.length x := by
  intro x hx
  have hl := dep_less hd hpv (ha id (hd id ps hpv)) hp
  have h1 := h.good ha hz x hx
  by_cases e : id = x
  · subst e; exact hl
  · rw [look_ne e] at h1
    have := hz x h1
    omega
theorem Mid.stop {pv : Int → Option (List Int)} {ids : List Int} {id : Int} {ps : List Int} {j : Nat} {l lj l' : List (Int × Int)} {m : Int} (h : Mid pv ids id ps j l lj m) (hd : ∀ id ps, pv id = some ps → id ∈ ids) (hpv : pv id = some ps) (hin : ∀ p ∈ ps, p ∈ ids) (h0 : look l id = none) (hj : j < ps.length) (hl : Left pv ids ps[j] lj l' 0) : Left pv ids id l l' 0 := by
  refine ⟨hl.tab, fun x v hx => hl.old x v (h.old x v ?_), hl.old _ _ (h.old _ _ (look_same id 0 l)), ?_, fun ha hz => ?_⟩
  · rw [look_ne (fun e => by subst e; rw [h0] at hx; cases hx)]
    exact hx
  · have h1 := h.cost
    have h2 := hl.cost
    omega
  · have hp := List.getElem_mem hj
    have h1 := (hl.good ha (h.zeros hd hpv ha hz hp)).1
    have h2 := ha _ (hin _ hp)
    omega
theorem Mid.next {pv : Int → Option (List Int)} {ids : List Int} {id : Int} {ps : List Int} {j : Nat} {l lj l' : List (Int × Int)} {m r : Int} (h : Mid pv ids id ps j l lj m) (hd : ∀ id ps, pv id = some ps → id ∈ ids) (hpv : pv id = some ps) (hj : j < ps.length) (hl : Left pv ids ps[j] lj l' r) (hr : r ≠ 0) : Mid pv ids id ps (j + 1) l l' (max m r) := by
  have hv : r = (dep pv ids.length ps[j] : Int) := by
    rcases hl.tab.val _ _ hl.here with h0 | h0
    · exact absurd h0 hr
    · exact h0
  refine ⟨hl.tab, fun x v hx => hl.old x v (h.old x v hx), ?_, fun i hi hij => ?_, ?_, fun ha hz x hx => ?_⟩
  · have h1 := h.cost
    have h2 := hl.cost
    omega
  · by_cases e : i = j
    · subst e
      omega
    · exact h.pos i hi (by omega)
  · rw [List.take_succ_eq_append_getElem hj, List.map_append, List.foldl_append, h.deep, hv]
    simp only [List.map_cons, List.map_nil, List.foldl_cons, List.foldl_nil]
    omega
  · exact h.good ha hz x ((hl.good ha (h.zeros hd hpv ha hz (List.getElem_mem hj))).2 x hx)
theorem Mid.end {pv : Int → Option (List Int)} {ids : List Int} {id : Int} {ps : List Int} {l lj : List (Int × Int)} {m : Int} (h : Mid pv ids id ps ps.length l lj m) (hd : ∀ id ps, pv id = some ps → id ∈ ids) (hpv : pv id = some ps) (h0 : look l id = none) : Left pv ids id l ((id, m + 1) :: lj) (m + 1) := by
  have hD : m + 1 = (dep pv ids.length id : Int) := by
    rw [dep_rec hd hpv, if_pos (List.all_eq_true.2 fun p hp => by
      obtain ⟨i, hi, rfl⟩ := List.getElem_of_mem hp
      simpa using h.pos i hi hi), h.deep, List.take_length]
    rfl
  have hid := h.old _ _ (look_same id 0 l)
  refine ⟨⟨fun x v hx => ?_, fun x v hx => ?_⟩, fun x v hx => ?_, look_same _ _ _, ?_, fun ha hz => ⟨hD, fun x hx => ?_⟩⟩
  · by_cases e : id = x
    · subst e; exact hd _ _ hpv
    · rw [look_ne e] at hx; exact h.tab.dom x v hx
  · by_cases e : id = x
    · subst e
      rw [look_same] at hx
      cases hx
      exact .inr hD
    · rw [look_ne e] at hx; exact h.tab.val x v hx
  · have e : id ≠ x := fun e => by subst e; rw [h0] at hx; cases hx
    rw [look_ne e]
    exact h.old x v (by rw [look_ne e]; exact hx)
  · have h1 := h.cost
    have h2 : missing ids ((id, m + 1) :: lj) ≤ missing ids lj := by
      refine countP_le fun x _ hx => ?_
      by_cases e : id = x
      · subst e
        rw [look_same] at hx
        cases hx
      · rw [look_ne e] at hx; exact hx
    simp only [List.length_cons]
    omega
  · by_cases e : id = x
    · subst e
      rw [look_same] at hx
      have : m + 1 = 0 := by simpa using hx
      have h3 : (0 : Int) ≤ m := by rw [h.deep]; omega
      omega
    · rw [look_ne e] at hx
      have h4 := h.good ha hz x hx
      rwa [look_ne e] at h4
theorem Mid.less {pv : Int → Option (List Int)} {ids : List Int} {id : Int} {ps : List Int} {j : Nat} {l lj : List (Int × Int)} {m : Int} (h : Mid pv ids id ps j l lj m) (hin : id ∈ ids) (h0 : look l id = none) : missing ids lj < missing ids l := by
  refine missing_lt (fun x v hx => h.old x v ?_) hin h0 (h.old _ _ (look_same id 0 l))
  rw [look_ne (fun e => by subst e; rw [h0] at hx; cases hx)]
  exact hx
theorem missing_pos {ids : List Int} {l : List (Int × Int)} {id : Int} (hin : id ∈ ids) (h0 : look l id = none) : 0 < missing ids l := by
  unfold missing
  rw [List.countP_pos_iff]
  exact ⟨id, hin, by rw [h0]; rfl⟩
/-- The table when all Ids have been looked at. -/
structure Done (pv : Int → Option (List Int)) (ids : List Int) (l : List (Int × Int)) : Prop where
  tab : Tab pv ids l
  all : ∀ id ∈ ids, ∃ v, look l id = some v
  good : AllPos pv ids → ∀ x, look l x ≠ some 0
theorem Done.loops {pv : Int → Option (List Int)} {ids : List Int} {l : List (Int × Int)} (h : Done pv ids l) : (∃ x, look l x = some 0) ↔ ¬ AllPos pv ids := by
  constructor
  · rintro ⟨x, hx⟩ ha
    exact h.good ha x hx
  · intro hn
    obtain ⟨id, hid⟩ := Classical.not_forall.1 hn
    obtain ⟨hin, h0⟩ := Classical.not_imp.1 hid
    obtain ⟨v, hv⟩ := h.all id hin
    refine ⟨id, ?_⟩
    rw [hv]
    rcases h.tab.val _ _ hv with h1 | h1
    · rw [h1]
    · have h2 : dep pv ids.length id = 0 := by omega
      rw [h1, h2]
      rfl
theorem Done.depth {pv : Int → Option (List Int)} {ids : List Int} {l : List (Int × Int)} (h : Done pv ids l) (ha : AllPos pv ids) {id : Int} (hin : id ∈ ids) : look l id = some (dep pv ids.length id : Int) := by
  obtain ⟨v, hv⟩ := h.all id hin
  rw [hv]
  rcases h.tab.val _ _ hv with h1 | h1
  · subst h1
    exact absurd hv (h.good ha id)
  · rw [h1]
end Go.Proofs.YteajcmkaoahbeaaGreatDoor
namespace Go.Proofs.YteajcmkaoahbeaaGreatDoor
open Go.RowKit

/-- A map of such puts. -/
def putL : List (Int × Int) → DataW Value
  | [] => .map []
  | (k, v) :: l => (putL l).put (.int .i64 k) (.held (.int .i64 v))
theorem putL_isMap : ∀ l, Maps.IsMap (putL l)
  | [] => ⟨[], rfl⟩
  | (k, v) :: l => by
    obtain ⟨xs, h⟩ := putL_isMap l
    unfold putL
    rw [h]
    exact ⟨_, rfl⟩
theorem has_putL : ∀ (l : List (Int × Int)) (id : Int), Maps.has (putL l) (.int .i64 id) = (look l id).isSome
  | [], id => by simp [putL, look, Maps.has_eq]
  | (k, v) :: l, id => by
    unfold putL
    by_cases e : k = id
    · subst e
      rw [Maps.has_put_same (putL_isMap l) (by trivial), look_same]
      rfl
    · rw [Maps.has_put_other (lit_ne fun h => e h.symm), has_putL l id, look_ne e]
theorem at_putL : ∀ (l : List (Int × Int)) (id : Int) (z : DataW Value), (putL l).atKey (.int .i64 id) z = match look l id with | some v => .held (.int .i64 v) | none => z
  | [], _, _ => rfl
  | (k, v) :: l, id, z => by
    unfold putL
    by_cases e : k = id
    · subst e
      rw [look_same]
      exact Maps.atKey_put_same (putL_isMap l) (by trivial) _ z
    · rw [look_ne e, ← at_putL l id z]
      exact Maps.atKey_put_other (lit_ne fun h => e h.symm) _ z
theorem zero_i64 (w : World) : (zeroValue 2).run Tryz.prog w = .ok (.int .i64 0) w := by kernel_rfl
/-- A look into the table, with whether it is there. -/
theorem look_tab {w : World} {b n : Nat} {l : List (Int × Int)} (h : w.ownsMap Tryz.prog 2 heldR b n (putL l)) {id : Int} (hid : -9223372036854775808 ≤ id ∧ id ≤ 9223372036854775807) :
    (Instr.lookup 173 (.map (some b)) (.int .i64 id) true).run Tryz.prog w = .ok (.tuple #[.int .i64 ((look l id).getD 0), .bool (look l id).isSome]) w := by
  obtain ⟨v, ps, hrun, hv⟩ := h.look_ok (Maps.int_keyed (P := Tryz.prog) Tryz.underlying2) Tryz.underlying173 (zero_i64 w) (zd := .held (.int .i64 0)) (zp := []) rfl (Maps.keyOf_int_mk Tryz.underlying2 (WalkArith.wf_i64 hid))
  rw [has_putL] at hrun
  rw [at_putL] at hv
  have hvz : v = .int .i64 ((look l id).getD 0) := by
    cases c : look l id with
    | none =>
      rw [c] at hv
      simp only [heldR, Option.some.injEq, Prod.mk.injEq, DataW.held.injEq] at hv
      exact hv.1
    | some x =>
      rw [c] at hv
      simp only [heldR, Option.some.injEq, Prod.mk.injEq, DataW.held.injEq] at hv
      exact hv.1
  rw [hrun, hvz]
theorem putL_at {l : List (Int × Int)} {id : Int} {c : Value} (h : ∀ z, (putL l).atKey (.int .i64 id) z = .held c) : ∃ v, look l id = some v ∧ c = .int .i64 v := by
  cases e : look l id with
  | none =>
    have h1 := h (.held (.bool true))
    have h2 := h (.held (.bool false))
    rw [at_putL, e] at h1 h2
    have := h1.trans h2.symm
    simp at this
  | some v =>
    refine ⟨v, rfl, ?_⟩
    have h1 := h (.held c)
    rw [at_putL, e] at h1
    simpa using h1.symm
theorem wpList_next_tab {w : World} {ops : Array Oper} {rest : List Oper} {o : Oper} {a : Act} {Q : Exit → Act → World → Prop} (hg : o.guard = none) (it : Operand) (hop : o.op = Op.next it false) (b r n : Nat) (l : List (Int × Int)) (left : Lit → Bool) (cnt : Nat)
    (hit : a.eval it = .pointer (some ⟨r, 0, none⟩)) (h : w.ranges Tryz.prog 2 heldR b r n (putL l) left cnt)
    (hDone : cnt = 0 → (∀ kl, left kl = false) → wpList Tryz.prog ops Q rest (a.put o.dst (.tuple #[.bool false])) w)
    (hMore : ∀ (id v : Int) (w' : World) (cnt' : Nat), look l id = some v → left (.int .i64 id) = true → w'.ranges Tryz.prog 2 heldR b r n (putL l) (fun z => left z && !z.sameKey (.int .i64 id)) cnt' → cnt' < cnt → w.grownBy w' (some r) → w'.heap.size = w.heap.size →
      (Instr.entry (.pointer (some ⟨r, 0, none⟩))).run Tryz.prog w' = .ok (.tuple #[.int .i64 id, .int .i64 v]) w' → wpList Tryz.prog ops Q rest (a.put o.dst (.tuple #[.bool true, .int .i64 id, .int .i64 v])) w') :
    wpList Tryz.prog ops Q (o :: rest) a w :=
  wpList_next_ranges w hg it hop 2 (Maps.int_keyed (P := Tryz.prog) Tryz.underlying2) heldR (Value.int .i64) id (fun key kl hkey => by
      obtain ⟨x, rfl, _⟩ := Maps.keyOf_int_inv Tryz.underlying2 hkey
      exact ⟨x, rfl⟩) (fun v _ _ => ⟨v, rfl⟩) b r n (putL l) left cnt hit h hDone (fun x c kl y w' cnt' hkey hlk hv hat hrg hlt hgr hsz hen => by
    obtain ⟨x', ex, rfl, _⟩ := Maps.keyOf_int_inv Tryz.underlying2 hkey
    cases ex
    have hy : y.1 = .held c := by
      have h1 : heldR c = some y := hv
      unfold heldR at h1
      cases h1
      rfl
    rw [hy] at hat
    obtain ⟨v, hlv, rfl⟩ := putL_at hat
    exact hMore x v w' cnt' hlv hlk hrg hlt hgr hsz hen)
end Go.Proofs.YteajcmkaoahbeaaGreatDoor
