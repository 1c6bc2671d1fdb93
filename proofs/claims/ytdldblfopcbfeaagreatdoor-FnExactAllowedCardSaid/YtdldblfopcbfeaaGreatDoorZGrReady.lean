/- The program's events by their Ids, in a map. The program's look whether an event waits for nothing. -/
import Derived.Test.YtdldblfopcbfeaaGreatDoorZGrRowI
import Derived.Maps.OwnSet
import Derived.Maps.Range
import Derived.WalkArith
namespace Go.Proofs.YtdldblfopcbfeaaGreatDoor
open Go.RowKit

/-- An element of a map reads as itself. -/
def heldR (v : Value) : Option (DataW Value × List MemPlace) := some (.held v, [])
def emVal (m : Em) : Value := .agg (emCells m).toArray
/-- A map with a row's events put in, one by one. -/
def putAll (es : List Em) : DataW Value := es.foldl (fun D m => D.put (.int .i64 m.v.id) (.held (emVal m))) (.map [])
theorem putAll_snoc {es : List Em} {k : Nat} (h : k < es.length) : putAll (es.take (k + 1)) = (putAll (es.take k)).put (.int .i64 es[k].v.id) (.held (emVal es[k])) := by
  unfold putAll
  rw [List.take_succ_eq_append_getElem h, List.foldl_append]
  rfl
def IdIn (m : Em) : Prop := 1 ≤ m.v.id ∧ m.v.id ≤ 1000000
theorem idIn_wf {m : Em} (h : IdIn m) : (Lit.int .i64 m.v.id).wf = true := by
  obtain ⟨h1, h2⟩ := h
  exact WalkArith.wf_i64 ⟨by omega, by omega⟩
theorem run_makeMap_hint {P : Program} {t k e : TypeId} (ht : P.underlying t = some (.map k e)) (n : Int) (w : World) : (Instr.makeMap t (some (.int .i64 n))).run P w = .ok (.map (some w.heap.size)) (w.alloc (.map #[] 0)) := by
  simp [Instr.makeMap, run_underlying ht, asInt]
  rfl
set_option maxHeartbeats 4000000 in
set_option maxRecDepth 100000 in
theorem byId_impl (es : List Em) (a : Option Addr) (cap : Nat) (w : World) (h : EvsAt w a es) (hid : ∀ m ∈ es, IdIn m) (hl : es.length ≤ 60) :
    Calls Tryz.prog 60 #[.slice a es.length cap] w fun e w' => e = .returned (.map (some w.heap.size)) ∧ w'.ownsMap Tryz.prog 2 heldR w.heap.size es.length (putAll es) ∧ Below w.heap.size w w' := by
  have H : Hid (EvsAt w a es ∧ ∀ m ∈ es, IdIn m) := ⟨h, hid⟩
  clear h hid
  have hmm := @run_makeMap_hint Tryz.prog 56 _ _ Tryz.underlying56
  have K := Maps.int_keyed (P := Tryz.prog) Tryz.underlying2
  go_enter Tryz.func60, Tryz.ntmps60
  go_wp2
  go_loopw [11] (fun i wr => ∃ k : Nat, k ≤ es.length ∧ i = .int .i64 k ∧ Hid (wr.ownsMap Tryz.prog 2 heldR w.heap.size k (putAll (es.take k)) ∧ Below w.heap.size w wr)) (fun i _ => es.length - (intOf i).toNat)
  case atStart => exact ⟨0, Nat.zero_le _, rfl, World.ownsMap_made w _ _ _, (Below.refl _ _).alloc (Nat.le_refl _) _⟩
  case round =>
    obtain ⟨k, hk, rfl, HM⟩ := hrel
    by_cases hlt : k < es.length
    · have HE : Hid (EvsAt wr a es) := H.out.1.kept HM.out.2
      obtain ⟨b, off, rfl, hbb, hcell⟩ := HE.out.row (by omega)
      have hc0 : wr.cell? ⟨b, off + k * 9, none⟩ = some (.int .i64 es[k].v.id) := hcell k hlt 0 (by omega)
      have hc1 : wr.cell? ⟨b, off + k * 9 + 1, none⟩ = some (.int .i64 es[k].v.room) := by rw [Nat.add_assoc]; exact hcell k hlt 1 (by omega)
      have hc2 : wr.cell? ⟨b, off + k * 9 + 2, none⟩ = some (.int .i64 es[k].v.author) := by rw [Nat.add_assoc]; exact hcell k hlt 2 (by omega)
      have hc3 : wr.cell? ⟨b, off + k * 9 + 3, none⟩ = some (.int .i64 es[k].v.kind) := by rw [Nat.add_assoc]; exact hcell k hlt 3 (by omega)
      have hc4 : wr.cell? ⟨b, off + k * 9 + 4, none⟩ = some (.int .i64 es[k].v.key) := by rw [Nat.add_assoc]; exact hcell k hlt 4 (by omega)
      have hc5 : wr.cell? ⟨b, off + k * 9 + 5, none⟩ = some (.int .i64 es[k].v.n) := by rw [Nat.add_assoc]; exact hcell k hlt 5 (by omega)
      have hc6 : wr.cell? ⟨b, off + k * 9 + 6, none⟩ = some (.string es[k].v.text) := by rw [Nat.add_assoc]; exact hcell k hlt 6 (by omega)
      have hc7 : wr.cell? ⟨b, off + k * 9 + 7, none⟩ = some (.slice es[k].p es[k].v.prev.length es[k].c) := by rw [Nat.add_assoc]; exact hcell k hlt 7 (by omega)
      have hc8 : wr.cell? ⟨b, off + k * 9 + 8, none⟩ = some (.int .i64 es[k].v.time) := by rw [Nat.add_assoc]; exact hcell k hlt 8 (by omega)
      clear hcell
      have HK : Hid (keyOf Tryz.prog 2 (.int .i64 es[k].v.id) = some (.int .i64 es[k].v.id)) := Maps.keyOf_int_mk Tryz.underlying2 (idIn_wf (H.out.2 _ (List.getElem_mem hlt)))
      go_wp2_with (at_mapUpdate; refine wpList_mapUpdate_own _ rfl _ _ _ 56 rfl 2 39 K Tryz.underlying56 heldR w.heap.size k (putAll (es.take k)) rfl (HM.out.1.alloc _) (by unfold maxLen; omega) _ _ _ rfl rfl HK.out _ [] rfl ?_; intro w2 hown2 hgrow2; have HM2 : Hid (w2.ownsMap Tryz.prog 2 heldR w.heap.size (k + 1) (putAll (es.take (k + 1))) ∧ Below w.heap.size w w2) := ⟨(by rw [putAll_snoc hlt]; exact hown2), (HM.out.2.alloc HM.out.2.size _).grown hgrow2 (by have := HM.out.2.size; simp; omega) (fun q hq => by cases hq; omega)⟩; clear hown2 hgrow2)
      exact ⟨⟨k + 1, by omega, by go_num, HM2⟩, by simp [intOf]; omega⟩
    · have HS : Hid (wr.ownsMap Tryz.prog 2 heldR w.heap.size es.length (putAll es)) := by
        have e : k = es.length := by omega
        have h1 := HM.out.1
        rw [e, List.take_length] at h1
        exact h1
      go_wp2
      go_ret
      exact ⟨rfl, HS.out, HM.out.2⟩
end Go.Proofs.YtdldblfopcbfeaaGreatDoor
namespace Go.Proofs.YtdldblfopcbfeaaGreatDoor
open Go.RowKit

theorem putAll_append (es fs : List Em) : putAll (es ++ fs) = fs.foldl (fun D m => D.put (.int .i64 m.v.id) (.held (emVal m))) (putAll es) := by
  unfold putAll
  rw [List.foldl_append]
theorem putAll_isMap (es : List Em) : Maps.IsMap (putAll es) := by
  have key : ∀ (l : List Em) (D : DataW Value), Maps.IsMap D → Maps.IsMap (l.foldl (fun D m => D.put (.int .i64 m.v.id) (.held (emVal m))) D) := by
    intro l
    induction l with
    | nil => exact fun D h => h
    | cons m l ih =>
      intro D h
      refine ih _ ?_
      obtain ⟨xs, rfl⟩ := h
      exact ⟨_, rfl⟩
  exact key es _ ⟨[], rfl⟩
theorem lit_ne {a b : Int} (h : a ≠ b) : Lit.int .i64 a ≠ Lit.int .i64 b := fun e => h (by cases e; rfl)
theorem has_fold_putAll (id : Int) : ∀ (l : List Em) (D : DataW Value), Maps.IsMap D → Maps.has (l.foldl (fun D m => D.put (.int .i64 m.v.id) (.held (emVal m))) D) (.int .i64 id) = (Maps.has D (.int .i64 id) || decide (id ∈ idsOf l))
  | [], D, _ => by simp [idsOf]
  | m :: l, D, hD => by
    have hD2 : Maps.IsMap (D.put (.int .i64 m.v.id) (.held (emVal m))) := by
      obtain ⟨xs, rfl⟩ := hD
      exact ⟨_, rfl⟩
    rw [List.foldl_cons, has_fold_putAll id l _ hD2]
    by_cases e : id = m.v.id
    · subst e
      rw [Maps.has_put_same hD (by trivial)]
      simp [idsOf]
    · rw [Maps.has_put_other (lit_ne e)]
      simp [idsOf, e]
theorem has_putAll (es : List Em) (id : Int) : Maps.has (putAll es) (.int .i64 id) = decide (id ∈ idsOf es) := by
  unfold putAll
  rw [has_fold_putAll id es _ ⟨[], rfl⟩]
  simp [Maps.has_eq]
theorem at_fold_putAll (id : Int) : ∀ (l : List Em) (D : DataW Value), Maps.IsMap D → (id ∉ idsOf l ∧ ∀ z, (l.foldl (fun D m => D.put (.int .i64 m.v.id) (.held (emVal m))) D).atKey (.int .i64 id) z = D.atKey (.int .i64 id) z) ∨ ∃ m ∈ l, m.v.id = id ∧ ∀ z, (l.foldl (fun D m => D.put (.int .i64 m.v.id) (.held (emVal m))) D).atKey (.int .i64 id) z = .held (emVal m)
  | [], D, _ => .inl ⟨by simp [idsOf], fun _ => rfl⟩
  | m :: l, D, hD => by
    have hD2 : Maps.IsMap (D.put (.int .i64 m.v.id) (.held (emVal m))) := by
      obtain ⟨xs, rfl⟩ := hD
      exact ⟨_, rfl⟩
    rcases at_fold_putAll id l _ hD2 with ⟨h1, h2⟩ | ⟨m', hm, h1, h2⟩
    · by_cases e : m.v.id = id
      · right
        refine ⟨m, List.mem_cons_self, e, fun z => ?_⟩
        rw [List.foldl_cons, h2 z, ← e]
        exact Maps.atKey_put_same hD (by trivial) _ z
      · left
        refine ⟨fun hm => ?_, fun z => ?_⟩
        · rcases List.mem_cons.1 hm with h | h
          · exact e h.symm
          · exact h1 h
        · rw [List.foldl_cons, h2 z]
          exact Maps.atKey_put_other (lit_ne fun h => e h.symm) _ z
    · exact .inr ⟨m', List.mem_cons_of_mem _ hm, h1, fun z => by rw [List.foldl_cons]; exact h2 z⟩
def zeroVal : Value := .agg #[.int .i64 0, .int .i64 0, .int .i64 0, .int .i64 0, .int .i64 0, .int .i64 0, .string ⟨#[]⟩, .slice none 0 0, .int .i64 0]
theorem zero_event (w : World) : (zeroValue 39).run Tryz.prog w = .ok zeroVal w := by kernel_rfl
/-- A look into the events by an Id: the event, or none. -/
theorem look_ev {w : World} {b n : Nat} {es : List Em} (h : w.ownsMap Tryz.prog 2 heldR b n (putAll es)) {id : Int} (hid : -9223372036854775808 ≤ id ∧ id ≤ 9223372036854775807) :
    (id ∉ idsOf es ∧ (Instr.lookup 56 (.map (some b)) (.int .i64 id) true).run Tryz.prog w = .ok (.tuple #[zeroVal, .bool false]) w) ∨ ∃ m ∈ es, m.v.id = id ∧ (Instr.lookup 56 (.map (some b)) (.int .i64 id) true).run Tryz.prog w = .ok (.tuple #[emVal m, .bool true]) w := by
  obtain ⟨v, ps, hrun, hv⟩ := h.look_ok (Maps.int_keyed (P := Tryz.prog) Tryz.underlying2) Tryz.underlying56 (zero_event w) (zd := .held zeroVal) (zp := []) rfl (Maps.keyOf_int_mk Tryz.underlying2 (WalkArith.wf_i64 hid))
  rw [has_putAll] at hrun
  rcases at_fold_putAll id es (.map []) ⟨[], rfl⟩ with ⟨h1, h2⟩ | ⟨m, hm, h1, h2⟩
  · left
    refine ⟨h1, ?_⟩
    have e : (putAll es).atKey (.int .i64 id) (.held zeroVal) = .held zeroVal := h2 _
    rw [e] at hv
    have hvz : v = zeroVal := by
      simp only [heldR, Option.some.injEq, Prod.mk.injEq, DataW.held.injEq] at hv
      exact hv.1
    rw [hrun, hvz, decide_eq_false h1]
  · right
    refine ⟨m, hm, h1, ?_⟩
    have e : (putAll es).atKey (.int .i64 id) (.held zeroVal) = .held (emVal m) := h2 _
    rw [e] at hv
    have hvz : v = emVal m := by
      simp only [heldR, Option.some.injEq, Prod.mk.injEq, DataW.held.injEq] at hv
      exact hv.1
    have hin : id ∈ idsOf es := List.mem_map.2 ⟨m, hm, h1⟩
    rw [hrun, hvz, decide_eq_true hin]
theorem ownsMap_below {w w' : World} {P : Program} {k : TypeId} {R : Value → Option (DataW Value × List MemPlace)} {b n : Nat} {D : DataW Value} (h : w.ownsMap P k R b n D) (hb : Below w.heap.size w w') : w'.ownsMap P k R b n D := by
  obtain ⟨es, clock, h1, r⟩ := h
  exact ⟨es, clock, (hb.block b (Array.getElem?_eq_some_iff.1 h1).1).trans h1, r⟩
set_option maxHeartbeats 4000000 in
set_option maxRecDepth 100000 in
theorem ready_impl (evs : List Em) (m : Em) (be n : Nat) (pv : Value) (w : World) (h : w.ownsMap Tryz.prog 2 heldR be n (putAll evs)) (hm : NumsAt w m.p m.v.prev) (hp : ∀ p ∈ m.v.prev, 1 ≤ p ∧ p ≤ 1000000) (hpv : ∃ bp, pv = .map bp) :
    Calls Tryz.prog 83 #[.agg #[.map (some be), pv], .agg #[.int .i64 m.v.id, .int .i64 m.v.room, .int .i64 m.v.author, .int .i64 m.v.kind, .int .i64 m.v.key, .int .i64 m.v.n, .string m.v.text, .slice m.p m.v.prev.length m.c, .int .i64 m.v.time]] w fun e w' => e = .returned (.bool (allIn (idsOf evs) m.v.prev)) ∧ Below w.heap.size w w' := by
  obtain ⟨bp, rfl⟩ := hpv
  have hl := hm.1
  have HB : Hid (∀ o1 o2, Below w.heap.size w ((w.alloc o1).alloc o2)) := fun o1 o2 => ((Below.refl _ _).alloc (Nat.le_refl _) _).alloc (by simp) _
  have H : Hid (w.ownsMap Tryz.prog 2 heldR be n (putAll evs) ∧ NumsAt w m.p m.v.prev ∧ ∀ p ∈ m.v.prev, 1 ≤ p ∧ p ≤ 1000000) := ⟨h, hm, hp⟩
  clear h hm hp
  go_enter Tryz.func83, Tryz.ntmps83
  go_wp2
  go_loopw [12] (fun i wr => ∃ k : Nat, k ≤ m.v.prev.length ∧ i = .int .i64 k ∧ Hid (∀ j (h : j < m.v.prev.length), j < k → 0 ≤ atI (idsOf evs) m.v.prev[j]) ∧ Hid (Below w.heap.size w wr ∧ wr.heap[w.heap.size]? = some (.cells #[.map (some be), .map bp] 88 (0, 0)))) (fun i _ => m.v.prev.length - (intOf i).toNat)
  case atStart => exact ⟨0, Nat.zero_le _, rfl, fun _ _ h => absurd h (Nat.not_lt_zero _), HB.out _ _, (Below.heap_alloc _ _ _ (by simp)).trans (MapKept.heap_alloc w _).1⟩
  case round =>
    obtain ⟨k, hk, rfl, HN, HW⟩ := hrel
    by_cases hlt : k < m.v.prev.length
    · have hc : wr.cell? ⟨w.heap.size, 0, none⟩ = some (.map (some be)) := cell_of_heap HW.out.2
      have HM : Hid (wr.ownsMap Tryz.prog 2 heldR be n (putAll evs)) := ownsMap_below H.out.1 HW.out.1
      obtain ⟨b, off, hpp, hbb, hcell⟩ := (H.out.2.1.kept HW.out.1).2 (by omega)
      have hck := hcell k hlt
      have hz := H.out.2.2 _ (List.getElem_mem hlt)
      rw [hpp]
      clear hcell hpp
      rcases look_ev HM.out (id := m.v.prev[k]) ⟨by omega, by omega⟩ with ⟨hno, hrun⟩ | ⟨x, hx, hxi, hrun⟩
      · have HS : Hid (allIn (idsOf evs) m.v.prev = false) := allIn_no hlt (by
          have h3 : ¬ 0 ≤ atI (idsOf evs) m.v.prev[k] := fun h => hno (atI_mem.1 h)
          omega)
        unfold zeroVal at hrun
        clear hno
        go_wp2
        go_ret
        exact ⟨ret_bool HS.out.symm, HW.out.1.alloc HW.out.1.size _⟩
      · have HS : Hid (∀ j (h : j < m.v.prev.length), j < k + 1 → 0 ≤ atI (idsOf evs) m.v.prev[j]) := fun j h hj => by
          by_cases e : j = k
          · subst e
            exact atI_mem.2 (List.mem_map.2 ⟨x, hx, hxi⟩)
          · exact HN.out j h (by omega)
        unfold emVal emCells at hrun
        clear hx hxi
        go_wp2
        exact ⟨⟨k + 1, by omega, by go_num, HS, HW.out.1.alloc HW.out.1.size _, (Below.heap_alloc _ _ _ (Array.getElem?_eq_some_iff.1 HW.out.2).1).trans HW.out.2⟩, by simp [intOf]; omega⟩
    · have HS : Hid (allIn (idsOf evs) m.v.prev = true) := allIn_yes fun j h => HN.out j h (by omega)
      go_wp2
      go_ret
      exact ⟨ret_bool HS.out.symm, HW.out.1⟩
end Go.Proofs.YtdldblfopcbfeaaGreatDoor
