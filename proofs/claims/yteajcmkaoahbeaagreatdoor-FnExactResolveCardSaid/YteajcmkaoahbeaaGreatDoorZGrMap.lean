/- The program's look at a row of events. The program's events by their Ids, in a map. -/
import Derived.Test.YteajcmkaoahbeaaGreatDoorZGrRow
import Derived.Test.YteajcmkaoahbeaaGreatDoorZEvRightImpl
import Derived.Maps.OwnSet
import Derived.Maps.Range
import Derived.WalkArith
namespace Go.Proofs.YteajcmkaoahbeaaGreatDoor
open Go.RowKit

/-- The Id ahead of a place. -/
def lastOf (es : List Em) : Nat → Int
  | 0 => 0
  | j + 1 => match es[j]? with
    | some m => m.v.id
    | none => 0
theorem right_id {v : Ev} (h : rightB v = true) : 1 ≤ v.id := by
  unfold rightB headB at h
  simp only [Bool.and_eq_true] at h
  exact (isB_yes h.1.1.1.1.1).1
theorem okAt_last {es : List Em} {room : Int} {k : Nat} (h : k < es.length) : okAt es room k = (decide (lastOf es k < es[k].v.id) && (es[k].v.room == room) && rightB es[k].v) := by
  cases k with
  | zero =>
    rw [okAt_zero h]
    cases hr : rightB es[0].v
    · simp
    · have := right_id hr
      have e : decide (lastOf es 0 < es[0].v.id) = true := decide_eq_true (by show (0 : Int) < _; omega)
      rw [e]
      simp
  | succ j =>
    rw [okAt_succ h]
    have e : lastOf es (j + 1) = es[j].v.id := by simp [lastOf, List.getElem?_eq_getElem (show j < es.length by omega)]
    rw [e]
    cases rightB es[j + 1].v <;> cases (es[j + 1].v.room == room) <;> simp
theorem lastOf_next {es : List Em} {k : Nat} (h : k < es.length) : lastOf es (k + 1) = es[k].v.id := by simp [lastOf, List.getElem?_eq_getElem h]
set_option maxHeartbeats 4000000 in
set_option maxRecDepth 100000 in
theorem row_impl (es : List Em) (room : Int) (most : Nat) (a : Option Addr) (cap : Nat) (w : World) (h : EvsAt w a es) (hmost : most ≤ 1000) :
    Calls Tryz.prog 109 #[.slice a es.length cap, .int .i64 room, .int .i64 most] w fun e w' => e = .returned (.bool (rowB es room most)) ∧ Below w.heap.size w w' := by
  have hl := h.len
  have H : Hid (EvsAt w a es) := h
  clear h
  by_cases hbig : es.length ≤ most
  · have bb : decide (most < es.length) = false := decide_eq_false (by omega)
    go_enter Tryz.func109, Tryz.ntmps109
    go_wp2
    go_loopw [7, 16] (fun l i wr => ∃ (k : Nat) (L : Int), k ≤ es.length ∧ i = .int .i64 k ∧ l = .int .i64 L ∧ Hid (L = lastOf es k) ∧ Hid (∀ j, j < k → okAt es room j = true) ∧ Below w.heap.size w wr) (fun _ i _ => es.length - (intOf i).toNat)
    case atStart => exact ⟨0, 0, Nat.zero_le _, rfl, rfl, rfl, fun _ h => absurd h (Nat.not_lt_zero _), Below.refl _ _⟩
    case round =>
      obtain ⟨k, L, hk, rfl, rfl, HLs, HO, hbw⟩ := hrel
      by_cases hlt : k < es.length
      · have HE : Hid (EvsAt wr a es) := H.out.kept hbw
        obtain ⟨b, off, rfl, hbb, hcell⟩ := HE.out.row (by omega)
        have hc0 : wr.cell? ⟨b, off + k * 9, none⟩ = some (.int .i64 es[k].v.id) := hcell k hlt 0 (by omega)
        have hc1 : wr.cell? ⟨b, off + k * 9 + 1, none⟩ = some (.int .i64 es[k].v.room) := by rw [Nat.add_assoc]; exact hcell k hlt 1 (by omega)
        have hc2 : wr.cell? ⟨b, off + k * 9 + 2, none⟩ = some (.int .i64 es[k].v.author) := by rw [Nat.add_assoc]; exact hcell k hlt 2 (by omega)
        have hc3 : wr.cell? ⟨b, off + k * 9 + 3, none⟩ = some (.int .i64 es[k].v.kind) := by rw [Nat.add_assoc]; exact hcell k hlt 3 (by omega)
        have hc4 : wr.cell? ⟨b, off + k * 9 + 4, none⟩ = some (.int .i64 es[k].v.key) := by rw [Nat.add_assoc]; exact hcell k hlt 4 (by omega)
        have hc5 : wr.cell? ⟨b, off + k * 9 + 5, none⟩ = some (.int .i64 es[k].v.n) := by rw [Nat.add_assoc]; exact hcell k hlt 5 (by omega)
        have hc6 : wr.cell? ⟨b, off + k * 9 + 6, none⟩ = some (.string es[k].v.text) := by rw [Nat.add_assoc]; exact hcell k hlt 6 (by omega)
        have hc7 : wr.cell? ⟨b, off + k * 9 + 7, none⟩ = some (.slice es[k].p es[k].v.prev.length es[k].c) := by rw [Nat.add_assoc]; exact hcell k hlt 7 (by omega)
        have hc8 : wr.cell? ⟨b, off + k * 9 + 8, none⟩ = some (.int .i64 es[k].v.time) := by rw [Nat.add_assoc]; exact hcell k hlt 8 (by omega)
        have HOK : Hid (okAt es room k = (decide (L < es[k].v.id) && (es[k].v.room == room) && rightB es[k].v)) := by unfold Hid; rw [HLs.out]; exact okAt_last hlt
        have HA : Hid (∀ o, Below w.heap.size w (wr.alloc o)) := fun o => hbw.alloc hbw.size o
        have HN : Hid (∀ o, NumsAt (wr.alloc o) es[k].p es[k].v.prev) := fun o => (HE.out.nums _ (List.getElem_mem hlt)).kept ((Below.refl _ _).alloc (Nat.le_refl _) o)
        clear hcell
        by_cases c1 : es[k].v.id ≤ L
        · have HS : Hid (rowB es room most = false) := rowB_no hlt (by
            have e : decide (L < es[k].v.id) = false := decide_eq_false (by omega)
            rw [HOK.out, e]
            rfl)
          have b1 : decide (es[k].v.id ≤ L) = true := decide_eq_true c1
          clear c1
          go_wp2
          go_ret
          exact ⟨ret_bool HS.out.symm, HA.out _⟩
        have b1 : decide (es[k].v.id ≤ L) = false := decide_eq_false c1
        have e1 : decide (L < es[k].v.id) = true := decide_eq_true (by omega)
        have HE1 : Hid (decide (L < es[k].v.id) = true) := e1
        clear c1 e1
        cases hrm : (es[k].v.room == room)
        · have HS : Hid (rowB es room most = false) := rowB_no hlt (okAt_room hlt hrm)
          have b2 : (es[k].v.room != room) = true := by simpa using hrm
          clear hrm
          go_wp2
          go_ret
          exact ⟨ret_bool HS.out.symm, HA.out _⟩
        have HRM : Hid ((es[k].v.room == room) = true) := hrm
        have b2 : (es[k].v.room != room) = false := by simpa using hrm
        clear hrm
        cases hr : rightB es[k].v
        · have HS : Hid (rowB es room most = false) := rowB_no hlt (okAt_right hlt hr)
          go_wp2_with fail
          refine (right_impl es[k].v es[k].p es[k].c _ (HN.out _)).mono ?_
          rintro e w1 ⟨rfl, hb1⟩
          rw [hr]
          have HW : Hid (Below w.heap.size w w1) := (HA.out _).trans (hb1.mono (HA.out _).size)
          clear hb1
          go_wp2
          go_ret
          exact ⟨ret_bool HS.out.symm, HW.out⟩
        · have HS : Hid (∀ j, j < k + 1 → okAt es room j = true) := fun j hj => by
            by_cases e : j = k
            · subst e
              rw [HOK.out, HE1.out, HRM.out, hr]
              rfl
            · exact HO.out j (by omega)
          go_wp2_with fail
          refine (right_impl es[k].v es[k].p es[k].c _ (HN.out _)).mono ?_
          rintro e w1 ⟨rfl, hb1⟩
          rw [hr]
          have HW : Hid (Below w.heap.size w w1) := (HA.out _).trans (hb1.mono (HA.out _).size)
          have hd : w1.cell? ⟨wr.heap.size, 0, none⟩ = some (.int .i64 es[k].v.id) := (hb1.cell (p := ⟨wr.heap.size, 0, none⟩) (by simp)).trans (by simp [go_sem])
          clear hb1
          go_wp2
          exact ⟨⟨k + 1, _, by omega, by go_num, rfl, (lastOf_next hlt).symm, HS, HW.out⟩, by simp [intOf]; omega⟩
      · have HS : Hid (rowB es room most = true) := rowB_yes hbig fun j hj => HO.out j (by omega)
        go_wp2
        go_ret
        exact ⟨ret_bool HS.out.symm, hbw⟩
  · have bb : decide (most < es.length) = true := decide_eq_true (by omega)
    have HS : Hid (rowB es room most = false) := rowB_big hbig
    go_enter Tryz.func109, Tryz.ntmps109
    go_wp2
    go_ret
    exact ⟨ret_bool HS.out.symm, Below.refl _ _⟩
end Go.Proofs.YteajcmkaoahbeaaGreatDoor
namespace Go.Proofs.YteajcmkaoahbeaaGreatDoor
open Go.RowKit

/-- An element of a map reads as itself. -/
def heldR (v : Value) : Option (DataW Value × List MemPlace) := some (.held v, [])
def emVal (m : Em) : Value := .agg (emCells m).toArray
/-- A map with a row's events put in, one by one. -/
def putAll (es : List Em) : DataW Value := es.foldl (fun D m => D.put (.int .i64 m.v.id) (.held (emVal m))) (.map [])
theorem putAll_snoc {es : List Em} {k : Nat} (h : k < es.length) : putAll (es.take (k + 1)) = (putAll (es.take k)).put (.int .i64 es[k].v.id) (.held (emVal es[k])) := by
  unfold putAll
  rw [List.take_succ_eq_append_getElem h, List.foldl_append]
  rfl
def IdIn (m : Em) : Prop := 1 ≤ m.v.id ∧ m.v.id ≤ 1000000
theorem idIn_wf {m : Em} (h : IdIn m) : (Lit.int .i64 m.v.id).wf = true := by
  obtain ⟨h1, h2⟩ := h
  exact WalkArith.wf_i64 ⟨by omega, by omega⟩
theorem run_makeMap_hint {P : Program} {t k e : TypeId} (ht : P.underlying t = some (.map k e)) (n : Int) (w : World) : (Instr.makeMap t (some (.int .i64 n))).run P w = .ok (.map (some w.heap.size)) (w.alloc (.map #[] 0)) := by
  simp [Instr.makeMap, run_underlying ht, asInt]
  rfl
set_option maxHeartbeats 4000000 in
set_option maxRecDepth 100000 in
theorem byId_impl (es : List Em) (a : Option Addr) (cap : Nat) (w : World) (h : EvsAt w a es) (hid : ∀ m ∈ es, IdIn m) (hl : es.length ≤ 60) :
    Calls Tryz.prog 110 #[.slice a es.length cap] w fun e w' => e = .returned (.map (some w.heap.size)) ∧ w'.ownsMap Tryz.prog 2 heldR w.heap.size es.length (putAll es) ∧ Below w.heap.size w w' := by
  have H : Hid (EvsAt w a es ∧ ∀ m ∈ es, IdIn m) := ⟨h, hid⟩
  clear h hid
  have hmm := @run_makeMap_hint Tryz.prog 130 _ _ Tryz.underlying130
  have K := Maps.int_keyed (P := Tryz.prog) Tryz.underlying2
  go_enter Tryz.func110, Tryz.ntmps110
  go_wp2
  go_loopw [11] (fun i wr => ∃ k : Nat, k ≤ es.length ∧ i = .int .i64 k ∧ Hid (wr.ownsMap Tryz.prog 2 heldR w.heap.size k (putAll (es.take k)) ∧ Below w.heap.size w wr)) (fun i _ => es.length - (intOf i).toNat)
  case atStart => exact ⟨0, Nat.zero_le _, rfl, World.ownsMap_made w _ _ _, (Below.refl _ _).alloc (Nat.le_refl _) _⟩
  case round =>
    obtain ⟨k, hk, rfl, HM⟩ := hrel
    by_cases hlt : k < es.length
    · have HE : Hid (EvsAt wr a es) := H.out.1.kept HM.out.2
      obtain ⟨b, off, rfl, hbb, hcell⟩ := HE.out.row (by omega)
      have hc0 : wr.cell? ⟨b, off + k * 9, none⟩ = some (.int .i64 es[k].v.id) := hcell k hlt 0 (by omega)
      have hc1 : wr.cell? ⟨b, off + k * 9 + 1, none⟩ = some (.int .i64 es[k].v.room) := by rw [Nat.add_assoc]; exact hcell k hlt 1 (by omega)
      have hc2 : wr.cell? ⟨b, off + k * 9 + 2, none⟩ = some (.int .i64 es[k].v.author) := by rw [Nat.add_assoc]; exact hcell k hlt 2 (by omega)
      have hc3 : wr.cell? ⟨b, off + k * 9 + 3, none⟩ = some (.int .i64 es[k].v.kind) := by rw [Nat.add_assoc]; exact hcell k hlt 3 (by omega)
      have hc4 : wr.cell? ⟨b, off + k * 9 + 4, none⟩ = some (.int .i64 es[k].v.key) := by rw [Nat.add_assoc]; exact hcell k hlt 4 (by omega)
      have hc5 : wr.cell? ⟨b, off + k * 9 + 5, none⟩ = some (.int .i64 es[k].v.n) := by rw [Nat.add_assoc]; exact hcell k hlt 5 (by omega)
      have hc6 : wr.cell? ⟨b, off + k * 9 + 6, none⟩ = some (.string es[k].v.text) := by rw [Nat.add_assoc]; exact hcell k hlt 6 (by omega)
      have hc7 : wr.cell? ⟨b, off + k * 9 + 7, none⟩ = some (.slice es[k].p es[k].v.prev.length es[k].c) := by rw [Nat.add_assoc]; exact hcell k hlt 7 (by omega)
      have hc8 : wr.cell? ⟨b, off + k * 9 + 8, none⟩ = some (.int .i64 es[k].v.time) := by rw [Nat.add_assoc]; exact hcell k hlt 8 (by omega)
      clear hcell
      have HK : Hid (keyOf Tryz.prog 2 (.int .i64 es[k].v.id) = some (.int .i64 es[k].v.id)) := Maps.keyOf_int_mk Tryz.underlying2 (idIn_wf (H.out.2 _ (List.getElem_mem hlt)))
      go_wp2_with (at_mapUpdate; refine wpList_mapUpdate_own _ rfl _ _ _ 130 rfl 2 114 K Tryz.underlying130 heldR w.heap.size k (putAll (es.take k)) rfl (HM.out.1.alloc _) (by unfold maxLen; omega) _ _ _ rfl rfl HK.out _ [] rfl ?_; intro w2 hown2 hgrow2; have HM2 : Hid (w2.ownsMap Tryz.prog 2 heldR w.heap.size (k + 1) (putAll (es.take (k + 1))) ∧ Below w.heap.size w w2) := ⟨(by rw [putAll_snoc hlt]; exact hown2), (HM.out.2.alloc HM.out.2.size _).grown hgrow2 (by have := HM.out.2.size; simp; omega) (fun q hq => by cases hq; omega)⟩; clear hown2 hgrow2)
      exact ⟨⟨k + 1, by omega, by go_num, HM2⟩, by simp [intOf]; omega⟩
    · have HS : Hid (wr.ownsMap Tryz.prog 2 heldR w.heap.size es.length (putAll es)) := by
        have e : k = es.length := by omega
        have h1 := HM.out.1
        rw [e, List.take_length] at h1
        exact h1
      go_wp2
      go_ret
      exact ⟨rfl, HS.out, HM.out.2⟩
end Go.Proofs.YteajcmkaoahbeaaGreatDoor
