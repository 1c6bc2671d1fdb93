/- The program's look at a row of events. -/
import Derived.Test.YtdldblfopcbfeaaGreatDoorZGrRow
import Derived.Test.YtdldblfopcbfeaaGreatDoorZEvRightImpl
namespace Go.Proofs.YtdldblfopcbfeaaGreatDoor
open Go.RowKit

/-- The Id ahead of a place. -/
def lastOf (es : List Em) : Nat → Int
  | 0 => 0
  | j + 1 => match es[j]? with
    | some m => m.v.id
    | none => 0
theorem right_id {v : Ev} (h : rightB v = true) : 1 ≤ v.id := by
  unfold rightB headB at h
  simp only [Bool.and_eq_true] at h
  exact (isB_yes h.1.1.1.1.1).1
theorem okAt_last {es : List Em} {room : Int} {k : Nat} (h : k < es.length) : okAt es room k = (decide (lastOf es k < es[k].v.id) && (es[k].v.room == room) && rightB es[k].v) := by
  cases k with
  | zero =>
    rw [okAt_zero h]
    cases hr : rightB es[0].v
    · simp
    · have := right_id hr
      have e : decide (lastOf es 0 < es[0].v.id) = true := decide_eq_true (by show (0 : Int) < _; omega)
      rw [e]
      simp
  | succ j =>
    rw [okAt_succ h]
    have e : lastOf es (j + 1) = es[j].v.id := by simp [lastOf, List.getElem?_eq_getElem (show j < es.length by omega)]
    rw [e]
    cases rightB es[j + 1].v <;> cases (es[j + 1].v.room == room) <;> simp
theorem lastOf_next {es : List Em} {k : Nat} (h : k < es.length) : lastOf es (k + 1) = es[k].v.id := by simp [lastOf, List.getElem?_eq_getElem h]
set_option maxHeartbeats 4000000 in
set_option maxRecDepth 100000 in
theorem row_impl (es : List Em) (room : Int) (most : Nat) (a : Option Addr) (cap : Nat) (w : World) (h : EvsAt w a es) (hmost : most ≤ 1000) :
    Calls Tryz.prog 59 #[.slice a es.length cap, .int .i64 room, .int .i64 most] w fun e w' => e = .returned (.bool (rowB es room most)) ∧ Below w.heap.size w w' := by
  have hl := h.len
  have H : Hid (EvsAt w a es) := h
  clear h
  by_cases hbig : es.length ≤ most
  · have bb : decide (most < es.length) = false := decide_eq_false (by omega)
    go_enter Tryz.func59, Tryz.ntmps59
    go_wp2
    go_loopw [7, 16] (fun l i wr => ∃ (k : Nat) (L : Int), k ≤ es.length ∧ i = .int .i64 k ∧ l = .int .i64 L ∧ Hid (L = lastOf es k) ∧ Hid (∀ j, j < k → okAt es room j = true) ∧ Below w.heap.size w wr) (fun _ i _ => es.length - (intOf i).toNat)
    case atStart => exact ⟨0, 0, Nat.zero_le _, rfl, rfl, rfl, fun _ h => absurd h (Nat.not_lt_zero _), Below.refl _ _⟩
    case round =>
      obtain ⟨k, L, hk, rfl, rfl, HLs, HO, hbw⟩ := hrel
      by_cases hlt : k < es.length
      · have HE : Hid (EvsAt wr a es) := H.out.kept hbw
        obtain ⟨b, off, rfl, hbb, hcell⟩ := HE.out.row (by omega)
        have hc0 : wr.cell? ⟨b, off + k * 9, none⟩ = some (.int .i64 es[k].v.id) := hcell k hlt 0 (by omega)
        have hc1 : wr.cell? ⟨b, off + k * 9 + 1, none⟩ = some (.int .i64 es[k].v.room) := by rw [Nat.add_assoc]; exact hcell k hlt 1 (by omega)
        have hc2 : wr.cell? ⟨b, off + k * 9 + 2, none⟩ = some (.int .i64 es[k].v.author) := by rw [Nat.add_assoc]; exact hcell k hlt 2 (by omega)
        have hc3 : wr.cell? ⟨b, off + k * 9 + 3, none⟩ = some (.int .i64 es[k].v.kind) := by rw [Nat.add_assoc]; exact hcell k hlt 3 (by omega)
        have hc4 : wr.cell? ⟨b, off + k * 9 + 4, none⟩ = some (.int .i64 es[k].v.key) := by rw [Nat.add_assoc]; exact hcell k hlt 4 (by omega)
        have hc5 : wr.cell? ⟨b, off + k * 9 + 5, none⟩ = some (.int .i64 es[k].v.n) := by rw [Nat.add_assoc]; exact hcell k hlt 5 (by omega)
        have hc6 : wr.cell? ⟨b, off + k * 9 + 6, none⟩ = some (.string es[k].v.text) := by rw [Nat.add_assoc]; exact hcell k hlt 6 (by omega)
        have hc7 : wr.cell? ⟨b, off + k * 9 + 7, none⟩ = some (.slice es[k].p es[k].v.prev.length es[k].c) := by rw [Nat.add_assoc]; exact hcell k hlt 7 (by omega)
        have hc8 : wr.cell? ⟨b, off + k * 9 + 8, none⟩ = some (.int .i64 es[k].v.time) := by rw [Nat.add_assoc]; exact hcell k hlt 8 (by omega)
        have HOK : Hid (okAt es room k = (decide (L < es[k].v.id) && (es[k].v.room == room) && rightB es[k].v)) := by unfold Hid; rw [HLs.out]; exact okAt_last hlt
        have HA : Hid (∀ o, Below w.heap.size w (wr.alloc o)) := fun o => hbw.alloc hbw.size o
        have HN : Hid (∀ o, NumsAt (wr.alloc o) es[k].p es[k].v.prev) := fun o => (HE.out.nums _ (List.getElem_mem hlt)).kept ((Below.refl _ _).alloc (Nat.le_refl _) o)
        clear hcell
        by_cases c1 : es[k].v.id ≤ L
        · have HS : Hid (rowB es room most = false) := rowB_no hlt (by
            have e : decide (L < es[k].v.id) = false := decide_eq_false (by omega)
            rw [HOK.out, e]
            rfl)
          have b1 : decide (es[k].v.id ≤ L) = true := decide_eq_true c1
          clear c1
          go_wp2
          go_ret
          exact ⟨ret_bool HS.out.symm, HA.out _⟩
        have b1 : decide (es[k].v.id ≤ L) = false := decide_eq_false c1
        have e1 : decide (L < es[k].v.id) = true := decide_eq_true (by omega)
        have HE1 : Hid (decide (L < es[k].v.id) = true) := e1
        clear c1 e1
        cases hrm : (es[k].v.room == room)
        · have HS : Hid (rowB es room most = false) := rowB_no hlt (okAt_room hlt hrm)
          have b2 : (es[k].v.room != room) = true := by simpa using hrm
          clear hrm
          go_wp2
          go_ret
          exact ⟨ret_bool HS.out.symm, HA.out _⟩
        have HRM : Hid ((es[k].v.room == room) = true) := hrm
        have b2 : (es[k].v.room != room) = false := by simpa using hrm
        clear hrm
        cases hr : rightB es[k].v
        · have HS : Hid (rowB es room most = false) := rowB_no hlt (okAt_right hlt hr)
          go_wp2_with fail
          refine (right_impl es[k].v es[k].p es[k].c _ (HN.out _)).mono ?_
          rintro e w1 ⟨rfl, hb1⟩
          rw [hr]
          have HW : Hid (Below w.heap.size w w1) := (HA.out _).trans (hb1.mono (HA.out _).size)
          clear hb1
          go_wp2
          go_ret
          exact ⟨ret_bool HS.out.symm, HW.out⟩
        · have HS : Hid (∀ j, j < k + 1 → okAt es room j = true) := fun j hj => by
            by_cases e : j = k
            · subst e
              rw [HOK.out, HE1.out, HRM.out, hr]
              rfl
            · exact HO.out j (by omega)
          go_wp2_with fail
          refine (right_impl es[k].v es[k].p es[k].c _ (HN.out _)).mono ?_
          rintro e w1 ⟨rfl, hb1⟩
          rw [hr]
          have HW : Hid (Below w.heap.size w w1) := (HA.out _).trans (hb1.mono (HA.out _).size)
          have hd : w1.cell? ⟨wr.heap.size, 0, none⟩ = some (.int .i64 es[k].v.id) := (hb1.cell (p := ⟨wr.heap.size, 0, none⟩) (by simp)).trans (by simp [go_sem])
          clear hb1
          go_wp2
          exact ⟨⟨k + 1, _, by omega, by go_num, rfl, (lastOf_next hlt).symm, HS, HW.out⟩, by simp [intOf]; omega⟩
      · have HS : Hid (rowB es room most = true) := rowB_yes hbig fun j hj => HO.out j (by omega)
        go_wp2
        go_ret
        exact ⟨ret_bool HS.out.symm, hbw⟩
  · have bb : decide (most < es.length) = true := decide_eq_true (by omega)
    have HS : Hid (rowB es room most = false) := rowB_big hbig
    go_enter Tryz.func59, Tryz.ntmps59
    go_wp2
    go_ret
    exact ⟨ret_bool HS.out.symm, Below.refl _ _⟩
end Go.Proofs.YtdldblfopcbfeaaGreatDoor
