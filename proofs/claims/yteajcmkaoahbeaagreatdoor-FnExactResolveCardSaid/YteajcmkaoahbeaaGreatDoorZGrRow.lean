/- The specification's look at a row of events. -/
import Derived.Test.YteajcmkaoahbeaaGreatDoorZGrDepth
import Derived.Test.YteajcmkaoahbeaaGreatDoorZEvRightC
import Derived.OrdersHeld
namespace Go.Proofs.YteajcmkaoahbeaaGreatDoor
open Go.RowKit

/-- May the event at a place of a row be so? -/
def okAt (es : List Em) (room : Int) (i : Nat) : Bool := match es[i]? with
  | none => true
  | some m => rightB m.v && (m.v.room == room) && (match i with
    | 0 => true
    | j + 1 => match es[j]? with
      | none => true
      | some m' => decide (m'.v.id < m.v.id))
def rowB (es : List Em) (room : Int) (most : Nat) : Bool := decide (es.length ≤ most) && (List.range es.length).all (okAt es room)
theorem rowB_no {es : List Em} {room : Int} {most k : Nat} (hk : k < es.length) (h : okAt es room k = false) : rowB es room most = false := by
  have : (List.range es.length).all (okAt es room) = false := List.all_eq_false.2 ⟨k, List.mem_range.2 hk, by simp [h]⟩
  simp [rowB, this]
theorem rowB_yes {es : List Em} {room : Int} {most : Nat} (hl : es.length ≤ most) (h : ∀ j, j < es.length → okAt es room j = true) : rowB es room most = true := by
  have : (List.range es.length).all (okAt es room) = true := List.all_eq_true.2 fun j hj => h j (List.mem_range.1 hj)
  simp [rowB, this, hl]
theorem rowB_big {es : List Em} {room : Int} {most : Nat} (hl : ¬ es.length ≤ most) : rowB es room most = false := by simp [rowB, hl]
theorem okAt_zero {es : List Em} {room : Int} (h : 0 < es.length) : okAt es room 0 = (rightB es[0].v && (es[0].v.room == room)) := by
  simp [okAt, List.getElem?_eq_getElem h]
theorem okAt_succ {es : List Em} {room : Int} {j : Nat} (h : j + 1 < es.length) : okAt es room (j + 1) = (rightB es[j + 1].v && (es[j + 1].v.room == room) && decide (es[j].v.id < es[j + 1].v.id)) := by
  simp [okAt, List.getElem?_eq_getElem h, List.getElem?_eq_getElem (show j < es.length by omega)]
theorem okAt_right {es : List Em} {room : Int} {k : Nat} (h : k < es.length) (hr : rightB es[k].v = false) : okAt es room k = false := by
  simp [okAt, List.getElem?_eq_getElem h, hr]
theorem okAt_room {es : List Em} {room : Int} {k : Nat} (h : k < es.length) (hr : (es[k].v.room == room) = false) : okAt es room k = false := by
  simp [okAt, List.getElem?_eq_getElem h, hr]
set_option maxHeartbeats 4000000 in
set_option maxRecDepth 100000 in
theorem row_spec (es : List Em) (room : Int) (most : Nat) (a : Option Addr) (cap : Nat) (w : World) (h : EvsAt w a es) (hmost : most ≤ 1000) :
    Calls Tryz.prog 62 #[.slice a es.length cap, .int .i64 room, .int .i64 most] w fun e w' => e = .returned (.bool (rowB es room most)) ∧ Below w.heap.size w w' := by
  have hl := h.len
  have H : Hid (EvsAt w a es) := h
  clear h
  by_cases hbig : es.length ≤ most
  · have bb : decide (most < es.length) = false := decide_eq_false (by omega)
    go_enter Tryz.func62, Tryz.ntmps62
    go_wp2
    go_loopw [7] (fun i wr => ∃ k : Nat, k ≤ es.length ∧ i = .int .i64 k ∧ Hid (∀ j, j < k → okAt es room j = true) ∧ Below w.heap.size w wr) (fun i _ => es.length - (intOf i).toNat)
    case atStart => exact ⟨0, Nat.zero_le _, rfl, fun _ h => absurd h (Nat.not_lt_zero _), Below.refl _ _⟩
    case round =>
      obtain ⟨k, hk, rfl, HO, hbw⟩ := hrel
      by_cases hlt : k < es.length
      · have HE : Hid (EvsAt wr a es) := H.out.kept hbw
        obtain ⟨b, off, rfl, hbb, hcell⟩ := HE.out.row (by omega)
        have HC : Hid (∀ i (h : i < es.length) j, j < 9 → wr.cell? ⟨b, off + (i * 9 + j), none⟩ = (emCells es[i])[j]?) := hcell
        have HN : Hid (NumsAt wr.drew es[k].p es[k].v.prev) := (HE.out.nums _ (List.getElem_mem hlt)).kept (Below.drew (Below.refl _ _))
        have hc0 : wr.cell? ⟨b, off + k * 9, none⟩ = some (.int .i64 es[k].v.id) := hcell k hlt 0 (by omega)
        have hc1 : wr.cell? ⟨b, off + k * 9 + 1, none⟩ = some (.int .i64 es[k].v.room) := by rw [Nat.add_assoc]; exact hcell k hlt 1 (by omega)
        have hc2 : wr.cell? ⟨b, off + k * 9 + 2, none⟩ = some (.int .i64 es[k].v.author) := by rw [Nat.add_assoc]; exact hcell k hlt 2 (by omega)
        have hc3 : wr.cell? ⟨b, off + k * 9 + 3, none⟩ = some (.int .i64 es[k].v.kind) := by rw [Nat.add_assoc]; exact hcell k hlt 3 (by omega)
        have hc4 : wr.cell? ⟨b, off + k * 9 + 4, none⟩ = some (.int .i64 es[k].v.key) := by rw [Nat.add_assoc]; exact hcell k hlt 4 (by omega)
        have hc5 : wr.cell? ⟨b, off + k * 9 + 5, none⟩ = some (.int .i64 es[k].v.n) := by rw [Nat.add_assoc]; exact hcell k hlt 5 (by omega)
        have hc6 : wr.cell? ⟨b, off + k * 9 + 6, none⟩ = some (.string es[k].v.text) := by rw [Nat.add_assoc]; exact hcell k hlt 6 (by omega)
        have hc7 : wr.cell? ⟨b, off + k * 9 + 7, none⟩ = some (.slice es[k].p es[k].v.prev.length es[k].c) := by rw [Nat.add_assoc]; exact hcell k hlt 7 (by omega)
        have hc8 : wr.cell? ⟨b, off + k * 9 + 8, none⟩ = some (.int .i64 es[k].v.time) := by rw [Nat.add_assoc]; exact hcell k hlt 8 (by omega)
        clear hcell
        cases hr : rightB es[k].v
        · have HS : Hid (rowB es room most = false) := rowB_no hlt (okAt_right hlt hr)
          go_wp2
          refine wp_region_any (by kernel_rfl) ?_
          change wpAny _ _ _ _ _ _ _ (World.drew _)
          refine wpAny_take (i := 0) (v := (.slice (some ⟨b, off, none⟩) es.length cap)) rfl (by kernel_rfl) (by kernel_rfl) (by kernel_rfl) (fun _ _ _ h => h) (Or.inl ⟨by kernel_rfl, ?_⟩) ?_
          · intro w
            go_simp
          refine wpAny_take (i := 1) (v := (.int .i64 k)) rfl (by kernel_rfl) (by kernel_rfl) (by kernel_rfl) (fun _ _ _ h => h) (Or.inl ⟨by kernel_rfl, ?_⟩) ?_
          · intro w
            go_simp
          refine wpAny_take (i := 2) (v := (.pointer (some ⟨b, off + k * 9, none⟩))) rfl (by kernel_rfl) (by kernel_rfl) (by kernel_rfl) (fun _ _ _ h => h) (Or.inl ⟨by kernel_rfl, ?_⟩) ?_
          · intro w
            go_simp
          refine wpAny_ready (rs := [3]) (by kernel_rfl) (by simp) ?_
          refine AllReady.cons rfl (fun K hK => ?_) AllReady.nil
          go_simp
          refine hK _ _ ?_
          clear hK K
          refine wpAny_ready (rs := [4]) (by kernel_rfl) (by simp) ?_
          refine AllReady.cons rfl (fun K hK => ?_) AllReady.nil
          go_simp
          go_wp2_with (go_at_call 96; refine (right_spec es[k].v es[k].p es[k].c _ HN.out).mono ?_; rintro e w1 ⟨rfl, hb1⟩; rw [hr]; have HW : Hid (Below w.heap.size w w1) := hbw.trans ((Below.drew (Below.refl _ _)).trans (hb1.mono hbw.size)); have hd0 : w1.cell? ⟨b, off + k * 9, none⟩ = some (.int .i64 es[k].v.id) := (hb1.cell (p := ⟨b, off + k * 9, none⟩) hbb).trans hc0; have hd1 : w1.cell? ⟨b, off + k * 9 + 1, none⟩ = some (.int .i64 es[k].v.room) := (hb1.cell (p := ⟨b, off + k * 9 + 1, none⟩) hbb).trans hc1; clear hb1)
          refine wpAny_take (i := 5) (v := (.bool true)) rfl (by kernel_rfl) (by kernel_rfl) (by kernel_rfl) (fun _ _ _ h => h) (Or.inl ⟨by kernel_rfl, ?_⟩) ?_
          · intro w
            go_simp
          refine wpAny_take (i := 6) (v := (.bool true)) rfl (by kernel_rfl) (by kernel_rfl) (by kernel_rfl) (fun _ _ _ h => h) (Or.inl ⟨by kernel_rfl, ?_⟩) ?_
          · intro w
            go_simp
          refine wpAny_take (i := 7) (v := undef) rfl (by kernel_rfl) (by kernel_rfl) (by kernel_rfl) (fun _ _ _ h => h) (Or.inr ⟨by kernel_rfl, rfl⟩) ?_
          refine wpAny_take (i := 8) (v := undef) rfl (by kernel_rfl) (by kernel_rfl) (by kernel_rfl) (fun _ _ _ h => h) (Or.inr ⟨by kernel_rfl, rfl⟩) ?_
          refine wpAny_take (i := 9) (v := undef) rfl (by kernel_rfl) (by kernel_rfl) (by kernel_rfl) (fun _ _ _ h => h) (Or.inr ⟨by kernel_rfl, rfl⟩) ?_
          refine wpAny_take (i := 10) (v := undef) rfl (by kernel_rfl) (by kernel_rfl) (by kernel_rfl) (fun _ _ _ h => h) (Or.inr ⟨by kernel_rfl, rfl⟩) ?_
          refine wpAny_take (i := 11) (v := undef) rfl (by kernel_rfl) (by kernel_rfl) (by kernel_rfl) (fun _ _ _ h => h) (Or.inr ⟨by kernel_rfl, rfl⟩) ?_
          refine wpAny_take (i := 12) (v := undef) rfl (by kernel_rfl) (by kernel_rfl) (by kernel_rfl) (fun _ _ _ h => h) (Or.inr ⟨by kernel_rfl, rfl⟩) ?_
          refine wpAny_take (i := 13) (v := undef) rfl (by kernel_rfl) (by kernel_rfl) (by kernel_rfl) (fun _ _ _ h => h) (Or.inr ⟨by kernel_rfl, rfl⟩) ?_
          refine wpAny_take (i := 14) (v := (.bool true)) rfl (by kernel_rfl) (by kernel_rfl) (by kernel_rfl) (fun _ _ _ h => h) (Or.inl ⟨by kernel_rfl, ?_⟩) ?_
          · intro w
            go_simp
          refine wpAny_take (i := 15) (v := (.bool true)) rfl (by kernel_rfl) (by kernel_rfl) (by kernel_rfl) (fun _ _ _ h => h) (Or.inl ⟨by kernel_rfl, ?_⟩) ?_
          · intro w
            go_simp
          refine wpAny_take (i := 16) (v := undef) rfl (by kernel_rfl) (by kernel_rfl) (by kernel_rfl) (fun _ _ _ h => h) (Or.inr ⟨by kernel_rfl, rfl⟩) ?_
          refine wpAny_take (i := 17) (v := undef) rfl (by kernel_rfl) (by kernel_rfl) (by kernel_rfl) (fun _ _ _ h => h) (Or.inr ⟨by kernel_rfl, rfl⟩) ?_
          refine wpAny_take (i := 18) (v := undef) rfl (by kernel_rfl) (by kernel_rfl) (by kernel_rfl) (fun _ _ _ h => h) (Or.inr ⟨by kernel_rfl, rfl⟩) ?_
          refine wpAny_take (i := 19) (v := undef) rfl (by kernel_rfl) (by kernel_rfl) (by kernel_rfl) (fun _ _ _ h => h) (Or.inr ⟨by kernel_rfl, rfl⟩) ?_
          refine wpAny_take (i := 20) (v := undef) rfl (by kernel_rfl) (by kernel_rfl) (by kernel_rfl) (fun _ _ _ h => h) (Or.inr ⟨by kernel_rfl, rfl⟩) ?_
          refine wpAny_take (i := 21) (v := undef) rfl (by kernel_rfl) (by kernel_rfl) (by kernel_rfl) (fun _ _ _ h => h) (Or.inr ⟨by kernel_rfl, rfl⟩) ?_
          refine wpAny_take (i := 22) (v := undef) rfl (by kernel_rfl) (by kernel_rfl) (by kernel_rfl) (fun _ _ _ h => h) (Or.inr ⟨by kernel_rfl, rfl⟩) ?_
          refine wpAny_take (i := 23) (v := undef) rfl (by kernel_rfl) (by kernel_rfl) (by kernel_rfl) (fun _ _ _ h => h) (Or.inr ⟨by kernel_rfl, rfl⟩) ?_
          refine wpAny_take (i := 24) (v := undef) rfl (by kernel_rfl) (by kernel_rfl) (by kernel_rfl) (fun _ _ _ h => h) (Or.inr ⟨by kernel_rfl, rfl⟩) ?_
          refine wpAny_take (i := 25) (v := undef) rfl (by kernel_rfl) (by kernel_rfl) (by kernel_rfl) (fun _ _ _ h => h) (Or.inr ⟨by kernel_rfl, rfl⟩) ?_
          refine wpAny_take (i := 26) (v := undef) rfl (by kernel_rfl) (by kernel_rfl) (by kernel_rfl) (fun _ _ _ h => h) (Or.inr ⟨by kernel_rfl, rfl⟩) ?_
          refine wpAny_take (i := 27) (v := undef) rfl (by kernel_rfl) (by kernel_rfl) (by kernel_rfl) (fun _ _ _ h => h) (Or.inr ⟨by kernel_rfl, rfl⟩) ?_
          refine wpAny_take (i := 28) (v := undef) rfl (by kernel_rfl) (by kernel_rfl) (by kernel_rfl) (fun _ _ _ h => h) (Or.inr ⟨by kernel_rfl, rfl⟩) ?_
          refine wpAny_take (i := 29) (v := undef) rfl (by kernel_rfl) (by kernel_rfl) (by kernel_rfl) (fun _ _ _ h => h) (Or.inr ⟨by kernel_rfl, rfl⟩) ?_
          refine wpAny_take (i := 30) (v := undef) rfl (by kernel_rfl) (by kernel_rfl) (by kernel_rfl) (fun _ _ _ h => h) (Or.inr ⟨by kernel_rfl, rfl⟩) ?_
          refine wpAny_take (i := 31) (v := undef) rfl (by kernel_rfl) (by kernel_rfl) (by kernel_rfl) (fun _ _ _ h => h) (Or.inr ⟨by kernel_rfl, rfl⟩) ?_
          refine wpAny_take (i := 32) (v := (.bool true)) rfl (by kernel_rfl) (by kernel_rfl) (by kernel_rfl) (fun _ _ _ h => h) (Or.inl ⟨by kernel_rfl, ?_⟩) ?_
          · intro w
            go_simp
          refine wpAny_done (by kernel_rfl) ?_ _
          simp only [Act.put, List.setIfInBounds_toArray, List.set_cons_zero, List.set_cons_succ, List.getElem_toArray, List.getElem_cons_zero, List.getElem_cons_succ]
          go_wp2
          go_ret
          exact ⟨ret_bool HS.out.symm, HW.out⟩
        cases hrm : (es[k].v.room == room)
        · have HS : Hid (rowB es room most = false) := rowB_no hlt (okAt_room hlt hrm)
          have b2 : (es[k].v.room != room) = true := by simpa using hrm
          clear hrm
          go_wp2
          refine wp_region_any (by kernel_rfl) ?_
          change wpAny _ _ _ _ _ _ _ (World.drew _)
          refine wpAny_take (i := 0) (v := (.slice (some ⟨b, off, none⟩) es.length cap)) rfl (by kernel_rfl) (by kernel_rfl) (by kernel_rfl) (fun _ _ _ h => h) (Or.inl ⟨by kernel_rfl, ?_⟩) ?_
          · intro w
            go_simp
          refine wpAny_take (i := 1) (v := (.int .i64 k)) rfl (by kernel_rfl) (by kernel_rfl) (by kernel_rfl) (fun _ _ _ h => h) (Or.inl ⟨by kernel_rfl, ?_⟩) ?_
          · intro w
            go_simp
          refine wpAny_take (i := 2) (v := (.pointer (some ⟨b, off + k * 9, none⟩))) rfl (by kernel_rfl) (by kernel_rfl) (by kernel_rfl) (fun _ _ _ h => h) (Or.inl ⟨by kernel_rfl, ?_⟩) ?_
          · intro w
            go_simp
          refine wpAny_ready (rs := [3]) (by kernel_rfl) (by simp) ?_
          refine AllReady.cons rfl (fun K hK => ?_) AllReady.nil
          go_simp
          refine hK _ _ ?_
          clear hK K
          refine wpAny_ready (rs := [4]) (by kernel_rfl) (by simp) ?_
          refine AllReady.cons rfl (fun K hK => ?_) AllReady.nil
          go_simp
          go_wp2_with (go_at_call 96; refine (right_spec es[k].v es[k].p es[k].c _ HN.out).mono ?_; rintro e w1 ⟨rfl, hb1⟩; rw [hr]; have HW : Hid (Below w.heap.size w w1) := hbw.trans ((Below.drew (Below.refl _ _)).trans (hb1.mono hbw.size)); have hd0 : w1.cell? ⟨b, off + k * 9, none⟩ = some (.int .i64 es[k].v.id) := (hb1.cell (p := ⟨b, off + k * 9, none⟩) hbb).trans hc0; have hd1 : w1.cell? ⟨b, off + k * 9 + 1, none⟩ = some (.int .i64 es[k].v.room) := (hb1.cell (p := ⟨b, off + k * 9 + 1, none⟩) hbb).trans hc1; clear hb1)
          refine wpAny_take (i := 5) (v := (.bool false)) rfl (by kernel_rfl) (by kernel_rfl) (by kernel_rfl) (fun _ _ _ h => h) (Or.inl ⟨by kernel_rfl, ?_⟩) ?_
          · intro w
            go_simp
          refine wpAny_take (i := 6) (v := (.bool false)) rfl (by kernel_rfl) (by kernel_rfl) (by kernel_rfl) (fun _ _ _ h => h) (Or.inl ⟨by kernel_rfl, ?_⟩) ?_
          · intro w
            go_simp
          refine wpAny_of_held (S := fun W => W = w1) _ _ _ _ ?_
          refine wpAnyH_take (i := 7) (v := (.slice (some ⟨b, off, none⟩) es.length cap)) rfl (by kernel_rfl) (by kernel_rfl) (by kernel_rfl) (fun _ _ _ h => h) (Or.inl ⟨by kernel_rfl, ?_⟩) rfl ?_
          · intro W hW
            subst hW
            go_simp
          refine wpAnyH_take (i := 8) (v := (.int .i64 k)) rfl (by kernel_rfl) (by kernel_rfl) (by kernel_rfl) (fun _ _ _ h => h) (Or.inl ⟨by kernel_rfl, ?_⟩) rfl ?_
          · intro W hW
            subst hW
            go_simp
          refine wpAnyH_take (i := 9) (v := (.pointer (some ⟨b, off + k * 9, none⟩))) rfl (by kernel_rfl) (by kernel_rfl) (by kernel_rfl) (fun _ _ _ h => h) (Or.inl ⟨by kernel_rfl, ?_⟩) rfl ?_
          · intro W hW
            subst hW
            go_simp
          refine wpAnyH_take (i := 10) (v := (.pointer (some ⟨b, off + k * 9 + 1, none⟩))) rfl (by kernel_rfl) (by kernel_rfl) (by kernel_rfl) (fun _ _ _ h => h) (Or.inl ⟨by kernel_rfl, ?_⟩) rfl ?_
          · intro W hW
            subst hW
            go_simp
          refine wpAnyH_take (i := 11) (v := (.int .i64 es[k].v.room)) rfl (by kernel_rfl) (by kernel_rfl) (by kernel_rfl) (fun _ _ _ h => h) (Or.inl ⟨by kernel_rfl, ?_⟩) rfl ?_
          · intro W hW
            subst hW
            go_simp
          refine wpAnyH_take (i := 12) (v := (.int .i64 room)) rfl (by kernel_rfl) (by kernel_rfl) (by kernel_rfl) (fun _ _ _ h => h) (Or.inl ⟨by kernel_rfl, ?_⟩) rfl ?_
          · intro W hW
            subst hW
            go_simp
          refine wpAnyH_take (i := 13) (v := (.bool true)) rfl (by kernel_rfl) (by kernel_rfl) (by kernel_rfl) (fun _ _ _ h => h) (Or.inl ⟨by kernel_rfl, ?_⟩) rfl ?_
          · intro W hW
            subst hW
            go_simp
          refine wpAnyH_take (i := 14) (v := (.bool true)) rfl (by kernel_rfl) (by kernel_rfl) (by kernel_rfl) (fun _ _ _ h => h) (Or.inl ⟨by kernel_rfl, ?_⟩) rfl ?_
          · intro W hW
            subst hW
            go_simp
          refine wpAnyH_take (i := 15) (v := (.bool true)) rfl (by kernel_rfl) (by kernel_rfl) (by kernel_rfl) (fun _ _ _ h => h) (Or.inl ⟨by kernel_rfl, ?_⟩) rfl ?_
          · intro W hW
            subst hW
            go_simp
          refine wpAnyH_take (i := 16) (v := undef) rfl (by kernel_rfl) (by kernel_rfl) (by kernel_rfl) (fun _ _ _ h => h) (Or.inr ⟨by kernel_rfl, rfl⟩) rfl ?_
          refine wpAnyH_take (i := 17) (v := undef) rfl (by kernel_rfl) (by kernel_rfl) (by kernel_rfl) (fun _ _ _ h => h) (Or.inr ⟨by kernel_rfl, rfl⟩) rfl ?_
          refine wpAnyH_take (i := 18) (v := undef) rfl (by kernel_rfl) (by kernel_rfl) (by kernel_rfl) (fun _ _ _ h => h) (Or.inr ⟨by kernel_rfl, rfl⟩) rfl ?_
          refine wpAnyH_take (i := 19) (v := undef) rfl (by kernel_rfl) (by kernel_rfl) (by kernel_rfl) (fun _ _ _ h => h) (Or.inr ⟨by kernel_rfl, rfl⟩) rfl ?_
          refine wpAnyH_take (i := 20) (v := undef) rfl (by kernel_rfl) (by kernel_rfl) (by kernel_rfl) (fun _ _ _ h => h) (Or.inr ⟨by kernel_rfl, rfl⟩) rfl ?_
          refine wpAnyH_take (i := 21) (v := undef) rfl (by kernel_rfl) (by kernel_rfl) (by kernel_rfl) (fun _ _ _ h => h) (Or.inr ⟨by kernel_rfl, rfl⟩) rfl ?_
          refine wpAnyH_take (i := 22) (v := undef) rfl (by kernel_rfl) (by kernel_rfl) (by kernel_rfl) (fun _ _ _ h => h) (Or.inr ⟨by kernel_rfl, rfl⟩) rfl ?_
          refine wpAnyH_take (i := 23) (v := undef) rfl (by kernel_rfl) (by kernel_rfl) (by kernel_rfl) (fun _ _ _ h => h) (Or.inr ⟨by kernel_rfl, rfl⟩) rfl ?_
          refine wpAnyH_take (i := 24) (v := undef) rfl (by kernel_rfl) (by kernel_rfl) (by kernel_rfl) (fun _ _ _ h => h) (Or.inr ⟨by kernel_rfl, rfl⟩) rfl ?_
          refine wpAnyH_take (i := 25) (v := undef) rfl (by kernel_rfl) (by kernel_rfl) (by kernel_rfl) (fun _ _ _ h => h) (Or.inr ⟨by kernel_rfl, rfl⟩) rfl ?_
          refine wpAnyH_take (i := 26) (v := undef) rfl (by kernel_rfl) (by kernel_rfl) (by kernel_rfl) (fun _ _ _ h => h) (Or.inr ⟨by kernel_rfl, rfl⟩) rfl ?_
          refine wpAnyH_take (i := 27) (v := undef) rfl (by kernel_rfl) (by kernel_rfl) (by kernel_rfl) (fun _ _ _ h => h) (Or.inr ⟨by kernel_rfl, rfl⟩) rfl ?_
          refine wpAnyH_take (i := 28) (v := undef) rfl (by kernel_rfl) (by kernel_rfl) (by kernel_rfl) (fun _ _ _ h => h) (Or.inr ⟨by kernel_rfl, rfl⟩) rfl ?_
          refine wpAnyH_take (i := 29) (v := undef) rfl (by kernel_rfl) (by kernel_rfl) (by kernel_rfl) (fun _ _ _ h => h) (Or.inr ⟨by kernel_rfl, rfl⟩) rfl ?_
          refine wpAnyH_take (i := 30) (v := undef) rfl (by kernel_rfl) (by kernel_rfl) (by kernel_rfl) (fun _ _ _ h => h) (Or.inr ⟨by kernel_rfl, rfl⟩) rfl ?_
          refine wpAnyH_take (i := 31) (v := undef) rfl (by kernel_rfl) (by kernel_rfl) (by kernel_rfl) (fun _ _ _ h => h) (Or.inr ⟨by kernel_rfl, rfl⟩) rfl ?_
          refine wpAnyH_take (i := 32) (v := (.bool true)) rfl (by kernel_rfl) (by kernel_rfl) (by kernel_rfl) (fun _ _ _ h => h) (Or.inl ⟨by kernel_rfl, ?_⟩) rfl ?_
          · intro W hW
            subst hW
            go_simp
          refine wpAnyH_done (by kernel_rfl) ?_ _
          simp only [Act.put, List.setIfInBounds_toArray, List.set_cons_zero, List.set_cons_succ, List.getElem_toArray, List.getElem_cons_zero, List.getElem_cons_succ]
          go_wp2
          go_ret
          exact ⟨ret_bool HS.out.symm, HW.out⟩
        have b2 : (es[k].v.room != room) = false := by simpa using hrm
        by_cases hk0 : 0 < k
        · obtain ⟨j, hj⟩ : ∃ j, k = j + 1 := ⟨k - 1, by omega⟩
          have hjl : j < es.length := by omega
          have hcj : wr.cell? ⟨b, off + j * 9, none⟩ = some (.int .i64 es[j].v.id) := HC.out j hjl 0 (by omega)
          have b3 : decide ((0 : Int) < (k : Int)) = true := decide_eq_true (by omega)
          have hk1 : 1 ≤ k := hk0
          have htn : ((k : Int) - 1).toNat = j := by omega
          have HJ : Hid (k = j + 1) := hj
          have HOK : Hid (okAt es room k = (rightB es[k].v && (es[k].v.room == room) && decide (es[j].v.id < es[k].v.id))) := by
            subst hj
            exact okAt_succ hlt
          clear hj hk0
          cases hid : decide (es[j].v.id < es[k].v.id)
          · have HS : Hid (rowB es room most = false) := rowB_no hlt (by rw [HOK.out, hid]; simp)
            have b4 : decide (es[k].v.id ≤ es[j].v.id) = true := by simpa using hid
            clear hrm hid
            go_wp2
            refine wp_region_any (by kernel_rfl) ?_
            change wpAny _ _ _ _ _ _ _ (World.drew _)
            refine wpAny_take (i := 0) (v := (.slice (some ⟨b, off, none⟩) es.length cap)) rfl (by kernel_rfl) (by kernel_rfl) (by kernel_rfl) (fun _ _ _ h => h) (Or.inl ⟨by kernel_rfl, ?_⟩) ?_
            · intro w
              go_simp
            refine wpAny_take (i := 1) (v := (.int .i64 k)) rfl (by kernel_rfl) (by kernel_rfl) (by kernel_rfl) (fun _ _ _ h => h) (Or.inl ⟨by kernel_rfl, ?_⟩) ?_
            · intro w
              go_simp
            refine wpAny_take (i := 2) (v := (.pointer (some ⟨b, off + k * 9, none⟩))) rfl (by kernel_rfl) (by kernel_rfl) (by kernel_rfl) (fun _ _ _ h => h) (Or.inl ⟨by kernel_rfl, ?_⟩) ?_
            · intro w
              go_simp
            refine wpAny_ready (rs := [3]) (by kernel_rfl) (by simp) ?_
            refine AllReady.cons rfl (fun K hK => ?_) AllReady.nil
            go_simp
            refine hK _ _ ?_
            clear hK K
            refine wpAny_ready (rs := [4]) (by kernel_rfl) (by simp) ?_
            refine AllReady.cons rfl (fun K hK => ?_) AllReady.nil
            go_simp
            go_wp2_with (go_at_call 96; refine (right_spec es[k].v es[k].p es[k].c _ HN.out).mono ?_; rintro e w1 ⟨rfl, hb1⟩; rw [hr]; have HW : Hid (Below w.heap.size w w1) := hbw.trans ((Below.drew (Below.refl _ _)).trans (hb1.mono hbw.size)); have hd0 : w1.cell? ⟨b, off + k * 9, none⟩ = some (.int .i64 es[k].v.id) := (hb1.cell (p := ⟨b, off + k * 9, none⟩) hbb).trans hc0; have hd1 : w1.cell? ⟨b, off + k * 9 + 1, none⟩ = some (.int .i64 es[k].v.room) := (hb1.cell (p := ⟨b, off + k * 9 + 1, none⟩) hbb).trans hc1; have hdj : w1.cell? ⟨b, off + j * 9, none⟩ = some (.int .i64 es[j].v.id) := (hb1.cell (p := ⟨b, off + j * 9, none⟩) hbb).trans hcj; clear hb1)
            refine wpAny_take (i := 5) (v := (.bool false)) rfl (by kernel_rfl) (by kernel_rfl) (by kernel_rfl) (fun _ _ _ h => h) (Or.inl ⟨by kernel_rfl, ?_⟩) ?_
            · intro w
              go_simp
            refine wpAny_take (i := 6) (v := (.bool false)) rfl (by kernel_rfl) (by kernel_rfl) (by kernel_rfl) (fun _ _ _ h => h) (Or.inl ⟨by kernel_rfl, ?_⟩) ?_
            · intro w
              go_simp
            refine wpAny_of_held (S := fun W => W = w1) _ _ _ _ ?_
            refine wpAnyH_take (i := 7) (v := (.slice (some ⟨b, off, none⟩) es.length cap)) rfl (by kernel_rfl) (by kernel_rfl) (by kernel_rfl) (fun _ _ _ h => h) (Or.inl ⟨by kernel_rfl, ?_⟩) rfl ?_
            · intro W hW
              subst hW
              go_simp
            refine wpAnyH_take (i := 8) (v := (.int .i64 k)) rfl (by kernel_rfl) (by kernel_rfl) (by kernel_rfl) (fun _ _ _ h => h) (Or.inl ⟨by kernel_rfl, ?_⟩) rfl ?_
            · intro W hW
              subst hW
              go_simp
            refine wpAnyH_take (i := 9) (v := (.pointer (some ⟨b, off + k * 9, none⟩))) rfl (by kernel_rfl) (by kernel_rfl) (by kernel_rfl) (fun _ _ _ h => h) (Or.inl ⟨by kernel_rfl, ?_⟩) rfl ?_
            · intro W hW
              subst hW
              go_simp
            refine wpAnyH_take (i := 10) (v := (.pointer (some ⟨b, off + k * 9 + 1, none⟩))) rfl (by kernel_rfl) (by kernel_rfl) (by kernel_rfl) (fun _ _ _ h => h) (Or.inl ⟨by kernel_rfl, ?_⟩) rfl ?_
            · intro W hW
              subst hW
              go_simp
            refine wpAnyH_take (i := 11) (v := (.int .i64 es[k].v.room)) rfl (by kernel_rfl) (by kernel_rfl) (by kernel_rfl) (fun _ _ _ h => h) (Or.inl ⟨by kernel_rfl, ?_⟩) rfl ?_
            · intro W hW
              subst hW
              go_simp
            refine wpAnyH_take (i := 12) (v := (.int .i64 room)) rfl (by kernel_rfl) (by kernel_rfl) (by kernel_rfl) (fun _ _ _ h => h) (Or.inl ⟨by kernel_rfl, ?_⟩) rfl ?_
            · intro W hW
              subst hW
              go_simp
            refine wpAnyH_take (i := 13) (v := (.bool false)) rfl (by kernel_rfl) (by kernel_rfl) (by kernel_rfl) (fun _ _ _ h => h) (Or.inl ⟨by kernel_rfl, ?_⟩) rfl ?_
            · intro W hW
              subst hW
              go_simp
            refine wpAnyH_take (i := 14) (v := (.bool false)) rfl (by kernel_rfl) (by kernel_rfl) (by kernel_rfl) (fun _ _ _ h => h) (Or.inl ⟨by kernel_rfl, ?_⟩) rfl ?_
            · intro W hW
              subst hW
              go_simp
            refine wpAnyH_take (i := 15) (v := (.bool false)) rfl (by kernel_rfl) (by kernel_rfl) (by kernel_rfl) (fun _ _ _ h => h) (Or.inl ⟨by kernel_rfl, ?_⟩) rfl ?_
            · intro W hW
              subst hW
              go_simp
            refine wpAnyH_take (i := 16) (v := (.int .i64 k)) rfl (by kernel_rfl) (by kernel_rfl) (by kernel_rfl) (fun _ _ _ h => h) (Or.inl ⟨by kernel_rfl, ?_⟩) rfl ?_
            · intro W hW
              subst hW
              go_simp
            refine wpAnyH_take (i := 17) (v := (.bool true)) rfl (by kernel_rfl) (by kernel_rfl) (by kernel_rfl) (fun _ _ _ h => h) (Or.inl ⟨by kernel_rfl, ?_⟩) rfl ?_
            · intro W hW
              subst hW
              go_simp
              omega
            refine wpAnyH_take (i := 18) (v := (.bool true)) rfl (by kernel_rfl) (by kernel_rfl) (by kernel_rfl) (fun _ _ _ h => h) (Or.inl ⟨by kernel_rfl, ?_⟩) rfl ?_
            · intro W hW
              subst hW
              go_simp
            refine wpAnyH_take (i := 19) (v := (.slice (some ⟨b, off, none⟩) es.length cap)) rfl (by kernel_rfl) (by kernel_rfl) (by kernel_rfl) (fun _ _ _ h => h) (Or.inl ⟨by kernel_rfl, ?_⟩) rfl ?_
            · intro W hW
              subst hW
              go_simp
            refine wpAnyH_take (i := 20) (v := (.int .i64 k)) rfl (by kernel_rfl) (by kernel_rfl) (by kernel_rfl) (fun _ _ _ h => h) (Or.inl ⟨by kernel_rfl, ?_⟩) rfl ?_
            · intro W hW
              subst hW
              go_simp
            refine wpAnyH_take (i := 21) (v := (.int .i64 ((k : Int) - 1))) rfl (by kernel_rfl) (by kernel_rfl) (by kernel_rfl) (fun _ _ _ h => h) (Or.inl ⟨by kernel_rfl, ?_⟩) rfl ?_
            · intro W hW
              subst hW
              go_simp
              rw [IntKind.wrap_i64]
              omega
            refine wpAnyH_take (i := 22) (v := (.pointer (some ⟨b, off + j * 9, none⟩))) rfl (by kernel_rfl) (by kernel_rfl) (by kernel_rfl) (fun _ _ _ h => h) (Or.inl ⟨by kernel_rfl, ?_⟩) rfl ?_
            · intro W hW
              subst hW
              go_simp
              intro hbad
              exact absurd (hbad (by omega)) (by omega)
            refine wpAnyH_take (i := 23) (v := (.pointer (some ⟨b, off + j * 9, none⟩))) rfl (by kernel_rfl) (by kernel_rfl) (by kernel_rfl) (fun _ _ _ h => h) (Or.inl ⟨by kernel_rfl, ?_⟩) rfl ?_
            · intro W hW
              subst hW
              go_simp
            refine wpAnyH_take (i := 24) (v := (.int .i64 es[j].v.id)) rfl (by kernel_rfl) (by kernel_rfl) (by kernel_rfl) (fun _ _ _ h => h) (Or.inl ⟨by kernel_rfl, ?_⟩) rfl ?_
            · intro W hW
              subst hW
              go_simp
            refine wpAnyH_take (i := 25) (v := (.slice (some ⟨b, off, none⟩) es.length cap)) rfl (by kernel_rfl) (by kernel_rfl) (by kernel_rfl) (fun _ _ _ h => h) (Or.inl ⟨by kernel_rfl, ?_⟩) rfl ?_
            · intro W hW
              subst hW
              go_simp
            refine wpAnyH_take (i := 26) (v := (.int .i64 k)) rfl (by kernel_rfl) (by kernel_rfl) (by kernel_rfl) (fun _ _ _ h => h) (Or.inl ⟨by kernel_rfl, ?_⟩) rfl ?_
            · intro W hW
              subst hW
              go_simp
            refine wpAnyH_take (i := 27) (v := (.pointer (some ⟨b, off + k * 9, none⟩))) rfl (by kernel_rfl) (by kernel_rfl) (by kernel_rfl) (fun _ _ _ h => h) (Or.inl ⟨by kernel_rfl, ?_⟩) rfl ?_
            · intro W hW
              subst hW
              go_simp
            refine wpAnyH_take (i := 28) (v := (.pointer (some ⟨b, off + k * 9, none⟩))) rfl (by kernel_rfl) (by kernel_rfl) (by kernel_rfl) (fun _ _ _ h => h) (Or.inl ⟨by kernel_rfl, ?_⟩) rfl ?_
            · intro W hW
              subst hW
              go_simp
            refine wpAnyH_take (i := 29) (v := (.int .i64 es[k].v.id)) rfl (by kernel_rfl) (by kernel_rfl) (by kernel_rfl) (fun _ _ _ h => h) (Or.inl ⟨by kernel_rfl, ?_⟩) rfl ?_
            · intro W hW
              subst hW
              go_simp
            refine wpAnyH_take (i := 30) (v := (.bool true)) rfl (by kernel_rfl) (by kernel_rfl) (by kernel_rfl) (fun _ _ _ h => h) (Or.inl ⟨by kernel_rfl, ?_⟩) rfl ?_
            · intro W hW
              subst hW
              go_simp
            refine wpAnyH_take (i := 31) (v := (.bool true)) rfl (by kernel_rfl) (by kernel_rfl) (by kernel_rfl) (fun _ _ _ h => h) (Or.inl ⟨by kernel_rfl, ?_⟩) rfl ?_
            · intro W hW
              subst hW
              go_simp
            refine wpAnyH_take (i := 32) (v := (.bool true)) rfl (by kernel_rfl) (by kernel_rfl) (by kernel_rfl) (fun _ _ _ h => h) (Or.inl ⟨by kernel_rfl, ?_⟩) rfl ?_
            · intro W hW
              subst hW
              go_simp
            refine wpAnyH_done (by kernel_rfl) ?_ _
            simp only [Act.put, List.setIfInBounds_toArray, List.set_cons_zero, List.set_cons_succ, List.getElem_toArray, List.getElem_cons_zero, List.getElem_cons_succ]
            go_wp2
            go_ret
            exact ⟨ret_bool HS.out.symm, HW.out⟩
          · have HS : Hid (∀ i, i < k + 1 → okAt es room i = true) := fun i hi => by
              by_cases e : i = k
              · subst e
                rw [HOK.out, hr, hrm, hid]
                rfl
              · exact HO.out i (by omega)
            have b4 : decide (es[k].v.id ≤ es[j].v.id) = false := by
              have : es[j].v.id < es[k].v.id := by simpa using hid
              simp; omega
            clear hrm hid
            go_wp2
            refine wp_region_any (by kernel_rfl) ?_
            change wpAny _ _ _ _ _ _ _ (World.drew _)
            refine wpAny_take (i := 0) (v := (.slice (some ⟨b, off, none⟩) es.length cap)) rfl (by kernel_rfl) (by kernel_rfl) (by kernel_rfl) (fun _ _ _ h => h) (Or.inl ⟨by kernel_rfl, ?_⟩) ?_
            · intro w
              go_simp
            refine wpAny_take (i := 1) (v := (.int .i64 k)) rfl (by kernel_rfl) (by kernel_rfl) (by kernel_rfl) (fun _ _ _ h => h) (Or.inl ⟨by kernel_rfl, ?_⟩) ?_
            · intro w
              go_simp
            refine wpAny_take (i := 2) (v := (.pointer (some ⟨b, off + k * 9, none⟩))) rfl (by kernel_rfl) (by kernel_rfl) (by kernel_rfl) (fun _ _ _ h => h) (Or.inl ⟨by kernel_rfl, ?_⟩) ?_
            · intro w
              go_simp
            refine wpAny_ready (rs := [3]) (by kernel_rfl) (by simp) ?_
            refine AllReady.cons rfl (fun K hK => ?_) AllReady.nil
            go_simp
            refine hK _ _ ?_
            clear hK K
            refine wpAny_ready (rs := [4]) (by kernel_rfl) (by simp) ?_
            refine AllReady.cons rfl (fun K hK => ?_) AllReady.nil
            go_simp
            go_wp2_with (go_at_call 96; refine (right_spec es[k].v es[k].p es[k].c _ HN.out).mono ?_; rintro e w1 ⟨rfl, hb1⟩; rw [hr]; have HW : Hid (Below w.heap.size w w1) := hbw.trans ((Below.drew (Below.refl _ _)).trans (hb1.mono hbw.size)); have hd0 : w1.cell? ⟨b, off + k * 9, none⟩ = some (.int .i64 es[k].v.id) := (hb1.cell (p := ⟨b, off + k * 9, none⟩) hbb).trans hc0; have hd1 : w1.cell? ⟨b, off + k * 9 + 1, none⟩ = some (.int .i64 es[k].v.room) := (hb1.cell (p := ⟨b, off + k * 9 + 1, none⟩) hbb).trans hc1; have hdj : w1.cell? ⟨b, off + j * 9, none⟩ = some (.int .i64 es[j].v.id) := (hb1.cell (p := ⟨b, off + j * 9, none⟩) hbb).trans hcj; clear hb1)
            refine wpAny_take (i := 5) (v := (.bool false)) rfl (by kernel_rfl) (by kernel_rfl) (by kernel_rfl) (fun _ _ _ h => h) (Or.inl ⟨by kernel_rfl, ?_⟩) ?_
            · intro w
              go_simp
            refine wpAny_take (i := 6) (v := (.bool false)) rfl (by kernel_rfl) (by kernel_rfl) (by kernel_rfl) (fun _ _ _ h => h) (Or.inl ⟨by kernel_rfl, ?_⟩) ?_
            · intro w
              go_simp
            refine wpAny_of_held (S := fun W => W = w1) _ _ _ _ ?_
            refine wpAnyH_take (i := 7) (v := (.slice (some ⟨b, off, none⟩) es.length cap)) rfl (by kernel_rfl) (by kernel_rfl) (by kernel_rfl) (fun _ _ _ h => h) (Or.inl ⟨by kernel_rfl, ?_⟩) rfl ?_
            · intro W hW
              subst hW
              go_simp
            refine wpAnyH_take (i := 8) (v := (.int .i64 k)) rfl (by kernel_rfl) (by kernel_rfl) (by kernel_rfl) (fun _ _ _ h => h) (Or.inl ⟨by kernel_rfl, ?_⟩) rfl ?_
            · intro W hW
              subst hW
              go_simp
            refine wpAnyH_take (i := 9) (v := (.pointer (some ⟨b, off + k * 9, none⟩))) rfl (by kernel_rfl) (by kernel_rfl) (by kernel_rfl) (fun _ _ _ h => h) (Or.inl ⟨by kernel_rfl, ?_⟩) rfl ?_
            · intro W hW
              subst hW
              go_simp
            refine wpAnyH_take (i := 10) (v := (.pointer (some ⟨b, off + k * 9 + 1, none⟩))) rfl (by kernel_rfl) (by kernel_rfl) (by kernel_rfl) (fun _ _ _ h => h) (Or.inl ⟨by kernel_rfl, ?_⟩) rfl ?_
            · intro W hW
              subst hW
              go_simp
            refine wpAnyH_take (i := 11) (v := (.int .i64 es[k].v.room)) rfl (by kernel_rfl) (by kernel_rfl) (by kernel_rfl) (fun _ _ _ h => h) (Or.inl ⟨by kernel_rfl, ?_⟩) rfl ?_
            · intro W hW
              subst hW
              go_simp
            refine wpAnyH_take (i := 12) (v := (.int .i64 room)) rfl (by kernel_rfl) (by kernel_rfl) (by kernel_rfl) (fun _ _ _ h => h) (Or.inl ⟨by kernel_rfl, ?_⟩) rfl ?_
            · intro W hW
              subst hW
              go_simp
            refine wpAnyH_take (i := 13) (v := (.bool false)) rfl (by kernel_rfl) (by kernel_rfl) (by kernel_rfl) (fun _ _ _ h => h) (Or.inl ⟨by kernel_rfl, ?_⟩) rfl ?_
            · intro W hW
              subst hW
              go_simp
            refine wpAnyH_take (i := 14) (v := (.bool false)) rfl (by kernel_rfl) (by kernel_rfl) (by kernel_rfl) (fun _ _ _ h => h) (Or.inl ⟨by kernel_rfl, ?_⟩) rfl ?_
            · intro W hW
              subst hW
              go_simp
            refine wpAnyH_take (i := 15) (v := (.bool false)) rfl (by kernel_rfl) (by kernel_rfl) (by kernel_rfl) (fun _ _ _ h => h) (Or.inl ⟨by kernel_rfl, ?_⟩) rfl ?_
            · intro W hW
              subst hW
              go_simp
            refine wpAnyH_take (i := 16) (v := (.int .i64 k)) rfl (by kernel_rfl) (by kernel_rfl) (by kernel_rfl) (fun _ _ _ h => h) (Or.inl ⟨by kernel_rfl, ?_⟩) rfl ?_
            · intro W hW
              subst hW
              go_simp
            refine wpAnyH_take (i := 17) (v := (.bool true)) rfl (by kernel_rfl) (by kernel_rfl) (by kernel_rfl) (fun _ _ _ h => h) (Or.inl ⟨by kernel_rfl, ?_⟩) rfl ?_
            · intro W hW
              subst hW
              go_simp
              omega
            refine wpAnyH_take (i := 18) (v := (.bool true)) rfl (by kernel_rfl) (by kernel_rfl) (by kernel_rfl) (fun _ _ _ h => h) (Or.inl ⟨by kernel_rfl, ?_⟩) rfl ?_
            · intro W hW
              subst hW
              go_simp
            refine wpAnyH_take (i := 19) (v := (.slice (some ⟨b, off, none⟩) es.length cap)) rfl (by kernel_rfl) (by kernel_rfl) (by kernel_rfl) (fun _ _ _ h => h) (Or.inl ⟨by kernel_rfl, ?_⟩) rfl ?_
            · intro W hW
              subst hW
              go_simp
            refine wpAnyH_take (i := 20) (v := (.int .i64 k)) rfl (by kernel_rfl) (by kernel_rfl) (by kernel_rfl) (fun _ _ _ h => h) (Or.inl ⟨by kernel_rfl, ?_⟩) rfl ?_
            · intro W hW
              subst hW
              go_simp
            refine wpAnyH_take (i := 21) (v := (.int .i64 ((k : Int) - 1))) rfl (by kernel_rfl) (by kernel_rfl) (by kernel_rfl) (fun _ _ _ h => h) (Or.inl ⟨by kernel_rfl, ?_⟩) rfl ?_
            · intro W hW
              subst hW
              go_simp
              rw [IntKind.wrap_i64]
              omega
            refine wpAnyH_take (i := 22) (v := (.pointer (some ⟨b, off + j * 9, none⟩))) rfl (by kernel_rfl) (by kernel_rfl) (by kernel_rfl) (fun _ _ _ h => h) (Or.inl ⟨by kernel_rfl, ?_⟩) rfl ?_
            · intro W hW
              subst hW
              go_simp
              intro hbad
              exact absurd (hbad (by omega)) (by omega)
            refine wpAnyH_take (i := 23) (v := (.pointer (some ⟨b, off + j * 9, none⟩))) rfl (by kernel_rfl) (by kernel_rfl) (by kernel_rfl) (fun _ _ _ h => h) (Or.inl ⟨by kernel_rfl, ?_⟩) rfl ?_
            · intro W hW
              subst hW
              go_simp
            refine wpAnyH_take (i := 24) (v := (.int .i64 es[j].v.id)) rfl (by kernel_rfl) (by kernel_rfl) (by kernel_rfl) (fun _ _ _ h => h) (Or.inl ⟨by kernel_rfl, ?_⟩) rfl ?_
            · intro W hW
              subst hW
              go_simp
            refine wpAnyH_take (i := 25) (v := (.slice (some ⟨b, off, none⟩) es.length cap)) rfl (by kernel_rfl) (by kernel_rfl) (by kernel_rfl) (fun _ _ _ h => h) (Or.inl ⟨by kernel_rfl, ?_⟩) rfl ?_
            · intro W hW
              subst hW
              go_simp
            refine wpAnyH_take (i := 26) (v := (.int .i64 k)) rfl (by kernel_rfl) (by kernel_rfl) (by kernel_rfl) (fun _ _ _ h => h) (Or.inl ⟨by kernel_rfl, ?_⟩) rfl ?_
            · intro W hW
              subst hW
              go_simp
            refine wpAnyH_take (i := 27) (v := (.pointer (some ⟨b, off + k * 9, none⟩))) rfl (by kernel_rfl) (by kernel_rfl) (by kernel_rfl) (fun _ _ _ h => h) (Or.inl ⟨by kernel_rfl, ?_⟩) rfl ?_
            · intro W hW
              subst hW
              go_simp
            refine wpAnyH_take (i := 28) (v := (.pointer (some ⟨b, off + k * 9, none⟩))) rfl (by kernel_rfl) (by kernel_rfl) (by kernel_rfl) (fun _ _ _ h => h) (Or.inl ⟨by kernel_rfl, ?_⟩) rfl ?_
            · intro W hW
              subst hW
              go_simp
            refine wpAnyH_take (i := 29) (v := (.int .i64 es[k].v.id)) rfl (by kernel_rfl) (by kernel_rfl) (by kernel_rfl) (fun _ _ _ h => h) (Or.inl ⟨by kernel_rfl, ?_⟩) rfl ?_
            · intro W hW
              subst hW
              go_simp
            refine wpAnyH_take (i := 30) (v := (.bool false)) rfl (by kernel_rfl) (by kernel_rfl) (by kernel_rfl) (fun _ _ _ h => h) (Or.inl ⟨by kernel_rfl, ?_⟩) rfl ?_
            · intro W hW
              subst hW
              go_simp
            refine wpAnyH_take (i := 31) (v := (.bool false)) rfl (by kernel_rfl) (by kernel_rfl) (by kernel_rfl) (fun _ _ _ h => h) (Or.inl ⟨by kernel_rfl, ?_⟩) rfl ?_
            · intro W hW
              subst hW
              go_simp
            refine wpAnyH_take (i := 32) (v := (.bool false)) rfl (by kernel_rfl) (by kernel_rfl) (by kernel_rfl) (fun _ _ _ h => h) (Or.inl ⟨by kernel_rfl, ?_⟩) rfl ?_
            · intro W hW
              subst hW
              go_simp
            refine wpAnyH_done (by kernel_rfl) ?_ _
            simp only [Act.put, List.setIfInBounds_toArray, List.set_cons_zero, List.set_cons_succ, List.getElem_toArray, List.getElem_cons_zero, List.getElem_cons_succ]
            go_wp2
            exact ⟨⟨k + 1, by omega, by go_num, HS, HW.out⟩, by simp [intOf]; omega⟩
        · have b3 : decide ((0 : Int) < (k : Int)) = false := by simp; omega
          have HS : Hid (∀ j, j < k + 1 → okAt es room j = true) := fun j hj => by
            have e : j = 0 := by omega
            have e2 : k = 0 := by omega
            subst e e2
            rw [okAt_zero hlt, hr, hrm]
            rfl
          clear hrm
          go_wp2
          refine wp_region_any (by kernel_rfl) ?_
          change wpAny _ _ _ _ _ _ _ (World.drew _)
          refine wpAny_take (i := 0) (v := (.slice (some ⟨b, off, none⟩) es.length cap)) rfl (by kernel_rfl) (by kernel_rfl) (by kernel_rfl) (fun _ _ _ h => h) (Or.inl ⟨by kernel_rfl, ?_⟩) ?_
          · intro w
            go_simp
          refine wpAny_take (i := 1) (v := (.int .i64 k)) rfl (by kernel_rfl) (by kernel_rfl) (by kernel_rfl) (fun _ _ _ h => h) (Or.inl ⟨by kernel_rfl, ?_⟩) ?_
          · intro w
            go_simp
          refine wpAny_take (i := 2) (v := (.pointer (some ⟨b, off + k * 9, none⟩))) rfl (by kernel_rfl) (by kernel_rfl) (by kernel_rfl) (fun _ _ _ h => h) (Or.inl ⟨by kernel_rfl, ?_⟩) ?_
          · intro w
            go_simp
          refine wpAny_ready (rs := [3]) (by kernel_rfl) (by simp) ?_
          refine AllReady.cons rfl (fun K hK => ?_) AllReady.nil
          go_simp
          refine hK _ _ ?_
          clear hK K
          refine wpAny_ready (rs := [4]) (by kernel_rfl) (by simp) ?_
          refine AllReady.cons rfl (fun K hK => ?_) AllReady.nil
          go_simp
          go_wp2_with (go_at_call 96; refine (right_spec es[k].v es[k].p es[k].c _ HN.out).mono ?_; rintro e w1 ⟨rfl, hb1⟩; rw [hr]; have HW : Hid (Below w.heap.size w w1) := hbw.trans ((Below.drew (Below.refl _ _)).trans (hb1.mono hbw.size)); have hd0 : w1.cell? ⟨b, off + k * 9, none⟩ = some (.int .i64 es[k].v.id) := (hb1.cell (p := ⟨b, off + k * 9, none⟩) hbb).trans hc0; have hd1 : w1.cell? ⟨b, off + k * 9 + 1, none⟩ = some (.int .i64 es[k].v.room) := (hb1.cell (p := ⟨b, off + k * 9 + 1, none⟩) hbb).trans hc1; clear hb1)
          refine wpAny_take (i := 5) (v := (.bool false)) rfl (by kernel_rfl) (by kernel_rfl) (by kernel_rfl) (fun _ _ _ h => h) (Or.inl ⟨by kernel_rfl, ?_⟩) ?_
          · intro w
            go_simp
          refine wpAny_take (i := 6) (v := (.bool false)) rfl (by kernel_rfl) (by kernel_rfl) (by kernel_rfl) (fun _ _ _ h => h) (Or.inl ⟨by kernel_rfl, ?_⟩) ?_
          · intro w
            go_simp
          refine wpAny_of_held (S := fun W => W = w1) _ _ _ _ ?_
          refine wpAnyH_take (i := 7) (v := (.slice (some ⟨b, off, none⟩) es.length cap)) rfl (by kernel_rfl) (by kernel_rfl) (by kernel_rfl) (fun _ _ _ h => h) (Or.inl ⟨by kernel_rfl, ?_⟩) rfl ?_
          · intro W hW
            subst hW
            go_simp
          refine wpAnyH_take (i := 8) (v := (.int .i64 k)) rfl (by kernel_rfl) (by kernel_rfl) (by kernel_rfl) (fun _ _ _ h => h) (Or.inl ⟨by kernel_rfl, ?_⟩) rfl ?_
          · intro W hW
            subst hW
            go_simp
          refine wpAnyH_take (i := 9) (v := (.pointer (some ⟨b, off + k * 9, none⟩))) rfl (by kernel_rfl) (by kernel_rfl) (by kernel_rfl) (fun _ _ _ h => h) (Or.inl ⟨by kernel_rfl, ?_⟩) rfl ?_
          · intro W hW
            subst hW
            go_simp
          refine wpAnyH_take (i := 10) (v := (.pointer (some ⟨b, off + k * 9 + 1, none⟩))) rfl (by kernel_rfl) (by kernel_rfl) (by kernel_rfl) (fun _ _ _ h => h) (Or.inl ⟨by kernel_rfl, ?_⟩) rfl ?_
          · intro W hW
            subst hW
            go_simp
          refine wpAnyH_take (i := 11) (v := (.int .i64 es[k].v.room)) rfl (by kernel_rfl) (by kernel_rfl) (by kernel_rfl) (fun _ _ _ h => h) (Or.inl ⟨by kernel_rfl, ?_⟩) rfl ?_
          · intro W hW
            subst hW
            go_simp
          refine wpAnyH_take (i := 12) (v := (.int .i64 room)) rfl (by kernel_rfl) (by kernel_rfl) (by kernel_rfl) (fun _ _ _ h => h) (Or.inl ⟨by kernel_rfl, ?_⟩) rfl ?_
          · intro W hW
            subst hW
            go_simp
          refine wpAnyH_take (i := 13) (v := (.bool false)) rfl (by kernel_rfl) (by kernel_rfl) (by kernel_rfl) (fun _ _ _ h => h) (Or.inl ⟨by kernel_rfl, ?_⟩) rfl ?_
          · intro W hW
            subst hW
            go_simp
          refine wpAnyH_take (i := 14) (v := (.bool false)) rfl (by kernel_rfl) (by kernel_rfl) (by kernel_rfl) (fun _ _ _ h => h) (Or.inl ⟨by kernel_rfl, ?_⟩) rfl ?_
          · intro W hW
            subst hW
            go_simp
          refine wpAnyH_take (i := 15) (v := (.bool false)) rfl (by kernel_rfl) (by kernel_rfl) (by kernel_rfl) (fun _ _ _ h => h) (Or.inl ⟨by kernel_rfl, ?_⟩) rfl ?_
          · intro W hW
            subst hW
            go_simp
          refine wpAnyH_take (i := 16) (v := (.int .i64 k)) rfl (by kernel_rfl) (by kernel_rfl) (by kernel_rfl) (fun _ _ _ h => h) (Or.inl ⟨by kernel_rfl, ?_⟩) rfl ?_
          · intro W hW
            subst hW
            go_simp
          refine wpAnyH_take (i := 17) (v := (.bool false)) rfl (by kernel_rfl) (by kernel_rfl) (by kernel_rfl) (fun _ _ _ h => h) (Or.inl ⟨by kernel_rfl, ?_⟩) rfl ?_
          · intro W hW
            subst hW
            go_simp
          refine wpAnyH_take (i := 18) (v := (.bool false)) rfl (by kernel_rfl) (by kernel_rfl) (by kernel_rfl) (fun _ _ _ h => h) (Or.inl ⟨by kernel_rfl, ?_⟩) rfl ?_
          · intro W hW
            subst hW
            go_simp
          refine wpAnyH_take (i := 19) (v := undef) rfl (by kernel_rfl) (by kernel_rfl) (by kernel_rfl) (fun _ _ _ h => h) (Or.inr ⟨by kernel_rfl, rfl⟩) rfl ?_
          refine wpAnyH_take (i := 20) (v := undef) rfl (by kernel_rfl) (by kernel_rfl) (by kernel_rfl) (fun _ _ _ h => h) (Or.inr ⟨by kernel_rfl, rfl⟩) rfl ?_
          refine wpAnyH_take (i := 21) (v := undef) rfl (by kernel_rfl) (by kernel_rfl) (by kernel_rfl) (fun _ _ _ h => h) (Or.inr ⟨by kernel_rfl, rfl⟩) rfl ?_
          refine wpAnyH_take (i := 22) (v := undef) rfl (by kernel_rfl) (by kernel_rfl) (by kernel_rfl) (fun _ _ _ h => h) (Or.inr ⟨by kernel_rfl, rfl⟩) rfl ?_
          refine wpAnyH_take (i := 23) (v := undef) rfl (by kernel_rfl) (by kernel_rfl) (by kernel_rfl) (fun _ _ _ h => h) (Or.inr ⟨by kernel_rfl, rfl⟩) rfl ?_
          refine wpAnyH_take (i := 24) (v := undef) rfl (by kernel_rfl) (by kernel_rfl) (by kernel_rfl) (fun _ _ _ h => h) (Or.inr ⟨by kernel_rfl, rfl⟩) rfl ?_
          refine wpAnyH_take (i := 25) (v := undef) rfl (by kernel_rfl) (by kernel_rfl) (by kernel_rfl) (fun _ _ _ h => h) (Or.inr ⟨by kernel_rfl, rfl⟩) rfl ?_
          refine wpAnyH_take (i := 26) (v := undef) rfl (by kernel_rfl) (by kernel_rfl) (by kernel_rfl) (fun _ _ _ h => h) (Or.inr ⟨by kernel_rfl, rfl⟩) rfl ?_
          refine wpAnyH_take (i := 27) (v := undef) rfl (by kernel_rfl) (by kernel_rfl) (by kernel_rfl) (fun _ _ _ h => h) (Or.inr ⟨by kernel_rfl, rfl⟩) rfl ?_
          refine wpAnyH_take (i := 28) (v := undef) rfl (by kernel_rfl) (by kernel_rfl) (by kernel_rfl) (fun _ _ _ h => h) (Or.inr ⟨by kernel_rfl, rfl⟩) rfl ?_
          refine wpAnyH_take (i := 29) (v := undef) rfl (by kernel_rfl) (by kernel_rfl) (by kernel_rfl) (fun _ _ _ h => h) (Or.inr ⟨by kernel_rfl, rfl⟩) rfl ?_
          refine wpAnyH_take (i := 30) (v := undef) rfl (by kernel_rfl) (by kernel_rfl) (by kernel_rfl) (fun _ _ _ h => h) (Or.inr ⟨by kernel_rfl, rfl⟩) rfl ?_
          refine wpAnyH_take (i := 31) (v := (.bool false)) rfl (by kernel_rfl) (by kernel_rfl) (by kernel_rfl) (fun _ _ _ h => h) (Or.inl ⟨by kernel_rfl, ?_⟩) rfl ?_
          · intro W hW
            subst hW
            go_simp
          refine wpAnyH_take (i := 32) (v := (.bool false)) rfl (by kernel_rfl) (by kernel_rfl) (by kernel_rfl) (fun _ _ _ h => h) (Or.inl ⟨by kernel_rfl, ?_⟩) rfl ?_
          · intro W hW
            subst hW
            go_simp
          refine wpAnyH_done (by kernel_rfl) ?_ _
          simp only [Act.put, List.setIfInBounds_toArray, List.set_cons_zero, List.set_cons_succ, List.getElem_toArray, List.getElem_cons_zero, List.getElem_cons_succ]
          go_wp2
          exact ⟨⟨k + 1, by omega, by go_num, HS, HW.out⟩, by simp [intOf]; omega⟩
      · have HS : Hid (rowB es room most = true) := rowB_yes hbig fun j hj => HO.out j (by omega)
        go_wp2
        go_ret
        exact ⟨ret_bool HS.out.symm, hbw⟩
  · have bb : decide ((most : Int) < (es.length : Int)) = true := by simp; omega
    have HS : Hid (rowB es room most = false) := rowB_big hbig
    go_enter Tryz.func62, Tryz.ntmps62
    go_wp2
    go_ret
    exact ⟨ret_bool HS.out.symm, Below.refl _ _⟩
end Go.Proofs.YteajcmkaoahbeaaGreatDoor
