/- What the laws do with rows of events: their size, a copy of them. An event that came in by value, opened: its numbers, its text, and its row of numbers. A row of events, and a graph, that came in, opened. -/
import Derived.Test.YteajcmkaoahbeaaGreatDoorZEvTo
import Derived.ProofKit
import Derived.OpenShut
import Derived.ShutString
import Derived.ChangeOld
import Derived.Below
import Derived.Test.YteajcmkaoahbeaaGreatDoorZGrSpec
import Derived.Deep.Slices
namespace Go.Proofs.YteajcmkaoahbeaaGreatDoor
open Go.RowKit

/-- A row of events that came in: as long as it may be. -/
structure EvsRaw (w : World) (a : Option Addr) (es : List Em) : Prop where
  len : es.length ≤ maxLen
  row : 0 < es.length → ∃ b off, a = some ⟨b, off, none⟩ ∧ b < w.heap.size ∧ ∀ i (h : i < es.length) j, j < 9 → w.cell? ⟨b, off + (i * 9 + j), none⟩ = (emCells es[i])[j]?
  texts : ∀ m ∈ es, m.v.text.size ≤ maxLen ∧ m.v.prev.length ≤ maxLen
  nums : ∀ m ∈ es, m.v.prev.length ≤ 1048576 → NumsAt w m.p m.v.prev
theorem EvsRaw.kept {w w' : World} {a : Option Addr} {es : List Em} (h : EvsRaw w a es) (hb : Below w.heap.size w w') : EvsRaw w' a es := by
  refine ⟨h.len, fun hl => ?_, h.texts, fun m hm hle => (h.nums m hm hle).kept hb⟩
  obtain ⟨b, off, ha, hbb, hc⟩ := h.row hl
  exact ⟨b, off, ha, Nat.lt_of_lt_of_le hbb hb.size, fun i hi j hj => (hb.cell (p := ⟨b, off + (i * 9 + j), none⟩) hbb).trans (hc i hi j hj)⟩
/-- What is left of a measure. -/
def szB (x : Nat) (left : Int) : Int := if (x : Int) ≤ left then left - x else -1
theorem szB_yes {x : Nat} {left : Int} (h : (x : Int) ≤ left) : szB x left = left - x := if_pos h
theorem szB_no {x : Nat} {left : Int} (h : ¬ (x : Int) ≤ left) : szB x left = -1 := if_neg h
/-- What its events weigh. -/
def wtE (m : Em) : Nat := m.v.text.size + m.v.prev.length
def wtL (es : List Em) : Nat := (es.map wtE).sum
def wt (es : List Em) : Nat := es.length + wtL es
theorem wtL_take {es : List Em} {k : Nat} (h : k < es.length) : wtL (es.take (k + 1)) = wtL (es.take k) + wtE es[k] := by
  unfold wtL
  rw [List.take_succ_eq_append_getElem h, List.map_append, List.sum_append]
  simp
theorem wtL_le {es : List Em} {k : Nat} : wtL (es.take k) ≤ wtL es := by
  unfold wtL
  conv => rhs; rw [← List.take_append_drop k es, List.map_append, List.sum_append]
  omega
theorem wtE_le {es : List Em} {m : Em} (h : m ∈ es) : wtE m ≤ wtL es := by
  obtain ⟨k, hk, rfl⟩ := List.getElem_of_mem h
  have h1 := wtL_take hk
  have h2 := wtL_le (es := es) (k := k + 1)
  omega
theorem EvsRaw.at {w : World} {a : Option Addr} {es : List Em} (h : EvsRaw w a es) (hl : wt es ≤ 1048576) : EvsAt w a es := by
  unfold wt at hl
  refine ⟨by omega, h.row, fun m hm => h.nums m hm ?_⟩
  have := wtE_le hm
  unfold wtE at this
  omega
set_option maxHeartbeats 2000000 in
set_option maxRecDepth 100000 in
theorem sz_events (es : List Em) (a : Option Addr) (cap : Nat) (left : Int) (w : World) (h : EvsRaw w a es) (h0 : 0 ≤ left) (h1 : left ≤ 1048576) :
    Calls Tryz.prog 35 #[.slice a es.length cap, .int .i64 left] w fun e w' => e = .returned (.int .i64 (szB (wt es) left)) ∧ Below w.heap.size w w' := by
  have hl := h.len
  unfold maxLen at hl
  have H : Hid (EvsRaw w a es) := h
  clear h
  by_cases c1 : (es.length : Int) ≤ left
  · go_enter Tryz.func35, Tryz.ntmps35
    go_wp2
    go_loopw [1, 5] (fun l i wr => ∃ (k : Nat) (L : Int), k ≤ es.length ∧ i = .int .i64 k ∧ l = .int .i64 L ∧ 0 ≤ L ∧ L ≤ 1048576 ∧ Hid (L = left - es.length - wtL (es.take k)) ∧ Below w.heap.size w wr) (fun _ i _ => es.length - (intOf i).toNat)
    case atStart => exact ⟨0, left - es.length, Nat.zero_le _, rfl, rfl, by omega, by omega, by simp [Hid, wtL], Below.refl _ _⟩
    case round =>
      obtain ⟨k, L, hk, rfl, rfl, hL0, hL1, HL, hbw⟩ := hrel
      by_cases hlt : k < es.length
      · have HE : Hid (EvsRaw wr a es) := H.out.kept hbw
        obtain ⟨b, off, rfl, hbb, hcell⟩ := HE.out.row (by omega)
        have hc0 : wr.cell? ⟨b, off + k * 9, none⟩ = some (.int .i64 es[k].v.id) := by
          have := hcell k hlt 0 (by omega)
          exact this
        have hc1 : wr.cell? ⟨b, off + k * 9 + 1, none⟩ = some (.int .i64 es[k].v.room) := by
          have := hcell k hlt 1 (by omega)
          rwa [← Nat.add_assoc] at this
        have hc2 : wr.cell? ⟨b, off + k * 9 + 2, none⟩ = some (.int .i64 es[k].v.author) := by
          have := hcell k hlt 2 (by omega)
          rwa [← Nat.add_assoc] at this
        have hc3 : wr.cell? ⟨b, off + k * 9 + 3, none⟩ = some (.int .i64 es[k].v.kind) := by
          have := hcell k hlt 3 (by omega)
          rwa [← Nat.add_assoc] at this
        have hc4 : wr.cell? ⟨b, off + k * 9 + 4, none⟩ = some (.int .i64 es[k].v.key) := by
          have := hcell k hlt 4 (by omega)
          rwa [← Nat.add_assoc] at this
        have hc5 : wr.cell? ⟨b, off + k * 9 + 5, none⟩ = some (.int .i64 es[k].v.n) := by
          have := hcell k hlt 5 (by omega)
          rwa [← Nat.add_assoc] at this
        have hc6 : wr.cell? ⟨b, off + k * 9 + 6, none⟩ = some (.string es[k].v.text) := by
          have := hcell k hlt 6 (by omega)
          rwa [← Nat.add_assoc] at this
        have hc7 : wr.cell? ⟨b, off + k * 9 + 7, none⟩ = some (.slice es[k].p es[k].v.prev.length es[k].c) := by
          have := hcell k hlt 7 (by omega)
          rwa [← Nat.add_assoc] at this
        have hc8 : wr.cell? ⟨b, off + k * 9 + 8, none⟩ = some (.int .i64 es[k].v.time) := by
          have := hcell k hlt 8 (by omega)
          rwa [← Nat.add_assoc] at this
        obtain ⟨ht, hp⟩ := HE.out.texts es[k] (List.getElem_mem hlt)
        have HT := wtL_take hlt
        have HTL := wtL_le (es := es) (k := k + 1)
        unfold wtE at HT
        have HT2 : Hid (wtL (es.take (k + 1)) = wtL (es.take k) + (es[k].v.text.size + es[k].v.prev.length) ∧ wtL (es.take (k + 1)) ≤ wtL es) := ⟨HT, HTL⟩
        clear hcell HT HTL
        go_wp2_with fail
        refine (sz_event es[k].v es[k].p es[k].c L _ hL0 hL1 ht hp).mono ?_
        rintro e w1 ⟨rfl, hb1⟩
        have HB1 : Hid (Below w.heap.size w w1) := hbw.trans (hb1.mono hbw.size)
        clear hb1
        by_cases c2 : (es[k].v.text.size : Int) + es[k].v.prev.length ≤ L
        · rw [if_pos c2]
          have hn0 : 0 ≤ L - es[k].v.text.size - es[k].v.prev.length := by omega
          have hn1 : L - es[k].v.text.size - es[k].v.prev.length ≤ 1048576 := by omega
          have HN : Hid (L - es[k].v.text.size - es[k].v.prev.length = left - es.length - wtL (es.take (k + 1))) := by
            have e1 := HL.out
            have e2 := HT2.out.1
            unfold Hid
            rw [e2]
            omega
          obtain ⟨L2, HL2⟩ : ∃ L2, Hid (L2 = L - es[k].v.text.size - es[k].v.prev.length) := ⟨L - es[k].v.text.size - es[k].v.prev.length, (rfl : (L - es[k].v.text.size - es[k].v.prev.length : Int) = _)⟩
          rw [← HL2.out] at hn0 hn1 ⊢
          go_wp2
          go_roundw
          case rel => exact ⟨k + 1, L2, by omega, by go_num, rfl, hn0, hn1, HL2.out.trans HN.out, HB1.out⟩
          case measure => simp [intOf]; omega
        · rw [if_neg c2]
          have HS : Hid ((szB (wt es) left) = -1) := by
            refine szB_no fun hc => ?_
            have e1 := HL.out
            have e2 := HT2.out
            unfold wt at hc
            omega
          go_wp2
          go_ret
          exact ⟨ret_int HS.out.symm, HB1.out⟩
      · have HS : Hid ((szB (wt es) left) = L) := by
          have e : k = es.length := by omega
          have e1 := HL.out
          rw [e, List.take_length] at e1
          unfold Hid
          rw [szB_yes (by unfold wt; omega)]
          unfold wt
          omega
        go_wp2
        go_ret
        exact ⟨ret_int HS.out.symm, hbw⟩
  · have HS : Hid ((szB (wt es) left) = -1) := szB_no (by unfold wt; omega)
    go_enter Tryz.func35, Tryz.ntmps35
    go_wp2
    go_ret
    exact ⟨ret_int HS.out.symm, Below.refl _ _⟩

/-- Nine cells set, one behind the other. -/
def set9 (w : World) (G o : Nat) (v0 v1 v2 v3 v4 v5 v6 v7 v8 : Value) : World := (((((((((w.setCell ⟨G, o, none⟩ v0).setCell ⟨G, o + 1, none⟩ v1).setCell ⟨G, o + 2, none⟩ v2).setCell ⟨G, o + 3, none⟩ v3).setCell ⟨G, o + 4, none⟩ v4).setCell ⟨G, o + 5, none⟩ v5).setCell ⟨G, o + 6, none⟩ v6).setCell ⟨G, o + 7, none⟩ v7).setCell ⟨G, o + 8, none⟩ v8)
theorem set9_heap (w : World) (G o : Nat) (v0 v1 v2 v3 v4 v5 v6 v7 v8 : Value) (k : Nat) (h : k ≠ G) : (set9 w G o v0 v1 v2 v3 v4 v5 v6 v7 v8).heap[k]? = w.heap[k]? := by
  unfold set9
  repeat rw [Below.heap_setCell _ _ _ _ (by simpa using h)]
theorem set9_cell_other (w : World) (G o : Nat) (v0 v1 v2 v3 v4 v5 v6 v7 v8 : Value) (q : Nat) (h : q < o ∨ o + 9 ≤ q) : (set9 w G o v0 v1 v2 v3 v4 v5 v6 v7 v8).cell? ⟨G, q, none⟩ = w.cell? ⟨G, q, none⟩ := by
  unfold set9
  rw [World.cell?_setCell_other _ ⟨G, o + 8, none⟩ ⟨G, q, none⟩ _ (fun e => by have := congrArg Addr.off e; simp at this; omega)]
  rw [World.cell?_setCell_other _ ⟨G, o + 7, none⟩ ⟨G, q, none⟩ _ (fun e => by have := congrArg Addr.off e; simp at this; omega)]
  rw [World.cell?_setCell_other _ ⟨G, o + 6, none⟩ ⟨G, q, none⟩ _ (fun e => by have := congrArg Addr.off e; simp at this; omega)]
  rw [World.cell?_setCell_other _ ⟨G, o + 5, none⟩ ⟨G, q, none⟩ _ (fun e => by have := congrArg Addr.off e; simp at this; omega)]
  rw [World.cell?_setCell_other _ ⟨G, o + 4, none⟩ ⟨G, q, none⟩ _ (fun e => by have := congrArg Addr.off e; simp at this; omega)]
  rw [World.cell?_setCell_other _ ⟨G, o + 3, none⟩ ⟨G, q, none⟩ _ (fun e => by have := congrArg Addr.off e; simp at this; omega)]
  rw [World.cell?_setCell_other _ ⟨G, o + 2, none⟩ ⟨G, q, none⟩ _ (fun e => by have := congrArg Addr.off e; simp at this; omega)]
  rw [World.cell?_setCell_other _ ⟨G, o + 1, none⟩ ⟨G, q, none⟩ _ (fun e => by have := congrArg Addr.off e; simp at this; omega)]
  rw [World.cell?_setCell_other _ ⟨G, o, none⟩ ⟨G, q, none⟩ _ (fun e => by have := congrArg Addr.off e; simp at this; omega)]
theorem set9_cell0 {w : World} {G o : Nat} (v0 v1 v2 v3 v4 v5 v6 v7 v8 : Value) {u : Value} (h : w.cell? ⟨G, o, none⟩ = some u) : (set9 w G o v0 v1 v2 v3 v4 v5 v6 v7 v8).cell? ⟨G, o, none⟩ = some v0 := by
  unfold set9
  rw [World.cell?_setCell_other _ ⟨G, o + 8, none⟩ ⟨G, o, none⟩ _ (by simp)]
  rw [World.cell?_setCell_other _ ⟨G, o + 7, none⟩ ⟨G, o, none⟩ _ (by simp)]
  rw [World.cell?_setCell_other _ ⟨G, o + 6, none⟩ ⟨G, o, none⟩ _ (by simp)]
  rw [World.cell?_setCell_other _ ⟨G, o + 5, none⟩ ⟨G, o, none⟩ _ (by simp)]
  rw [World.cell?_setCell_other _ ⟨G, o + 4, none⟩ ⟨G, o, none⟩ _ (by simp)]
  rw [World.cell?_setCell_other _ ⟨G, o + 3, none⟩ ⟨G, o, none⟩ _ (by simp)]
  rw [World.cell?_setCell_other _ ⟨G, o + 2, none⟩ ⟨G, o, none⟩ _ (by simp)]
  rw [World.cell?_setCell_other _ ⟨G, o + 1, none⟩ ⟨G, o, none⟩ _ (by simp)]
  refine World.cell?_setCell_same _ _ _ (u := u) ?_
  exact h
theorem set9_cell1 {w : World} {G o : Nat} (v0 v1 v2 v3 v4 v5 v6 v7 v8 : Value) {u : Value} (h : w.cell? ⟨G, o + 1, none⟩ = some u) : (set9 w G o v0 v1 v2 v3 v4 v5 v6 v7 v8).cell? ⟨G, o + 1, none⟩ = some v1 := by
  unfold set9
  rw [World.cell?_setCell_other _ ⟨G, o + 8, none⟩ ⟨G, o + 1, none⟩ _ (by simp)]
  rw [World.cell?_setCell_other _ ⟨G, o + 7, none⟩ ⟨G, o + 1, none⟩ _ (by simp)]
  rw [World.cell?_setCell_other _ ⟨G, o + 6, none⟩ ⟨G, o + 1, none⟩ _ (by simp)]
  rw [World.cell?_setCell_other _ ⟨G, o + 5, none⟩ ⟨G, o + 1, none⟩ _ (by simp)]
  rw [World.cell?_setCell_other _ ⟨G, o + 4, none⟩ ⟨G, o + 1, none⟩ _ (by simp)]
  rw [World.cell?_setCell_other _ ⟨G, o + 3, none⟩ ⟨G, o + 1, none⟩ _ (by simp)]
  rw [World.cell?_setCell_other _ ⟨G, o + 2, none⟩ ⟨G, o + 1, none⟩ _ (by simp)]
  refine World.cell?_setCell_same _ _ _ (u := u) ?_
  rw [World.cell?_setCell_other _ ⟨G, o, none⟩ ⟨G, o + 1, none⟩ _ (by simp)]
  exact h
theorem set9_cell2 {w : World} {G o : Nat} (v0 v1 v2 v3 v4 v5 v6 v7 v8 : Value) {u : Value} (h : w.cell? ⟨G, o + 2, none⟩ = some u) : (set9 w G o v0 v1 v2 v3 v4 v5 v6 v7 v8).cell? ⟨G, o + 2, none⟩ = some v2 := by
  unfold set9
  rw [World.cell?_setCell_other _ ⟨G, o + 8, none⟩ ⟨G, o + 2, none⟩ _ (by simp)]
  rw [World.cell?_setCell_other _ ⟨G, o + 7, none⟩ ⟨G, o + 2, none⟩ _ (by simp)]
  rw [World.cell?_setCell_other _ ⟨G, o + 6, none⟩ ⟨G, o + 2, none⟩ _ (by simp)]
  rw [World.cell?_setCell_other _ ⟨G, o + 5, none⟩ ⟨G, o + 2, none⟩ _ (by simp)]
  rw [World.cell?_setCell_other _ ⟨G, o + 4, none⟩ ⟨G, o + 2, none⟩ _ (by simp)]
  rw [World.cell?_setCell_other _ ⟨G, o + 3, none⟩ ⟨G, o + 2, none⟩ _ (by simp)]
  refine World.cell?_setCell_same _ _ _ (u := u) ?_
  rw [World.cell?_setCell_other _ ⟨G, o + 1, none⟩ ⟨G, o + 2, none⟩ _ (by simp)]
  rw [World.cell?_setCell_other _ ⟨G, o, none⟩ ⟨G, o + 2, none⟩ _ (by simp)]
  exact h
theorem set9_cell3 {w : World} {G o : Nat} (v0 v1 v2 v3 v4 v5 v6 v7 v8 : Value) {u : Value} (h : w.cell? ⟨G, o + 3, none⟩ = some u) : (set9 w G o v0 v1 v2 v3 v4 v5 v6 v7 v8).cell? ⟨G, o + 3, none⟩ = some v3 := by
  unfold set9
  rw [World.cell?_setCell_other _ ⟨G, o + 8, none⟩ ⟨G, o + 3, none⟩ _ (by simp)]
  rw [World.cell?_setCell_other _ ⟨G, o + 7, none⟩ ⟨G, o + 3, none⟩ _ (by simp)]
  rw [World.cell?_setCell_other _ ⟨G, o + 6, none⟩ ⟨G, o + 3, none⟩ _ (by simp)]
  rw [World.cell?_setCell_other _ ⟨G, o + 5, none⟩ ⟨G, o + 3, none⟩ _ (by simp)]
  rw [World.cell?_setCell_other _ ⟨G, o + 4, none⟩ ⟨G, o + 3, none⟩ _ (by simp)]
  refine World.cell?_setCell_same _ _ _ (u := u) ?_
  rw [World.cell?_setCell_other _ ⟨G, o + 2, none⟩ ⟨G, o + 3, none⟩ _ (by simp)]
  rw [World.cell?_setCell_other _ ⟨G, o + 1, none⟩ ⟨G, o + 3, none⟩ _ (by simp)]
  rw [World.cell?_setCell_other _ ⟨G, o, none⟩ ⟨G, o + 3, none⟩ _ (by simp)]
  exact h
theorem set9_cell4 {w : World} {G o : Nat} (v0 v1 v2 v3 v4 v5 v6 v7 v8 : Value) {u : Value} (h : w.cell? ⟨G, o + 4, none⟩ = some u) : (set9 w G o v0 v1 v2 v3 v4 v5 v6 v7 v8).cell? ⟨G, o + 4, none⟩ = some v4 := by
  unfold set9
  rw [World.cell?_setCell_other _ ⟨G, o + 8, none⟩ ⟨G, o + 4, none⟩ _ (by simp)]
  rw [World.cell?_setCell_other _ ⟨G, o + 7, none⟩ ⟨G, o + 4, none⟩ _ (by simp)]
  rw [World.cell?_setCell_other _ ⟨G, o + 6, none⟩ ⟨G, o + 4, none⟩ _ (by simp)]
  rw [World.cell?_setCell_other _ ⟨G, o + 5, none⟩ ⟨G, o + 4, none⟩ _ (by simp)]
  refine World.cell?_setCell_same _ _ _ (u := u) ?_
  rw [World.cell?_setCell_other _ ⟨G, o + 3, none⟩ ⟨G, o + 4, none⟩ _ (by simp)]
  rw [World.cell?_setCell_other _ ⟨G, o + 2, none⟩ ⟨G, o + 4, none⟩ _ (by simp)]
  rw [World.cell?_setCell_other _ ⟨G, o + 1, none⟩ ⟨G, o + 4, none⟩ _ (by simp)]
  rw [World.cell?_setCell_other _ ⟨G, o, none⟩ ⟨G, o + 4, none⟩ _ (by simp)]
  exact h
theorem set9_cell5 {w : World} {G o : Nat} (v0 v1 v2 v3 v4 v5 v6 v7 v8 : Value) {u : Value} (h : w.cell? ⟨G, o + 5, none⟩ = some u) : (set9 w G o v0 v1 v2 v3 v4 v5 v6 v7 v8).cell? ⟨G, o + 5, none⟩ = some v5 := by
  unfold set9
  rw [World.cell?_setCell_other _ ⟨G, o + 8, none⟩ ⟨G, o + 5, none⟩ _ (by simp)]
  rw [World.cell?_setCell_other _ ⟨G, o + 7, none⟩ ⟨G, o + 5, none⟩ _ (by simp)]
  rw [World.cell?_setCell_other _ ⟨G, o + 6, none⟩ ⟨G, o + 5, none⟩ _ (by simp)]
  refine World.cell?_setCell_same _ _ _ (u := u) ?_
  rw [World.cell?_setCell_other _ ⟨G, o + 4, none⟩ ⟨G, o + 5, none⟩ _ (by simp)]
  rw [World.cell?_setCell_other _ ⟨G, o + 3, none⟩ ⟨G, o + 5, none⟩ _ (by simp)]
  rw [World.cell?_setCell_other _ ⟨G, o + 2, none⟩ ⟨G, o + 5, none⟩ _ (by simp)]
  rw [World.cell?_setCell_other _ ⟨G, o + 1, none⟩ ⟨G, o + 5, none⟩ _ (by simp)]
  rw [World.cell?_setCell_other _ ⟨G, o, none⟩ ⟨G, o + 5, none⟩ _ (by simp)]
  exact h
theorem set9_cell6 {w : World} {G o : Nat} (v0 v1 v2 v3 v4 v5 v6 v7 v8 : Value) {u : Value} (h : w.cell? ⟨G, o + 6, none⟩ = some u) : (set9 w G o v0 v1 v2 v3 v4 v5 v6 v7 v8).cell? ⟨G, o + 6, none⟩ = some v6 := by
  unfold set9
  rw [World.cell?_setCell_other _ ⟨G, o + 8, none⟩ ⟨G, o + 6, none⟩ _ (by simp)]
  rw [World.cell?_setCell_other _ ⟨G, o + 7, none⟩ ⟨G, o + 6, none⟩ _ (by simp)]
  refine World.cell?_setCell_same _ _ _ (u := u) ?_
  rw [World.cell?_setCell_other _ ⟨G, o + 5, none⟩ ⟨G, o + 6, none⟩ _ (by simp)]
  rw [World.cell?_setCell_other _ ⟨G, o + 4, none⟩ ⟨G, o + 6, none⟩ _ (by simp)]
  rw [World.cell?_setCell_other _ ⟨G, o + 3, none⟩ ⟨G, o + 6, none⟩ _ (by simp)]
  rw [World.cell?_setCell_other _ ⟨G, o + 2, none⟩ ⟨G, o + 6, none⟩ _ (by simp)]
  rw [World.cell?_setCell_other _ ⟨G, o + 1, none⟩ ⟨G, o + 6, none⟩ _ (by simp)]
  rw [World.cell?_setCell_other _ ⟨G, o, none⟩ ⟨G, o + 6, none⟩ _ (by simp)]
  exact h
theorem set9_cell7 {w : World} {G o : Nat} (v0 v1 v2 v3 v4 v5 v6 v7 v8 : Value) {u : Value} (h : w.cell? ⟨G, o + 7, none⟩ = some u) : (set9 w G o v0 v1 v2 v3 v4 v5 v6 v7 v8).cell? ⟨G, o + 7, none⟩ = some v7 := by
  unfold set9
  rw [World.cell?_setCell_other _ ⟨G, o + 8, none⟩ ⟨G, o + 7, none⟩ _ (by simp)]
  refine World.cell?_setCell_same _ _ _ (u := u) ?_
  rw [World.cell?_setCell_other _ ⟨G, o + 6, none⟩ ⟨G, o + 7, none⟩ _ (by simp)]
  rw [World.cell?_setCell_other _ ⟨G, o + 5, none⟩ ⟨G, o + 7, none⟩ _ (by simp)]
  rw [World.cell?_setCell_other _ ⟨G, o + 4, none⟩ ⟨G, o + 7, none⟩ _ (by simp)]
  rw [World.cell?_setCell_other _ ⟨G, o + 3, none⟩ ⟨G, o + 7, none⟩ _ (by simp)]
  rw [World.cell?_setCell_other _ ⟨G, o + 2, none⟩ ⟨G, o + 7, none⟩ _ (by simp)]
  rw [World.cell?_setCell_other _ ⟨G, o + 1, none⟩ ⟨G, o + 7, none⟩ _ (by simp)]
  rw [World.cell?_setCell_other _ ⟨G, o, none⟩ ⟨G, o + 7, none⟩ _ (by simp)]
  exact h
theorem set9_cell8 {w : World} {G o : Nat} (v0 v1 v2 v3 v4 v5 v6 v7 v8 : Value) {u : Value} (h : w.cell? ⟨G, o + 8, none⟩ = some u) : (set9 w G o v0 v1 v2 v3 v4 v5 v6 v7 v8).cell? ⟨G, o + 8, none⟩ = some v8 := by
  unfold set9
  refine World.cell?_setCell_same _ _ _ (u := u) ?_
  rw [World.cell?_setCell_other _ ⟨G, o + 7, none⟩ ⟨G, o + 8, none⟩ _ (by simp)]
  rw [World.cell?_setCell_other _ ⟨G, o + 6, none⟩ ⟨G, o + 8, none⟩ _ (by simp)]
  rw [World.cell?_setCell_other _ ⟨G, o + 5, none⟩ ⟨G, o + 8, none⟩ _ (by simp)]
  rw [World.cell?_setCell_other _ ⟨G, o + 4, none⟩ ⟨G, o + 8, none⟩ _ (by simp)]
  rw [World.cell?_setCell_other _ ⟨G, o + 3, none⟩ ⟨G, o + 8, none⟩ _ (by simp)]
  rw [World.cell?_setCell_other _ ⟨G, o + 2, none⟩ ⟨G, o + 8, none⟩ _ (by simp)]
  rw [World.cell?_setCell_other _ ⟨G, o + 1, none⟩ ⟨G, o + 8, none⟩ _ (by simp)]
  rw [World.cell?_setCell_other _ ⟨G, o, none⟩ ⟨G, o + 8, none⟩ _ (by simp)]
  exact h
end Go.Proofs.YteajcmkaoahbeaaGreatDoor
namespace Go.Proofs.YteajcmkaoahbeaaGreatDoor
open Go.ChangeShapes Go.WideShapes Go.ChangeAt Go.RowKit

theorem some_of {α : Type} {x : Option α} {xs : List α} {i : Nat} (h : x = xs[i]?) (hi : i < xs.length) : ∃ y, x = some y := ⟨xs[i], by rw [h, List.getElem?_eq_getElem hi]⟩
/-- All numbers fit. -/
def EvIn (e : Ev) : Prop := (∀ z ∈ [e.id, e.room, e.author, e.kind, e.key, e.n, e.time], -9223372036854775808 ≤ z ∧ z ≤ 9223372036854775807) ∧ ∀ z ∈ e.prev, -9223372036854775808 ≤ z ∧ z ≤ 9223372036854775807
theorem i64_of {n : Int} (h : (Lit.int .i64 n).wf = true) : -9223372036854775808 ≤ n ∧ n ≤ 9223372036854775807 := bounds_i64 h
theorem Tryz.cellsEv : Tryz.prog.cellsOf 110 = 9 := by kernel_rfl
theorem Tryz.cellsInt : Tryz.prog.cellsOf 2 = 1 := by kernel_rfl
theorem Tryz.cellsStr : Tryz.prog.cellsOf 9 = 1 := by kernel_rfl
theorem Tryz.cellsNums : Tryz.prog.cellsOf 46 = 1 := by kernel_rfl
set_option maxHeartbeats 400000 in
set_option maxRecDepth 100000 in
theorem open_event {H : Type} {enc : TypeId × Value → H} {W : World} {r : Reach} {b0 : Nat} {v : Value} {d : DataW H} {p : List MemPlace} (hv : Value.okWide Tryz.prog W r b0 110 v) (h : DataW.Trod enc Tryz.prog W 0 (fun _ => true) true 110 v d p) :
    ∃ (e : Ev) (a : Option Addr) (cap : Nat), v = .agg #[.int .i64 e.id, .int .i64 e.room, .int .i64 e.author, .int .i64 e.kind, .int .i64 e.key, .int .i64 e.n, .string e.text, .slice a e.prev.length cap, .int .i64 e.time] ∧ e.text.size ≤ maxLen ∧ e.prev.length ≤ maxLen ∧ EvIn e ∧ (e.prev.length ≤ 1048576 → NumsAt W a e.prev) := by
  obtain ⟨cs, rfl, hsz⟩ := okWide_struct Tryz.underlying110 hv
  rw [Tryz.cellsEv] at hsz
  obtain ⟨c0, c1, c2, c3, c4, c5, c6, c7, c8, rfl⟩ := array9 hsz
  obtain ⟨fuel, hf⟩ := h
  obtain ⟨xs, n, _, _, _, hlen, hf⟩ := DataW.trod_struct Tryz.underlying110 hf
  have hlen9 : xs.length = 9 := hlen
  clear hv hsz hlen
  have g0 : DataW.trod enc Tryz.prog W 0 (fun _ => true) true n 2 [c0] = xs[0]? := by have := hf 0 _ rfl; simpa [Value.cells, Tryz.cellsInt] using this
  have g1 : DataW.trod enc Tryz.prog W 0 (fun _ => true) true n 2 [c1] = xs[1]? := by have := hf 1 _ rfl; simpa [Value.cells, Tryz.cellsInt] using this
  have g2 : DataW.trod enc Tryz.prog W 0 (fun _ => true) true n 2 [c2] = xs[2]? := by have := hf 2 _ rfl; simpa [Value.cells, Tryz.cellsInt] using this
  have g3 : DataW.trod enc Tryz.prog W 0 (fun _ => true) true n 2 [c3] = xs[3]? := by have := hf 3 _ rfl; simpa [Value.cells, Tryz.cellsInt] using this
  have g4 : DataW.trod enc Tryz.prog W 0 (fun _ => true) true n 2 [c4] = xs[4]? := by have := hf 4 _ rfl; simpa [Value.cells, Tryz.cellsInt] using this
  have g5 : DataW.trod enc Tryz.prog W 0 (fun _ => true) true n 2 [c5] = xs[5]? := by have := hf 5 _ rfl; simpa [Value.cells, Tryz.cellsInt] using this
  have g6 : DataW.trod enc Tryz.prog W 0 (fun _ => true) true n 9 [c6] = xs[6]? := by have := hf 6 _ rfl; simpa [Value.cells, Tryz.cellsStr] using this
  have g7 : DataW.trod enc Tryz.prog W 0 (fun _ => true) true n 46 [c7] = xs[7]? := by have := hf 7 _ rfl; simpa [Value.cells, Tryz.cellsNums] using this
  have g8 : DataW.trod enc Tryz.prog W 0 (fun _ => true) true n 2 [c8] = xs[8]? := by have := hf 8 _ rfl; simpa [Value.cells, Tryz.cellsInt] using this
  obtain ⟨y0, k0⟩ := some_of g0 (by omega)
  obtain ⟨y1, k1⟩ := some_of g1 (by omega)
  obtain ⟨y2, k2⟩ := some_of g2 (by omega)
  obtain ⟨y3, k3⟩ := some_of g3 (by omega)
  obtain ⟨y4, k4⟩ := some_of g4 (by omega)
  obtain ⟨y5, k5⟩ := some_of g5 (by omega)
  obtain ⟨y6, k6⟩ := some_of g6 (by omega)
  obtain ⟨y7, k7⟩ := some_of g7 (by omega)
  obtain ⟨y8, k8⟩ := some_of g8 (by omega)
  obtain ⟨n0, e0, _, w0⟩ := DataW.trod_int Tryz.underlying2 k0
  obtain ⟨n1, e1, _, w1⟩ := DataW.trod_int Tryz.underlying2 k1
  obtain ⟨n2, e2, _, w2⟩ := DataW.trod_int Tryz.underlying2 k2
  obtain ⟨n3, e3, _, w3⟩ := DataW.trod_int Tryz.underlying2 k3
  obtain ⟨n4, e4, _, w4⟩ := DataW.trod_int Tryz.underlying2 k4
  obtain ⟨n5, e5, _, w5⟩ := DataW.trod_int Tryz.underlying2 k5
  obtain ⟨n8, e8, _, w8⟩ := DataW.trod_int Tryz.underlying2 k8
  obtain ⟨t6, e6, _, w6⟩ := DataW.trod_string Tryz.underlying9 k6
  simp only [List.cons.injEq, and_true] at e0 e1 e2 e3 e4 e5 e8 e6
  subst e0 e1 e2 e3 e4 e5 e8 e6
  have hb : ∀ z ∈ [n0, n1, n2, n3, n4, n5, n8], -9223372036854775808 ≤ z ∧ z ≤ 9223372036854775807 := by
    intro z hz
    simp only [List.mem_cons, List.not_mem_nil, or_false] at hz
    rcases hz with rfl | rfl | rfl | rfl | rfl | rfl | rfl
    · exact i64_of w0
    · exact i64_of w1
    · exact i64_of w2
    · exact i64_of w3
    · exact i64_of w4
    · exact i64_of w5
    · exact i64_of w8
  rcases open_ints Tryz.underlying46 Tryz.underlying2 (by kernel_rfl) k7 with ⟨hcs, _⟩ | ⟨x, l, c, zs, hcs, _, hl, hm, hz, _, hcell, hwz⟩
  · simp only [List.cons.injEq, and_true] at hcs
    subst hcs
    exact ⟨⟨n0, n1, n2, n3, n4, n5, t6, [], n8⟩, none, 0, rfl, w6, by simp [maxLen], ⟨hb, by simp⟩, fun _ => ⟨by simp, fun h => by simp at h⟩⟩
  · simp only [List.cons.injEq, and_true] at hcs
    subst hcs
    have hz' : zs.length = c := by simpa using hz
    have hlen : (zs.take l).length = l := by rw [List.length_take]; omega
    refine ⟨⟨n0, n1, n2, n3, n4, n5, t6, zs.take l, n8⟩, some x, c, ?_, w6, ?_, ⟨hb, fun z hz => ?_⟩, fun hle => ⟨hle, fun hpos => ?_⟩⟩
    · simp only [hlen]
    · show (zs.take l).length ≤ maxLen
      omega
    · exact i64_of (hwz z (List.mem_of_mem_take hz))
    · simp only [hlen] at hpos
      obtain ⟨b, off, rfl, hb⟩ := ints_at hcell (by omega)
      have hbs : b < W.heap.size := by
        have := hcell 0 (by omega)
        exact World.block_lt_of_cell? _ _ (by simpa using this)
      refine ⟨b, off, rfl, hbs, fun j hj => ?_⟩
      have hj2 : j < l := by simpa only [hlen] using hj
      have h1 := hcell j (by omega)
      rw [Addr.add_lit] at h1
      rw [h1]
      simp [show j < zs.length by omega]
end Go.Proofs.YteajcmkaoahbeaaGreatDoor
namespace Go.Proofs.YteajcmkaoahbeaaGreatDoor
open Go.ChangeShapes Go.WideShapes Go.ChangeAt Go.RowKit Go.Deep

set_option maxHeartbeats 400000 in
set_option maxRecDepth 100000 in
theorem open_ev_cells {H : Type} {enc : TypeId × Value → H} {W : World} {fuel : Nat} {cs : List Value} {x0 : DataW H × List MemPlace} (hl9 : cs.length = 9) (hf : DataW.trod enc Tryz.prog W 0 (fun _ => true) true fuel 110 cs = some x0) :
    ∃ m : Em, cs = emCells m ∧ m.v.text.size ≤ maxLen ∧ m.v.prev.length ≤ maxLen ∧ (m.v.prev.length ≤ 1048576 → NumsAt W m.p m.v.prev) := by
  obtain ⟨c0, c1, c2, c3, c4, c5, c6, c7, c8, hcs⟩ := array9 (cs := cs.toArray) (by simpa using hl9)
  have hcs' : cs = [c0, c1, c2, c3, c4, c5, c6, c7, c8] := by simpa using congrArg Array.toList hcs
  subst hcs'
  obtain ⟨xs, n, _, _, _, hlen, hf⟩ := DataW.trod_struct Tryz.underlying110 hf
  have hlen9 : xs.length = 9 := hlen
  clear hl9 hlen hcs
  have g0 : DataW.trod enc Tryz.prog W 0 (fun _ => true) true n 2 [c0] = xs[0]? := by have := hf 0 _ rfl; simpa [Value.cells, Tryz.cellsInt] using this
  have g1 : DataW.trod enc Tryz.prog W 0 (fun _ => true) true n 2 [c1] = xs[1]? := by have := hf 1 _ rfl; simpa [Value.cells, Tryz.cellsInt] using this
  have g2 : DataW.trod enc Tryz.prog W 0 (fun _ => true) true n 2 [c2] = xs[2]? := by have := hf 2 _ rfl; simpa [Value.cells, Tryz.cellsInt] using this
  have g3 : DataW.trod enc Tryz.prog W 0 (fun _ => true) true n 2 [c3] = xs[3]? := by have := hf 3 _ rfl; simpa [Value.cells, Tryz.cellsInt] using this
  have g4 : DataW.trod enc Tryz.prog W 0 (fun _ => true) true n 2 [c4] = xs[4]? := by have := hf 4 _ rfl; simpa [Value.cells, Tryz.cellsInt] using this
  have g5 : DataW.trod enc Tryz.prog W 0 (fun _ => true) true n 2 [c5] = xs[5]? := by have := hf 5 _ rfl; simpa [Value.cells, Tryz.cellsInt] using this
  have g6 : DataW.trod enc Tryz.prog W 0 (fun _ => true) true n 9 [c6] = xs[6]? := by have := hf 6 _ rfl; simpa [Value.cells, Tryz.cellsStr] using this
  have g7 : DataW.trod enc Tryz.prog W 0 (fun _ => true) true n 46 [c7] = xs[7]? := by have := hf 7 _ rfl; simpa [Value.cells, Tryz.cellsNums] using this
  have g8 : DataW.trod enc Tryz.prog W 0 (fun _ => true) true n 2 [c8] = xs[8]? := by have := hf 8 _ rfl; simpa [Value.cells, Tryz.cellsInt] using this
  obtain ⟨y0, k0⟩ := some_of g0 (by omega)
  obtain ⟨y1, k1⟩ := some_of g1 (by omega)
  obtain ⟨y2, k2⟩ := some_of g2 (by omega)
  obtain ⟨y3, k3⟩ := some_of g3 (by omega)
  obtain ⟨y4, k4⟩ := some_of g4 (by omega)
  obtain ⟨y5, k5⟩ := some_of g5 (by omega)
  obtain ⟨y6, k6⟩ := some_of g6 (by omega)
  obtain ⟨y7, k7⟩ := some_of g7 (by omega)
  obtain ⟨y8, k8⟩ := some_of g8 (by omega)
  obtain ⟨n0, e0, _, w0⟩ := DataW.trod_int Tryz.underlying2 k0
  obtain ⟨n1, e1, _, w1⟩ := DataW.trod_int Tryz.underlying2 k1
  obtain ⟨n2, e2, _, w2⟩ := DataW.trod_int Tryz.underlying2 k2
  obtain ⟨n3, e3, _, w3⟩ := DataW.trod_int Tryz.underlying2 k3
  obtain ⟨n4, e4, _, w4⟩ := DataW.trod_int Tryz.underlying2 k4
  obtain ⟨n5, e5, _, w5⟩ := DataW.trod_int Tryz.underlying2 k5
  obtain ⟨n8, e8, _, w8⟩ := DataW.trod_int Tryz.underlying2 k8
  obtain ⟨t6, e6, _, w6⟩ := DataW.trod_string Tryz.underlying9 k6
  simp only [List.cons.injEq, and_true] at e0 e1 e2 e3 e4 e5 e8 e6
  subst e0 e1 e2 e3 e4 e5 e8 e6
  rcases open_ints Tryz.underlying46 Tryz.underlying2 (by kernel_rfl) k7 with ⟨hcs, _⟩ | ⟨x, l, c, zs, hcs, _, hl, hm, hz, _, hcell, hwz⟩
  · simp only [List.cons.injEq, and_true] at hcs
    subst hcs
    exact ⟨⟨⟨n0, n1, n2, n3, n4, n5, t6, [], n8⟩, none, 0⟩, rfl, w6, by simp [maxLen], fun _ => ⟨by simp, fun h => by simp at h⟩⟩
  · simp only [List.cons.injEq, and_true] at hcs
    subst hcs
    have hz' : zs.length = c := by simpa using hz
    have hlen : (zs.take l).length = l := by rw [List.length_take]; omega
    refine ⟨⟨⟨n0, n1, n2, n3, n4, n5, t6, zs.take l, n8⟩, some x, c⟩, ?_, w6, ?_, fun hle => ⟨hle, fun hpos => ?_⟩⟩
    · simp only [emCells, hlen]
    · show (zs.take l).length ≤ maxLen
      omega
    · simp only [hlen] at hpos
      obtain ⟨b, off, rfl, hb⟩ := ints_at hcell (by omega)
      have hbs : b < W.heap.size := by
        have := hcell 0 (by omega)
        exact World.block_lt_of_cell? _ _ (by simpa using this)
      refine ⟨b, off, rfl, hbs, fun j hj => ?_⟩
      have hj2 : j < l := by simpa only [hlen] using hj
      have h1 := hcell j (by omega)
      rw [Addr.add_lit] at h1
      rw [h1]
      simp [show j < zs.length by omega]
/-- A row of events opened. -/
theorem open_events {H : Type} {enc : TypeId × Value → H} {W : World} {fuel : Nat} {c : Value} {x0 : DataW H × List MemPlace} (hf : DataW.trod enc Tryz.prog W 0 (fun _ => true) true fuel 22 [c] = some x0) :
    ∃ (es : List Em) (a : Option Addr) (cap : Nat), c = .slice a es.length cap ∧ EvsRaw W a es := by
  rcases open_slice Tryz.underlying22 hf with ⟨h0, _⟩ | ⟨a, len, cap, m, n, D, Pl, hcs, _, hl, hm, hmm, _, hx⟩
  · simp only [List.cons.injEq, and_true] at h0
    exact ⟨[], none, 0, h0, ⟨by simp, fun h => absurd h (Nat.lt_irrefl 0), fun m hm => (by cases hm), fun m hm => (by cases hm)⟩⟩
  · simp only [List.cons.injEq, and_true] at hcs
    simp only [if_true] at hmm
    have each : ∀ i, i < len → ∃ e : Em, (∀ j, j < 9 → W.cell? (a.add (i * 9 + j)) = (emCells e)[j]?) ∧ e.v.text.size ≤ maxLen ∧ e.v.prev.length ≤ maxLen ∧ (e.v.prev.length ≤ 1048576 → NumsAt W e.p e.v.prev) := fun i hi => by
      obtain ⟨cs', h1, h2⟩ := hx i (by omega)
      rw [Tryz.cellsEv] at h1
      obtain ⟨_, hlen, hcell⟩ := World.cells?_some h1
      obtain ⟨e, rfl, h3⟩ := open_ev_cells hlen h2
      refine ⟨e, fun j hj => ?_, h3⟩
      have := hcell j hj
      rwa [add_add] at this
    haveI : Inhabited Em := ⟨⟨⟨0, 0, 0, 0, 0, 0, ⟨#[]⟩, [], 0⟩, none, 0⟩⟩
    obtain ⟨q, hq⟩ := choose_lt each
    have hlq : ((List.range len).map q).length = len := by simp
    have hgq : ∀ i (h : i < ((List.range len).map q).length), ((List.range len).map q)[i] = q i := fun i h => by simp
    have hmem : ∀ e ∈ (List.range len).map q, ∃ i, i < len ∧ e = q i := fun e he => by
      obtain ⟨i, hi, rfl⟩ := List.mem_map.1 he
      exact ⟨i, List.mem_range.1 hi, rfl⟩
    refine ⟨(List.range len).map q, some a, cap, by rw [hlq]; exact hcs, ⟨by rw [hlq]; omega, fun hpos => ?_, fun e he => ?_, fun e he => ?_⟩⟩
    · rw [hlq] at hpos
      obtain ⟨b, off, spot⟩ := a
      have h0 := (hq 0 hpos).1 0 (by omega)
      have hspot : spot = none := by simpa [Addr.add] using World.cell?_spot h0
      subst hspot
      refine ⟨b, off, rfl, ?_, fun i hi j hj => ?_⟩
      · have := World.block_lt_of_cell? _ _ h0
        simpa [Addr.add] using this
      · rw [hgq]
        have := (hq i (by rw [hlq] at hi; exact hi)).1 j hj
        rwa [Addr.add_lit] at this
    · obtain ⟨i, hi, rfl⟩ := hmem e he
      exact ⟨(hq i hi).2.1, (hq i hi).2.2.1⟩
    · obtain ⟨i, hi, rfl⟩ := hmem e he
      exact (hq i hi).2.2.2
theorem Tryz.cellsGr : Tryz.prog.cellsOf 24 = 3 := by kernel_rfl
theorem Tryz.cellsEvs : Tryz.prog.cellsOf 22 = 1 := by kernel_rfl
theorem array3 {α : Type} {cs : Array α} (h : cs.size = 3) : ∃ c0 c1 c2, cs = #[c0, c1, c2] := by
  obtain ⟨l⟩ := cs
  match l, h with
  | [c0, c1, c2], _ => exact ⟨c0, c1, c2, rfl⟩
set_option maxRecDepth 100000 in
theorem open_graph {H : Type} {enc : TypeId × Value → H} {W : World} {r : Reach} {b0 : Nat} {v : Value} {d : DataW H} {p : List MemPlace} (hv : Value.okWide Tryz.prog W r b0 24 v) (h : DataW.Trod enc Tryz.prog W 0 (fun _ => true) true 24 v d p) :
    ∃ (g : Gr) (a : Option Addr) (cap : Nat) (q : Option Addr) (cq : Nat), v = .agg #[.int .i64 g.room, .slice a g.evs.length cap, .slice q g.pk.length cq] ∧ EvsRaw W a g.evs ∧ EvsRaw W q g.pk := by
  obtain ⟨cs, rfl, hsz⟩ := okWide_struct Tryz.underlying24 hv
  rw [Tryz.cellsGr] at hsz
  obtain ⟨c0, c1, c2, rfl⟩ := array3 hsz
  obtain ⟨fuel, hf⟩ := h
  obtain ⟨xs, n, _, _, _, hlen, hf⟩ := DataW.trod_struct Tryz.underlying24 hf
  have hlen3 : xs.length = 3 := hlen
  have g0 : DataW.trod enc Tryz.prog W 0 (fun _ => true) true n 2 [c0] = xs[0]? := by have := hf 0 _ rfl; simpa [Value.cells, Tryz.cellsInt] using this
  have g1 : DataW.trod enc Tryz.prog W 0 (fun _ => true) true n 22 [c1] = xs[1]? := by have := hf 1 _ rfl; simpa [Value.cells, Tryz.cellsEvs] using this
  have g2 : DataW.trod enc Tryz.prog W 0 (fun _ => true) true n 22 [c2] = xs[2]? := by have := hf 2 _ rfl; simpa [Value.cells, Tryz.cellsEvs] using this
  obtain ⟨y0, k0⟩ := some_of g0 (by omega)
  obtain ⟨y1, k1⟩ := some_of g1 (by omega)
  obtain ⟨y2, k2⟩ := some_of g2 (by omega)
  obtain ⟨n0, e0, _, _⟩ := DataW.trod_int Tryz.underlying2 k0
  simp only [List.cons.injEq, and_true] at e0
  subst e0
  obtain ⟨es, a, cap, rfl, h1⟩ := open_events k1
  obtain ⟨ps, q, cq, rfl, h2⟩ := open_events k2
  exact ⟨⟨n0, es, ps⟩, a, cap, q, cq, rfl, h1, h2⟩
end Go.Proofs.YteajcmkaoahbeaaGreatDoor
