/- What the laws do with rows of events: their size, a copy of them. -/
import Derived.Test.YtdldblfopcbfeaaGreatDoorZEvOpen
import Derived.Test.YtdldblfopcbfeaaGreatDoorZGrMem
namespace Go.Proofs.YtdldblfopcbfeaaGreatDoor
open Go.RowKit

/-- A row of events that came in: as long as it may be. -/
structure EvsRaw (w : World) (a : Option Addr) (es : List Em) : Prop where
  len : es.length ≤ maxLen
  row : 0 < es.length → ∃ b off, a = some ⟨b, off, none⟩ ∧ b < w.heap.size ∧ ∀ i (h : i < es.length) j, j < 9 → w.cell? ⟨b, off + (i * 9 + j), none⟩ = (emCells es[i])[j]?
  texts : ∀ m ∈ es, m.v.text.size ≤ maxLen ∧ m.v.prev.length ≤ maxLen
  nums : ∀ m ∈ es, m.v.prev.length ≤ 1048576 → NumsAt w m.p m.v.prev
theorem EvsRaw.kept {w w' : World} {a : Option Addr} {es : List Em} (h : EvsRaw w a es) (hb : Below w.heap.size w w') : EvsRaw w' a es := by
  refine ⟨h.len, fun hl => ?_, h.texts, fun m hm hle => (h.nums m hm hle).kept hb⟩
  obtain ⟨b, off, ha, hbb, hc⟩ := h.row hl
  exact ⟨b, off, ha, Nat.lt_of_lt_of_le hbb hb.size, fun i hi j hj => (hb.cell (p := ⟨b, off + (i * 9 + j), none⟩) hbb).trans (hc i hi j hj)⟩
/-- What is left of a measure. -/
def szB (x : Nat) (left : Int) : Int := if (x : Int) ≤ left then left - x else -1
theorem szB_yes {x : Nat} {left : Int} (h : (x : Int) ≤ left) : szB x left = left - x := if_pos h
theorem szB_no {x : Nat} {left : Int} (h : ¬ (x : Int) ≤ left) : szB x left = -1 := if_neg h
/-- What its events weigh. -/
def wtE (m : Em) : Nat := m.v.text.size + m.v.prev.length
def wtL (es : List Em) : Nat := (es.map wtE).sum
def wt (es : List Em) : Nat := es.length + wtL es
theorem wtL_take {es : List Em} {k : Nat} (h : k < es.length) : wtL (es.take (k + 1)) = wtL (es.take k) + wtE es[k] := by
  unfold wtL
  rw [List.take_succ_eq_append_getElem h, List.map_append, List.sum_append]
  simp
theorem wtL_le {es : List Em} {k : Nat} : wtL (es.take k) ≤ wtL es := by
  unfold wtL
  conv => rhs; rw [← List.take_append_drop k es, List.map_append, List.sum_append]
  omega
theorem wtE_le {es : List Em} {m : Em} (h : m ∈ es) : wtE m ≤ wtL es := by
  obtain ⟨k, hk, rfl⟩ := List.getElem_of_mem h
  have h1 := wtL_take hk
  have h2 := wtL_le (es := es) (k := k + 1)
  omega
theorem EvsRaw.at {w : World} {a : Option Addr} {es : List Em} (h : EvsRaw w a es) (hl : wt es ≤ 1048576) : EvsAt w a es := by
  unfold wt at hl
  refine ⟨by omega, h.row, fun m hm => h.nums m hm ?_⟩
  have := wtE_le hm
  unfold wtE at this
  omega
set_option maxHeartbeats 2000000 in
set_option maxRecDepth 100000 in
theorem sz_events (es : List Em) (a : Option Addr) (cap : Nat) (left : Int) (w : World) (h : EvsRaw w a es) (h0 : 0 ≤ left) (h1 : left ≤ 1048576) :
    Calls Tryz.prog 15 #[.slice a es.length cap, .int .i64 left] w fun e w' => e = .returned (.int .i64 (szB (wt es) left)) ∧ Below w.heap.size w w' := by
  have hl := h.len
  unfold maxLen at hl
  have H : Hid (EvsRaw w a es) := h
  clear h
  by_cases c1 : (es.length : Int) ≤ left
  · go_enter Tryz.func15, Tryz.ntmps15
    go_wp2
    go_loopw [1, 5] (fun l i wr => ∃ (k : Nat) (L : Int), k ≤ es.length ∧ i = .int .i64 k ∧ l = .int .i64 L ∧ 0 ≤ L ∧ L ≤ 1048576 ∧ Hid (L = left - es.length - wtL (es.take k)) ∧ Below w.heap.size w wr) (fun _ i _ => es.length - (intOf i).toNat)
    case atStart => exact ⟨0, left - es.length, Nat.zero_le _, rfl, rfl, by omega, by omega, by simp [Hid, wtL], Below.refl _ _⟩
    case round =>
      obtain ⟨k, L, hk, rfl, rfl, hL0, hL1, HL, hbw⟩ := hrel
      by_cases hlt : k < es.length
      · have HE : Hid (EvsRaw wr a es) := H.out.kept hbw
        obtain ⟨b, off, rfl, hbb, hcell⟩ := HE.out.row (by omega)
        have hc0 : wr.cell? ⟨b, off + k * 9, none⟩ = some (.int .i64 es[k].v.id) := by
          have := hcell k hlt 0 (by omega)
          exact this
        have hc1 : wr.cell? ⟨b, off + k * 9 + 1, none⟩ = some (.int .i64 es[k].v.room) := by
          have := hcell k hlt 1 (by omega)
          rwa [← Nat.add_assoc] at this
        have hc2 : wr.cell? ⟨b, off + k * 9 + 2, none⟩ = some (.int .i64 es[k].v.author) := by
          have := hcell k hlt 2 (by omega)
          rwa [← Nat.add_assoc] at this
        have hc3 : wr.cell? ⟨b, off + k * 9 + 3, none⟩ = some (.int .i64 es[k].v.kind) := by
          have := hcell k hlt 3 (by omega)
          rwa [← Nat.add_assoc] at this
        have hc4 : wr.cell? ⟨b, off + k * 9 + 4, none⟩ = some (.int .i64 es[k].v.key) := by
          have := hcell k hlt 4 (by omega)
          rwa [← Nat.add_assoc] at this
        have hc5 : wr.cell? ⟨b, off + k * 9 + 5, none⟩ = some (.int .i64 es[k].v.n) := by
          have := hcell k hlt 5 (by omega)
          rwa [← Nat.add_assoc] at this
        have hc6 : wr.cell? ⟨b, off + k * 9 + 6, none⟩ = some (.string es[k].v.text) := by
          have := hcell k hlt 6 (by omega)
          rwa [← Nat.add_assoc] at this
        have hc7 : wr.cell? ⟨b, off + k * 9 + 7, none⟩ = some (.slice es[k].p es[k].v.prev.length es[k].c) := by
          have := hcell k hlt 7 (by omega)
          rwa [← Nat.add_assoc] at this
        have hc8 : wr.cell? ⟨b, off + k * 9 + 8, none⟩ = some (.int .i64 es[k].v.time) := by
          have := hcell k hlt 8 (by omega)
          rwa [← Nat.add_assoc] at this
        obtain ⟨ht, hp⟩ := HE.out.texts es[k] (List.getElem_mem hlt)
        have HT := wtL_take hlt
        have HTL := wtL_le (es := es) (k := k + 1)
        unfold wtE at HT
        have HT2 : Hid (wtL (es.take (k + 1)) = wtL (es.take k) + (es[k].v.text.size + es[k].v.prev.length) ∧ wtL (es.take (k + 1)) ≤ wtL es) := ⟨HT, HTL⟩
        clear hcell HT HTL
        go_wp2_with fail
        refine (sz_event es[k].v es[k].p es[k].c L _ hL0 hL1 ht hp).mono ?_
        rintro e w1 ⟨rfl, hb1⟩
        have HB1 : Hid (Below w.heap.size w w1) := hbw.trans (hb1.mono hbw.size)
        clear hb1
        by_cases c2 : (es[k].v.text.size : Int) + es[k].v.prev.length ≤ L
        · rw [if_pos c2]
          have hn0 : 0 ≤ L - es[k].v.text.size - es[k].v.prev.length := by omega
          have hn1 : L - es[k].v.text.size - es[k].v.prev.length ≤ 1048576 := by omega
          have HN : Hid (L - es[k].v.text.size - es[k].v.prev.length = left - es.length - wtL (es.take (k + 1))) := by
            have e1 := HL.out
            have e2 := HT2.out.1
            unfold Hid
            rw [e2]
            omega
          obtain ⟨L2, HL2⟩ : ∃ L2, Hid (L2 = L - es[k].v.text.size - es[k].v.prev.length) := ⟨L - es[k].v.text.size - es[k].v.prev.length, (rfl : (L - es[k].v.text.size - es[k].v.prev.length : Int) = _)⟩
          rw [← HL2.out] at hn0 hn1 ⊢
          go_wp2
          go_roundw
          case rel => exact ⟨k + 1, L2, by omega, by go_num, rfl, hn0, hn1, HL2.out.trans HN.out, HB1.out⟩
          case measure => simp [intOf]; omega
        · rw [if_neg c2]
          have HS : Hid ((szB (wt es) left) = -1) := by
            refine szB_no fun hc => ?_
            have e1 := HL.out
            have e2 := HT2.out
            unfold wt at hc
            omega
          go_wp2
          go_ret
          exact ⟨ret_int HS.out.symm, HB1.out⟩
      · have HS : Hid ((szB (wt es) left) = L) := by
          have e : k = es.length := by omega
          have e1 := HL.out
          rw [e, List.take_length] at e1
          unfold Hid
          rw [szB_yes (by unfold wt; omega)]
          unfold wt
          omega
        go_wp2
        go_ret
        exact ⟨ret_int HS.out.symm, hbw⟩
  · have HS : Hid ((szB (wt es) left) = -1) := szB_no (by unfold wt; omega)
    go_enter Tryz.func15, Tryz.ntmps15
    go_wp2
    go_ret
    exact ⟨ret_int HS.out.symm, Below.refl _ _⟩

/-- Nine cells set, one behind the other. -/
def set9 (w : World) (G o : Nat) (v0 v1 v2 v3 v4 v5 v6 v7 v8 : Value) : World := (((((((((w.setCell ⟨G, o, none⟩ v0).setCell ⟨G, o + 1, none⟩ v1).setCell ⟨G, o + 2, none⟩ v2).setCell ⟨G, o + 3, none⟩ v3).setCell ⟨G, o + 4, none⟩ v4).setCell ⟨G, o + 5, none⟩ v5).setCell ⟨G, o + 6, none⟩ v6).setCell ⟨G, o + 7, none⟩ v7).setCell ⟨G, o + 8, none⟩ v8)
theorem set9_heap (w : World) (G o : Nat) (v0 v1 v2 v3 v4 v5 v6 v7 v8 : Value) (k : Nat) (h : k ≠ G) : (set9 w G o v0 v1 v2 v3 v4 v5 v6 v7 v8).heap[k]? = w.heap[k]? := by
  unfold set9
  repeat rw [Below.heap_setCell _ _ _ _ (by simpa using h)]
theorem set9_cell_other (w : World) (G o : Nat) (v0 v1 v2 v3 v4 v5 v6 v7 v8 : Value) (q : Nat) (h : q < o ∨ o + 9 ≤ q) : (set9 w G o v0 v1 v2 v3 v4 v5 v6 v7 v8).cell? ⟨G, q, none⟩ = w.cell? ⟨G, q, none⟩ := by
  unfold set9
  rw [World.cell?_setCell_other _ ⟨G, o + 8, none⟩ ⟨G, q, none⟩ _ (fun e => by have := congrArg Addr.off e; simp at this; omega)]
  rw [World.cell?_setCell_other _ ⟨G, o + 7, none⟩ ⟨G, q, none⟩ _ (fun e => by have := congrArg Addr.off e; simp at this; omega)]
  rw [World.cell?_setCell_other _ ⟨G, o + 6, none⟩ ⟨G, q, none⟩ _ (fun e => by have := congrArg Addr.off e; simp at this; omega)]
  rw [World.cell?_setCell_other _ ⟨G, o + 5, none⟩ ⟨G, q, none⟩ _ (fun e => by have := congrArg Addr.off e; simp at this; omega)]
  rw [World.cell?_setCell_other _ ⟨G, o + 4, none⟩ ⟨G, q, none⟩ _ (fun e => by have := congrArg Addr.off e; simp at this; omega)]
  rw [World.cell?_setCell_other _ ⟨G, o + 3, none⟩ ⟨G, q, none⟩ _ (fun e => by have := congrArg Addr.off e; simp at this; omega)]
  rw [World.cell?_setCell_other _ ⟨G, o + 2, none⟩ ⟨G, q, none⟩ _ (fun e => by have := congrArg Addr.off e; simp at this; omega)]
  rw [World.cell?_setCell_other _ ⟨G, o + 1, none⟩ ⟨G, q, none⟩ _ (fun e => by have := congrArg Addr.off e; simp at this; omega)]
  rw [World.cell?_setCell_other _ ⟨G, o, none⟩ ⟨G, q, none⟩ _ (fun e => by have := congrArg Addr.off e; simp at this; omega)]
theorem set9_cell0 {w : World} {G o : Nat} (v0 v1 v2 v3 v4 v5 v6 v7 v8 : Value) {u : Value} (h : w.cell? ⟨G, o, none⟩ = some u) : (set9 w G o v0 v1 v2 v3 v4 v5 v6 v7 v8).cell? ⟨G, o, none⟩ = some v0 := by
  unfold set9
  rw [World.cell?_setCell_other _ ⟨G, o + 8, none⟩ ⟨G, o, none⟩ _ (by simp)]
  rw [World.cell?_setCell_other _ ⟨G, o + 7, none⟩ ⟨G, o, none⟩ _ (by simp)]
  rw [World.cell?_setCell_other _ ⟨G, o + 6, none⟩ ⟨G, o, none⟩ _ (by simp)]
  rw [World.cell?_setCell_other _ ⟨G, o + 5, none⟩ ⟨G, o, none⟩ _ (by simp)]
  rw [World.cell?_setCell_other _ ⟨G, o + 4, none⟩ ⟨G, o, none⟩ _ (by simp)]
  rw [World.cell?_setCell_other _ ⟨G, o + 3, none⟩ ⟨G, o, none⟩ _ (by simp)]
  rw [World.cell?_setCell_other _ ⟨G, o + 2, none⟩ ⟨G, o, none⟩ _ (by simp)]
  rw [World.cell?_setCell_other _ ⟨G, o + 1, none⟩ ⟨G, o, none⟩ _ (by simp)]
  refine World.cell?_setCell_same _ _ _ (u := u) ?_
  exact h
theorem set9_cell1 {w : World} {G o : Nat} (v0 v1 v2 v3 v4 v5 v6 v7 v8 : Value) {u : Value} (h : w.cell? ⟨G, o + 1, none⟩ = some u) : (set9 w G o v0 v1 v2 v3 v4 v5 v6 v7 v8).cell? ⟨G, o + 1, none⟩ = some v1 := by
  unfold set9
  rw [World.cell?_setCell_other _ ⟨G, o + 8, none⟩ ⟨G, o + 1, none⟩ _ (by simp)]
  rw [World.cell?_setCell_other _ ⟨G, o + 7, none⟩ ⟨G, o + 1, none⟩ _ (by simp)]
  rw [World.cell?_setCell_other _ ⟨G, o + 6, none⟩ ⟨G, o + 1, none⟩ _ (by simp)]
  rw [World.cell?_setCell_other _ ⟨G, o + 5, none⟩ ⟨G, o + 1, none⟩ _ (by simp)]
  rw [World.cell?_setCell_other _ ⟨G, o + 4, none⟩ ⟨G, o + 1, none⟩ _ (by simp)]
  rw [World.cell?_setCell_other _ ⟨G, o + 3, none⟩ ⟨G, o + 1, none⟩ _ (by simp)]
  rw [World.cell?_setCell_other _ ⟨G, o + 2, none⟩ ⟨G, o + 1, none⟩ _ (by simp)]
  refine World.cell?_setCell_same _ _ _ (u := u) ?_
  rw [World.cell?_setCell_other _ ⟨G, o, none⟩ ⟨G, o + 1, none⟩ _ (by simp)]
  exact h
theorem set9_cell2 {w : World} {G o : Nat} (v0 v1 v2 v3 v4 v5 v6 v7 v8 : Value) {u : Value} (h : w.cell? ⟨G, o + 2, none⟩ = some u) : (set9 w G o v0 v1 v2 v3 v4 v5 v6 v7 v8).cell? ⟨G, o + 2, none⟩ = some v2 := by
  unfold set9
  rw [World.cell?_setCell_other _ ⟨G, o + 8, none⟩ ⟨G, o + 2, none⟩ _ (by simp)]
  rw [World.cell?_setCell_other _ ⟨G, o + 7, none⟩ ⟨G, o + 2, none⟩ _ (by simp)]
  rw [World.cell?_setCell_other _ ⟨G, o + 6, none⟩ ⟨G, o + 2, none⟩ _ (by simp)]
  rw [World.cell?_setCell_other _ ⟨G, o + 5, none⟩ ⟨G, o + 2, none⟩ _ (by simp)]
  rw [World.cell?_setCell_other _ ⟨G, o + 4, none⟩ ⟨G, o + 2, none⟩ _ (by simp)]
  rw [World.cell?_setCell_other _ ⟨G, o + 3, none⟩ ⟨G, o + 2, none⟩ _ (by simp)]
  refine World.cell?_setCell_same _ _ _ (u := u) ?_
  rw [World.cell?_setCell_other _ ⟨G, o + 1, none⟩ ⟨G, o + 2, none⟩ _ (by simp)]
  rw [World.cell?_setCell_other _ ⟨G, o, none⟩ ⟨G, o + 2, none⟩ _ (by simp)]
  exact h
theorem set9_cell3 {w : World} {G o : Nat} (v0 v1 v2 v3 v4 v5 v6 v7 v8 : Value) {u : Value} (h : w.cell? ⟨G, o + 3, none⟩ = some u) : (set9 w G o v0 v1 v2 v3 v4 v5 v6 v7 v8).cell? ⟨G, o + 3, none⟩ = some v3 := by
  unfold set9
  rw [World.cell?_setCell_other _ ⟨G, o + 8, none⟩ ⟨G, o + 3, none⟩ _ (by simp)]
  rw [World.cell?_setCell_other _ ⟨G, o + 7, none⟩ ⟨G, o + 3, none⟩ _ (by simp)]
  rw [World.cell?_setCell_other _ ⟨G, o + 6, none⟩ ⟨G, o + 3, none⟩ _ (by simp)]
  rw [World.cell?_setCell_other _ ⟨G, o + 5, none⟩ ⟨G, o + 3, none⟩ _ (by simp)]
  rw [World.cell?_setCell_other _ ⟨G, o + 4, none⟩ ⟨G, o + 3, none⟩ _ (by simp)]
  refine World.cell?_setCell_same _ _ _ (u := u) ?_
  rw [World.cell?_setCell_other _ ⟨G, o + 2, none⟩ ⟨G, o + 3, none⟩ _ (by simp)]
  rw [World.cell?_setCell_other _ ⟨G, o + 1, none⟩ ⟨G, o + 3, none⟩ _ (by simp)]
  rw [World.cell?_setCell_other _ ⟨G, o, none⟩ ⟨G, o + 3, none⟩ _ (by simp)]
  exact h
theorem set9_cell4 {w : World} {G o : Nat} (v0 v1 v2 v3 v4 v5 v6 v7 v8 : Value) {u : Value} (h : w.cell? ⟨G, o + 4, none⟩ = some u) : (set9 w G o v0 v1 v2 v3 v4 v5 v6 v7 v8).cell? ⟨G, o + 4, none⟩ = some v4 := by
  unfold set9
  rw [World.cell?_setCell_other _ ⟨G, o + 8, none⟩ ⟨G, o + 4, none⟩ _ (by simp)]
  rw [World.cell?_setCell_other _ ⟨G, o + 7, none⟩ ⟨G, o + 4, none⟩ _ (by simp)]
  rw [World.cell?_setCell_other _ ⟨G, o + 6, none⟩ ⟨G, o + 4, none⟩ _ (by simp)]
  rw [World.cell?_setCell_other _ ⟨G, o + 5, none⟩ ⟨G, o + 4, none⟩ _ (by simp)]
  refine World.cell?_setCell_same _ _ _ (u := u) ?_
  rw [World.cell?_setCell_other _ ⟨G, o + 3, none⟩ ⟨G, o + 4, none⟩ _ (by simp)]
  rw [World.cell?_setCell_other _ ⟨G, o + 2, none⟩ ⟨G, o + 4, none⟩ _ (by simp)]
  rw [World.cell?_setCell_other _ ⟨G, o + 1, none⟩ ⟨G, o + 4, none⟩ _ (by simp)]
  rw [World.cell?_setCell_other _ ⟨G, o, none⟩ ⟨G, o + 4, none⟩ _ (by simp)]
  exact h
theorem set9_cell5 {w : World} {G o : Nat} (v0 v1 v2 v3 v4 v5 v6 v7 v8 : Value) {u : Value} (h : w.cell? ⟨G, o + 5, none⟩ = some u) : (set9 w G o v0 v1 v2 v3 v4 v5 v6 v7 v8).cell? ⟨G, o + 5, none⟩ = some v5 := by
  unfold set9
  rw [World.cell?_setCell_other _ ⟨G, o + 8, none⟩ ⟨G, o + 5, none⟩ _ (by simp)]
  rw [World.cell?_setCell_other _ ⟨G, o + 7, none⟩ ⟨G, o + 5, none⟩ _ (by simp)]
  rw [World.cell?_setCell_other _ ⟨G, o + 6, none⟩ ⟨G, o + 5, none⟩ _ (by simp)]
  refine World.cell?_setCell_same _ _ _ (u := u) ?_
  rw [World.cell?_setCell_other _ ⟨G, o + 4, none⟩ ⟨G, o + 5, none⟩ _ (by simp)]
  rw [World.cell?_setCell_other _ ⟨G, o + 3, none⟩ ⟨G, o + 5, none⟩ _ (by simp)]
  rw [World.cell?_setCell_other _ ⟨G, o + 2, none⟩ ⟨G, o + 5, none⟩ _ (by simp)]
  rw [World.cell?_setCell_other _ ⟨G, o + 1, none⟩ ⟨G, o + 5, none⟩ _ (by simp)]
  rw [World.cell?_setCell_other _ ⟨G, o, none⟩ ⟨G, o + 5, none⟩ _ (by simp)]
  exact h
theorem set9_cell6 {w : World} {G o : Nat} (v0 v1 v2 v3 v4 v5 v6 v7 v8 : Value) {u : Value} (h : w.cell? ⟨G, o + 6, none⟩ = some u) : (set9 w G o v0 v1 v2 v3 v4 v5 v6 v7 v8).cell? ⟨G, o + 6, none⟩ = some v6 := by
  unfold set9
  rw [World.cell?_setCell_other _ ⟨G, o + 8, none⟩ ⟨G, o + 6, none⟩ _ (by simp)]
  rw [World.cell?_setCell_other _ ⟨G, o + 7, none⟩ ⟨G, o + 6, none⟩ _ (by simp)]
  refine World.cell?_setCell_same _ _ _ (u := u) ?_
  rw [World.cell?_setCell_other _ ⟨G, o + 5, none⟩ ⟨G, o + 6, none⟩ _ (by simp)]
  rw [World.cell?_setCell_other _ ⟨G, o + 4, none⟩ ⟨G, o + 6, none⟩ _ (by simp)]
  rw [World.cell?_setCell_other _ ⟨G, o + 3, none⟩ ⟨G, o + 6, none⟩ _ (by simp)]
  rw [World.cell?_setCell_other _ ⟨G, o + 2, none⟩ ⟨G, o + 6, none⟩ _ (by simp)]
  rw [World.cell?_setCell_other _ ⟨G, o + 1, none⟩ ⟨G, o + 6, none⟩ _ (by simp)]
  rw [World.cell?_setCell_other _ ⟨G, o, none⟩ ⟨G, o + 6, none⟩ _ (by simp)]
  exact h
theorem set9_cell7 {w : World} {G o : Nat} (v0 v1 v2 v3 v4 v5 v6 v7 v8 : Value) {u : Value} (h : w.cell? ⟨G, o + 7, none⟩ = some u) : (set9 w G o v0 v1 v2 v3 v4 v5 v6 v7 v8).cell? ⟨G, o + 7, none⟩ = some v7 := by
  unfold set9
  rw [World.cell?_setCell_other _ ⟨G, o + 8, none⟩ ⟨G, o + 7, none⟩ _ (by simp)]
  refine World.cell?_setCell_same _ _ _ (u := u) ?_
  rw [World.cell?_setCell_other _ ⟨G, o + 6, none⟩ ⟨G, o + 7, none⟩ _ (by simp)]
  rw [World.cell?_setCell_other _ ⟨G, o + 5, none⟩ ⟨G, o + 7, none⟩ _ (by simp)]
  rw [World.cell?_setCell_other _ ⟨G, o + 4, none⟩ ⟨G, o + 7, none⟩ _ (by simp)]
  rw [World.cell?_setCell_other _ ⟨G, o + 3, none⟩ ⟨G, o + 7, none⟩ _ (by simp)]
  rw [World.cell?_setCell_other _ ⟨G, o + 2, none⟩ ⟨G, o + 7, none⟩ _ (by simp)]
  rw [World.cell?_setCell_other _ ⟨G, o + 1, none⟩ ⟨G, o + 7, none⟩ _ (by simp)]
  rw [World.cell?_setCell_other _ ⟨G, o, none⟩ ⟨G, o + 7, none⟩ _ (by simp)]
  exact h
theorem set9_cell8 {w : World} {G o : Nat} (v0 v1 v2 v3 v4 v5 v6 v7 v8 : Value) {u : Value} (h : w.cell? ⟨G, o + 8, none⟩ = some u) : (set9 w G o v0 v1 v2 v3 v4 v5 v6 v7 v8).cell? ⟨G, o + 8, none⟩ = some v8 := by
  unfold set9
  refine World.cell?_setCell_same _ _ _ (u := u) ?_
  rw [World.cell?_setCell_other _ ⟨G, o + 7, none⟩ ⟨G, o + 8, none⟩ _ (by simp)]
  rw [World.cell?_setCell_other _ ⟨G, o + 6, none⟩ ⟨G, o + 8, none⟩ _ (by simp)]
  rw [World.cell?_setCell_other _ ⟨G, o + 5, none⟩ ⟨G, o + 8, none⟩ _ (by simp)]
  rw [World.cell?_setCell_other _ ⟨G, o + 4, none⟩ ⟨G, o + 8, none⟩ _ (by simp)]
  rw [World.cell?_setCell_other _ ⟨G, o + 3, none⟩ ⟨G, o + 8, none⟩ _ (by simp)]
  rw [World.cell?_setCell_other _ ⟨G, o + 2, none⟩ ⟨G, o + 8, none⟩ _ (by simp)]
  rw [World.cell?_setCell_other _ ⟨G, o + 1, none⟩ ⟨G, o + 8, none⟩ _ (by simp)]
  rw [World.cell?_setCell_other _ ⟨G, o, none⟩ ⟨G, o + 8, none⟩ _ (by simp)]
  exact h
end Go.Proofs.YtdldblfopcbfeaaGreatDoor
