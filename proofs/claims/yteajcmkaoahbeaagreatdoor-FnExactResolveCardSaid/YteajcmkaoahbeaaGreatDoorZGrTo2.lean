/- A copy of a row of events, and of a graph. -/
import Derived.Test.YteajcmkaoahbeaaGreatDoorZGrOpen
import Derived.Test.YteajcmkaoahbeaaGreatDoorZGrSpec
namespace Go.Proofs.YteajcmkaoahbeaaGreatDoor
open Go.RowKit

theorem set9_below {B : Nat} {a w : World} (h : Below B a w) {G : Nat} (hG : B ≤ G) (o : Nat) (v0 v1 v2 v3 v4 v5 v6 v7 v8 : Value) : Below B a (set9 w G o v0 v1 v2 v3 v4 v5 v6 v7 v8) := by
  unfold set9
  repeat refine Below.setCell ?_ hG _
  exact h
theorem set9_nums {base : Nat} {w : World} {a : Option Addr} {zs : List Int} (h : NumsNew base w a zs) {G : Nat} (hG : G < base) (o : Nat) (v0 v1 v2 v3 v4 v5 v6 v7 v8 : Value) : NumsNew base (set9 w G o v0 v1 v2 v3 v4 v5 v6 v7 v8) a zs := by
  unfold set9
  repeat refine NumsNew.set ?_ hG _
  exact h
theorem set9_frozen (w : World) (G o : Nat) (v0 v1 v2 v3 v4 v5 v6 v7 v8 : Value) (p : Addr) : (set9 w G o v0 v1 v2 v3 v4 v5 v6 v7 v8).frozen? p = w.frozen? p := by
  unfold set9
  simp
theorem set9_size (w : World) (G o : Nat) (v0 v1 v2 v3 v4 v5 v6 v7 v8 : Value) : (set9 w G o v0 v1 v2 v3 v4 v5 v6 v7 v8).heap.size = w.heap.size := by
  unfold set9
  simp
theorem set9_blk {w : World} {G n : Nat} {t : TypeId} (h : ∃ C : Array Value, w.heap[G]? = some (Obj.cells C t (0, 0)) ∧ C.size = n) (o : Nat) (v0 v1 v2 v3 v4 v5 v6 v7 v8 : Value) : ∃ C : Array Value, (set9 w G o v0 v1 v2 v3 v4 v5 v6 v7 v8).heap[G]? = some (Obj.cells C t (0, 0)) ∧ C.size = n := by
  have one : ∀ {W : World} (j : Nat) (v : Value), (∃ C : Array Value, W.heap[G]? = some (Obj.cells C t (0, 0)) ∧ C.size = n) → ∃ C : Array Value, (W.setCell ⟨G, j, none⟩ v).heap[G]? = some (Obj.cells C t (0, 0)) ∧ C.size = n := fun j v ⟨C, h1, h2⟩ => ⟨C.setIfInBounds j v, heap_set h1 v, by simpa using h2⟩
  unfold set9
  exact one _ _ (one _ _ (one _ _ (one _ _ (one _ _ (one _ _ (one _ _ (one _ _ (one _ _ h))))))))
/-- The copy when k events are laid in. -/
structure ToInv (w : World) (es es' : List Em) (k : Nat) (W : World) : Prop where
  len : es'.length = k
  same : es'.map (·.v) = (es.take k).map (·.v)
  cells : ∀ i (h : i < es'.length) j, j < 9 → W.cell? ⟨w.heap.size, i * 9 + j, none⟩ = (emCells es'[i])[j]?
  rest : ∀ q, k * 9 ≤ q → q < es.length * 9 → ∃ u, W.cell? ⟨w.heap.size, q, none⟩ = some u
  free : ∀ q, W.frozen? ⟨w.heap.size, q, none⟩ = false
  nums : ∀ m ∈ es', NumsNew (w.heap.size + 1) W m.p m.v.prev
  below : Below w.heap.size w W
  there : w.heap.size < W.heap.size
  blk : ∃ C : Array Value, W.heap[w.heap.size]? = some (Obj.cells C 114 (0, 0)) ∧ C.size = es.length * 9
theorem ToInv.next {w : World} {es es' : List Em} {k : Nat} {W W1 : World} {a' : Option Addr} (h : ToInv w es es' k W) (hlt : k < es.length) (hb : Below W.heap.size W W1) (hn : NumsNew W.heap.size W1 a' es[k].v.prev) :
    ToInv w es (es' ++ [⟨es[k].v, a', es[k].v.prev.length⟩]) (k + 1) (set9 W1 w.heap.size (k * 9) (.int .i64 es[k].v.id) (.int .i64 es[k].v.room) (.int .i64 es[k].v.author) (.int .i64 es[k].v.kind) (.int .i64 es[k].v.key) (.int .i64 es[k].v.n) (.string es[k].v.text) (.slice a' es[k].v.prev.length es[k].v.prev.length) (.int .i64 es[k].v.time)) := by
  have hz := h.there
  have old : ∀ q, W1.cell? ⟨w.heap.size, q, none⟩ = W.cell? ⟨w.heap.size, q, none⟩ := fun q => hb.cell (p := ⟨w.heap.size, q, none⟩) hz
  have hk : ∀ j, j < 9 → ∃ u, W1.cell? ⟨w.heap.size, k * 9 + j, none⟩ = some u := fun j hj => by
    rw [old]
    exact h.rest _ (by omega) (by omega)
  refine ⟨by simp [h.len], ?_, fun i hi j hj => ?_, fun q hq1 hq2 => ?_, fun q => ?_, fun m hm => ?_, ?_, ?_, ?_⟩
  · rw [List.map_append, h.same, List.take_succ_eq_append_getElem hlt, List.map_append]
    rfl
  · by_cases e : i < es'.length
    · have hl := h.len
      rw [set9_cell_other _ _ _ _ _ _ _ _ _ _ _ _ _ (by omega), old, List.getElem_append_left e]
      exact h.cells i e j hj
    · have e2 : i = k := by
        have := h.len
        simp at hi
        omega
      subst e2
      have e3 : (es' ++ [(⟨es[i].v, a', es[i].v.prev.length⟩ : Em)])[i] = ⟨es[i].v, a', es[i].v.prev.length⟩ := by
        rw [List.getElem_append_right (by omega)]
        simp [h.len]
      rw [e3]
      match j, hj with
      | 0, _ =>
        obtain ⟨u, hu⟩ := hk 0 (by omega)
        exact set9_cell0 _ _ _ _ _ _ _ _ _ hu
      | 1, _ =>
        obtain ⟨u, hu⟩ := hk 1 (by omega)
        exact set9_cell1 _ _ _ _ _ _ _ _ _ hu
      | 2, _ =>
        obtain ⟨u, hu⟩ := hk 2 (by omega)
        exact set9_cell2 _ _ _ _ _ _ _ _ _ hu
      | 3, _ =>
        obtain ⟨u, hu⟩ := hk 3 (by omega)
        exact set9_cell3 _ _ _ _ _ _ _ _ _ hu
      | 4, _ =>
        obtain ⟨u, hu⟩ := hk 4 (by omega)
        exact set9_cell4 _ _ _ _ _ _ _ _ _ hu
      | 5, _ =>
        obtain ⟨u, hu⟩ := hk 5 (by omega)
        exact set9_cell5 _ _ _ _ _ _ _ _ _ hu
      | 6, _ =>
        obtain ⟨u, hu⟩ := hk 6 (by omega)
        exact set9_cell6 _ _ _ _ _ _ _ _ _ hu
      | 7, _ =>
        obtain ⟨u, hu⟩ := hk 7 (by omega)
        exact set9_cell7 _ _ _ _ _ _ _ _ _ hu
      | 8, _ =>
        obtain ⟨u, hu⟩ := hk 8 (by omega)
        exact set9_cell8 _ _ _ _ _ _ _ _ _ hu
  · rw [set9_cell_other _ _ _ _ _ _ _ _ _ _ _ _ _ (by omega), old]
    exact h.rest q (by omega) hq2
  · rw [set9_frozen, hb.frozen (p := ⟨w.heap.size, q, none⟩) hz]
    exact h.free q
  · refine set9_nums ?_ (Nat.lt_succ_self _) _ _ _ _ _ _ _ _ _ _
    rcases List.mem_append.1 hm with h1 | h1
    · exact (h.nums m h1).kept hb
    · simp only [List.mem_singleton] at h1
      subst h1
      exact hn.mono hz
  · exact set9_below (h.below.trans (hb.mono h.below.size)) (Nat.le_refl _) _ _ _ _ _ _ _ _ _ _
  · rw [set9_size]
    exact Nat.lt_of_lt_of_le hz hb.size
  · obtain ⟨C, h1, h2⟩ := h.blk
    exact set9_blk ⟨C, (hb.block _ hz).trans h1, h2⟩ _ _ _ _ _ _ _ _ _ _
theorem Tryz.infoEv : (Tryz.prog.info? 114).map (fun i => (i.zero, i.size, i.bytes)) = some (some (.agg #[.int .i64 0, .int .i64 0, .int .i64 0, .int .i64 0, .int .i64 0, .int .i64 0, .string ⟨#[]⟩, .slice none 0 0, .int .i64 0]), 9, 96) := by kernel_rfl
theorem made_there {w0 : World} {base G n : Nat} {e : TypeId} {xs : List Value} (h : w0.ownsRow base e 9 (.slice (some ⟨G, 0, none⟩) n n) n xs) : (∀ q, q < n * 9 → ∃ u, w0.cell? ⟨G, q, none⟩ = some u) ∧ (∀ q, w0.frozen? ⟨G, q, none⟩ = false) ∧ G < w0.heap.size ∧ ∃ C : Array Value, w0.heap[G]? = some (Obj.cells C e (0, 0)) ∧ C.size = n * 9 := by
  rcases h.2 with ⟨h1, _⟩ | ⟨g, c, cur, h1, _, h2, _, _, h3, _⟩
  · cases h1
  · cases h1
    refine ⟨fun q hq => ?_, fun q => frozen_of_heap h2, (Array.getElem?_eq_some_iff.1 h2).1, cur, h2, h3⟩
    rw [cell_of_heap h2]
    exact ⟨cur[q]'(by omega), Array.getElem?_eq_getElem _⟩
/-- A row of events in blocks of its own, laid behind 'base'. -/
structure EvsFresh (base : Nat) (W : World) (a : Option Addr) (es : List Em) : Prop where
  len : es.length ≤ 1048576
  row : ∃ b, a = some ⟨b, 0, none⟩ ∧ base ≤ b ∧ b < W.heap.size ∧ (∃ C : Array Value, W.heap[b]? = some (Obj.cells C 114 (0, 0)) ∧ C.size = es.length * 9) ∧ ∀ i (h : i < es.length) j, j < 9 → W.cell? ⟨b, i * 9 + j, none⟩ = (emCells es[i])[j]?
  nums : ∀ m ∈ es, NumsNew base W m.p m.v.prev ∧ m.v.prev.length ≤ 1048576
theorem EvsFresh.at {base : Nat} {W : World} {a : Option Addr} {es : List Em} (h : EvsFresh base W a es) : EvsAt W a es := by
  refine ⟨h.len, fun _ => ?_, fun m hm => (h.nums m hm).1.at (h.nums m hm).2⟩
  obtain ⟨b, ha, _, hb, _, hc⟩ := h.row
  exact ⟨b, 0, ha, hb, fun i hi j hj => by rw [Nat.zero_add]; exact hc i hi j hj⟩
theorem EvsFresh.kept {base : Nat} {W W' : World} {a : Option Addr} {es : List Em} (h : EvsFresh base W a es) (hb : Below W.heap.size W W') : EvsFresh base W' a es := by
  obtain ⟨b, ha, h1, h2, h3, hc⟩ := h.row
  obtain ⟨C, h4, h5⟩ := h3
  exact ⟨h.len, ⟨b, ha, h1, Nat.lt_of_lt_of_le h2 hb.size, ⟨C, (hb.block b h2).trans h4, h5⟩, fun i hi j hj => (hb.cell (p := ⟨b, i * 9 + j, none⟩) h2).trans (hc i hi j hj)⟩, fun m hm => ⟨(h.nums m hm).1.kept hb, (h.nums m hm).2⟩⟩
theorem EvsFresh.set {base : Nat} {W : World} {a : Option Addr} {es : List Em} (h : EvsFresh base W a es) {p : Addr} (hp : p.block < base) (u : Value) : EvsFresh base (W.setCell p u) a es := by
  obtain ⟨b, ha, h1, h2, h3, hc⟩ := h.row
  obtain ⟨C, h4, h5⟩ := h3
  refine ⟨h.len, ⟨b, ha, h1, by simpa using h2, ⟨C, (Below.heap_setCell _ _ _ _ (by omega)).trans h4, h5⟩, fun i hi j hj => ?_⟩, fun m hm => ⟨(h.nums m hm).1.set hp u, (h.nums m hm).2⟩⟩
  rw [World.cell?_setCell_other _ _ _ _ (fun e => by have := congrArg Addr.block e; simp at this; omega)]
  exact hc i hi j hj
theorem EvsFresh.mono {base base' : Nat} {W : World} {a : Option Addr} {es : List Em} (h : EvsFresh base W a es) (hb : base' ≤ base) : EvsFresh base' W a es := by
  obtain ⟨b, ha, h1, r⟩ := h.row
  exact ⟨h.len, ⟨b, ha, Nat.le_trans hb h1, r⟩, fun m hm => ⟨(h.nums m hm).1.mono hb, (h.nums m hm).2⟩⟩
/-- A copy of a row. -/
structure EvsNew (w : World) (es es' : List Em) (a' : Option Addr) (W : World) : Prop where
  same : es'.map (·.v) = es.map (·.v)
  row : EvsFresh w.heap.size W a' es'
  below : Below w.heap.size w W
theorem EvsNew.len {w : World} {es es' : List Em} {a' : Option Addr} {W : World} (h : EvsNew w es es' a' W) : es'.length = es.length := by
  have := congrArg List.length h.same
  simpa using this
set_option maxHeartbeats 4000000 in
set_option maxRecDepth 100000 in
theorem to_events (es : List Em) (a : Option Addr) (cap : Nat) (w : World) (h : EvsAt w a es) :
    Calls Tryz.prog 41 #[.slice a es.length cap] w fun e w' => ∃ a' es', e = .returned (.slice a' es.length es.length) ∧ EvsNew w es es' a' w' := by
  obtain ⟨i0, hi, hz0, hz1, hz2⟩ := info_parts Tryz.infoEv
  have hl := h.len
  have H : Hid (EvsAt w a es) := h
  clear h
  go_enter Tryz.func41, Tryz.ntmps41
  go_wp2_with (at_make; refine wpList_make_full _ rfl _ _ 30 rfl w.heap.size 114 i0 _ 9 Tryz.underlying30 hi hz0 hz1 .i64 .i64 _ _ es.length rfl rfl (by omega) (by omega) (by rw [hz2]; omega) (by unfold maxLen; omega) (Nat.le_refl _) ?_; intro w0 hown0 hgrow0)
  have HI0 : Hid (ToInv w es [] 0 w0) := by
    obtain ⟨q1, q2, q3, q4⟩ := made_there hown0
    exact ⟨rfl, rfl, fun i hi => absurd hi (Nat.not_lt_zero _), fun q _ hq => q1 q hq, q2, fun m hm => (by cases hm), (Below.refl _ _).grown hgrow0 (Nat.le_refl _) (fun k h => by cases h), q3, q4⟩
  clear hown0 hgrow0
  go_wp2
  go_loopw [4] (fun i wr => ∃ (k : Nat) (es' : List Em), k ≤ es.length ∧ i = .int .i64 k ∧ Hid (ToInv w es es' k wr)) (fun i _ => es.length - (intOf i).toNat)
  case atStart => exact ⟨0, [], Nat.zero_le _, rfl, HI0⟩
  case round =>
    clear HI0
    obtain ⟨k, es', hk, rfl, HI⟩ := hrel
    by_cases hlt : k < es.length
    · have HE : Hid (EvsAt wr a es) := H.out.kept HI.out.below
      obtain ⟨b, off, rfl, hbb, hcell⟩ := HE.out.row (by omega)
      have hc0 : wr.cell? ⟨b, off + k * 9, none⟩ = some (.int .i64 es[k].v.id) := by
        have := hcell k hlt 0 (by omega)
        exact this
      have hc1 : wr.cell? ⟨b, off + k * 9 + 1, none⟩ = some (.int .i64 es[k].v.room) := by
        have := hcell k hlt 1 (by omega)
        rwa [← Nat.add_assoc] at this
      have hc2 : wr.cell? ⟨b, off + k * 9 + 2, none⟩ = some (.int .i64 es[k].v.author) := by
        have := hcell k hlt 2 (by omega)
        rwa [← Nat.add_assoc] at this
      have hc3 : wr.cell? ⟨b, off + k * 9 + 3, none⟩ = some (.int .i64 es[k].v.kind) := by
        have := hcell k hlt 3 (by omega)
        rwa [← Nat.add_assoc] at this
      have hc4 : wr.cell? ⟨b, off + k * 9 + 4, none⟩ = some (.int .i64 es[k].v.key) := by
        have := hcell k hlt 4 (by omega)
        rwa [← Nat.add_assoc] at this
      have hc5 : wr.cell? ⟨b, off + k * 9 + 5, none⟩ = some (.int .i64 es[k].v.n) := by
        have := hcell k hlt 5 (by omega)
        rwa [← Nat.add_assoc] at this
      have hc6 : wr.cell? ⟨b, off + k * 9 + 6, none⟩ = some (.string es[k].v.text) := by
        have := hcell k hlt 6 (by omega)
        rwa [← Nat.add_assoc] at this
      have hc7 : wr.cell? ⟨b, off + k * 9 + 7, none⟩ = some (.slice es[k].p es[k].v.prev.length es[k].c) := by
        have := hcell k hlt 7 (by omega)
        rwa [← Nat.add_assoc] at this
      have hc8 : wr.cell? ⟨b, off + k * 9 + 8, none⟩ = some (.int .i64 es[k].v.time) := by
        have := hcell k hlt 8 (by omega)
        rwa [← Nat.add_assoc] at this
      clear hcell
      go_wp2_with fail
      refine (to_event es[k].v es[k].p es[k].c _ (HE.out.nums _ (List.getElem_mem hlt))).mono ?_
      rintro e w1 ⟨a', rfl, hn1, hb1⟩
      have HI1 : Hid (ToInv w es (es' ++ [⟨es[k].v, a', es[k].v.prev.length⟩]) (k + 1) (set9 w1 w.heap.size (k * 9) (.int .i64 es[k].v.id) (.int .i64 es[k].v.room) (.int .i64 es[k].v.author) (.int .i64 es[k].v.kind) (.int .i64 es[k].v.key) (.int .i64 es[k].v.n) (.string es[k].v.text) (.slice a' es[k].v.prev.length es[k].v.prev.length) (.int .i64 es[k].v.time))) := HI.out.next hlt hb1 hn1
      have hold : ∀ j, j < 9 → ∃ u, w1.cell? ⟨w.heap.size, k * 9 + j, none⟩ = some u := fun j hj => by
        rw [hb1.cell (p := ⟨w.heap.size, k * 9 + j, none⟩) HI.out.there]
        exact HI.out.rest _ (by omega) (by omega)
      obtain ⟨ux0, hu0⟩ := hold 0 (by omega)
      obtain ⟨ux1, hu1⟩ := hold 1 (by omega)
      obtain ⟨ux2, hu2⟩ := hold 2 (by omega)
      obtain ⟨ux3, hu3⟩ := hold 3 (by omega)
      obtain ⟨ux4, hu4⟩ := hold 4 (by omega)
      obtain ⟨ux5, hu5⟩ := hold 5 (by omega)
      obtain ⟨ux6, hu6⟩ := hold 6 (by omega)
      obtain ⟨ux7, hu7⟩ := hold 7 (by omega)
      obtain ⟨ux8, hu8⟩ := hold 8 (by omega)
      have hf : ∀ q, w1.frozen? ⟨w.heap.size, q, none⟩ = false := fun q => by
        rw [hb1.frozen (p := ⟨w.heap.size, q, none⟩) HI.out.there]
        exact HI.out.free q
      rw [Nat.add_zero] at hu0
      clear hn1 hb1 hold hc0 hc1 hc2 hc3 hc4 hc5 hc6 hc7 hc8
      go_wp2
      go_roundw
      case rel => exact ⟨k + 1, _, by omega, by go_num, HI1⟩
      case measure => simp [intOf]; omega
    · have HE : Hid (EvsNew w es es' (some ⟨w.heap.size, 0, none⟩) wr) := by
        have e : k = es.length := by omega
        have hlen := HI.out.len
        have hs := HI.out.same
        rw [e, List.take_length] at hs
        have HBK : ∃ C : Array Value, wr.heap[w.heap.size]? = some (Obj.cells C 114 (0, 0)) ∧ C.size = es'.length * 9 := by
          obtain ⟨C, q1, q2⟩ := HI.out.blk
          exact ⟨C, q1, by omega⟩
        refine ⟨hs, ⟨by omega, ⟨w.heap.size, rfl, Nat.le_refl _, HI.out.there, HBK, HI.out.cells⟩, fun m hm => ⟨(HI.out.nums m hm).mono (Nat.le_succ _), ?_⟩⟩, HI.out.below⟩
        · obtain ⟨x, hx, hxm⟩ := List.mem_map.1 (hs ▸ List.mem_map.2 ⟨m, hm, rfl⟩ : m.v ∈ es.map (·.v))
          rw [← hxm]
          exact (H.out.nums x hx).1
      go_wp2
      go_ret
      exact ⟨_, es', rfl, HE.out⟩
set_option maxHeartbeats 4000000 in
set_option maxRecDepth 100000 in
theorem sz_graph (g : Gr) (a : Option Addr) (cap : Nat) (p : Option Addr) (cp : Nat) (left : Int) (w : World) (h : EvsRaw w a g.evs) (h2 : EvsRaw w p g.pk) (h0 : 0 ≤ left) (h1 : left ≤ 1048576) :
    Calls Tryz.prog 9 #[.agg #[.int .i64 g.room, .slice a g.evs.length cap, .slice p g.pk.length cp], .int .i64 left] w fun e w' => e = .returned (.int .i64 (szB (wt g.evs + wt g.pk) left)) ∧ Below w.heap.size w w' := by
  have HB : Hid (∀ o, Below w.heap.size w (w.alloc o)) := fun o => (Below.refl _ _).alloc (Nat.le_refl _) o
  have HE : Hid (∀ w', Below w.heap.size w w' → EvsRaw w' a g.evs ∧ EvsRaw w' p g.pk) := fun w' hb => ⟨h.kept hb, h2.kept hb⟩
  clear h h2
  by_cases c1 : (wt g.evs : Int) ≤ left
  · have HS1 : Hid (szB (wt g.evs) left = left - wt g.evs) := szB_yes c1
    obtain ⟨L, HL⟩ : ∃ L : Int, Hid (L = left - wt g.evs) := ⟨left - wt g.evs, (rfl : (left - wt g.evs : Int) = _)⟩
    have l0 : 0 ≤ L := by rw [HL.out]; omega
    have l1 : L ≤ 1048576 := by rw [HL.out]; omega
    have HS2 : Hid (szB (wt g.pk) L = szB (wt g.evs + wt g.pk) left) := by
      have e := HL.out
      unfold Hid szB
      by_cases c2 : (wt g.pk : Int) ≤ L
      · rw [if_pos c2, if_pos (by omega)]
        omega
      · rw [if_neg c2, if_neg (by omega)]
    clear c1
    go_enter Tryz.func9, Tryz.ntmps9
    go_wp2_with fail
    refine (sz_events g.evs a cap left _ (HE.out _ (HB.out _)).1 h0 h1).mono ?_
    rintro e w1 ⟨rfl, hb1⟩
    rw [HS1.out, ← HL.out]
    obtain ⟨hc1, hf1⟩ := bcell hb1
    have HW1 : Hid (Below w.heap.size w w1) := (HB.out _).trans (hb1.mono (by simp))
    clear hb1
    go_wp2_with fail
    refine (sz_events g.pk p cp L _ (HE.out _ HW1.out).2 l0 l1).mono ?_
    rintro e w2 ⟨rfl, hb2⟩
    rw [HS2.out]
    have HW2 : Hid (Below w.heap.size w w2) := HW1.out.trans (hb2.mono HW1.out.size)
    clear hb2
    by_cases c3 : ((wt g.evs + wt g.pk : Nat) : Int) ≤ left
    · have HS3 : Hid (szB (wt g.evs + wt g.pk) left = left - (wt g.evs + wt g.pk : Nat)) := szB_yes c3
      obtain ⟨L3, HL3⟩ : ∃ L3 : Int, Hid (L3 = szB (wt g.evs + wt g.pk) left) := ⟨szB (wt g.evs + wt g.pk) left, (rfl : (szB (wt g.evs + wt g.pk) left : Int) = _)⟩
      have q0 : 0 ≤ L3 := by rw [HL3.out, HS3.out]; omega
      rw [← HL3.out]
      clear c3
      go_wp2
      go_ret
      exact ⟨ret_int HL3.out, HW2.out⟩
    · have HS3 : Hid (szB (wt g.evs + wt g.pk) left = -1) := szB_no c3
      rw [HS3.out]
      clear c3
      go_wp2
      go_ret
      exact ⟨ret_int HS3.out.symm, HW2.out⟩
  · have HS1 : Hid (szB (wt g.evs) left = -1) := szB_no c1
    have HS2 : Hid (szB (wt g.evs + wt g.pk) left = -1) := szB_no (by omega)
    clear c1
    go_enter Tryz.func9, Tryz.ntmps9
    go_wp2_with fail
    refine (sz_events g.evs a cap left _ (HE.out _ (HB.out _)).1 h0 h1).mono ?_
    rintro e w1 ⟨rfl, hb1⟩
    rw [HS1.out]
    have HW1 : Hid (Below w.heap.size w w1) := (HB.out _).trans (hb1.mono (by simp))
    clear hb1
    go_wp2
    go_ret
    exact ⟨ret_int HS2.out.symm, HW1.out⟩
/-- A row of events lies ahead of a block. -/
def EvsUnder (mid : Nat) (a : Option Addr) (es : List Em) : Prop := (∀ x, a = some x → x.block < mid) ∧ ∀ m ∈ es, ∀ x, m.p = some x → x.block < mid
theorem EvsFresh.under {base : Nat} {W : World} {a : Option Addr} {es : List Em} (h : EvsFresh base W a es) : EvsUnder W.heap.size a es := by
  obtain ⟨b, rfl, _, hb, _⟩ := h.row
  refine ⟨fun x hx => by cases hx; exact hb, fun m hm x hx => ?_⟩
  obtain ⟨c, hc, _, hh⟩ := (h.nums m hm).1
  rw [hc] at hx
  cases hx
  exact (Array.getElem?_eq_some_iff.1 hh).1
/-- A copy of a graph. -/
structure GrNew (w : World) (g g' : Gr) (a' p' : Option Addr) (W : World) : Prop where
  room : g'.room = g.room
  evs : EvsNew w g.evs g'.evs a' W
  pk : EvsNew w g.pk g'.pk p' W
  apart : ∃ mid, EvsUnder mid a' g'.evs ∧ EvsFresh mid W p' g'.pk
set_option maxHeartbeats 4000000 in
set_option maxRecDepth 100000 in
theorem to_graph (g : Gr) (a : Option Addr) (cap : Nat) (p : Option Addr) (cp : Nat) (w : World) (h : EvsAt w a g.evs) (h2 : EvsAt w p g.pk) :
    Calls Tryz.prog 12 #[.agg #[.int .i64 g.room, .slice a g.evs.length cap, .slice p g.pk.length cp]] w fun e w' => ∃ g' a' p', e = .returned (.agg #[.int .i64 g.room, .slice a' g.evs.length g.evs.length, .slice p' g.pk.length g.pk.length]) ∧ GrNew w g g' a' p' w' := by
  have HE : Hid (∀ w', Below w.heap.size w w' → EvsAt w' a g.evs ∧ EvsAt w' p g.pk) := fun w' hb => ⟨h.kept hb, h2.kept hb⟩
  clear h h2
  go_enter Tryz.func12, Tryz.ntmps12
  go_wp2_with fail
  refine (to_events g.evs a cap _ (HE.out _ ?_).1).mono ?_
  · exact (((Below.refl _ _).alloc (Nat.le_refl _) _).alloc (by simp) _).alloc (by simp; omega) _
  rintro e w1 ⟨a', es', rfl, hn1⟩
  have hb1 := hn1.below
  obtain ⟨hc1, hf1⟩ := bcell hb1
  have hz1 : w.heap.size + 1 + 1 < w1.heap.size := by have := hb1.size; simp at this; omega
  have hy1 : w.heap.size < w1.heap.size := by omega
  have hy2 : w.heap.size + 1 < w1.heap.size := by omega
  have HW1 : Hid (EvsFresh (w.heap.size + 1 + 1 + 1) w1 a' es' ∧ es'.map (·.v) = g.evs.map (·.v) ∧ Below w.heap.size w w1) := ⟨by simpa using hn1.row, hn1.same, ((((Below.refl _ _).alloc (Nat.le_refl _) _).alloc (by simp) _).alloc (by simp; omega) _).trans (hb1.mono (by simp; omega))⟩
  clear hn1 hb1
  go_wp2_with fail
  refine (to_events g.pk p cp _ (HE.out _ ?_).2).mono ?_
  · exact HW1.out.2.2.setCell (by simp; omega) _
  rintro e w2 ⟨p', ps', rfl, hn2⟩
  have hb2 := hn2.below
  obtain ⟨hc2, hf2⟩ := bcell hb2
  have hz2 : w.heap.size + 1 + 1 < w2.heap.size := by have := hb2.size; simp at this; omega
  have HX : Hid (EvsFresh (w.heap.size + 1 + 1 + 1) w2 a' es' ∧ EvsFresh w1.heap.size w2 p' ps' ∧ ps'.map (·.v) = g.pk.map (·.v) ∧ Below w.heap.size w w2) := by
    refine ⟨(HW1.out.1.set (by simp) _).kept hb2, hn2.row.mono (by simp), hn2.same, (HW1.out.2.2.setCell (by simp; omega) _).trans (hb2.mono (by simp; omega))⟩
  clear hn2 hb2
  go_wp2
  refine bodyPost_ret (v := .agg #[.int .i64 g.room, .slice a' g.evs.length g.evs.length, .slice p' g.pk.length g.pk.length]) (by simp [results, Tryz.results12, go_sem, hc2, hc1, hy2]) rfl ⟨⟨g.room, es', ps'⟩, a', p', rfl, ?_⟩
  refine ⟨rfl, ⟨HW1.out.2.1, ?_, ?_⟩, ⟨HX.out.2.2.1, ?_, ?_⟩, ⟨w1.heap.size, HW1.out.1.under, ?_⟩⟩
  · refine EvsFresh.mono (base := w.heap.size + 1 + 1 + 1) ?_ (by omega)
    repeat refine EvsFresh.set ?_ (by simp) _
    exact HX.out.1
  · repeat refine Below.setCell ?_ (by simp; try omega) _
    exact HX.out.2.2.2
  · refine EvsFresh.mono (base := w1.heap.size) ?_ (by omega)
    repeat refine EvsFresh.set ?_ (by simp; try omega) _
    exact HX.out.2.1
  · repeat refine Below.setCell ?_ (by simp; try omega) _
    exact HX.out.2.2.2
  · repeat refine EvsFresh.set ?_ (by simp; try omega) _
    exact HX.out.2.1
end Go.Proofs.YteajcmkaoahbeaaGreatDoor
