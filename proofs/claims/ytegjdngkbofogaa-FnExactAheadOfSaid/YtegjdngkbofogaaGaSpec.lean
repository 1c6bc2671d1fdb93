/- AheadOf of the specification. -/
import Derived.Test.YtegjdngkbofogaaGaTodo
import Derived.Test.YtegjdngkbofogaaGrAt
namespace Go.Proofs.Ytegjdngkbofogaa
open Go.RowKit

def bvs (d : List Bool) : List Value := d.map Value.bool
/-- The marks in memory: block g of one's own. -/
structure MkTab (w0 : World) (g n : Nat) (d : List Bool) (w : World) : Prop where
  row : w.heap[g]? = some (.cells (bvs d).toArray 4 (0, 0))
  len : d.length = n
theorem MkTab.cell {w0 : World} {g n : Nat} {d : List Bool} {w : World} (h : MkTab w0 g n d w) {j : Nat} (hj : j < n) : w.cell? ⟨g, j, none⟩ = some (.bool (d.getD j false)) := by
  rw [cell_of_heap h.row]
  have : j < d.length := by rw [h.len]; exact hj
  simp [bvs, this]
theorem MkTab.put {w0 : World} {g n : Nat} {d : List Bool} {w : World} (h : MkTab w0 g n d w) (j : Nat) : MkTab w0 g n (d.set j true) (w.setCell ⟨g, j, none⟩ (.bool true)) := by
  refine ⟨?_, by simpa using h.len⟩
  rw [heap_set h.row]
  simp [bvs, List.map_set]
/-- All that the loop holds: the graph's variable, the marks, what is to do. -/
structure AhAt (w : World) (g : Gr) (a : Option Addr) (cap : Nat) (p : Option Addr) (cp : Nat) (marks : List Bool) (q : Option Addr) (c : Nat) (todo : List Int) (W : World) : Prop where
  below : Below w.heap.size w W
  box : W.heap[w.heap.size]? = some (.cells #[.int .i64 g.room, .slice a g.evs.length cap, .slice p g.pk.length cp] 45 (0, 0))
  tab : MkTab w (w.heap.size + 1) g.evs.length marks W
  todo : TodoAt W (w.heap.size + 2) q c todo
  lt : w.heap.size + 1 < W.heap.size
theorem AhAt.on {w : World} {g : Gr} {a : Option Addr} {cap : Nat} {p : Option Addr} {cp : Nat} {marks : List Bool} {q : Option Addr} {c : Nat} {todo : List Int} {W W' : World} (h : AhAt w g a cap p cp marks q c todo W) {q' : Option Addr} {c' : Nat} {todo' : List Int} (hb : Below (w.heap.size + 2) W W') (ht : TodoAt W' (w.heap.size + 2) q' c' todo') : AhAt w g a cap p cp marks q' c' todo' W' :=
  ⟨h.below.trans (hb.mono (by omega)), (hb.block _ (by omega)).trans h.box, ⟨(hb.block _ (by omega)).trans h.tab.row, h.tab.len⟩, ht, Nat.lt_of_lt_of_le h.lt hb.size⟩
theorem AhAt.mark {w : World} {g : Gr} {a : Option Addr} {cap : Nat} {p : Option Addr} {cp : Nat} {marks : List Bool} {q : Option Addr} {c : Nat} {todo : List Int} {W : World} (h : AhAt w g a cap p cp marks q c todo W) (j : Nat) : AhAt w g a cap p cp (marks.set j true) q c todo (W.setCell ⟨w.heap.size + 1, j, none⟩ (.bool true)) :=
  ⟨h.below.setCell (by simp) _, (heap_setCell_other W ⟨w.heap.size + 1, j, none⟩ w.heap.size (.bool true) (by simp)).trans h.box, h.tab.put j, h.todo.kept fun b hb _ => heap_setCell_other W ⟨w.heap.size + 1, j, none⟩ b (.bool true) (by simp; omega), by simpa using h.lt⟩
theorem TodoAt.tail {W : World} {lo : Nat} {q : Option Addr} {c : Nat} {z : Int} {zs : List Int} (h : TodoAt W lo q c (z :: zs)) : ∃ b off, q = some ⟨b, off, none⟩ ∧ W.cell? ⟨b, off, none⟩ = some (.int .i64 z) ∧ TodoAt W lo (some ⟨b, off + 1, none⟩) (c - 1) zs ∧ (c = 1 → TodoAt W lo q 0 zs) := by
  have hle := h.le
  simp at hle
  obtain ⟨b, off, C, hq, hb, hC, hsz, hc⟩ := h.row (by omega)
  have h0 := hc 0 (by simp)
  simp at h0
  refine ⟨b, off, hq, (cell_of_heap hC).trans h0, ⟨by omega, fun _ => ⟨b, off + 1, C, rfl, hb, hC, by omega, fun j hj => ?_⟩⟩, fun e => ⟨by omega, fun h => absurd h (Nat.lt_irrefl 0)⟩⟩
  have := hc (j + 1) (by simp; omega)
  rw [Nat.add_assoc, Nat.add_comm 1 j]
  simpa using this
theorem prevs_right {g : Gr} (hr : rightG g = true) {m : Em} (hm : m ∈ g.evs) : (∀ x ∈ m.v.prev, x ∈ idsOf g.evs) ∧ m.v.prev.length ≤ 4 := by
  have hr' := hr
  unfold rightG at hr'
  simp only [Bool.and_eq_true] at hr'
  have h1 := (rowB_each hr'.1.1.1.1.2 hm).1
  unfold rightB prevB at h1
  simp only [Bool.and_eq_true] at h1
  exact ⟨evsB_prevs hr'.1.1.2 m hm, of_decide_eq_true h1.1.2.1.1⟩
theorem right_nd {g : Gr} (hr : rightG g = true) : (idsOf g.evs).Nodup ∧ g.evs.length ≤ 60 := by
  unfold rightG at hr
  simp only [Bool.and_eq_true] at hr
  exact ⟨rowB_nodup hr.1.1.1.1.2, rowB_len hr.1.1.1.1.2⟩
theorem way_in {g : Gr} (hr : rightG g = true) {b x : Int} (h : Way (pvOf g.evs) b x) : b ∈ idsOf g.evs ∧ x ∈ idsOf g.evs := by
  have key : ∀ c ps, pvOf g.evs c = some ps → ∀ p ∈ ps, p ∈ idsOf g.evs := fun c ps hps p hp => by
    obtain ⟨m, hm, rfl, hpv⟩ := mem_of_pv (pvOf_mem hps) (right_nd hr).1
    rw [hpv] at hps
    cases hps
    exact (prevs_right hr hm).1 p hp
  obtain ⟨ps, hps⟩ := h.from
  exact ⟨pvOf_mem hps, h.within (P := fun x => x ∈ idsOf g.evs) (fun c _ => key c) (key b)⟩
theorem pv_at {es : List Em} (hd : (idsOf es).Nodup) {k : Nat} (hk : k < es.length) : pvOf es (idsOf es)[k]! = some es[k].v.prev := by
  have : (idsOf es)[k]! = es[k].v.id := by
    rw [getElem!_pos (idsOf es) k (by simpa [idsOf] using hk)]
    simp [idsOf]
  rw [this]
  exact pvOf_at hd hk
theorem made_bools (n : Nat) : (madeCells (Value.bool false).cells (n * 1)).toList = bvs (List.replicate n false) := by
  simp [madeCells, Value.cells, Nat.mod_one, List.map_const', bvs]
theorem own_cells {w : World} {base g n : Nat} {e : TypeId} {xs : List Value} (h : w.ownsRow base e 1 (.slice (some ⟨g, 0, none⟩) n n) n xs) : w.heap[g]? = some (.cells xs.toArray e (0, 0)) := by
  rcases h.2 with ⟨h1, _⟩ | ⟨g', cap, cur, h1, _, hg, _, _, hsz, ht⟩
  · cases h1
  · cases h1
    rw [hg, ← ht, List.take_of_length_le (by simp; omega)]
theorem owns_nums {w : World} {base n cap : Nat} {a : Option Addr} {zs : List Int} (h : w.ownsRow base 2 1 (.slice a n cap) n (nv zs)) (hz : zs.length ≤ 1048576) : NumsAt w a zs := by
  refine ⟨hz, fun hp => ?_⟩
  have hn : n = zs.length := by have := h.1; simpa [nv] using this.symm
  obtain ⟨q, c, hv, _, hT⟩ := TodoAt.ofOwn h
  cases hv
  have := hT.le
  obtain ⟨b, off, C, hq, _, hC, _, hc⟩ := hT.row (by omega)
  exact ⟨b, off, hq, (Array.getElem?_eq_some_iff.1 hC).1, fun j hj => (cell_of_heap hC).trans (hc j hj)⟩
def isF : Value → Bool
  | .bool false => true
  | _ => false
/-- How many are not marked yet. -/
def openW (W : World) (g : Nat) : Nat := match W.heap[g]? with
  | some (.cells C _ _) => C.toList.countP isF
  | _ => 0
def lenOf : Value → Nat
  | .slice _ n _ => n
  | _ => 0
theorem MkTab.open {w0 : World} {g n : Nat} {d : List Bool} {w : World} (h : MkTab w0 g n d w) : openW w g = open' d := by
  unfold openW open'
  rw [h.row]
  simp only [bvs, List.countP_map]
  refine List.countP_congr fun b _ => ?_
  cases b <;> simp [isF]
theorem Try.infoBo : (Try.prog.info? 4).map (fun i => (i.zero, i.size, i.bytes)) = some (some (.bool false), 1, 1) := by kernel_rfl
end Go.Proofs.Ytegjdngkbofogaa
