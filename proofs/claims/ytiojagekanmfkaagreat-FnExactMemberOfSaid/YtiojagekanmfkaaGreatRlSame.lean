/- Rules: copies answer the same; what the law's walks hold. -/
import Derived.Test.YtiojagekanmfkaaGreatRl6
import Derived.Test.YtiojagekanmfkaaGreatGrWalk
import Derived.Test.YtiojagekanmfkaaGreatSt5
namespace Go.Proofs.YtiojagekanmfkaaGreat
open Go.RowKit

theorem evIn_same {es fs : List Em} (h : es.map (·.v) = fs.map (·.v)) (id : Int) : evIn es id = evIn fs id := by unfold evIn; rw [h]
theorem fitsB_same {es fs : List Em} (h : es.map (·.v) = fs.map (·.v)) (xs : List En) : fitsB es xs = fitsB fs xs := by
  have : fitB es = fitB fs := funext fun x => by unfold fitB; rw [evIn_same h]
  unfold fitsB
  rw [this]
theorem sceneB_same {g h : Gr} (hr : g.room = h.room) (he : g.evs.map (·.v) = h.evs.map (·.v)) (hp : g.pk.map (·.v) = h.pk.map (·.v)) (xs : List En) : sceneB g xs = sceneB h xs := by
  unfold sceneB stateB
  rw [rightG_same hr he hp, fitsB_same he]
theorem lastE_same {es fs : List Em} (h : es.map (·.v) = fs.map (·.v)) (xs : List En) (k y : Int) : lastE es xs k y = lastE fs xs k y := evIn_same h _
theorem memG_same {g h : Gr} (hr : g.room = h.room) (he : g.evs.map (·.v) = h.evs.map (·.v)) (hp : g.pk.map (·.v) = h.pk.map (·.v)) (xs : List En) (u : Int) : memG g xs u = memG h xs u := by
  unfold memG memR
  rw [sceneB_same hr he hp, lastE_same he]
theorem levG_same {g h : Gr} (hr : g.room = h.room) (he : g.evs.map (·.v) = h.evs.map (·.v)) (hp : g.pk.map (·.v) = h.pk.map (·.v)) (xs : List En) (u : Int) : levG g xs u = levG h xs u := by
  unfold levG levR
  rw [sceneB_same hr he hp, lastE_same he, lastE_same he]
theorem sigG_same {g h : Gr} (hr : g.room = h.room) (he : g.evs.map (·.v) = h.evs.map (·.v)) (hp : g.pk.map (·.v) = h.pk.map (·.v)) (xs : List En) : sigG g xs = sigG h xs := by
  unfold sigG sigR
  rw [sceneB_same hr he hp, lastE_same he]
/-- The law's own variable, and all that lay before. -/
def LBox (w : World) (g : Gr) (a : Option Addr) (cap : Nat) (p : Option Addr) (cp : Nat) (W : World) : Prop := Below w.heap.size w W ∧ W.heap[w.heap.size]? = some (.cells #[.int .i64 g.room, .slice a g.evs.length cap, .slice p g.pk.length cp] 24 (0, 0))
theorem LBox.start (w : World) (g : Gr) (a : Option Addr) (cap : Nat) (p : Option Addr) (cp : Nat) : LBox w g a cap p cp (w.alloc (.cells #[.int .i64 g.room, .slice a g.evs.length cap, .slice p g.pk.length cp] 24)) := ⟨(Below.refl _ _).alloc (Nat.le_refl _) _, (MapKept.heap_alloc w _).1⟩
theorem LBox.on {w : World} {g : Gr} {a : Option Addr} {cap : Nat} {p : Option Addr} {cp : Nat} {W W' : World} (h : LBox w g a cap p cp W) (hb : Below W.heap.size W W') : LBox w g a cap p cp W' := ⟨h.1.trans (hb.mono h.1.size), (hb.block _ (Array.getElem?_eq_some_iff.1 h.2).1).trans h.2⟩
theorem LBox.lt {w : World} {g : Gr} {a : Option Addr} {cap : Nat} {p : Option Addr} {cp : Nat} {W : World} (h : LBox w g a cap p cp W) : w.heap.size < W.heap.size := (Array.getElem?_eq_some_iff.1 h.2).1
theorem LBox.cells {w : World} {g : Gr} {a : Option Addr} {cap : Nat} {p : Option Addr} {cp : Nat} {W : World} (h : LBox w g a cap p cp W) : W.cell? ⟨w.heap.size, 0, none⟩ = some (.int .i64 g.room) ∧ W.cell? ⟨w.heap.size, 1, none⟩ = some (.slice a g.evs.length cap) ∧ W.cell? ⟨w.heap.size, 2, none⟩ = some (.slice p g.pk.length cp) := ⟨cell_of_heap h.2, cell_of_heap h.2, cell_of_heap h.2⟩
/-- A copy of a graph, told by what it holds. -/
structure GCopy (g g' : Gr) (a' p' : Option Addr) (W : World) : Prop where
  room : g'.room = g.room
  el : g'.evs.length = g.evs.length
  pl : g'.pk.length = g.pk.length
  es : g'.evs.map (·.v) = g.evs.map (·.v)
  ps : g'.pk.map (·.v) = g.pk.map (·.v)
  evs : EvsAt W a' g'.evs
  pk : EvsAt W p' g'.pk
theorem GrNew.copy {w W : World} {g g' : Gr} {a' p' : Option Addr} (h : GrNew w g g' a' p' W) : GCopy g g' a' p' W := ⟨h.room, h.evs.len, h.pk.len, h.evs.same, h.pk.same, h.evs.row.at, h.pk.row.at⟩
theorem GCopy.kept {w W : World} {g g' : Gr} {a' p' : Option Addr} (h : GCopy g g' a' p' w) (hb : Below w.heap.size w W) : GCopy g g' a' p' W := ⟨h.room, h.el, h.pl, h.es, h.ps, h.evs.kept hb, h.pk.kept hb⟩
end Go.Proofs.YtiojagekanmfkaaGreat
