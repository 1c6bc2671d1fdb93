/- A row of events, and a graph, that came in, opened. -/
import Derived.Test.YtjdkenopfnepaaaGreatEvOpen
import Derived.Test.YtjdkenopfnepaaaGreatGrTo
import Derived.Test.YtjdkenopfnepaaaGreatGrSpec
import Derived.Deep.Slices
namespace Go.Proofs.YtjdkenopfnepaaaGreat
open Go.ChangeShapes Go.WideShapes Go.ChangeAt Go.RowKit Go.Deep

set_option maxHeartbeats 400000 in
set_option maxRecDepth 100000 in
theorem open_ev_cells {H : Type} {enc : TypeId × Value → H} {W : World} {fuel : Nat} {cs : List Value} {x0 : DataW H × List MemPlace} (hl9 : cs.length = 9) (hf : DataW.trod enc Tryz.prog W 0 (fun _ => true) true fuel 126 cs = some x0) :
    ∃ m : Em, cs = emCells m ∧ m.v.text.size ≤ maxLen ∧ m.v.prev.length ≤ maxLen ∧ (m.v.prev.length ≤ 1048576 → NumsAt W m.p m.v.prev) := by
  obtain ⟨c0, c1, c2, c3, c4, c5, c6, c7, c8, hcs⟩ := array9 (cs := cs.toArray) (by simpa using hl9)
  have hcs' : cs = [c0, c1, c2, c3, c4, c5, c6, c7, c8] := by simpa using congrArg Array.toList hcs
  subst hcs'
  obtain ⟨xs, n, _, _, _, hlen, hf⟩ := DataW.trod_struct Tryz.underlying126 hf
  have hlen9 : xs.length = 9 := hlen
  clear hl9 hlen hcs
  have g0 : DataW.trod enc Tryz.prog W 0 (fun _ => true) true n 2 [c0] = xs[0]? := by have := hf 0 _ rfl; simpa [Value.cells, Tryz.cellsInt] using this
  have g1 : DataW.trod enc Tryz.prog W 0 (fun _ => true) true n 2 [c1] = xs[1]? := by have := hf 1 _ rfl; simpa [Value.cells, Tryz.cellsInt] using this
  have g2 : DataW.trod enc Tryz.prog W 0 (fun _ => true) true n 2 [c2] = xs[2]? := by have := hf 2 _ rfl; simpa [Value.cells, Tryz.cellsInt] using this
  have g3 : DataW.trod enc Tryz.prog W 0 (fun _ => true) true n 2 [c3] = xs[3]? := by have := hf 3 _ rfl; simpa [Value.cells, Tryz.cellsInt] using this
  have g4 : DataW.trod enc Tryz.prog W 0 (fun _ => true) true n 2 [c4] = xs[4]? := by have := hf 4 _ rfl; simpa [Value.cells, Tryz.cellsInt] using this
  have g5 : DataW.trod enc Tryz.prog W 0 (fun _ => true) true n 2 [c5] = xs[5]? := by have := hf 5 _ rfl; simpa [Value.cells, Tryz.cellsInt] using this
  have g6 : DataW.trod enc Tryz.prog W 0 (fun _ => true) true n 9 [c6] = xs[6]? := by have := hf 6 _ rfl; simpa [Value.cells, Tryz.cellsStr] using this
  have g7 : DataW.trod enc Tryz.prog W 0 (fun _ => true) true n 41 [c7] = xs[7]? := by have := hf 7 _ rfl; simpa [Value.cells, Tryz.cellsNums] using this
  have g8 : DataW.trod enc Tryz.prog W 0 (fun _ => true) true n 2 [c8] = xs[8]? := by have := hf 8 _ rfl; simpa [Value.cells, Tryz.cellsInt] using this
  obtain ⟨y0, k0⟩ := some_of g0 (by omega)
  obtain ⟨y1, k1⟩ := some_of g1 (by omega)
  obtain ⟨y2, k2⟩ := some_of g2 (by omega)
  obtain ⟨y3, k3⟩ := some_of g3 (by omega)
  obtain ⟨y4, k4⟩ := some_of g4 (by omega)
  obtain ⟨y5, k5⟩ := some_of g5 (by omega)
  obtain ⟨y6, k6⟩ := some_of g6 (by omega)
  obtain ⟨y7, k7⟩ := some_of g7 (by omega)
  obtain ⟨y8, k8⟩ := some_of g8 (by omega)
  obtain ⟨n0, e0, _, w0⟩ := DataW.trod_int Tryz.underlying2 k0
  obtain ⟨n1, e1, _, w1⟩ := DataW.trod_int Tryz.underlying2 k1
  obtain ⟨n2, e2, _, w2⟩ := DataW.trod_int Tryz.underlying2 k2
  obtain ⟨n3, e3, _, w3⟩ := DataW.trod_int Tryz.underlying2 k3
  obtain ⟨n4, e4, _, w4⟩ := DataW.trod_int Tryz.underlying2 k4
  obtain ⟨n5, e5, _, w5⟩ := DataW.trod_int Tryz.underlying2 k5
  obtain ⟨n8, e8, _, w8⟩ := DataW.trod_int Tryz.underlying2 k8
  obtain ⟨t6, e6, _, w6⟩ := DataW.trod_string Tryz.underlying9 k6
  simp only [List.cons.injEq, and_true] at e0 e1 e2 e3 e4 e5 e8 e6
  subst e0 e1 e2 e3 e4 e5 e8 e6
  rcases open_ints Tryz.underlying41 Tryz.underlying2 (by kernel_rfl) k7 with ⟨hcs, _⟩ | ⟨x, l, c, zs, hcs, _, hl, hm, hz, _, hcell, hwz⟩
  · simp only [List.cons.injEq, and_true] at hcs
    subst hcs
    exact ⟨⟨⟨n0, n1, n2, n3, n4, n5, t6, [], n8⟩, none, 0⟩, rfl, w6, by simp [maxLen], fun _ => ⟨by simp, fun h => by simp at h⟩⟩
  · simp only [List.cons.injEq, and_true] at hcs
    subst hcs
    have hz' : zs.length = c := by simpa using hz
    have hlen : (zs.take l).length = l := by rw [List.length_take]; omega
    refine ⟨⟨⟨n0, n1, n2, n3, n4, n5, t6, zs.take l, n8⟩, some x, c⟩, ?_, w6, ?_, fun hle => ⟨hle, fun hpos => ?_⟩⟩
    · simp only [emCells, hlen]
    · show (zs.take l).length ≤ maxLen
      omega
    · simp only [hlen] at hpos
      obtain ⟨b, off, rfl, hb⟩ := ints_at hcell (by omega)
      have hbs : b < W.heap.size := by
        have := hcell 0 (by omega)
        exact World.block_lt_of_cell? _ _ (by simpa using this)
      refine ⟨b, off, rfl, hbs, fun j hj => ?_⟩
      have hj2 : j < l := by simpa only [hlen] using hj
      have h1 := hcell j (by omega)
      rw [Addr.add_lit] at h1
      rw [h1]
      simp [show j < zs.length by omega]
/-- A row of events opened. -/
theorem open_events {H : Type} {enc : TypeId × Value → H} {W : World} {fuel : Nat} {c : Value} {x0 : DataW H × List MemPlace} (hf : DataW.trod enc Tryz.prog W 0 (fun _ => true) true fuel 22 [c] = some x0) :
    ∃ (es : List Em) (a : Option Addr) (cap : Nat), c = .slice a es.length cap ∧ EvsRaw W a es := by
  rcases open_slice Tryz.underlying22 hf with ⟨h0, _⟩ | ⟨a, len, cap, m, n, D, Pl, hcs, _, hl, hm, hmm, _, hx⟩
  · simp only [List.cons.injEq, and_true] at h0
    exact ⟨[], none, 0, h0, ⟨by simp, fun h => absurd h (Nat.lt_irrefl 0), fun m hm => (by cases hm), fun m hm => (by cases hm)⟩⟩
  · simp only [List.cons.injEq, and_true] at hcs
    simp only [if_true] at hmm
    have each : ∀ i, i < len → ∃ e : Em, (∀ j, j < 9 → W.cell? (a.add (i * 9 + j)) = (emCells e)[j]?) ∧ e.v.text.size ≤ maxLen ∧ e.v.prev.length ≤ maxLen ∧ (e.v.prev.length ≤ 1048576 → NumsAt W e.p e.v.prev) := fun i hi => by
      obtain ⟨cs', h1, h2⟩ := hx i (by omega)
      rw [Tryz.cellsEv] at h1
      obtain ⟨_, hlen, hcell⟩ := World.cells?_some h1
      obtain ⟨e, rfl, h3⟩ := open_ev_cells hlen h2
      refine ⟨e, fun j hj => ?_, h3⟩
      have := hcell j hj
      rwa [add_add] at this
    haveI : Inhabited Em := ⟨⟨⟨0, 0, 0, 0, 0, 0, ⟨#[]⟩, [], 0⟩, none, 0⟩⟩
    obtain ⟨q, hq⟩ := choose_lt each
    have hlq : ((List.range len).map q).length = len := by simp
    have hgq : ∀ i (h : i < ((List.range len).map q).length), ((List.range len).map q)[i] = q i := fun i h => by simp
    have hmem : ∀ e ∈ (List.range len).map q, ∃ i, i < len ∧ e = q i := fun e he => by
      obtain ⟨i, hi, rfl⟩ := List.mem_map.1 he
      exact ⟨i, List.mem_range.1 hi, rfl⟩
    refine ⟨(List.range len).map q, some a, cap, by rw [hlq]; exact hcs, ⟨by rw [hlq]; omega, fun hpos => ?_, fun e he => ?_, fun e he => ?_⟩⟩
    · rw [hlq] at hpos
      obtain ⟨b, off, spot⟩ := a
      have h0 := (hq 0 hpos).1 0 (by omega)
      have hspot : spot = none := by simpa [Addr.add] using World.cell?_spot h0
      subst hspot
      refine ⟨b, off, rfl, ?_, fun i hi j hj => ?_⟩
      · have := World.block_lt_of_cell? _ _ h0
        simpa [Addr.add] using this
      · rw [hgq]
        have := (hq i (by rw [hlq] at hi; exact hi)).1 j hj
        rwa [Addr.add_lit] at this
    · obtain ⟨i, hi, rfl⟩ := hmem e he
      exact ⟨(hq i hi).2.1, (hq i hi).2.2.1⟩
    · obtain ⟨i, hi, rfl⟩ := hmem e he
      exact (hq i hi).2.2.2
theorem Tryz.cellsGr : Tryz.prog.cellsOf 24 = 3 := by kernel_rfl
theorem Tryz.cellsEvs : Tryz.prog.cellsOf 22 = 1 := by kernel_rfl
theorem array3 {α : Type} {cs : Array α} (h : cs.size = 3) : ∃ c0 c1 c2, cs = #[c0, c1, c2] := by
  obtain ⟨l⟩ := cs
  match l, h with
  | [c0, c1, c2], _ => exact ⟨c0, c1, c2, rfl⟩
set_option maxRecDepth 100000 in
theorem open_graph {H : Type} {enc : TypeId × Value → H} {W : World} {r : Reach} {b0 : Nat} {v : Value} {d : DataW H} {p : List MemPlace} (hv : Value.okWide Tryz.prog W r b0 24 v) (h : DataW.Trod enc Tryz.prog W 0 (fun _ => true) true 24 v d p) :
    ∃ (g : Gr) (a : Option Addr) (cap : Nat) (q : Option Addr) (cq : Nat), v = .agg #[.int .i64 g.room, .slice a g.evs.length cap, .slice q g.pk.length cq] ∧ EvsRaw W a g.evs ∧ EvsRaw W q g.pk := by
  obtain ⟨cs, rfl, hsz⟩ := okWide_struct Tryz.underlying24 hv
  rw [Tryz.cellsGr] at hsz
  obtain ⟨c0, c1, c2, rfl⟩ := array3 hsz
  obtain ⟨fuel, hf⟩ := h
  obtain ⟨xs, n, _, _, _, hlen, hf⟩ := DataW.trod_struct Tryz.underlying24 hf
  have hlen3 : xs.length = 3 := hlen
  have g0 : DataW.trod enc Tryz.prog W 0 (fun _ => true) true n 2 [c0] = xs[0]? := by have := hf 0 _ rfl; simpa [Value.cells, Tryz.cellsInt] using this
  have g1 : DataW.trod enc Tryz.prog W 0 (fun _ => true) true n 22 [c1] = xs[1]? := by have := hf 1 _ rfl; simpa [Value.cells, Tryz.cellsEvs] using this
  have g2 : DataW.trod enc Tryz.prog W 0 (fun _ => true) true n 22 [c2] = xs[2]? := by have := hf 2 _ rfl; simpa [Value.cells, Tryz.cellsEvs] using this
  obtain ⟨y0, k0⟩ := some_of g0 (by omega)
  obtain ⟨y1, k1⟩ := some_of g1 (by omega)
  obtain ⟨y2, k2⟩ := some_of g2 (by omega)
  obtain ⟨n0, e0, _, _⟩ := DataW.trod_int Tryz.underlying2 k0
  simp only [List.cons.injEq, and_true] at e0
  subst e0
  obtain ⟨es, a, cap, rfl, h1⟩ := open_events k1
  obtain ⟨ps, q, cq, rfl, h2⟩ := open_events k2
  exact ⟨⟨n0, es, ps⟩, a, cap, q, cq, rfl, h1, h2⟩
end Go.Proofs.YtjdkenopfnepaaaGreat
