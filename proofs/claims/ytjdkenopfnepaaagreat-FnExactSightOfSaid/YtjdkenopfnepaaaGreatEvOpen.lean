/- An event that came in by value, opened: its numbers, its text, and its row of numbers. -/
import Derived.Test.YtjdkenopfnepaaaGreatEvNums
import Derived.ProofKit
import Derived.OpenShut
import Derived.ShutString
import Derived.ChangeOld
import Derived.Below
namespace Go.Proofs.YtjdkenopfnepaaaGreat
open Go.ChangeShapes Go.WideShapes Go.ChangeAt Go.RowKit

theorem some_of {α : Type} {x : Option α} {xs : List α} {i : Nat} (h : x = xs[i]?) (hi : i < xs.length) : ∃ y, x = some y := ⟨xs[i], by rw [h, List.getElem?_eq_getElem hi]⟩
/-- All numbers fit. -/
def EvIn (e : Ev) : Prop := (∀ z ∈ [e.id, e.room, e.author, e.kind, e.key, e.n, e.time], -9223372036854775808 ≤ z ∧ z ≤ 9223372036854775807) ∧ ∀ z ∈ e.prev, -9223372036854775808 ≤ z ∧ z ≤ 9223372036854775807
theorem i64_of {n : Int} (h : (Lit.int .i64 n).wf = true) : -9223372036854775808 ≤ n ∧ n ≤ 9223372036854775807 := bounds_i64 h
theorem Tryz.cellsEv : Tryz.prog.cellsOf 126 = 9 := by kernel_rfl
theorem Tryz.cellsInt : Tryz.prog.cellsOf 2 = 1 := by kernel_rfl
theorem Tryz.cellsStr : Tryz.prog.cellsOf 9 = 1 := by kernel_rfl
theorem Tryz.cellsNums : Tryz.prog.cellsOf 41 = 1 := by kernel_rfl
set_option maxHeartbeats 400000 in
set_option maxRecDepth 100000 in
theorem open_event {H : Type} {enc : TypeId × Value → H} {W : World} {r : Reach} {b0 : Nat} {v : Value} {d : DataW H} {p : List MemPlace} (hv : Value.okWide Tryz.prog W r b0 126 v) (h : DataW.Trod enc Tryz.prog W 0 (fun _ => true) true 126 v d p) :
    ∃ (e : Ev) (a : Option Addr) (cap : Nat), v = .agg #[.int .i64 e.id, .int .i64 e.room, .int .i64 e.author, .int .i64 e.kind, .int .i64 e.key, .int .i64 e.n, .string e.text, .slice a e.prev.length cap, .int .i64 e.time] ∧ e.text.size ≤ maxLen ∧ e.prev.length ≤ maxLen ∧ EvIn e ∧ (e.prev.length ≤ 1048576 → NumsAt W a e.prev) := by
  obtain ⟨cs, rfl, hsz⟩ := okWide_struct Tryz.underlying126 hv
  rw [Tryz.cellsEv] at hsz
  obtain ⟨c0, c1, c2, c3, c4, c5, c6, c7, c8, rfl⟩ := array9 hsz
  obtain ⟨fuel, hf⟩ := h
  obtain ⟨xs, n, _, _, _, hlen, hf⟩ := DataW.trod_struct Tryz.underlying126 hf
  have hlen9 : xs.length = 9 := hlen
  clear hv hsz hlen
  have g0 : DataW.trod enc Tryz.prog W 0 (fun _ => true) true n 2 [c0] = xs[0]? := by have := hf 0 _ rfl; simpa [Value.cells, Tryz.cellsInt] using this
  have g1 : DataW.trod enc Tryz.prog W 0 (fun _ => true) true n 2 [c1] = xs[1]? := by have := hf 1 _ rfl; simpa [Value.cells, Tryz.cellsInt] using this
  have g2 : DataW.trod enc Tryz.prog W 0 (fun _ => true) true n 2 [c2] = xs[2]? := by have := hf 2 _ rfl; simpa [Value.cells, Tryz.cellsInt] using this
  have g3 : DataW.trod enc Tryz.prog W 0 (fun _ => true) true n 2 [c3] = xs[3]? := by have := hf 3 _ rfl; simpa [Value.cells, Tryz.cellsInt] using this
  have g4 : DataW.trod enc Tryz.prog W 0 (fun _ => true) true n 2 [c4] = xs[4]? := by have := hf 4 _ rfl; simpa [Value.cells, Tryz.cellsInt] using this
  have g5 : DataW.trod enc Tryz.prog W 0 (fun _ => true) true n 2 [c5] = xs[5]? := by have := hf 5 _ rfl; simpa [Value.cells, Tryz.cellsInt] using this
  have g6 : DataW.trod enc Tryz.prog W 0 (fun _ => true) true n 9 [c6] = xs[6]? := by have := hf 6 _ rfl; simpa [Value.cells, Tryz.cellsStr] using this
  have g7 : DataW.trod enc Tryz.prog W 0 (fun _ => true) true n 41 [c7] = xs[7]? := by have := hf 7 _ rfl; simpa [Value.cells, Tryz.cellsNums] using this
  have g8 : DataW.trod enc Tryz.prog W 0 (fun _ => true) true n 2 [c8] = xs[8]? := by have := hf 8 _ rfl; simpa [Value.cells, Tryz.cellsInt] using this
  obtain ⟨y0, k0⟩ := some_of g0 (by omega)
  obtain ⟨y1, k1⟩ := some_of g1 (by omega)
  obtain ⟨y2, k2⟩ := some_of g2 (by omega)
  obtain ⟨y3, k3⟩ := some_of g3 (by omega)
  obtain ⟨y4, k4⟩ := some_of g4 (by omega)
  obtain ⟨y5, k5⟩ := some_of g5 (by omega)
  obtain ⟨y6, k6⟩ := some_of g6 (by omega)
  obtain ⟨y7, k7⟩ := some_of g7 (by omega)
  obtain ⟨y8, k8⟩ := some_of g8 (by omega)
  obtain ⟨n0, e0, _, w0⟩ := DataW.trod_int Tryz.underlying2 k0
  obtain ⟨n1, e1, _, w1⟩ := DataW.trod_int Tryz.underlying2 k1
  obtain ⟨n2, e2, _, w2⟩ := DataW.trod_int Tryz.underlying2 k2
  obtain ⟨n3, e3, _, w3⟩ := DataW.trod_int Tryz.underlying2 k3
  obtain ⟨n4, e4, _, w4⟩ := DataW.trod_int Tryz.underlying2 k4
  obtain ⟨n5, e5, _, w5⟩ := DataW.trod_int Tryz.underlying2 k5
  obtain ⟨n8, e8, _, w8⟩ := DataW.trod_int Tryz.underlying2 k8
  obtain ⟨t6, e6, _, w6⟩ := DataW.trod_string Tryz.underlying9 k6
  simp only [List.cons.injEq, and_true] at e0 e1 e2 e3 e4 e5 e8 e6
  subst e0 e1 e2 e3 e4 e5 e8 e6
  have hb : ∀ z ∈ [n0, n1, n2, n3, n4, n5, n8], -9223372036854775808 ≤ z ∧ z ≤ 9223372036854775807 := by
    intro z hz
    simp only [List.mem_cons, List.not_mem_nil, or_false] at hz
    rcases hz with rfl | rfl | rfl | rfl | rfl | rfl | rfl
    · exact i64_of w0
    · exact i64_of w1
    · exact i64_of w2
    · exact i64_of w3
    · exact i64_of w4
    · exact i64_of w5
    · exact i64_of w8
  rcases open_ints Tryz.underlying41 Tryz.underlying2 (by kernel_rfl) k7 with ⟨hcs, _⟩ | ⟨x, l, c, zs, hcs, _, hl, hm, hz, _, hcell, hwz⟩
  · simp only [List.cons.injEq, and_true] at hcs
    subst hcs
    exact ⟨⟨n0, n1, n2, n3, n4, n5, t6, [], n8⟩, none, 0, rfl, w6, by simp [maxLen], ⟨hb, by simp⟩, fun _ => ⟨by simp, fun h => by simp at h⟩⟩
  · simp only [List.cons.injEq, and_true] at hcs
    subst hcs
    have hz' : zs.length = c := by simpa using hz
    have hlen : (zs.take l).length = l := by rw [List.length_take]; omega
    refine ⟨⟨n0, n1, n2, n3, n4, n5, t6, zs.take l, n8⟩, some x, c, ?_, w6, ?_, ⟨hb, fun z hz => ?_⟩, fun hle => ⟨hle, fun hpos => ?_⟩⟩
    · simp only [hlen]
    · show (zs.take l).length ≤ maxLen
      omega
    · exact i64_of (hwz z (List.mem_of_mem_take hz))
    · simp only [hlen] at hpos
      obtain ⟨b, off, rfl, hb⟩ := ints_at hcell (by omega)
      have hbs : b < W.heap.size := by
        have := hcell 0 (by omega)
        exact World.block_lt_of_cell? _ _ (by simpa using this)
      refine ⟨b, off, rfl, hbs, fun j hj => ?_⟩
      have hj2 : j < l := by simpa only [hlen] using hj
      have h1 := hcell j (by omega)
      rw [Addr.add_lit] at h1
      rw [h1]
      simp [show j < zs.length by omega]
end Go.Proofs.YtjdkenopfnepaaaGreat
