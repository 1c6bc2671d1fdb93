/- Rows of rooms without anything, of one's own. -/
import Derived.Test.YtjdkenopfnepaaaEvCopyS
import Derived.Test.YtjdkenopfnepaaaEvNums
namespace Go.Proofs.Ytjdkenopfnepaaa
open Go.RowKit

/-- Rooms without anything, as cells. -/
def hcs (rs : List Int) : List Value := rs.flatMap fun r => [.int .i64 r, .slice none 0 0, .slice none 0 0]
theorem hcs_append (xs ys : List Int) : hcs (xs ++ ys) = hcs xs ++ hcs ys := by simp [hcs]
theorem hcs_len : ∀ xs : List Int, (hcs xs).length = xs.length * 3
  | [] => rfl
  | x :: xs => by
    have := hcs_len xs
    simp only [hcs, List.flatMap_cons, List.length_append, List.length_cons, List.length_nil] at this ⊢
    omega
theorem hcs_get : ∀ {xs : List Int} {i : Nat} (h : i < xs.length) {j : Nat}, j < 3 → (hcs xs)[i * 3 + j]? = [Value.int .i64 xs[i], .slice none 0 0, .slice none 0 0][j]?
  | x :: xs, 0, _, j, hj => by
    simp only [hcs, List.flatMap_cons, Nat.zero_mul, Nat.zero_add, List.getElem_cons_zero]
    rw [List.getElem?_append_left (by simpa using hj)]
  | x :: xs, i + 1, h, j, hj => by
    have ih := hcs_get (xs := xs) (i := i) (by simpa using h) hj
    simp only [hcs, List.flatMap_cons, List.getElem_cons_succ] at ih ⊢
    rw [List.getElem?_append_right (by simp; omega), ← ih]
    congr 1
    simp
    omega
theorem hcs_one (xs : List Int) : ∀ u ∈ hcs xs, u.oneCell' = true := by
  intro u hu
  obtain ⟨x, _, hx⟩ := List.mem_flatMap.1 hu
  simp only [List.mem_cons, List.not_mem_nil, or_false] at hx
  rcases hx with rfl | rfl | rfl <;> rfl
/-- A row of such rooms, of one's own. -/
def HnOwn (w : World) (base : Nat) (v : Value) (rs : List Int) : Prop := w.ownsRow base 117 3 v rs.length (hcs rs)
/-- What is read of such a row. -/
def HnAt (w : World) (a : Option Addr) (rs : List Int) : Prop := 0 < rs.length → ∃ g, a = some ⟨g, 0, none⟩ ∧ g < w.heap.size ∧ ∀ i (h : i < rs.length) j, j < 3 → w.cell? ⟨g, i * 3 + j, none⟩ = [Value.int .i64 rs[i], .slice none 0 0, .slice none 0 0][j]?
theorem HnOwn.at {w : World} {base : Nat} {v : Value} {rs : List Int} (h : HnOwn w base v rs) : ∃ a c, v = .slice a rs.length c ∧ HnAt w a rs ∧ ((a = none ∧ rs.length = 0) ∨ ∃ g, a = some ⟨g, 0, none⟩ ∧ base ≤ g ∧ g < w.heap.size ∧ (∀ q, w.frozen? ⟨g, q, none⟩ = false)) := by
  rcases h.2 with ⟨rfl, h0⟩ | ⟨g, cap, cur, rfl, hb, hg, hle, _, hsz, ht⟩
  · exact ⟨none, 0, by rw [h0], fun hp => absurd h0 (by omega), .inl ⟨rfl, h0⟩⟩
  · refine ⟨_, cap, rfl, fun _ => ⟨g, rfl, (Array.getElem?_eq_some_iff.1 hg).1, fun i hi j hj => ?_⟩, .inr ⟨g, rfl, hb, (Array.getElem?_eq_some_iff.1 hg).1, fun q => frozen_of_heap hg⟩⟩
    rw [cell_of_heap hg, ← hcs_get hi hj, ← ht, List.getElem?_take_of_lt (by omega), Array.getElem?_toList]
theorem HnOwn.kept {w w' : World} {base : Nat} {v : Value} {rs : List Int} (h : HnOwn w base v rs) (hb : Below w.heap.size w w') : HnOwn w' base v rs := by
  refine ⟨h.1, ?_⟩
  rcases h.2 with h0 | ⟨g, cap, cur, h1, h2, h3, r⟩
  · exact .inl h0
  · exact .inr ⟨g, cap, cur, h1, h2, (hb.block g (Array.getElem?_eq_some_iff.1 h3).1).trans h3, r⟩
theorem HnOwn.lt {w : World} {base : Nat} {v : Value} {rs : List Int} (h : HnOwn w base v rs) : ∀ g, v.ownBlock = some g → base ≤ g ∧ g < w.heap.size := by
  intro g hg
  rcases h.2 with ⟨rfl, _⟩ | ⟨q, cap, cur, rfl, h2, h3, _⟩
  · cases hg
  · have e2 : q = g := by simpa [Value.ownBlock] using hg
    subst e2
    exact ⟨h2, (Array.getElem?_eq_some_iff.1 h3).1⟩
theorem HnOwn.setCell {w : World} {base b o : Nat} {v u : Value} {rs : List Int} (h : HnOwn w base v rs) (hb : b < base) : HnOwn (w.setCell ⟨b, o, none⟩ u) base v rs := by
  refine ⟨h.1, ?_⟩
  rcases h.2 with h0 | ⟨g, cap, cur, h1, h2, h3, r⟩
  · exact .inl h0
  · exact .inr ⟨g, cap, cur, h1, h2, (Below.heap_setCell _ _ _ _ (by simp; omega)).trans h3, r⟩
/-- The first n rooms. -/
def roomsTo (n : Nat) : List Int := (List.range n).map fun (i : Nat) => (i : Int) + 1
/-- The house's variable, and the result's, while it is made: n rooms are there. -/
structure HB (w : World) (v : Value) (n : Nat) (W : World) : Prop where
  below : Below w.heap.size w W
  box : W.heap[w.heap.size + 1]? = some (.cells #[v, .slice none 0 0] 59 (0, 0))
  res : W.heap[w.heap.size]? = some (.cells #[.slice none 0 0, .slice none 0 0] 59 (0, 0))
  own : HnOwn W (w.heap.size + 2) v (roomsTo n)
theorem HB.lt {w : World} {v : Value} {n : Nat} {W : World} (h : HB w v n W) : w.heap.size + 1 < W.heap.size := (Array.getElem?_eq_some_iff.1 h.box).1
theorem HB.start (w : World) : HB w (.slice none 0 0) 0 ((w.alloc (.cells #[.slice none 0 0, .slice none 0 0] 59)).alloc (.cells #[.slice none 0 0, .slice none 0 0] 59)) := by
  have e : (w.alloc (.cells #[.slice none 0 0, .slice none 0 0] 59)).heap.size = w.heap.size + 1 := by simp
  refine ⟨((Below.refl _ _).alloc (Nat.le_refl _) _).alloc (by simp) _, ?_, (Below.heap_alloc _ _ _ (by simp)).trans (MapKept.heap_alloc w _).1, ⟨rfl, .inl ⟨rfl, rfl⟩⟩⟩
  have := (MapKept.heap_alloc (w.alloc (.cells #[.slice none 0 0, .slice none 0 0] 59)) (.cells #[.slice none 0 0, .slice none 0 0] 59)).1
  rwa [e] at this
theorem range_snoc (n : Nat) : roomsTo (n + 1) = roomsTo n ++ [(n : Int) + 1] := by simp [roomsTo, List.range_succ]
theorem roomsTo_len (n : Nat) : (roomsTo n).length = n := by simp [roomsTo]
theorem cells_atH {w : World} {b : Nat} {vs : List Value} {t : TypeId} (h : w.heap[b]? = some (.cells vs.toArray t (0, 0))) : ∀ j u, vs[j]? = some u → w.cell? ((⟨b, 0, none⟩ : Addr).add j) = some u := fun j u hj => by
  rw [Addr.add_lit, cell_of_heap h]
  simpa using hj
theorem HB.kept2 {w : World} {v : Value} {n : Nat} {W W1 W2 : World} (h : HB w v n W) (hb1 : Below W.heap.size W W1) (hg : W1.grownBy W2 v.ownBlock) : W2.heap[w.heap.size + 1]? = some (.cells #[v, .slice none 0 0] 59 (0, 0)) := by
  have hl := h.lt
  have hz1 := hb1.size
  rw [hg.block _ (by omega) (fun e => by have := (h.own.lt _ e.symm).1; omega), hb1.block _ (by omega)]
  exact h.box
theorem HB.slice {w : World} {v : Value} {n : Nat} {W : World} (h : HB w v n W) : ∃ a c, v = .slice a n c := by
  obtain ⟨a, c, e, -, -⟩ := h.own.at
  rw [roomsTo_len] at e
  exact ⟨a, c, e⟩
theorem HB.row {w : World} {v : Value} {n : Nat} {W W' : World} (h : HB w v n W) (hb : Below W.heap.size W W') : W'.ownsRow (w.heap.size + 2) 117 3 v n (hcs (roomsTo n)) := by
  have := h.own.kept hb
  unfold HnOwn at this
  rwa [roomsTo_len] at this
/-- One room more. -/
theorem HB.more {w : World} {v v' : Value} {n : Nat} {W W1 W2 : World} (h : HB w v n W) (hb1 : Below W.heap.size W W1) (hg : W1.grownBy W2 v.ownBlock) (ho : W2.ownsRow (w.heap.size + 2) 117 3 v' (n + 1) (hcs (roomsTo n) ++ [.int .i64 ((n : Int) + 1), .slice none 0 0, .slice none 0 0])) :
    HB w v' (n + 1) (W2.setCell ⟨w.heap.size + 1, 0, none⟩ v') := by
  have hl := h.lt
  have hz1 := hb1.size
  have hne : ∀ q, v.ownBlock = some q → w.heap.size + 2 ≤ q := fun q hq => (h.own.lt q hq).1
  have hk : ∀ q, q < w.heap.size + 2 → W2.heap[q]? = W.heap[q]? := fun q hq => by
    rw [hg.block q (by omega) (fun e => by have := hne q e.symm; omega), hb1.block q (by omega)]
  have hb2 : Below (w.heap.size + 2) W W2 := ⟨hg.os.trans hb1.os, hg.tape.trans hb1.tape, hg.output.trans hb1.output, Nat.le_trans hb1.size hg.size, fun q hq => hk q hq⟩
  have hown : HnOwn W2 (w.heap.size + 2) v' (roomsTo (n + 1)) := by
    unfold HnOwn
    rw [range_snoc, List.length_append, roomsTo_len, hcs_append]
    exact ho
  refine ⟨(h.below.trans (hb2.mono (by omega))).setCell (by simp) _, heap_set ((hk _ (by omega)).trans h.box) _, (Below.heap_setCell _ _ _ _ (by simp)).trans ((hk _ (by omega)).trans h.res), hown.setCell (by omega)⟩
end Go.Proofs.Ytjdkenopfnepaaa
