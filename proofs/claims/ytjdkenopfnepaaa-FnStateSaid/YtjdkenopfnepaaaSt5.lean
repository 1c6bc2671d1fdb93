/- What the laws do with rows of entries: their size, a copy of them, and whether two are alike. -/
import Derived.Test.YtjdkenopfnepaaaSt4
import Derived.Test.YtjdkenopfnepaaaEvNums
namespace Go.Proofs.Ytjdkenopfnepaaa
open Go.RowKit

/-- A row of entries that came in: as long as it may be. -/
structure EnsRaw (w : World) (a : Option Addr) (xs : List En) : Prop where
  len : xs.length ≤ maxLen
  row : 0 < xs.length → ∃ b off, a = some ⟨b, off, none⟩ ∧ b < w.heap.size ∧ ∀ i (h : i < xs.length) j, j < 3 → w.cell? ⟨b, off + (i * 3 + j), none⟩ = (enCells xs[i])[j]?
theorem EnsRaw.kept {w w' : World} {a : Option Addr} {xs : List En} (h : EnsRaw w a xs) (hb : Below w.heap.size w w') : EnsRaw w' a xs := by
  refine ⟨h.len, fun hl => ?_⟩
  obtain ⟨b, off, ha, hbb, hc⟩ := h.row hl
  exact ⟨b, off, ha, Nat.lt_of_lt_of_le hbb hb.size, fun i hi j hj => (hb.cell (p := ⟨b, off + (i * 3 + j), none⟩) hbb).trans (hc i hi j hj)⟩
theorem EnsRaw.at {w : World} {a : Option Addr} {xs : List En} (h : EnsRaw w a xs) (hl : xs.length ≤ 1048576) : EnsAt w a xs := ⟨hl, h.row⟩
/-- What is left of a measure. -/
def szN (x : Nat) (left : Int) : Int := if (x : Int) ≤ left then left - x else -1
theorem szN_yes {x : Nat} {left : Int} (h : (x : Int) ≤ left) : szN x left = left - x := if_pos h
theorem szN_no {x : Nat} {left : Int} (h : ¬ (x : Int) ≤ left) : szN x left = -1 := if_neg h
/-- Three cells set, one behind the other. -/
def set3 (w : World) (G o : Nat) (v0 v1 v2 : Value) : World := ((w.setCell ⟨G, o, none⟩ v0).setCell ⟨G, o + 1, none⟩ v1).setCell ⟨G, o + 2, none⟩ v2
theorem set3_other (w : World) (G o : Nat) (v0 v1 v2 : Value) (q : Nat) (h : q < o ∨ o + 3 ≤ q) : (set3 w G o v0 v1 v2).cell? ⟨G, q, none⟩ = w.cell? ⟨G, q, none⟩ := by
  unfold set3
  rw [World.cell?_setCell_other _ ⟨G, o + 2, none⟩ ⟨G, q, none⟩ _ (fun e => by have := congrArg Addr.off e; simp at this; omega)]
  rw [World.cell?_setCell_other _ ⟨G, o + 1, none⟩ ⟨G, q, none⟩ _ (fun e => by have := congrArg Addr.off e; simp at this; omega)]
  rw [World.cell?_setCell_other _ ⟨G, o, none⟩ ⟨G, q, none⟩ _ (fun e => by have := congrArg Addr.off e; simp at this; omega)]
theorem set3_cell0 {w : World} {G o : Nat} (v0 v1 v2 : Value) {u : Value} (h : w.cell? ⟨G, o, none⟩ = some u) : (set3 w G o v0 v1 v2).cell? ⟨G, o, none⟩ = some v0 := by
  unfold set3
  rw [World.cell?_setCell_other _ ⟨G, o + 2, none⟩ ⟨G, o, none⟩ _ (by simp), World.cell?_setCell_other _ ⟨G, o + 1, none⟩ ⟨G, o, none⟩ _ (by simp)]
  exact World.cell?_setCell_same _ _ _ h
theorem set3_cell1 {w : World} {G o : Nat} (v0 v1 v2 : Value) {u : Value} (h : w.cell? ⟨G, o + 1, none⟩ = some u) : (set3 w G o v0 v1 v2).cell? ⟨G, o + 1, none⟩ = some v1 := by
  unfold set3
  rw [World.cell?_setCell_other _ ⟨G, o + 2, none⟩ ⟨G, o + 1, none⟩ _ (by simp)]
  refine World.cell?_setCell_same _ _ _ (u := u) ?_
  rw [World.cell?_setCell_other _ ⟨G, o, none⟩ ⟨G, o + 1, none⟩ _ (by simp)]
  exact h
theorem set3_cell2 {w : World} {G o : Nat} (v0 v1 v2 : Value) {u : Value} (h : w.cell? ⟨G, o + 2, none⟩ = some u) : (set3 w G o v0 v1 v2).cell? ⟨G, o + 2, none⟩ = some v2 := by
  unfold set3
  refine World.cell?_setCell_same _ _ _ (u := u) ?_
  rw [World.cell?_setCell_other _ ⟨G, o + 1, none⟩ ⟨G, o + 2, none⟩ _ (by simp), World.cell?_setCell_other _ ⟨G, o, none⟩ ⟨G, o + 2, none⟩ _ (by simp)]
  exact h
/-- The copy when k entries are laid in. -/
structure EnInv (w : World) (xs : List En) (k : Nat) (W : World) : Prop where
  cells : ∀ i (h : i < xs.length) j, i < k → j < 3 → W.cell? ⟨w.heap.size, i * 3 + j, none⟩ = (enCells xs[i])[j]?
  rest : ∀ q, k * 3 ≤ q → q < xs.length * 3 → ∃ u, W.cell? ⟨w.heap.size, q, none⟩ = some u
  free : ∀ q, W.frozen? ⟨w.heap.size, q, none⟩ = false
  below : Below w.heap.size w W
  there : w.heap.size < W.heap.size
theorem EnInv.next {w : World} {xs : List En} {k : Nat} {W W1 : World} (h : EnInv w xs k W) (hlt : k < xs.length) (hb : Below W.heap.size W W1) :
    EnInv w xs (k + 1) (set3 W1 w.heap.size (k * 3) (.int .i64 xs[k].kind) (.int .i64 xs[k].key) (.int .i64 xs[k].id)) := by
  have hz := h.there
  have old : ∀ q, W1.cell? ⟨w.heap.size, q, none⟩ = W.cell? ⟨w.heap.size, q, none⟩ := fun q => hb.cell (p := ⟨w.heap.size, q, none⟩) hz
  have hk : ∀ j, j < 3 → ∃ u, W1.cell? ⟨w.heap.size, k * 3 + j, none⟩ = some u := fun j hj => by
    rw [old]
    exact h.rest _ (by omega) (by omega)
  refine ⟨fun i hi j hik hj => ?_, fun q hq1 hq2 => ?_, fun q => ?_, ?_, ?_⟩
  · by_cases e : i < k
    · rw [set3_other _ _ _ _ _ _ _ (by omega), old]
      exact h.cells i hi j e hj
    · have e2 : i = k := by omega
      subst e2
      match j, hj with
      | 0, _ =>
        obtain ⟨u, hu⟩ := hk 0 (by omega)
        exact set3_cell0 _ _ _ hu
      | 1, _ =>
        obtain ⟨u, hu⟩ := hk 1 (by omega)
        exact set3_cell1 _ _ _ hu
      | 2, _ =>
        obtain ⟨u, hu⟩ := hk 2 (by omega)
        exact set3_cell2 _ _ _ hu
  · rw [set3_other _ _ _ _ _ _ _ (by omega), old]
    exact h.rest q (by omega) hq2
  · have : (set3 W1 w.heap.size (k * 3) (.int .i64 xs[k].kind) (.int .i64 xs[k].key) (.int .i64 xs[k].id)).frozen? ⟨w.heap.size, q, none⟩ = W1.frozen? ⟨w.heap.size, q, none⟩ := by unfold set3; simp
    rw [this, hb.frozen (p := ⟨w.heap.size, q, none⟩) hz]
    exact h.free q
  · unfold set3
    exact (((h.below.trans (hb.mono h.below.size)).setCell (Nat.le_refl _) _).setCell (Nat.le_refl _) _).setCell (Nat.le_refl _) _
  · have : (set3 W1 w.heap.size (k * 3) (.int .i64 xs[k].kind) (.int .i64 xs[k].key) (.int .i64 xs[k].id)).heap.size = W1.heap.size := by unfold set3; simp
    rw [this]
    exact Nat.lt_of_lt_of_le hz hb.size
/-- A copy of a row. -/
structure EnsNew (w : World) (xs : List En) (a : Option Addr) (W : World) : Prop where
  row : ∃ b, a = some ⟨b, 0, none⟩ ∧ w.heap.size ≤ b ∧ b < W.heap.size ∧ (∀ q, W.frozen? ⟨b, q, none⟩ = false) ∧ ∀ i (h : i < xs.length) j, j < 3 → W.cell? ⟨b, i * 3 + j, none⟩ = (enCells xs[i])[j]?
  below : Below w.heap.size w W
theorem EnsNew.at {w W : World} {xs : List En} {a : Option Addr} (h : EnsNew w xs a W) (hl : xs.length ≤ 1048576) : EnsAt W a xs := by
  obtain ⟨b, ha, _, hb, _, hc⟩ := h.row
  exact ⟨hl, fun _ => ⟨b, 0, ha, hb, fun i hi j hj => by rw [Nat.zero_add]; exact hc i hi j hj⟩⟩
theorem Try.infoEn : (Try.prog.info? 40).map (fun i => (i.zero, i.size, i.bytes)) = some (some (.agg #[.int .i64 0, .int .i64 0, .int .i64 0]), 3, 24) := by kernel_rfl
theorem made_there3 {w0 : World} {base G n : Nat} {e : TypeId} {ys : List Value} (h : w0.ownsRow base e 3 (.slice (some ⟨G, 0, none⟩) n n) n ys) : (∀ q, q < n * 3 → ∃ u, w0.cell? ⟨G, q, none⟩ = some u) ∧ (∀ q, w0.frozen? ⟨G, q, none⟩ = false) ∧ G < w0.heap.size := by
  rcases h.2 with ⟨h1, _⟩ | ⟨g, c, cur, h1, _, h2, _, _, h3, _⟩
  · cases h1
  · cases h1
    refine ⟨fun q hq => ?_, fun q => frozen_of_heap h2, (Array.getElem?_eq_some_iff.1 h2).1⟩
    rw [cell_of_heap h2]
    exact ⟨cur[q]'(by omega), Array.getElem?_eq_getElem _⟩
end Go.Proofs.Ytjdkenopfnepaaa
