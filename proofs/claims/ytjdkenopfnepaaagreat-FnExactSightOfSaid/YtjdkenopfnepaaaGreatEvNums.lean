/- Numbers in memory: as cells, as a row of their own. -/
import Derived.Test.YtjdkenopfnepaaaGreatEv
import Derived.WalkSmall
namespace Go.Proofs.YtjdkenopfnepaaaGreat
open Go.RowKit

/-- Numbers as cells. -/
def nv (zs : List Int) : List Value := zs.map fun n => .int .i64 n
/-- A row of numbers in a block of its own, laid behind 'base'. -/
def NumsNew (base : Nat) (w : World) (a : Option Addr) (zs : List Int) : Prop :=
  ∃ b, a = some ⟨b, 0, none⟩ ∧ base ≤ b ∧ w.heap[b]? = some (.cells (nv zs).toArray 2 (0, 0))
theorem NumsNew.at {base : Nat} {w : World} {a : Option Addr} {zs : List Int} (h : NumsNew base w a zs) (hl : zs.length ≤ 1048576) : NumsAt w a zs := by
  obtain ⟨b, rfl, _, hb⟩ := h
  refine ⟨hl, fun _ => ⟨b, 0, rfl, (Array.getElem?_eq_some_iff.1 hb).1, fun j hj => ?_⟩⟩
  rw [cell_of_heap hb]
  simp [nv, hj]
theorem NumsNew.kept {base : Nat} {w w' : World} {a : Option Addr} {zs : List Int} (h : NumsNew base w a zs) (hb : Below w.heap.size w w') : NumsNew base w' a zs := by
  obtain ⟨b, ha, hg, hh⟩ := h
  exact ⟨b, ha, hg, (hb.block b (Array.getElem?_eq_some_iff.1 hh).1).trans hh⟩
theorem NumsNew.set {base : Nat} {w : World} {a : Option Addr} {zs : List Int} (h : NumsNew base w a zs) {p : Addr} (hp : p.block < base) (u : Value) : NumsNew base (w.setCell p u) a zs := by
  obtain ⟨b, ha, hg, hh⟩ := h
  exact ⟨b, ha, hg, (Below.heap_setCell _ _ _ _ (by omega)).trans hh⟩
theorem NumsNew.mono {base base' : Nat} {w : World} {a : Option Addr} {zs : List Int} (h : NumsNew base w a zs) (hb : base' ≤ base) : NumsNew base' w a zs := by
  obtain ⟨b, ha, hg, hh⟩ := h
  exact ⟨b, ha, by omega, hh⟩
theorem Tryz.info2 : (Tryz.prog.info? 2).map (fun i => (i.zero, i.size, i.bytes)) = some (some (.int .i64 0), 1, 8) := by kernel_rfl
theorem made_nums (n : Nat) : (madeCells (Value.int .i64 0).cells (n * 1)).toList = List.replicate n (.int .i64 0) := by
  simp [madeCells, Value.cells, Nat.mod_one, List.map_const']
/-- The copy when k numbers are laid in. -/
def copyRow (zs : List Int) (k : Nat) : List Value := nv (zs.take k) ++ List.replicate (zs.length - k) (.int .i64 0)
theorem copyRow_zero (zs : List Int) : copyRow zs 0 = List.replicate zs.length (.int .i64 0) := by simp [copyRow, nv]
theorem copyRow_end (zs : List Int) : copyRow zs zs.length = nv zs := by simp [copyRow]
theorem copyRow_len (zs : List Int) (k : Nat) (h : k ≤ zs.length) : (copyRow zs k).length = zs.length := by simp [copyRow, nv]; omega
theorem copyRow_next {zs : List Int} {k : Nat} (h : k < zs.length) : (copyRow zs k).set k (.int .i64 zs[k]) = copyRow zs (k + 1) := by
  have hl : (nv (zs.take k)).length = k := by simp [nv]; omega
  unfold copyRow
  rw [List.set_append_right _ _ (by omega), hl, Nat.sub_self, List.take_succ_eq_append_getElem h, show zs.length - k = zs.length - (k + 1) + 1 by omega, List.replicate_succ]
  simp only [nv, List.map_append, List.map_cons, List.map_nil, List.append_assoc, List.singleton_append, List.set_cons_zero]
theorem array9 {α : Type} {cs : Array α} (h : cs.size = 9) : ∃ c0 c1 c2 c3 c4 c5 c6 c7 c8, cs = #[c0, c1, c2, c3, c4, c5, c6, c7, c8] := by
  obtain ⟨l⟩ := cs
  match l, h with
  | [c0, c1, c2, c3, c4, c5, c6, c7, c8], _ => exact ⟨c0, c1, c2, c3, c4, c5, c6, c7, c8, rfl⟩
theorem numsAt_of {w : World} {base cap : Nat} {a : Option Addr} {zs : List Int} (h : w.ownsRow base 2 1 (.slice a zs.length cap) zs.length (nv zs)) (hl : zs.length ≤ 1048576) : NumsAt w a zs := by
  refine ⟨hl, fun hpos => ?_⟩
  rcases h.2 with ⟨h1, h2⟩ | ⟨g, c, cur, h1, _, hh, _⟩
  · omega
  · cases h1
    refine ⟨g, 0, rfl, (Array.getElem?_eq_some_iff.1 hh).1, fun j hj => ?_⟩
    have := h.cells (g := g) rfl j (.int .i64 zs[j]) (by simp [nv, hj])
    rwa [Addr.add_lit] at this
end Go.Proofs.YtjdkenopfnepaaaGreat
