/- What a row says of a slice of bytes, as the draws want it. -/
import Derived.Test.YthlbdoppaledeaaDoorSrc
namespace Go.Proofs.YthlbdoppaledeaaDoor
open Go.RowKit

/-- A slice of numbers that came in. -/
def IsRow (k : IntKind) (w : World) (a : Option Addr) (len cap : Nat) (zs : List Int) : Prop :=
  (a = none ∧ len = 0 ∧ cap = 0 ∧ zs = []) ∨
  ∃ x, a = some x ∧ len ≤ cap ∧ cap ≤ maxLen ∧ zs.length = cap ∧ (∀ i, i < zs.length → w.cell? (x.add i) = some (.int k (zs.getD i 0))) ∧ ∀ n ∈ zs, (Lit.int k n).wf = true
theorem IsRow.code {w : World} {a : Option Addr} {len cap : Nat} {zs : List Int} (h : IsRow .u8 w a len cap zs) (hl : len ≤ 1048576) : CodeAt w w.heap.size a len := by
  refine ⟨hl, fun hpos => ?_⟩
  rcases h with ⟨_, h0, _⟩ | ⟨x, rfl, hlc, _, hz, hc, hw⟩
  · omega
  · obtain ⟨b, off, rfl, hb⟩ := ints_at hc (by omega)
    have hbs : b < w.heap.size := by
      have := hc 0 (by omega)
      exact World.block_lt_of_cell? _ _ (by simpa using this)
    refine ⟨b, off, rfl, hbs, hbs, fun j hj => ?_⟩
    have hj' : j < zs.length := by omega
    have h1 := hc j hj'
    rw [Addr.add_lit] at h1
    have hm : zs.getD j 0 ∈ zs := by simp [hj']
    obtain ⟨h2, h3⟩ := bounds_u8 (hw _ hm)
    exact ⟨_, h2, h3, h1⟩
end Go.Proofs.YthlbdoppaledeaaDoor
