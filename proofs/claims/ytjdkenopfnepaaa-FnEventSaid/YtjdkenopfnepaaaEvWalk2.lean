/- The law on events, over what the row says of its two slices. -/
import Derived.Test.YtjdkenopfnepaaaEvLaw
namespace Go.Proofs.Ytjdkenopfnepaaa
open Go.RowKit

/-- A slice of numbers that came in. -/
def IsRow (k : IntKind) (w : World) (a : Option Addr) (len cap : Nat) (zs : List Int) : Prop :=
  (a = none ∧ len = 0 ∧ cap = 0 ∧ zs = []) ∨
  ∃ x, a = some x ∧ len ≤ cap ∧ cap ≤ maxLen ∧ zs.length = cap ∧ (∀ i, i < zs.length → w.cell? (x.add i) = some (.int k (zs.getD i 0))) ∧ ∀ n ∈ zs, (Lit.int k n).wf = true
theorem IsRow.code {w : World} {a : Option Addr} {len cap : Nat} {zs : List Int} (h : IsRow .u8 w a len cap zs) (hl : len ≤ 1048576) : CodeAt w w.heap.size a len := by
  refine ⟨hl, fun hpos => ?_⟩
  rcases h with ⟨_, h0, _⟩ | ⟨x, rfl, hlc, _, hz, hc, hw⟩
  · omega
  · obtain ⟨b, off, rfl, hb⟩ := ints_at hc (by omega)
    have hbs : b < w.heap.size := by
      have := hc 0 (by omega)
      exact World.block_lt_of_cell? _ _ (by simpa using this)
    refine ⟨b, off, rfl, hbs, hbs, fun j hj => ?_⟩
    have hj' : j < zs.length := by omega
    have h1 := hc j hj'
    rw [Addr.add_lit] at h1
    have hm : zs.getD j 0 ∈ zs := by simp [hj']
    obtain ⟨h2, h3⟩ := bounds_u8 (hw _ hm)
    exact ⟨_, h2, h3, h1⟩

theorem walk_fnEvent_rows (a0 : Option Addr) (len0 cap0 : Nat) (z0 : List Int) (a1 : Option Addr) (len1 cap1 : Nat) (z1 : List Int) (w : World) (w0 : IsRow .u8 w a0 len0 cap0 z0) (w1 : IsRow .u8 w a1 len1 cap1 z1) :
    Calls Try.prog 3 #[.slice a0 len0 cap0, .slice a1 len1 cap1] w fun e w' => e = .returned (.bool true) ∧ Below w.heap.size w w' := by
  by_cases h0 : len0 ≤ 1048576
  · by_cases h1 : len1 ≤ 1048576
    · exact event_law_small a0 a1 len0 cap0 len1 cap1 w (w0.code h0) (w1.code h1)
    · have b0 : decide (1048576 < (len0 : Int)) = false := by simp; omega
      have b1 : decide (1048576 < (len1 : Int)) = true := by simp; omega
      clear w0 w1
      go_enter Try.func3, Try.ntmps3
      go_wp2
      go_ret
      exact ⟨rfl, Below.refl _ _⟩
  · have b0 : decide (1048576 < (len0 : Int)) = true := by simp; omega
    clear w0 w1
    go_enter Try.func3, Try.ntmps3
    go_wp2
    go_ret
    exact ⟨rfl, Below.refl _ _⟩
end Go.Proofs.Ytjdkenopfnepaaa
