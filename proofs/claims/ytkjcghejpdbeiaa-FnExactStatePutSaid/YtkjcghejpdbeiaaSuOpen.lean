/- An entry that came in, opened. -/
import Derived.Test.YtkjcghejpdbeiaaStOpen
namespace Go.Proofs.Ytkjcghejpdbeiaa
open Go.ChangeShapes Go.WideShapes Go.ChangeAt Go.RowKit Go.Deep

set_option maxRecDepth 100000 in
theorem open_entry {H : Type} {enc : TypeId × Value → H} {W : World} {r : Reach} {b0 : Nat} {v : Value} {d : DataW H} {p : List MemPlace} (hv : Value.okWide Try.prog W r b0 35 v) (h : DataW.Trod enc Try.prog W 0 (fun _ => true) true 35 v d p) :
    ∃ x : En, v = .agg #[.int .i64 x.kind, .int .i64 x.key, .int .i64 x.id] ∧ True := by
  obtain ⟨cs, rfl, hsz⟩ := okWide_struct Try.underlying35 hv
  rw [Try.cellsEn] at hsz
  obtain ⟨l⟩ := cs
  have hl : l.length = 3 := by simpa using hsz
  obtain ⟨fuel, hf⟩ := h
  have hf' : DataW.trod enc Try.prog W 0 (fun _ => true) true fuel 35 l = some (d, p) := hf
  obtain ⟨x, rfl⟩ := open_en_cells hl hf'
  exact ⟨x, rfl, trivial⟩
end Go.Proofs.Ytkjcghejpdbeiaa
