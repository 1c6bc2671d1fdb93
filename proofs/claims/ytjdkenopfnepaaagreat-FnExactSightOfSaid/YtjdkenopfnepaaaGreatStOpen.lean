/- A row of entries that came in, opened. -/
import Derived.Test.YtjdkenopfnepaaaGreatSt5
import Derived.ProofKit
import Derived.OpenShut
import Derived.ShutString
import Derived.ChangeOld
import Derived.Below
import Derived.Deep.Slices
namespace Go.Proofs.YtjdkenopfnepaaaGreat
open Go.ChangeShapes Go.WideShapes Go.ChangeAt Go.RowKit Go.Deep

theorem some_at {α : Type} {x : Option α} {xs : List α} {i : Nat} (h : x = xs[i]?) (hi : i < xs.length) : ∃ y, x = some y := ⟨xs[i], by rw [h, List.getElem?_eq_getElem hi]⟩
theorem Tryz.cellsEn : Tryz.prog.cellsOf 72 = 3 := by kernel_rfl
theorem Tryz.cellsI : Tryz.prog.cellsOf 2 = 1 := by kernel_rfl
theorem list3 {α : Type} {l : List α} (h : l.length = 3) : ∃ c0 c1 c2, l = [c0, c1, c2] := by
  match l, h with
  | [c0, c1, c2], _ => exact ⟨c0, c1, c2, rfl⟩
set_option maxRecDepth 100000 in
theorem open_en_cells {H : Type} {enc : TypeId × Value → H} {W : World} {fuel : Nat} {cs : List Value} {x0 : DataW H × List MemPlace} (hl3 : cs.length = 3) (hf : DataW.trod enc Tryz.prog W 0 (fun _ => true) true fuel 72 cs = some x0) : ∃ x : En, cs = enCells x := by
  obtain ⟨c0, c1, c2, rfl⟩ := list3 hl3
  obtain ⟨xs, n, _, _, _, hlen, hf⟩ := DataW.trod_struct Tryz.underlying72 hf
  have hlen3 : xs.length = 3 := hlen
  have g0 : DataW.trod enc Tryz.prog W 0 (fun _ => true) true n 2 [c0] = xs[0]? := by have := hf 0 _ rfl; simpa [Tryz.cellsI] using this
  have g1 : DataW.trod enc Tryz.prog W 0 (fun _ => true) true n 2 [c1] = xs[1]? := by have := hf 1 _ rfl; simpa [Tryz.cellsI] using this
  have g2 : DataW.trod enc Tryz.prog W 0 (fun _ => true) true n 2 [c2] = xs[2]? := by have := hf 2 _ rfl; simpa [Tryz.cellsI] using this
  obtain ⟨y0, k0⟩ := some_at g0 (by omega)
  obtain ⟨y1, k1⟩ := some_at g1 (by omega)
  obtain ⟨y2, k2⟩ := some_at g2 (by omega)
  obtain ⟨n0, e0, _, _⟩ := DataW.trod_int Tryz.underlying2 k0
  obtain ⟨n1, e1, _, _⟩ := DataW.trod_int Tryz.underlying2 k1
  obtain ⟨n2, e2, _, _⟩ := DataW.trod_int Tryz.underlying2 k2
  simp only [List.cons.injEq, and_true] at e0 e1 e2
  subst e0 e1 e2
  exact ⟨⟨n0, n1, n2⟩, rfl⟩
set_option maxRecDepth 100000 in
theorem open_entries {H : Type} {enc : TypeId × Value → H} {W : World} {r : Reach} {b0 : Nat} {v : Value} {d : DataW H} {p : List MemPlace} (hv : Value.okWide Tryz.prog W r b0 25 v) (h : DataW.Trod enc Tryz.prog W 0 (fun _ => true) true 25 v d p) :
    ∃ (xs : List En) (a : Option Addr) (cap : Nat), v = .slice a xs.length cap ∧ EnsRaw W a xs := by
  obtain ⟨a0, len0, cap0, rfl⟩ := okWide_slice Tryz.underlying25 hv
  obtain ⟨fuel, hf⟩ := h
  have hf' : DataW.trod enc Tryz.prog W 0 (fun _ => true) true fuel 25 [.slice a0 len0 cap0] = some (d, p) := hf
  rcases open_slice Tryz.underlying25 hf' with ⟨h0, _⟩ | ⟨a, len, cap, m, n, D, Pl, hcs, _, hl, hm, hmm, _, hx⟩
  · simp only [List.cons.injEq, and_true] at h0
    exact ⟨[], none, 0, h0, ⟨by simp, fun h => absurd h (Nat.lt_irrefl 0)⟩⟩
  · simp only [List.cons.injEq, and_true] at hcs
    simp only [if_true] at hmm
    have each : ∀ i, i < len → ∃ e : En, ∀ j, j < 3 → W.cell? (a.add (i * 3 + j)) = (enCells e)[j]? := fun i hi => by
      obtain ⟨cs', h1, h2⟩ := hx i (by omega)
      rw [Tryz.cellsEn] at h1
      obtain ⟨_, hlen, hcell⟩ := World.cells?_some h1
      obtain ⟨e, rfl⟩ := open_en_cells hlen h2
      refine ⟨e, fun j hj => ?_⟩
      have := hcell j hj
      rwa [add_add] at this
    haveI : Inhabited En := ⟨⟨0, 0, 0⟩⟩
    obtain ⟨q, hq⟩ := choose_lt each
    have hlq : ((List.range len).map q).length = len := by simp
    have hgq : ∀ i (h : i < ((List.range len).map q).length), ((List.range len).map q)[i] = q i := fun i h => by simp
    refine ⟨(List.range len).map q, some a, cap, by rw [hlq]; exact hcs, ⟨by rw [hlq]; omega, fun hpos => ?_⟩⟩
    rw [hlq] at hpos
    obtain ⟨b, off, spot⟩ := a
    have h0 := hq 0 hpos 0 (by omega)
    have hspot : spot = none := by simpa [Addr.add] using World.cell?_spot h0
    subst hspot
    refine ⟨b, off, rfl, ?_, fun i hi j hj => ?_⟩
    · have := World.block_lt_of_cell? _ _ h0
      simpa [Addr.add] using this
    · rw [hgq]
      have := hq i (by rw [hlq] at hi; exact hi) j hj
      rwa [Addr.add_lit] at this
end Go.Proofs.YtjdkenopfnepaaaGreat
