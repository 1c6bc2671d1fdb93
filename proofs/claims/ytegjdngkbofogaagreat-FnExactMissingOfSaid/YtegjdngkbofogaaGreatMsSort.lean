/- Rows of numbers put in order, each once: slices.Sort and slices.Compact. -/
import Derived.Test.YtegjdngkbofogaaGreatMsSpec
import Derived.Test.YtegjdngkbofogaaGreatMsLay
import Derived.Lib.RowBridge
namespace Go.Proofs.YtegjdngkbofogaaGreat
open Go.Shelf Go.RowKit Go.Lib Go.Sort

/-- A row of numbers that can be written, from block base on. -/
def NumsRow (w : World) (base : Nat) (v : Value) (zs : List Int) : Prop := ∃ a c, v = .slice a zs.length c ∧ zs.length ≤ c ∧ (zs.length = 0 ∨ ∃ g, a = some ⟨g, 0, none⟩ ∧ base ≤ g ∧ g < w.heap.size ∧ (∀ j (h : j < zs.length), w.cell? ⟨g, j, none⟩ = some (.int .i64 zs[j])) ∧ ∀ q, w.frozen? ⟨g, q, none⟩ = false)
theorem NumsOwn.row {w : World} {base : Nat} {v : Value} {zs : List Int} (h : NumsOwn w base v zs) (hl : zs.length ≤ 1048576) : NumsRow w base v zs := by
  obtain ⟨a, c, hv, hc, hat, hg⟩ := h.at hl
  refine ⟨a, c, hv, hc, ?_⟩
  by_cases h0 : zs.length = 0
  · exact .inl h0
  · rcases hg with ⟨_, h1⟩ | ⟨g, ha, hb⟩
    · omega
    · refine .inr ⟨g, ha, hb, ?_⟩
      subst ha
      obtain ⟨b, off, hbo, hlt, hcell⟩ := hat.2 (by omega)
      obtain ⟨rfl, rfl⟩ : g = b ∧ 0 = off := by simpa using hbo
      refine ⟨hlt, fun j hj => by have := hcell j hj; rwa [Nat.zero_add] at this, fun q => ?_⟩
      rcases h.2 with ⟨h1, _⟩ | ⟨g', cap, cur, h1, _, hg', _⟩
      · rw [hv] at h1
        cases h1
      · rw [hv] at h1
        cases h1
        exact frozen_of_heap hg'
theorem NumsRow.kept {w w' : World} {base : Nat} {v : Value} {zs : List Int} (h : NumsRow w base v zs) (hb : Go.RowKit.Below w.heap.size w w') : NumsRow w' base v zs := by
  obtain ⟨a, c, hv, hc, h1⟩ := h
  refine ⟨a, c, hv, hc, ?_⟩
  rcases h1 with h0 | ⟨g, ha, hbg, hlt, hcell, hf⟩
  · exact .inl h0
  · exact .inr ⟨g, ha, hbg, Nat.lt_of_lt_of_le hlt hb.size, fun j hj => (hb.cell (p := ⟨g, j, none⟩) hlt).trans (hcell j hj), fun q => by rw [hb.frozen (p := ⟨g, q, none⟩) hlt]; exact hf q⟩
theorem NumsRow.at {w : World} {base : Nat} {a : Option Addr} {n c : Nat} {zs : List Int} (h : NumsRow w base (.slice a n c) zs) (hl : zs.length ≤ 1048576) : NumsAt w a zs := by
  obtain ⟨a', c', hv, hc, h1⟩ := h
  cases hv
  refine ⟨hl, fun hp => ?_⟩
  rcases h1 with h0 | ⟨g, ha, hbg, hlt, hcell, _⟩
  · omega
  · exact ⟨g, 0, ha, hlt, fun j hj => by rw [Nat.zero_add]; exact hcell j hj⟩
theorem NumsRow.low {w : World} {base base' : Nat} {v : Value} {zs : List Int} (h : NumsRow w base v zs) (hb : base' ≤ base) : NumsRow w base' v zs := by
  obtain ⟨a, c, hv, hc, h1⟩ := h
  refine ⟨a, c, hv, hc, ?_⟩
  rcases h1 with h0 | ⟨g, ha, hbg, r⟩
  · exact .inl h0
  · exact .inr ⟨g, ha, Nat.le_trans hb hbg, r⟩
theorem holds_nums {w : World} {g : Nat} {zs : List Int} (h : ∀ j (h : j < zs.length), w.cell? ⟨g, j, none⟩ = some (.int .i64 zs[j])) (hf : ∀ q, w.frozen? ⟨g, q, none⟩ = false) : Holds (Value.int .i64) w g 0 zs.toArray := by
  intro j hj
  have hj' : j < zs.length := by simpa using hj
  rw [Nat.zero_add, getElem!_pos zs.toArray j hj]
  exact ⟨by rw [h j hj']; simp, hf j⟩
theorem nums_holds {w : World} {g : Nat} {zs : List Int} (h : Holds (Value.int .i64) w g 0 zs.toArray) : ∀ j (h : j < zs.length), w.cell? ⟨g, j, none⟩ = some (.int .i64 zs[j]) := by
  intro j hj
  have hj' : j < zs.toArray.size := by simpa using hj
  have h1 := (h j hj').1
  rw [Nat.zero_add, getElem!_pos zs.toArray j hj'] at h1
  simpa using h1
theorem put_other {w : World} {g n : Nat} {d : Array Int} {os : Array Obj} : (grow (putRow (Value.int .i64) (Sort.ahead w n) g 0 d) os).os = w.os ∧ (grow (putRow (Value.int .i64) (Sort.ahead w n) g 0 d) os).tape = w.tape ∧ (grow (putRow (Value.int .i64) (Sort.ahead w n) g 0 d) os).output = w.output ∧ w.heap.size ≤ (grow (putRow (Value.int .i64) (Sort.ahead w n) g 0 d) os).heap.size ∧ ∀ k, k < w.heap.size → k ≠ g → (grow (putRow (Value.int .i64) (Sort.ahead w n) g 0 d) os).heap[k]? = w.heap[k]? := by
  refine ⟨rfl, rfl, rfl, ?_, fun k hk hne => ?_⟩
  · show w.heap.size ≤ ((w.heap.modify g _) ++ os).size
    simp
  · show ((w.heap.modify g _) ++ os)[k]? = w.heap[k]?
    rw [Array.getElem?_append_left (by simpa using hk), Array.getElem?_modify, if_neg (fun e => hne e.symm)]
theorem sort_nums (zs : List Int) (base : Nat) (v : Value) (w : World) (h : NumsRow w base v zs) (hbase : base ≤ w.heap.size) (hl : zs.length ≤ 1048576) :
    Calls Tryz.prog 65 #[v] w fun e w' => e = .returned (.tuple #[]) ∧ NumsRow w' base v (zs.mergeSort fun x y => decide (x ≤ y)) ∧ Go.RowKit.Below base w w' := by
  obtain ⟨a, c, rfl, hc, h1⟩ := h
  have hlen : (zs.mergeSort fun x y => decide (x ≤ y)).length = zs.length := List.length_mergeSort zs
  rcases h1 with h0 | ⟨g, rfl, hbg, hlt, hcell, hf⟩
  · have hz : zs = [] := List.eq_nil_of_length_eq_zero h0
    subst hz
    have hcon : Calls Tryz.prog 65 #[.slice a 0 c] w fun e w' => e = .returned (.tuple #[]) ∧ w' = w := AnyM.slices_Sort_int_none Tryz.sortI a c w
    refine hcon.mono ?_
    rintro e w' ⟨rfl, rfl⟩
    exact ⟨rfl, ⟨a, c, by rw [hlen], by rw [hlen]; exact hc, .inl (by rw [hlen]; rfl)⟩, Go.RowKit.Below.refl _ _⟩
  · have hH := holds_nums hcell hf
    have hcon : Calls Tryz.prog 65 #[.slice (some ⟨g, 0, none⟩) zs.length c] w fun e w' => e = .returned (.tuple #[]) ∧ ∃ n os, w' = grow (putRow (Value.int .i64) (Sort.ahead w n) g 0 (zs.mergeSort fun x y => decide (x ≤ y)).toArray) os := AnyM.slices_Sort_int Tryz.sortI g 0 c zs w hH hlt (by omega)
    refine hcon.mono ?_
    rintro e w' ⟨rfl, n, os, rfl⟩
    obtain ⟨q1, q2, q3, q4, q5⟩ := put_other (w := w) (g := g) (n := n) (d := (zs.mergeSort fun x y => decide (x ≤ y)).toArray) (os := os)
    have hgl : g < (putRow (Value.int .i64) (Sort.ahead w n) g 0 (zs.mergeSort fun x y => decide (x ≤ y)).toArray).heap.size := by
      show g < (w.heap.modify g _).size
      simpa using hlt
    have hH2 : Holds (Value.int .i64) (putRow (Value.int .i64) (Sort.ahead w n) g 0 (zs.mergeSort fun x y => decide (x ≤ y)).toArray) g 0 (zs.mergeSort fun x y => decide (x ≤ y)).toArray := holds_putRow _ (Sort.ahead w n) g 0 zs.toArray _ hH (by simp)
    have hH3 := holds_grow (Value.int .i64) _ os g 0 _ hgl hH2
    refine ⟨rfl, ⟨_, c, by rw [hlen], by rw [hlen]; exact hc, .inr ⟨g, rfl, hbg, Nat.lt_of_lt_of_le hlt q4, nums_holds hH3, fun q => ?_⟩⟩, ⟨q1, q2, q3, q4, fun k hk => q5 k (by omega) (by omega)⟩⟩
    rw [frozen?_grow _ _ _ hgl, frozen?_putRow]
    exact hf q
theorem compact_nil : Go.Lib.compact ([] : List Int) = [] := rfl
theorem compact_nums (zs : List Int) (base : Nat) (v : Value) (w : World) (h : NumsRow w base v zs) (hbase : base ≤ w.heap.size) (hl : zs.length ≤ 1048576) :
    Calls Tryz.prog 66 #[v] w fun e w' => ∃ v', e = .returned v' ∧ NumsRow w' base v' (Go.Lib.compact zs) ∧ Go.RowKit.Below base w w' := by
  obtain ⟨a, c, rfl, hc, h1⟩ := h
  rcases h1 with h0 | ⟨g, rfl, hbg, hlt, hcell, hf⟩
  · have hz : zs = [] := List.eq_nil_of_length_eq_zero h0
    subst hz
    have hcon : Calls Tryz.prog 66 #[.slice a 0 c] w fun e w' => e = .returned (.slice a 0 c) ∧ w' = w := AnyG.slices_Compact_int_empty Tryz.compactI a c w
    refine hcon.mono ?_
    rintro e w' ⟨rfl, rfl⟩
    exact ⟨_, rfl, ⟨a, c, rfl, Nat.zero_le _, .inl rfl⟩, Go.RowKit.Below.refl _ _⟩
  · have hH := holds_nums hcell hf
    have hle := Go.Lib.compact_length_le zs
    have hcon : Calls Tryz.prog 66 #[.slice (some ⟨g, 0, none⟩) zs.length c] w fun e w' => e = .returned (.slice (some ⟨g, 0, none⟩) (Go.Lib.compact zs).length c) ∧ ∃ q, w' = putRow (Value.int .i64) (Sort.ahead w q) g 0 (Go.Lib.compact zs ++ List.replicate (zs.length - (Go.Lib.compact zs).length) 0).toArray := AnyG.slices_Compact_int Tryz.compactI g 0 c zs w hH (by omega) hc
    refine hcon.mono ?_
    rintro e w' ⟨rfl, n, rfl⟩
    have hgr : ∀ W : World, grow W #[] = W := fun W => by simp [grow]
    obtain ⟨q1, q2, q3, q4, q5⟩ := put_other (w := w) (g := g) (n := n) (d := (Go.Lib.compact zs ++ List.replicate (zs.length - (Go.Lib.compact zs).length) 0).toArray) (os := #[])
    rw [hgr] at q1 q2 q3 q4 q5
    have hH2 := holds_putRow (Value.int .i64) (Sort.ahead w n) g 0 zs.toArray (Go.Lib.compact zs ++ List.replicate (zs.length - (Go.Lib.compact zs).length) 0).toArray hH (by simp; omega)
    have hc2 := nums_holds hH2
    refine ⟨_, rfl, ⟨_, c, rfl, by omega, .inr ⟨g, rfl, hbg, Nat.lt_of_lt_of_le hlt q4, fun j hj => ?_, fun q => ?_⟩⟩, ⟨q1, q2, q3, q4, fun k hk => q5 k (by omega) (by omega)⟩⟩
    · have := hc2 j (by simp; omega)
      rw [List.getElem_append_left hj] at this
      exact this
    · rw [frozen?_putRow]
      exact hf q
end Go.Proofs.YtegjdngkbofogaaGreat
