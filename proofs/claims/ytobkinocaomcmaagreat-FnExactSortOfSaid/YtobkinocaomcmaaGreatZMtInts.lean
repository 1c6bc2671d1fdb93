/- Marks in rows of numbers, from any number on. -/
import Derived.Test.YtobkinocaomcmaaGreatZGrTo2
namespace Go.Proofs.YtobkinocaomcmaaGreat
open Go.RowKit

/-- One block alone is written. -/
structure OnlyI (b : Nat) (w w' : World) : Prop where
  os : w'.os = w.os
  tape : w'.tape = w.tape
  output : w'.output = w.output
  size : w'.heap.size = w.heap.size
  block : ∀ k, k ≠ b → w'.heap[k]? = w.heap[k]?
  froz : ∀ q, w'.frozen? ⟨b, q, none⟩ = w.frozen? ⟨b, q, none⟩
theorem OnlyI.refl (b : Nat) (w : World) : OnlyI b w w := ⟨rfl, rfl, rfl, rfl, fun _ _ => rfl, fun _ => rfl⟩
theorem OnlyI.set {b : Nat} {w w' : World} (h : OnlyI b w w') (q : Nat) (u : Value) : OnlyI b w (w'.setCell ⟨b, q, none⟩ u) :=
  ⟨h.os, h.tape, h.output, by simpa using h.size, fun k hk => (heap_setCell_other w' ⟨b, q, none⟩ k u hk).trans (h.block k hk), fun q' => by rw [World.frozen?_setCell]; exact h.froz q'⟩
theorem OnlyI.below {b : Nat} {w w' : World} (h : OnlyI b w w') {m : Nat} (hm : m ≤ b) : Below m w w' := ⟨h.os, h.tape, h.output, Nat.le_of_eq h.size.symm, fun k hk => h.block k (by omega)⟩
/-- A row of n numbers that can be written. -/
def SpotI (w : World) (a : Option Addr) (n : Nat) : Prop := n = 0 ∨ ∃ b, a = some ⟨b, 0, none⟩ ∧ b < w.heap.size ∧ (∀ q, q < n → ∃ u, w.cell? ⟨b, q, none⟩ = some u) ∧ ∀ q, w.frozen? ⟨b, q, none⟩ = false
def MarksI (w : World) (a : Option Addr) (n : Nat) (k : Int) : Prop := n = 0 ∨ ∃ b, a = some ⟨b, 0, none⟩ ∧ b < w.heap.size ∧ ∀ q, q < n → w.cell? ⟨b, q, none⟩ = some (.int .i64 (k + q))
def MarkPostI (w : World) (a : Option Addr) (n : Nat) (k : Int) (w' : World) : Prop := (n = 0 ∧ w' = w) ∨ ∃ b, a = some ⟨b, 0, none⟩ ∧ OnlyI b w w' ∧ b < w'.heap.size ∧ ∀ q, q < n → w'.cell? ⟨b, q, none⟩ = some (.int .i64 (k + q))
theorem MarkPostI.marks {w w' : World} {a : Option Addr} {n : Nat} {k : Int} (h : MarkPostI w a n k w') : MarksI w' a n k := by
  rcases h with ⟨h0, _⟩ | ⟨b, ha, _, hb, hc⟩
  · exact .inl h0
  · exact .inr ⟨b, ha, hb, hc⟩
theorem MarksI.kept {w w' : World} {a : Option Addr} {n : Nat} {k : Int} (h : MarksI w a n k) (hb : Below w.heap.size w w') : MarksI w' a n k := by
  rcases h with h0 | ⟨b, ha, hlt, hc⟩
  · exact .inl h0
  · exact .inr ⟨b, ha, Nat.lt_of_lt_of_le hlt hb.size, fun q hq => (hb.cell (p := ⟨b, q, none⟩) hlt).trans (hc q hq)⟩
structure MkI (w : World) (b n : Nat) (k0 : Int) (i : Nat) (W : World) : Prop where
  only : OnlyI b w W
  done : ∀ q, q < i → W.cell? ⟨b, q, none⟩ = some (.int .i64 (k0 + q))
  rest : ∀ q, q < n → ∃ u, W.cell? ⟨b, q, none⟩ = some u
theorem MkI.next {w : World} {b n : Nat} {k0 : Int} {i : Nat} {W : World} (h : MkI w b n k0 i W) (hi : i < n) : MkI w b n k0 (i + 1) (W.setCell ⟨b, i, none⟩ (.int .i64 (k0 + i))) := by
  obtain ⟨u0, h0⟩ := h.rest i hi
  have key : ∀ q, q < i + 1 → (W.setCell ⟨b, i, none⟩ (.int .i64 (k0 + i))).cell? ⟨b, q, none⟩ = some (.int .i64 (k0 + q)) := fun q hq => by
    by_cases c : q = i
    · subst c
      exact World.cell?_setCell_same _ _ _ h0
    · rw [World.cell?_setCell_other _ ⟨b, i, none⟩ ⟨b, q, none⟩ _ (fun e => by have := congrArg Addr.off e; simp at this; omega)]
      exact h.done q (by omega)
  refine ⟨h.only.set _ _, key, fun q hq => ?_⟩
  by_cases c : q < i + 1
  · exact ⟨_, key q c⟩
  · rw [World.cell?_setCell_other _ ⟨b, i, none⟩ ⟨b, q, none⟩ _ (fun e => by have := congrArg Addr.off e; simp at this; omega)]
    exact h.rest q hq
set_option maxHeartbeats 4000000 in
set_option maxRecDepth 100000 in
theorem mark_intsK (k0 n : Nat) (a : Option Addr) (cap : Nat) (hn : k0 + n ≤ 10000000) (w : World) (h : SpotI w a n) :
    Calls Tryz.prog 22 #[.slice a n cap, .int .i64 k0] w fun e w' => e = .returned (.int .i64 ((k0 : Int) + n)) ∧ MarkPostI w a n k0 w' ∧ (n = 0 → w' = w) := by
  by_cases hz : n = 0
  · subst hz
    clear h
    go_enter Tryz.func22, Tryz.ntmps22
    go_wp2
    go_loopw [1, 5] (fun k i wr => k = .int .i64 k0 ∧ i = .int .i64 (0 : Nat) ∧ Hid (wr = w)) (fun _ _ _ => 0)
    case atStart => exact ⟨rfl, rfl, (rfl : w = w)⟩
    case round =>
      obtain ⟨rfl, rfl, HW⟩ := hrel
      go_wp2
      go_ret
      exact ⟨ret_int (by simp), .inl ⟨rfl, HW.out⟩, fun _ => HW.out⟩
  · obtain ⟨b, rfl, hb, hc, hf⟩ := h.resolve_left hz
    have HF : Hid (∀ q, w.frozen? ⟨b, q, none⟩ = false) := hf
    have HC : Hid (∀ q, q < n → ∃ u, w.cell? ⟨b, q, none⟩ = some u) := hc
    clear hf hc
    go_enter Tryz.func22, Tryz.ntmps22
    go_wp2
    go_loopw [1, 5] (fun k i wr => ∃ j : Nat, j ≤ n ∧ k = .int .i64 ((k0 : Int) + j) ∧ i = .int .i64 j ∧ Hid (MkI w b n k0 j wr)) (fun _ i _ => n - (intOf i).toNat)
    case atStart => exact ⟨0, Nat.zero_le _, by simp, rfl, OnlyI.refl _ _, fun _ h => absurd h (by omega), HC.out⟩
    case round =>
      obtain ⟨j, hj, rfl, rfl, HI⟩ := hrel
      by_cases hlt : j < n
      · obtain ⟨u0, h0⟩ := HI.out.rest j hlt
        have hfr : ∀ q, wr.frozen? ⟨b, q, none⟩ = false := fun q => (HI.out.only.froz q).trans (HF.out q)
        have HN : Hid (MkI w b n k0 (j + 1) (wr.setCell ⟨b, j, none⟩ (.int .i64 ((k0 : Int) + j)))) := HI.out.next hlt
        go_wp2
        go_roundw
        case rel => exact ⟨j + 1, by omega, by go_num, by go_num, HN⟩
        case measure => simp [intOf]; omega
      · have e : j = n := by omega
        subst e
        have hsz := HI.out.only.size
        go_wp2
        go_ret
        exact ⟨rfl, .inr ⟨b, rfl, HI.out.only, by omega, HI.out.done⟩, fun c => absurd c hz⟩
set_option maxHeartbeats 4000000 in
set_option maxRecDepth 100000 in
theorem held_intsK (k0 n : Nat) (a : Option Addr) (cap : Nat) (hn : k0 + n ≤ 10000000) (w : World) (h : MarksI w a n k0) :
    Calls Tryz.prog 23 #[.slice a n cap, .int .i64 k0] w fun e w' => e = .returned (.int .i64 ((k0 : Int) + n)) ∧ w = w' := by
  rcases h with rfl | ⟨b, rfl, hb, hc⟩
  · go_enter Tryz.func23, Tryz.ntmps23
    go_wp2
    go_loop [1, 5] (fun k i => k = .int .i64 k0 ∧ i = .int .i64 (0 : Nat)) (fun _ _ => 0)
    case atStart => exact ⟨rfl, rfl⟩
    case round =>
      obtain ⟨rfl, rfl⟩ := hrel
      go_wp2
      go_ret
      exact ⟨ret_int (by simp), rfl⟩
  · have HC : Hid (∀ q, q < n → w.cell? ⟨b, q, none⟩ = some (.int .i64 ((k0 : Int) + q))) := hc
    clear hc
    go_enter Tryz.func23, Tryz.ntmps23
    go_wp2
    go_loop [1, 5] (fun k i => ∃ j : Nat, j ≤ n ∧ k = .int .i64 ((k0 : Int) + j) ∧ i = .int .i64 j) (fun _ i => n - (intOf i).toNat)
    case atStart => exact ⟨0, Nat.zero_le _, by simp, rfl⟩
    case round =>
      obtain ⟨j, hj, rfl, rfl⟩ := hrel
      by_cases hlt : j < n
      · have h0 : w.cell? ⟨b, j, none⟩ = some (.int .i64 ((k0 : Int) + j)) := HC.out j hlt
        go_wp2
        exact ⟨⟨j + 1, by omega, by go_num, by go_num⟩, by simp [intOf]; omega⟩
      · have e : j = n := by omega
        subst e
        go_wp2
        go_ret
        exact ⟨rfl, rfl⟩
theorem mark_intsZ (z : Int) (k0 n : Nat) (hz : z = (k0 : Int)) (a : Option Addr) (cap : Nat) (hn : k0 + n ≤ 10000000) (w : World) (h : SpotI w a n) :
    Calls Tryz.prog 22 #[.slice a n cap, .int .i64 z] w fun e w' => e = .returned (.int .i64 (z + n)) ∧ MarkPostI w a n k0 w' ∧ (n = 0 → w' = w) := by
  subst hz
  exact mark_intsK k0 n a cap hn w h
theorem held_intsZ (z : Int) (k0 n : Nat) (hz : z = (k0 : Int)) (a : Option Addr) (cap : Nat) (hn : k0 + n ≤ 10000000) (w : World) (h : MarksI w a n k0) :
    Calls Tryz.prog 23 #[.slice a n cap, .int .i64 z] w fun e w' => e = .returned (.int .i64 (z + n)) ∧ w = w' := by
  subst hz
  exact held_intsK k0 n a cap hn w h
end Go.Proofs.YtobkinocaomcmaaGreat
