/- Marks in rows of numbers: what they write, and where. -/
import Derived.Test.YtegjdngkbofogaaGreatMark
namespace Go.Proofs.YtegjdngkbofogaaGreat
open Go.RowKit

/-- What has been written lies in blocks from lo on, ahead of hi; blocks of cells keep their size. -/
structure Wr (lo hi : Nat) (W W' : World) : Prop where
  os : W'.os = W.os
  tape : W'.tape = W.tape
  output : W'.output = W.output
  size : W.heap.size ≤ W'.heap.size
  block : ∀ b, b < W.heap.size → (b < lo ∨ hi ≤ b) → W'.heap[b]? = W.heap[b]?
  cells : ∀ (b : Nat) (C : Array Value) (t : TypeId), W.heap[b]? = some (Obj.cells C t (0, 0)) → ∃ C' : Array Value, W'.heap[b]? = some (Obj.cells C' t (0, 0)) ∧ C'.size = C.size
theorem Wr.refl (lo hi : Nat) (W : World) : Wr lo hi W W := ⟨rfl, rfl, rfl, Nat.le_refl _, fun _ _ _ => rfl, fun _ C _ h => ⟨C, h, rfl⟩⟩
theorem Wr.trans {lo hi : Nat} {W W1 W2 : World} (h : Wr lo hi W W1) (k : Wr lo hi W1 W2) : Wr lo hi W W2 := by
  refine ⟨k.os.trans h.os, k.tape.trans h.tape, k.output.trans h.output, Nat.le_trans h.size k.size, fun b hb hr => (k.block b (Nat.lt_of_lt_of_le hb h.size) hr).trans (h.block b hb hr), fun b C t hc => ?_⟩
  obtain ⟨C1, h1, e1⟩ := h.cells b C t hc
  obtain ⟨C2, h2, e2⟩ := k.cells b C1 t h1
  exact ⟨C2, h2, e2.trans e1⟩
theorem Wr.below {lo hi : Nat} {W W' : World} (h : Below W.heap.size W W') : Wr lo hi W W' :=
  ⟨h.os, h.tape, h.output, h.size, fun b hb _ => h.block b hb, fun b C _ hc => ⟨C, (h.block b (Array.getElem?_eq_some_iff.1 hc).1).trans hc, rfl⟩⟩
theorem Wr.set {lo hi : Nat} {W W1 : World} (h : Wr lo hi W W1) {b j : Nat} (h1 : lo ≤ b) (h2 : b < hi) (v : Value) : Wr lo hi W (W1.setCell ⟨b, j, none⟩ v) := by
  refine h.trans ⟨rfl, rfl, rfl, by simp, fun c _ hr => Below.heap_setCell _ _ _ _ (by show c ≠ b; omega), fun c C t hc => ?_⟩
  by_cases e : c = b
  · subst e
    exact ⟨C.setIfInBounds j v, heap_set hc v, by simp⟩
  · exact ⟨C, (Below.heap_setCell _ _ _ _ e).trans hc, rfl⟩
/-- A row of numbers that may be written. -/
def Room (lo hi : Nat) (W : World) (p : Option Addr) (n : Nat) : Prop := ∃ (b : Nat) (C : Array Value) (t : TypeId), p = some ⟨b, 0, none⟩ ∧ lo ≤ b ∧ b < hi ∧ W.heap[b]? = some (.cells C t (0, 0)) ∧ n ≤ C.size
theorem Room.kept {lo hi : Nat} {W W' : World} {p : Option Addr} {n : Nat} (h : Room lo hi W p n) (hw : Wr lo hi W W') : Room lo hi W' p n := by
  obtain ⟨b, C, t, hp, h1, h2, hc, hn⟩ := h
  obtain ⟨C', h3, h4⟩ := hw.cells b C t hc
  exact ⟨b, C', t, hp, h1, h2, h3, by omega⟩
set_option maxHeartbeats 2000000 in
set_option maxRecDepth 100000 in
theorem mark_row (lo hi : Nat) (p : Option Addr) (n cap : Nat) (k : Int) (W : World) (h : Room lo hi W p n) (hn : n ≤ 1048576) (h0 : 0 ≤ k) (h1 : k ≤ 1000000000) :
    Calls Tryz.prog 19 #[.slice p n cap, .int .i64 k] W fun e W' => e = .returned (.int .i64 (k + (n : Int))) ∧ Wr lo hi W W' := by
  have H : Hid (Room lo hi W p n) := h
  obtain ⟨b, C, t, rfl, hb1, hb2, _, _⟩ := h
  go_enter Tryz.func19, Tryz.ntmps19
  go_wp2
  go_loopw [1, 5] (fun kk i wr => ∃ j : Nat, j ≤ n ∧ i = .int .i64 j ∧ kk = .int .i64 (k + (j : Int)) ∧ Hid (Wr lo hi W wr)) (fun _ i _ => n - (intOf i).toNat)
  case atStart => exact ⟨0, Nat.zero_le _, rfl, by simp, Wr.refl _ _ _⟩
  case round =>
    obtain ⟨j, hj, rfl, rfl, HW⟩ := hrel
    by_cases hlt : j < n
    · obtain ⟨b', C', t', hp, _, _, hc, hsz⟩ := H.out.kept HW.out
      obtain rfl : b = b' := by simpa using hp
      have hcell : ∃ u, wr.cell? ⟨b, j, none⟩ = some u := ⟨C'[j]'(by omega), by rw [cell_of_heap hc]; exact Array.getElem?_eq_getElem _⟩
      obtain ⟨u, hu⟩ := hcell
      have hfz : wr.frozen? ⟨b, j, none⟩ = false := frozen_of_heap hc
      have HN : Hid (∀ v, Wr lo hi W (wr.setCell ⟨b, j, none⟩ v)) := fun v => HW.out.set hb1 hb2 v
      clear hc hp
      go_wp2
      go_roundw
      case rel => exact ⟨j + 1, by omega, by go_num, by go_num, HN.out _⟩
      case measure => simp [intOf]; omega
    · have HS : Hid (k + (j : Int) = k + (n : Int)) := by unfold Hid; omega
      go_wp2
      go_ret
      exact ⟨ret_int HS.out, HW.out⟩
end Go.Proofs.YtegjdngkbofogaaGreat
