/- Marks in rows of entries, and whether they are held; outcomes held against each other. -/
import Derived.Test.YtkjcghejpdbeiaaSuPut
namespace Go.Proofs.Ytkjcghejpdbeiaa
open Go.RowKit

/-- One block alone is written. -/
structure OnlyB (b : Nat) (w w' : World) : Prop where
  os : w'.os = w.os
  tape : w'.tape = w.tape
  output : w'.output = w.output
  size : w'.heap.size = w.heap.size
  block : ∀ k, k ≠ b → w'.heap[k]? = w.heap[k]?
  froz : ∀ q, w'.frozen? ⟨b, q, none⟩ = w.frozen? ⟨b, q, none⟩
theorem OnlyB.refl (b : Nat) (w : World) : OnlyB b w w := ⟨rfl, rfl, rfl, rfl, fun _ _ => rfl, fun _ => rfl⟩
theorem OnlyB.set {b : Nat} {w w' : World} (h : OnlyB b w w') (q : Nat) (u : Value) : OnlyB b w (w'.setCell ⟨b, q, none⟩ u) :=
  ⟨h.os, h.tape, h.output, by simpa using h.size, fun k hk => (heap_setCell_other w' ⟨b, q, none⟩ k u hk).trans (h.block k hk), fun q' => by rw [World.frozen?_setCell]; exact h.froz q'⟩
theorem OnlyB.below {b : Nat} {w w' : World} (h : OnlyB b w w') {m : Nat} (hm : m ≤ b) : Below m w w' := ⟨h.os, h.tape, h.output, Nat.le_of_eq h.size.symm, fun k hk => h.block k (by omega)⟩
theorem OnlyB.ens {b : Nat} {w w' : World} (h : OnlyB b w w') {base : Nat} {v : Value} {xs : List En} (ho : EnsOwn w base v xs) (hne : v.ownBlock ≠ some b) : EnsOwn w' base v xs := by
  refine ⟨ho.1, ?_⟩
  rcases ho.2 with h0 | ⟨g, cap, cur, h1, h2, h3, r⟩
  · exact .inl h0
  · refine .inr ⟨g, cap, cur, h1, h2, (h.block g (fun e => hne ?_)).trans h3, r⟩
    rw [h1, ← e]
    rfl
/-- A row of n entries that can be written. -/
def Spot (w : World) (a : Option Addr) (n : Nat) : Prop := n = 0 ∨ ∃ b, a = some ⟨b, 0, none⟩ ∧ b < w.heap.size ∧ (∀ q, q < n * 3 → ∃ u, w.cell? ⟨b, q, none⟩ = some u) ∧ ∀ q, w.frozen? ⟨b, q, none⟩ = false
/-- A row that holds marks from k on. -/
def Marks (w : World) (a : Option Addr) (n : Nat) (k : Int) : Prop := n = 0 ∨ ∃ b, a = some ⟨b, 0, none⟩ ∧ b < w.heap.size ∧ ∀ q, q < n * 3 → w.cell? ⟨b, q, none⟩ = some (.int .i64 (k + q))
def MarkPost (w : World) (a : Option Addr) (n : Nat) (k : Int) (w' : World) : Prop := (n = 0 ∧ w' = w) ∨ ∃ b, a = some ⟨b, 0, none⟩ ∧ OnlyB b w w' ∧ b < w'.heap.size ∧ ∀ q, q < n * 3 → w'.cell? ⟨b, q, none⟩ = some (.int .i64 (k + q))
theorem MarkPost.marks {w w' : World} {a : Option Addr} {n : Nat} {k : Int} (h : MarkPost w a n k w') : Marks w' a n k := by
  rcases h with ⟨h0, _⟩ | ⟨b, ha, _, hb, hc⟩
  · exact .inl h0
  · exact .inr ⟨b, ha, hb, hc⟩
theorem Marks.kept {w w' : World} {a : Option Addr} {n : Nat} {k : Int} (h : Marks w a n k) (hb : Below w.heap.size w w') : Marks w' a n k := by
  rcases h with h0 | ⟨b, ha, hlt, hc⟩
  · exact .inl h0
  · exact .inr ⟨b, ha, Nat.lt_of_lt_of_le hlt hb.size, fun q hq => (hb.cell (p := ⟨b, q, none⟩) hlt).trans (hc q hq)⟩
theorem EnsOwn.spot {w : World} {base n c : Nat} {a : Option Addr} {xs : List En} (h : EnsOwn w base (.slice a n c) xs) (hn : n = xs.length) : Spot w a n := by
  subst hn
  rcases h.2 with ⟨_, h0⟩ | ⟨g, cap, cur, h1, _, hg, hle, _, hsz, _⟩
  · exact .inl h0
  · cases h1
    refine .inr ⟨g, rfl, (Array.getElem?_eq_some_iff.1 hg).1, fun q hq => ?_, fun q => frozen_of_heap hg⟩
    rw [cell_of_heap hg]
    exact ⟨cur[q]'(by omega), Array.getElem?_eq_getElem _⟩
theorem EnsNew.spot {w W : World} {xs : List En} {a : Option Addr} (h : EnsNew w xs a W) : Spot W a xs.length := by
  obtain ⟨b, ha, _, hb, hf, hc⟩ := h.row
  refine .inr ⟨b, ha, hb, fun q hq => ?_, hf⟩
  have hi : q / 3 < xs.length := by omega
  have e : q = q / 3 * 3 + q % 3 := by omega
  have h1 := hc (q / 3) hi (q % 3) (by omega)
  rw [← e] at h1
  have h2 : q % 3 < (enCells xs[q / 3]).length := by simp [enCells]; omega
  exact ⟨(enCells xs[q / 3])[q % 3], by rw [h1, List.getElem?_eq_getElem h2]⟩
theorem Spot.kept {w w' : World} {a : Option Addr} {n : Nat} (h : Spot w a n) (hb : Below w.heap.size w w') : Spot w' a n := by
  rcases h with h0 | ⟨b, ha, hlt, hc, hf⟩
  · exact .inl h0
  · exact .inr ⟨b, ha, Nat.lt_of_lt_of_le hlt hb.size, fun q hq => by rw [hb.cell (p := ⟨b, q, none⟩) hlt]; exact hc q hq, fun q => by rw [hb.frozen (p := ⟨b, q, none⟩) hlt]; exact hf q⟩
/-- In mid-mark. -/
structure MkIn (w : World) (b n : Nat) (k0 : Int) (i : Nat) (W : World) : Prop where
  only : OnlyB b w W
  done : ∀ q, q < i * 3 → W.cell? ⟨b, q, none⟩ = some (.int .i64 (k0 + q))
  rest : ∀ q, q < n * 3 → ∃ u, W.cell? ⟨b, q, none⟩ = some u
theorem MkIn.next {w : World} {b n : Nat} {k0 : Int} {i : Nat} {W : World} (h : MkIn w b n k0 i W) (hi : i < n) : MkIn w b n k0 (i + 1) (set3 W b (i * 3) (.int .i64 (k0 + i * 3)) (.int .i64 (k0 + i * 3 + 1)) (.int .i64 (k0 + i * 3 + 1 + 1))) := by
  obtain ⟨u0, h0⟩ := h.rest (i * 3) (by omega)
  obtain ⟨u1, h1⟩ := h.rest (i * 3 + 1) (by omega)
  obtain ⟨u2, h2⟩ := h.rest (i * 3 + 2) (by omega)
  have key : ∀ q, q < (i + 1) * 3 → (set3 W b (i * 3) (.int .i64 (k0 + i * 3)) (.int .i64 (k0 + i * 3 + 1)) (.int .i64 (k0 + i * 3 + 1 + 1))).cell? ⟨b, q, none⟩ = some (.int .i64 (k0 + q)) := fun q hq => by
    by_cases c : q < i * 3
    · rw [set3_other _ _ _ _ _ _ _ (by omega)]
      exact h.done q c
    · obtain ⟨j, rfl⟩ : ∃ j, q = i * 3 + j := ⟨q - i * 3, by omega⟩
      have hj : j < 3 := by omega
      match j, hj with
      | 0, _ => rw [Nat.add_zero, set3_cell0 _ _ _ h0]; congr 2
      | 1, _ => rw [set3_cell1 _ _ _ h1]; congr 2; push_cast; omega
      | 2, _ => rw [set3_cell2 _ _ _ h2]; congr 2; push_cast; omega
  refine ⟨?_, key, fun q hq => ?_⟩
  · unfold set3
    exact ((h.only.set _ _).set _ _).set _ _
  · by_cases c : q < (i + 1) * 3
    · exact ⟨_, key q c⟩
    · rw [set3_other _ _ _ _ _ _ _ (by omega)]
      exact h.rest q hq
set_option maxHeartbeats 4000000 in
set_option maxRecDepth 100000 in
theorem mark_ens (n : Nat) (a : Option Addr) (cap : Nat) (k0 : Int) (hk0 : 0 ≤ k0 ∧ k0 ≤ 100000000) (hn : n ≤ 10000000) (w : World) (h : Spot w a n) :
    Calls Try.prog 19 #[.slice a n cap, .int .i64 k0] w fun e w' => e = .returned (.int .i64 (k0 + n * 3)) ∧ MarkPost w a n k0 w' := by
  rcases h with rfl | ⟨b, rfl, hb, hc, hf⟩
  · go_enter Try.func19, Try.ntmps19
    go_wp2
    go_loopw [1, 5] (fun k i wr => k = .int .i64 k0 ∧ i = .int .i64 (0 : Nat) ∧ Hid (wr = w)) (fun _ _ _ => 0)
    case atStart => exact ⟨rfl, rfl, (rfl : w = w)⟩
    case round =>
      obtain ⟨rfl, rfl, HW⟩ := hrel
      go_wp2
      go_ret
      exact ⟨ret_int (by simp), .inl ⟨rfl, HW.out⟩⟩
  · have HF : Hid (∀ q, w.frozen? ⟨b, q, none⟩ = false) := hf
    have HC : Hid (∀ q, q < n * 3 → ∃ u, w.cell? ⟨b, q, none⟩ = some u) := hc
    clear hf hc
    go_enter Try.func19, Try.ntmps19
    go_wp2
    go_loopw [1, 5] (fun k i wr => ∃ j : Nat, j ≤ n ∧ k = .int .i64 (k0 + j * 3) ∧ i = .int .i64 j ∧ Hid (MkIn w b n k0 j wr)) (fun _ i _ => n - (intOf i).toNat)
    case atStart => exact ⟨0, Nat.zero_le _, by simp, rfl, OnlyB.refl _ _, fun _ h => absurd h (by omega), HC.out⟩
    case round =>
      obtain ⟨j, hj, rfl, rfl, HI⟩ := hrel
      by_cases hlt : j < n
      · obtain ⟨u0, h0⟩ := HI.out.rest (j * 3) (by omega)
        obtain ⟨u1, h1⟩ := HI.out.rest (j * 3 + 1) (by omega)
        obtain ⟨u2, h2⟩ := HI.out.rest (j * 3 + 2) (by omega)
        have hfr : ∀ q, wr.frozen? ⟨b, q, none⟩ = false := fun q => (HI.out.only.froz q).trans (HF.out q)
        have HN : Hid (MkIn w b n k0 (j + 1) (set3 wr b (j * 3) (.int .i64 (k0 + j * 3)) (.int .i64 (k0 + j * 3 + 1)) (.int .i64 (k0 + j * 3 + 1 + 1)))) := HI.out.next hlt
        unfold set3 at HN
        go_wp2
        go_roundw
        case rel => exact ⟨j + 1, by omega, by go_num, by go_num, HN⟩
        case measure => simp [intOf]; omega
      · have e : j = n := by omega
        subst e
        have hsz := HI.out.only.size
        go_wp2
        go_ret
        exact ⟨rfl, .inr ⟨b, rfl, HI.out.only, by omega, HI.out.done⟩⟩
set_option maxHeartbeats 4000000 in
set_option maxRecDepth 100000 in
theorem held_ens (n : Nat) (a : Option Addr) (cap : Nat) (k0 : Int) (hk0 : 0 ≤ k0 ∧ k0 ≤ 100000000) (hn : n ≤ 10000000) (w : World) (h : Marks w a n k0) :
    Calls Try.prog 24 #[.slice a n cap, .int .i64 k0] w fun e w' => e = .returned (.int .i64 (k0 + n * 3)) ∧ w = w' := by
  rcases h with rfl | ⟨b, rfl, hb, hc⟩
  · go_enter Try.func24, Try.ntmps24
    go_wp2
    go_loop [1, 5] (fun k i => k = .int .i64 k0 ∧ i = .int .i64 (0 : Nat)) (fun _ _ => 0)
    case atStart => exact ⟨rfl, rfl⟩
    case round =>
      obtain ⟨rfl, rfl⟩ := hrel
      go_wp2
      go_ret
      exact ⟨ret_int (by simp), rfl⟩
  · have HC : Hid (∀ q, q < n * 3 → w.cell? ⟨b, q, none⟩ = some (.int .i64 (k0 + q))) := hc
    clear hc
    go_enter Try.func24, Try.ntmps24
    go_wp2
    go_loop [1, 5] (fun k i => ∃ j : Nat, j ≤ n ∧ k = .int .i64 (k0 + j * 3) ∧ i = .int .i64 j) (fun _ i => n - (intOf i).toNat)
    case atStart => exact ⟨0, Nat.zero_le _, by simp, rfl⟩
    case round =>
      obtain ⟨j, hj, rfl, rfl⟩ := hrel
      by_cases hlt : j < n
      · have h0 : w.cell? ⟨b, j * 3, none⟩ = some (.int .i64 (k0 + j * 3)) := by have := HC.out (j * 3) (by omega); rw [this]; congr 2
        have h1 : w.cell? ⟨b, j * 3 + 1, none⟩ = some (.int .i64 (k0 + j * 3 + 1)) := by have := HC.out (j * 3 + 1) (by omega); rw [this]; congr 2; push_cast; omega
        have h2 : w.cell? ⟨b, j * 3 + 2, none⟩ = some (.int .i64 (k0 + j * 3 + 1 + 1)) := by have := HC.out (j * 3 + 2) (by omega); rw [this]; congr 2; push_cast; omega
        go_wp2
        exact ⟨⟨j + 1, by omega, by go_num, by go_num⟩, by simp [intOf]; omega⟩
      · have e : j = n := by omega
        subst e
        go_wp2
        go_ret
        exact ⟨rfl, rfl⟩
set_option maxHeartbeats 2000000 in
set_option maxRecDepth 100000 in
theorem eq_out (xs : List En) (c : Int) (a1 a2 : Option Addr) (c1 c2 : Nat) (w : World) (h1 : EnsAt w a1 xs) (h2 : EnsAt w a2 xs) :
    Calls Try.prog 17 #[.agg #[.slice a1 xs.length c1, .int .i64 c], .agg #[.slice a2 xs.length c2, .int .i64 c]] w fun e w' => e = .returned (.bool true) ∧ Below w.heap.size w w' := by
  have HB : Hid (∀ o1 o2, Below w.heap.size w ((w.alloc o1).alloc o2)) := fun o1 o2 => ((Below.refl _ _).alloc (Nat.le_refl _) o1).alloc (by simp) o2
  have HQ := fun o1 o2 => eq_entries xs a1 a2 c1 c2 ((w.alloc o1).alloc o2) (h1.kept (HB.out o1 o2)) (h2.kept (HB.out o1 o2))
  clear h1 h2
  go_enter Try.func17, Try.ntmps17
  go_wp2_with fail
  refine (HQ _ _).mono ?_
  rintro e w1 ⟨rfl, hb1⟩
  obtain ⟨hc1, hf1⟩ := bcell hb1
  have HW1 : Hid (Below w.heap.size w w1) := (HB.out _ _).trans (hb1.mono (by simp; omega))
  clear hb1 HQ
  go_wp2
  go_ret
  exact ⟨rfl, HW1.out⟩
set_option maxHeartbeats 2000000 in
set_option maxRecDepth 100000 in
theorem mark_out (n : Nat) (c : Int) (a : Option Addr) (cap : Nat) (hn : n ≤ 10000000) (w : World) (h : Spot w a n) :
    Calls Try.prog 20 #[.agg #[.slice a n cap, .int .i64 c], .int .i64 1] w fun e w' => e = .returned (.int .i64 (1 + n * 3)) ∧ ∃ o, MarkPost (w.alloc o) a n 1 w' := by
  have HM := fun o => mark_ens n a cap 1 ⟨by omega, by omega⟩ hn (w.alloc o) (h.kept ((Below.refl _ _).alloc (Nat.le_refl _) _))
  clear h
  go_enter Try.func20, Try.ntmps20
  go_wp2_with fail
  refine (HM _).mono ?_
  rintro e w1 ⟨rfl, hm1⟩
  have H1 : Hid (∃ o, MarkPost (w.alloc o) a n 1 w1) := ⟨_, hm1⟩
  clear hm1 HM
  go_wp2
  go_ret
  exact ⟨rfl, H1.out⟩
set_option maxHeartbeats 2000000 in
set_option maxRecDepth 100000 in
theorem held_out (n : Nat) (c : Int) (a : Option Addr) (cap : Nat) (hn : n ≤ 10000000) (w : World) (h : Marks w a n 1) :
    Calls Try.prog 21 #[.agg #[.slice a n cap, .int .i64 c], .int .i64 1] w fun e w' => e = .returned (.int .i64 (1 + n * 3)) ∧ Below w.heap.size w w' := by
  have HM := fun o => held_ens n a cap 1 ⟨by omega, by omega⟩ hn (w.alloc o) (h.kept ((Below.refl _ _).alloc (Nat.le_refl _) _))
  have HB : Hid (∀ o, Below w.heap.size w (w.alloc o)) := fun o => (Below.refl _ _).alloc (Nat.le_refl _) o
  clear h
  go_enter Try.func21, Try.ntmps21
  go_wp2_with fail
  refine (HM _).mono ?_
  rintro e w1 ⟨rfl, rfl⟩
  clear HM
  go_wp2
  go_ret
  exact ⟨rfl, HB.out _⟩
end Go.Proofs.Ytkjcghejpdbeiaa
