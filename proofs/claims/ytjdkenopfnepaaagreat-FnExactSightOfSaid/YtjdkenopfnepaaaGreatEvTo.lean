/- What the laws do with an event: its size, a copy of it, and whether two are alike. -/
import Derived.Test.YtjdkenopfnepaaaGreatEvNums
import Derived.WalkSmall
namespace Go.Proofs.YtjdkenopfnepaaaGreat
open Go.RowKit

set_option maxHeartbeats 1000000 in
theorem to_nums (zs : List Int) (a : Option Addr) (cap : Nat) (w : World) (hn : NumsAt w a zs) :
    Calls Tryz.prog 137 #[.slice a zs.length cap] w fun e w' => ∃ a', e = .returned (.slice a' zs.length zs.length) ∧ NumsNew w.heap.size w' a' zs ∧ Below w.heap.size w w' := by
  obtain ⟨i0, hi, hz0, hz1, hz2⟩ := info_parts Tryz.info2
  have hl := hn.1
  have HN : Hid (NumsAt w a zs) := hn
  clear hn
  go_enter Tryz.func137, Tryz.ntmps137
  go_wp2_with (at_make; refine wpList_make_full _ rfl _ _ 41 rfl w.heap.size 2 i0 (.int .i64 0) 1 Tryz.underlying41 hi hz0 hz1 .i64 .i64 _ _ zs.length rfl rfl (by omega) (by omega) (by rw [hz2]; omega) (by unfold maxLen; omega) (Nat.le_refl _) ?_; intro w0 hown0 hgrow0)
  rw [made_nums] at hown0
  have hg0 : Hid (w0.heap[w.heap.size]? = some (.cells (copyRow zs 0).toArray 2 (0, 0))) := by
    rcases hown0.2 with ⟨h, _⟩ | ⟨g, c, cur, h, _, h2, _, _, h3, h4⟩
    · cases h
    · cases h
      rw [copyRow_zero, ← h4, List.take_of_length_le (by simp; omega)]
      exact h2
  have hb0 : Below w.heap.size w w0 := (Below.refl _ _).grown hgrow0 (Nat.le_refl _) (fun k h => by cases h)
  clear hown0 hgrow0
  go_wp2
  go_loopw [4] (fun i wr => ∃ k : Nat, k ≤ zs.length ∧ i = .int .i64 k ∧ Hid (wr.heap[w.heap.size]? = some (.cells (copyRow zs k).toArray 2 (0, 0))) ∧ Below w.heap.size w wr) (fun i _ => zs.length - (intOf i).toNat)
  case atStart => exact ⟨0, Nat.zero_le _, rfl, hg0, hb0⟩
  case round =>
    obtain ⟨k, hk, rfl, HG, hbw⟩ := hrel
    by_cases hlt : k < zs.length
    · obtain ⟨b, off, rfl, hbb, hcell⟩ := HN.out.2 (by omega)
      have hck : wr.cell? ⟨b, off + k, none⟩ = some (.int .i64 zs[k]) := (hbw.cell (p := ⟨b, off + k, none⟩) hbb).trans (hcell k hlt)
      have hc2 : ∃ u, wr.cell? ⟨w.heap.size, k, none⟩ = some u := ⟨(copyRow zs k)[k]'(by rw [copyRow_len _ _ hk]; exact hlt), by rw [cell_of_heap HG.out]; simp⟩
      obtain ⟨u, hu⟩ := hc2
      have hfz : wr.frozen? ⟨w.heap.size, k, none⟩ = false := frozen_of_heap HG.out
      clear hcell
      go_wp2
      go_roundw
      case rel =>
        refine ⟨k + 1, by omega, by go_num, ?_, hbw.setCell (Nat.le_refl _) _⟩
        unfold Hid
        rw [heap_set HG.out]
        simp [copyRow_next hlt]
      case measure => simp [intOf]; omega
    · have hE : k = zs.length := by omega
      have hg := HG.out
      rw [hE, copyRow_end] at hg
      have HF : Hid (wr.heap[w.heap.size]? = some (.cells (nv zs).toArray 2 (0, 0))) := hg
      clear hE hg
      go_wp2
      go_ret
      exact ⟨_, rfl, ⟨_, rfl, Nat.le_refl _, HF.out⟩, hbw⟩

set_option maxHeartbeats 1000000 in
theorem to_event (v : Ev) (a : Option Addr) (cap : Nat) (w : World) (hn : NumsAt w a v.prev) :
    Calls Tryz.prog 91 #[.agg #[.int .i64 v.id, .int .i64 v.room, .int .i64 v.author, .int .i64 v.kind, .int .i64 v.key, .int .i64 v.n, .string v.text, .slice a v.prev.length cap, .int .i64 v.time]] w fun e w' =>
      ∃ a', e = .returned (.agg #[.int .i64 v.id, .int .i64 v.room, .int .i64 v.author, .int .i64 v.kind, .int .i64 v.key, .int .i64 v.n, .string v.text, .slice a' v.prev.length v.prev.length, .int .i64 v.time]) ∧ NumsNew w.heap.size w' a' v.prev ∧ Below w.heap.size w w' := by
  have HN : Hid (∀ w', Below w.heap.size w w' → NumsAt w' a v.prev) := fun w' hb => hn.kept hb
  clear hn
  go_enter Tryz.func91, Tryz.ntmps91
  go_wp2_with fail
  refine (to_nums v.prev a cap _ (HN.out _ ?_)).mono ?_
  · exact (((Below.refl _ _).alloc (Nat.le_refl _) _).alloc (by simp) _).alloc (by simp; omega) _
  rintro e w1 ⟨a', rfl, hn1, hb1⟩
  obtain ⟨hc1, hf1⟩ := bcell hb1
  have hz1 : w.heap.size + 1 + 1 < w1.heap.size := by have := hb1.size; simp at this; omega
  have HW : Hid (NumsNew (w.heap.size + 1 + 1 + 1) w1 a' v.prev ∧ Below w.heap.size w w1) := ⟨by simpa using hn1, ((((Below.refl _ _).alloc (Nat.le_refl _) _).alloc (by simp) _).alloc (by simp; omega) _).trans (hb1.mono (by simp; omega))⟩
  clear hn1 hb1
  go_wp2
  refine bodyPost_ret (v := .agg #[.int .i64 v.id, .int .i64 v.room, .int .i64 v.author, .int .i64 v.kind, .int .i64 v.key, .int .i64 v.n, .string v.text, .slice a' v.prev.length v.prev.length, .int .i64 v.time]) (by simp [results, Tryz.results91, go_sem, hc1]) rfl ⟨a', rfl, ?_, ?_⟩
  · refine NumsNew.mono (base := w.heap.size + 1 + 1 + 1) ?_ (by omega)
    repeat refine NumsNew.set ?_ (by simp) _
    exact HW.out.1
  · repeat refine Below.setCell ?_ (by simp; try omega) _
    exact HW.out.2

set_option maxHeartbeats 1000000 in
theorem eq_nums (zs : List Int) (a1 a2 : Option Addr) (cap1 cap2 : Nat) (w : World) (h1 : NumsAt w a1 zs) (h2 : NumsAt w a2 zs) :
    Calls Tryz.prog 141 #[.slice a1 zs.length cap1, .slice a2 zs.length cap2] w fun e w' => e = .returned (.bool true) ∧ Below w.heap.size w w' := by
  have hl := h1.1
  have H1 : Hid (NumsAt w a1 zs) := h1
  have H2 : Hid (NumsAt w a2 zs) := h2
  clear h1 h2
  go_enter Tryz.func141, Tryz.ntmps141
  go_wp2
  go_loopw [5] (fun i wr => ∃ k : Nat, k ≤ zs.length ∧ i = .int .i64 k ∧ Below w.heap.size w wr) (fun i _ => zs.length - (intOf i).toNat)
  case atStart => exact ⟨0, Nat.zero_le _, rfl, Below.refl _ _⟩
  case round =>
    obtain ⟨k, hk, rfl, hbw⟩ := hrel
    by_cases hlt : k < zs.length
    · obtain ⟨b, off, rfl, hbb, hcell⟩ := H1.out.2 (by omega)
      obtain ⟨b2, off2, rfl, hbb2, hcell2⟩ := H2.out.2 (by omega)
      have hck : wr.cell? ⟨b, off + k, none⟩ = some (.int .i64 zs[k]) := (hbw.cell (p := ⟨b, off + k, none⟩) hbb).trans (hcell k hlt)
      have hck2 : wr.cell? ⟨b2, off2 + k, none⟩ = some (.int .i64 zs[k]) := (hbw.cell (p := ⟨b2, off2 + k, none⟩) hbb2).trans (hcell2 k hlt)
      have HQ : Hid (∀ n, Below w.heap.size w (wr.drewN n)) := fun n => below_drewN hbw n
      clear hcell hcell2
      go_wp2
      go_quiet (fail)
      go_wp2
      go_roundw
      case rel => exact ⟨k + 1, by omega, by go_num, HQ.out _⟩
      case measure => simp [intOf]; omega
    · go_wp2
      go_ret
      exact ⟨rfl, hbw⟩
set_option maxHeartbeats 1000000 in
theorem eq_event (v : Ev) (a1 a2 : Option Addr) (cap1 cap2 : Nat) (w : World) (h1 : NumsAt w a1 v.prev) (h2 : NumsAt w a2 v.prev) :
    Calls Tryz.prog 96 #[.agg #[.int .i64 v.id, .int .i64 v.room, .int .i64 v.author, .int .i64 v.kind, .int .i64 v.key, .int .i64 v.n, .string v.text, .slice a1 v.prev.length cap1, .int .i64 v.time], .agg #[.int .i64 v.id, .int .i64 v.room, .int .i64 v.author, .int .i64 v.kind, .int .i64 v.key, .int .i64 v.n, .string v.text, .slice a2 v.prev.length cap2, .int .i64 v.time]] w fun e w' => e = .returned (.bool true) ∧ Below w.heap.size w w' := by
  have H1 : Hid (∀ w', Below w.heap.size w w' → NumsAt w' a1 v.prev) := fun w' hb => h1.kept hb
  have H2 : Hid (∀ w', Below w.heap.size w w' → NumsAt w' a2 v.prev) := fun w' hb => h2.kept hb
  clear h1 h2
  go_enter Tryz.func96, Tryz.ntmps96
  go_wp2_with fail
  have hB : ∀ o1 o2, Below w.heap.size w ((w.alloc o1).alloc o2) := fun o1 o2 => ((Below.refl _ _).alloc (Nat.le_refl _) _).alloc (by simp) _
  refine (eq_nums v.prev a1 a2 cap1 cap2 _ (H1.out _ (hB _ _)) (H2.out _ (hB _ _))).mono ?_
  rintro e w1 ⟨rfl, hb1⟩
  obtain ⟨hc1, hf1⟩ := bcell hb1
  have HW : Hid (Below w.heap.size w w1) := (hB _ _).trans (hb1.mono (by simp; omega))
  clear hb1 hB
  go_wp2
  go_ret
  exact ⟨rfl, HW.out⟩

set_option maxHeartbeats 400000 in
theorem sz_event (v : Ev) (a : Option Addr) (cap : Nat) (left : Int) (w : World) (h0 : 0 ≤ left) (h1 : left ≤ 1048576) (ht : v.text.size ≤ maxLen) (hp : v.prev.length ≤ maxLen) :
    Calls Tryz.prog 88 #[.agg #[.int .i64 v.id, .int .i64 v.room, .int .i64 v.author, .int .i64 v.kind, .int .i64 v.key, .int .i64 v.n, .string v.text, .slice a v.prev.length cap, .int .i64 v.time], .int .i64 left] w fun e w' =>
      e = .returned (.int .i64 (if (v.text.size : Int) + v.prev.length ≤ left then left - v.text.size - v.prev.length else -1)) ∧ Below w.heap.size w w' := by
  unfold maxLen at ht hp
  by_cases c1 : (v.text.size : Int) ≤ left
  · by_cases c2 : (v.text.size : Int) + v.prev.length ≤ left
    · rw [if_pos c2]
      go_enter Tryz.func88, Tryz.ntmps88
      go_wp2
      go_ret
      exact ⟨rfl, (Below.refl _ _).alloc (Nat.le_refl _) _⟩
    · rw [if_neg c2]
      go_enter Tryz.func88, Tryz.ntmps88
      go_wp2
      go_ret
      exact ⟨rfl, (Below.refl _ _).alloc (Nat.le_refl _) _⟩
  · rw [if_neg (by omega)]
    go_enter Tryz.func88, Tryz.ntmps88
    go_wp2
    go_ret
    exact ⟨rfl, (Below.refl _ _).alloc (Nat.le_refl _) _⟩
end Go.Proofs.YtjdkenopfnepaaaGreat
