/- The Ids of a chart, sorted by their depths. SortOf of the program. -/
import Derived.Test.YtobkinocaomcmaaGreatZSsKeys
import Derived.Laws.EntriesVeiled
namespace Go.Proofs.YtobkinocaomcmaaGreat
open Go.RowKit

/-- A row of numbers in a block of its own, from base on. -/
def OwnN (w : World) (base : Nat) (v : Value) (zs : List Int) : Prop :=
  ∃ a c, v = .slice a zs.length c ∧ (zs.length = 0 ∨ ∃ g, a = some ⟨g, 0, none⟩ ∧ base ≤ g ∧ g < w.heap.size ∧ (∀ j (h : j < zs.length), w.cell? ⟨g, j, none⟩ = some (.int .i64 zs[j])) ∧ ∀ q, w.frozen? ⟨g, q, none⟩ = false)
set_option maxHeartbeats 2000000 in
set_option maxRecDepth 100000 in
theorem insertion_none (cap : Nat) (f : Value) (p : Option Addr) (W : World) :
    Calls Tryz.prog 139 #[.slice p 0 cap, .int .i64 0, .int .i64 0, f] W fun e w' => e = .returned (.tuple #[]) ∧ w' = W := by
  go_enter Tryz.func139, Tryz.ntmps139
  go_wp2
  go_loopw [8] (fun ii wr => ii = .int .i64 1 ∧ Hid (wr = W)) (fun _ _ => 0)
  case atStart => exact ⟨rfl, (rfl : W = W)⟩
  case round =>
    obtain ⟨rfl, HW⟩ := hrel
    go_wp2
    go_end0
    exact ⟨rfl, HW.out⟩
set_option maxHeartbeats 2000000 in
set_option maxRecDepth 100000 in
theorem stable_none (cap : Nat) (f : Value) (p : Option Addr) (W : World) :
    Calls Tryz.prog 130 #[.slice p 0 cap, .int .i64 0, f] W fun e w' => e = .returned (.tuple #[]) ∧ w' = W := by
  go_enter Tryz.func130, Tryz.ntmps130
  go_wp2
  go_loopw [7, 8] (fun aa bb wr => aa = .int .i64 0 ∧ bb = .int .i64 20 ∧ Hid (wr = W)) (fun _ _ _ => 0)
  case atStart => exact ⟨rfl, rfl, (rfl : W = W)⟩
  case round =>
    obtain ⟨rfl, rfl, HW⟩ := hrel
    go_wp2_with fail
    refine (insertion_none cap f p _).mono ?_
    rintro e w2 ⟨rfl, rfl⟩
    go_wp2
    go_loopw [6] (fun ss wq => ss = .int .i64 20 ∧ Hid (wq = W)) (fun _ _ => 0)
    case atStart => exact ⟨rfl, HW.out⟩
    case round =>
      obtain ⟨rfl, HQ⟩ := hrel
      go_wp2
      go_end0
      exact ⟨rfl, HQ.out⟩
variable {W0 : World} {g n Bd bt nt : Nat} {l : List (Int × Int)} {d : Nat → Int}
set_option maxHeartbeats 2000000 in
set_option maxRecDepth 100000 in
theorem stable_func (cap : Nat) (W : World) (h : Sv W0 g n Bd bt nt l d W) (hn : n ≤ 60) (hr : ∀ i j, i < j → j < n → d i < d j) :
    Calls Tryz.prog 104 #[.slice (some ⟨g, 0, none⟩) n cap, cmpFn Bd] W fun e w' => e = .returned (.tuple #[]) ∧ ∃ d', Sv W0 g n Bd bt nt l d' w' ∧ SDone (dpL l) n d d' := by
  have HC := stable_row cap W h hn hr
  clear h hr
  go_enter Tryz.func104, Tryz.ntmps104
  go_wp2_with fail
  refine HC.mono ?_
  rintro e w2 ⟨rfl, d', hs⟩
  have HS : Hid (∃ d', Sv W0 g n Bd bt nt l d' w2 ∧ SDone (dpL l) n d d') := ⟨d', hs⟩
  clear hs HC
  go_wp2
  go_end0
  exact ⟨rfl, HS.out⟩
set_option maxHeartbeats 2000000 in
set_option maxRecDepth 100000 in
theorem stable_func0 (cap : Nat) (f : Value) (p : Option Addr) (W : World) :
    Calls Tryz.prog 104 #[.slice p 0 cap, f] W fun e w' => e = .returned (.tuple #[]) ∧ w' = W := by
  have HC := stable_none cap f p W
  go_enter Tryz.func104, Tryz.ntmps104
  go_wp2_with fail
  refine HC.mono ?_
  rintro e w2 ⟨rfl, rfl⟩
  go_wp2
  go_end0
  exact ⟨rfl, rfl⟩
/-- Both: an empty row, or one with a block of its own. -/
theorem stable_both (gr : Gr) (Bd bt : Nat) (l : List (Int × Int)) (a : Option Addr) (c base : Nat) (W : World) (hr : rightG gr = true) (hd : Done (pvOf gr.evs) (idsOf gr.evs) l) (hin : ∀ m ∈ gr.evs, 1 ≤ m.v.id ∧ m.v.id ≤ 1000000)
    (hrow : W.ownsRow base 2 1 (.slice a gr.evs.length c) gr.evs.length (nv (idsOf gr.evs))) (hv : W.heap[Bd]? = some (.cells #[.map (some bt)] 89 (0, 0))) (ht : W.ownsMap Tryz.prog 2 heldR bt nt (putL l)) (hbz : base ≤ W.heap.size) :
    Calls Tryz.prog 104 #[.slice a gr.evs.length c, cmpFn Bd] W fun e w' => e = .returned (.tuple #[]) ∧ OwnN w' base (.slice a gr.evs.length c) (srtG gr) ∧ Below base W w' := by
  have hlen := srtG_len hr
  by_cases h0 : gr.evs.length = 0
  · have hC := stable_func0 c (cmpFn Bd) a W
    rw [h0]
    rw [h0] at hlen
    refine hC.mono ?_
    rintro e w' ⟨rfl, rfl⟩
    exact ⟨rfl, ⟨a, c, by rw [hlen], .inl hlen⟩, ⟨rfl, rfl, rfl, Nat.le_refl _, fun _ _ => rfl⟩⟩
  · rcases hrow.2 with ⟨_, h1⟩ | ⟨q, cp, cur, hv1, hb, hg, hle, _, hsz, htk⟩
    · exact absurd h1 h0
    · cases hv1
      have hid : (idsOf gr.evs).length = gr.evs.length := by simp [idsOf]
      have hcell : ∀ j, j < gr.evs.length → W.cell? ⟨q, j, none⟩ = some (.int .i64 ((idsOf gr.evs).getD j 0)) := fun j hj => by
        have hj' : j < (idsOf gr.evs).length := by omega
        rw [cell_of_heap hg, ← Array.getElem?_toList]
        have e1 : (cur.toList.take (gr.evs.length * 1))[j]? = (nv (idsOf gr.evs))[j]? := by rw [htk]
        rw [List.getElem?_take_of_lt (by omega)] at e1
        rw [e1]
        simp [nv, hj', List.getD_eq_getElem?_getD]
      have hne1 : Bd ≠ q := by
        rintro rfl
        rw [hv] at hg
        simp at hg
      have hne2 : bt ≠ q := fun e => (map_ne_cells ht hg) e.symm
      have hrng : ∀ j, j < gr.evs.length → -9223372036854775808 ≤ (idsOf gr.evs).getD j 0 ∧ (idsOf gr.evs).getD j 0 ≤ 9223372036854775807 := fun j hj => by
        have := hin gr.evs[j] (List.getElem_mem hj)
        simp only [idsOf, List.getD_eq_getElem?_getD, List.getElem?_map, List.getElem?_eq_getElem hj, Option.map_some, Option.getD_some]
        omega
      have hS : Sv W q gr.evs.length Bd bt nt l (fun j => (idsOf gr.evs).getD j 0) W := ⟨rfl, rfl, rfl, Nat.le_refl _, fun _ _ _ => rfl, (Array.getElem?_eq_some_iff.1 hg).1, hcell, fun o => frozen_of_heap hg, hv, ht, hrng, hne1, hne2⟩
      have hri : ∀ i j, i < j → j < gr.evs.length → (idsOf gr.evs).getD i 0 < (idsOf gr.evs).getD j 0 := fun i j h1 h2 => by
        have h3 := List.pairwise_iff_getElem.1 (row_rises (right_evs hr).1) i j (by omega) (by omega) h1
        simpa [List.getD_eq_getElem?_getD, show i < (idsOf gr.evs).length by omega, show j < (idsOf gr.evs).length by omega] using h3
      refine (stable_func c W hS (rowB_len (right_evs hr).1) hri).mono ?_
      rintro e w' ⟨rfl, d', hs, hdn⟩
      have hL := sdone_srt hr hd hdn
      refine ⟨rfl, ⟨_, c, by rw [hlen], .inr ⟨q, rfl, hb, hs.lt, fun j hj => ?_, hs.froz⟩⟩, ⟨hs.os, hs.tape, hs.output, hs.size, fun k hk => ?_⟩⟩
      · have hj' : j < gr.evs.length := by omega
        rw [hs.cell j hj']
        congr 2
        have : (srtG gr)[j]? = some (d' j) := by rw [← hL]; simp [hj']
        rw [List.getElem?_eq_getElem hj] at this
        exact (Option.some.inj this).symm
      · rcases Nat.lt_or_ge k W.heap.size with c1 | c1
        · exact hs.keep k c1 (by omega)
        · omega
end Go.Proofs.YtobkinocaomcmaaGreat
namespace Go.Proofs.YtobkinocaomcmaaGreat
open Go.RowKit

theorem OwnN.kept {w w' : World} {base : Nat} {v : Value} {zs : List Int} (h : OwnN w base v zs) (hb : Below w.heap.size w w') : OwnN w' base v zs := by
  obtain ⟨a, c, hv, h1⟩ := h
  refine ⟨a, c, hv, ?_⟩
  rcases h1 with h0 | ⟨g, ha, hbg, hlt, hc, hf⟩
  · exact .inl h0
  · exact .inr ⟨g, ha, hbg, Nat.lt_of_lt_of_le hlt hb.size, fun j hj => (hb.cell (p := ⟨g, j, none⟩) hlt).trans (hc j hj), fun q => (hb.frozen (p := ⟨g, q, none⟩) hlt).trans (hf q)⟩
theorem OwnN.low {w : World} {base base2 : Nat} {v : Value} {zs : List Int} (h : OwnN w base v zs) (hb : base2 ≤ base) : OwnN w base2 v zs := by
  obtain ⟨a, c, hv, h1⟩ := h
  refine ⟨a, c, hv, ?_⟩
  rcases h1 with h0 | ⟨g, ha, hbg, r⟩
  · exact .inl h0
  · exact .inr ⟨g, ha, Nat.le_trans hb hbg, r⟩
theorem OwnN.nil (w : World) (base : Nat) : OwnN w base (.slice none 0 0) [] := ⟨none, 0, rfl, .inl rfl⟩
theorem OwnN.at {w : World} {base n c : Nat} {a : Option Addr} {zs : List Int} (h : OwnN w base (.slice a n c) zs) (hl : zs.length ≤ 1048576) : NumsAt w a zs := by
  obtain ⟨a', c', hv, h1⟩ := h
  cases hv
  refine ⟨hl, fun hp => ?_⟩
  rcases h1 with h0 | ⟨g, ha, _, hlt, hc, _⟩
  · omega
  · exact ⟨g, 0, ha, hlt, fun j hj => by rw [Nat.zero_add]; exact hc j hj⟩
theorem right_ids {gr : Gr} (hr : rightG gr = true) : ∀ m ∈ gr.evs, 1 ≤ m.v.id ∧ m.v.id ≤ 1000000 := fun _ hm => (right_in (rowB_each (right_evs hr).1 hm).1).1
set_option maxHeartbeats 4000000 in
set_option maxRecDepth 100000 in
theorem sorted_impl (gr : Gr) (bc be bp bt : Nat) (l : List (Int × Int)) (w0 W : World) (hr : rightG gr = true) (h : Chart w0 gr bc be bp bt l W) :
    Calls Tryz.prog 59 #[.pointer (some ⟨bc, 0, none⟩)] W fun e w' => ∃ v, e = .returned v ∧ OwnN w' W.heap.size v (srtG gr) ∧ Below W.heap.size W w' := by
  have HT : Hid (∀ V, Below W.heap.size W V → V.ownsMap Tryz.prog 2 heldR bt l.length (putL l)) := fun V hb => ownsMap_below h.tab hb
  have HD : Hid (Done (pvOf gr.evs) (idsOf gr.evs) l) := h.done
  have HR : Hid (rightG gr = true) := hr
  have HTA := table_again be bp bc bt W h.ch
  have hmf : ∀ (fn : Fn) (first cap : Array Value) (w : World), (Instr.makeFunc fn first cap).run Tryz.prog w = .ok (.func fn first cap) w := fun _ _ _ _ => rfl
  clear h hr
  go_enter Tryz.func59, Tryz.ntmps59
  go_wp2_with fail
  refine HTA.mono ?_
  rintro e w1 ⟨rfl, hb1⟩
  have HB1 : Hid (Below W.heap.size W w1) := hb1
  have HK2 := keys_callT (some bt) (w1.alloc (.cells #[.map (some bt)] 89))
  have HB1o : Hid (Below W.heap.size W (w1.alloc (.cells #[.map (some bt)] 89))) := hb1.alloc hb1.size _
  have HS2 := sorted_ids bt l.length l gr HR.out (w1.alloc (.cells #[.map (some bt)] 89)) (HT.out _ HB1o.out) HD.out
  have hz1 : W.heap.size ≤ w1.heap.size := hb1.size
  have HV1 : Hid ((w1.alloc (.cells #[.map (some bt)] 89)).heap[w1.heap.size]? = some (.cells #[.map (some bt)] 89 (0, 0))) := (MapKept.heap_alloc w1 _).1
  have hsz : (w1.alloc (.cells #[.map (some bt)] 89)).heap.size = w1.heap.size + 1 := by simp
  rw [hsz] at HK2 HS2
  clear hb1 HTA
  go_wp2_with fail
  refine HK2.mono ?_
  rintro e w2 ⟨rfl, rfl⟩
  go_wp2_with fail
  refine HS2.mono ?_
  rintro e w3 ⟨a, c, rfl, hrow, hb3⟩
  have hz3 : w1.heap.size + 2 ≤ w3.heap.size := by have := hb3.size; simp at this; omega
  have HB3 : Hid (Below W.heap.size W w3) := (HB1o.out.alloc (by simp; omega) _).trans (hb3.mono (by omega))
  have hv3 : w3.heap[w1.heap.size]? = some (.cells #[.map (some bt)] 89 (0, 0)) := (hb3.block _ (by omega)).trans ((Below.heap_alloc _ _ _ (by simp)).trans HV1.out)
  have HC3 := stable_both gr w1.heap.size bt l a c W.heap.size w3 HR.out HD.out (right_ids HR.out) ⟨hrow.1, by rcases hrow.2 with q | ⟨q, q1, q2, q3, q4, q5⟩; exact .inl q; exact .inr ⟨q, q1, q2, q3, by omega, q5⟩⟩ hv3 (HT.out _ HB3.out) HB3.out.size
  clear hrow hb3 HS2 HK2 hv3
  go_wp2_with fail
  refine HC3.mono ?_
  rintro e w4 ⟨rfl, hown, hb4⟩
  have HF : Hid (OwnN w4 W.heap.size (.slice a gr.evs.length c) (srtG gr) ∧ Below W.heap.size W w4) := ⟨hown, HB3.out.trans hb4⟩
  clear hown hb4 HC3
  go_wp2
  go_ret
  exact ⟨_, rfl, HF.out.1, HF.out.2⟩
set_option maxHeartbeats 4000000 in
set_option maxRecDepth 100000 in
theorem sortOf_impl (g : Gr) (a : Option Addr) (cap : Nat) (p : Option Addr) (cp : Nat) (w : World) (h : EvsAt w a g.evs) (h2 : EvsAt w p g.pk) :
    Calls Tryz.prog 20 #[.agg #[.int .i64 g.room, .slice a g.evs.length cap, .slice p g.pk.length cp]] w fun e w' => ∃ v, e = .returned v ∧ OwnN w' w.heap.size v (srtG g) ∧ Below w.heap.size w w' := by
  have HB : Hid (∀ o, Below w.heap.size w (w.alloc o)) := fun o => (Below.refl _ _).alloc (Nat.le_refl _) o
  have HC := fun o => chart_impl g a cap p cp (w.alloc o) (h.kept (HB.out o)) (h2.kept (HB.out o))
  clear h h2
  cases hr : rightG g
  · have HS : Hid (srtG g = []) := srtG_bad hr
    rw [HS.out]
    go_enter Tryz.func20, Tryz.ntmps20
    go_wp2_with fail
    refine (HC _).mono ?_
    rintro e w1 (⟨_, rfl, hb1⟩ | ⟨h1, _⟩)
    · have HW : Hid (Below w.heap.size w w1) := (HB.out _).trans (hb1.mono (by simp))
      clear hb1
      go_wp2
      go_ret
      exact ⟨_, rfl, OwnN.nil _ _, HW.out⟩
    · rw [hr] at h1
      cases h1
  · have HR : Hid (rightG g = true) := hr
    go_enter Tryz.func20, Tryz.ntmps20
    go_wp2_with fail
    refine (HC _).mono ?_
    rintro e w1 (⟨h1, _⟩ | ⟨_, bc, be, bp, bt, l, rfl, hch⟩)
    · rw [hr] at h1
      cases h1
    · have HW : Hid (Below w.heap.size w w1) := (HB.out _).trans (hch.below.mono (by simp))
      have HSI := sorted_impl g bc be bp bt l _ w1 HR.out hch
      clear hch
      go_wp2_with fail
      refine HSI.mono ?_
      rintro e w2 ⟨v, rfl, hrow, hb2⟩
      have H2 : Hid (OwnN w2 w.heap.size v (srtG g) ∧ Below w.heap.size w w2) := ⟨hrow.low HW.out.size, HW.out.trans (hb2.mono HW.out.size)⟩
      clear hrow hb2
      go_wp2
      go_ret
      exact ⟨v, rfl, H2.out.1, H2.out.2⟩
end Go.Proofs.YtobkinocaomcmaaGreat
