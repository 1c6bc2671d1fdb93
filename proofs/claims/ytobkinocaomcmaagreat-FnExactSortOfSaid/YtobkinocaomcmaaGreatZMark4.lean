/- Marks in graphs. -/
import Derived.Test.YtobkinocaomcmaaGreatZMark3
namespace Go.Proofs.YtobkinocaomcmaaGreat
open Go.RowKit

theorem wt_same {es fs : List Em} (h : es.map (·.v) = fs.map (·.v)) : wt es = wt fs := by
  have hl : es.length = fs.length := by have := congrArg List.length h; simpa using this
  have key : ∀ l : List Em, wtL l = ((l.map (·.v)).map fun v => v.text.size + v.prev.length).sum := fun l => by
    unfold wtL
    rw [List.map_map]
    rfl
  unfold wt
  rw [hl, key, key, h]
theorem NumsNew.wr {base lo hi : Nat} {W W' : World} {a : Option Addr} {zs : List Int} (h : NumsNew base W a zs) (hw : Wr lo hi W W') (hb : hi ≤ base) : NumsNew base W' a zs := by
  obtain ⟨b, ha, hg, hh⟩ := h
  exact ⟨b, ha, hg, (hw.block b (Array.getElem?_eq_some_iff.1 hh).1 (by omega)).trans hh⟩
theorem EvsFresh.wr {base lo hi : Nat} {W W' : World} {a : Option Addr} {es : List Em} (h : EvsFresh base W a es) (hw : Wr lo hi W W') (hb : hi ≤ base) : EvsFresh base W' a es := by
  obtain ⟨b, ha, h1, h2, ⟨C, h4, h5⟩, hc⟩ := h.row
  exact ⟨h.len, ⟨b, ha, h1, Nat.lt_of_lt_of_le h2 hw.size, ⟨C, (hw.block b h2 (by omega)).trans h4, h5⟩, fun i hi j hj => (hw.cell (b := b) (q := i * 9 + j) h2 (by omega)).trans (hc i hi j hj)⟩, fun m hm => ⟨(h.nums m hm).1.wr hw hb, (h.nums m hm).2⟩⟩
set_option maxHeartbeats 4000000 in
set_option maxRecDepth 100000 in
theorem mark_graphB (w W Wc : World) (g g' : Gr) (a p : Option Addr) (c1 c2 : Nat) (r : Int) (hn : GrNew w g g' a p W) (hb : Below W.heap.size W Wc) (hw : wt g'.evs + wt g'.pk ≤ 1048576) :
    Calls Tryz.prog 15 #[.agg #[.int .i64 r, .slice a g'.evs.length c1, .slice p g'.pk.length c2], .int .i64 1] Wc fun e W' => ∃ K : Nat, e = .returned (.int .i64 K) ∧ 0 < K ∧ K ≤ 10000000 ∧ Wr w.heap.size W.heap.size Wc W' := by
  obtain ⟨mid, hmu, hmf⟩ := hn.apart
  have hml : mid ≤ W.heap.size := by
    obtain ⟨b, _, h1, h2, _⟩ := hmf.row
    omega
  have hwm : w.heap.size ≤ mid := by
    obtain ⟨b, hb1, h1, _, _⟩ := hn.evs.row.row
    have := hmu.1 _ hb1
    simp at this
    omega
  have HA : Hid (∀ o, Below W.heap.size W (Wc.alloc o)) := fun o => hb.alloc hb.size o
  have HF : Hid (∀ V, Below W.heap.size W V → EvsFresh w.heap.size V a g'.evs ∧ EvsFresh mid V p g'.pk) := fun V hV => ⟨hn.evs.row.kept hV, hmf.kept hV⟩
  have HU : Hid (EvsUnder mid a g'.evs ∧ EvsUnder W.heap.size p g'.pk) := ⟨hmu, hmf.under⟩
  have HZ : Hid (Wc.heap.size ≥ W.heap.size) := hb.size
  clear hn hb hmu hmf
  go_enter Tryz.func15, Tryz.ntmps15
  go_wp2_with fail
  refine (mark_events w.heap.size mid g'.evs a c1 1 _ (HF.out _ (HA.out _)).1 HU.out.1 (by omega) (by omega) (by omega)).mono ?_
  rintro e w1 ⟨K1, rfl, hK0, hK1, hw1⟩
  have hzc : mid ≤ Wc.heap.size := Nat.le_trans hml HZ.out
  have hc2 : w1.cell? ⟨Wc.heap.size, 2, none⟩ = some (.slice p g'.pk.length c2) := by
    rw [hw1.cell (b := Wc.heap.size) (by simp) (.inr hzc)]
    simp [go_sem]
  have HP : Hid (EvsFresh mid w1 p g'.pk) := (HF.out _ (HA.out _)).2.wr hw1 (Nat.le_refl _)
  have HW1 : Hid (Wr w.heap.size W.heap.size Wc w1) := by
    have h1 : Wr w.heap.size W.heap.size Wc (Wc.alloc (.cells #[.int .i64 r, .slice a g'.evs.length c1, .slice p g'.pk.length c2] 32)) := Wr.below ((Below.refl _ _).alloc (Nat.le_refl _) _)
    exact h1.trans (hw1.mono (Nat.le_refl _) hml)
  clear hw1
  go_wp2_with fail
  refine (mark_events mid W.heap.size g'.pk p c2 K1 _ HP.out HU.out.2 (by omega) hK0 (by omega)).mono ?_
  rintro e w2 ⟨K2, rfl, hK2, hK3, hw2⟩
  have hK4 : K2 ≤ 10000000 := by omega
  have HW2 : Hid (Wr w.heap.size W.heap.size Wc w2) := HW1.out.trans (hw2.mono hwm (Nat.le_refl _))
  clear hw2
  go_wp2
  go_ret
  exact ⟨K2, rfl, hK2, hK4, HW2.out⟩
theorem mark_graph (w W Wc : World) (g g' : Gr) (a p : Option Addr) (c1 c2 : Nat) (r : Int) (hn : GrNew w g g' a p W) (hb : Below W.heap.size W Wc) (hw : wt g'.evs + wt g'.pk ≤ 1048576) :
    Calls Tryz.prog 15 #[.agg #[.int .i64 r, .slice a g'.evs.length c1, .slice p g'.pk.length c2], .int .i64 1] Wc fun e W' => ∃ K : Nat, e = .returned (.int .i64 K) ∧ 0 < K ∧ Wr w.heap.size W.heap.size Wc W' :=
  (mark_graphB w W Wc g g' a p c1 c2 r hn hb hw).mono fun _ _ ⟨K, h1, h2, _, h3⟩ => ⟨K, h1, h2, h3⟩
end Go.Proofs.YtobkinocaomcmaaGreat
