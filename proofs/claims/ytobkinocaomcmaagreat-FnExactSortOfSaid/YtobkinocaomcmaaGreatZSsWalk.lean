/- The law on SortOf walked. -/
import Derived.Test.YtobkinocaomcmaaGreatZSsOf
import Derived.Test.YtobkinocaomcmaaGreatZSsSpec
import Derived.Test.YtobkinocaomcmaaGreatZMtInts
import Derived.Test.YtobkinocaomcmaaGreatZMark4
import Derived.Test.YtobkinocaomcmaaGreatZGrOpen
import Derived.Deep.DeepCutAuto
namespace Go.Proofs.YtobkinocaomcmaaGreat
open Go.RowKit

def RowSPost (w : World) (L : List Int) (e : Ending) (w' : World) : Prop := ∃ v, e = .returned v ∧ OwnN w' w.heap.size v L ∧ Below w.heap.size w w'
theorem NumsOwn.ownN {w : World} {base : Nat} {v : Value} {zs : List Int} (h : NumsOwn w base v zs) (hl : zs.length ≤ 1048576) : OwnN w base v zs := by
  rcases h.2 with ⟨rfl, h0⟩ | ⟨g, cap, cur, rfl, hb, hg, hle, _, hsz, ht⟩
  · exact ⟨none, 0, by rw [h0], .inl h0⟩
  · obtain ⟨a', c', hv, _, hat, _⟩ := h.at hl
    cases hv
    refine ⟨_, cap, rfl, ?_⟩
    by_cases h0 : zs.length = 0
    · exact .inl h0
    · obtain ⟨b, off, ha, hlt, hc⟩ := hat.2 (by omega)
      cases ha
      exact .inr ⟨g, rfl, hb, hlt, fun j hj => by have := hc j hj; rwa [Nat.zero_add] at this, fun q => frozen_of_heap hg⟩
theorem srtG_same {g h : Gr} (hr : g.room = h.room) (he : g.evs.map (·.v) = h.evs.map (·.v)) (hp : g.pk.map (·.v) = h.pk.map (·.v)) : srtG g = srtG h := by
  have ei : idsOf g.evs = idsOf h.evs := by rw [idsOf_v, idsOf_v, he]
  have ep : pvOf g.evs = pvOf h.evs := funext fun id => by rw [pvOf_v, pvOf_v, he]
  have ed : dpG g = dpG h := funext fun id => by unfold dpG; rw [ei, ep]
  unfold srtG
  rw [rightG_same hr he hp, ei, ed]
theorem srtG_len80 (g : Gr) : (srtG g).length ≤ 80 := by
  cases hr : rightG g
  · rw [srtG_bad hr]
    simp
  · rw [srtG_len hr]
    have := rowB_len (right_evs hr).1
    omega
theorem OwnN.spot {w : World} {base n c : Nat} {a : Option Addr} {zs : List Int} (h : OwnN w base (.slice a n c) zs) : SpotI w a zs.length := by
  obtain ⟨a', c', hv, h1⟩ := h
  cases hv
  rcases h1 with h0 | ⟨g, ha, _, hlt, hcell, hf⟩
  · exact .inl h0
  · exact .inr ⟨g, ha, hlt, fun q hq => ⟨_, hcell q hq⟩, hf⟩
set_option maxHeartbeats 4000000 in
set_option maxRecDepth 100000 in
theorem mark_intsS (n : Nat) (a : Option Addr) (cap : Nat) (hn : n ≤ 10000000) (w : World) (h : SpotI w a n) :
    Calls Tryz.prog 22 #[.slice a n cap, .int .i64 1] w fun e w' => e = .returned (.int .i64 (1 + n)) ∧ MarkPostI w a n 1 w' := by
  rcases h with rfl | ⟨b, rfl, hb, hc, hf⟩
  · go_enter Tryz.func22, Tryz.ntmps22
    go_wp2
    go_loopw [1, 5] (fun k i wr => k = .int .i64 1 ∧ i = .int .i64 (0 : Nat) ∧ Hid (wr = w)) (fun _ _ _ => 0)
    case atStart => exact ⟨rfl, rfl, (rfl : w = w)⟩
    case round =>
      obtain ⟨rfl, rfl, HW⟩ := hrel
      go_wp2
      go_ret
      exact ⟨ret_int (by simp), .inl ⟨rfl, HW.out⟩⟩
  · have HF : Hid (∀ q, w.frozen? ⟨b, q, none⟩ = false) := hf
    have HC : Hid (∀ q, q < n → ∃ u, w.cell? ⟨b, q, none⟩ = some u) := hc
    clear hf hc
    go_enter Tryz.func22, Tryz.ntmps22
    go_wp2
    go_loopw [1, 5] (fun k i wr => ∃ j : Nat, j ≤ n ∧ k = .int .i64 (1 + j) ∧ i = .int .i64 j ∧ Hid (MkI w b n 1 j wr)) (fun _ i _ => n - (intOf i).toNat)
    case atStart => exact ⟨0, Nat.zero_le _, by simp, rfl, OnlyI.refl _ _, fun _ h => absurd h (by omega), HC.out⟩
    case round =>
      obtain ⟨j, hj, rfl, rfl, HI⟩ := hrel
      by_cases hlt : j < n
      · obtain ⟨u0, h0⟩ := HI.out.rest j hlt
        have hfr : ∀ q, wr.frozen? ⟨b, q, none⟩ = false := fun q => (HI.out.only.froz q).trans (HF.out q)
        have HN : Hid (MkI w b n 1 (j + 1) (wr.setCell ⟨b, j, none⟩ (.int .i64 (1 + j)))) := HI.out.next hlt
        go_wp2
        go_roundw
        case rel => exact ⟨j + 1, by omega, by go_num, by go_num, HN⟩
        case measure => simp [intOf]; omega
      · have e : j = n := by omega
        subst e
        have hsz := HI.out.only.size
        go_wp2
        go_ret
        exact ⟨rfl, .inr ⟨b, rfl, HI.out.only, by omega, HI.out.done⟩⟩
set_option maxHeartbeats 4000000 in
set_option maxRecDepth 100000 in
theorem held_intsS (n : Nat) (a : Option Addr) (cap : Nat) (hn : n ≤ 10000000) (w : World) (h : MarksI w a n 1) :
    Calls Tryz.prog 23 #[.slice a n cap, .int .i64 1] w fun e w' => e = .returned (.int .i64 (1 + n)) ∧ w = w' := by
  rcases h with rfl | ⟨b, rfl, hb, hc⟩
  · go_enter Tryz.func23, Tryz.ntmps23
    go_wp2
    go_loop [1, 5] (fun k i => k = .int .i64 1 ∧ i = .int .i64 (0 : Nat)) (fun _ _ => 0)
    case atStart => exact ⟨rfl, rfl⟩
    case round =>
      obtain ⟨rfl, rfl⟩ := hrel
      go_wp2
      go_ret
      exact ⟨ret_int (by simp), rfl⟩
  · have HC : Hid (∀ q, q < n → w.cell? ⟨b, q, none⟩ = some (.int .i64 (1 + q))) := hc
    clear hc
    go_enter Tryz.func23, Tryz.ntmps23
    go_wp2
    go_loop [1, 5] (fun k i => ∃ j : Nat, j ≤ n ∧ k = .int .i64 (1 + j) ∧ i = .int .i64 j) (fun _ i => n - (intOf i).toNat)
    case atStart => exact ⟨0, Nat.zero_le _, by simp, rfl⟩
    case round =>
      obtain ⟨j, hj, rfl, rfl⟩ := hrel
      by_cases hlt : j < n
      · have h0 : w.cell? ⟨b, j, none⟩ = some (.int .i64 (1 + j)) := HC.out j hlt
        go_wp2
        exact ⟨⟨j + 1, by omega, by go_num, by go_num⟩, by simp [intOf]; omega⟩
      · have e : j = n := by omega
        subst e
        go_wp2
        go_ret
        exact ⟨rfl, rfl⟩
/-- What the law holds: its graph, its copy, and the specification's row. -/
structure LMS (w : World) (g : Gr) (a : Option Addr) (cap : Nat) (p : Option Addr) (cp : Nat) (L : List Int) (B5 : Nat) (a4 p4 : Option Addr) (q4 : Option Addr) (c4 : Nat) (V : World) : Prop where
  b0 : V.heap[w.heap.size]? = some (.cells #[.int .i64 g.room, .slice a g.evs.length cap, .slice p g.pk.length cp] 24 (0, 0))
  b5 : V.heap[B5]? = some (.cells #[.int .i64 g.room, .slice a4 g.evs.length g.evs.length, .slice p4 g.pk.length g.pk.length] 32 (0, 0))
  r4 : OwnN V 0 (.slice q4 L.length c4) L
  below : Below w.heap.size w V
theorem LMS.on {w : World} {g : Gr} {a : Option Addr} {cap : Nat} {p : Option Addr} {cp : Nat} {L : List Int} {B5 : Nat} {a4 p4 : Option Addr} {q4 : Option Addr} {c4 : Nat} {V V' : World} (h : LMS w g a cap p cp L B5 a4 p4 q4 c4 V) (hb : Below V.heap.size V V') : LMS w g a cap p cp L B5 a4 p4 q4 c4 V' :=
  ⟨(hb.block _ (Array.getElem?_eq_some_iff.1 h.b0).1).trans h.b0, (hb.block _ (Array.getElem?_eq_some_iff.1 h.b5).1).trans h.b5, h.r4.kept hb, h.below.trans (hb.mono h.below.size)⟩
theorem OwnN.far {w w' : World} {base lo hi n c : Nat} {a : Option Addr} {zs : List Int} (h : OwnN w base (.slice a n c) zs) (hw : Wr lo hi w w') (hu : ∀ q, a = some ⟨q, 0, none⟩ → q < lo ∨ hi ≤ q) : OwnN w' base (.slice a n c) zs := by
  obtain ⟨a', c', hv, h1⟩ := h
  cases hv
  refine ⟨a, c, rfl, ?_⟩
  rcases h1 with h0 | ⟨g, ha, hbg, hlt, hcell, hf⟩
  · exact .inl h0
  · have hr := hu g ha
    exact .inr ⟨g, ha, hbg, Nat.lt_of_lt_of_le hlt hw.size, fun j hj => (hw.cell (b := g) (q := j) hlt hr).trans (hcell j hj), fun q => by rw [hw.frozen (b := g) (q := q) hlt hr]; exact hf q⟩
theorem OwnN.past {w w' : World} {base lo hi n c : Nat} {a : Option Addr} {zs : List Int} (h : OwnN w base (.slice a n c) zs) (hw : Wr lo hi w w') (hu : hi ≤ base) : OwnN w' base (.slice a n c) zs := by
  obtain ⟨a', c', hv, h1⟩ := h
  cases hv
  refine ⟨a, c, rfl, ?_⟩
  rcases h1 with h0 | ⟨g, ha, hbg, hlt, hcell, hf⟩
  · exact .inl h0
  · have hr : g < lo ∨ hi ≤ g := .inr (Nat.le_trans hu hbg)
    exact .inr ⟨g, ha, hbg, Nat.lt_of_lt_of_le hlt hw.size, fun j hj => (hw.cell (b := g) (q := j) hlt hr).trans (hcell j hj), fun q => by rw [hw.frozen (b := g) (q := q) hlt hr]; exact hf q⟩
theorem OwnN.base {w : World} {base n c b : Nat} {a : Option Addr} {zs : List Int} (h : OwnN w base (.slice a n c) zs) (hz : ¬ zs.length = 0) (ha : a = some ⟨b, 0, none⟩) : base ≤ b := by
  obtain ⟨a', c', hv, h1⟩ := h
  cases hv
  rcases h1 with h0 | ⟨g, hg, hbg, _⟩
  · exact absurd h0 hz
  · rw [ha] at hg
    cases hg
    exact hbg
set_option maxHeartbeats 4000000 in
set_option maxRecDepth 100000 in
theorem mark_noneS (a : Option Addr) (cap : Nat) (w : World) :
    Calls Tryz.prog 22 #[.slice a 0 cap, .int .i64 1] w fun e w' => e = .returned (.int .i64 (1 + (0 : Nat))) ∧ w' = w := by
  go_enter Tryz.func22, Tryz.ntmps22
  go_wp2
  go_loopw [1, 5] (fun k i wr => k = .int .i64 1 ∧ i = .int .i64 (0 : Nat) ∧ Hid (wr = w)) (fun _ _ _ => 0)
  case atStart => exact ⟨rfl, rfl, (rfl : w = w)⟩
  case round =>
    obtain ⟨rfl, rfl, HW⟩ := hrel
    go_wp2
    go_ret
    exact ⟨ret_int (by simp), HW.out⟩
theorem mark_nrowS (zs : List Int) (a : Option Addr) (cap base : Nat) (hn : zs.length ≤ 10000000) (w : World) (h : OwnN w base (.slice a zs.length cap) zs) :
    Calls Tryz.prog 22 #[.slice a zs.length cap, .int .i64 1] w fun e w' => e = .returned (.int .i64 (1 + zs.length)) ∧ MarksI w' a zs.length 1 ∧ (w' = w ∨ ∃ b, base ≤ b ∧ OnlyI b w w') := by
  by_cases hz : zs.length = 0
  · have h0 : MarksI w a zs.length 1 := .inl hz
    generalize zs.length = n at hz h0 ⊢
    subst hz
    refine (mark_noneS a cap w).mono ?_
    rintro e w' ⟨rfl, rfl⟩
    exact ⟨rfl, h0, .inl rfl⟩
  · refine (mark_intsS zs.length a cap hn w h.spot).mono ?_
    rintro e w' ⟨rfl, hm⟩
    refine ⟨rfl, hm.marks, ?_⟩
    rcases hm with ⟨_, rfl⟩ | ⟨b, hab, hon, _⟩
    · exact .inl rfl
    · exact .inr ⟨b, h.base hz hab, hon⟩
theorem OwnN.only {w w' : World} {base b n c : Nat} {a : Option Addr} {zs : List Int} (h : OwnN w base (.slice a n c) zs) (ho : OnlyI b w w') (hu : ∀ q, a = some ⟨q, 0, none⟩ → q ≠ b) : OwnN w' base (.slice a n c) zs := by
  obtain ⟨a', c', hv, h1⟩ := h
  cases hv
  refine ⟨a, c, rfl, ?_⟩
  rcases h1 with h0 | ⟨g, ha, hbg, hlt, hcell, hf⟩
  · exact .inl h0
  · have hr := hu g ha
    exact .inr ⟨g, ha, hbg, by rw [ho.size]; exact hlt, fun j hj => (World.cell?_of_block (a := ⟨g, j, none⟩) (ho.block g hr)).trans (hcell j hj), fun q => by rw [World.frozen?_of_block (a := ⟨g, q, none⟩) (ho.block g hr)]; exact hf q⟩
theorem LMS.far {w : World} {g : Gr} {a : Option Addr} {cap : Nat} {p : Option Addr} {cp : Nat} {L : List Int} {B5 : Nat} {a4 p4 : Option Addr} {q4 : Option Addr} {c4 : Nat} {V V' : World} (h : LMS w g a cap p cp L B5 a4 p4 q4 c4 V) {lo hi : Nat} (hw : Wr lo hi V V') (h0 : w.heap.size < lo) (h5 : hi ≤ B5) (hu : ∀ q, q4 = some ⟨q, 0, none⟩ → q < lo ∨ hi ≤ q) : LMS w g a cap p cp L B5 a4 p4 q4 c4 V' := by
  have blk : ∀ b o, V.heap[b]? = some o → (b < lo ∨ hi ≤ b) → V'.heap[b]? = some o := fun b o hb hr => (hw.block b (Array.getElem?_eq_some_iff.1 hb).1 hr).trans hb
  exact ⟨blk _ _ h.b0 (.inl h0), blk _ _ h.b5 (.inr h5), h.r4.far hw hu, ⟨hw.os.trans h.below.os, hw.tape.trans h.below.tape, hw.output.trans h.below.output, Nat.le_trans h.below.size hw.size, fun b hb => (hw.block b (Nat.lt_of_lt_of_le hb h.below.size) (.inl (by omega))).trans (h.below.block b hb)⟩⟩
theorem LMS.only {w : World} {g : Gr} {a : Option Addr} {cap : Nat} {p : Option Addr} {cp : Nat} {L : List Int} {B5 : Nat} {a4 p4 : Option Addr} {q4 : Option Addr} {c4 : Nat} {V V' : World} (h : LMS w g a cap p cp L B5 a4 p4 q4 c4 V) {b : Nat} (ho : OnlyI b V V') (h0 : w.heap.size < b) (h5 : B5 ≠ b) (hu : ∀ q, q4 = some ⟨q, 0, none⟩ → q ≠ b) : LMS w g a cap p cp L B5 a4 p4 q4 c4 V' :=
  ⟨(ho.block _ (by omega)).trans h.b0, (ho.block _ h5).trans h.b5, h.r4.only ho hu, h.below.trans (ho.below (Nat.le_of_lt h0))⟩
set_option maxHeartbeats 8000000 in
set_option maxRecDepth 100000 in
theorem walk_fnExactSortOf_gr (g : Gr) (a : Option Addr) (cap : Nat) (p : Option Addr) (cp : Nat) (w : World) (h : EvsRaw w a g.evs) (h2 : EvsRaw w p g.pk) :
    Calls Tryz.prog 4 #[.agg #[.int .i64 g.room, .slice a g.evs.length cap, .slice p g.pk.length cp]] w fun e w' => e = .returned (.bool true) ∧ Below w.heap.size w w' := by
  have HB0 : Hid (∀ o, Below w.heap.size w (w.alloc o)) := fun o => (Below.refl _ _).alloc (Nat.le_refl _) o
  have HR : Hid (∀ w', Below w.heap.size w w' → EvsRaw w' a g.evs ∧ EvsRaw w' p g.pk) := fun w' hb => ⟨h.kept hb, h2.kept hb⟩
  by_cases hs : ((wt g.evs + wt g.pk : Nat) : Int) ≤ 1048576
  · have HE : Hid (∀ w', Below w.heap.size w w' → EvsAt w' a g.evs ∧ EvsAt w' p g.pk) := fun w' hb => ⟨(h.kept hb).at (by omega), (h2.kept hb).at (by omega)⟩
    have HSW : Hid (wt g.evs + wt g.pk ≤ 1048576) := by unfold Hid; omega
    have HS : Hid (szB (wt g.evs + wt g.pk) 1048576 = 1048576 - (wt g.evs + wt g.pk : Nat)) := szB_yes hs
    obtain ⟨L, HL⟩ : ∃ L : Int, Hid (L = szB (wt g.evs + wt g.pk) 1048576) := ⟨szB (wt g.evs + wt g.pk) 1048576, (rfl : (szB (wt g.evs + wt g.pk) 1048576 : Int) = _)⟩
    have hL : 0 ≤ L := by rw [HL.out, HS.out]; omega
    have hmg := srtG_len80 g
    clear h h2 hs
    go_enter Tryz.func4, Tryz.ntmps4
    go_wp2_with fail
    refine (sz_graph g a cap p cp 1048576 _ (HR.out _ (HB0.out _)).1 (HR.out _ (HB0.out _)).2 (by omega) (by omega)).mono ?_
    rintro e w1 ⟨rfl, hb1⟩
    rw [← HL.out]
    obtain ⟨hc1, hf1⟩ := bcell hb1
    have hz1 : w.heap.size < w1.heap.size := by have := hb1.size; simp at this; omega
    have e1 : Hid (w1.heap[w.heap.size]? = some (.cells #[.int .i64 g.room, .slice a g.evs.length cap, .slice p g.pk.length cp] 24 (0, 0))) := (hb1.block _ (by simp)).trans (MapKept.heap_alloc w _).1
    have HW1 : Hid (Below w.heap.size w w1) := (HB0.out _).trans (hb1.mono (by simp))
    clear hb1
    go_wp2_with fail
    refine (to_graph g a cap p cp _ (HE.out _ HW1.out).1 (HE.out _ HW1.out).2).mono ?_
    rintro e w2 ⟨g2, a2, p2, rfl, hn2⟩
    have hz2 : w.heap.size < w2.heap.size := Nat.lt_of_lt_of_le hz1 hn2.evs.below.size
    have e2 : Hid (w2.heap[w.heap.size]? = some (.cells #[.int .i64 g.room, .slice a g.evs.length cap, .slice p g.pk.length cp] 24 (0, 0))) := (hn2.evs.below.block _ hz1).trans e1.out
    have HW2 : Hid (Below w.heap.size w w2) := HW1.out.trans (hn2.evs.below.mono HW1.out.size)
    have HG2 := sortOf_spec g2 a2 g.evs.length p2 g.pk.length w2 hn2.evs.row.at hn2.pk.row.at
    rw [hn2.room, hn2.evs.len, hn2.pk.len, srtG_same hn2.room hn2.evs.same hn2.pk.same] at HG2
    clear hn2 hc1 hf1
    go_wp2_with fail
    refine HG2.mono ?_
    rintro e w3 ⟨v4, rfl, ho3, hb3⟩
    obtain ⟨q4, c4, rfl, -, -, -⟩ := ho3.at (by omega)
    have hz3 : w.heap.size < w3.heap.size := Nat.lt_of_lt_of_le hz2 hb3.size
    have e3 : Hid (w3.heap[w.heap.size]? = some (.cells #[.int .i64 g.room, .slice a g.evs.length cap, .slice p g.pk.length cp] 24 (0, 0))) := (hb3.block _ hz2).trans e2.out
    have h03 : ∀ k, w3.cell? ⟨w.heap.size, k, none⟩ = _ := fun k => cell_of_heap e3.out
    have HW3 : Hid (Below w.heap.size w w3) := HW2.out.trans (hb3.mono HW2.out.size)
    have HR3 : Hid (OwnN w3 0 (.slice q4 (srtG g).length c4) (srtG g)) := (ho3.ownN (by omega)).low (Nat.zero_le _)
    have HU3 : Hid (∀ q, q4 = some ⟨q, 0, none⟩ → q < w3.heap.size) := fun q hq => by
      rcases ho3.2 with ⟨h1, _⟩ | ⟨q', _, _, h1, _, h3, _⟩
      · rw [hq] at h1
        cases h1
      · rw [hq] at h1
        cases h1
        exact (Array.getElem?_eq_some_iff.1 h3).1
    clear ho3 hb3 HG2
    go_wp2_with fail
    refine (to_graph g a cap p cp _ (HE.out _ HW3.out).1 (HE.out _ HW3.out).2).mono ?_
    rintro e w4 ⟨g4, a4, p4, rfl, hn4⟩
    have hz4 : w3.heap.size ≤ w4.heap.size := hn4.evs.below.size
    have HGN : Hid (GrNew w3 g g4 a4 p4 w4) := hn4
    have HG5 : ∀ o, Calls Tryz.prog 20 #[.agg #[.int .i64 g.room, .slice a4 g.evs.length g.evs.length, .slice p4 g.pk.length g.pk.length]] (w4.alloc o) (RowSPost (w4.alloc o) (srtG g)) := fun o => by
      have := sortOf_impl g4 a4 g.evs.length p4 g.pk.length (w4.alloc o) (hn4.evs.row.at.kept ((Below.refl _ _).alloc (Nat.le_refl _) _)) (hn4.pk.row.at.kept ((Below.refl _ _).alloc (Nat.le_refl _) _))
      rwa [hn4.room, hn4.evs.len, hn4.pk.len, srtG_same hn4.room hn4.evs.same hn4.pk.same] at this
    clear hn4 h03
    go_wp2_with fail
    refine (HG5 _).mono ?_
    rintro e w5 ⟨v6, rfl, hr5, hb5⟩
    have s4 : (w4.alloc (.cells #[.int .i64 g.room, .slice a4 g.evs.length g.evs.length, .slice p4 g.pk.length g.pk.length] 32)).heap.size = w4.heap.size + 1 := by simp
    obtain ⟨q6, c6, hv6, -⟩ := id hr5
    subst hv6
    have HO5 : Hid (OwnN w5 (w4.heap.size + 1) (.slice q6 (srtG g).length c6) (srtG g)) := by rw [← s4]; exact hr5
    have HB45 : Hid (Below w4.heap.size w4 w5) := ((Below.refl _ _).alloc (Nat.le_refl _) _).trans (hb5.mono (by simp))
    have HL5 : Hid (LMS w g a cap p cp (srtG g) w4.heap.size a4 p4 q4 c4 w5) := by
      have hb3 := HGN.out.evs.below
      exact ⟨(HB45.out.block _ (by omega)).trans ((hb3.block _ hz3).trans e3.out), (hb5.block _ (by omega)).trans (MapKept.heap_alloc w4 _).1, (HR3.out.kept hb3).kept HB45.out, HW3.out.trans ((hb3.trans (HB45.out.mono hz4)).mono HW3.out.size)⟩
    clear hr5 hb5 HG5 s4 e3 HR3 e1 e2
    go_wp2_with fail
    refine (eq_nums (srtG g) q6 q4 c6 c4 w5 (HO5.out.at (by omega)) (HL5.out.r4.at (by omega))).mono ?_
    rintro e w6 ⟨rfl, hb6⟩
    have HL6 : Hid (LMS w g a cap p cp (srtG g) w4.heap.size a4 p4 q4 c4 w6) := HL5.out.on hb6
    have HO6 : Hid (OwnN w6 (w4.heap.size + 1) (.slice q6 (srtG g).length c6) (srtG g)) := HO5.out.kept hb6
    have HB46 : Hid (Below w4.heap.size w4 w6) := HB45.out.trans (hb6.mono HB45.out.size)
    have hz46 : w4.heap.size < w6.heap.size := (Array.getElem?_eq_some_iff.1 HL6.out.b5).1
    have hz06 : w.heap.size < w6.heap.size := by omega
    have h0w6 : ∀ k, w6.cell? ⟨w.heap.size, k, none⟩ = _ := (fun k => cell_of_heap HL6.out.b0)
    have h5w6 : ∀ k, w6.cell? ⟨w4.heap.size, k, none⟩ = _ := (fun k => cell_of_heap HL6.out.b5)
    clear hb6 HL5 HO5 HB45
    go_wp2_with fail
    go_cut [31] (fun r wx => r = .bool false ∧ Below w6.heap.size w6 wx)
    case first =>
      first
        | (go_region_with (first
            | (go_at_call 9; refine (to_graph g a cap p cp _ (HE.out _ HL6.out.below.drew).1 (HE.out _ HL6.out.below.drew).2).mono ?_; rintro e w7 ⟨g7, a7, p7, rfl, hn7⟩; have hc7 : ∀ b o, b < w6.heap.size → w7.cell? ⟨b, o, none⟩ = w6.cell? ⟨b, o, none⟩ := (bcell hn7.evs.below).1; have HW7 : Hid (Below w6.heap.size w6 w7) := (Below.drew (Below.refl _ _)).trans hn7.evs.below; have HY7 : Hid (Below w4.heap.size w4 w7) := HB46.out.trans (HW7.out.mono (Nat.le_of_lt hz46)); have HQ7 := eq_graph g4 g7 a4 p4 a7 p7 g.evs.length g.pk.length g.evs.length g.pk.length w7 (HGN.out.evs.row.at.kept HY7.out) (HGN.out.pk.row.at.kept HY7.out) hn7.evs.row.at hn7.pk.row.at (HGN.out.evs.same.trans hn7.evs.same.symm) (HGN.out.pk.same.trans hn7.pk.same.symm); rw [HGN.out.room, HGN.out.evs.len, HGN.out.pk.len] at HQ7)
            | (go_at_call 13; refine HQ7.mono ?_; rintro e w8 ⟨rfl, hb8⟩; have HW8 : Hid (Below w6.heap.size w6 w8) := HW7.out.trans (hb8.mono HW7.out.size))))
        | fail
      all_goals go_wp2_with fail
      all_goals go_meet
      all_goals exact ⟨rfl, HW8.out⟩
    case rest =>
    obtain ⟨rfl, hb8⟩ := hcut
    have HL8 : Hid (LMS w g a cap p cp (srtG g) w4.heap.size a4 p4 q4 c4 wc) := HL6.out.on hb8
    have HO8 : Hid (OwnN wc (w4.heap.size + 1) (.slice q6 (srtG g).length c6) (srtG g)) := HO6.out.kept hb8
    have HB48 : Hid (Below w4.heap.size w4 wc) := HB46.out.trans (hb8.mono (Nat.le_of_lt hz46))
    have HMK := mark_graph w3 w4 wc g g4 a4 p4 g.evs.length g.pk.length g.room HGN.out HB48.out (by rw [wt_same HGN.out.evs.same, wt_same HGN.out.pk.same]; exact HSW.out)
    rw [HGN.out.evs.len, HGN.out.pk.len] at HMK
    clear hb8 h0w6 h5w6 HL6 HO6 HB46
    have h0wc : ∀ k, wc.cell? ⟨w.heap.size, k, none⟩ = _ := (fun k => cell_of_heap HL8.out.b0)
    have h5wc : ∀ k, wc.cell? ⟨w4.heap.size, k, none⟩ = _ := (fun k => cell_of_heap HL8.out.b5)
    go_wp2_with fail
    refine HMK.mono ?_
    rintro e w9 ⟨K, rfl, hK, hw9⟩
    have HL9 : Hid (LMS w g a cap p cp (srtG g) w4.heap.size a4 p4 q4 c4 w9) := HL8.out.far hw9 hz3 (Nat.le_refl _) (fun q hq => .inl (HU3.out q hq))
    have HO9 : Hid (OwnN w9 (w4.heap.size + 1) (.slice q6 (srtG g).length c6) (srtG g)) := HO8.out.past hw9 (Nat.le_succ _)
    have h0w9 : ∀ k, w9.cell? ⟨w.heap.size, k, none⟩ = _ := (fun k => cell_of_heap HL9.out.b0)
    have h5w9 : ∀ k, w9.cell? ⟨w4.heap.size, k, none⟩ = _ := (fun k => cell_of_heap HL9.out.b5)
    clear hw9 HMK h0wc h5wc HL8 HO8 HB48
    go_wp2_with fail
    refine (eq_nums (srtG g) q6 q4 c6 c4 w9 (HO9.out.at (by omega)) (HL9.out.r4.at (by omega))).mono ?_
    rintro e w10 ⟨rfl, hb10⟩
    have HL10 : Hid (LMS w g a cap p cp (srtG g) w4.heap.size a4 p4 q4 c4 w10) := HL9.out.on hb10
    have HO10 : Hid (OwnN w10 (w4.heap.size + 1) (.slice q6 (srtG g).length c6) (srtG g)) := HO9.out.kept hb10
    have h0w10 : ∀ k, w10.cell? ⟨w.heap.size, k, none⟩ = _ := (fun k => cell_of_heap HL10.out.b0)
    have h5w10 : ∀ k, w10.cell? ⟨w4.heap.size, k, none⟩ = _ := (fun k => cell_of_heap HL10.out.b5)
    clear hb10 HL9 HO9 h0w9 h5w9
    go_wp2_with fail
    refine (mark_nrowS (srtG g) q6 c6 (w4.heap.size + 1) (by omega) w10 HO10.out).mono ?_
    rintro e w11 ⟨rfl, hk11, hm11⟩
    obtain ⟨M, HM⟩ : ∃ M : Int, Hid (M = 1 + ((srtG g).length : Int)) := ⟨1 + ((srtG g).length : Int), (rfl : 1 + ((srtG g).length : Int) = _)⟩
    have hM0 : 0 ≤ M := by rw [HM.out]; omega
    have H11 : Hid (LMS w g a cap p cp (srtG g) w4.heap.size a4 p4 q4 c4 w11 ∧ MarksI w11 q6 (srtG g).length 1) := by
      refine ⟨?_, hk11⟩
      rcases hm11 with rfl | ⟨b, hbb, hon⟩
      · exact HL10.out
      · exact HL10.out.only hon (by omega) (by omega) (fun q hq => by have := HU3.out q hq; omega)
    rw [← HM.out]
    have h0w11 : ∀ k, w11.cell? ⟨w.heap.size, k, none⟩ = _ := (fun k => cell_of_heap H11.out.1.b0)
    clear hm11 hk11 HL10 HO10 h0w10 h5w10
    go_wp2_with fail
    refine (held_intsS (srtG g).length q6 c6 (by omega) w11 H11.out.2).mono ?_
    rintro e wz ⟨rfl, rfl⟩
    rw [← HM.out]
    go_wp2_with fail
    refine (to_graph g a cap p cp _ (HE.out _ H11.out.1.below).1 (HE.out _ H11.out.1.below).2).mono ?_
    rintro e w12 ⟨g12, a12, p12, rfl, hn12⟩
    have H12 : Hid (LMS w g a cap p cp (srtG g) w4.heap.size a4 p4 q4 c4 w12 ∧ MarksI w12 q6 (srtG g).length 1) := ⟨H11.out.1.on hn12.evs.below, H11.out.2.kept hn12.evs.below⟩
    have HG13 := sortOf_impl g12 a12 g.evs.length p12 g.pk.length w12 hn12.evs.row.at hn12.pk.row.at
    rw [hn12.room, hn12.evs.len, hn12.pk.len, srtG_same hn12.room hn12.evs.same hn12.pk.same] at HG13
    clear hn12 H11 h0w11
    go_wp2_with fail
    refine HG13.mono ?_
    rintro e w13 ⟨v13, rfl, hr13, hb13⟩
    obtain ⟨q13, c13, hv13, -⟩ := id hr13
    subst hv13
    have H13 : Hid (LMS w g a cap p cp (srtG g) w4.heap.size a4 p4 q4 c4 w13 ∧ MarksI w13 q6 (srtG g).length 1 ∧ NumsAt w13 q13 (srtG g)) := ⟨H12.out.1.on hb13, H12.out.2.kept hb13, hr13.at (by omega)⟩
    clear hr13 hb13 HG13 H12
    go_wp2_with fail
    refine (eq_nums (srtG g) q13 q4 c13 c4 w13 H13.out.2.2 (H13.out.1.r4.at (by omega))).mono ?_
    rintro e w14 ⟨rfl, hb14⟩
    have H14 : Hid (LMS w g a cap p cp (srtG g) w4.heap.size a4 p4 q4 c4 w14 ∧ MarksI w14 q6 (srtG g).length 1) := ⟨H13.out.1.on hb14, H13.out.2.1.kept hb14⟩
    clear hb14 H13
    go_wp2_with fail
    refine (held_intsS (srtG g).length q6 c6 (by omega) w14 H14.out.2).mono ?_
    rintro e wz ⟨rfl, rfl⟩
    rw [← HM.out]
    go_wp2
    go_ret
    exact ⟨rfl, H14.out.1.below⟩
  · have HS : Hid (szB (wt g.evs + wt g.pk) 1048576 = -1) := szB_no hs
    clear h h2 hs
    go_enter Tryz.func4, Tryz.ntmps4
    go_wp2_with fail
    refine (sz_graph g a cap p cp 1048576 _ (HR.out _ (HB0.out _)).1 (HR.out _ (HB0.out _)).2 (by omega) (by omega)).mono ?_
    rintro e w1 ⟨rfl, hb1⟩
    rw [HS.out]
    have HW1 : Hid (Below w.heap.size w w1) := (HB0.out _).trans (hb1.mono (by simp))
    clear hb1
    go_wp2
    go_ret
    exact ⟨rfl, HW1.out⟩
end Go.Proofs.YtobkinocaomcmaaGreat
