/- The law on SightOf walked. -/
import Derived.Test.YtjdkenopfnepaaaGreatRl6
import Derived.Deep.DeepCutAuto
namespace Go.Proofs.YtjdkenopfnepaaaGreat
open Go.RowKit

set_option maxHeartbeats 16000000 in
set_option maxRecDepth 100000 in
theorem walk_fnExactSightOf_gr (g : Gr) (a : Option Addr) (cap : Nat) (p : Option Addr) (cp : Nat) (xs : List En) (s : Option Addr) (cs : Nat) (w : World) (h : EvsRaw w a g.evs) (h2 : EvsRaw w p g.pk) (hx : EnsRaw w s xs) :
    Calls Tryz.prog 5 #[.agg #[.int .i64 g.room, .slice a g.evs.length cap, .slice p g.pk.length cp], .slice s xs.length cs] w fun e w' => e = .returned (.bool true) ∧ Below w.heap.size w w' := by
  have hlx := hx.len
  have HLB : Hid (LBox w g a cap p cp (w.alloc (.cells #[.int .i64 g.room, .slice a g.evs.length cap, .slice p g.pk.length cp] 24))) := LBox.start w g a cap p cp
  have HR : Hid (∀ w', Below w.heap.size w w' → EvsRaw w' a g.evs ∧ EvsRaw w' p g.pk) := fun w' hb => ⟨h.kept hb, h2.kept hb⟩
  by_cases hs : ((wt g.evs + wt g.pk : Nat) : Int) ≤ 1048576
  · have HS : Hid (szB (wt g.evs + wt g.pk) 1048576 = 1048576 - (wt g.evs + wt g.pk : Nat)) := szB_yes hs
    obtain ⟨L, HL⟩ : ∃ L : Int, Hid (L = szB (wt g.evs + wt g.pk) 1048576) := ⟨szB (wt g.evs + wt g.pk) 1048576, (rfl : (szB (wt g.evs + wt g.pk) 1048576 : Int) = _)⟩
    have hL : 0 ≤ L := by rw [HL.out, HS.out]; omega
    have hL2 : L ≤ 1048576 := by rw [HL.out, HS.out]; omega
    have HE : Hid (∀ w', Below w.heap.size w w' → EvsAt w' a g.evs ∧ EvsAt w' p g.pk) := fun w' hb => ⟨(h.kept hb).at (by omega), (h2.kept hb).at (by omega)⟩
    by_cases hs2 : (xs.length : Int) ≤ L
    · have hle : xs.length ≤ 1048576 := by omega
      have HX : Hid (∀ w', Below w.heap.size w w' → EnsAt w' s xs) := fun w' hb => (hx.kept hb).at hle
      have HS2 : Hid (szN xs.length L = L - xs.length) := szN_yes hs2
      obtain ⟨M, HM⟩ : ∃ M : Int, Hid (M = szN xs.length L) := ⟨szN xs.length L, (rfl : (szN xs.length L : Int) = _)⟩
      have hM : 0 ≤ M := by rw [HM.out, HS2.out]; omega
      clear h h2 hx hs hs2 HS HS2
      go_enter Tryz.func5, Tryz.ntmps5
      go_wp2_with fail
      refine (sz_graph g a cap p cp 1048576 _ (HR.out _ HLB.out.1).1 (HR.out _ HLB.out.1).2 (by omega) (by omega)).mono ?_
      rintro e w1 ⟨rfl, hb1⟩
      rw [← HL.out]
      have HB1 : Hid (LBox w g a cap p cp w1) := HLB.out.on hb1
      obtain ⟨k10, k11, k12⟩ := HB1.out.cells
      clear hb1
      go_wp2_with fail
      refine (sz_entries xs s cs L _ hlx hL hL2).mono ?_
      rintro e w1' ⟨rfl, rfl⟩
      rw [← HM.out]
      go_wp2_with fail
      refine (to_graph g a cap p cp _ (HE.out _ HB1.out.1).1 (HE.out _ HB1.out.1).2).mono ?_
      rintro e w2 ⟨g2, a2, p2, rfl, hn2⟩
      have HB2 : Hid (LBox w g a cap p cp w2) := HB1.out.on hn2.evs.below
      have HC2 : Hid (GCopy g g2 a2 p2 w2) := hn2.copy
      clear hn2 k10 k11 k12
      go_wp2_with fail
      refine (to_entries xs s cs _ (HX.out _ HB2.out.1)).mono ?_
      rintro e w3 ⟨s3, rfl, hn3⟩
      have HB3 : Hid (LBox w g a cap p cp w3) := HB2.out.on hn3.below
      have HG3 := sightOf_spec g2 xs a2 g.evs.length p2 g.pk.length s3 xs.length w3 ⟨(HC2.out.kept hn3.below).evs, hn3.at hle⟩ (HC2.out.kept hn3.below).pk
      rw [HC2.out.room, HC2.out.el, HC2.out.pl, sigG_same HC2.out.room HC2.out.es HC2.out.ps] at HG3
      clear hn3 HB2
      go_wp2_with fail
      refine HG3.mono ?_
      rintro e w4 ⟨rfl, hb4⟩
      have HB4 : Hid (LBox w g a cap p cp w4) := HB3.out.on hb4
      obtain ⟨k40, k41, k42⟩ := HB4.out.cells
      clear hb4 HG3 HB3 HC2
      go_wp2_with fail
      refine (to_graph g a cap p cp _ (HE.out _ HB4.out.1).1 (HE.out _ HB4.out.1).2).mono ?_
      rintro e w5 ⟨g5, a5, p5, rfl, hn5⟩
      have HB5 : Hid (∀ o, LBox w g a cap p cp (w5.alloc o)) := fun o => (HB4.out.on hn5.evs.below).on ((Below.refl _ _).alloc (Nat.le_refl _) o)
      have HC5 : Hid (∀ o, GCopy g g5 a5 p5 (w5.alloc o)) := fun o => hn5.copy.kept ((Below.refl _ _).alloc (Nat.le_refl _) o)
      have hz5 : w.heap.size < w5.heap.size := (HB4.out.on hn5.evs.below).lt
      clear hn5 k40 k41 k42
      go_wp2_with fail
      refine (to_entries xs s cs _ (HX.out _ (HB5.out _).1)).mono ?_
      rintro e w6 ⟨s6, rfl, hn6⟩
      have HB6 : Hid (LBox w g a cap p cp w6) := (HB5.out _).on hn6.below
      have HC6 : Hid (GCopy g g5 a5 p5 w6) := (HC5.out _).kept hn6.below
      have hx6 : w6.heap[w5.heap.size]? = some (.cells #[.int .i64 g.room, .slice a5 g.evs.length g.evs.length, .slice p5 g.pk.length g.pk.length] 31 (0, 0)) := (hn6.below.block _ (by simp)).trans (MapKept.heap_alloc w5 _).1
      have HX6 : Hid (w6.heap[w5.heap.size]? = some (.cells #[.int .i64 g.room, .slice a5 g.evs.length g.evs.length, .slice p5 g.pk.length g.pk.length] 31 (0, 0))) := hx6
      have j60 : w6.cell? ⟨w5.heap.size, 0, none⟩ = some (.int .i64 g.room) := cell_of_heap hx6
      have j61 : w6.cell? ⟨w5.heap.size, 1, none⟩ = some (.slice a5 g.evs.length g.evs.length) := cell_of_heap hx6
      have j62 : w6.cell? ⟨w5.heap.size, 2, none⟩ = some (.slice p5 g.pk.length g.pk.length) := cell_of_heap hx6
      have HN6 : Hid (EnsAt w6 s6 xs) := hn6.at hle
      have HG6 := sightOf_impl g5 xs a5 g.evs.length p5 g.pk.length s6 xs.length w6 ⟨HC6.out.evs, HN6.out⟩ HC6.out.pk
      rw [HC6.out.room, HC6.out.el, HC6.out.pl, sigG_same HC6.out.room HC6.out.es HC6.out.ps] at HG6
      clear hn6 hx6 HC5 HB5
      go_wp2_with fail
      refine HG6.mono ?_
      rintro e w7 ⟨rfl, hb7⟩
      have HB7 : Hid (LBox w g a cap p cp w7) := HB6.out.on hb7
      have HX7 : Hid (w7.heap[w5.heap.size]? = some (.cells #[.int .i64 g.room, .slice a5 g.evs.length g.evs.length, .slice p5 g.pk.length g.pk.length] 31 (0, 0))) := (hb7.block _ (Array.getElem?_eq_some_iff.1 HX6.out).1).trans HX6.out
      have HC7 : Hid (GCopy g g5 a5 p5 w7) := HC6.out.kept hb7
      have HN7 : Hid (EnsAt w7 s6 xs) := HN6.out.kept hb7
      obtain ⟨k70, k71, k72⟩ := HB7.out.cells
      have j70 : w7.cell? ⟨w5.heap.size, 0, none⟩ = some (.int .i64 g.room) := cell_of_heap HX7.out
      have j71 : w7.cell? ⟨w5.heap.size, 1, none⟩ = some (.slice a5 g.evs.length g.evs.length) := cell_of_heap HX7.out
      have j72 : w7.cell? ⟨w5.heap.size, 2, none⟩ = some (.slice p5 g.pk.length g.pk.length) := cell_of_heap HX7.out
      have hz7 : w.heap.size < w7.heap.size := HB7.out.lt
      have hy7 : w5.heap.size < w7.heap.size := (Array.getElem?_eq_some_iff.1 HX7.out).1
      clear hb7 HG6 HB6 HC6 HN6 HX6 j60 j61 j62
      go_wp2_with fail
      first
        | (go_region_with (first
            | (go_at_call 10; refine (to_graph g a cap p cp _ (HE.out _ HB7.out.1.drew).1 (HE.out _ HB7.out.1.drew).2).mono ?_; rintro e w8 ⟨g8, a8, p8, rfl, hn8⟩; have hc8 : ∀ b o, b < w7.heap.size → w8.cell? ⟨b, o, none⟩ = w7.cell? ⟨b, o, none⟩ := (bcell hn8.evs.below).1; have HW8 : Hid (Below w7.heap.size w7 w8) := (Below.drew (Below.refl _ _)).trans hn8.evs.below; have HQ8 := eq_graph g5 g8 a5 p5 a8 p8 g.evs.length g.pk.length g.evs.length g.pk.length w8 (HC7.out.kept HW8.out).evs (HC7.out.kept HW8.out).pk hn8.evs.row.at hn8.pk.row.at (HC7.out.es.trans hn8.evs.same.symm) (HC7.out.ps.trans hn8.pk.same.symm); rw [HC7.out.room, HC7.out.el, HC7.out.pl] at HQ8)
            | (go_at_call 13; refine HQ8.mono ?_; rintro e w9 ⟨rfl, hb9⟩; have HW9 : Hid (Below w7.heap.size w7 w9) := HW8.out.trans (hb9.mono HW8.out.size); clear hb9)))
        | fail
      all_goals go_wp2_with fail
      all_goals refine (to_entries xs s cs _ (HX.out _ (HB7.out.on HW9.out).1)).mono ?_
      all_goals rintro e w10 ⟨s10, rfl, hn10⟩
      all_goals have HW10 : Hid (Below w7.heap.size w7 w10) := HW9.out.trans (hn10.below.mono HW9.out.size)
      all_goals have HQ10 := eq_entries xs s6 s10 xs.length xs.length w10 (HN7.out.kept HW10.out) (hn10.at hle)
      all_goals clear hn10
      all_goals go_wp2_with fail
      all_goals refine HQ10.mono ?_
      all_goals rintro e w11 ⟨rfl, hb11⟩
      all_goals have HW11 : Hid (Below w.heap.size w w11) := (HB7.out.on HW10.out).1.trans (hb11.mono (HB7.out.on HW10.out).1.size)
      all_goals clear hb11
      all_goals go_wp2
      all_goals go_ret
      all_goals exact ⟨rfl, HW11.out⟩
    · have HS2 : Hid (szN xs.length L = -1) := szN_no hs2
      clear h h2 hx hs hs2 HS
      go_enter Tryz.func5, Tryz.ntmps5
      go_wp2_with fail
      refine (sz_graph g a cap p cp 1048576 _ (HR.out _ HLB.out.1).1 (HR.out _ HLB.out.1).2 (by omega) (by omega)).mono ?_
      rintro e w1 ⟨rfl, hb1⟩
      rw [← HL.out]
      have HB1 : Hid (LBox w g a cap p cp w1) := HLB.out.on hb1
      clear hb1
      go_wp2_with fail
      refine (sz_entries xs s cs L _ hlx hL hL2).mono ?_
      rintro e w1' ⟨rfl, rfl⟩
      rw [HS2.out]
      go_wp2
      go_ret
      exact ⟨rfl, HB1.out.1⟩
  · have HS : Hid (szB (wt g.evs + wt g.pk) 1048576 = -1) := szB_no hs
    clear h h2 hx hs
    go_enter Tryz.func5, Tryz.ntmps5
    go_wp2_with fail
    refine (sz_graph g a cap p cp 1048576 _ (HR.out _ HLB.out.1).1 (HR.out _ HLB.out.1).2 (by omega) (by omega)).mono ?_
    rintro e w1 ⟨rfl, hb1⟩
    rw [HS.out]
    have HB1 : Hid (LBox w g a cap p cp w1) := HLB.out.on hb1
    clear hb1
    go_wp2
    go_ret
    exact ⟨rfl, HB1.out.1⟩
end Go.Proofs.YtjdkenopfnepaaaGreat
