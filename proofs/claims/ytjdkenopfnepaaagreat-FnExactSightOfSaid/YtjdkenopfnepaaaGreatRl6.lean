/- MemberOf, LevelOf, SightOf of the specification and of the program (written by mk/mkrl3.py and mk/mkrl6.py). -/
import Derived.Test.YtjdkenopfnepaaaGreatRl5
namespace Go.Proofs.YtjdkenopfnepaaaGreat
open Go.RowKit

def memG (g : Gr) (xs : List En) (u : Int) : Int := if sceneB g xs = true ∧ isB u 1 6 = true then memR g.evs xs u else 0
def levG (g : Gr) (xs : List En) (u : Int) : Int := if sceneB g xs = true ∧ isB u 1 6 = true then levR g.evs xs u else 0
def sigG (g : Gr) (xs : List En) : Int := if sceneB g xs = true then sigR g.evs xs else 0
theorem memG_no {g : Gr} {xs : List En} {u : Int} (h : sceneB g xs = false) : memG g xs u = 0 := if_neg (by simp [h])
theorem memG_nou {g : Gr} {xs : List En} {u : Int} (h : isB u 1 6 = false) : memG g xs u = 0 := if_neg (by simp [h])
theorem memG_yes {g : Gr} {xs : List En} {u : Int} (h : sceneB g xs = true) (hu : isB u 1 6 = true) : memG g xs u = memR g.evs xs u := if_pos ⟨h, hu⟩
theorem levG_no {g : Gr} {xs : List En} {u : Int} (h : sceneB g xs = false) : levG g xs u = 0 := if_neg (by simp [h])
theorem levG_nou {g : Gr} {xs : List En} {u : Int} (h : isB u 1 6 = false) : levG g xs u = 0 := if_neg (by simp [h])
theorem levG_yes {g : Gr} {xs : List En} {u : Int} (h : sceneB g xs = true) (hu : isB u 1 6 = true) : levG g xs u = levR g.evs xs u := if_pos ⟨h, hu⟩
theorem sigG_no {g : Gr} {xs : List En} (h : sceneB g xs = false) : sigG g xs = 0 := if_neg (by simp [h])
theorem sigG_yes {g : Gr} {xs : List En} (h : sceneB g xs = true) : sigG g xs = sigR g.evs xs := if_pos h
set_option maxHeartbeats 8000000 in
set_option maxRecDepth 100000 in
theorem memberOf_spec (g : Gr) (xs : List En) (u : Int) (a : Option Addr) (cap : Nat) (p : Option Addr) (cp : Nat) (s : Option Addr) (cs : Nat) (w : World) (h : RIn w g xs a s) (h2 : EvsAt w p g.pk) :
    Calls Tryz.prog 9 #[.agg #[.int .i64 g.room, .slice a g.evs.length cap, .slice p g.pk.length cp], .slice s xs.length cs, .int .i64 u] w fun e w' => e = .returned (.int .i64 (memG g xs u)) ∧ Below w.heap.size w w' := by
  have HB : Hid (∀ o, Below w.heap.size w (w.alloc o)) := fun o => (Below.refl _ _).alloc (Nat.le_refl _) o
  have HG : Hid (GBox w g a cap p cp (w.alloc (.cells #[.int .i64 g.room, .slice a g.evs.length cap, .slice p g.pk.length cp] 31))) := GBox.start w g a cap p cp
  have HGS := fun W (hW : Below w.heap.size w W) => graph_spec g a cap p cp W (h.evs.kept hW) (h2.kept hW)
  have HH : Hid (RIn w g xs a s) := h
  clear h h2
  cases hr : rightG g
  · have HS : Hid (memG g xs u = 0) := memG_no (scene_nog hr)
    go_enter Tryz.func9, Tryz.ntmps9
    go_wp2_with (go_at_call 40; refine (HGS _ (HB.out _)).mono ?_; rintro e w1 ⟨rfl, hb1⟩; rw [hr]; have HG1 : Hid (GBox w g a cap p cp w1) := HG.out.on hb1; have hx0 : w1.cell? ⟨w.heap.size, 0, none⟩ = some (.int .i64 g.room) := cell_of_heap HG1.out.2; have hx1 : w1.cell? ⟨w.heap.size, 1, none⟩ = some (.slice a g.evs.length cap) := cell_of_heap HG1.out.2; have hx2 : w1.cell? ⟨w.heap.size, 2, none⟩ = some (.slice p g.pk.length cp) := cell_of_heap HG1.out.2; clear hb1)
    go_ret
    exact ⟨ret_int' HS.out.symm, HG1.out.1⟩
  have HSS := fun W (hW : Below w.heap.size w W) => state05_spec g xs a cap p cp s cs W (HH.out.kept hW).evs (HH.out.kept hW).ens (right_dup hr)
  cases hst : stateB g xs
  · have HS : Hid (memG g xs u = 0) := memG_no (scene_nos hst)
    go_enter Tryz.func9, Tryz.ntmps9
    go_wp2_with (first
      | (go_at_call 40; refine (HGS _ (HB.out _)).mono ?_; rintro e w1 ⟨rfl, hb1⟩; rw [hr]; have HG1 : Hid (GBox w g a cap p cp w1) := HG.out.on hb1; have hx0 : w1.cell? ⟨w.heap.size, 0, none⟩ = some (.int .i64 g.room) := cell_of_heap HG1.out.2; have hx1 : w1.cell? ⟨w.heap.size, 1, none⟩ = some (.slice a g.evs.length cap) := cell_of_heap HG1.out.2; have hx2 : w1.cell? ⟨w.heap.size, 2, none⟩ = some (.slice p g.pk.length cp) := cell_of_heap HG1.out.2; clear hb1)
      | (go_at_call 44; refine (HSS _ HG1.out.1).mono ?_; rintro e w2 ⟨rfl, hb2⟩; rw [hst]; have HG2 : Hid (GBox w g a cap p cp w2) := HG1.out.on hb2; have hy0 : w2.cell? ⟨w.heap.size, 0, none⟩ = some (.int .i64 g.room) := cell_of_heap HG2.out.2; have hy1 : w2.cell? ⟨w.heap.size, 1, none⟩ = some (.slice a g.evs.length cap) := cell_of_heap HG2.out.2; have hy2 : w2.cell? ⟨w.heap.size, 2, none⟩ = some (.slice p g.pk.length cp) := cell_of_heap HG2.out.2; clear hb2))
    go_ret
    exact ⟨ret_int' HS.out.symm, HG2.out.1⟩
  have HSB : Hid (sceneB g xs = true) := scene_yes hr hst
  cases hu : isB u 1 6
  · have HS : Hid (memG g xs u = 0) := memG_nou hu
    go_enter Tryz.func9, Tryz.ntmps9
    go_wp2_with (first
      | (go_at_call 40; refine (HGS _ (HB.out _)).mono ?_; rintro e w1 ⟨rfl, hb1⟩; rw [hr]; have HG1 : Hid (GBox w g a cap p cp w1) := HG.out.on hb1; have hx0 : w1.cell? ⟨w.heap.size, 0, none⟩ = some (.int .i64 g.room) := cell_of_heap HG1.out.2; have hx1 : w1.cell? ⟨w.heap.size, 1, none⟩ = some (.slice a g.evs.length cap) := cell_of_heap HG1.out.2; have hx2 : w1.cell? ⟨w.heap.size, 2, none⟩ = some (.slice p g.pk.length cp) := cell_of_heap HG1.out.2; clear hb1)
      | (go_at_call 44; refine (HSS _ HG1.out.1).mono ?_; rintro e w2 ⟨rfl, hb2⟩; rw [hst]; have HG2 : Hid (GBox w g a cap p cp w2) := HG1.out.on hb2; have hy0 : w2.cell? ⟨w.heap.size, 0, none⟩ = some (.int .i64 g.room) := cell_of_heap HG2.out.2; have hy1 : w2.cell? ⟨w.heap.size, 1, none⟩ = some (.slice a g.evs.length cap) := cell_of_heap HG2.out.2; have hy2 : w2.cell? ⟨w.heap.size, 2, none⟩ = some (.slice p g.pk.length cp) := cell_of_heap HG2.out.2; clear hb2)
      | (go_at_call 45; refine (user_spec _ _).mono ?_; rintro e w3 ⟨rfl, rfl⟩; rw [hu]))
    go_ret
    exact ⟨ret_int' HS.out.symm, HG2.out.1⟩
  have HCC := fun W (hW : Below w.heap.size w W) => member05_spec g xs u a cap p cp s cs W (HH.out.kept hW) (sceneB_yes HSB.out)
  have HS : Hid (memG g xs u = memR g.evs xs u) := memG_yes HSB.out hu
  go_enter Tryz.func9, Tryz.ntmps9
  go_wp2_with (first
    | (go_at_call 40; refine (HGS _ (HB.out _)).mono ?_; rintro e w1 ⟨rfl, hb1⟩; rw [hr]; have HG1 : Hid (GBox w g a cap p cp w1) := HG.out.on hb1; have hx0 : w1.cell? ⟨w.heap.size, 0, none⟩ = some (.int .i64 g.room) := cell_of_heap HG1.out.2; have hx1 : w1.cell? ⟨w.heap.size, 1, none⟩ = some (.slice a g.evs.length cap) := cell_of_heap HG1.out.2; have hx2 : w1.cell? ⟨w.heap.size, 2, none⟩ = some (.slice p g.pk.length cp) := cell_of_heap HG1.out.2; clear hb1)
    | (go_at_call 44; refine (HSS _ HG1.out.1).mono ?_; rintro e w2 ⟨rfl, hb2⟩; rw [hst]; have HG2 : Hid (GBox w g a cap p cp w2) := HG1.out.on hb2; have hy0 : w2.cell? ⟨w.heap.size, 0, none⟩ = some (.int .i64 g.room) := cell_of_heap HG2.out.2; have hy1 : w2.cell? ⟨w.heap.size, 1, none⟩ = some (.slice a g.evs.length cap) := cell_of_heap HG2.out.2; have hy2 : w2.cell? ⟨w.heap.size, 2, none⟩ = some (.slice p g.pk.length cp) := cell_of_heap HG2.out.2; clear hb2)
    | (go_at_call 45; refine (user_spec _ _).mono ?_; rintro e w3 ⟨rfl, rfl⟩; rw [hu])
    | (go_at_call 46; refine (HCC _ HG2.out.1).mono ?_; rintro e w4 ⟨rfl, hb4⟩; have HW4 : Hid (Below w.heap.size w w4) := HG2.out.1.trans (hb4.mono HG2.out.1.size); clear hb4))
  go_ret
  exact ⟨ret_int' HS.out.symm, HW4.out⟩
set_option maxHeartbeats 8000000 in
set_option maxRecDepth 100000 in
theorem levelOf_spec (g : Gr) (xs : List En) (u : Int) (a : Option Addr) (cap : Nat) (p : Option Addr) (cp : Nat) (s : Option Addr) (cs : Nat) (w : World) (h : RIn w g xs a s) (h2 : EvsAt w p g.pk) :
    Calls Tryz.prog 15 #[.agg #[.int .i64 g.room, .slice a g.evs.length cap, .slice p g.pk.length cp], .slice s xs.length cs, .int .i64 u] w fun e w' => e = .returned (.int .i64 (levG g xs u)) ∧ Below w.heap.size w w' := by
  have HB : Hid (∀ o, Below w.heap.size w (w.alloc o)) := fun o => (Below.refl _ _).alloc (Nat.le_refl _) o
  have HG : Hid (GBox w g a cap p cp (w.alloc (.cells #[.int .i64 g.room, .slice a g.evs.length cap, .slice p g.pk.length cp] 31))) := GBox.start w g a cap p cp
  have HGS := fun W (hW : Below w.heap.size w W) => graph_spec g a cap p cp W (h.evs.kept hW) (h2.kept hW)
  have HH : Hid (RIn w g xs a s) := h
  clear h h2
  cases hr : rightG g
  · have HS : Hid (levG g xs u = 0) := levG_no (scene_nog hr)
    go_enter Tryz.func15, Tryz.ntmps15
    go_wp2_with (go_at_call 40; refine (HGS _ (HB.out _)).mono ?_; rintro e w1 ⟨rfl, hb1⟩; rw [hr]; have HG1 : Hid (GBox w g a cap p cp w1) := HG.out.on hb1; have hx0 : w1.cell? ⟨w.heap.size, 0, none⟩ = some (.int .i64 g.room) := cell_of_heap HG1.out.2; have hx1 : w1.cell? ⟨w.heap.size, 1, none⟩ = some (.slice a g.evs.length cap) := cell_of_heap HG1.out.2; have hx2 : w1.cell? ⟨w.heap.size, 2, none⟩ = some (.slice p g.pk.length cp) := cell_of_heap HG1.out.2; clear hb1)
    go_ret
    exact ⟨ret_int' HS.out.symm, HG1.out.1⟩
  have HSS := fun W (hW : Below w.heap.size w W) => state05_spec g xs a cap p cp s cs W (HH.out.kept hW).evs (HH.out.kept hW).ens (right_dup hr)
  cases hst : stateB g xs
  · have HS : Hid (levG g xs u = 0) := levG_no (scene_nos hst)
    go_enter Tryz.func15, Tryz.ntmps15
    go_wp2_with (first
      | (go_at_call 40; refine (HGS _ (HB.out _)).mono ?_; rintro e w1 ⟨rfl, hb1⟩; rw [hr]; have HG1 : Hid (GBox w g a cap p cp w1) := HG.out.on hb1; have hx0 : w1.cell? ⟨w.heap.size, 0, none⟩ = some (.int .i64 g.room) := cell_of_heap HG1.out.2; have hx1 : w1.cell? ⟨w.heap.size, 1, none⟩ = some (.slice a g.evs.length cap) := cell_of_heap HG1.out.2; have hx2 : w1.cell? ⟨w.heap.size, 2, none⟩ = some (.slice p g.pk.length cp) := cell_of_heap HG1.out.2; clear hb1)
      | (go_at_call 44; refine (HSS _ HG1.out.1).mono ?_; rintro e w2 ⟨rfl, hb2⟩; rw [hst]; have HG2 : Hid (GBox w g a cap p cp w2) := HG1.out.on hb2; have hy0 : w2.cell? ⟨w.heap.size, 0, none⟩ = some (.int .i64 g.room) := cell_of_heap HG2.out.2; have hy1 : w2.cell? ⟨w.heap.size, 1, none⟩ = some (.slice a g.evs.length cap) := cell_of_heap HG2.out.2; have hy2 : w2.cell? ⟨w.heap.size, 2, none⟩ = some (.slice p g.pk.length cp) := cell_of_heap HG2.out.2; clear hb2))
    go_ret
    exact ⟨ret_int' HS.out.symm, HG2.out.1⟩
  have HSB : Hid (sceneB g xs = true) := scene_yes hr hst
  cases hu : isB u 1 6
  · have HS : Hid (levG g xs u = 0) := levG_nou hu
    go_enter Tryz.func15, Tryz.ntmps15
    go_wp2_with (first
      | (go_at_call 40; refine (HGS _ (HB.out _)).mono ?_; rintro e w1 ⟨rfl, hb1⟩; rw [hr]; have HG1 : Hid (GBox w g a cap p cp w1) := HG.out.on hb1; have hx0 : w1.cell? ⟨w.heap.size, 0, none⟩ = some (.int .i64 g.room) := cell_of_heap HG1.out.2; have hx1 : w1.cell? ⟨w.heap.size, 1, none⟩ = some (.slice a g.evs.length cap) := cell_of_heap HG1.out.2; have hx2 : w1.cell? ⟨w.heap.size, 2, none⟩ = some (.slice p g.pk.length cp) := cell_of_heap HG1.out.2; clear hb1)
      | (go_at_call 44; refine (HSS _ HG1.out.1).mono ?_; rintro e w2 ⟨rfl, hb2⟩; rw [hst]; have HG2 : Hid (GBox w g a cap p cp w2) := HG1.out.on hb2; have hy0 : w2.cell? ⟨w.heap.size, 0, none⟩ = some (.int .i64 g.room) := cell_of_heap HG2.out.2; have hy1 : w2.cell? ⟨w.heap.size, 1, none⟩ = some (.slice a g.evs.length cap) := cell_of_heap HG2.out.2; have hy2 : w2.cell? ⟨w.heap.size, 2, none⟩ = some (.slice p g.pk.length cp) := cell_of_heap HG2.out.2; clear hb2)
      | (go_at_call 45; refine (user_spec _ _).mono ?_; rintro e w3 ⟨rfl, rfl⟩; rw [hu]))
    go_ret
    exact ⟨ret_int' HS.out.symm, HG2.out.1⟩
  have HCC := fun W (hW : Below w.heap.size w W) => level05_spec g xs u a cap p cp s cs W (HH.out.kept hW) (sceneB_yes HSB.out)
  have HS : Hid (levG g xs u = levR g.evs xs u) := levG_yes HSB.out hu
  go_enter Tryz.func15, Tryz.ntmps15
  go_wp2_with (first
    | (go_at_call 40; refine (HGS _ (HB.out _)).mono ?_; rintro e w1 ⟨rfl, hb1⟩; rw [hr]; have HG1 : Hid (GBox w g a cap p cp w1) := HG.out.on hb1; have hx0 : w1.cell? ⟨w.heap.size, 0, none⟩ = some (.int .i64 g.room) := cell_of_heap HG1.out.2; have hx1 : w1.cell? ⟨w.heap.size, 1, none⟩ = some (.slice a g.evs.length cap) := cell_of_heap HG1.out.2; have hx2 : w1.cell? ⟨w.heap.size, 2, none⟩ = some (.slice p g.pk.length cp) := cell_of_heap HG1.out.2; clear hb1)
    | (go_at_call 44; refine (HSS _ HG1.out.1).mono ?_; rintro e w2 ⟨rfl, hb2⟩; rw [hst]; have HG2 : Hid (GBox w g a cap p cp w2) := HG1.out.on hb2; have hy0 : w2.cell? ⟨w.heap.size, 0, none⟩ = some (.int .i64 g.room) := cell_of_heap HG2.out.2; have hy1 : w2.cell? ⟨w.heap.size, 1, none⟩ = some (.slice a g.evs.length cap) := cell_of_heap HG2.out.2; have hy2 : w2.cell? ⟨w.heap.size, 2, none⟩ = some (.slice p g.pk.length cp) := cell_of_heap HG2.out.2; clear hb2)
    | (go_at_call 45; refine (user_spec _ _).mono ?_; rintro e w3 ⟨rfl, rfl⟩; rw [hu])
    | (go_at_call 54; refine (HCC _ HG2.out.1).mono ?_; rintro e w4 ⟨rfl, hb4⟩; have HW4 : Hid (Below w.heap.size w w4) := HG2.out.1.trans (hb4.mono HG2.out.1.size); clear hb4))
  go_ret
  exact ⟨ret_int' HS.out.symm, HW4.out⟩
set_option maxHeartbeats 8000000 in
set_option maxRecDepth 100000 in
theorem sightOf_spec (g : Gr) (xs : List En) (a : Option Addr) (cap : Nat) (p : Option Addr) (cp : Nat) (s : Option Addr) (cs : Nat) (w : World) (h : RIn w g xs a s) (h2 : EvsAt w p g.pk) :
    Calls Tryz.prog 17 #[.agg #[.int .i64 g.room, .slice a g.evs.length cap, .slice p g.pk.length cp], .slice s xs.length cs] w fun e w' => e = .returned (.int .i64 (sigG g xs)) ∧ Below w.heap.size w w' := by
  have HB : Hid (∀ o, Below w.heap.size w (w.alloc o)) := fun o => (Below.refl _ _).alloc (Nat.le_refl _) o
  have HG : Hid (GBox w g a cap p cp (w.alloc (.cells #[.int .i64 g.room, .slice a g.evs.length cap, .slice p g.pk.length cp] 31))) := GBox.start w g a cap p cp
  have HGS := fun W (hW : Below w.heap.size w W) => graph_spec g a cap p cp W (h.evs.kept hW) (h2.kept hW)
  have HH : Hid (RIn w g xs a s) := h
  clear h h2
  cases hr : rightG g
  · have HS : Hid (sigG g xs = 0) := sigG_no (scene_nog hr)
    go_enter Tryz.func17, Tryz.ntmps17
    go_wp2_with (go_at_call 40; refine (HGS _ (HB.out _)).mono ?_; rintro e w1 ⟨rfl, hb1⟩; rw [hr]; have HG1 : Hid (GBox w g a cap p cp w1) := HG.out.on hb1; have hx0 : w1.cell? ⟨w.heap.size, 0, none⟩ = some (.int .i64 g.room) := cell_of_heap HG1.out.2; have hx1 : w1.cell? ⟨w.heap.size, 1, none⟩ = some (.slice a g.evs.length cap) := cell_of_heap HG1.out.2; have hx2 : w1.cell? ⟨w.heap.size, 2, none⟩ = some (.slice p g.pk.length cp) := cell_of_heap HG1.out.2; clear hb1)
    go_ret
    exact ⟨ret_int' HS.out.symm, HG1.out.1⟩
  have HSS := fun W (hW : Below w.heap.size w W) => state05_spec g xs a cap p cp s cs W (HH.out.kept hW).evs (HH.out.kept hW).ens (right_dup hr)
  cases hst : stateB g xs
  · have HS : Hid (sigG g xs = 0) := sigG_no (scene_nos hst)
    go_enter Tryz.func17, Tryz.ntmps17
    go_wp2_with (first
      | (go_at_call 40; refine (HGS _ (HB.out _)).mono ?_; rintro e w1 ⟨rfl, hb1⟩; rw [hr]; have HG1 : Hid (GBox w g a cap p cp w1) := HG.out.on hb1; have hx0 : w1.cell? ⟨w.heap.size, 0, none⟩ = some (.int .i64 g.room) := cell_of_heap HG1.out.2; have hx1 : w1.cell? ⟨w.heap.size, 1, none⟩ = some (.slice a g.evs.length cap) := cell_of_heap HG1.out.2; have hx2 : w1.cell? ⟨w.heap.size, 2, none⟩ = some (.slice p g.pk.length cp) := cell_of_heap HG1.out.2; clear hb1)
      | (go_at_call 44; refine (HSS _ HG1.out.1).mono ?_; rintro e w2 ⟨rfl, hb2⟩; rw [hst]; have HG2 : Hid (GBox w g a cap p cp w2) := HG1.out.on hb2; have hy0 : w2.cell? ⟨w.heap.size, 0, none⟩ = some (.int .i64 g.room) := cell_of_heap HG2.out.2; have hy1 : w2.cell? ⟨w.heap.size, 1, none⟩ = some (.slice a g.evs.length cap) := cell_of_heap HG2.out.2; have hy2 : w2.cell? ⟨w.heap.size, 2, none⟩ = some (.slice p g.pk.length cp) := cell_of_heap HG2.out.2; clear hb2))
    go_ret
    exact ⟨ret_int' HS.out.symm, HG2.out.1⟩
  have HSB : Hid (sceneB g xs = true) := scene_yes hr hst
  have HCC := fun W (hW : Below w.heap.size w W) => sight05_spec g xs a cap p cp s cs W (HH.out.kept hW) (sceneB_yes HSB.out)
  have HS : Hid (sigG g xs = sigR g.evs xs) := sigG_yes HSB.out
  go_enter Tryz.func17, Tryz.ntmps17
  go_wp2_with (first
    | (go_at_call 40; refine (HGS _ (HB.out _)).mono ?_; rintro e w1 ⟨rfl, hb1⟩; rw [hr]; have HG1 : Hid (GBox w g a cap p cp w1) := HG.out.on hb1; have hx0 : w1.cell? ⟨w.heap.size, 0, none⟩ = some (.int .i64 g.room) := cell_of_heap HG1.out.2; have hx1 : w1.cell? ⟨w.heap.size, 1, none⟩ = some (.slice a g.evs.length cap) := cell_of_heap HG1.out.2; have hx2 : w1.cell? ⟨w.heap.size, 2, none⟩ = some (.slice p g.pk.length cp) := cell_of_heap HG1.out.2; clear hb1)
    | (go_at_call 44; refine (HSS _ HG1.out.1).mono ?_; rintro e w2 ⟨rfl, hb2⟩; rw [hst]; have HG2 : Hid (GBox w g a cap p cp w2) := HG1.out.on hb2; have hy0 : w2.cell? ⟨w.heap.size, 0, none⟩ = some (.int .i64 g.room) := cell_of_heap HG2.out.2; have hy1 : w2.cell? ⟨w.heap.size, 1, none⟩ = some (.slice a g.evs.length cap) := cell_of_heap HG2.out.2; have hy2 : w2.cell? ⟨w.heap.size, 2, none⟩ = some (.slice p g.pk.length cp) := cell_of_heap HG2.out.2; clear hb2)
    | (go_at_call 56; refine (HCC _ HG2.out.1).mono ?_; rintro e w4 ⟨rfl, hb4⟩; have HW4 : Hid (Below w.heap.size w w4) := HG2.out.1.trans (hb4.mono HG2.out.1.size); clear hb4))
  go_ret
  exact ⟨ret_int' HS.out.symm, HW4.out⟩
theorem memG_same {g h : Gr} (hr : g.room = h.room) (he : g.evs.map (·.v) = h.evs.map (·.v)) (hp : g.pk.map (·.v) = h.pk.map (·.v)) (xs : List En) (u : Int) : memG g xs u = memG h xs u := by
  unfold memG memR
  rw [sceneB_same hr he hp, lastE_same he]
theorem levG_same {g h : Gr} (hr : g.room = h.room) (he : g.evs.map (·.v) = h.evs.map (·.v)) (hp : g.pk.map (·.v) = h.pk.map (·.v)) (xs : List En) (u : Int) : levG g xs u = levG h xs u := by
  unfold levG levR
  rw [sceneB_same hr he hp, lastE_same he, lastE_same he]
theorem sigG_same {g h : Gr} (hr : g.room = h.room) (he : g.evs.map (·.v) = h.evs.map (·.v)) (hp : g.pk.map (·.v) = h.pk.map (·.v)) (xs : List En) : sigG g xs = sigG h xs := by
  unfold sigG sigR
  rw [sceneB_same hr he hp, lastE_same he]
set_option maxHeartbeats 8000000 in
set_option maxRecDepth 100000 in
theorem memberOf_impl (g : Gr) (xs : List En) (u : Int) (a : Option Addr) (cap : Nat) (p : Option Addr) (cp : Nat) (s : Option Addr) (cs : Nat) (w : World) (h : RIn w g xs a s) (h2 : EvsAt w p g.pk) :
    Calls Tryz.prog 12 #[.agg #[.int .i64 g.room, .slice a g.evs.length cap, .slice p g.pk.length cp], .slice s xs.length cs, .int .i64 u] w fun e w' => e = .returned (.int .i64 (memG g xs u)) ∧ Below w.heap.size w w' := by
  have HB : Hid (∀ o, Below w.heap.size w (w.alloc o)) := fun o => (Below.refl _ _).alloc (Nat.le_refl _) o
  have HC := fun W (hW : Below w.heap.size w W) => sceneOf_impl g xs a cap p cp s cs W (h.kept hW) (h2.kept hW)
  clear h h2
  cases hr : sceneB g xs
  · have HS : Hid (memG g xs u = 0) := memG_no hr
    go_enter Tryz.func12, Tryz.ntmps12
    go_wp2_with fail
    refine (HC _ (HB.out _)).mono ?_
    rintro e w1 (⟨-, rfl, hb1⟩ | ⟨h1, -⟩)
    · have HW : Hid (∀ o, Below w.heap.size w (w1.alloc o)) := fun o => ((HB.out _).trans (hb1.mono (by simp))).alloc (by have := hb1.size; simp at this; omega) o
      clear hb1
      go_wp2
      go_ret
      exact ⟨ret_int' HS.out.symm, HW.out _⟩
    · rw [hr] at h1
      cases h1
  cases hu : isB u 1 6
  · have HS : Hid (memG g xs u = 0) := memG_nou hu
    go_enter Tryz.func12, Tryz.ntmps12
    go_wp2_with fail
    refine (HC _ (HB.out _)).mono ?_
    rintro e w1 (⟨h1, -⟩ | ⟨-, be, bs, rfl, hsc, hb1⟩)
    · rw [hr] at h1
      cases h1
    · have HW : Hid (∀ o, Below w.heap.size w (w1.alloc o)) := fun o => ((HB.out _).trans (hb1.mono (by simp))).alloc (by have := hb1.size; simp at this; omega) o
      have HA : Hid (∀ o, ScAt (w1.alloc o) g xs be bs) := fun o => hsc.kept ((Below.refl _ _).alloc (Nat.le_refl _) o)
      clear hb1 hsc
      go_wp2_with (go_at_call 50; refine (user_impl _ _).mono ?_; rintro e w3 ⟨rfl, rfl⟩; rw [hu])
      go_ret
      exact ⟨ret_int' HS.out.symm, HW.out _⟩
  have HS : Hid (memG g xs u = memR g.evs xs u) := memG_yes hr hu
  have HSC := sceneB_yes hr
  go_enter Tryz.func12, Tryz.ntmps12
  go_wp2_with fail
  refine (HC _ (HB.out _)).mono ?_
  rintro e w1 (⟨h1, -⟩ | ⟨-, be, bs, rfl, hsc, hb1⟩)
  · rw [hr] at h1
    cases h1
  · have HW : Hid (∀ o, Below w.heap.size w (w1.alloc o)) := fun o => ((HB.out _).trans (hb1.mono (by simp))).alloc (by have := hb1.size; simp at this; omega) o
    have HA : Hid (∀ o, ScAt (w1.alloc o) g xs be bs) := fun o => hsc.kept ((Below.refl _ _).alloc (Nat.le_refl _) o)
    clear hb1 hsc
    go_wp2_with (first | (go_at_call 50; refine (user_impl _ _).mono ?_; rintro e w3 ⟨rfl, rfl⟩; rw [hu]) | (go_at_call 51; refine (member_impl g xs be bs u (wf_user hu) _ (HA.out _) HSC).mono ?_; rintro e w4 ⟨rfl, hb4⟩; have HW4 : Hid (Below w.heap.size w w4) := (HW.out _).trans (hb4.mono (HW.out _).size); clear hb4))
    go_ret
    exact ⟨ret_int' HS.out.symm, HW4.out⟩
set_option maxHeartbeats 8000000 in
set_option maxRecDepth 100000 in
theorem levelOf_impl (g : Gr) (xs : List En) (u : Int) (a : Option Addr) (cap : Nat) (p : Option Addr) (cp : Nat) (s : Option Addr) (cs : Nat) (w : World) (h : RIn w g xs a s) (h2 : EvsAt w p g.pk) :
    Calls Tryz.prog 16 #[.agg #[.int .i64 g.room, .slice a g.evs.length cap, .slice p g.pk.length cp], .slice s xs.length cs, .int .i64 u] w fun e w' => e = .returned (.int .i64 (levG g xs u)) ∧ Below w.heap.size w w' := by
  have HB : Hid (∀ o, Below w.heap.size w (w.alloc o)) := fun o => (Below.refl _ _).alloc (Nat.le_refl _) o
  have HC := fun W (hW : Below w.heap.size w W) => sceneOf_impl g xs a cap p cp s cs W (h.kept hW) (h2.kept hW)
  clear h h2
  cases hr : sceneB g xs
  · have HS : Hid (levG g xs u = 0) := levG_no hr
    go_enter Tryz.func16, Tryz.ntmps16
    go_wp2_with fail
    refine (HC _ (HB.out _)).mono ?_
    rintro e w1 (⟨-, rfl, hb1⟩ | ⟨h1, -⟩)
    · have HW : Hid (∀ o, Below w.heap.size w (w1.alloc o)) := fun o => ((HB.out _).trans (hb1.mono (by simp))).alloc (by have := hb1.size; simp at this; omega) o
      clear hb1
      go_wp2
      go_ret
      exact ⟨ret_int' HS.out.symm, HW.out _⟩
    · rw [hr] at h1
      cases h1
  cases hu : isB u 1 6
  · have HS : Hid (levG g xs u = 0) := levG_nou hu
    go_enter Tryz.func16, Tryz.ntmps16
    go_wp2_with fail
    refine (HC _ (HB.out _)).mono ?_
    rintro e w1 (⟨h1, -⟩ | ⟨-, be, bs, rfl, hsc, hb1⟩)
    · rw [hr] at h1
      cases h1
    · have HW : Hid (∀ o, Below w.heap.size w (w1.alloc o)) := fun o => ((HB.out _).trans (hb1.mono (by simp))).alloc (by have := hb1.size; simp at this; omega) o
      have HA : Hid (∀ o, ScAt (w1.alloc o) g xs be bs) := fun o => hsc.kept ((Below.refl _ _).alloc (Nat.le_refl _) o)
      clear hb1 hsc
      go_wp2_with (go_at_call 50; refine (user_impl _ _).mono ?_; rintro e w3 ⟨rfl, rfl⟩; rw [hu])
      go_ret
      exact ⟨ret_int' HS.out.symm, HW.out _⟩
  have HS : Hid (levG g xs u = levR g.evs xs u) := levG_yes hr hu
  have HSC := sceneB_yes hr
  go_enter Tryz.func16, Tryz.ntmps16
  go_wp2_with fail
  refine (HC _ (HB.out _)).mono ?_
  rintro e w1 (⟨h1, -⟩ | ⟨-, be, bs, rfl, hsc, hb1⟩)
  · rw [hr] at h1
    cases h1
  · have HW : Hid (∀ o, Below w.heap.size w (w1.alloc o)) := fun o => ((HB.out _).trans (hb1.mono (by simp))).alloc (by have := hb1.size; simp at this; omega) o
    have HA : Hid (∀ o, ScAt (w1.alloc o) g xs be bs) := fun o => hsc.kept ((Below.refl _ _).alloc (Nat.le_refl _) o)
    clear hb1 hsc
    go_wp2_with (first | (go_at_call 50; refine (user_impl _ _).mono ?_; rintro e w3 ⟨rfl, rfl⟩; rw [hu]) | (go_at_call 55; refine (level_impl g xs be bs u (wf_user hu) _ (HA.out _) HSC).mono ?_; rintro e w4 ⟨rfl, hb4⟩; have HW4 : Hid (Below w.heap.size w w4) := (HW.out _).trans (hb4.mono (HW.out _).size); clear hb4))
    go_ret
    exact ⟨ret_int' HS.out.symm, HW4.out⟩
set_option maxHeartbeats 8000000 in
set_option maxRecDepth 100000 in
theorem sightOf_impl (g : Gr) (xs : List En) (a : Option Addr) (cap : Nat) (p : Option Addr) (cp : Nat) (s : Option Addr) (cs : Nat) (w : World) (h : RIn w g xs a s) (h2 : EvsAt w p g.pk) :
    Calls Tryz.prog 18 #[.agg #[.int .i64 g.room, .slice a g.evs.length cap, .slice p g.pk.length cp], .slice s xs.length cs] w fun e w' => e = .returned (.int .i64 (sigG g xs)) ∧ Below w.heap.size w w' := by
  have HB : Hid (∀ o, Below w.heap.size w (w.alloc o)) := fun o => (Below.refl _ _).alloc (Nat.le_refl _) o
  have HC := fun W (hW : Below w.heap.size w W) => sceneOf_impl g xs a cap p cp s cs W (h.kept hW) (h2.kept hW)
  clear h h2
  cases hr : sceneB g xs
  · have HS : Hid (sigG g xs = 0) := sigG_no hr
    go_enter Tryz.func18, Tryz.ntmps18
    go_wp2_with fail
    refine (HC _ (HB.out _)).mono ?_
    rintro e w1 (⟨-, rfl, hb1⟩ | ⟨h1, -⟩)
    · have HW : Hid (∀ o, Below w.heap.size w (w1.alloc o)) := fun o => ((HB.out _).trans (hb1.mono (by simp))).alloc (by have := hb1.size; simp at this; omega) o
      clear hb1
      go_wp2
      go_ret
      exact ⟨ret_int' HS.out.symm, HW.out _⟩
    · rw [hr] at h1
      cases h1
  have HS : Hid (sigG g xs = sigR g.evs xs) := sigG_yes hr
  have HSC := sceneB_yes hr
  go_enter Tryz.func18, Tryz.ntmps18
  go_wp2_with fail
  refine (HC _ (HB.out _)).mono ?_
  rintro e w1 (⟨h1, -⟩ | ⟨-, be, bs, rfl, hsc, hb1⟩)
  · rw [hr] at h1
    cases h1
  · have HW : Hid (∀ o, Below w.heap.size w (w1.alloc o)) := fun o => ((HB.out _).trans (hb1.mono (by simp))).alloc (by have := hb1.size; simp at this; omega) o
    have HA : Hid (∀ o, ScAt (w1.alloc o) g xs be bs) := fun o => hsc.kept ((Below.refl _ _).alloc (Nat.le_refl _) o)
    clear hb1 hsc
    go_wp2_with (go_at_call 57; refine (sight_impl g xs be bs _ (HA.out _) HSC).mono ?_; rintro e w4 ⟨rfl, hb4⟩; have HW4 : Hid (Below w.heap.size w w4) := (HW.out _).trans (hb4.mono (HW.out _).size); clear hb4)
    go_ret
    exact ⟨ret_int' HS.out.symm, HW4.out⟩
end Go.Proofs.YtjdkenopfnepaaaGreat
