/- DepthOf, of the specification and of the program; the law on it walked. -/
import Derived.Test.YtegjdngkbofogaaGrWalk
import Derived.Test.YtegjdngkbofogaaGrChart
import Derived.Deep.RegionHeld
namespace Go.Proofs.Ytegjdngkbofogaa
open Go.RowKit

/-- What DepthOf answers. -/
def depG (g : Gr) (id : Int) : Int := if rightG g = true ∧ id ∈ idsOf g.evs then (dep (pvOf g.evs) (idsOf g.evs).length id : Int) else 0
theorem depG_bad {g : Gr} {id : Int} (h : rightG g = false) : depG g id = 0 := if_neg (by simp [h])
theorem depG_out {g : Gr} {id : Int} (h : id ∉ idsOf g.evs) : depG g id = 0 := if_neg (fun x => h x.2)
theorem depG_in {g : Gr} {id : Int} (h : rightG g = true) (hi : id ∈ idsOf g.evs) : depG g id = dep (pvOf g.evs) (idsOf g.evs).length id := if_pos ⟨h, hi⟩
theorem depG_same {g h : Gr} (hr : g.room = h.room) (he : g.evs.map (·.v) = h.evs.map (·.v)) (hp : g.pk.map (·.v) = h.pk.map (·.v)) (id : Int) : depG g id = depG h id := by
  have ei : idsOf g.evs = idsOf h.evs := by rw [idsOf_v, idsOf_v, he]
  have ep : pvOf g.evs = pvOf h.evs := funext fun id => by rw [pvOf_v, pvOf_v, he]
  unfold depG
  rw [rightG_same hr he hp, ei, ep]
/-- What is right: the parts. -/
theorem right_parts {g : Gr} (h : rightG g = true) : rowB g.evs g.room 60 = true ∧ rowB g.pk g.room 20 = true ∧ evsB g = true ∧ pkB g = true ∧ depB g = true := by
  unfold rightG at h
  simp only [Bool.and_eq_true] at h
  exact ⟨h.1.1.1.1.2, h.1.1.1.2, h.1.1.2, h.1.2, h.2⟩
set_option maxHeartbeats 4000000 in
set_option maxRecDepth 100000 in
theorem depthOf_spec (g : Gr) (id : Int) (a : Option Addr) (cap : Nat) (p : Option Addr) (cp : Nat) (w : World) (h : EvsAt w a g.evs) (h2 : EvsAt w p g.pk) :
    Calls Try.prog 29 #[.agg #[.int .i64 g.room, .slice a g.evs.length cap, .slice p g.pk.length cp], .int .i64 id] w fun e w' => e = .returned (.int .i64 (depG g id)) ∧ Below w.heap.size w w' := by
  have hl := h.len
  have HB : Hid (∀ o, Below w.heap.size w (w.alloc o)) := fun o => (Below.refl _ _).alloc (Nat.le_refl _) o
  have HE : Hid (∀ w', Below w.heap.size w w' → EvsAt w' a g.evs) := fun w' hb => h.kept hb
  have HG := fun o => graph_spec g a cap p cp (w.alloc o) (h.kept (HB.out o)) (h2.kept (HB.out o))
  clear h h2
  cases hr : rightG g
  · have HS : Hid (depG g id = 0) := depG_bad hr
    go_enter Try.func29, Try.ntmps29
    go_wp2_with (go_at_call 25; refine (HG _).mono ?_; rintro e w1 ⟨rfl, hb1⟩; rw [hr]; have HW1 : Hid (Below w.heap.size w w1) := (HB.out _).trans (hb1.mono (by simp)); clear hb1)
    go_ret
    exact ⟨ret_int HS.out.symm, HW1.out⟩
  · rcases atI_cases (idsOf g.evs) id with ⟨k, hk, hat, hkk⟩ | ⟨hat, hno⟩
    · have HS : Hid (depG g id = ((idsOf g.evs).map fun id => (dep (pvOf g.evs) (idsOf g.evs).length id : Int)).getD k 0) := by
        unfold Hid
        rw [depG_in hr (hkk ▸ List.getElem_mem hk)]
        simp only [List.getD, List.getElem?_map, List.getElem?_eq_getElem hk, Option.map_some, Option.getD_some, hkk]
      have hke : k < g.evs.length := by simpa [idsOf] using hk
      obtain ⟨z, HZ⟩ : ∃ z, Hid (z = ((idsOf g.evs).map fun id => (dep (pvOf g.evs) (idsOf g.evs).length id : Int)).getD k 0) := ⟨((idsOf g.evs).map fun id => (dep (pvOf g.evs) (idsOf g.evs).length id : Int)).getD k 0, (rfl : ((idsOf g.evs).map fun id => (dep (pvOf g.evs) (idsOf g.evs).length id : Int)).getD k 0 = _)⟩
      have HAT : Hid (atI (idsOf g.evs) id = k) := hat
      have HRP : Hid ((idsOf g.evs).Nodup ∧ ∀ m ∈ g.evs, ∀ p ∈ m.v.prev, p ∈ idsOf g.evs) := ⟨rowB_nodup (right_parts hr).1, evsB_prevs (right_parts hr).2.2.1⟩
      clear hk hat hkk
      go_enter Try.func29, Try.ntmps29
      go_wp2_with (first
        | (go_at_call 25; refine (HG _).mono ?_; rintro e w1 ⟨rfl, hb1⟩; rw [hr]; obtain ⟨hc1, hf1⟩ := bcell hb1; have hz1 : w.heap.size < w1.heap.size := (by have := hb1.size; simp at this; omega); have HW1 : Hid (Below w.heap.size w w1) := (HB.out _).trans (hb1.mono (by simp)); clear hb1)
        | (go_at_call 61; refine (at_spec g.evs id a cap _ (HE.out _ HW1.out)).mono ?_; rintro e w2 ⟨rfl, rfl⟩; rw [HAT.out]))
      have hx1 : w1.cell? ⟨w.heap.size, 1, none⟩ = some (.slice a g.evs.length cap) := by rw [hc1 _ _ (by simp)]; simp [go_sem]
      refine wp_region_held_drew (S := (fun W => Below w1.heap.size w1 W)) (by kernel_rfl) (Below.drew (Below.refl _ _)) (fun hHeld => ?_)
      refine wpAnyH_take (i := 0) (v := (.pointer (some ⟨w.heap.size, 1, none⟩))) rfl (by kernel_rfl) (by kernel_rfl) (by kernel_rfl) (fun _ _ _ h => h) (Or.inl ⟨by kernel_rfl, ?_⟩) hHeld ?_
      · intro W hW
        go_simp
      refine wpAnyH_take (i := 1) (v := (.slice a g.evs.length cap)) rfl (by kernel_rfl) (by kernel_rfl) (by kernel_rfl) (fun _ _ _ h => h) (Or.inl ⟨by kernel_rfl, ?_⟩) hHeld ?_
      · intro W hW
        have f := (hW.cell (p := ⟨w.heap.size, 1, none⟩) hz1).trans hx1
        go_simp
      refine wpAnyH_take (i := 3) (v := (.pointer (some ⟨w.heap.size, 1, none⟩))) rfl (by kernel_rfl) (by kernel_rfl) (by kernel_rfl) (fun _ _ _ h => h) (Or.inl ⟨by kernel_rfl, ?_⟩) hHeld ?_
      · intro W hW
        go_simp
      refine wpAnyH_take (i := 4) (v := (.slice a g.evs.length cap)) rfl (by kernel_rfl) (by kernel_rfl) (by kernel_rfl) (fun _ _ _ h => h) (Or.inl ⟨by kernel_rfl, ?_⟩) hHeld ?_
      · intro W hW
        have f := (hW.cell (p := ⟨w.heap.size, 1, none⟩) hz1).trans hx1
        go_simp
      refine wpAnyH_take (i := 5) (v := (.int .i64 id)) rfl (by kernel_rfl) (by kernel_rfl) (by kernel_rfl) (fun _ _ _ h => h) (Or.inl ⟨by kernel_rfl, ?_⟩) hHeld ?_
      · intro W hW
        go_simp
      refine wpAnyH_ready (rs := [2]) (by kernel_rfl) (by simp) ?_
      refine AllReadyH.cons rfl (fun K hK => ?_) AllReadyH.nil
      go_simp
      refine (depths_spec g.evs a cap _ (HE.out _ HW1.out.drew) HRP.out.1 HRP.out.2).mono ?_
      rintro e w3 ⟨rfl, ht3⟩
      have hzz : w3.cell? ⟨w1.heap.size, k, none⟩ = some (.int .i64 z) := by rw [HZ.out]; exact ht3.cell hke
      have hd3 : Below w1.heap.size w1 w3 := hHeld.trans ht3.below
      have HW3 : Hid (Below w.heap.size w w3) := HW1.out.trans (hd3.mono (Nat.le_of_lt hz1))
      clear ht3
      refine hK.out _ _ hd3 (fun hH3 => ?_)
      clear hK K
      refine wpAnyH_ready (rs := [6]) (by kernel_rfl) (by simp) ?_
      refine AllReadyH.cons rfl (fun K hK => ?_) AllReadyH.nil
      go_simp
      refine (at_spec g.evs id a cap _ (HE.out _ HW3.out)).mono ?_
      rintro e w4 ⟨rfl, rfl⟩
      rw [HAT.out]
      refine hK.out _ _ hH3 (fun hH4 => ?_)
      clear hK K
      refine wpAnyH_take (i := 7) (v := (.pointer (some ⟨w1.heap.size, k, none⟩))) rfl (by kernel_rfl) (by kernel_rfl) (by kernel_rfl) (fun _ _ _ h => h) (Or.inl ⟨by kernel_rfl, ?_⟩) hH4 ?_
      · intro W hW
        go_simp
      refine wpAnyH_ready (rs := [8]) (by kernel_rfl) (by simp) ?_
      refine AllReadyH.cons rfl (fun K hK => ?_) AllReadyH.nil
      go_simp
      refine hK.out _ _ hH4 (fun hH5 => ?_)
      clear hK K
      refine wpAnyH_take (i := 9) (v := (.int .i64 z)) rfl (by kernel_rfl) (by kernel_rfl) (by kernel_rfl) (fun _ _ _ h => h) (Or.inl ⟨by kernel_rfl, ?_⟩) hH5 ?_
      · intro W hW
        go_simp
      refine wpAnyH_done (by kernel_rfl) ?_ _
      simp only [Act.put, List.setIfInBounds_toArray, List.set_cons_zero, List.set_cons_succ, List.getElem_toArray, List.getElem_cons_zero, List.getElem_cons_succ]
      go_wp2
      go_ret
      exact ⟨ret_int (HZ.out.trans HS.out.symm), HW3.out⟩
    · have HS : Hid (depG g id = 0) := depG_out hno
      clear hno
      go_enter Try.func29, Try.ntmps29
      go_wp2_with (first
        | (go_at_call 25; refine (HG _).mono ?_; rintro e w1 ⟨rfl, hb1⟩; rw [hr]; obtain ⟨hc1, hf1⟩ := bcell hb1; have hz1 : w.heap.size < w1.heap.size := (by have := hb1.size; simp at this; omega); have HW1 : Hid (Below w.heap.size w w1) := (HB.out _).trans (hb1.mono (by simp)); clear hb1)
        | (go_at_call 61; refine (at_spec g.evs id a cap _ (HE.out _ HW1.out)).mono ?_; rintro e w2 ⟨rfl, rfl⟩; rw [hat]))
      go_ret
      exact ⟨ret_int HS.out.symm, HW1.out⟩
/-- A look into the table, without 'ok'. -/
theorem look_tab1 {w : World} {b n : Nat} {l : List (Int × Int)} (h : w.ownsMap Try.prog 2 heldR b n (putL l)) {id : Int} (hid : -9223372036854775808 ≤ id ∧ id ≤ 9223372036854775807) :
    (Instr.lookup 92 (.map (some b)) (.int .i64 id) false).run Try.prog w = .ok (.int .i64 ((look l id).getD 0)) w := by
  obtain ⟨v, ps, hrun, hv⟩ := h.lookup (Maps.int_keyed (P := Try.prog) Try.underlying2) Try.underlying92 (zero_i64 w) (zd := .held (.int .i64 0)) (zp := []) rfl (Maps.keyOf_int_mk Try.underlying2 (WalkArith.wf_i64 hid))
  rw [at_putL] at hv
  have hvz : v = .int .i64 ((look l id).getD 0) := by
    cases c : look l id with
    | none =>
      rw [c] at hv
      simp only [heldR, Option.some.injEq, Prod.mk.injEq, DataW.held.injEq] at hv
      exact hv.1
    | some x =>
      rw [c] at hv
      simp only [heldR, Option.some.injEq, Prod.mk.injEq, DataW.held.injEq] at hv
      exact hv.1
  rw [hrun, hvz]
theorem Chart.depth {w W : World} {g : Gr} {bc be bp bt : Nat} {l : List (Int × Int)} (h : Chart w g bc be bp bt l W) (hr : rightG g = true) (id : Int) : (look l id).getD 0 = depG g id := by
  have hap : AllPos (pvOf g.evs) (idsOf g.evs) := fun x hx => of_decide_eq_true (List.all_eq_true.1 (right_parts hr).2.2.2.2 x hx)
  by_cases hi : id ∈ idsOf g.evs
  · rw [h.done.depth hap hi, depG_in hr hi]
    rfl
  · rw [depG_out hi]
    cases c : look l id with
    | none => rfl
    | some v => exact absurd (h.done.tab.dom id v c) hi
set_option maxHeartbeats 4000000 in
set_option maxRecDepth 100000 in
theorem depthOf_impl (g : Gr) (id : Int) (hid : -9223372036854775808 ≤ id ∧ id ≤ 9223372036854775807) (a : Option Addr) (cap : Nat) (p : Option Addr) (cp : Nat) (w : World) (h : EvsAt w a g.evs) (h2 : EvsAt w p g.pk) :
    Calls Try.prog 30 #[.agg #[.int .i64 g.room, .slice a g.evs.length cap, .slice p g.pk.length cp], .int .i64 id] w fun e w' => e = .returned (.int .i64 (depG g id)) ∧ Below w.heap.size w w' := by
  have HB : Hid (∀ o, Below w.heap.size w (w.alloc o)) := fun o => (Below.refl _ _).alloc (Nat.le_refl _) o
  have HC := fun o => chart_impl g a cap p cp (w.alloc o) (h.kept (HB.out o)) (h2.kept (HB.out o))
  clear h h2
  cases hr : rightG g
  · have HS : Hid (depG g id = 0) := depG_bad hr
    go_enter Try.func30, Try.ntmps30
    go_wp2_with fail
    refine (HC _).mono ?_
    rintro e w1 (⟨_, rfl, hb1⟩ | ⟨h1, _⟩)
    · have HW : Hid (Below w.heap.size w w1) := (HB.out _).trans (hb1.mono (by simp))
      clear hb1
      go_wp2
      go_ret
      exact ⟨ret_int HS.out.symm, HW.out⟩
    · rw [hr] at h1
      cases h1
  · go_enter Try.func30, Try.ntmps30
    go_wp2_with fail
    refine (HC _).mono ?_
    rintro e w1 (⟨h1, _⟩ | ⟨_, bc, be, bp, bt, l, rfl, hch⟩)
    · rw [hr] at h1
      cases h1
    · have HW : Hid (Below w.heap.size w w1) := (HB.out _).trans (hch.below.mono (by simp))
      have HCH := hch.ch
      obtain ⟨d, HD⟩ : ∃ d, Hid (d = depG g id) := ⟨depG g id, (rfl : depG g id = _)⟩
      have HT : Hid (∀ W, Below w1.heap.size w1 W → (Instr.lookup 92 (.map (some bt)) (.int .i64 id) false).run Try.prog W = .ok (.int .i64 d) W) := fun W hW => by
        rw [HD.out, ← hch.depth hr id]
        exact look_tab1 (ownsMap_below hch.tab hW) hid
      have HTB := table_again be bp bc bt w1 hch.ch
      clear hch HCH
      go_wp2_with (go_at_call 66; refine HTB.mono ?_; rintro e w2 ⟨rfl, hb2⟩; have hlk := HT.out w2 hb2; have HW2 : Hid (Below w.heap.size w w2) := HW.out.trans (hb2.mono HW.out.size); clear hb2)
      go_ret
      exact ⟨ret_int HD.out, HW2.out⟩
end Go.Proofs.Ytegjdngkbofogaa
