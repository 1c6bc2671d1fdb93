/- The program's scene: whether a state is one of a graph; how it is made. MemberOf, LevelOf, SightOf of the specification and of the program (written by mk/mkrl3.py and mk/mkrl6.py). -/
import Derived.Test.YtdldblfopcbfeaaGreatDoorZRl4
import Derived.Test.YtdldblfopcbfeaaGreatDoorZGrOpen
import Derived.Test.YtdldblfopcbfeaaGreatDoorZStOpen
namespace Go.Proofs.YtdldblfopcbfeaaGreatDoor
open Go.RowKit

theorem eqin_slot (k1 y1 k2 y2 : Int) (W : World) : (Op.equalIn 10000 118 (.agg #[.int .i64 k1, .int .i64 y1]) (.agg #[.int .i64 k2, .int .i64 y2])).run Tryz.prog W = .ok (k1 == k2 && y1 == y2) W := by
  cases h1 : k1 == k2
  · go_simp
  · go_simp
    split <;> simp_all
set_option maxHeartbeats 8000000 in
set_option maxRecDepth 100000 in
theorem fits_impl (g : Gr) (xs : List En) (be bs : Nat) (w : World) (h : ScAt w g xs be bs) (hr : rightG g = true) (hx : rowE false xs = true) :
    Calls Tryz.prog 50 #[.agg #[.map (some be), .map (some bs)]] w fun e w' => e = .returned (.bool (fitsB g.evs xs)) ∧ Below w.heap.size w w' := by
  have H : Hid (ScAt w g xs be bs) := h
  have HI : Hid (∀ x ∈ xs.reverse, EnIn x) := fun x hx' => ((rowE_in hx).2.2 x (by simpa using hx')).1
  have HR : Hid (riseB xs = true) := (rowE_in hx).2.1
  have HD : Hid ((idsOf g.evs).Nodup) := right_dup hr
  have HK : Hid (∀ x ∈ xs, -9223372036854775808 ≤ x.id ∧ x.id ≤ 9223372036854775807) := fun x hx' => by have := rowE_kind hx hx'; omega
  have hbs := h.st.lt
  have HE1 : Hid ((w.alloc (.cells #[.map (some be), .map (some bs)] 60)).heap.size = w.heap.size + 1) := by unfold Hid; simp
  clear h hr hx
  have heq := eqin_slot
  go_enter Tryz.func50, Tryz.ntmps50
  go_wp2_with (at_range; refine wpList_range_own _ rfl _ 58 rfl 118 2 slot_keyed Tryz.underlying58 heldS bs xs.length (putS xs.reverse) rfl (H.out.st.alloc _) ?_; intro w0 hrg0 hg0 hs0)
  go_frame
  rw [HE1.out] at hrg0 hs0 ⊢
  have HB0 : Hid (SBox w be bs w0) := ⟨((Below.refl _ _).alloc (Nat.le_refl _) _).grown hg0 (by simp) (fun j hj => by cases hj), (hg0.block _ (by simp) (by simp)).trans (MapKept.heap_alloc w _).1⟩
  go_loopw [3, 4, 5] (fun _ _ _ wr => ∃ (left : Lit → Bool) (cnt : Nat), wr.ranges Tryz.prog 118 heldS bs (w.heap.size + 1) xs.length (putS xs.reverse) left cnt ∧ Hid (∀ x ∈ xs, left (slotLit x.kind x.key) = false → fitB g.evs x = true) ∧ Hid (SBox w be bs wr)) (fun _ _ _ wr => wr.rangeLeft bs (w.heap.size + 1))
  case atStart =>
    have h0 : ∀ x ∈ xs, Maps.has (putS xs.reverse) (slotLit x.kind x.key) = false → fitB g.evs x = true := fun x hx hf => by
      have hi := HI.out x (by simpa using hx)
      rw [has_putS hi.1 hi.2 _ HI.out, lookS_mem HR.out hx] at hf
      cases hf
    exact ⟨_, _, hrg0, h0, HB0⟩
  case round =>
    clear HB0 hrg0 hg0 hs0
    obtain ⟨left, cnt, hrg, HL, HB⟩ := hrel
    go_wp2_with (at_next; refine wpList_next_S rfl _ rfl bs (w.heap.size + 1) xs.length xs.reverse HI.out _ _ rfl hrg ?_ ?_)
    · intro hc0 hl0
      have HS : Hid (fitsB g.evs xs = true) := List.all_eq_true.2 fun x hx => HL.out x hx (hl0 _)
      clear hc0 hl0 HL hrg
      go_wp2
      go_ret
      exact ⟨ret_bool HS.out.symm, HB.out.1⟩
    · intro k y v w1 cnt1 wk wy hlk hlm hrg1 hlt hg1 hs1 hen
      obtain ⟨x, hx, e1, e2, e3⟩ := lookS_some hlk
      have hx : x ∈ xs := by simpa using hx
      subst e1 e2 e3
      have HB1 : Hid (SBox w be bs w1) := ⟨HB.out.1.grown hg1 HB.out.1.size (fun j hj => by cases hj; omega), (hg1.block _ HB.out.lt (by simp)).trans HB.out.2⟩
      have hc0 : w1.cell? ⟨w.heap.size, 0, none⟩ = some (.map (some be)) := cell_of_heap HB1.out.2
      have HR1 : Hid (w1.ranges Tryz.prog 118 heldS bs (w.heap.size + 1) xs.length (putS xs.reverse) (fun z => left z && !z.sameKey (slotLit x.kind x.key)) cnt1) := hrg1
      have HRO : Hid (wr.ranges Tryz.prog 118 heldS bs (w.heap.size + 1) xs.length (putS xs.reverse) left cnt) := hrg
      have hz0 : w.heap.size < w1.heap.size := HB1.out.lt
      have hn0 : ¬ w.heap.size = w1.heap.size := by omega
      obtain ⟨q, c, hlook⟩ := look_evIn g.evs HD.out x.id (HK.out x hx)
      obtain ⟨ev, HV⟩ : ∃ v, Hid (v = evIn g.evs x.id) := ⟨evIn g.evs x.id, (rfl : evIn g.evs x.id = _)⟩
      rw [← HV.out] at hlook
      have hrun := hlook (w1.alloc (.cells #[.int .i64 x.kind, .int .i64 x.key] 118)) be _ ((H.out.kept HB1.out.1).evs.alloc _)
      have HF : Hid (fitB g.evs x = ((ev.kind == x.kind) && (ev.key == x.key))) := by unfold Hid fitB; rw [HV.out]
      have HBB : Hid (∀ o1 o2, SBox w be bs ((w1.alloc o1).alloc o2)) := fun o1 o2 => (HB1.out.on ((Below.refl _ _).alloc (Nat.le_refl _) o1)).on ((Below.refl _ _).alloc (Nat.le_refl _) o2)
      have HXX : Hid (x ∈ xs) := hx
      clear hrg1 hrg hg1 hs1 hlm hlk hlook hx wk wy
      have hne : (x.kind == ev.kind && x.key == ev.key) = fitB g.evs x := by
        rw [HF.out, Bool.eq_iff_iff]
        simp only [Bool.and_eq_true, beq_iff_eq]
        exact ⟨fun h => ⟨h.1.symm, h.2.symm⟩, fun h => ⟨h.1.symm, h.2.symm⟩⟩
      cases hf : fitB g.evs x
      · have HS : Hid (fitsB g.evs xs = false) := List.all_eq_false.2 ⟨x, HXX.out, by simp [hf]⟩
        rw [hf] at hne
        go_wp2
        go_ret
        exact ⟨ret_bool HS.out.symm, (HBB.out _ _).1⟩
      · have HL2 : Hid (∀ u ∈ xs, (left (slotLit u.kind u.key) && !(slotLit u.kind u.key).sameKey (slotLit x.kind x.key)) = false → fitB g.evs u = true) := fun u hu hfu => by
          by_cases e : u = x
          · rw [e]; exact hf
          · refine HL.out u hu ?_
            have h2 : (slotLit u.kind u.key).sameKey (slotLit x.kind x.key) = false := by
              cases h3 : (slotLit u.kind u.key).sameKey (slotLit x.kind x.key)
              · rfl
              · have hi := HI.out u (by simpa using hu)
                have hj := HI.out x (by simpa using HXX.out)
                have h4 := slotLit_inj hi.1 hi.2 hj.1 hj.2 (WideAt.sameKey_eq h3)
                exact absurd (rise_uniq HR.out hu HXX.out h4.1 h4.2) e
            rw [h2] at hfu
            simpa using hfu
        have HR2 : Hid (∀ o1 o2, ((w1.alloc o1).alloc o2).ranges Tryz.prog 118 heldS bs (w.heap.size + 1) xs.length (putS xs.reverse) (fun z => left z && !z.sameKey (slotLit x.kind x.key)) cnt1) := fun o1 o2 => (HR1.out.alloc _).alloc _
        rw [hf] at hne
        go_wp2
        go_roundw
        case rel => exact ⟨_, cnt1, HR2.out _ _, HL2, HBB.out _ _⟩
        case measure => rw [(HR2.out _ _).left_eq, HRO.out.left_eq]; exact hlt
def ScenePost (w : World) (g : Gr) (xs : List En) (e : Ending) (w' : World) : Prop := (sceneB g xs = false ∧ e = .returned (.tuple #[.agg #[.map none, .map none], .bool false]) ∧ Below w.heap.size w w') ∨ (sceneB g xs = true ∧ ∃ be bs, e = .returned (.tuple #[.agg #[.map (some be), .map (some bs)], .bool true]) ∧ ScAt w' g xs be bs ∧ Below w.heap.size w w')
theorem scene_bad {g : Gr} {xs : List En} (h : (rightG g && rowE false xs) = false) : sceneB g xs = false := by
  unfold sceneB stateB
  rw [← Bool.and_assoc, h]
  rfl
theorem scene_fits {g : Gr} {xs : List En} (h : rightG g = true) (h2 : rowE false xs = true) : sceneB g xs = fitsB g.evs xs := by
  unfold sceneB stateB
  rw [h, h2]
  rfl
/-- The two variables of the making, and all that lay before. -/
structure MkAt (w : World) (g : Gr) (a : Option Addr) (cap : Nat) (p : Option Addr) (cp : Nat) (W : World) : Prop where
  below : Below w.heap.size w W
  box : W.heap[w.heap.size]? = some (.cells #[.int .i64 g.room, .slice a g.evs.length cap, .slice p g.pk.length cp] 35 (0, 0))
  res : W.heap[w.heap.size + 1]? = some (.cells #[.map none, .map none] 60 (0, 0))
theorem MkAt.on {w : World} {g : Gr} {a : Option Addr} {cap : Nat} {p : Option Addr} {cp : Nat} {W W' : World} (h : MkAt w g a cap p cp W) (hb : Below W.heap.size W W') : MkAt w g a cap p cp W' := ⟨h.below.trans (hb.mono h.below.size), (hb.block _ (Array.getElem?_eq_some_iff.1 h.box).1).trans h.box, (hb.block _ (Array.getElem?_eq_some_iff.1 h.res).1).trans h.res⟩
theorem MkAt.start (w : World) (g : Gr) (a : Option Addr) (cap : Nat) (p : Option Addr) (cp : Nat) : MkAt w g a cap p cp ((w.alloc (.cells #[.int .i64 g.room, .slice a g.evs.length cap, .slice p g.pk.length cp] 35)).alloc (.cells #[.map none, .map none] 60)) :=
  ⟨((Below.refl _ _).alloc (Nat.le_refl _) _).alloc (by simp) _, (Below.heap_alloc _ _ _ (by simp)).trans (MapKept.heap_alloc w _).1, by have := (MapKept.heap_alloc (w.alloc (.cells #[.int .i64 g.room, .slice a g.evs.length cap, .slice p g.pk.length cp] 35)) (.cells #[.map none, .map none] 60)).1; simpa using this⟩
set_option maxHeartbeats 8000000 in
set_option maxRecDepth 100000 in
theorem sceneOf_impl (g : Gr) (xs : List En) (a : Option Addr) (cap : Nat) (p : Option Addr) (cp : Nat) (s : Option Addr) (cs : Nat) (w : World) (h : RIn w g xs a s) (h2 : EvsAt w p g.pk) :
    Calls Tryz.prog 24 #[.agg #[.int .i64 g.room, .slice a g.evs.length cap, .slice p g.pk.length cp], .slice s xs.length cs] w (ScenePost w g xs) := by
  have HM := MkAt.start w g a cap p cp
  have HC := chart_impl g a cap p cp _ (h.evs.kept HM.below) (h2.kept HM.below)
  have HS := fun W (hW : Below w.heap.size w W) => standing_impl xs s cs W (h.ens.kept hW)
  have HM : Hid (MkAt w g a cap p cp ((w.alloc (.cells #[.int .i64 g.room, .slice a g.evs.length cap, .slice p g.pk.length cp] 35)).alloc (.cells #[.map none, .map none] 60))) := HM
  clear h h2
  cases hr : rightG g
  · have HX : Hid (sceneB g xs = false) := scene_nog hr
    go_enter Tryz.func24, Tryz.ntmps24
    go_wp2_with fail
    refine HC.mono ?_
    rintro e w1 (⟨-, rfl, hb1⟩ | ⟨h1, -⟩)
    · have HM1 : Hid (MkAt w g a cap p cp w1) := HM.out.on hb1
      clear hb1
      go_wp2_with fail
      refine (HS _ HM1.out.below).mono ?_
      rintro e w2 (⟨-, rfl, hb2⟩ | ⟨-, b, rfl, -, -, hb2⟩)
      · have HM2 : Hid (MkAt w g a cap p cp w2) := HM1.out.on hb2
        have hr0 : w2.cell? ⟨w.heap.size + 1, 0, none⟩ = some (.map none) := cell_of_heap HM2.out.res
        have hr1 : w2.cell? ⟨w.heap.size + 1, 1, none⟩ = some (.map none) := cell_of_heap HM2.out.res
        have hf0 : ∀ i, w2.frozen? ⟨w.heap.size + 1, i, none⟩ = false := fun i => frozen_of_heap HM2.out.res
        clear hb2
        go_wp2
        refine bodyPost_ret (v := .tuple #[.agg #[.map none, .map none], .bool false]) (by simp [results, Tryz.results24, go_sem, hr0, hr1]) rfl (.inl ⟨HX.out, rfl, ?_⟩)
        repeat refine Below.setCell ?_ (by simp) _
        exact HM2.out.below
      · have HM2 : Hid (MkAt w g a cap p cp w2) := HM1.out.on hb2
        have hr0 : w2.cell? ⟨w.heap.size + 1, 0, none⟩ = some (.map none) := cell_of_heap HM2.out.res
        have hr1 : w2.cell? ⟨w.heap.size + 1, 1, none⟩ = some (.map none) := cell_of_heap HM2.out.res
        have hf0 : ∀ i, w2.frozen? ⟨w.heap.size + 1, i, none⟩ = false := fun i => frozen_of_heap HM2.out.res
        clear hb2
        go_wp2
        refine bodyPost_ret (v := .tuple #[.agg #[.map none, .map none], .bool false]) (by simp [results, Tryz.results24, go_sem, hr0, hr1]) rfl (.inl ⟨HX.out, rfl, ?_⟩)
        repeat refine Below.setCell ?_ (by simp) _
        exact HM2.out.below
    · rw [hr] at h1
      cases h1
  · cases hx : rowE false xs
    · have HX : Hid (sceneB g xs = false) := scene_bad (by rw [hx]; simp)
      go_enter Tryz.func24, Tryz.ntmps24
      go_wp2_with fail
      refine HC.mono ?_
      rintro e w1 (⟨h1, -⟩ | ⟨-, bc, be, bp, bt, l, rfl, hch⟩)
      · rw [hr] at h1
        cases h1
      · have HM1 : Hid (MkAt w g a cap p cp w1) := HM.out.on hch.below
        clear hch
        go_wp2_with fail
        refine (HS _ HM1.out.below).mono ?_
        rintro e w2 (⟨-, rfl, hb2⟩ | ⟨h2, -⟩)
        · have HM2 : Hid (MkAt w g a cap p cp w2) := HM1.out.on hb2
          have hr0 : w2.cell? ⟨w.heap.size + 1, 0, none⟩ = some (.map none) := cell_of_heap HM2.out.res
          have hr1 : w2.cell? ⟨w.heap.size + 1, 1, none⟩ = some (.map none) := cell_of_heap HM2.out.res
          have hf0 : ∀ i, w2.frozen? ⟨w.heap.size + 1, i, none⟩ = false := fun i => frozen_of_heap HM2.out.res
          clear hb2
          go_wp2
          refine bodyPost_ret (v := .tuple #[.agg #[.map none, .map none], .bool false]) (by simp [results, Tryz.results24, go_sem, hr0, hr1]) rfl (.inl ⟨HX.out, rfl, ?_⟩)
          repeat refine Below.setCell ?_ (by simp) _
          exact HM2.out.below
        · rw [hx] at h2
          cases h2
    · have HXF : Hid (sceneB g xs = fitsB g.evs xs) := scene_fits hr hx
      go_enter Tryz.func24, Tryz.ntmps24
      go_wp2_with fail
      refine HC.mono ?_
      rintro e w1 (⟨h1, -⟩ | ⟨-, bc, be, bp, bt, l, rfl, hch⟩)
      · rw [hr] at h1
        cases h1
      · have HM1 : Hid (MkAt w g a cap p cp w1) := HM.out.on hch.below
        have HCH : Hid (w1.heap[bc]? = some (.cells #[.map (some be), .map (some bp), .int .u32 1, .int .i32 0, .int .u32 0, .map (some bt)] 103 (0, 0)) ∧ w1.ownsMap Tryz.prog 2 heldR be g.evs.length (putAll g.evs)) := ⟨hch.ch, hch.evs⟩
        clear hch
        go_wp2_with fail
        refine (HS _ HM1.out.below).mono ?_
        rintro e w2 (⟨h2, -⟩ | ⟨-, b, rfl, -, hown, hb2⟩)
        · rw [hx] at h2
          cases h2
        · have HM2 : Hid (MkAt w g a cap p cp w2) := HM1.out.on hb2
          have HA : Hid (ScAt w2 g xs be b) := ⟨ownsMap_below HCH.out.2 hb2, hown⟩
          have hbc : w2.cell? ⟨bc, 0, none⟩ = some (.map (some be)) := cell_of_heap ((hb2.block _ (Array.getElem?_eq_some_iff.1 HCH.out.1).1).trans HCH.out.1)
          clear hb2 hown HCH
          have HF := fun o => fits_impl g xs be b (w2.alloc o) (HA.out.kept ((Below.refl _ _).alloc (Nat.le_refl _) _)) hr hx
          cases hf : fitsB g.evs xs
          · go_wp2_with fail
            refine (HF _).mono ?_
            rintro e w3 ⟨rfl, hb3⟩
            rw [hf]
            have HM3 : Hid (MkAt w g a cap p cp w3) := (HM2.out.on ((Below.refl _ _).alloc (Nat.le_refl _) _)).on hb3
            have hr0 : w3.cell? ⟨w.heap.size + 1, 0, none⟩ = some (.map none) := cell_of_heap HM3.out.res
            have hr1 : w3.cell? ⟨w.heap.size + 1, 1, none⟩ = some (.map none) := cell_of_heap HM3.out.res
            have hf0 : ∀ i, w3.frozen? ⟨w.heap.size + 1, i, none⟩ = false := fun i => frozen_of_heap HM3.out.res
            clear hb3 HF
            go_wp2
            refine bodyPost_ret (v := .tuple #[.agg #[.map none, .map none], .bool false]) (by simp [results, Tryz.results24, go_sem, hr0, hr1]) rfl (.inl ⟨HXF.out.trans hf, rfl, ?_⟩)
            repeat refine Below.setCell ?_ (by simp) _
            exact HM3.out.below
          · go_wp2_with fail
            refine (HF _).mono ?_
            rintro e w3 ⟨rfl, hb3⟩
            rw [hf]
            have HM3 : Hid (MkAt w g a cap p cp w3) := (HM2.out.on ((Below.refl _ _).alloc (Nat.le_refl _) _)).on hb3
            have HA3 : Hid (ScAt w3 g xs be b) := (HA.out.kept ((Below.refl _ _).alloc (Nat.le_refl _) _)).kept hb3
            have hr0 : w3.cell? ⟨w.heap.size + 1, 0, none⟩ = some (.map none) := cell_of_heap HM3.out.res
            have hr1 : w3.cell? ⟨w.heap.size + 1, 1, none⟩ = some (.map none) := cell_of_heap HM3.out.res
            have hf0 : ∀ i, w3.frozen? ⟨w.heap.size + 1, i, none⟩ = false := fun i => frozen_of_heap HM3.out.res
            obtain ⟨hc3, hf3⟩ := bcell hb3
            clear hb3 HF
            go_wp2
            refine bodyPost_ret (v := .tuple #[.agg #[.map (some be), .map (some b)], .bool true]) (by simp [results, Tryz.results24, go_sem, hr0, hr1]) rfl (.inr ⟨HXF.out.trans hf, be, b, rfl, ?_, ?_⟩)
            · have n1 : be ≠ w.heap.size + 1 := fun e => map_ne_cells HA3.out.evs HM3.out.res e.symm
              have n2 : b ≠ w.heap.size + 1 := fun e => map_ne_cells HA3.out.st HM3.out.res e.symm
              exact ⟨(HA3.out.evs.setCell n1 _).setCell n1 _, (HA3.out.st.setCell n2 _).setCell n2 _⟩
            · repeat refine Below.setCell ?_ (by simp) _
              exact HM3.out.below
theorem evIn_same {es fs : List Em} (h : es.map (·.v) = fs.map (·.v)) (id : Int) : evIn es id = evIn fs id := by unfold evIn; rw [h]
theorem fitsB_same {es fs : List Em} (h : es.map (·.v) = fs.map (·.v)) (xs : List En) : fitsB es xs = fitsB fs xs := by
  have : fitB es = fitB fs := funext fun x => by unfold fitB; rw [evIn_same h]
  unfold fitsB
  rw [this]
theorem sceneB_same {g h : Gr} (hr : g.room = h.room) (he : g.evs.map (·.v) = h.evs.map (·.v)) (hp : g.pk.map (·.v) = h.pk.map (·.v)) (xs : List En) : sceneB g xs = sceneB h xs := by
  unfold sceneB stateB
  rw [rightG_same hr he hp, fitsB_same he]
theorem lastE_same {es fs : List Em} (h : es.map (·.v) = fs.map (·.v)) (xs : List En) (k y : Int) : lastE es xs k y = lastE fs xs k y := evIn_same h _
/-- The law's own variable, and all that lay before. -/
def LBox (w : World) (g : Gr) (a : Option Addr) (cap : Nat) (p : Option Addr) (cp : Nat) (W : World) : Prop := Below w.heap.size w W ∧ W.heap[w.heap.size]? = some (.cells #[.int .i64 g.room, .slice a g.evs.length cap, .slice p g.pk.length cp] 24 (0, 0))
theorem LBox.start (w : World) (g : Gr) (a : Option Addr) (cap : Nat) (p : Option Addr) (cp : Nat) : LBox w g a cap p cp (w.alloc (.cells #[.int .i64 g.room, .slice a g.evs.length cap, .slice p g.pk.length cp] 24)) := ⟨(Below.refl _ _).alloc (Nat.le_refl _) _, (MapKept.heap_alloc w _).1⟩
theorem LBox.on {w : World} {g : Gr} {a : Option Addr} {cap : Nat} {p : Option Addr} {cp : Nat} {W W' : World} (h : LBox w g a cap p cp W) (hb : Below W.heap.size W W') : LBox w g a cap p cp W' := ⟨h.1.trans (hb.mono h.1.size), (hb.block _ (Array.getElem?_eq_some_iff.1 h.2).1).trans h.2⟩
theorem LBox.lt {w : World} {g : Gr} {a : Option Addr} {cap : Nat} {p : Option Addr} {cp : Nat} {W : World} (h : LBox w g a cap p cp W) : w.heap.size < W.heap.size := (Array.getElem?_eq_some_iff.1 h.2).1
theorem LBox.cells {w : World} {g : Gr} {a : Option Addr} {cap : Nat} {p : Option Addr} {cp : Nat} {W : World} (h : LBox w g a cap p cp W) : W.cell? ⟨w.heap.size, 0, none⟩ = some (.int .i64 g.room) ∧ W.cell? ⟨w.heap.size, 1, none⟩ = some (.slice a g.evs.length cap) ∧ W.cell? ⟨w.heap.size, 2, none⟩ = some (.slice p g.pk.length cp) := ⟨cell_of_heap h.2, cell_of_heap h.2, cell_of_heap h.2⟩
/-- A copy of a graph, told by what it holds. -/
structure GCopy (g g' : Gr) (a' p' : Option Addr) (W : World) : Prop where
  room : g'.room = g.room
  el : g'.evs.length = g.evs.length
  pl : g'.pk.length = g.pk.length
  es : g'.evs.map (·.v) = g.evs.map (·.v)
  ps : g'.pk.map (·.v) = g.pk.map (·.v)
  evs : EvsAt W a' g'.evs
  pk : EvsAt W p' g'.pk
theorem GrNew.copy {w W : World} {g g' : Gr} {a' p' : Option Addr} (h : GrNew w g g' a' p' W) : GCopy g g' a' p' W := ⟨h.room, h.evs.len, h.pk.len, h.evs.same, h.pk.same, h.evs.row.at, h.pk.row.at⟩
theorem GCopy.kept {w W : World} {g g' : Gr} {a' p' : Option Addr} (h : GCopy g g' a' p' w) (hb : Below w.heap.size w W) : GCopy g g' a' p' W := ⟨h.room, h.el, h.pl, h.es, h.ps, h.evs.kept hb, h.pk.kept hb⟩
end Go.Proofs.YtdldblfopcbfeaaGreatDoor
namespace Go.Proofs.YtdldblfopcbfeaaGreatDoor
open Go.RowKit

def memG (g : Gr) (xs : List En) (u : Int) : Int := if sceneB g xs = true ∧ isB u 1 6 = true then memR g.evs xs u else 0
def levG (g : Gr) (xs : List En) (u : Int) : Int := if sceneB g xs = true ∧ isB u 1 6 = true then levR g.evs xs u else 0
def sigG (g : Gr) (xs : List En) : Int := if sceneB g xs = true then sigR g.evs xs else 0
theorem memG_no {g : Gr} {xs : List En} {u : Int} (h : sceneB g xs = false) : memG g xs u = 0 := if_neg (by simp [h])
theorem memG_nou {g : Gr} {xs : List En} {u : Int} (h : isB u 1 6 = false) : memG g xs u = 0 := if_neg (by simp [h])
theorem memG_yes {g : Gr} {xs : List En} {u : Int} (h : sceneB g xs = true) (hu : isB u 1 6 = true) : memG g xs u = memR g.evs xs u := if_pos ⟨h, hu⟩
theorem levG_no {g : Gr} {xs : List En} {u : Int} (h : sceneB g xs = false) : levG g xs u = 0 := if_neg (by simp [h])
theorem levG_nou {g : Gr} {xs : List En} {u : Int} (h : isB u 1 6 = false) : levG g xs u = 0 := if_neg (by simp [h])
theorem levG_yes {g : Gr} {xs : List En} {u : Int} (h : sceneB g xs = true) (hu : isB u 1 6 = true) : levG g xs u = levR g.evs xs u := if_pos ⟨h, hu⟩
theorem sigG_no {g : Gr} {xs : List En} (h : sceneB g xs = false) : sigG g xs = 0 := if_neg (by simp [h])
theorem sigG_yes {g : Gr} {xs : List En} (h : sceneB g xs = true) : sigG g xs = sigR g.evs xs := if_pos h
theorem memG_same {g h : Gr} (hr : g.room = h.room) (he : g.evs.map (·.v) = h.evs.map (·.v)) (hp : g.pk.map (·.v) = h.pk.map (·.v)) (xs : List En) (u : Int) : memG g xs u = memG h xs u := by
  unfold memG memR
  rw [sceneB_same hr he hp, lastE_same he]
theorem levG_same {g h : Gr} (hr : g.room = h.room) (he : g.evs.map (·.v) = h.evs.map (·.v)) (hp : g.pk.map (·.v) = h.pk.map (·.v)) (xs : List En) (u : Int) : levG g xs u = levG h xs u := by
  unfold levG levR
  rw [sceneB_same hr he hp, lastE_same he, lastE_same he]
theorem sigG_same {g h : Gr} (hr : g.room = h.room) (he : g.evs.map (·.v) = h.evs.map (·.v)) (hp : g.pk.map (·.v) = h.pk.map (·.v)) (xs : List En) : sigG g xs = sigG h xs := by
  unfold sigG sigR
  rw [sceneB_same hr he hp, lastE_same he]
end Go.Proofs.YtdldblfopcbfeaaGreatDoor
