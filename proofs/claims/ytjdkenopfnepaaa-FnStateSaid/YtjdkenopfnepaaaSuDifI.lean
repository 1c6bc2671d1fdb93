/- What one state differs from another one by: the program's maps. -/
import Derived.Test.YtjdkenopfnepaaaSuRowI
import Derived.Test.YtjdkenopfnepaaaSuDif
import Derived.Test.YtjdkenopfnepaaaSuDifLay
namespace Go.Proofs.Ytjdkenopfnepaaa
open Go.RowKit

/-- What is there when some of the keys have been looked at. -/
structure DInv (w : World) (f g : Slots) (Df : DataW Value) (n2 b3 : Nat) (left : Lit → Bool) (cnt : Nat) (W : World) : Prop where
  map : ∃ h n, SMap W b3 n h ∧ n + cnt ≤ n2 + Maps.size Df ∧ ∀ k y, h k y = if (f k y).isSome = true ∧ left (slotLit k y) = false then diffF f g k y else g k y
  below : Below w.heap.size w W
theorem dif_step {f g h : Slots} {left : Lit → Bool} {k y : Int} {x : En} {u : Option Int} (hf : (f k y).isSome = true) (hx : x.kind = k ∧ x.key = y) (hu : u = diffF f g k y) (hwf : ∀ k' y' v, f k' y' = some v → (Lit.int .i64 k').wf = true ∧ (Lit.int .i64 y').wf = true)
    (hh : ∀ k' y', h k' y' = if (f k' y').isSome = true ∧ left (slotLit k' y') = false then diffF f g k' y' else g k' y') :
    ∀ k' y', upd h x u k' y' = if (f k' y').isSome = true ∧ (left (slotLit k' y') && !(slotLit k' y').sameKey (slotLit k y)) = false then diffF f g k' y' else g k' y' := by
  intro k' y'
  obtain ⟨v, hv⟩ := Option.isSome_iff_exists.1 hf
  have hw := hwf _ _ _ hv
  by_cases e : x.kind = k' ∧ x.key = y'
  · obtain ⟨rfl, rfl⟩ : k = k' ∧ y = y' := ⟨hx.1.symm.trans e.1, hx.2.symm.trans e.2⟩
    have self : (slotLit k y).sameKey (slotLit k y) = true := WideAt.sameKey_self (by trivial)
    rw [if_pos ⟨hf, by rw [self]; simp⟩, ← hu, ← e.1, ← e.2, upd_same]
  · rw [upd_other _ _ _ e, hh]
    by_cases hs : (f k' y').isSome = true
    · obtain ⟨v', hv'⟩ := Option.isSome_iff_exists.1 hs
      have hw' := hwf _ _ _ hv'
      have h3 : (slotLit k' y').sameKey (slotLit k y) = false := by
        cases c : (slotLit k' y').sameKey (slotLit k y)
        · rfl
        · obtain ⟨rfl, rfl⟩ := slotLit_inj hw'.1 hw'.2 hw.1 hw.2 (WideAt.sameKey_eq c)
          exact absurd hx e
      rw [h3]
      simp
    · rw [if_neg (fun c => hs c.1), if_neg (fun c => hs c.1)]
theorem dif_skip {f g h : Slots} {left : Lit → Bool} {k y : Int} (hf : (f k y).isSome = true) (hu : g k y = diffF f g k y) (hl : left (slotLit k y) = true) (hwf : ∀ k' y' v, f k' y' = some v → (Lit.int .i64 k').wf = true ∧ (Lit.int .i64 y').wf = true)
    (hh : ∀ k' y', h k' y' = if (f k' y').isSome = true ∧ left (slotLit k' y') = false then diffF f g k' y' else g k' y') :
    ∀ k' y', h k' y' = if (f k' y').isSome = true ∧ (left (slotLit k' y') && !(slotLit k' y').sameKey (slotLit k y)) = false then diffF f g k' y' else g k' y' := by
  have h1 : h k y = diffF f g k y := by
    rw [hh, if_neg (fun c => by rw [hl] at c; cases c.2), hu]
  have h2 := dif_step (x := ⟨k, y, 0⟩) (u := diffF f g k y) hf ⟨rfl, rfl⟩ rfl hwf hh
  intro k' y'
  rw [← h2 k' y']
  by_cases e : k = k' ∧ y = y'
  · obtain ⟨rfl, rfl⟩ := e
    rw [h1]
    exact (upd_same h ⟨k, y, 0⟩ _).symm
  · exact (upd_other h ⟨k, y, 0⟩ _ e).symm
set_option maxHeartbeats 4000000 in
set_option maxRecDepth 100000 in
theorem changes_impl (f g : Slots) (b1 n1 b2 n2 : Nat) (w : World) (h1 : SMap w b1 n1 f) (h2 : SMap w b2 n2 g) (hf0 : ∀ k y v, f k y = some v → v ≠ 0) (hg0 : ∀ k y v, g k y = some v → v ≠ 0) (hn : n1 + n2 ≤ 100000) :
    Calls Try.prog 79 #[.map (some b1), .map (some b2)] w fun e w' => ∃ b3, e = .returned (.map (some b3)) ∧ SMap w' b3 (n2 + n1) (diffF f g) ∧ Below w.heap.size w w' := by
  obtain ⟨D2, hown2, hD2⟩ := h2
  have HCL : Calls Try.prog 117 #[.map (some b2)] w fun e w' => e = .returned (.map (some w.heap.size)) ∧ w'.ownsMap Try.prog 114 heldS w.heap.size n2 D2 ∧ w'.ownsMap Try.prog 114 heldS b2 n2 D2 ∧ Below w.heap.size w w' := AnyW.maps_Clone_owns Try.cloneS 114 heldS b2 n2 D2 w hown2
  obtain ⟨D1, hown1, hD1⟩ := h1
  have H1 : Hid (w.ownsMap Try.prog 114 heldS b1 n1 D1) := hown1
  have H2 : Hid (∀ W, Below w.heap.size w W → SMap W b2 n2 g) := fun W hW => SMap.kept ⟨D2, hown2, hD2⟩ hW
  have HD1 : Hid (MapIs D1 f) := hD1
  have HG : Hid (MapIs D2 g) := hD2
  have HN0 : Hid ((∀ k y v, f k y = some v → v ≠ 0) ∧ ∀ k y v, g k y = some v → v ≠ 0) := ⟨hf0, hg0⟩
  have hb1l := hown1.lt
  have hszD : Maps.size D1 ≤ n1 := hown1.size_le
  have HSZ : Hid (Maps.size D1 ≤ n1) := hszD
  clear hown1 hown2 hD1 hD2 hf0 hg0 hszD
  go_enter Try.func79, Try.ntmps79
  go_wp2_with fail
  refine HCL.mono ?_
  rintro e w1 ⟨rfl, ho3, -, hbw1⟩
  have HO3 : Hid (w1.ownsMap Try.prog 114 heldS w.heap.size n2 D2) := ho3
  have HB1 : Hid (Below w.heap.size w w1) := hbw1
  have H1' : Hid (w1.ownsMap Try.prog 114 heldS b1 n1 D1) := ownsMap_below' H1.out hbw1
  have h3lt := ho3.lt
  clear ho3 hbw1 HCL
  go_wp2_with (at_range; refine wpList_range_own _ rfl _ 103 rfl 114 2 slot_keyed Try.underlying103 heldS b1 n1 D1 rfl H1'.out ?_; intro w5 hrg5 hg5 hs5)
  go_frame
  have HI0 : Hid (DInv w f g D1 n2 w.heap.size (Maps.has D1) (Maps.size D1) w5) := by
    refine ⟨⟨g, n2, ⟨D2, HO3.out.kept hg5 (by simp), HG.out⟩, Nat.le_refl _, fun k y => ?_⟩, HB1.out.grown hg5 HB1.out.size (fun k h => by cases h)⟩
    rw [if_neg]
    rintro ⟨c1, c2⟩
    obtain ⟨v, hv⟩ := Option.isSome_iff_exists.1 c1
    have hw := HD1.out.dom _ _ _ hv
    rw [HD1.out.has hw.1 hw.2, c1] at c2
    cases c2
  have hrw : w.heap.size < w1.heap.size := h3lt
  obtain ⟨r, HR⟩ : ∃ r, Hid (r = w1.heap.size) := ⟨w1.heap.size, (rfl : w1.heap.size = _)⟩
  rw [← HR.out] at hrg5 ⊢
  rw [← HR.out] at hrw
  go_loopw [6, 7] (fun _ _ wr => ∃ (left : Lit → Bool) (cnt : Nat), wr.ranges Try.prog 114 heldS b1 r n1 D1 left cnt ∧ Hid (DInv w f g D1 n2 w.heap.size left cnt wr)) (fun _ _ wr => wr.rangeLeft b1 r)
  case atStart => exact ⟨_, _, hrg5, HI0⟩
  case round =>
    clear HI0 hrg5 hg5 hs5 HO3 HB1 H1' H1
    obtain ⟨left, cnt, hrg, HI⟩ := hrel
    go_wp2_with (at_next; refine wpList_next_M rfl _ rfl b1 r n1 D1 f HD1.out _ _ rfl hrg ?_ ?_)
    · intro hc0 hl0
      have HF : Hid (SMap wr w.heap.size (n2 + n1) (diffF f g)) := by
        obtain ⟨h, n, hm, hnn, hh⟩ := HI.out.map
        have e : h = diffF f g := by
          funext k y
          rw [hh]
          by_cases c : (f k y).isSome = true
          · rw [if_pos ⟨c, hl0 _⟩]
          · rw [if_neg (fun q => c q.1)]
            have c2 : f k y = none := by simpa using c
            unfold diffF
            rw [c2]
            cases g k y <;> simp
        rw [← e]
        exact hm.elim fun D hD => ⟨D, hD.1.mono (by have := HSZ.out; omega), hD.2⟩
      clear hc0 hl0 hrg
      go_wp2
      go_ret
      exact ⟨_, rfl, HF.out, HI.out.below⟩
    · intro k y v w1' cnt1 wk wy hlv hlk hrg1 hlt hg1 hs1 hen
      obtain ⟨h, n, ⟨D3, hown3, hD3⟩, hnn, hh⟩ := HI.out.map
      have hzr := HI.out.below.size
      have hb1w : Below w.heap.size w w1' := HI.out.below.grown hg1 hzr (fun q e => by cases e; omega)
      have HBA : Hid (∀ o, Below w.heap.size w (w1'.alloc o)) := fun o => hb1w.alloc hb1w.size o
      have HOA : Hid (∀ o, (w1'.alloc o).ownsMap Try.prog 114 heldS w.heap.size n D3) := fun o => (hown3.kept hg1 (fun e => by cases e; omega)).alloc o
      have HRG : Hid (∀ o, (w1'.alloc o).ranges Try.prog 114 heldS b1 r n1 D1 (fun z => left z && !z.sameKey (slotLit k y)) cnt1) := fun o => hrg1.alloc o
      have HKEY : Hid (keyOf Try.prog 114 (.agg #[.int .i64 k, .int .i64 y]) = some (slotLit k y)) := keyOf_slot wk wy
      have HXI : Hid (EnIn ⟨k, y, 0⟩) := ⟨wk, wy⟩
      have HLE : Hid (wr.rangeLeft b1 r = cnt) := hrg.left_eq
      have HFK : Hid (f k y = some v ∧ (f k y).isSome = true ∧ left (slotLit k y) = true) := ⟨hlv, by rw [hlv]; rfl, hlk⟩
      have HHD : Hid (MapIs D3 h ∧ n + cnt ≤ n2 + Maps.size D1 ∧ ∀ k y, h k y = if (f k y).isSome = true ∧ left (slotLit k y) = false then diffF f g k y else g k y) := ⟨hD3, hnn, hh⟩
      have hnl : n < maxLen := by have := HSZ.out; unfold maxLen; omega
      obtain ⟨z, HZ⟩ : ∃ z, Hid (z = (g k y).getD 0) := ⟨(g k y).getD 0, (rfl : (g k y).getD 0 = _)⟩
      have hlk2 : ∀ o, (Instr.lookup 103 (.map (some b2)) (.agg #[.int .i64 k, .int .i64 y]) false).run Try.prog (w1'.alloc o) = .ok (.int .i64 z) (w1'.alloc o) := fun o => by
        rw [HZ.out]
        exact (H2.out _ (HBA.out o)).look wk wy
      have hvz : v ≠ 0 := HN0.out.1 _ _ _ hlv
      have HVZ : Hid (v ≠ 0) := hvz
      clear hrg hrg1 hg1 hs1 hlv hlk wk wy hown3 hD3 hnn hh hb1w hvz
      cases e1 : (z == v)
      · cases e2 : (z == 0)
        · have HU : Hid (g k y = diffF f g k y) := by
            unfold Hid diffF
            cases c : g k y with
            | none => rw [HZ.out, c] at e2; simp at e2
            | some u =>
              have ez : z = u := by rw [HZ.out, c]; rfl
              have : ¬ f k y = some u := fun q => by rw [HFK.out.1] at q; rw [ez] at e1; simp at q; simp [q] at e1
              simp [this]
          have H3 : Hid (∀ o, DInv w f g D1 n2 w.heap.size (fun z => left z && !z.sameKey (slotLit k y)) cnt1 (w1'.alloc o)) := fun o => ⟨⟨h, n, ⟨D3, HOA.out o, HHD.out.1⟩, by have := HHD.out.2.1; omega, dif_skip HFK.out.2.1 HU.out HFK.out.2.2 HD1.out.dom HHD.out.2.2⟩, HBA.out o⟩
          go_wp2
          go_roundw
          case rel => exact ⟨_, _, HRG.out _, H3.out _⟩
          case measure => rw [(HRG.out _).left_eq, HLE.out]; exact hlt
        · have HU : Hid (some 0 = diffF f g k y) := by
            unfold Hid diffF
            cases c : g k y with
            | none => simp [HFK.out.2.1]
            | some u =>
              have ez : z = u := by rw [HZ.out, c]; rfl
              have := HN0.out.2 _ _ _ c
              rw [ez] at e2
              simp at e2
              exact absurd e2 this
          have HPU : Hid (MapIs (D3.put (slotLit k y) (.held (.int .i64 0))) (upd h ⟨k, y, 0⟩ (some 0)) ∧ ∀ k' y', upd h ⟨k, y, 0⟩ (some 0) k' y' = if (f k' y').isSome = true ∧ (left (slotLit k' y') && !(slotLit k' y').sameKey (slotLit k y)) = false then diffF f g k' y' else g k' y') := ⟨HHD.out.1.put (x := ⟨k, y, 0⟩) HXI.out, dif_step (x := ⟨k, y, 0⟩) HFK.out.2.1 ⟨rfl, rfl⟩ HU.out HD1.out.dom HHD.out.2.2⟩
          obtain rfl : z = 0 := by simpa using e2
          clear e2
          go_wp2_with (at_mapUpdate; refine wpList_mapUpdate_own _ rfl _ _ _ 103 rfl 114 2 slot_keyed Try.underlying103 heldS w.heap.size n D3 rfl (HOA.out _) hnl _ _ _ rfl rfl HKEY.out (.held (.int .i64 0)) [] rfl ?_; intro w3 ho3 hg3; have H3 : Hid (DInv w f g D1 n2 w.heap.size (fun z => left z && !z.sameKey (slotLit k y)) cnt1 w3 ∧ w3.ranges Try.prog 114 heldS b1 r n1 D1 (fun z => left z && !z.sameKey (slotLit k y)) cnt1) := ⟨⟨⟨upd h ⟨k, y, 0⟩ (some 0), n + 1, ⟨_, ho3, HPU.out.1⟩, (by have := HHD.out.2.1; omega), HPU.out.2⟩, (HBA.out _).grown hg3 (HBA.out _).size (fun q e => by cases e; exact Nat.le_refl _)⟩, (HRG.out _).kept hg3 (fun e => by cases e; omega) (fun e => by cases e; omega)⟩; clear ho3 hg3; go_frame)
          go_roundw
          case rel => exact ⟨_, _, H3.out.2, H3.out.1⟩
          case measure => rw [H3.out.2.left_eq, HLE.out]; exact hlt
      · have HU : Hid (none = diffF f g k y) := by
          have ezv : z = v := by simpa using e1
          unfold Hid diffF
          cases c : g k y with
          | none =>
            have : z = 0 := by rw [HZ.out, c]; rfl
            exact absurd (ezv.symm.trans this) HVZ.out
          | some u =>
            have ez : z = u := by rw [HZ.out, c]; rfl
            simp [HFK.out.1, ← ez, ezv]
        have HPU : Hid (MapIs (D3.del (slotLit k y)) (upd h ⟨k, y, 0⟩ none) ∧ ∀ k' y', upd h ⟨k, y, 0⟩ none k' y' = if (f k' y').isSome = true ∧ (left (slotLit k' y') && !(slotLit k' y').sameKey (slotLit k y)) = false then diffF f g k' y' else g k' y') := ⟨HHD.out.1.del (x := ⟨k, y, 0⟩) HXI.out, dif_step (x := ⟨k, y, 0⟩) HFK.out.2.1 ⟨rfl, rfl⟩ HU.out HD1.out.dom HHD.out.2.2⟩
        obtain rfl : z = v := by simpa using e1
        clear e1
        go_wp2_with (at_delete; refine wpList_delete_own _ rfl _ _ 103 114 rfl 2 slot_keyed Try.underlying103 heldS w.heap.size n D3 rfl (HOA.out _) _ _ rfl HKEY.out ?_; intro w3 ho3 ht3; have H3 : Hid (DInv w f g D1 n2 w.heap.size (fun z => left z && !z.sameKey (slotLit k y)) cnt1 w3 ∧ w3.ranges Try.prog 114 heldS b1 r n1 D1 (fun z => left z && !z.sameKey (slotLit k y)) cnt1) := ⟨⟨⟨upd h ⟨k, y, 0⟩ none, n, ⟨_, ho3, HPU.out.1⟩, (by have := HHD.out.2.1; omega), HPU.out.2⟩, (HBA.out _).grown ht3.grown (HBA.out _).size (fun q e => by cases e; exact Nat.le_refl _)⟩, (HRG.out _).kept ht3.grown (fun e => by cases e; omega) (fun e => by cases e; omega)⟩; clear ho3 ht3; go_frame)
        go_roundw
        case rel => exact ⟨_, _, H3.out.2, H3.out.1⟩
        case measure => rw [H3.out.2.left_eq, HLE.out]; exact hlt
end Go.Proofs.Ytjdkenopfnepaaa
