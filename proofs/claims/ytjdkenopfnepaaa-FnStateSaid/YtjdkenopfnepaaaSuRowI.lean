/- What stands, as a row: the program's. -/
import Derived.Test.YtjdkenopfnepaaaSuKeys
namespace Go.Proofs.Ytjdkenopfnepaaa
open Go.RowKit

/-- The entries of some kinds and keys. -/
def entsOf (f : Slots) (ks : List (Int × Int)) : List En := ks.map fun p => ⟨p.1, p.2, (f p.1 p.2).getD 0⟩
theorem entsOf_take {f : Slots} {ks : List (Int × Int)} {k : Nat} (hk : k < ks.length) : entsOf f (ks.take (k + 1)) = entsOf f (ks.take k) ++ [⟨ks[k].1, ks[k].2, (f ks[k].1 ks[k].2).getD 0⟩] := by
  rw [List.take_succ_eq_append_getElem hk]
  simp only [entsOf, List.map_append, List.map_cons, List.map_nil]
theorem rowIs_ents {f : Slots} {ks : List (Int × Int)} (ho : Ordered ks) (hm : ∀ k y, (k, y) ∈ ks ↔ (f k y).isSome = true) : RowIs f (entsOf f ks) := by
  refine ⟨?_, fun e => ?_⟩
  · unfold Rises entsOf
    rw [List.pairwise_map]
    exact ho.imp fun h => lessB_iff.2 (lessP_iff.1 h)
  · unfold entsOf
    rw [List.mem_map]
    constructor
    · rintro ⟨⟨k, y⟩, hp, rfl⟩
      obtain ⟨v, hv⟩ := Option.isSome_iff_exists.1 ((hm k y).1 hp)
      simp [hv]
    · intro h
      refine ⟨(e.kind, e.key), (hm _ _).2 (by rw [h]; rfl), ?_⟩
      cases e
      simp_all
theorem SMap.keptw {w w' : World} {b n m : Nat} {f : Slots} (h : SMap w b n f) (hb : Below m w w') (hm : b < m) : SMap w' b n f := h.elim fun D h => ⟨D, by
  obtain ⟨es, clock, h1, r⟩ := h.1
  exact ⟨es, clock, (hb.block b hm).trans h1, r⟩, h.2⟩
def RowPost (w : World) (f : Slots) (n : Nat) (e : Ending) (w' : World) : Prop := ∃ v xs, e = .returned v ∧ RowIs f xs ∧ EnsOwn w' w.heap.size v xs ∧ xs.length ≤ n ∧ Below w.heap.size w w'
set_option maxHeartbeats 4000000 in
set_option maxRecDepth 100000 in
theorem row_of_impl (f : Slots) (b n : Nat) (w : World) (h : SMap w b n f) (hn : n ≤ 100000) :
    Calls Try.prog 78 #[.map (some b)] w (RowPost w f n) := by
  obtain ⟨i0, hi, hz0, hz1, hz2⟩ := info_parts Try.infoEn
  have HK := keys_impl f b n w h hn
  have hbl := h.lt
  have H : Hid (SMap w b n f) := h
  clear h
  go_enter Try.func78, Try.ntmps78
  go_wp2_with fail
  refine HK.mono ?_
  rintro e w1 ⟨g, c, ks, rfl, hlen, hg1, hsl, hord, hmem, hb1⟩
  have HSL : Hid (SlotsIn w1 g ks) := hsl
  have HOM : Hid (Ordered ks ∧ ∀ k y, (k, y) ∈ ks ↔ (f k y).isSome = true) := ⟨hord, hmem⟩
  have HB1 : Hid (Below w.heap.size w w1) := hb1
  have hz : w.heap.size ≤ w1.heap.size := hb1.size
  have HSM : Hid (∀ W, Below w1.heap.size w1 W → SMap W b n f) := fun W hW => (H.out.keptw hb1 hbl).kept hW
  have HDM : Hid (∀ k y v, f k y = some v → (Lit.int .i64 k).wf = true ∧ (Lit.int .i64 y).wf = true) := H.out.elim fun D hD => hD.2.dom
  clear hsl hord hmem hb1 HK
  go_wp2
  go_loopw [3, 5, 9] (fun v _ i wr => ∃ (k : Nat) (V : Value), k ≤ ks.length ∧ i = .int .i64 k ∧ V = v ∧ Hid (EnsOwn wr w1.heap.size V (entsOf f (ks.take k)) ∧ Below w1.heap.size w1 wr)) (fun _ _ i _ => ks.length - (intOf i).toNat)
  case atStart => exact ⟨0, _, Nat.zero_le _, rfl, rfl, EnsOwn.nil _ _, Below.refl _ _⟩
  case round =>
    obtain ⟨k, V, hk, rfl, rfl, HI⟩ := hrel
    by_cases hlt : k < ks.length
    · obtain ⟨kk, HKK⟩ : ∃ kk, Hid (kk = ks[k].1) := ⟨ks[k].1, (rfl : ks[k].1 = _)⟩
      obtain ⟨yy, HYY⟩ : ∃ yy, Hid (yy = ks[k].2) := ⟨ks[k].2, (rfl : ks[k].2 = _)⟩
      obtain ⟨zz, HZ⟩ : ∃ zz, Hid (zz = (f kk yy).getD 0) := ⟨(f kk yy).getD 0, (rfl : (f kk yy).getD 0 = _)⟩
      have hc0 : wr.cell? ⟨g, k * 2, none⟩ = some (.int .i64 kk) := by
        rw [HI.out.2.cell (p := ⟨g, k * 2, none⟩) hg1, HKK.out]
        exact HSL.out k hlt 0 (by omega)
      have hc1 : wr.cell? ⟨g, k * 2 + 1, none⟩ = some (.int .i64 yy) := by
        rw [HI.out.2.cell (p := ⟨g, k * 2 + 1, none⟩) hg1, HYY.out]
        exact HSL.out k hlt 1 (by omega)
      have HTK : Hid (entsOf f (ks.take (k + 1)) = entsOf f (ks.take k) ++ [⟨kk, yy, zz⟩]) := by
        unfold Hid
        rw [entsOf_take hlt, HZ.out, HKK.out, HYY.out]
      have HWF : Hid ((Lit.int .i64 kk).wf = true ∧ (Lit.int .i64 yy).wf = true) := by
        have h1 : (kk, yy) ∈ ks := by rw [HKK.out, HYY.out]; exact List.getElem_mem hlt
        obtain ⟨v, hv⟩ := Option.isSome_iff_exists.1 ((HOM.out.2 kk yy).1 h1)
        exact HDM.out _ _ _ hv
      have hzr : w1.heap.size ≤ wr.heap.size := HI.out.2.size
      have HSA : Hid (∀ o, SMap (wr.alloc o).drew b n f) := fun o => HSM.out _ ((HI.out.2.alloc hzr o).drew)
      have HBA : Hid (∀ o1 o2, Below w1.heap.size w1 (((wr.alloc o1).drew).alloc o2)) := fun o1 o2 => ((HI.out.2.alloc hzr o1).drew).alloc (by simp; omega) o2
      have HOA : Hid (∀ o1 o2, EnsOwn (((wr.alloc o1).drew).alloc o2) w1.heap.size V (entsOf f (ks.take k))) := fun o1 o2 => (HI.out.1.kept ((Below.refl _ _).alloc (Nat.le_refl _) o1)).kept (((Below.refl _ (wr.alloc o1)).drew).alloc (Nat.le_refl _) o2)
      have HEL : Hid ((entsOf f (ks.take k)).length ≤ 100000) := by unfold Hid entsOf; simp; omega
      have HVB : Hid (some wr.heap.size ≠ V.ownBlock) := by
        intro e
        rcases HI.out.1.2 with ⟨h1, _⟩ | ⟨q, _, _, h1, _, h2, _⟩
        · rw [h1] at e
          cases e
        · rw [h1] at e
          have e2 : wr.heap.size = q := by simpa [Value.ownBlock] using e
          have := (Array.getElem?_eq_some_iff.1 h2).1
          omega
      go_wp2
      refine wp_region_held_drew (S := (fun W => W.heap[wr.heap.size]? = some (.cells #[.int .i64 kk, .int .i64 yy] 114 (0, 0)) ∧ SMap W b n f)) (by kernel_rfl) ⟨(MapKept.heap_alloc wr _).1, HSA.out _⟩ (fun hHeld => ?_)
      refine wpAnyH_take (i := 0) (v := V) rfl (by kernel_rfl) (by kernel_rfl) (by kernel_rfl) (fun _ _ _ h => h) (Or.inl ⟨by kernel_rfl, ?_⟩) hHeld ?_
      · intro W hW
        go_simp
      refine wpAnyH_take (i := 1) (v := (.pointer (some ⟨wr.heap.size, 0, none⟩))) rfl (by kernel_rfl) (by kernel_rfl) (by kernel_rfl) (fun _ _ _ h => h) (Or.inl ⟨by kernel_rfl, ?_⟩) hHeld ?_
      · intro W hW
        go_simp
      refine wpAnyH_take (i := 2) (v := (.int .i64 kk)) rfl (by kernel_rfl) (by kernel_rfl) (by kernel_rfl) (fun _ _ _ h => h) (Or.inl ⟨by kernel_rfl, ?_⟩) hHeld ?_
      · intro W hW
        have f0 : W.cell? ⟨wr.heap.size, 0, none⟩ = some (.int .i64 kk) := cell_of_heap hW.1
        go_simp
      refine wpAnyH_take (i := 3) (v := (.pointer (some ⟨wr.heap.size, 1, none⟩))) rfl (by kernel_rfl) (by kernel_rfl) (by kernel_rfl) (fun _ _ _ h => h) (Or.inl ⟨by kernel_rfl, ?_⟩) hHeld ?_
      · intro W hW
        go_simp
      refine wpAnyH_take (i := 4) (v := (.int .i64 yy)) rfl (by kernel_rfl) (by kernel_rfl) (by kernel_rfl) (fun _ _ _ h => h) (Or.inl ⟨by kernel_rfl, ?_⟩) hHeld ?_
      · intro W hW
        have f1 : W.cell? ⟨wr.heap.size, 1, none⟩ = some (.int .i64 yy) := cell_of_heap hW.1
        go_simp
      refine wpAnyH_take (i := 5) (v := (.map (some b))) rfl (by kernel_rfl) (by kernel_rfl) (by kernel_rfl) (fun _ _ _ h => h) (Or.inl ⟨by kernel_rfl, ?_⟩) hHeld ?_
      · intro W hW
        go_simp
      refine wpAnyH_take (i := 6) (v := (.agg #[.int .i64 kk, .int .i64 yy])) rfl (by kernel_rfl) (by kernel_rfl) (by kernel_rfl) (fun _ _ _ h => h) (Or.inl ⟨by kernel_rfl, ?_⟩) hHeld ?_
      · intro W hW
        have f0 : W.cell? ⟨wr.heap.size, 0, none⟩ = some (.int .i64 kk) := cell_of_heap hW.1
        have f1 : W.cell? ⟨wr.heap.size, 1, none⟩ = some (.int .i64 yy) := cell_of_heap hW.1
        go_simp
      refine wpAnyH_take (i := 7) (v := (.int .i64 zz)) rfl (by kernel_rfl) (by kernel_rfl) (by kernel_rfl) (fun _ _ _ h => h) (Or.inl ⟨by kernel_rfl, ?_⟩) hHeld ?_
      · intro W hW
        have hlk := hW.2.look HWF.out.1 HWF.out.2
        rw [← HZ.out] at hlk
        go_simp
      refine wpAnyH_take (i := 8) (v := (.agg #[.int .i64 kk, .int .i64 yy, .int .i64 zz])) rfl (by kernel_rfl) (by kernel_rfl) (by kernel_rfl) (fun _ _ _ h => h) (Or.inl ⟨by kernel_rfl, ?_⟩) hHeld ?_
      · intro W hW
        go_simp
      refine wpAnyH_ready (rs := [9]) (by kernel_rfl) (by simp) ?_
      refine AllReadyH.cons rfl (fun K hK => ?_) AllReadyH.nil
      go_simp
      refine hK.out _ _ ⟨(Below.heap_alloc _ _ _ (by simp)).trans hHeld.1, hHeld.2.kept ((Below.refl _ _).alloc (Nat.le_refl _) _)⟩ (fun hH1 => ?_)
      clear hK K
      have hnb : (((wr.alloc (.cells #[.int .i64 kk, .int .i64 yy] 114)).drew).alloc (.cells #[.int .i64 kk, .int .i64 yy, .int .i64 zz] 40)).heap[wr.heap.size + 1]? = some (.cells #[.int .i64 kk, .int .i64 yy, .int .i64 zz] 40 (0, 0)) := new_blockC _ _ _ (by simp)
      refine wpAnyH_ready (rs := [10]) (by kernel_rfl) (by simp) ?_
      refine AllReadyH.cons rfl (fun K hK => ?_) AllReadyH.nil
      refine wp_append_own _ (.tmp 13) (.tmp 22) 38 rfl w1.heap.size 40 i0 _ 3 24 Try.underlying38 hi hz0 hz1 hz2 rfl (by decide) V (entsOf f (ks.take k)).length (ecs (entsOf f (ks.take k))) rfl (HOA.out _ _) ⟨wr.heap.size + 1, 0, none⟩ 1 1 (enCells ⟨kk, yy, zz⟩) rfl rfl (cells_at (vs := enCells ⟨kk, yy, zz⟩) hnb) (fun u hu => by simp [enCells] at hu; rcases hu with rfl | rfl | rfl <;> rfl) (by have := HEL.out; unfold maxLen; omega) (by have := HEL.out; omega) (by simp; omega) (fun V2 w2 hO2 hg2 hn2 => ?_)
      have HN2 : Hid (EnsOwn w2 w1.heap.size V2 (entsOf f (ks.take (k + 1))) ∧ Below w1.heap.size w1 w2) := ⟨by rw [HTK.out]; unfold EnsOwn; rw [ecs_append, List.length_append, ecs_one_cons]; exact hO2, (HBA.out _ _).trans (EnsOwn.below (HOA.out _ _) hg2 (HBA.out _ _).size)⟩
      have hs2 : w2.heap[wr.heap.size]? = some (.cells #[.int .i64 kk, .int .i64 yy] 114 (0, 0)) ∧ SMap w2 b n f := ⟨(hg2.block _ (by simp; omega) HVB.out).trans hH1.1, HSM.out _ HN2.out.2⟩
      clear hO2 hg2 hn2
      refine hK.out _ _ hs2 (fun hH2 => ?_)
      clear hK K
      refine wpAnyH_take (i := 11) (v := V2) rfl (by kernel_rfl) (by kernel_rfl) (by kernel_rfl) (fun _ _ _ h => h) (Or.inl ⟨by kernel_rfl, ?_⟩) hH2 ?_
      · intro W hW
        go_simp
      refine wpAnyH_done (by kernel_rfl) ?_ _
      simp only [Act.put, List.setIfInBounds_toArray, List.set_cons_zero, List.set_cons_succ, List.getElem_toArray, List.getElem_cons_zero, List.getElem_cons_succ]
      go_wp2
      go_roundw
      case rel => exact ⟨k + 1, V2, by omega, by go_num, rfl, HN2.out.1, HN2.out.2⟩
      case measure => simp [intOf]; omega
    · have HE : Hid (EnsOwn wr w.heap.size V (entsOf f ks)) := by
        have e : k = ks.length := by omega
        have h1 := HI.out.1
        rw [e, List.take_length] at h1
        exact owns_baseC h1 hz
      go_wp2
      go_ret
      exact ⟨_, entsOf f ks, rfl, rowIs_ents HOM.out.1 HOM.out.2, HE.out, by unfold entsOf; simpa using hlen, HB1.out.trans (HI.out.2.mono hz)⟩
end Go.Proofs.Ytjdkenopfnepaaa
