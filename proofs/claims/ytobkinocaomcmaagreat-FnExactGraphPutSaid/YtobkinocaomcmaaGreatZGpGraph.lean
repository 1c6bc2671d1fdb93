/- GraphPut of the program. -/
import Derived.Test.YtobkinocaomcmaaGreatZGpRowOf
import Derived.Test.YtobkinocaomcmaaGreatZGrChart
import Derived.Deep.RegionHeld3
namespace Go.Proofs.YtobkinocaomcmaaGreat
open Go.RowKit

/-- All that a row of one's own stands on lies below. -/
def OutUnder (mid : Nat) (v : Value) (rs : List Em) : Prop := (∀ g, v.ownBlock = some g → g < mid) ∧ ∀ m ∈ rs, 0 < m.v.prev.length → ∀ g, blkM m = some g → g < mid
theorem EvOut.under {base : Nat} {W : World} {v : Value} {rs : List Em} (h : EvOut base W v rs) : OutUnder W.heap.size v rs := by
  refine ⟨fun g hg => ?_, fun m hm hp g hg => ?_⟩
  · rcases h.own.2 with ⟨rfl, _⟩ | ⟨q, cap, cur, rfl, _, q3, _⟩
    · cases hg
    · have e2 : q = g := by simpa [Value.ownBlock] using hg
      subst e2
      exact (Array.getElem?_eq_some_iff.1 q3).1
  · obtain ⟨g1, e1, _, l1⟩ := h.blk hm hp
    unfold blkM at hg
    rw [e1] at hg
    obtain rfl : g1 = g := by simpa using hg
    exact l1
/-- Two rows of events of one's own, apart. -/
structure TwoOut (base : Nat) (W : World) (es ps : List Ev) (v1 v2 : Value) (r1 r2 : List Em) : Prop where
  same1 : vs r1 = es
  same2 : vs r2 = ps
  mid : ∃ mid, base ≤ mid ∧ OutUnder mid v1 r1 ∧ EvOut mid W v2 r2
  out1 : EvOut base W v1 r1
theorem TwoOut.kept {base : Nat} {W W' : World} {es ps : List Ev} {v1 v2 : Value} {r1 r2 : List Em} (h : TwoOut base W es ps v1 v2 r1 r2) (hb : Below W.heap.size W W') : TwoOut base W' es ps v1 v2 r1 r2 := by
  obtain ⟨mid, h1, h2, h3⟩ := h.mid
  exact ⟨h.same1, h.same2, ⟨mid, h1, h2, h3.kept hb⟩, h.out1.kept hb⟩
theorem EmsOwn.setLow {w : World} {base b o : Nat} {v u : Value} {xs : List Em} (h : EmsOwn w base v xs) (hb : b < base) : EmsOwn (w.setCell ⟨b, o, none⟩ u) base v xs := by
  refine ⟨h.1, ?_⟩
  rcases h.2 with h0 | ⟨g, cap, cur, h1, h2, h3, r⟩
  · exact .inl h0
  · exact .inr ⟨g, cap, cur, h1, h2, (Below.heap_setCell _ _ _ _ (by simp; omega)).trans h3, r⟩
theorem EvOut.set {base b o : Nat} {W : World} {v u : Value} {rs : List Em} (h : EvOut base W v rs) (hb : b < base) : EvOut base (W.setCell ⟨b, o, none⟩ u) v rs :=
  ⟨h.own.setLow hb, fun m hm => by
    refine ⟨(h.nums m hm).1, ?_⟩
    rcases (h.nums m hm).2 with h0 | ⟨g, cap, cur, h1, h2, h3, r⟩
    · exact .inl h0
    · exact .inr ⟨g, cap, cur, h1, h2, (Below.heap_setCell _ _ _ _ (by simp; omega)).trans h3, r⟩, h.apart⟩
theorem TwoOut.set {base b o : Nat} {W : World} {es ps : List Ev} {v1 v2 u : Value} {r1 r2 : List Em} (h : TwoOut base W es ps v1 v2 r1 r2) (hb : b < base) : TwoOut base (W.setCell ⟨b, o, none⟩ u) es ps v1 v2 r1 r2 := by
  obtain ⟨mid, h1, h2, h3⟩ := h.mid
  exact ⟨h.same1, h.same2, ⟨mid, h1, h2, h3.set (by omega)⟩, h.out1.set hb⟩
theorem TwoOut.low {base base2 : Nat} {W : World} {es ps : List Ev} {v1 v2 : Value} {r1 r2 : List Em} (h : TwoOut base W es ps v1 v2 r1 r2) (hb : base2 ≤ base) : TwoOut base2 W es ps v1 v2 r1 r2 := by
  obtain ⟨mid, h1, h2, h3⟩ := h.mid
  exact ⟨h.same1, h.same2, ⟨mid, by omega, h2, h3⟩, ⟨owns_baseC h.out1.own hb, fun m hm => owns_baseC (h.out1.nums m hm) hb, h.out1.apart⟩⟩
set_option maxHeartbeats 8000000 in
set_option maxRecDepth 100000 in
theorem graphOf_impl (be bp ne np : Nat) (es ps : List Em) (room : Int) (w : World) (h : ESt w be bp ne np es ps) :
    Calls Tryz.prog 54 #[.agg #[.map (some be), .map (some bp)], .int .i64 room] w fun e w' => ∃ a1 c1 a2 c2 r1 r2, e = .returned (.agg #[.int .i64 room, .slice a1 r1.length c1, .slice a2 r2.length c2]) ∧ TwoOut w.heap.size w' (vs es) (vs ps) (.slice a1 r1.length c1) (.slice a2 r2.length c2) r1 r2 ∧ Below w.heap.size w w' := by
  have hel := h.el
  have hpl := h.pl
  obtain ⟨w0, HW0⟩ : ∃ q, Hid (q = (w.alloc (.cells #[.map (some be), .map (some bp)] 76)).alloc (.cells #[.int .i64 0, .slice none 0 0, .slice none 0 0] 32)) := ⟨_, rfl⟩
  have H0 : Hid (ESt w0 be bp ne np es ps ∧ Below w.heap.size w w0 ∧ w0.heap[w.heap.size]? = some (.cells #[.map (some be), .map (some bp)] 76 (0, 0)) ∧ w0.heap[w.heap.size + 1]? = some (.cells #[.int .i64 0, .slice none 0 0, .slice none 0 0] 32 (0, 0))) := by
    rw [HW0.out]
    have hb : Below w.heap.size w ((w.alloc (.cells #[.map (some be), .map (some bp)] 76)).alloc (.cells #[.int .i64 0, .slice none 0 0, .slice none 0 0] 32)) := ((Below.refl _ _).alloc (Nat.le_refl _) _).alloc (by simp) _
    exact ⟨h.kept hb, hb, (Below.heap_alloc _ _ _ (by simp)).trans (MapKept.heap_alloc w _).1, new_blockC _ _ _ (by simp)⟩
  have hzw : w.heap.size + 1 < w0.heap.size := (Array.getElem?_eq_some_iff.1 H0.out.2.2.2).1
  clear h
  go_enter Tryz.func54, Tryz.ntmps54
  go_wp2
  rw [← HW0.out]
  refine wp_region_held_drew (S := (fun W => W.heap[w.heap.size]? = some (.cells #[.map (some be), .map (some bp)] 76 (0, 0)))) (by kernel_rfl) H0.out.2.2.1 (fun hHeld => ?_)
  refine wpAnyH_take (i := 0) (v := (.int .i64 room)) rfl (by kernel_rfl) (by kernel_rfl) (by kernel_rfl) (fun _ _ _ h => h) (Or.inl ⟨by kernel_rfl, ?_⟩) hHeld ?_
  · intro W hW
    go_simp
  refine wpAnyH_take (i := 1) (v := (.pointer (some ⟨w.heap.size, 0, none⟩))) rfl (by kernel_rfl) (by kernel_rfl) (by kernel_rfl) (fun _ _ _ h => h) (Or.inl ⟨by kernel_rfl, ?_⟩) hHeld ?_
  · intro W hW
    go_simp
  refine wpAnyH_take (i := 2) (v := (.map (some be))) rfl (by kernel_rfl) (by kernel_rfl) (by kernel_rfl) (fun _ _ _ h => h) (Or.inl ⟨by kernel_rfl, ?_⟩) hHeld ?_
  · intro W hW
    have f0 : W.cell? ⟨w.heap.size, 0, none⟩ = some (.map (some be)) := cell_of_heap hW
    go_simp
  refine wpAnyH_take (i := 4) (v := (.pointer (some ⟨w.heap.size, 1, none⟩))) rfl (by kernel_rfl) (by kernel_rfl) (by kernel_rfl) (fun _ _ _ h => h) (Or.inl ⟨by kernel_rfl, ?_⟩) hHeld ?_
  · intro W hW
    go_simp
  refine wpAnyH_take (i := 5) (v := (.map (some bp))) rfl (by kernel_rfl) (by kernel_rfl) (by kernel_rfl) (fun _ _ _ h => h) (Or.inl ⟨by kernel_rfl, ?_⟩) hHeld ?_
  · intro W hW
    have f1 : W.cell? ⟨w.heap.size, 1, none⟩ = some (.map (some bp)) := cell_of_heap hW
    go_simp
  refine wpAnyH_ready (rs := [3]) (by kernel_rfl) (by simp) ?_
  refine AllReadyH.cons rfl (fun K hK => ?_) AllReadyH.nil
  go_simp
  refine (rowOf_impl be ne es _ (H0.out.1.kept (Below.refl _ _).drew).e (fun m hm => (H0.out.1.kept (Below.refl _ _).drew).nums m (.inl hm)) (fun m hm => H0.out.1.ok m (.inl hm)) hel).mono ?_
  rintro e w1 ⟨v1, r1, rfl, hs1, ho1, hb1⟩
  have hl1 : r1.length = es.length := by rw [← vs_length, hs1, vs_length]
  obtain ⟨a1, c1, rfl, -, -, -⟩ := ho1.own.at (by omega)
  have HB1 : Hid (Below w0.heap.size w0 w1) := (Below.refl _ _).drew.trans hb1
  have H1 : Hid (ESt w1 be bp ne np es ps ∧ vs r1 = vs es ∧ EvOut w0.heap.size w1 (.slice a1 r1.length c1) r1) := ⟨H0.out.1.kept HB1.out, hs1, ho1⟩
  clear hb1 hs1 ho1
  refine hK.out _ _ ((HB1.out.block _ (by omega)).trans H0.out.2.2.1) (fun hH1 => ?_)
  clear hK K
  refine wpAnyH_ready (rs := [6]) (by kernel_rfl) (by simp) ?_
  refine AllReadyH.cons rfl (fun K hK => ?_) AllReadyH.nil
  go_simp
  refine (rowOf_impl bp np ps _ H1.out.1.p (fun m hm => H1.out.1.nums m (.inr hm)) (fun m hm => H1.out.1.ok m (.inr hm)) (by omega)).mono ?_
  rintro e w2 ⟨v2, r2, rfl, hs2, ho2, hb2⟩
  have hl2 : r2.length = ps.length := by rw [← vs_length, hs2, vs_length]
  obtain ⟨a2, c2, rfl, -, -, -⟩ := ho2.own.at (by omega)
  have HB2 : Hid (Below w0.heap.size w0 w2) := HB1.out.trans (hb2.mono HB1.out.size)
  have H2 : Hid (TwoOut w0.heap.size w2 (vs es) (vs ps) (.slice a1 r1.length c1) (.slice a2 r2.length c2) r1 r2) := ⟨H1.out.2.1, hs2, ⟨w1.heap.size, HB1.out.size, H1.out.2.2.under, ho2⟩, H1.out.2.2.kept hb2⟩
  clear hb2 hs2 ho2
  refine hK.out _ _ ((HB2.out.block _ (by omega)).trans H0.out.2.2.1) (fun hH2 => ?_)
  clear hK K
  refine wpAnyH_take (i := 7) (v := (.agg #[.int .i64 room, .slice a1 r1.length c1, .slice a2 r2.length c2])) rfl (by kernel_rfl) (by kernel_rfl) (by kernel_rfl) (fun _ _ _ h => h) (Or.inl ⟨by kernel_rfl, ?_⟩) hH2 ?_
  · intro W hW
    go_simp
  have hbx : w2.heap[w.heap.size + 1]? = some (.cells #[.int .i64 0, .slice none 0 0, .slice none 0 0] 32 (0, 0)) := (HB2.out.block _ hzw).trans H0.out.2.2.2
  have r0 : w2.cell? ⟨w.heap.size + 1, 0, none⟩ = some (.int .i64 0) := cell_of_heap hbx
  have r1c : w2.cell? ⟨w.heap.size + 1, 1, none⟩ = some (.slice none 0 0) := cell_of_heap hbx
  have r2c : w2.cell? ⟨w.heap.size + 1, 2, none⟩ = some (.slice none 0 0) := cell_of_heap hbx
  have fr : ∀ o, w2.frozen? ⟨w.heap.size + 1, o, none⟩ = false := fun o => frozen_of_heap hbx
  refine wpAnyH_ready (rs := [8]) (by kernel_rfl) (by simp) ?_
  refine AllReadyH.cons rfl (fun K hK => ?_) AllReadyH.nil
  go_simp
  refine hK.out _ _ ((Below.heap_setCell _ _ _ _ (by simp)).trans ((Below.heap_setCell _ _ _ _ (by simp)).trans ((Below.heap_setCell _ _ _ _ (by simp)).trans hH2))) (fun hH3 => ?_)
  clear hK K
  refine wpAnyH_done (by kernel_rfl) ?_ _
  go_wp2
  refine bodyPost_ret (v := .agg #[.int .i64 room, .slice a1 r1.length c1, .slice a2 r2.length c2]) (by simp [results, Tryz.results54, go_sem, r0, r1c, r2c, hl1, hl2]) rfl ⟨a1, c1, a2, c2, r1, r2, rfl, (((H2.out.set (by omega)).set (by omega)).set (by omega)).low (by omega), ((((H0.out.2.1.trans (HB2.out.mono H0.out.2.1.size)).setCell (by simp) _).setCell (by simp) _).setCell (by simp) _)⟩
theorem body_textG {v : Ev} (h : bodyB v = true) : v.text.size ≤ 30 := by
  have key : ∀ n : Nat, (n == 0) = true → n ≤ 30 := fun n h => by simp at h; omega
  unfold bodyB at h
  repeat' split at h
  all_goals (try simp only [Bool.and_eq_true] at h)
  all_goals first
    | exact key _ h.2
    | exact of_decide_eq_true h.2
    | cases h
theorem right_ok {m : Em} (h : rightB m.v = true) : OkM m := by
  obtain ⟨h1, h2⟩ := right_in h
  unfold rightB at h
  simp only [Bool.and_eq_true] at h
  refine ⟨h1, h2, body_textG h.2, ?_⟩
  have h3 := h.1.2
  unfold prevB at h3
  simp only [Bool.and_eq_true] at h3
  exact of_decide_eq_true h3.1.1
/-- What a right graph's rows are like. -/
theorem right_parts {g : Gr} (h : rightG g = true) : RisM g.evs ∧ RisM g.pk ∧ (∀ m, m ∈ g.evs ∨ m ∈ g.pk → OkM m) ∧ g.evs.length ≤ 60 ∧ g.pk.length ≤ 20 ∧ ∀ m ∈ g.evs, ∀ q ∈ g.pk, m.v.id ≠ q.v.id := by
  unfold rightG at h
  simp only [Bool.and_eq_true] at h
  obtain ⟨⟨⟨⟨⟨_, he⟩, hp⟩, hv⟩, _⟩, _⟩ := h
  refine ⟨rowB_risM he, rowB_risM hp, fun m hm => ?_, rowB_len he, rowB_len hp, fun m hm q hq e => ?_⟩
  · rcases hm with hm | hm
    · exact right_ok (rowB_each he hm).1
    · exact right_ok (rowB_each hp hm).1
  · have h1 := List.all_eq_true.1 hv m hm
    simp only [Bool.and_eq_true, decide_eq_true_eq] at h1
    have h2 : m.v.id ∈ idsOf g.pk := List.mem_map.2 ⟨q, hq, e.symm⟩
    have := atI_mem.2 h2
    omega
end Go.Proofs.YtobkinocaomcmaaGreat
