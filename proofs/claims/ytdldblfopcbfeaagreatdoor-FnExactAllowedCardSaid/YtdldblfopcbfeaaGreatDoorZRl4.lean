/- The program's scene: the event by which it stands so, who is in, levels, sight. -/
import Derived.Test.YtdldblfopcbfeaaGreatDoorZRl2
import Derived.Deep.RegionHeld
namespace Go.Proofs.YtdldblfopcbfeaaGreatDoor
open Go.RowKit

/-- A look into the events by any Id: the event of that Id, or none. -/
theorem look_evIn (es : List Em) (hd : (idsOf es).Nodup) (id : Int) (hid : -9223372036854775808 ≤ id ∧ id ≤ 9223372036854775807) : ∃ (q : Option Addr) (c : Nat), ∀ (W : World) (b n : Nat), W.ownsMap Tryz.prog 2 heldR b n (putAll es) →
    (Instr.lookup 56 (.map (some b)) (.int .i64 id) false).run Tryz.prog W = .ok (.agg #[.int .i64 (evIn es id).id, .int .i64 (evIn es id).room, .int .i64 (evIn es id).author, .int .i64 (evIn es id).kind, .int .i64 (evIn es id).key, .int .i64 (evIn es id).n, .string (evIn es id).text, .slice q (evIn es id).prev.length c, .int .i64 (evIn es id).time]) W := by
  by_cases hin : id ∈ idsOf es
  · obtain ⟨m, hm, rfl⟩ := List.mem_map.1 hin
    refine ⟨m.p, m.c, fun W b n h => ?_⟩
    obtain ⟨v, ps, hrun, hv⟩ := h.lookup (Maps.int_keyed (P := Tryz.prog) Tryz.underlying2) Tryz.underlying56 (zero_event W) (zd := .held zeroVal) (zp := []) rfl (Maps.keyOf_int_mk Tryz.underlying2 (WalkArith.wf_i64 hid))
    rcases at_fold_putAll m.v.id es (.map []) ⟨[], rfl⟩ with ⟨h1, _⟩ | ⟨m', hm', h1, h2⟩
    · exact absurd hin h1
    · have e : (putAll es).atKey (.int .i64 m.v.id) (.held zeroVal) = .held (emVal m') := h2 _
      rw [e] at hv
      have hvz : v = emVal m' := by
        simp only [heldR, Option.some.injEq, Prod.mk.injEq, DataW.held.injEq] at hv
        exact hv.1
      rw [hrun, hvz, em_same hd hm' hm h1, evIn_some hd hm]
      rfl
  · refine ⟨none, 0, fun W b n h => ?_⟩
    obtain ⟨v, ps, hrun, hv⟩ := h.lookup (Maps.int_keyed (P := Tryz.prog) Tryz.underlying2) Tryz.underlying56 (zero_event W) (zd := .held zeroVal) (zp := []) rfl (Maps.keyOf_int_mk Tryz.underlying2 (WalkArith.wf_i64 hid))
    rcases at_fold_putAll id es (.map []) ⟨[], rfl⟩ with ⟨_, h2⟩ | ⟨m', hm', h1, _⟩
    · have e : (putAll es).atKey (.int .i64 id) (.held zeroVal) = .held zeroVal := h2 _
      rw [e] at hv
      have hvz : v = zeroVal := by
        simp only [heldR, Option.some.injEq, Prod.mk.injEq, DataW.held.injEq] at hv
        exact hv.1
      rw [hrun, hvz, evIn_none hin]
      rfl
    · exact absurd (List.mem_map.2 ⟨m', hm', h1⟩) hin
/-- The scene's two maps. -/
structure ScAt (W : World) (g : Gr) (xs : List En) (be bs : Nat) : Prop where
  evs : W.ownsMap Tryz.prog 2 heldR be g.evs.length (putAll g.evs)
  st : W.ownsMap Tryz.prog 118 heldS bs xs.length (putS xs.reverse)
theorem ScAt.kept {w w' : World} {g : Gr} {xs : List En} {be bs : Nat} (h : ScAt w g xs be bs) (hb : Below w.heap.size w w') : ScAt w' g xs be bs := ⟨ownsMap_below h.evs hb, ownsMap_below' h.st hb⟩
theorem Sc.ens {g : Gr} {xs : List En} (h : Sc g xs) : ∀ x ∈ xs.reverse, EnIn x := fun x hx => ((rowE_in h.row).2.2 x (by simpa using hx)).1
/-- The scene's variable, and all that lay before. -/
def SBox (w : World) (be bs : Nat) (W : World) : Prop := Below w.heap.size w W ∧ W.heap[w.heap.size]? = some (.cells #[.map (some be), .map (some bs)] 60 (0, 0))
theorem SBox.start (w : World) (be bs : Nat) : SBox w be bs (w.alloc (.cells #[.map (some be), .map (some bs)] 60)) := ⟨(Below.refl _ _).alloc (Nat.le_refl _) _, (MapKept.heap_alloc w _).1⟩
theorem SBox.on {w : World} {be bs : Nat} {W W' : World} (h : SBox w be bs W) (hb : Below W.heap.size W W') : SBox w be bs W' := ⟨h.1.trans (hb.mono h.1.size), (hb.block _ (Array.getElem?_eq_some_iff.1 h.2).1).trans h.2⟩
theorem SBox.lt {w : World} {be bs : Nat} {W : World} (h : SBox w be bs W) : w.heap.size < W.heap.size := (Array.getElem?_eq_some_iff.1 h.2).1
theorem SBox.set {w : World} {be bs : Nat} {W : World} (h : SBox w be bs W) {b i : Nat} (hb : w.heap.size < b) (v : Value) : SBox w be bs (W.setCell ⟨b, i, none⟩ v) :=
  ⟨h.1.setCell (Nat.le_of_lt hb) _, (heap_setCell_other W ⟨b, i, none⟩ w.heap.size v (by simp; omega)).trans h.2⟩
set_option maxHeartbeats 8000000 in
set_option maxRecDepth 100000 in
theorem last_impl (g : Gr) (xs : List En) (be bs : Nat) (k y : Int) (hk : (Lit.int .i64 k).wf = true) (hy : (Lit.int .i64 y).wf = true) (w : World) (h : ScAt w g xs be bs) (hs : Sc g xs) :
    Calls Tryz.prog 88 #[.agg #[.map (some be), .map (some bs)], .int .i64 k, .int .i64 y] w (EvGot (lastE g.evs xs k y) w) := by
  obtain ⟨z, HZ⟩ : ∃ z, Hid (z = stAt xs k y) := ⟨stAt xs k y, (rfl : stAt xs k y = _)⟩
  have hb := hs.bound k y
  rw [← HZ.out] at hb
  obtain ⟨q, c, hlk⟩ := look_evIn g.evs (right_dup hs.right) z ⟨by omega, by omega⟩
  obtain ⟨v, HV⟩ : ∃ v, Hid (v = lastE g.evs xs k y) := ⟨lastE g.evs xs k y, (rfl : lastE g.evs xs k y = _)⟩
  have hvz : evIn g.evs z = v := by rw [HV.out, HZ.out]; rfl
  rw [hvz] at hlk
  rw [← HV.out]
  have HL1 : Hid (∀ W, Below w.heap.size w W → (Instr.lookup 58 (.map (some bs)) (.agg #[.int .i64 k, .int .i64 y]) false).run Tryz.prog W = .ok (.int .i64 z) W) := fun W hW => by
    have := look_S (h.kept hW).st hs.ens hk hy
    rwa [look_rev (rowE_in hs.row).2.1, ← HZ.out] at this
  have HL2 : Hid (∀ W, Below w.heap.size w W → (Instr.lookup 56 (.map (some be)) (.int .i64 z) false).run Tryz.prog W = .ok (.agg #[.int .i64 v.id, .int .i64 v.room, .int .i64 v.author, .int .i64 v.kind, .int .i64 v.key, .int .i64 v.n, .string v.text, .slice q v.prev.length c, .int .i64 v.time]) W) := fun W hW => hlk W be _ (h.kept hW).evs
  have HSB' : Hid (∀ o, SBox w be bs ((w.alloc (.cells #[.map (some be), .map (some bs)] 60)).alloc o).drew) := fun o => ((SBox.start w be bs).on ((Below.refl _ _).alloc (Nat.le_refl _) o)).on (Below.drew (Below.refl _ _))
  clear h hs hlk hvz hb hk hy
  go_enter Tryz.func88, Tryz.ntmps88
  go_wp2
  refine wp_region_held_drew (S := (fun W => SBox w be bs W)) (by kernel_rfl) (HSB'.out _) (fun hHeld => ?_)
  refine wpAnyH_take (i := 0) (v := (.pointer (some ⟨w.heap.size, 0, none⟩))) rfl (by kernel_rfl) (by kernel_rfl) (by kernel_rfl) (fun _ _ _ h => h) (Or.inl ⟨by kernel_rfl, ?_⟩) hHeld ?_
  · intro W hW
    go_simp
  refine wpAnyH_take (i := 1) (v := (.map (some be))) rfl (by kernel_rfl) (by kernel_rfl) (by kernel_rfl) (fun _ _ _ h => h) (Or.inl ⟨by kernel_rfl, ?_⟩) hHeld ?_
  · intro W hW
    have f : W.cell? ⟨w.heap.size, 0, none⟩ = some (.map (some be)) := cell_of_heap hW.2
    go_simp
  refine wpAnyH_take (i := 2) (v := (.pointer (some ⟨w.heap.size, 1, none⟩))) rfl (by kernel_rfl) (by kernel_rfl) (by kernel_rfl) (fun _ _ _ h => h) (Or.inl ⟨by kernel_rfl, ?_⟩) hHeld ?_
  · intro W hW
    go_simp
  refine wpAnyH_take (i := 3) (v := (.map (some bs))) rfl (by kernel_rfl) (by kernel_rfl) (by kernel_rfl) (fun _ _ _ h => h) (Or.inl ⟨by kernel_rfl, ?_⟩) hHeld ?_
  · intro W hW
    have f : W.cell? ⟨w.heap.size, 1, none⟩ = some (.map (some bs)) := cell_of_heap hW.2
    go_simp
  refine wpAnyH_take (i := 4) (v := (.int .i64 k)) rfl (by kernel_rfl) (by kernel_rfl) (by kernel_rfl) (fun _ _ _ h => h) (Or.inl ⟨by kernel_rfl, ?_⟩) hHeld ?_
  · intro W hW
    go_simp
  refine wpAnyH_take (i := 5) (v := (.int .i64 y)) rfl (by kernel_rfl) (by kernel_rfl) (by kernel_rfl) (fun _ _ _ h => h) (Or.inl ⟨by kernel_rfl, ?_⟩) hHeld ?_
  · intro W hW
    go_simp
  refine wpAnyH_take (i := 6) (v := (.agg #[.int .i64 k, .int .i64 y])) rfl (by kernel_rfl) (by kernel_rfl) (by kernel_rfl) (fun _ _ _ h => h) (Or.inl ⟨by kernel_rfl, ?_⟩) hHeld ?_
  · intro W hW
    go_simp
  refine wpAnyH_take (i := 7) (v := (.int .i64 z)) rfl (by kernel_rfl) (by kernel_rfl) (by kernel_rfl) (fun _ _ _ h => h) (Or.inl ⟨by kernel_rfl, ?_⟩) hHeld ?_
  · intro W hW
    have f := HL1.out W hW.1
    go_simp
  refine wpAnyH_take (i := 8) (v := (.agg #[.int .i64 v.id, .int .i64 v.room, .int .i64 v.author, .int .i64 v.kind, .int .i64 v.key, .int .i64 v.n, .string v.text, .slice q v.prev.length c, .int .i64 v.time])) rfl (by kernel_rfl) (by kernel_rfl) (by kernel_rfl) (fun _ _ _ h => h) (Or.inl ⟨by kernel_rfl, ?_⟩) hHeld ?_
  · intro W hW
    have f := HL2.out W hW.1
    go_simp
  refine wpAnyH_ready (rs := [9]) (by kernel_rfl) (by simp) ?_
  refine AllReadyH.cons rfl (fun K hK => ?_) AllReadyH.nil
  go_simp
  refine hK.out _ _ (HSB'.out _) (fun hH2 => ?_)
  clear hK K
  refine wpAnyH_done (by kernel_rfl) ?_ _
  go_wp2
  refine bodyPost_ret (v := .agg #[.int .i64 v.id, .int .i64 v.room, .int .i64 v.author, .int .i64 v.kind, .int .i64 v.key, .int .i64 v.n, .string v.text, .slice q v.prev.length c, .int .i64 v.time]) (by simp [results, Tryz.results88, go_sem]) rfl ⟨q, c, rfl, hH2.1⟩
theorem wf_user {u : Int} (h : isB u 1 6 = true) : (Lit.int .i64 u).wf = true := wf_small ⟨by have := isB_yes h; omega, by have := isB_yes h; omega⟩
set_option maxHeartbeats 4000000 in
set_option maxRecDepth 100000 in
theorem creator_impl (g : Gr) (xs : List En) (be bs : Nat) (w : World) (h : ScAt w g xs be bs) (hs : Sc g xs) :
    Calls Tryz.prog 97 #[.agg #[.map (some be), .map (some bs)]] w fun e w' => e = .returned (.int .i64 (lastE g.evs xs 1 0).author) ∧ Below w.heap.size w w' := by
  have HB : Hid (∀ o, Below w.heap.size w (w.alloc o)) := fun o => (Below.refl _ _).alloc (Nat.le_refl _) o
  have HO := fun W (hW : Below w.heap.size w W) => last_impl g xs be bs 1 0 (by decide) (by decide) W (h.kept hW) hs
  obtain ⟨v, HV⟩ : ∃ v, Hid (v = lastE g.evs xs 1 0) := ⟨lastE g.evs xs 1 0, (rfl : lastE g.evs xs 1 0 = _)⟩
  rw [← HV.out]
  have hfd := field_author v
  clear h hs
  go_enter Tryz.func97, Tryz.ntmps97
  go_wp2_with (go_at_call 88; refine (HO _ (HB.out _)).mono ?_; rw [← HV.out]; rintro e w1 ⟨q, c, rfl, hb1⟩; have HW1 : Hid (Below w.heap.size w w1) := (HB.out _).trans (hb1.mono (by simp)); clear hb1)
  go_ret
  exact ⟨rfl, HW1.out⟩
set_option maxHeartbeats 4000000 in
set_option maxRecDepth 100000 in
theorem member_impl (g : Gr) (xs : List En) (be bs : Nat) (u : Int) (hu : (Lit.int .i64 u).wf = true) (w : World) (h : ScAt w g xs be bs) (hs : Sc g xs) :
    Calls Tryz.prog 89 #[.agg #[.map (some be), .map (some bs)], .int .i64 u] w fun e w' => e = .returned (.int .i64 (memR g.evs xs u)) ∧ Below w.heap.size w w' := by
  have HB : Hid (∀ o, Below w.heap.size w (w.alloc o)) := fun o => (Below.refl _ _).alloc (Nat.le_refl _) o
  have HO := fun W (hW : Below w.heap.size w W) => last_impl g xs be bs 2 u (by decide) hu W (h.kept hW) hs
  obtain ⟨v, HV⟩ : ∃ v, Hid (v = lastE g.evs xs 2 u) := ⟨lastE g.evs xs 2 u, (rfl : lastE g.evs xs 2 u = _)⟩
  have HM : Hid (memR g.evs xs u = v.n) := by unfold Hid memR; rw [HV.out]
  have hfd := field_n v
  clear h hs hu
  go_enter Tryz.func89, Tryz.ntmps89
  go_wp2_with (go_at_call 88; refine (HO _ (HB.out _)).mono ?_; rw [← HV.out]; rintro e w1 ⟨q, c, rfl, hb1⟩; have HW1 : Hid (Below w.heap.size w w1) := (HB.out _).trans (hb1.mono (by simp)); clear hb1)
  go_ret
  exact ⟨ret_int' HM.out.symm, HW1.out⟩
set_option maxHeartbeats 4000000 in
set_option maxRecDepth 100000 in
theorem level_impl (g : Gr) (xs : List En) (be bs : Nat) (u : Int) (hu : (Lit.int .i64 u).wf = true) (w : World) (h : ScAt w g xs be bs) (hs : Sc g xs) :
    Calls Tryz.prog 92 #[.agg #[.map (some be), .map (some bs)], .int .i64 u] w fun e w' => e = .returned (.int .i64 (levR g.evs xs u)) ∧ Below w.heap.size w w' := by
  have HG0 : Hid (SBox w be bs (w.alloc (.cells #[.map (some be), .map (some bs)] 60))) := SBox.start w be bs
  have HO := fun W (hW : Below w.heap.size w W) => last_impl g xs be bs 3 u (by decide) hu W (h.kept hW) hs
  have HC := fun W (hW : Below w.heap.size w W) => creator_impl g xs be bs W (h.kept hW) hs
  obtain ⟨v, HV⟩ : ∃ v, Hid (v = lastE g.evs xs 3 u) := ⟨lastE g.evs xs 3 u, (rfl : lastE g.evs xs 3 u = _)⟩
  obtain ⟨x, HX1⟩ : ∃ x, Hid (x = (lastE g.evs xs 1 0).author) := ⟨(lastE g.evs xs 1 0).author, (rfl : (lastE g.evs xs 1 0).author = _)⟩
  rw [← HX1.out] at HC
  have HZ : Hid (v.id = stAt xs 3 u) := by unfold Hid; rw [HV.out]; exact hs.id 3 u
  clear h hs hu
  cases h0 : (v.id != 0)
  · have HM : Hid (levR g.evs xs u = if x = u then 100 else 0) := by unfold Hid levR; rw [← HZ.out, HX1.out, if_pos (by simpa using h0)]
    cases hu : (u == x)
    · have HX : Hid (levR g.evs xs u = 0) := by unfold Hid; rw [HM.out, if_neg (fun e => by rw [e] at hu; simp at hu)]
      go_enter Tryz.func92, Tryz.ntmps92
      go_wp2_with (first
        | (go_at_call 88; refine (HO _ HG0.out.1).mono ?_; rw [← HV.out]; rintro e w1 ⟨q, c, rfl, hb1⟩; have HG1 : Hid (∀ o, SBox w be bs (w1.alloc o)) := (fun o => (HG0.out.on hb1).on ((Below.refl _ _).alloc (Nat.le_refl _) o)); have hc1 : w1.cell? ⟨w.heap.size, 0, none⟩ = some (.map (some be)) := cell_of_heap (HG0.out.on hb1).2; have hc2 : w1.cell? ⟨w.heap.size, 1, none⟩ = some (.map (some bs)) := cell_of_heap (HG0.out.on hb1).2; have hz1 : w.heap.size < w1.heap.size := (HG0.out.on hb1).lt; have hn1 : ¬ w.heap.size = w1.heap.size := (by omega); clear hb1)
        | (go_at_call 97; refine (HC _ (HG1.out _).1).mono ?_; rintro e w2 ⟨rfl, hb2⟩; have HW2 : Hid (Below w.heap.size w w2) := (HG1.out _).1.trans (hb2.mono (HG1.out _).1.size); clear hb2))
      go_ret
      exact ⟨ret_int' HX.out.symm, HW2.out⟩
    · have HX : Hid (levR g.evs xs u = 100) := by unfold Hid; rw [HM.out, if_pos (by simpa using (show u = x by simpa using hu).symm)]
      go_enter Tryz.func92, Tryz.ntmps92
      go_wp2_with (first
        | (go_at_call 88; refine (HO _ HG0.out.1).mono ?_; rw [← HV.out]; rintro e w1 ⟨q, c, rfl, hb1⟩; have HG1 : Hid (∀ o, SBox w be bs (w1.alloc o)) := (fun o => (HG0.out.on hb1).on ((Below.refl _ _).alloc (Nat.le_refl _) o)); have hc1 : w1.cell? ⟨w.heap.size, 0, none⟩ = some (.map (some be)) := cell_of_heap (HG0.out.on hb1).2; have hc2 : w1.cell? ⟨w.heap.size, 1, none⟩ = some (.map (some bs)) := cell_of_heap (HG0.out.on hb1).2; have hz1 : w.heap.size < w1.heap.size := (HG0.out.on hb1).lt; have hn1 : ¬ w.heap.size = w1.heap.size := (by omega); clear hb1)
        | (go_at_call 97; refine (HC _ (HG1.out _).1).mono ?_; rintro e w2 ⟨rfl, hb2⟩; have HW2 : Hid (Below w.heap.size w w2) := (HG1.out _).1.trans (hb2.mono (HG1.out _).1.size); clear hb2))
      go_ret
      exact ⟨ret_int' HX.out.symm, HW2.out⟩
  · have HX : Hid (levR g.evs xs u = v.n) := by unfold Hid levR; rw [← HZ.out, ← HV.out, if_neg (by simpa using h0)]
    go_enter Tryz.func92, Tryz.ntmps92
    go_wp2_with (go_at_call 88; refine (HO _ HG0.out.1).mono ?_; rw [← HV.out]; rintro e w1 ⟨q, c, rfl, hb1⟩; have HG1 : Hid (∀ o, SBox w be bs (w1.alloc o)) := (fun o => (HG0.out.on hb1).on ((Below.refl _ _).alloc (Nat.le_refl _) o)); clear hb1)
    go_ret
    exact ⟨ret_int' HX.out.symm, (HG1.out _).1⟩
end Go.Proofs.YtdldblfopcbfeaaGreatDoor
