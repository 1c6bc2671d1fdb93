/- What hinders an event of itself, the program's side. -/
import Derived.Test.YteajcmkaoahbeaaGreatDoorZRsHv
namespace Go.Proofs.YteajcmkaoahbeaaGreatDoor
open Go.RowKit

set_option maxHeartbeats 16000000 in
set_option maxRecDepth 100000 in
theorem asksOfOneself_impl (g : Gr) (xs : List En) (E : Errs) (be bs : Nat) (v : Ev) (q : Option Addr) (c : Nat) (w : World) (h : ScAt w g xs be bs) (hs : Sc g xs) (hE : LE E w) (hwa : (Lit.int .i64 v.author).wf = true) :
    Calls Tryz.prog 181 #[.agg #[.map (some be), .map (some bs)], .agg #[.int .i64 v.id, .int .i64 v.room, .int .i64 v.author, .int .i64 v.kind, .int .i64 v.key, .int .i64 v.n, .string v.text, .slice q v.prev.length c, .int .i64 v.time]] w fun e w' => e = .returned (errV E (ownE g.evs xs v (memR g.evs xs v.author))) ∧ Below w.heap.size w w' := by
  have HA0 : Hid (IB w E be bs v q c ((w.alloc (.cells #[.map (some be), .map (some bs)] 132)).alloc (.cells #[.int .i64 v.id, .int .i64 v.room, .int .i64 v.author, .int .i64 v.kind, .int .i64 v.key, .int .i64 v.n, .string v.text, .slice q v.prev.length c, .int .i64 v.time] 114))) := IB.start w E hE be bs v q c
  obtain ⟨m1, m2, m3, m4, m5, m6⟩ := HA0.out.cells
  obtain ⟨z1, z2⟩ := HA0.out.lt
  have HM := fun W (hW : Below w.heap.size w W) => member_impl g xs be bs v.author hwa W (h.kept hW) hs
  have HO := fun W (hW : Below w.heap.size w W) => last_impl g xs be bs 5 0 (by decide) (by decide) W (h.kept hW) hs
  have HC := fun W (hW : Below w.heap.size w W) => creator_impl g xs be bs W (h.kept hW) hs
  obtain ⟨vd, HVD⟩ : ∃ u, Hid (u = lastE g.evs xs 5 0) := ⟨lastE g.evs xs 5 0, (rfl : lastE g.evs xs 5 0 = _)⟩
  obtain ⟨x, HVA⟩ : ∃ u, Hid (u = (lastE g.evs xs 1 0).author) := ⟨(lastE g.evs xs 1 0).author, (rfl : (lastE g.evs xs 1 0).author = _)⟩
  obtain ⟨m, HMM⟩ : ∃ u, Hid (u = memR g.evs xs v.author) := ⟨memR g.evs xs v.author, (rfl : memR g.evs xs v.author = _)⟩
  rw [← HMM.out]
  rw [← HMM.out] at HM
  rw [← HVA.out] at HC
  rw [← HVD.out] at HO
  obtain ⟨R, HR⟩ : ∃ R, Hid (R = ownE g.evs xs v m) := ⟨ownE g.evs xs v m, (rfl : ownE g.evs xs v m = _)⟩
  rw [← HR.out]
  have hfd := field_n vd
  clear h hs hE hwa
  go_enter Tryz.func181, Tryz.ntmps181
  go_wp2_with fail
  refine (HM _ HA0.out.below).mono ?_
  rintro e w1 ⟨rfl, hb1⟩
  have HA1 : Hid (IB w E be bs v q c w1) := HA0.out.on hb1
  clear hb1 HA0 HM m1 m2 m3 m4 m5 m6 z1 z2
  obtain ⟨m1, m2, m3, m4, m5, m6⟩ := HA1.out.cells
  cases h1 : (m == 1)
  · cases h4 : (m == 4)
    · cases hn1 : (v.n == 1)
      · cases hn2 : (v.n == 2)
        · go_wp2
          go_ret
          exact ⟨ret_d (by rw [HR.out]; simp [ownE, hn1, hn2]), HA1.out.below⟩
        · go_wp2
          go_ret
          exact ⟨ret_d (by rw [HR.out]; simp [ownE, ifE, h1, h4, hn1, hn2]), HA1.out.below⟩
      · cases h3 : (m == 3)
        · cases hd : (vd.n == 1)
          · cases ha : (v.author == x)
            · have hac : (x == v.author) = false := by rw [Bool.eq_iff_iff]; simp at ha ⊢; exact fun e => ha e.symm
              go_wp2
              clear m1 m2 m3 m4 m5 m6
              go_region_held3 (fun W => (∀ k, W.cell? ⟨w.heap.size, k, none⟩ = #[.map (some be), .map (some bs)][k]?) ∧ (∀ k, W.cell? ⟨w.heap.size + 1, k, none⟩ = #[.int .i64 v.id, .int .i64 v.room, .int .i64 v.author, .int .i64 v.kind, .int .i64 v.key, .int .i64 v.n, .string v.text, .slice q v.prev.length c, .int .i64 v.time][k]?)) (first | exact ⟨(IB.cells HA3.out).1, (IB.cells HA3.out).2.1⟩ | exact ⟨(IB.cells HA2.out).1, (IB.cells HA2.out).2.1⟩ | exact ⟨(IB.cells HA1.out.drew).1, (IB.cells HA1.out.drew).2.1⟩) (first
                | (go_at_call 179; refine (HO _ HA1.out.drew.below).mono ?_; rintro e w2 ⟨q2, c2, rfl, hb2⟩; have HA2 : Hid (IB w E be bs v q c w2) := HA1.out.drew.on hb2; clear hb2)
                | (go_at_call 206; refine (HC _ HA2.out.below).mono ?_; rintro e w3 ⟨rfl, hb3⟩; have HA3 : Hid (IB w E be bs v q c w3) := HA2.out.on hb3; clear hb3))
              all_goals obtain ⟨m1, m2, m3, m4, m5, m6⟩ := HA3.out.cells
              all_goals go_wp2
              all_goals go_ret
              all_goals exact ⟨ret_d (by rw [HR.out]; simp [ownE, ifE, ← HVD.out, ← HVA.out, h1, h4, hn1, h3, hd, hac]), HA3.out.below⟩
            · have hac : (x == v.author) = true := by rw [Bool.eq_iff_iff]; simp at ha ⊢; exact ha.symm
              go_wp2
              clear m1 m2 m3 m4 m5 m6
              go_region_held3 (fun W => (∀ k, W.cell? ⟨w.heap.size, k, none⟩ = #[.map (some be), .map (some bs)][k]?) ∧ (∀ k, W.cell? ⟨w.heap.size + 1, k, none⟩ = #[.int .i64 v.id, .int .i64 v.room, .int .i64 v.author, .int .i64 v.kind, .int .i64 v.key, .int .i64 v.n, .string v.text, .slice q v.prev.length c, .int .i64 v.time][k]?)) (first | exact ⟨(IB.cells HA3.out).1, (IB.cells HA3.out).2.1⟩ | exact ⟨(IB.cells HA2.out).1, (IB.cells HA2.out).2.1⟩ | exact ⟨(IB.cells HA1.out.drew).1, (IB.cells HA1.out.drew).2.1⟩) (first
                | (go_at_call 179; refine (HO _ HA1.out.drew.below).mono ?_; rintro e w2 ⟨q2, c2, rfl, hb2⟩; have HA2 : Hid (IB w E be bs v q c w2) := HA1.out.drew.on hb2; clear hb2)
                | (go_at_call 206; refine (HC _ HA2.out.below).mono ?_; rintro e w3 ⟨rfl, hb3⟩; have HA3 : Hid (IB w E be bs v q c w3) := HA2.out.on hb3; clear hb3))
              all_goals obtain ⟨m1, m2, m3, m4, m5, m6⟩ := HA3.out.cells
              all_goals go_wp2
              all_goals go_ret
              all_goals exact ⟨ret_0 (by rw [HR.out]; simp [ownE, ifE, ← HVD.out, ← HVA.out, h1, h4, hn1, h3, hd, hac]), HA3.out.below⟩
          · go_wp2
            clear m1 m2 m3 m4 m5 m6
            refine wp_region_held_drew (S := (fun W => (∀ k, W.cell? ⟨w.heap.size, k, none⟩ = #[.map (some be), .map (some bs)][k]?) ∧ (∀ k, W.cell? ⟨w.heap.size + 1, k, none⟩ = #[.int .i64 v.id, .int .i64 v.room, .int .i64 v.author, .int .i64 v.kind, .int .i64 v.key, .int .i64 v.n, .string v.text, .slice q v.prev.length c, .int .i64 v.time][k]?))) (by kernel_rfl) ⟨(IB.cells HA1.out.drew).1, (IB.cells HA1.out.drew).2.1⟩ (fun hHeld => ?_)
            refine wpAnyH_take (i := 0) (v := (.agg #[.map (some be), .map (some bs)])) rfl (by kernel_rfl) (by kernel_rfl) (by kernel_rfl) (fun _ _ _ h => h) (Or.inl ⟨by kernel_rfl, ?_⟩) hHeld ?_
            · intro W hW
              obtain ⟨f1, f2⟩ := hW
              go_simp
            refine wpAnyH_ready (rs := [1]) (by kernel_rfl) (by simp) ?_
            refine AllReadyH.cons rfl (fun K hK => ?_) AllReadyH.nil
            go_simp
            refine (HO _ HA1.out.drew.below).mono ?_
            rintro e w2 ⟨q2, c2, rfl, hb2⟩
            have HA2 : Hid (IB w E be bs v q c w2) := HA1.out.drew.on hb2
            clear hb2
            refine hK.out _ _ ⟨(IB.cells HA2.out).1, (IB.cells HA2.out).2.1⟩ (fun hH2 => ?_)
            clear hK K
            refine wpAnyH_take (i := 2) (v := (.int .i64 vd.n)) rfl (by kernel_rfl) (by kernel_rfl) (by kernel_rfl) (fun _ _ _ h => h) (Or.inl ⟨by kernel_rfl, ?_⟩) hH2 ?_
            · intro W hW
              go_simp
            refine wpAnyH_take (i := 3) (v := (.bool true)) rfl (by kernel_rfl) (by kernel_rfl) (by kernel_rfl) (fun _ _ _ h => h) (Or.inl ⟨by kernel_rfl, ?_⟩) hH2 ?_
            · intro W hW
              go_simp
            refine wpAnyH_take (i := 4) (v := (.bool true)) rfl (by kernel_rfl) (by kernel_rfl) (by kernel_rfl) (fun _ _ _ h => h) (Or.inl ⟨by kernel_rfl, ?_⟩) hH2 ?_
            · intro W hW
              go_simp
            refine wpAnyH_take (i := 5) (v := undef) rfl (by kernel_rfl) (by kernel_rfl) (by kernel_rfl) (fun _ _ _ h => h) (Or.inr ⟨by kernel_rfl, rfl⟩) hH2 ?_
            refine wpAnyH_take (i := 6) (v := undef) rfl (by kernel_rfl) (by kernel_rfl) (by kernel_rfl) (fun _ _ _ h => h) (Or.inr ⟨by kernel_rfl, rfl⟩) hH2 ?_
            refine wpAnyH_take (i := 7) (v := undef) rfl (by kernel_rfl) (by kernel_rfl) (by kernel_rfl) (fun _ _ _ h => h) (Or.inr ⟨by kernel_rfl, rfl⟩) hH2 ?_
            refine wpAnyH_take (i := 8) (v := undef) rfl (by kernel_rfl) (by kernel_rfl) (by kernel_rfl) (fun _ _ _ h => h) (Or.inr ⟨by kernel_rfl, rfl⟩) hH2 ?_
            refine wpAnyH_take (i := 9) (v := undef) rfl (by kernel_rfl) (by kernel_rfl) (by kernel_rfl) (fun _ _ _ h => h) (Or.inr ⟨by kernel_rfl, rfl⟩) hH2 ?_
            refine wpAnyH_take (i := 10) (v := (.bool true)) rfl (by kernel_rfl) (by kernel_rfl) (by kernel_rfl) (fun _ _ _ h => h) (Or.inl ⟨by kernel_rfl, ?_⟩) hH2 ?_
            · intro W hW
              go_simp
            refine wpAnyH_ready (rs := [11]) (by kernel_rfl) (by simp) ?_
            refine AllReadyH.cons rfl (fun K hK => ?_) AllReadyH.nil
            go_simp
            refine hK.out _ _ ⟨(IB.cells HA2.out).1, (IB.cells HA2.out).2.1⟩ (fun hH3 => ?_)
            clear hK K
            refine wpAnyH_done (by kernel_rfl) ?_ _
            all_goals obtain ⟨m1, m2, m3, m4, m5, m6⟩ := HA2.out.cells
            all_goals go_wp2
            all_goals go_ret
            all_goals exact ⟨ret_0 (by rw [HR.out]; simp [ownE, ifE, ← HVD.out, ← HVA.out, h1, h4, hn1, h3, hd]), HA2.out.below⟩
        · cases hd : (vd.n == 1)
          · cases ha : (v.author == x)
            · have hac : (x == v.author) = false := by rw [Bool.eq_iff_iff]; simp at ha ⊢; exact fun e => ha e.symm
              go_wp2
              clear m1 m2 m3 m4 m5 m6
              go_region_held3 (fun W => (∀ k, W.cell? ⟨w.heap.size, k, none⟩ = #[.map (some be), .map (some bs)][k]?) ∧ (∀ k, W.cell? ⟨w.heap.size + 1, k, none⟩ = #[.int .i64 v.id, .int .i64 v.room, .int .i64 v.author, .int .i64 v.kind, .int .i64 v.key, .int .i64 v.n, .string v.text, .slice q v.prev.length c, .int .i64 v.time][k]?)) (first | exact ⟨(IB.cells HA3.out).1, (IB.cells HA3.out).2.1⟩ | exact ⟨(IB.cells HA2.out).1, (IB.cells HA2.out).2.1⟩ | exact ⟨(IB.cells HA1.out.drew).1, (IB.cells HA1.out.drew).2.1⟩) (first
                | (go_at_call 179; refine (HO _ HA1.out.drew.below).mono ?_; rintro e w2 ⟨q2, c2, rfl, hb2⟩; have HA2 : Hid (IB w E be bs v q c w2) := HA1.out.drew.on hb2; clear hb2)
                | (go_at_call 206; refine (HC _ HA2.out.below).mono ?_; rintro e w3 ⟨rfl, hb3⟩; have HA3 : Hid (IB w E be bs v q c w3) := HA2.out.on hb3; clear hb3))
              all_goals obtain ⟨m1, m2, m3, m4, m5, m6⟩ := HA3.out.cells
              all_goals go_wp2
              all_goals go_ret
              all_goals exact ⟨ret_d (by rw [HR.out]; simp [ownE, ifE, ← HVD.out, ← HVA.out, h1, h4, hn1, h3, hd, hac]), HA3.out.below⟩
            · have hac : (x == v.author) = true := by rw [Bool.eq_iff_iff]; simp at ha ⊢; exact ha.symm
              go_wp2
              clear m1 m2 m3 m4 m5 m6
              go_region_held3 (fun W => (∀ k, W.cell? ⟨w.heap.size, k, none⟩ = #[.map (some be), .map (some bs)][k]?) ∧ (∀ k, W.cell? ⟨w.heap.size + 1, k, none⟩ = #[.int .i64 v.id, .int .i64 v.room, .int .i64 v.author, .int .i64 v.kind, .int .i64 v.key, .int .i64 v.n, .string v.text, .slice q v.prev.length c, .int .i64 v.time][k]?)) (first | exact ⟨(IB.cells HA3.out).1, (IB.cells HA3.out).2.1⟩ | exact ⟨(IB.cells HA2.out).1, (IB.cells HA2.out).2.1⟩ | exact ⟨(IB.cells HA1.out.drew).1, (IB.cells HA1.out.drew).2.1⟩) (first
                | (go_at_call 179; refine (HO _ HA1.out.drew.below).mono ?_; rintro e w2 ⟨q2, c2, rfl, hb2⟩; have HA2 : Hid (IB w E be bs v q c w2) := HA1.out.drew.on hb2; clear hb2)
                | (go_at_call 206; refine (HC _ HA2.out.below).mono ?_; rintro e w3 ⟨rfl, hb3⟩; have HA3 : Hid (IB w E be bs v q c w3) := HA2.out.on hb3; clear hb3))
              all_goals obtain ⟨m1, m2, m3, m4, m5, m6⟩ := HA3.out.cells
              all_goals go_wp2
              all_goals go_ret
              all_goals exact ⟨ret_d (by rw [HR.out]; simp [ownE, ifE, ← HVD.out, ← HVA.out, h1, h4, hn1, h3, hd, hac]), HA3.out.below⟩
          · go_wp2
            clear m1 m2 m3 m4 m5 m6
            refine wp_region_held_drew (S := (fun W => (∀ k, W.cell? ⟨w.heap.size, k, none⟩ = #[.map (some be), .map (some bs)][k]?) ∧ (∀ k, W.cell? ⟨w.heap.size + 1, k, none⟩ = #[.int .i64 v.id, .int .i64 v.room, .int .i64 v.author, .int .i64 v.kind, .int .i64 v.key, .int .i64 v.n, .string v.text, .slice q v.prev.length c, .int .i64 v.time][k]?))) (by kernel_rfl) ⟨(IB.cells HA1.out.drew).1, (IB.cells HA1.out.drew).2.1⟩ (fun hHeld => ?_)
            refine wpAnyH_take (i := 0) (v := (.agg #[.map (some be), .map (some bs)])) rfl (by kernel_rfl) (by kernel_rfl) (by kernel_rfl) (fun _ _ _ h => h) (Or.inl ⟨by kernel_rfl, ?_⟩) hHeld ?_
            · intro W hW
              obtain ⟨f1, f2⟩ := hW
              go_simp
            refine wpAnyH_ready (rs := [1]) (by kernel_rfl) (by simp) ?_
            refine AllReadyH.cons rfl (fun K hK => ?_) AllReadyH.nil
            go_simp
            refine (HO _ HA1.out.drew.below).mono ?_
            rintro e w2 ⟨q2, c2, rfl, hb2⟩
            have HA2 : Hid (IB w E be bs v q c w2) := HA1.out.drew.on hb2
            clear hb2
            refine hK.out _ _ ⟨(IB.cells HA2.out).1, (IB.cells HA2.out).2.1⟩ (fun hH2 => ?_)
            clear hK K
            refine wpAnyH_take (i := 2) (v := (.int .i64 vd.n)) rfl (by kernel_rfl) (by kernel_rfl) (by kernel_rfl) (fun _ _ _ h => h) (Or.inl ⟨by kernel_rfl, ?_⟩) hH2 ?_
            · intro W hW
              go_simp
            refine wpAnyH_take (i := 3) (v := (.bool true)) rfl (by kernel_rfl) (by kernel_rfl) (by kernel_rfl) (fun _ _ _ h => h) (Or.inl ⟨by kernel_rfl, ?_⟩) hH2 ?_
            · intro W hW
              go_simp
            refine wpAnyH_take (i := 4) (v := (.bool true)) rfl (by kernel_rfl) (by kernel_rfl) (by kernel_rfl) (fun _ _ _ h => h) (Or.inl ⟨by kernel_rfl, ?_⟩) hH2 ?_
            · intro W hW
              go_simp
            refine wpAnyH_take (i := 5) (v := undef) rfl (by kernel_rfl) (by kernel_rfl) (by kernel_rfl) (fun _ _ _ h => h) (Or.inr ⟨by kernel_rfl, rfl⟩) hH2 ?_
            refine wpAnyH_take (i := 6) (v := undef) rfl (by kernel_rfl) (by kernel_rfl) (by kernel_rfl) (fun _ _ _ h => h) (Or.inr ⟨by kernel_rfl, rfl⟩) hH2 ?_
            refine wpAnyH_take (i := 7) (v := undef) rfl (by kernel_rfl) (by kernel_rfl) (by kernel_rfl) (fun _ _ _ h => h) (Or.inr ⟨by kernel_rfl, rfl⟩) hH2 ?_
            refine wpAnyH_take (i := 8) (v := undef) rfl (by kernel_rfl) (by kernel_rfl) (by kernel_rfl) (fun _ _ _ h => h) (Or.inr ⟨by kernel_rfl, rfl⟩) hH2 ?_
            refine wpAnyH_take (i := 9) (v := undef) rfl (by kernel_rfl) (by kernel_rfl) (by kernel_rfl) (fun _ _ _ h => h) (Or.inr ⟨by kernel_rfl, rfl⟩) hH2 ?_
            refine wpAnyH_take (i := 10) (v := (.bool true)) rfl (by kernel_rfl) (by kernel_rfl) (by kernel_rfl) (fun _ _ _ h => h) (Or.inl ⟨by kernel_rfl, ?_⟩) hH2 ?_
            · intro W hW
              go_simp
            refine wpAnyH_ready (rs := [11]) (by kernel_rfl) (by simp) ?_
            refine AllReadyH.cons rfl (fun K hK => ?_) AllReadyH.nil
            go_simp
            refine hK.out _ _ ⟨(IB.cells HA2.out).1, (IB.cells HA2.out).2.1⟩ (fun hH3 => ?_)
            clear hK K
            refine wpAnyH_done (by kernel_rfl) ?_ _
            all_goals obtain ⟨m1, m2, m3, m4, m5, m6⟩ := HA2.out.cells
            all_goals go_wp2
            all_goals go_ret
            all_goals exact ⟨ret_d (by rw [HR.out]; simp [ownE, ifE, ← HVD.out, ← HVA.out, h1, h4, hn1, h3, hd]), HA2.out.below⟩
    · cases hn1 : (v.n == 1)
      · cases hn2 : (v.n == 2)
        · go_wp2
          go_ret
          exact ⟨ret_d (by rw [HR.out]; simp [ownE, hn1, hn2]), HA1.out.below⟩
        · go_wp2
          go_ret
          exact ⟨ret_0 (by rw [HR.out]; simp [ownE, ifE, h1, h4, hn1, hn2]), HA1.out.below⟩
      · cases h3 : (m == 3)
        · cases hd : (vd.n == 1)
          · cases ha : (v.author == x)
            · have hac : (x == v.author) = false := by rw [Bool.eq_iff_iff]; simp at ha ⊢; exact fun e => ha e.symm
              go_wp2
              clear m1 m2 m3 m4 m5 m6
              go_region_held3 (fun W => (∀ k, W.cell? ⟨w.heap.size, k, none⟩ = #[.map (some be), .map (some bs)][k]?) ∧ (∀ k, W.cell? ⟨w.heap.size + 1, k, none⟩ = #[.int .i64 v.id, .int .i64 v.room, .int .i64 v.author, .int .i64 v.kind, .int .i64 v.key, .int .i64 v.n, .string v.text, .slice q v.prev.length c, .int .i64 v.time][k]?)) (first | exact ⟨(IB.cells HA3.out).1, (IB.cells HA3.out).2.1⟩ | exact ⟨(IB.cells HA2.out).1, (IB.cells HA2.out).2.1⟩ | exact ⟨(IB.cells HA1.out.drew).1, (IB.cells HA1.out.drew).2.1⟩) (first
                | (go_at_call 179; refine (HO _ HA1.out.drew.below).mono ?_; rintro e w2 ⟨q2, c2, rfl, hb2⟩; have HA2 : Hid (IB w E be bs v q c w2) := HA1.out.drew.on hb2; clear hb2)
                | (go_at_call 206; refine (HC _ HA2.out.below).mono ?_; rintro e w3 ⟨rfl, hb3⟩; have HA3 : Hid (IB w E be bs v q c w3) := HA2.out.on hb3; clear hb3))
              all_goals obtain ⟨m1, m2, m3, m4, m5, m6⟩ := HA3.out.cells
              all_goals go_wp2
              all_goals go_ret
              all_goals exact ⟨ret_0 (by rw [HR.out]; simp [ownE, ifE, ← HVD.out, ← HVA.out, h1, h4, hn1, h3, hd, hac]), HA3.out.below⟩
            · have hac : (x == v.author) = true := by rw [Bool.eq_iff_iff]; simp at ha ⊢; exact ha.symm
              go_wp2
              clear m1 m2 m3 m4 m5 m6
              go_region_held3 (fun W => (∀ k, W.cell? ⟨w.heap.size, k, none⟩ = #[.map (some be), .map (some bs)][k]?) ∧ (∀ k, W.cell? ⟨w.heap.size + 1, k, none⟩ = #[.int .i64 v.id, .int .i64 v.room, .int .i64 v.author, .int .i64 v.kind, .int .i64 v.key, .int .i64 v.n, .string v.text, .slice q v.prev.length c, .int .i64 v.time][k]?)) (first | exact ⟨(IB.cells HA3.out).1, (IB.cells HA3.out).2.1⟩ | exact ⟨(IB.cells HA2.out).1, (IB.cells HA2.out).2.1⟩ | exact ⟨(IB.cells HA1.out.drew).1, (IB.cells HA1.out.drew).2.1⟩) (first
                | (go_at_call 179; refine (HO _ HA1.out.drew.below).mono ?_; rintro e w2 ⟨q2, c2, rfl, hb2⟩; have HA2 : Hid (IB w E be bs v q c w2) := HA1.out.drew.on hb2; clear hb2)
                | (go_at_call 206; refine (HC _ HA2.out.below).mono ?_; rintro e w3 ⟨rfl, hb3⟩; have HA3 : Hid (IB w E be bs v q c w3) := HA2.out.on hb3; clear hb3))
              all_goals obtain ⟨m1, m2, m3, m4, m5, m6⟩ := HA3.out.cells
              all_goals go_wp2
              all_goals go_ret
              all_goals exact ⟨ret_0 (by rw [HR.out]; simp [ownE, ifE, ← HVD.out, ← HVA.out, h1, h4, hn1, h3, hd, hac]), HA3.out.below⟩
          · go_wp2
            clear m1 m2 m3 m4 m5 m6
            refine wp_region_held_drew (S := (fun W => (∀ k, W.cell? ⟨w.heap.size, k, none⟩ = #[.map (some be), .map (some bs)][k]?) ∧ (∀ k, W.cell? ⟨w.heap.size + 1, k, none⟩ = #[.int .i64 v.id, .int .i64 v.room, .int .i64 v.author, .int .i64 v.kind, .int .i64 v.key, .int .i64 v.n, .string v.text, .slice q v.prev.length c, .int .i64 v.time][k]?))) (by kernel_rfl) ⟨(IB.cells HA1.out.drew).1, (IB.cells HA1.out.drew).2.1⟩ (fun hHeld => ?_)
            refine wpAnyH_take (i := 0) (v := (.agg #[.map (some be), .map (some bs)])) rfl (by kernel_rfl) (by kernel_rfl) (by kernel_rfl) (fun _ _ _ h => h) (Or.inl ⟨by kernel_rfl, ?_⟩) hHeld ?_
            · intro W hW
              obtain ⟨f1, f2⟩ := hW
              go_simp
            refine wpAnyH_ready (rs := [1]) (by kernel_rfl) (by simp) ?_
            refine AllReadyH.cons rfl (fun K hK => ?_) AllReadyH.nil
            go_simp
            refine (HO _ HA1.out.drew.below).mono ?_
            rintro e w2 ⟨q2, c2, rfl, hb2⟩
            have HA2 : Hid (IB w E be bs v q c w2) := HA1.out.drew.on hb2
            clear hb2
            refine hK.out _ _ ⟨(IB.cells HA2.out).1, (IB.cells HA2.out).2.1⟩ (fun hH2 => ?_)
            clear hK K
            refine wpAnyH_take (i := 2) (v := (.int .i64 vd.n)) rfl (by kernel_rfl) (by kernel_rfl) (by kernel_rfl) (fun _ _ _ h => h) (Or.inl ⟨by kernel_rfl, ?_⟩) hH2 ?_
            · intro W hW
              go_simp
            refine wpAnyH_take (i := 3) (v := (.bool true)) rfl (by kernel_rfl) (by kernel_rfl) (by kernel_rfl) (fun _ _ _ h => h) (Or.inl ⟨by kernel_rfl, ?_⟩) hH2 ?_
            · intro W hW
              go_simp
            refine wpAnyH_take (i := 4) (v := (.bool true)) rfl (by kernel_rfl) (by kernel_rfl) (by kernel_rfl) (fun _ _ _ h => h) (Or.inl ⟨by kernel_rfl, ?_⟩) hH2 ?_
            · intro W hW
              go_simp
            refine wpAnyH_take (i := 5) (v := undef) rfl (by kernel_rfl) (by kernel_rfl) (by kernel_rfl) (fun _ _ _ h => h) (Or.inr ⟨by kernel_rfl, rfl⟩) hH2 ?_
            refine wpAnyH_take (i := 6) (v := undef) rfl (by kernel_rfl) (by kernel_rfl) (by kernel_rfl) (fun _ _ _ h => h) (Or.inr ⟨by kernel_rfl, rfl⟩) hH2 ?_
            refine wpAnyH_take (i := 7) (v := undef) rfl (by kernel_rfl) (by kernel_rfl) (by kernel_rfl) (fun _ _ _ h => h) (Or.inr ⟨by kernel_rfl, rfl⟩) hH2 ?_
            refine wpAnyH_take (i := 8) (v := undef) rfl (by kernel_rfl) (by kernel_rfl) (by kernel_rfl) (fun _ _ _ h => h) (Or.inr ⟨by kernel_rfl, rfl⟩) hH2 ?_
            refine wpAnyH_take (i := 9) (v := undef) rfl (by kernel_rfl) (by kernel_rfl) (by kernel_rfl) (fun _ _ _ h => h) (Or.inr ⟨by kernel_rfl, rfl⟩) hH2 ?_
            refine wpAnyH_take (i := 10) (v := (.bool true)) rfl (by kernel_rfl) (by kernel_rfl) (by kernel_rfl) (fun _ _ _ h => h) (Or.inl ⟨by kernel_rfl, ?_⟩) hH2 ?_
            · intro W hW
              go_simp
            refine wpAnyH_ready (rs := [11]) (by kernel_rfl) (by simp) ?_
            refine AllReadyH.cons rfl (fun K hK => ?_) AllReadyH.nil
            go_simp
            refine hK.out _ _ ⟨(IB.cells HA2.out).1, (IB.cells HA2.out).2.1⟩ (fun hH3 => ?_)
            clear hK K
            refine wpAnyH_done (by kernel_rfl) ?_ _
            all_goals obtain ⟨m1, m2, m3, m4, m5, m6⟩ := HA2.out.cells
            all_goals go_wp2
            all_goals go_ret
            all_goals exact ⟨ret_0 (by rw [HR.out]; simp [ownE, ifE, ← HVD.out, ← HVA.out, h1, h4, hn1, h3, hd]), HA2.out.below⟩
        · simp_all
  · cases hn1 : (v.n == 1)
    · cases hn2 : (v.n == 2)
      · go_wp2
        go_ret
        exact ⟨ret_d (by rw [HR.out]; simp [ownE, hn1, hn2]), HA1.out.below⟩
      · go_wp2
        go_ret
        exact ⟨ret_0 (by rw [HR.out]; simp [ownE, ifE, h1, hn1, hn2]), HA1.out.below⟩
    · cases h3 : (m == 3)
      · cases hd : (vd.n == 1)
        · cases ha : (v.author == x)
          · have hac : (x == v.author) = false := by rw [Bool.eq_iff_iff]; simp at ha ⊢; exact fun e => ha e.symm
            go_wp2
            clear m1 m2 m3 m4 m5 m6
            go_region_held3 (fun W => (∀ k, W.cell? ⟨w.heap.size, k, none⟩ = #[.map (some be), .map (some bs)][k]?) ∧ (∀ k, W.cell? ⟨w.heap.size + 1, k, none⟩ = #[.int .i64 v.id, .int .i64 v.room, .int .i64 v.author, .int .i64 v.kind, .int .i64 v.key, .int .i64 v.n, .string v.text, .slice q v.prev.length c, .int .i64 v.time][k]?)) (first | exact ⟨(IB.cells HA3.out).1, (IB.cells HA3.out).2.1⟩ | exact ⟨(IB.cells HA2.out).1, (IB.cells HA2.out).2.1⟩ | exact ⟨(IB.cells HA1.out.drew).1, (IB.cells HA1.out.drew).2.1⟩) (first
              | (go_at_call 179; refine (HO _ HA1.out.drew.below).mono ?_; rintro e w2 ⟨q2, c2, rfl, hb2⟩; have HA2 : Hid (IB w E be bs v q c w2) := HA1.out.drew.on hb2; clear hb2)
              | (go_at_call 206; refine (HC _ HA2.out.below).mono ?_; rintro e w3 ⟨rfl, hb3⟩; have HA3 : Hid (IB w E be bs v q c w3) := HA2.out.on hb3; clear hb3))
            all_goals obtain ⟨m1, m2, m3, m4, m5, m6⟩ := HA3.out.cells
            all_goals go_wp2
            all_goals go_ret
            all_goals exact ⟨ret_0 (by rw [HR.out]; simp [ownE, ifE, ← HVD.out, ← HVA.out, h1, hn1, h3, hd, hac]), HA3.out.below⟩
          · have hac : (x == v.author) = true := by rw [Bool.eq_iff_iff]; simp at ha ⊢; exact ha.symm
            go_wp2
            clear m1 m2 m3 m4 m5 m6
            go_region_held3 (fun W => (∀ k, W.cell? ⟨w.heap.size, k, none⟩ = #[.map (some be), .map (some bs)][k]?) ∧ (∀ k, W.cell? ⟨w.heap.size + 1, k, none⟩ = #[.int .i64 v.id, .int .i64 v.room, .int .i64 v.author, .int .i64 v.kind, .int .i64 v.key, .int .i64 v.n, .string v.text, .slice q v.prev.length c, .int .i64 v.time][k]?)) (first | exact ⟨(IB.cells HA3.out).1, (IB.cells HA3.out).2.1⟩ | exact ⟨(IB.cells HA2.out).1, (IB.cells HA2.out).2.1⟩ | exact ⟨(IB.cells HA1.out.drew).1, (IB.cells HA1.out.drew).2.1⟩) (first
              | (go_at_call 179; refine (HO _ HA1.out.drew.below).mono ?_; rintro e w2 ⟨q2, c2, rfl, hb2⟩; have HA2 : Hid (IB w E be bs v q c w2) := HA1.out.drew.on hb2; clear hb2)
              | (go_at_call 206; refine (HC _ HA2.out.below).mono ?_; rintro e w3 ⟨rfl, hb3⟩; have HA3 : Hid (IB w E be bs v q c w3) := HA2.out.on hb3; clear hb3))
            all_goals obtain ⟨m1, m2, m3, m4, m5, m6⟩ := HA3.out.cells
            all_goals go_wp2
            all_goals go_ret
            all_goals exact ⟨ret_0 (by rw [HR.out]; simp [ownE, ifE, ← HVD.out, ← HVA.out, h1, hn1, h3, hd, hac]), HA3.out.below⟩
        · go_wp2
          clear m1 m2 m3 m4 m5 m6
          refine wp_region_held_drew (S := (fun W => (∀ k, W.cell? ⟨w.heap.size, k, none⟩ = #[.map (some be), .map (some bs)][k]?) ∧ (∀ k, W.cell? ⟨w.heap.size + 1, k, none⟩ = #[.int .i64 v.id, .int .i64 v.room, .int .i64 v.author, .int .i64 v.kind, .int .i64 v.key, .int .i64 v.n, .string v.text, .slice q v.prev.length c, .int .i64 v.time][k]?))) (by kernel_rfl) ⟨(IB.cells HA1.out.drew).1, (IB.cells HA1.out.drew).2.1⟩ (fun hHeld => ?_)
          refine wpAnyH_take (i := 0) (v := (.agg #[.map (some be), .map (some bs)])) rfl (by kernel_rfl) (by kernel_rfl) (by kernel_rfl) (fun _ _ _ h => h) (Or.inl ⟨by kernel_rfl, ?_⟩) hHeld ?_
          · intro W hW
            obtain ⟨f1, f2⟩ := hW
            go_simp
          refine wpAnyH_ready (rs := [1]) (by kernel_rfl) (by simp) ?_
          refine AllReadyH.cons rfl (fun K hK => ?_) AllReadyH.nil
          go_simp
          refine (HO _ HA1.out.drew.below).mono ?_
          rintro e w2 ⟨q2, c2, rfl, hb2⟩
          have HA2 : Hid (IB w E be bs v q c w2) := HA1.out.drew.on hb2
          clear hb2
          refine hK.out _ _ ⟨(IB.cells HA2.out).1, (IB.cells HA2.out).2.1⟩ (fun hH2 => ?_)
          clear hK K
          refine wpAnyH_take (i := 2) (v := (.int .i64 vd.n)) rfl (by kernel_rfl) (by kernel_rfl) (by kernel_rfl) (fun _ _ _ h => h) (Or.inl ⟨by kernel_rfl, ?_⟩) hH2 ?_
          · intro W hW
            go_simp
          refine wpAnyH_take (i := 3) (v := (.bool true)) rfl (by kernel_rfl) (by kernel_rfl) (by kernel_rfl) (fun _ _ _ h => h) (Or.inl ⟨by kernel_rfl, ?_⟩) hH2 ?_
          · intro W hW
            go_simp
          refine wpAnyH_take (i := 4) (v := (.bool true)) rfl (by kernel_rfl) (by kernel_rfl) (by kernel_rfl) (fun _ _ _ h => h) (Or.inl ⟨by kernel_rfl, ?_⟩) hH2 ?_
          · intro W hW
            go_simp
          refine wpAnyH_take (i := 5) (v := undef) rfl (by kernel_rfl) (by kernel_rfl) (by kernel_rfl) (fun _ _ _ h => h) (Or.inr ⟨by kernel_rfl, rfl⟩) hH2 ?_
          refine wpAnyH_take (i := 6) (v := undef) rfl (by kernel_rfl) (by kernel_rfl) (by kernel_rfl) (fun _ _ _ h => h) (Or.inr ⟨by kernel_rfl, rfl⟩) hH2 ?_
          refine wpAnyH_take (i := 7) (v := undef) rfl (by kernel_rfl) (by kernel_rfl) (by kernel_rfl) (fun _ _ _ h => h) (Or.inr ⟨by kernel_rfl, rfl⟩) hH2 ?_
          refine wpAnyH_take (i := 8) (v := undef) rfl (by kernel_rfl) (by kernel_rfl) (by kernel_rfl) (fun _ _ _ h => h) (Or.inr ⟨by kernel_rfl, rfl⟩) hH2 ?_
          refine wpAnyH_take (i := 9) (v := undef) rfl (by kernel_rfl) (by kernel_rfl) (by kernel_rfl) (fun _ _ _ h => h) (Or.inr ⟨by kernel_rfl, rfl⟩) hH2 ?_
          refine wpAnyH_take (i := 10) (v := (.bool true)) rfl (by kernel_rfl) (by kernel_rfl) (by kernel_rfl) (fun _ _ _ h => h) (Or.inl ⟨by kernel_rfl, ?_⟩) hH2 ?_
          · intro W hW
            go_simp
          refine wpAnyH_ready (rs := [11]) (by kernel_rfl) (by simp) ?_
          refine AllReadyH.cons rfl (fun K hK => ?_) AllReadyH.nil
          go_simp
          refine hK.out _ _ ⟨(IB.cells HA2.out).1, (IB.cells HA2.out).2.1⟩ (fun hH3 => ?_)
          clear hK K
          refine wpAnyH_done (by kernel_rfl) ?_ _
          all_goals obtain ⟨m1, m2, m3, m4, m5, m6⟩ := HA2.out.cells
          all_goals go_wp2
          all_goals go_ret
          all_goals exact ⟨ret_0 (by rw [HR.out]; simp [ownE, ifE, ← HVD.out, ← HVA.out, h1, hn1, h3, hd]), HA2.out.below⟩
      · simp_all
end Go.Proofs.YteajcmkaoahbeaaGreatDoor
