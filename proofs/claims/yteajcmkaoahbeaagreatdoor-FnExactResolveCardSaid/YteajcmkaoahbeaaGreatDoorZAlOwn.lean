/- What hinders an event of itself, on the specification's side. -/
import Derived.Test.YteajcmkaoahbeaaGreatDoorZRsHv
import Derived.Deep.DeepCutAuto
import Derived.Deep.RegionHeld3
namespace Go.Proofs.YteajcmkaoahbeaaGreatDoor
open Go.RowKit

set_option maxHeartbeats 16000000 in
set_option maxRecDepth 100000 in
theorem own_spec (g : Gr) (xs : List En) (v : Ev) (q : Option Addr) (c : Nat) (a : Option Addr) (cap : Nat) (p : Option Addr) (cp : Nat) (s : Option Addr) (cs : Nat) (w : World) (h : RIn w g xs a s) (hs : Sc g xs) (m : Int) :
    Calls Tryz.prog 104 #[.agg #[.int .i64 g.room, .slice a g.evs.length cap, .slice p g.pk.length cp], .slice s xs.length cs, .agg #[.int .i64 v.id, .int .i64 v.room, .int .i64 v.author, .int .i64 v.kind, .int .i64 v.key, .int .i64 v.n, .string v.text, .slice q v.prev.length c, .int .i64 v.time], .int .i64 m] w fun e w' => e = .returned (.int .i64 (ownE g.evs xs v m)) ∧ Below w.heap.size w w' := by
  have HA0 : Hid (AB w g a cap p cp v q c ((w.alloc (.cells #[.int .i64 g.room, .slice a g.evs.length cap, .slice p g.pk.length cp] 32)).alloc (.cells #[.int .i64 v.id, .int .i64 v.room, .int .i64 v.author, .int .i64 v.kind, .int .i64 v.key, .int .i64 v.n, .string v.text, .slice q v.prev.length c, .int .i64 v.time] 114))) := AB.start w g a cap p cp v q c
  obtain ⟨m1, m2⟩ := HA0.out.cells
  have HO := fun W (hW : Below w.heap.size w W) k y => of_spec g xs k y a cap p cp s cs W (h.kept hW).evs (h.kept hW).ens hs
  obtain ⟨vd, HVD⟩ : ∃ u, Hid (u = lastE g.evs xs 5 0) := ⟨lastE g.evs xs 5 0, (rfl : lastE g.evs xs 5 0 = _)⟩
  obtain ⟨va, HVA⟩ : ∃ u, Hid (u = lastE g.evs xs 1 0) := ⟨lastE g.evs xs 1 0, (rfl : lastE g.evs xs 1 0 = _)⟩
  obtain ⟨R, HR⟩ : ∃ R, Hid (R = ownE g.evs xs v m) := ⟨ownE g.evs xs v m, (rfl : ownE g.evs xs v m = _)⟩
  rw [← HR.out]
  have hfd := field_n vd
  have hfa := field_author va
  clear h hs
  cases hn1 : (v.n == 1)
  · cases hn2 : (v.n == 2)
    · go_enter Tryz.func104, Tryz.ntmps104
      go_wp2
      all_goals go_ret
      all_goals exact ⟨ret_int' (by rw [HR.out]; simp [ownE, hn1, hn2]), HA0.out.below⟩
    · cases h1 : (m == 1)
      · cases h4 : (m == 4)
        · go_enter Tryz.func104, Tryz.ntmps104
          go_wp2_with (go_at_call 106; refine (if_spec _ _).mono ?_; rintro e w9 ⟨rfl, rfl⟩)
          all_goals go_ret
          all_goals exact ⟨ret_int' (by rw [HR.out]; simp [ownE, ifE, hn1, hn2, h1, h4]), HA0.out.below⟩
        · go_enter Tryz.func104, Tryz.ntmps104
          go_wp2_with (go_at_call 106; refine (if_spec _ _).mono ?_; rintro e w9 ⟨rfl, rfl⟩)
          all_goals go_ret
          all_goals exact ⟨ret_int' (by rw [HR.out]; simp [ownE, ifE, hn1, hn2, h1, h4]), HA0.out.below⟩
      · go_enter Tryz.func104, Tryz.ntmps104
        go_wp2_with (go_at_call 106; refine (if_spec _ _).mono ?_; rintro e w9 ⟨rfl, rfl⟩)
        all_goals go_ret
        all_goals exact ⟨ret_int' (by rw [HR.out]; simp [ownE, ifE, hn1, hn2, h1]), HA0.out.below⟩
  · obtain ⟨op, HOP⟩ : ∃ b : Bool, Hid (b = (vd.n == 1 || va.author == v.author)) := ⟨(vd.n == 1 || va.author == v.author), (rfl : (vd.n == 1 || va.author == v.author) = _)⟩
    obtain ⟨im, HIM⟩ : ∃ b : Bool, Hid (b = (m == 1 || m == 4)) := ⟨(m == 1 || m == 4), (rfl : (m == 1 || m == 4) = _)⟩
    have HV : Hid (R = ifE (m == 3 || (!im && !op))) := by unfold Hid; rw [HR.out, HIM.out, HOP.out]; simp [ownE, hn1, ← HVD.out, ← HVA.out]
    go_enter Tryz.func104, Tryz.ntmps104
    go_upto_region 1 with fail
    go_cut [9] (fun r W => r = .bool im ∧ Hid (AB w g a cap p cp v q c W))
    case first =>
      cases h1 : (m == 1)
      · cases h4 : (m == 4)
        · have e : Hid (im = false) := by unfold Hid; rw [HIM.out, h1, h4]; rfl
          go_wp2
          go_meet
          case rel => exact ⟨by rw [e.out], HA0⟩
        · have e : Hid (im = true) := by unfold Hid; rw [HIM.out, h1, h4]; rfl
          go_wp2
          go_meet
          case rel => exact ⟨by rw [e.out], HA0⟩
      · have e : Hid (im = true) := by unfold Hid; rw [HIM.out, h1]; rfl
        go_wp2
        go_meet
        case rel => exact ⟨by rw [e.out], HA0⟩
    case rest =>
      clear HA0 m1 m2 HIM
      obtain ⟨rfl, HA1⟩ := hcut
      obtain ⟨m1, m2⟩ := HA1.out.cells
      go_wp2
      clear m1 m2
      go_cut [10] (fun r W => r = .bool op ∧ Hid (AB w g a cap p cp v q c W))
      case first =>
        cases hd : (vd.n == 1)
        · cases ha : (va.author == v.author)
          · have e : Hid (op = false) := by unfold Hid; rw [HOP.out, hd, ha]; rfl
            refine wp_region_held_drew (S := (fun W => (∀ k, W.cell? ⟨w.heap.size, k, none⟩ = #[.int .i64 g.room, .slice a g.evs.length cap, .slice p g.pk.length cp][k]?) ∧ (∀ k, W.cell? ⟨w.heap.size + 1, k, none⟩ = #[.int .i64 v.id, .int .i64 v.room, .int .i64 v.author, .int .i64 v.kind, .int .i64 v.key, .int .i64 v.n, .string v.text, .slice q v.prev.length c, .int .i64 v.time][k]?))) (by kernel_rfl) (AB.cells HA1.out.drew) (fun hHeld => ?_)
            refine wpAnyH_take (i := 0) (v := (.agg #[.int .i64 g.room, .slice a g.evs.length cap, .slice p g.pk.length cp])) rfl (by kernel_rfl) (by kernel_rfl) (by kernel_rfl) (fun _ _ _ h => h) (Or.inl ⟨by kernel_rfl, ?_⟩) hHeld ?_
            · intro W hW
              obtain ⟨f1, f2⟩ := hW
              go_simp
            refine wpAnyH_take (i := 1) (v := (.slice s xs.length cs)) rfl (by kernel_rfl) (by kernel_rfl) (by kernel_rfl) (fun _ _ _ h => h) (Or.inl ⟨by kernel_rfl, ?_⟩) hHeld ?_
            · intro W hW
              go_simp
            refine wpAnyH_ready (rs := [2]) (by kernel_rfl) (by simp) ?_
            refine AllReadyH.cons rfl (fun K hK => ?_) AllReadyH.nil
            go_simp
            refine (HO _ HA1.out.drew.below 5 0).mono ?_
            rw [← HVD.out]
            rintro e1 w1 ⟨q1, c1, rfl, hb1⟩
            have HA2 : Hid (AB w g a cap p cp v q c w1) := HA1.out.drew.on hb1
            clear hb1
            refine hK.out _ _ (AB.cells HA2.out) (fun hH2 => ?_)
            clear hK K
            refine wpAnyH_take (i := 3) (v := (.int .i64 vd.n)) rfl (by kernel_rfl) (by kernel_rfl) (by kernel_rfl) (fun _ _ _ h => h) (Or.inl ⟨by kernel_rfl, ?_⟩) hH2 ?_
            · intro W hW
              go_simp
            refine wpAnyH_take (i := 4) (v := (.bool false)) rfl (by kernel_rfl) (by kernel_rfl) (by kernel_rfl) (fun _ _ _ h => h) (Or.inl ⟨by kernel_rfl, ?_⟩) hH2 ?_
            · intro W hW
              go_simp
            refine wpAnyH_take (i := 5) (v := (.bool false)) rfl (by kernel_rfl) (by kernel_rfl) (by kernel_rfl) (fun _ _ _ h => h) (Or.inl ⟨by kernel_rfl, ?_⟩) hH2 ?_
            · intro W hW
              go_simp
            refine wpAnyH_take (i := 6) (v := (.agg #[.int .i64 g.room, .slice a g.evs.length cap, .slice p g.pk.length cp])) rfl (by kernel_rfl) (by kernel_rfl) (by kernel_rfl) (fun _ _ _ h => h) (Or.inl ⟨by kernel_rfl, ?_⟩) hH2 ?_
            · intro W hW
              obtain ⟨f1, f2⟩ := hW
              go_simp
            refine wpAnyH_take (i := 7) (v := (.slice s xs.length cs)) rfl (by kernel_rfl) (by kernel_rfl) (by kernel_rfl) (fun _ _ _ h => h) (Or.inl ⟨by kernel_rfl, ?_⟩) hH2 ?_
            · intro W hW
              go_simp
            refine wpAnyH_take (i := 10) (v := (.pointer (some ⟨w.heap.size + 1, 2, none⟩))) rfl (by kernel_rfl) (by kernel_rfl) (by kernel_rfl) (fun _ _ _ h => h) (Or.inl ⟨by kernel_rfl, ?_⟩) hH2 ?_
            · intro W hW
              go_simp
            refine wpAnyH_take (i := 11) (v := (.int .i64 v.author)) rfl (by kernel_rfl) (by kernel_rfl) (by kernel_rfl) (fun _ _ _ h => h) (Or.inl ⟨by kernel_rfl, ?_⟩) hH2 ?_
            · intro W hW
              obtain ⟨f1, f2⟩ := hW
              go_simp
            refine wpAnyH_ready (rs := [8]) (by kernel_rfl) (by simp) ?_
            refine AllReadyH.cons rfl (fun K hK => ?_) AllReadyH.nil
            go_simp
            refine (HO _ HA2.out.below 1 0).mono ?_
            rw [← HVA.out]
            rintro e2 w2 ⟨q2, c2, rfl, hb2⟩
            have HA3 : Hid (AB w g a cap p cp v q c w2) := HA2.out.on hb2
            clear hb2
            refine hK.out _ _ (AB.cells HA3.out) (fun hH3 => ?_)
            clear hK K
            refine wpAnyH_take (i := 9) (v := (.int .i64 va.author)) rfl (by kernel_rfl) (by kernel_rfl) (by kernel_rfl) (fun _ _ _ h => h) (Or.inl ⟨by kernel_rfl, ?_⟩) hH3 ?_
            · intro W hW
              go_simp
            refine wpAnyH_take (i := 12) (v := (.bool false)) rfl (by kernel_rfl) (by kernel_rfl) (by kernel_rfl) (fun _ _ _ h => h) (Or.inl ⟨by kernel_rfl, ?_⟩) hH3 ?_
            · intro W hW
              go_simp
            refine wpAnyH_take (i := 13) (v := (.bool false)) rfl (by kernel_rfl) (by kernel_rfl) (by kernel_rfl) (fun _ _ _ h => h) (Or.inl ⟨by kernel_rfl, ?_⟩) hH3 ?_
            · intro W hW
              go_simp
            refine wpAnyH_ready (rs := [14]) (by kernel_rfl) (by simp) ?_
            refine AllReadyH.cons rfl (fun K hK => ?_) AllReadyH.nil
            go_simp
            refine hK.out _ _ (AB.cells HA3.out) (fun hH4 => ?_)
            clear hK K
            refine wpAnyH_done (by kernel_rfl) ?_ _
            go_wp2
            go_meet
            case rel => exact ⟨by rw [e.out], HA3⟩
          · have e : Hid (op = true) := by unfold Hid; rw [HOP.out, hd, ha]; rfl
            refine wp_region_held_drew (S := (fun W => (∀ k, W.cell? ⟨w.heap.size, k, none⟩ = #[.int .i64 g.room, .slice a g.evs.length cap, .slice p g.pk.length cp][k]?) ∧ (∀ k, W.cell? ⟨w.heap.size + 1, k, none⟩ = #[.int .i64 v.id, .int .i64 v.room, .int .i64 v.author, .int .i64 v.kind, .int .i64 v.key, .int .i64 v.n, .string v.text, .slice q v.prev.length c, .int .i64 v.time][k]?))) (by kernel_rfl) (AB.cells HA1.out.drew) (fun hHeld => ?_)
            refine wpAnyH_take (i := 0) (v := (.agg #[.int .i64 g.room, .slice a g.evs.length cap, .slice p g.pk.length cp])) rfl (by kernel_rfl) (by kernel_rfl) (by kernel_rfl) (fun _ _ _ h => h) (Or.inl ⟨by kernel_rfl, ?_⟩) hHeld ?_
            · intro W hW
              obtain ⟨f1, f2⟩ := hW
              go_simp
            refine wpAnyH_take (i := 1) (v := (.slice s xs.length cs)) rfl (by kernel_rfl) (by kernel_rfl) (by kernel_rfl) (fun _ _ _ h => h) (Or.inl ⟨by kernel_rfl, ?_⟩) hHeld ?_
            · intro W hW
              go_simp
            refine wpAnyH_ready (rs := [2]) (by kernel_rfl) (by simp) ?_
            refine AllReadyH.cons rfl (fun K hK => ?_) AllReadyH.nil
            go_simp
            refine (HO _ HA1.out.drew.below 5 0).mono ?_
            rw [← HVD.out]
            rintro e1 w1 ⟨q1, c1, rfl, hb1⟩
            have HA2 : Hid (AB w g a cap p cp v q c w1) := HA1.out.drew.on hb1
            clear hb1
            refine hK.out _ _ (AB.cells HA2.out) (fun hH2 => ?_)
            clear hK K
            refine wpAnyH_take (i := 3) (v := (.int .i64 vd.n)) rfl (by kernel_rfl) (by kernel_rfl) (by kernel_rfl) (fun _ _ _ h => h) (Or.inl ⟨by kernel_rfl, ?_⟩) hH2 ?_
            · intro W hW
              go_simp
            refine wpAnyH_take (i := 4) (v := (.bool false)) rfl (by kernel_rfl) (by kernel_rfl) (by kernel_rfl) (fun _ _ _ h => h) (Or.inl ⟨by kernel_rfl, ?_⟩) hH2 ?_
            · intro W hW
              go_simp
            refine wpAnyH_take (i := 5) (v := (.bool false)) rfl (by kernel_rfl) (by kernel_rfl) (by kernel_rfl) (fun _ _ _ h => h) (Or.inl ⟨by kernel_rfl, ?_⟩) hH2 ?_
            · intro W hW
              go_simp
            refine wpAnyH_take (i := 6) (v := (.agg #[.int .i64 g.room, .slice a g.evs.length cap, .slice p g.pk.length cp])) rfl (by kernel_rfl) (by kernel_rfl) (by kernel_rfl) (fun _ _ _ h => h) (Or.inl ⟨by kernel_rfl, ?_⟩) hH2 ?_
            · intro W hW
              obtain ⟨f1, f2⟩ := hW
              go_simp
            refine wpAnyH_take (i := 7) (v := (.slice s xs.length cs)) rfl (by kernel_rfl) (by kernel_rfl) (by kernel_rfl) (fun _ _ _ h => h) (Or.inl ⟨by kernel_rfl, ?_⟩) hH2 ?_
            · intro W hW
              go_simp
            refine wpAnyH_take (i := 10) (v := (.pointer (some ⟨w.heap.size + 1, 2, none⟩))) rfl (by kernel_rfl) (by kernel_rfl) (by kernel_rfl) (fun _ _ _ h => h) (Or.inl ⟨by kernel_rfl, ?_⟩) hH2 ?_
            · intro W hW
              go_simp
            refine wpAnyH_take (i := 11) (v := (.int .i64 v.author)) rfl (by kernel_rfl) (by kernel_rfl) (by kernel_rfl) (fun _ _ _ h => h) (Or.inl ⟨by kernel_rfl, ?_⟩) hH2 ?_
            · intro W hW
              obtain ⟨f1, f2⟩ := hW
              go_simp
            refine wpAnyH_ready (rs := [8]) (by kernel_rfl) (by simp) ?_
            refine AllReadyH.cons rfl (fun K hK => ?_) AllReadyH.nil
            go_simp
            refine (HO _ HA2.out.below 1 0).mono ?_
            rw [← HVA.out]
            rintro e2 w2 ⟨q2, c2, rfl, hb2⟩
            have HA3 : Hid (AB w g a cap p cp v q c w2) := HA2.out.on hb2
            clear hb2
            refine hK.out _ _ (AB.cells HA3.out) (fun hH3 => ?_)
            clear hK K
            refine wpAnyH_take (i := 9) (v := (.int .i64 va.author)) rfl (by kernel_rfl) (by kernel_rfl) (by kernel_rfl) (fun _ _ _ h => h) (Or.inl ⟨by kernel_rfl, ?_⟩) hH3 ?_
            · intro W hW
              go_simp
            refine wpAnyH_take (i := 12) (v := (.bool true)) rfl (by kernel_rfl) (by kernel_rfl) (by kernel_rfl) (fun _ _ _ h => h) (Or.inl ⟨by kernel_rfl, ?_⟩) hH3 ?_
            · intro W hW
              go_simp
            refine wpAnyH_take (i := 13) (v := (.bool true)) rfl (by kernel_rfl) (by kernel_rfl) (by kernel_rfl) (fun _ _ _ h => h) (Or.inl ⟨by kernel_rfl, ?_⟩) hH3 ?_
            · intro W hW
              go_simp
            refine wpAnyH_ready (rs := [14]) (by kernel_rfl) (by simp) ?_
            refine AllReadyH.cons rfl (fun K hK => ?_) AllReadyH.nil
            go_simp
            refine hK.out _ _ (AB.cells HA3.out) (fun hH4 => ?_)
            clear hK K
            refine wpAnyH_done (by kernel_rfl) ?_ _
            go_wp2
            go_meet
            case rel => exact ⟨by rw [e.out], HA3⟩
        · have e : Hid (op = true) := by unfold Hid; rw [HOP.out, hd]; rfl
          refine wp_region_held_drew (S := (fun W => (∀ k, W.cell? ⟨w.heap.size, k, none⟩ = #[.int .i64 g.room, .slice a g.evs.length cap, .slice p g.pk.length cp][k]?) ∧ (∀ k, W.cell? ⟨w.heap.size + 1, k, none⟩ = #[.int .i64 v.id, .int .i64 v.room, .int .i64 v.author, .int .i64 v.kind, .int .i64 v.key, .int .i64 v.n, .string v.text, .slice q v.prev.length c, .int .i64 v.time][k]?))) (by kernel_rfl) (AB.cells HA1.out.drew) (fun hHeld => ?_)
          refine wpAnyH_take (i := 0) (v := (.agg #[.int .i64 g.room, .slice a g.evs.length cap, .slice p g.pk.length cp])) rfl (by kernel_rfl) (by kernel_rfl) (by kernel_rfl) (fun _ _ _ h => h) (Or.inl ⟨by kernel_rfl, ?_⟩) hHeld ?_
          · intro W hW
            obtain ⟨f1, f2⟩ := hW
            go_simp
          refine wpAnyH_take (i := 1) (v := (.slice s xs.length cs)) rfl (by kernel_rfl) (by kernel_rfl) (by kernel_rfl) (fun _ _ _ h => h) (Or.inl ⟨by kernel_rfl, ?_⟩) hHeld ?_
          · intro W hW
            go_simp
          refine wpAnyH_ready (rs := [2]) (by kernel_rfl) (by simp) ?_
          refine AllReadyH.cons rfl (fun K hK => ?_) AllReadyH.nil
          go_simp
          refine (HO _ HA1.out.drew.below 5 0).mono ?_
          rw [← HVD.out]
          rintro e1 w1 ⟨q1, c1, rfl, hb1⟩
          have HA2 : Hid (AB w g a cap p cp v q c w1) := HA1.out.drew.on hb1
          clear hb1
          refine hK.out _ _ (AB.cells HA2.out) (fun hH2 => ?_)
          clear hK K
          refine wpAnyH_take (i := 3) (v := (.int .i64 vd.n)) rfl (by kernel_rfl) (by kernel_rfl) (by kernel_rfl) (fun _ _ _ h => h) (Or.inl ⟨by kernel_rfl, ?_⟩) hH2 ?_
          · intro W hW
            go_simp
          refine wpAnyH_take (i := 4) (v := (.bool true)) rfl (by kernel_rfl) (by kernel_rfl) (by kernel_rfl) (fun _ _ _ h => h) (Or.inl ⟨by kernel_rfl, ?_⟩) hH2 ?_
          · intro W hW
            go_simp
          refine wpAnyH_take (i := 5) (v := (.bool true)) rfl (by kernel_rfl) (by kernel_rfl) (by kernel_rfl) (fun _ _ _ h => h) (Or.inl ⟨by kernel_rfl, ?_⟩) hH2 ?_
          · intro W hW
            go_simp
          refine wpAnyH_take (i := 6) (v := undef) rfl (by kernel_rfl) (by kernel_rfl) (by kernel_rfl) (fun _ _ _ h => h) (Or.inr ⟨by kernel_rfl, rfl⟩) hH2 ?_
          refine wpAnyH_take (i := 7) (v := undef) rfl (by kernel_rfl) (by kernel_rfl) (by kernel_rfl) (fun _ _ _ h => h) (Or.inr ⟨by kernel_rfl, rfl⟩) hH2 ?_
          refine wpAnyH_take (i := 8) (v := undef) rfl (by kernel_rfl) (by kernel_rfl) (by kernel_rfl) (fun _ _ _ h => h) (Or.inr ⟨by kernel_rfl, rfl⟩) hH2 ?_
          refine wpAnyH_take (i := 9) (v := undef) rfl (by kernel_rfl) (by kernel_rfl) (by kernel_rfl) (fun _ _ _ h => h) (Or.inr ⟨by kernel_rfl, rfl⟩) hH2 ?_
          refine wpAnyH_take (i := 10) (v := undef) rfl (by kernel_rfl) (by kernel_rfl) (by kernel_rfl) (fun _ _ _ h => h) (Or.inr ⟨by kernel_rfl, rfl⟩) hH2 ?_
          refine wpAnyH_take (i := 11) (v := undef) rfl (by kernel_rfl) (by kernel_rfl) (by kernel_rfl) (fun _ _ _ h => h) (Or.inr ⟨by kernel_rfl, rfl⟩) hH2 ?_
          refine wpAnyH_take (i := 12) (v := undef) rfl (by kernel_rfl) (by kernel_rfl) (by kernel_rfl) (fun _ _ _ h => h) (Or.inr ⟨by kernel_rfl, rfl⟩) hH2 ?_
          refine wpAnyH_take (i := 13) (v := (.bool true)) rfl (by kernel_rfl) (by kernel_rfl) (by kernel_rfl) (fun _ _ _ h => h) (Or.inl ⟨by kernel_rfl, ?_⟩) hH2 ?_
          · intro W hW
            go_simp
          refine wpAnyH_ready (rs := [14]) (by kernel_rfl) (by simp) ?_
          refine AllReadyH.cons rfl (fun K hK => ?_) AllReadyH.nil
          go_simp
          refine hK.out _ _ (AB.cells HA2.out) (fun hH3 => ?_)
          clear hK K
          refine wpAnyH_done (by kernel_rfl) ?_ _
          go_wp2
          go_meet
          case rel => exact ⟨by rw [e.out], HA2⟩
      case rest =>
        clear HA1
        obtain ⟨rfl, HA⟩ := hcut
        obtain ⟨m1, m2⟩ := HA.out.cells
        cases h3 : (m == 3)
        · cases im
          · cases op
            · go_wp2_with (go_at_call 106; refine (if_spec _ _).mono ?_; rintro e w9 ⟨rfl, rfl⟩)
              go_ret
              exact ⟨ret_int' (by rw [HV.out]; simp [ifE, h3]), HA.out.below⟩
            · go_wp2_with (go_at_call 106; refine (if_spec _ _).mono ?_; rintro e w9 ⟨rfl, rfl⟩)
              go_ret
              exact ⟨ret_int' (by rw [HV.out]; simp [ifE, h3]), HA.out.below⟩
          · go_wp2_with (go_at_call 106; refine (if_spec _ _).mono ?_; rintro e w9 ⟨rfl, rfl⟩)
            go_ret
            exact ⟨ret_int' (by rw [HV.out]; simp [ifE, h3]), HA.out.below⟩
        · go_wp2_with (go_at_call 106; refine (if_spec _ _).mono ?_; rintro e w9 ⟨rfl, rfl⟩)
          go_ret
          exact ⟨ret_int' (by rw [HV.out]; simp [ifE, h3]), HA.out.below⟩
end Go.Proofs.YteajcmkaoahbeaaGreatDoor
