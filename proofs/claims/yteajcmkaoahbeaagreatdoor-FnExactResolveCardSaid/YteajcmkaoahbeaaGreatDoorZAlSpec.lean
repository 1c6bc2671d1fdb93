/- What hinders an event, on the specification's side. -/
import Derived.Test.YteajcmkaoahbeaaGreatDoorZAlOwn
import Derived.Test.YteajcmkaoahbeaaGreatDoorZRsHv
namespace Go.Proofs.YteajcmkaoahbeaaGreatDoor
open Go.RowKit

set_option maxHeartbeats 32000000 in
set_option maxRecDepth 100000 in
theorem allowed05_spec (g : Gr) (xs : List En) (v : Ev) (q : Option Addr) (c : Nat) (a : Option Addr) (cap : Nat) (p : Option Addr) (cp : Nat) (s : Option Addr) (cs : Nat) (w : World) (h : RIn w g xs a s) (hs : Sc g xs) :
    Calls Tryz.prog 69 #[.agg #[.int .i64 g.room, .slice a g.evs.length cap, .slice p g.pk.length cp], .slice s xs.length cs, .agg #[.int .i64 v.id, .int .i64 v.room, .int .i64 v.author, .int .i64 v.kind, .int .i64 v.key, .int .i64 v.n, .string v.text, .slice q v.prev.length c, .int .i64 v.time]] w fun e w' => e = .returned (.int .i64 (alwE g.evs xs v)) ∧ Below w.heap.size w w' := by
  have HA0 : Hid (AB w g a cap p cp v q c ((w.alloc (.cells #[.int .i64 g.room, .slice a g.evs.length cap, .slice p g.pk.length cp] 32)).alloc (.cells #[.int .i64 v.id, .int .i64 v.room, .int .i64 v.author, .int .i64 v.kind, .int .i64 v.key, .int .i64 v.n, .string v.text, .slice q v.prev.length c, .int .i64 v.time] 114))) := AB.start w g a cap p cp v q c
  obtain ⟨m1, m2⟩ := HA0.out.cells
  have HS := fun W (hW : Below w.heap.size w W) => sat_spec xs 1 0 s cs W (h.kept hW).ens
  have HM := fun W (hW : Below w.heap.size w W) => member05_spec g xs v.author a cap p cp s cs W (h.kept hW) hs
  have HL := fun W (hW : Below w.heap.size w W) u => level05_spec g xs u a cap p cp s cs W (h.kept hW) hs
  have HOW := fun W (hW : Below w.heap.size w W) m => own_spec g xs v q c a cap p cp s cs W (h.kept hW) hs m
  have HOT := fun W (hW : Below w.heap.size w W) m => other_spec g xs v q c a cap p cp s cs W (h.kept hW) hs m
  have HI : Hid (RIn w g xs a s ∧ Sc g xs) := ⟨h, hs⟩
  obtain ⟨z, HZ⟩ : ∃ u, Hid (u = stAt xs 1 0) := ⟨stAt xs 1 0, (rfl : stAt xs 1 0 = _)⟩
  obtain ⟨m, HMM⟩ : ∃ u, Hid (u = memR g.evs xs v.author) := ⟨memR g.evs xs v.author, (rfl : memR g.evs xs v.author = _)⟩
  obtain ⟨l, HLL⟩ : ∃ u, Hid (u = levR g.evs xs v.author) := ⟨levR g.evs xs v.author, (rfl : levR g.evs xs v.author = _)⟩
  obtain ⟨lk, HLK⟩ : ∃ u, Hid (u = levR g.evs xs v.key) := ⟨levR g.evs xs v.key, (rfl : levR g.evs xs v.key = _)⟩
  obtain ⟨R, HR⟩ : ∃ R, Hid (R = alwE g.evs xs v) := ⟨alwE g.evs xs v, (rfl : alwE g.evs xs v = _)⟩
  rw [← HR.out]
  rw [← HZ.out] at HS
  rw [← HMM.out] at HM
  clear h hs
  cases hk1 : (v.kind == 1)
  · cases hz : (decide (0 < z))
    · go_enter Tryz.func69, Tryz.ntmps69
      go_wp2_with (go_at_call 98; refine (HS _ HA0.out.below).mono ?_; rintro e w1 ⟨rfl, rfl⟩)
      go_ret
      exact ⟨ret_int' (by rw [HR.out]; simp [alwE, ← HZ.out, hk1, hz]), HA0.out.below⟩
    · go_enter Tryz.func69, Tryz.ntmps69
      go_wp2_with (go_at_call 98; refine (HS _ HA0.out.below).mono ?_; rintro e w1 ⟨rfl, rfl⟩)
      go_cut [8, 9] (fun r1 r2 W => r1 = .int .i64 m ∧ r2 = .int .i64 l ∧ Hid (AB w g a cap p cp v q c W))
      case first =>
        go_region_held3 (fun W => (∀ k, W.cell? ⟨w.heap.size, k, none⟩ = #[.int .i64 g.room, .slice a g.evs.length cap, .slice p g.pk.length cp][k]?) ∧ (∀ k, W.cell? ⟨w.heap.size + 1, k, none⟩ = #[.int .i64 v.id, .int .i64 v.room, .int .i64 v.author, .int .i64 v.kind, .int .i64 v.key, .int .i64 v.n, .string v.text, .slice q v.prev.length c, .int .i64 v.time][k]?)) (first | exact AB.cells HA2.out | exact AB.cells HA1.out | exact AB.cells HA0.out.drew) (first
          | (go_at_call 102; refine (HM _ HA0.out.drew.below).mono ?_; rintro e w1 ⟨rfl, hb1⟩; have HA1 : Hid (AB w g a cap p cp v q c w1) := HA0.out.drew.on hb1; clear hb1)
          | (go_at_call 103; refine (HL _ HA1.out.below v.author).mono ?_; rw [← HLL.out]; rintro e w2 ⟨rfl, hb2⟩; have HA2 : Hid (AB w g a cap p cp v q c w2) := HA1.out.on hb2; clear hb2)
          | (go_at_call 103; refine (HL _ HA0.out.drew.below v.author).mono ?_; rw [← HLL.out]; rintro e w1 ⟨rfl, hb1⟩; have HA1 : Hid (AB w g a cap p cp v q c w1) := HA0.out.drew.on hb1; clear hb1)
          | (go_at_call 102; refine (HM _ HA1.out.below).mono ?_; rintro e w2 ⟨rfl, hb2⟩; have HA2 : Hid (AB w g a cap p cp v q c w2) := HA1.out.on hb2; clear hb2))
        all_goals
          go_wp2_with fail
          go_meet
          case rel => exact ⟨rfl, rfl, HA2⟩
      case rest =>
        clear HA0 m1 m2
        obtain ⟨rfl, rfl, HA⟩ := hcut
        obtain ⟨m1, m2⟩ := HA.out.cells
        have HV : Hid (R = if (v.kind == 2 && v.key == v.author) = true then ownE g.evs xs v m else if (m != 1) = true then 11 else kindE g.evs xs v l) := by
          unfold Hid
          rw [HR.out]
          simp only [alwE, ← HZ.out, ← HMM.out, ← HLL.out, hk1, hz, if_true, Bool.false_eq_true, if_false]
        clear HR HM
        cases hk2 : (v.kind == 2)
        · cases hm : (m != 1)
          · cases hk3 : (v.kind == 3)
            · cases hk4 : (v.kind == 4)
              · cases hk5 : (v.kind == 5)
                · cases hk6 : (v.kind == 6)
                  · cases hk8 : (v.kind == 8)
                    · go_wp2
                      go_ret
                      exact ⟨ret_int' (by rw [HV.out]; simp [kindE, hk2, hm, hk3, hk4, hk5, hk6, hk8]), HA.out.below⟩
                    · cases p5 : (decide (l < 50))
                      · have HAT := fun W (hW : Below w.heap.size w W) => at_spec g.evs v.key a cap W (HI.out.1.kept hW).evs
                        rcases atI_cases (idsOf g.evs) v.key with ⟨k, hk, hat, hqq⟩ | ⟨hat, hno⟩
                        · have hk' : k < g.evs.length := by simpa [idsOf] using hk
                          have hid : v.key = g.evs[k].v.id := by rw [← hqq]; simp [idsOf]
                          have HIN : Hid (v.key ∈ idsOf g.evs) := by unfold Hid; rw [hid]; exact List.mem_map.2 ⟨_, List.getElem_mem hk', rfl⟩
                          have HEV : Hid (evIn g.evs v.key = g.evs[k].v) := by unfold Hid; rw [hid]; exact evIn_some (right_dup HI.out.2.right) (List.getElem_mem hk')
                          obtain ⟨b, off, ha, hbb, hcell⟩ := HI.out.1.evs.row (by omega)
                          subst ha
                          have hc2 : w.cell? ⟨b, off + k * 9 + 2, none⟩ = some (.int .i64 g.evs[k].v.author) := by rw [Nat.add_assoc]; exact hcell k hk' 2 (by omega)
                          have HC2 : Hid (∀ W, Below w.heap.size w W → W.cell? ⟨b, off + k * 9 + 2, none⟩ = some (.int .i64 g.evs[k].v.author)) := fun W hW => (hW.cell (p := ⟨b, off + k * 9 + 2, none⟩) hbb).trans hc2
                          rw [hat] at HAT
                          have hq0 : decide ((k : Int) < 0) = false := by simp
                          have hcc := HC2.out _ HA.out.below
                          clear hcell hc2 hat hqq hid hk
                          go_wp2_with (go_at_call 52; refine (HAT _ HA.out.below).mono ?_; rintro e w5 ⟨rfl, rfl⟩)
                          refine wp_region_held_drew (S := (fun W => AB w g (some ⟨b, off, none⟩) cap p cp v q c W)) (by kernel_rfl) HA.out.drew (fun hHeld => ?_)
                          refine wpAnyH_take (i := 0) (v := (.int .i64 l)) rfl (by kernel_rfl) (by kernel_rfl) (by kernel_rfl) (fun _ _ _ h => h) (Or.inl ⟨by kernel_rfl, ?_⟩) hHeld ?_
                          · intro W hW
                            go_simp
                          refine wpAnyH_take (i := 1) (v := (.bool false)) rfl (by kernel_rfl) (by kernel_rfl) (by kernel_rfl) (fun _ _ _ h => h) (Or.inl ⟨by kernel_rfl, ?_⟩) hHeld ?_
                          · intro W hW
                            go_simp
                          refine wpAnyH_take (i := 2) (v := (.bool false)) rfl (by kernel_rfl) (by kernel_rfl) (by kernel_rfl) (fun _ _ _ h => h) (Or.inl ⟨by kernel_rfl, ?_⟩) hHeld ?_
                          · intro W hW
                            go_simp
                          refine wpAnyH_take (i := 3) (v := undef) rfl (by kernel_rfl) (by kernel_rfl) (by kernel_rfl) (fun _ _ _ h => h) (Or.inr ⟨by kernel_rfl, rfl⟩) hHeld ?_
                          refine wpAnyH_take (i := 4) (v := undef) rfl (by kernel_rfl) (by kernel_rfl) (by kernel_rfl) (fun _ _ _ h => h) (Or.inr ⟨by kernel_rfl, rfl⟩) hHeld ?_
                          refine wpAnyH_take (i := 5) (v := undef) rfl (by kernel_rfl) (by kernel_rfl) (by kernel_rfl) (fun _ _ _ h => h) (Or.inr ⟨by kernel_rfl, rfl⟩) hHeld ?_
                          refine wpAnyH_take (i := 6) (v := undef) rfl (by kernel_rfl) (by kernel_rfl) (by kernel_rfl) (fun _ _ _ h => h) (Or.inr ⟨by kernel_rfl, rfl⟩) hHeld ?_
                          refine wpAnyH_take (i := 7) (v := undef) rfl (by kernel_rfl) (by kernel_rfl) (by kernel_rfl) (fun _ _ _ h => h) (Or.inr ⟨by kernel_rfl, rfl⟩) hHeld ?_
                          refine wpAnyH_take (i := 8) (v := undef) rfl (by kernel_rfl) (by kernel_rfl) (by kernel_rfl) (fun _ _ _ h => h) (Or.inr ⟨by kernel_rfl, rfl⟩) hHeld ?_
                          refine wpAnyH_take (i := 9) (v := undef) rfl (by kernel_rfl) (by kernel_rfl) (by kernel_rfl) (fun _ _ _ h => h) (Or.inr ⟨by kernel_rfl, rfl⟩) hHeld ?_
                          refine wpAnyH_take (i := 10) (v := undef) rfl (by kernel_rfl) (by kernel_rfl) (by kernel_rfl) (fun _ _ _ h => h) (Or.inr ⟨by kernel_rfl, rfl⟩) hHeld ?_
                          refine wpAnyH_take (i := 11) (v := undef) rfl (by kernel_rfl) (by kernel_rfl) (by kernel_rfl) (fun _ _ _ h => h) (Or.inr ⟨by kernel_rfl, rfl⟩) hHeld ?_
                          refine wpAnyH_take (i := 12) (v := (.bool false)) rfl (by kernel_rfl) (by kernel_rfl) (by kernel_rfl) (fun _ _ _ h => h) (Or.inl ⟨by kernel_rfl, ?_⟩) hHeld ?_
                          · intro W hW
                            go_simp
                          refine wpAnyH_ready (rs := [13]) (by kernel_rfl) (by simp) ?_
                          refine AllReadyH.cons rfl (fun K hK => ?_) AllReadyH.nil
                          go_simp
                          refine (if_spec _ _).mono ?_
                          rintro e w9 ⟨rfl, rfl⟩
                          refine hK.out _ _ hHeld (fun hH2 => ?_)
                          clear hK K
                          refine wpAnyH_ready (rs := [14]) (by kernel_rfl) (by simp) ?_
                          refine AllReadyH.cons rfl (fun K hK => ?_) AllReadyH.nil
                          go_simp
                          refine hK.out _ _ hHeld (fun hH3 => ?_)
                          clear hK K
                          refine wpAnyH_done (by kernel_rfl) ?_ _
                          go_wp2
                          go_ret
                          exact ⟨ret_int' (by rw [HV.out]; simp [kindE, hideE, HIN.out, HEV.out, ifE, hk2, hm, hk3, hk4, hk5, hk6, hk8, p5]), hHeld.below⟩
                        · have HNO : Hid (v.key ∉ idsOf g.evs) := hno
                          rw [hat] at HAT
                          clear hno hat
                          go_wp2_with (go_at_call 52; refine (HAT _ HA.out.below).mono ?_; rintro e w5 ⟨rfl, rfl⟩)
                          go_ret
                          exact ⟨ret_int' (by rw [HV.out]; simp [kindE, hideE, HNO.out, hk2, hm, hk3, hk4, hk5, hk6, hk8]), HA.out.below⟩
                      · have HAT := fun W (hW : Below w.heap.size w W) => at_spec g.evs v.key a cap W (HI.out.1.kept hW).evs
                        rcases atI_cases (idsOf g.evs) v.key with ⟨k, hk, hat, hqq⟩ | ⟨hat, hno⟩
                        · have hk' : k < g.evs.length := by simpa [idsOf] using hk
                          have hid : v.key = g.evs[k].v.id := by rw [← hqq]; simp [idsOf]
                          have HIN : Hid (v.key ∈ idsOf g.evs) := by unfold Hid; rw [hid]; exact List.mem_map.2 ⟨_, List.getElem_mem hk', rfl⟩
                          have HEV : Hid (evIn g.evs v.key = g.evs[k].v) := by unfold Hid; rw [hid]; exact evIn_some (right_dup HI.out.2.right) (List.getElem_mem hk')
                          obtain ⟨b, off, ha, hbb, hcell⟩ := HI.out.1.evs.row (by omega)
                          subst ha
                          have hc2 : w.cell? ⟨b, off + k * 9 + 2, none⟩ = some (.int .i64 g.evs[k].v.author) := by rw [Nat.add_assoc]; exact hcell k hk' 2 (by omega)
                          have HC2 : Hid (∀ W, Below w.heap.size w W → W.cell? ⟨b, off + k * 9 + 2, none⟩ = some (.int .i64 g.evs[k].v.author)) := fun W hW => (hW.cell (p := ⟨b, off + k * 9 + 2, none⟩) hbb).trans hc2
                          rw [hat] at HAT
                          have hq0 : decide ((k : Int) < 0) = false := by simp
                          have hcc := HC2.out _ HA.out.below
                          clear hcell hc2 hat hqq hid hk
                          cases hau : (g.evs[k].v.author != v.author)
                          · go_wp2_with (go_at_call 52; refine (HAT _ HA.out.below).mono ?_; rintro e w5 ⟨rfl, rfl⟩)
                            go_region_held3 (fun W => (∀ k, W.cell? ⟨w.heap.size, k, none⟩ = #[.int .i64 g.room, .slice (some ⟨b, off, none⟩) g.evs.length cap, .slice p g.pk.length cp][k]?) ∧ (∀ k, W.cell? ⟨w.heap.size + 1, k, none⟩ = #[.int .i64 v.id, .int .i64 v.room, .int .i64 v.author, .int .i64 v.kind, .int .i64 v.key, .int .i64 v.n, .string v.text, .slice q v.prev.length c, .int .i64 v.time][k]?) ∧ W.cell? ⟨b, off + k * 9 + 2, none⟩ = some (.int .i64 g.evs[k].v.author)) (first | exact ⟨(AB.cells HA.out.drew).1, (AB.cells HA.out.drew).2, HC2.out _ HA.out.drew.below⟩) (first
                              | (go_at_call 106; refine (if_spec _ _).mono ?_; rintro e w9 ⟨rfl, rfl⟩))
                            all_goals go_wp2
                            all_goals go_ret
                            all_goals exact ⟨ret_int' (by rw [HV.out]; simp [kindE, hideE, HIN.out, HEV.out, ifE, hau, hk2, hm, hk3, hk4, hk5, hk6, hk8, p5]), HA.out.drew.below⟩
                          · go_wp2_with (go_at_call 52; refine (HAT _ HA.out.below).mono ?_; rintro e w5 ⟨rfl, rfl⟩)
                            go_region_held3 (fun W => (∀ k, W.cell? ⟨w.heap.size, k, none⟩ = #[.int .i64 g.room, .slice (some ⟨b, off, none⟩) g.evs.length cap, .slice p g.pk.length cp][k]?) ∧ (∀ k, W.cell? ⟨w.heap.size + 1, k, none⟩ = #[.int .i64 v.id, .int .i64 v.room, .int .i64 v.author, .int .i64 v.kind, .int .i64 v.key, .int .i64 v.n, .string v.text, .slice q v.prev.length c, .int .i64 v.time][k]?) ∧ W.cell? ⟨b, off + k * 9 + 2, none⟩ = some (.int .i64 g.evs[k].v.author)) (first | exact ⟨(AB.cells HA.out.drew).1, (AB.cells HA.out.drew).2, HC2.out _ HA.out.drew.below⟩) (first
                              | (go_at_call 106; refine (if_spec _ _).mono ?_; rintro e w9 ⟨rfl, rfl⟩))
                            all_goals go_wp2
                            all_goals go_ret
                            all_goals exact ⟨ret_int' (by rw [HV.out]; simp [kindE, hideE, HIN.out, HEV.out, ifE, hau, hk2, hm, hk3, hk4, hk5, hk6, hk8, p5]), HA.out.drew.below⟩
                        · have HNO : Hid (v.key ∉ idsOf g.evs) := hno
                          rw [hat] at HAT
                          clear hno hat
                          go_wp2_with (go_at_call 52; refine (HAT _ HA.out.below).mono ?_; rintro e w5 ⟨rfl, rfl⟩)
                          go_ret
                          exact ⟨ret_int' (by rw [HV.out]; simp [kindE, hideE, HNO.out, hk2, hm, hk3, hk4, hk5, hk6, hk8]), HA.out.below⟩
                  · go_wp2_with (go_at_call 106; refine (if_spec _ _).mono ?_; rintro e w9 ⟨rfl, rfl⟩)
                    go_ret
                    exact ⟨ret_int' (by rw [HV.out]; simp [kindE, hk2, hm, hk3, hk4, hk5, hk6]), HA.out.below⟩
                · go_wp2_with (go_at_call 106; refine (if_spec _ _).mono ?_; rintro e w9 ⟨rfl, rfl⟩)
                  go_ret
                  exact ⟨ret_int' (by rw [HV.out]; simp [kindE, hk2, hm, hk3, hk4, hk5]), HA.out.below⟩
              · go_wp2_with (go_at_call 106; refine (if_spec _ _).mono ?_; rintro e w9 ⟨rfl, rfl⟩)
                go_ret
                exact ⟨ret_int' (by rw [HV.out]; simp [kindE, hk2, hm, hk3, hk4]), HA.out.below⟩
            · cases p5 : (decide (l < 50))
              · cases pn : (decide (l < v.n))
                · cases ko : (v.key != v.author)
                  · go_wp2_with (go_at_call 106; refine (if_spec _ _).mono ?_; rintro e w9 ⟨rfl, rfl⟩)
                    go_ret
                    exact ⟨ret_int' (by rw [HV.out]; simp [kindE, mightE, ifE, hk2, hm, hk3, p5, pn, ko]), HA.out.below⟩
                  · cases hlk : (decide (l ≤ lk))
                    · go_wp2_with (first | (go_at_call 103; refine (HL _ HA.out.below v.key).mono ?_; rw [← HLK.out]; rintro e w5 ⟨rfl, hb5⟩; have HA5 : Hid (AB w g a cap p cp v q c w5) := HA.out.on hb5; clear hb5) | (go_at_call 106; refine (if_spec _ _).mono ?_; rintro e w9 ⟨rfl, rfl⟩))
                      go_ret
                      exact ⟨ret_int' (by rw [HV.out]; simp [kindE, mightE, ifE, ← HLK.out, hk2, hm, hk3, p5, pn, ko, hlk]), HA5.out.below⟩
                    · go_wp2_with (first | (go_at_call 103; refine (HL _ HA.out.below v.key).mono ?_; rw [← HLK.out]; rintro e w5 ⟨rfl, hb5⟩; have HA5 : Hid (AB w g a cap p cp v q c w5) := HA.out.on hb5; clear hb5) | (go_at_call 106; refine (if_spec _ _).mono ?_; rintro e w9 ⟨rfl, rfl⟩))
                      go_ret
                      exact ⟨ret_int' (by rw [HV.out]; simp [kindE, mightE, ifE, ← HLK.out, hk2, hm, hk3, p5, pn, ko, hlk]), HA5.out.below⟩
                · go_wp2_with (go_at_call 106; refine (if_spec _ _).mono ?_; rintro e w9 ⟨rfl, rfl⟩)
                  go_ret
                  exact ⟨ret_int' (by rw [HV.out]; simp [kindE, mightE, ifE, hk2, hm, hk3, p5, pn]), HA.out.below⟩
              · go_wp2_with (go_at_call 106; refine (if_spec _ _).mono ?_; rintro e w9 ⟨rfl, rfl⟩)
                go_ret
                exact ⟨ret_int' (by rw [HV.out]; simp [kindE, mightE, ifE, hk2, hm, hk3, p5]), HA.out.below⟩
          · go_wp2
            go_ret
            exact ⟨ret_int' (by rw [HV.out]; simp [hk2, hm]), HA.out.below⟩
        · cases hs : (v.key == v.author)
          · cases hm : (m != 1)
            · go_wp2_with (go_at_call 105; refine (HOT _ HA.out.below l).mono ?_; rintro e w5 ⟨rfl, hb5⟩; have HA5 : Hid (AB w g a cap p cp v q c w5) := HA.out.on hb5; clear hb5)
              go_ret
              exact ⟨ret_int' (by rw [HV.out]; simp [kindE, hk2, hs, hm]), HA5.out.below⟩
            · go_wp2
              go_ret
              exact ⟨ret_int' (by rw [HV.out]; simp [hk2, hs, hm]), HA.out.below⟩
          · go_wp2_with (go_at_call 104; refine (HOW _ HA.out.below m).mono ?_; rintro e w5 ⟨rfl, hb5⟩; have HA5 : Hid (AB w g a cap p cp v q c w5) := HA.out.on hb5; clear hb5)
            go_ret
            exact ⟨ret_int' (by rw [HV.out]; simp [hk2, hs]), HA5.out.below⟩
  · cases hz : (decide (0 < z))
    · go_enter Tryz.func69, Tryz.ntmps69
      go_wp2_with (go_at_call 98; refine (HS _ HA0.out.below).mono ?_; rintro e w1 ⟨rfl, rfl⟩)
      go_ret
      exact ⟨ret_int' (by rw [HR.out]; simp [alwE, ← HZ.out, hk1, hz]), HA0.out.below⟩
    · go_enter Tryz.func69, Tryz.ntmps69
      go_wp2_with (go_at_call 98; refine (HS _ HA0.out.below).mono ?_; rintro e w1 ⟨rfl, rfl⟩)
      go_ret
      exact ⟨ret_int' (by rw [HR.out]; simp [alwE, ← HZ.out, hk1, hz]), HA0.out.below⟩
end Go.Proofs.YteajcmkaoahbeaaGreatDoor
