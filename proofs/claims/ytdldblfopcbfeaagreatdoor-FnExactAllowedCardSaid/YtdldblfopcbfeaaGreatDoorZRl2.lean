/- The specification's rules: the event by which it stands so, who is in, levels, sight. -/
import Derived.Test.YtdldblfopcbfeaaGreatDoorZRl1
import Derived.Deep.DeepCutAuto
import Derived.Deep.RegionHeld3
namespace Go.Proofs.YtdldblfopcbfeaaGreatDoor
open Go.RowKit

/-- An event handed back as it lies. -/
def EvGot (v : Ev) (w : World) (e : Ending) (w' : World) : Prop :=
  ∃ (q : Option Addr) (c : Nat), e = .returned (.agg #[.int .i64 v.id, .int .i64 v.room, .int .i64 v.author, .int .i64 v.kind, .int .i64 v.key, .int .i64 v.n, .string v.text, .slice q v.prev.length c, .int .i64 v.time]) ∧ Below w.heap.size w w'
theorem field_n (v : Ev) (q : Option Addr) (c : Nat) (W : World) : (Instr.field 39 (.agg #[.int .i64 v.id, .int .i64 v.room, .int .i64 v.author, .int .i64 v.kind, .int .i64 v.key, .int .i64 v.n, .string v.text, .slice q v.prev.length c, .int .i64 v.time]) 5).run Tryz.prog W = .ok (.int .i64 v.n) W := by kernel_rfl
theorem field_author (v : Ev) (q : Option Addr) (c : Nat) (W : World) : (Instr.field 39 (.agg #[.int .i64 v.id, .int .i64 v.room, .int .i64 v.author, .int .i64 v.kind, .int .i64 v.key, .int .i64 v.n, .string v.text, .slice q v.prev.length c, .int .i64 v.time]) 2).run Tryz.prog W = .ok (.int .i64 v.author) W := by kernel_rfl
set_option maxHeartbeats 8000000 in
set_option maxRecDepth 100000 in
theorem of_spec (g : Gr) (xs : List En) (k y : Int) (a : Option Addr) (cap : Nat) (p : Option Addr) (cp : Nat) (s : Option Addr) (cs : Nat) (w : World) (h : EvsAt w a g.evs) (hx : EnsAt w s xs) (hs : Sc g xs) :
    Calls Tryz.prog 57 #[.agg #[.int .i64 g.room, .slice a g.evs.length cap, .slice p g.pk.length cp], .slice s xs.length cs, .int .i64 k, .int .i64 y] w (EvGot (lastE g.evs xs k y) w) := by
  have hl := hx.len
  have hle := h.len
  have HB : Hid (∀ o1 o2, Below w.heap.size w ((w.alloc o1).alloc o2)) := fun o1 o2 => ((Below.refl _ _).alloc (Nat.le_refl _) _).alloc (by simp) _
  have HSA := fun W hW => sat_spec xs k y s cs W (hx.kept (w' := W) hW)
  by_cases h0 : stAt xs k y = 0
  · rw [(hs.zero h0).2]
    clear h hx hs
    go_enter Tryz.func57, Tryz.ntmps57
    go_wp2_with (go_at_call 42; refine (HSA _ (HB.out _ _)).mono ?_; rintro e w2 ⟨rfl, rfl⟩; rw [h0])
    refine bodyPost_ret (v := .agg #[.int .i64 0, .int .i64 0, .int .i64 0, .int .i64 0, .int .i64 0, .int .i64 0, .string ⟨#[]⟩, .slice none 0 0, .int .i64 0]) (by simp [results, Tryz.results57, go_sem]) rfl ⟨none, 0, rfl, ?_⟩
    repeat refine Below.setCell ?_ (by simp) _
    exact HB.out _ _
  · obtain ⟨m, hm, hid, hv, -⟩ := hs.some h0
    rw [hv]
    obtain ⟨q, hq, hat, hqq⟩ : ∃ q, ∃ hq : q < g.evs.length, atI (idsOf g.evs) (stAt xs k y) = q ∧ g.evs[q] = m := by
      rcases atI_cases (idsOf g.evs) (stAt xs k y) with ⟨q, hq, hat, hqq⟩ | ⟨_, hno⟩
      · have hq' : q < g.evs.length := by simpa [idsOf] using hq
        refine ⟨q, hq', hat, em_same (right_dup hs.right) (List.getElem_mem hq') hm ?_⟩
        rw [hid, ← hqq]
        simp [idsOf]
      · exact absurd (hid ▸ List.mem_map.2 ⟨m, hm, rfl⟩) hno
    subst hqq
    have HAT : Hid (atI (idsOf g.evs) (stAt xs k y) = q) := hat
    have hz0 : (stAt xs k y == 0) = false := by simpa using h0
    have HE : Hid (∀ W, Below w.heap.size w W → EvsAt W a g.evs) := fun W hW => h.kept hW
    obtain ⟨z, HZ⟩ : ∃ z, Hid (z = stAt xs k y) := ⟨stAt xs k y, (rfl : stAt xs k y = _)⟩
    rw [← HZ.out] at hz0
    obtain ⟨b, off, ha, hbb, hcell⟩ := h.row (by omega)
    subst ha
    have hc0 : w.cell? ⟨b, off + q * 9, none⟩ = some (.int .i64 g.evs[q].v.id) := hcell q hq 0 (by omega)
    have hc1 : w.cell? ⟨b, off + q * 9 + 1, none⟩ = some (.int .i64 g.evs[q].v.room) := by rw [Nat.add_assoc]; exact hcell q hq 1 (by omega)
    have hc2 : w.cell? ⟨b, off + q * 9 + 2, none⟩ = some (.int .i64 g.evs[q].v.author) := by rw [Nat.add_assoc]; exact hcell q hq 2 (by omega)
    have hc3 : w.cell? ⟨b, off + q * 9 + 3, none⟩ = some (.int .i64 g.evs[q].v.kind) := by rw [Nat.add_assoc]; exact hcell q hq 3 (by omega)
    have hc4 : w.cell? ⟨b, off + q * 9 + 4, none⟩ = some (.int .i64 g.evs[q].v.key) := by rw [Nat.add_assoc]; exact hcell q hq 4 (by omega)
    have hc5 : w.cell? ⟨b, off + q * 9 + 5, none⟩ = some (.int .i64 g.evs[q].v.n) := by rw [Nat.add_assoc]; exact hcell q hq 5 (by omega)
    have hc6 : w.cell? ⟨b, off + q * 9 + 6, none⟩ = some (.string g.evs[q].v.text) := by rw [Nat.add_assoc]; exact hcell q hq 6 (by omega)
    have hc7 : w.cell? ⟨b, off + q * 9 + 7, none⟩ = some (.slice g.evs[q].p g.evs[q].v.prev.length g.evs[q].c) := by rw [Nat.add_assoc]; exact hcell q hq 7 (by omega)
    have hc8 : w.cell? ⟨b, off + q * 9 + 8, none⟩ = some (.int .i64 g.evs[q].v.time) := by rw [Nat.add_assoc]; exact hcell q hq 8 (by omega)
    have hbn : b ≠ w.heap.size := by omega
    have hbn' : b ≠ w.heap.size + 1 := by omega
    clear hcell h hx hs hm hid hv hat h0
    go_enter Tryz.func57, Tryz.ntmps57
    go_wp2_with (go_at_call 42; refine (HSA _ (HB.out _ _)).mono ?_; rintro e w2 ⟨rfl, rfl⟩; rw [← HZ.out])
    go_region_held3 (fun W => W.cell? ⟨w.heap.size, 1, none⟩ = some (.slice (some ⟨b, off, none⟩) g.evs.length cap) ∧ W.cell? ⟨b, off + q * 9, none⟩ = some (.int .i64 g.evs[q].v.id) ∧ W.cell? ⟨b, off + q * 9 + 1, none⟩ = some (.int .i64 g.evs[q].v.room) ∧ W.cell? ⟨b, off + q * 9 + 2, none⟩ = some (.int .i64 g.evs[q].v.author) ∧ W.cell? ⟨b, off + q * 9 + 3, none⟩ = some (.int .i64 g.evs[q].v.kind) ∧ W.cell? ⟨b, off + q * 9 + 4, none⟩ = some (.int .i64 g.evs[q].v.key) ∧ W.cell? ⟨b, off + q * 9 + 5, none⟩ = some (.int .i64 g.evs[q].v.n) ∧ W.cell? ⟨b, off + q * 9 + 6, none⟩ = some (.string g.evs[q].v.text) ∧ W.cell? ⟨b, off + q * 9 + 7, none⟩ = some (.slice g.evs[q].p g.evs[q].v.prev.length g.evs[q].c) ∧ W.cell? ⟨b, off + q * 9 + 8, none⟩ = some (.int .i64 g.evs[q].v.time)) (simp [go_sem, *]) ((go_at_call 34; refine (at_spec g.evs z (some ⟨b, off, none⟩) cap _ (HE.out _ (HB.out _ _).drew)).mono ?_; rintro e w2 ⟨rfl, rfl⟩; rw [HZ.out, HAT.out]))
    all_goals go_wp2
    refine bodyPost_ret (v := .agg #[.int .i64 g.evs[q].v.id, .int .i64 g.evs[q].v.room, .int .i64 g.evs[q].v.author, .int .i64 g.evs[q].v.kind, .int .i64 g.evs[q].v.key, .int .i64 g.evs[q].v.n, .string g.evs[q].v.text, .slice g.evs[q].p g.evs[q].v.prev.length g.evs[q].c, .int .i64 g.evs[q].v.time]) (by simp [results, Tryz.results57, go_sem]) rfl ⟨g.evs[q].p, g.evs[q].c, rfl, ?_⟩
    repeat refine Below.setCell ?_ (by simp) _
    exact (HB.out _ _).drew
/-- What the walks of the rules have at hand. -/
structure RIn (w : World) (g : Gr) (xs : List En) (a s : Option Addr) : Prop where
  evs : EvsAt w a g.evs
  ens : EnsAt w s xs
theorem RIn.kept {w w' : World} {g : Gr} {xs : List En} {a s : Option Addr} (h : RIn w g xs a s) (hb : Below w.heap.size w w') : RIn w' g xs a s := ⟨h.evs.kept hb, h.ens.kept hb⟩
theorem ret_int' {a b : Int} (h : a = b) : Ending.returned (.int .i64 a) = .returned (.int .i64 b) := by rw [h]
set_option maxHeartbeats 4000000 in
set_option maxRecDepth 100000 in
theorem member05_spec (g : Gr) (xs : List En) (u : Int) (a : Option Addr) (cap : Nat) (p : Option Addr) (cp : Nat) (s : Option Addr) (cs : Nat) (w : World) (h : RIn w g xs a s) (hs : Sc g xs) :
    Calls Tryz.prog 43 #[.agg #[.int .i64 g.room, .slice a g.evs.length cap, .slice p g.pk.length cp], .slice s xs.length cs, .int .i64 u] w fun e w' => e = .returned (.int .i64 (memR g.evs xs u)) ∧ Below w.heap.size w w' := by
  have HB : Hid (∀ o, Below w.heap.size w (w.alloc o)) := fun o => (Below.refl _ _).alloc (Nat.le_refl _) o
  have HO := fun W (hW : Below w.heap.size w W) k y => of_spec g xs k y a cap p cp s cs W (h.kept hW).evs (h.kept hW).ens hs
  obtain ⟨v, HV⟩ : ∃ v, Hid (v = lastE g.evs xs 2 u) := ⟨lastE g.evs xs 2 u, (rfl : lastE g.evs xs 2 u = _)⟩
  have HM : Hid (memR g.evs xs u = v.n) := by unfold Hid memR; rw [HV.out]
  have hfd := field_n v
  clear h hs
  go_enter Tryz.func43, Tryz.ntmps43
  go_wp2_with (go_at_call 57; refine (HO _ (HB.out _) 2 u).mono ?_; rw [← HV.out]; rintro e w1 ⟨q, c, rfl, hb1⟩; have HW1 : Hid (Below w.heap.size w w1) := (HB.out _).trans (hb1.mono (by simp)); clear hb1)
  go_ret
  exact ⟨ret_int' HM.out.symm, HW1.out⟩
set_option maxHeartbeats 4000000 in
set_option maxRecDepth 100000 in
theorem level05_spec (g : Gr) (xs : List En) (u : Int) (a : Option Addr) (cap : Nat) (p : Option Addr) (cp : Nat) (s : Option Addr) (cs : Nat) (w : World) (h : RIn w g xs a s) (hs : Sc g xs) :
    Calls Tryz.prog 44 #[.agg #[.int .i64 g.room, .slice a g.evs.length cap, .slice p g.pk.length cp], .slice s xs.length cs, .int .i64 u] w fun e w' => e = .returned (.int .i64 (levR g.evs xs u)) ∧ Below w.heap.size w w' := by
  have HB : Hid (∀ o, Below w.heap.size w (w.alloc o)) := fun o => (Below.refl _ _).alloc (Nat.le_refl _) o
  have HO := fun W (hW : Below w.heap.size w W) k y => of_spec g xs k y a cap p cp s cs W (h.kept hW).evs (h.kept hW).ens hs
  have HA := fun W (hW : Below w.heap.size w W) => sat_spec xs 3 u s cs W (h.kept hW).ens
  obtain ⟨v, HV⟩ : ∃ v, Hid (v = lastE g.evs xs 3 u) := ⟨lastE g.evs xs 3 u, (rfl : lastE g.evs xs 3 u = _)⟩
  obtain ⟨v1, HV1⟩ : ∃ v, Hid (v = lastE g.evs xs 1 0) := ⟨lastE g.evs xs 1 0, (rfl : lastE g.evs xs 1 0 = _)⟩
  obtain ⟨z, HZ⟩ : ∃ z, Hid (z = stAt xs 3 u) := ⟨stAt xs 3 u, (rfl : stAt xs 3 u = _)⟩
  have hb := hs.bound 3 u
  rw [← HZ.out] at hb
  have hfd := field_n v
  have hfa := field_author v1
  clear h hs
  by_cases h0 : z = 0
  · have HM : Hid (levR g.evs xs u = if v1.author = u then 100 else 0) := by unfold Hid levR; rw [← HZ.out, ← HV1.out, if_pos h0]
    subst h0
    cases hu : (v1.author == u)
    · have HX : Hid (levR g.evs xs u = 0) := by unfold Hid; rw [HM.out, if_neg (by simpa using hu)]
      go_enter Tryz.func44, Tryz.ntmps44
      go_wp2_with (first
        | (go_at_call 42; refine (HA _ (HB.out _)).mono ?_; rintro e w1 ⟨rfl, rfl⟩; rw [← HZ.out])
        | (go_at_call 57; refine (HO _ (HB.out _) 1 0).mono ?_; rw [← HV1.out]; rintro e w1 ⟨q, c, rfl, hb1⟩; have HW1 : Hid (Below w.heap.size w w1) := (HB.out _).trans (hb1.mono (by simp)); clear hb1))
      go_ret
      exact ⟨ret_int' HX.out.symm, HW1.out⟩
    · have HX : Hid (levR g.evs xs u = 100) := by unfold Hid; rw [HM.out, if_pos (by simpa using hu)]
      go_enter Tryz.func44, Tryz.ntmps44
      go_wp2_with (first
        | (go_at_call 42; refine (HA _ (HB.out _)).mono ?_; rintro e w1 ⟨rfl, rfl⟩; rw [← HZ.out])
        | (go_at_call 57; refine (HO _ (HB.out _) 1 0).mono ?_; rw [← HV1.out]; rintro e w1 ⟨q, c, rfl, hb1⟩; have HW1 : Hid (Below w.heap.size w w1) := (HB.out _).trans (hb1.mono (by simp)); clear hb1))
      go_ret
      exact ⟨ret_int' HX.out.symm, HW1.out⟩
  · have HX : Hid (levR g.evs xs u = v.n) := by unfold Hid levR; rw [← HZ.out, ← HV.out, if_neg h0]
    have hz : decide (0 < z) = true := decide_eq_true (by omega)
    have hz' : 0 < z := by omega
    clear h0 hb
    go_enter Tryz.func44, Tryz.ntmps44
    go_wp2_with (first
      | (go_at_call 42; refine (HA _ (HB.out _)).mono ?_; rintro e w1 ⟨rfl, rfl⟩; rw [← HZ.out])
      | (go_at_call 57; refine (HO _ (HB.out _) 3 u).mono ?_; rw [← HV.out]; rintro e w1 ⟨q, c, rfl, hb1⟩; have HW1 : Hid (Below w.heap.size w w1) := (HB.out _).trans (hb1.mono (by simp)); clear hb1))
    go_ret
    exact ⟨ret_int' HX.out.symm, HW1.out⟩
end Go.Proofs.YtdldblfopcbfeaaGreatDoor
