/- The specification's rules: what is a state of a graph, what stands, who is in, levels, sight. The specification's rules: the event by which it stands so, who is in, levels, sight. The program's scene: the event by which it stands so, who is in, levels, sight. -/
import Derived.Test.YteajcmkaoahbeaaGreatDoorZSuSort
import Derived.Deep.DeepCutAuto
import Derived.Deep.RegionHeld3
import Derived.Test.YteajcmkaoahbeaaGreatDoorZSuMap
import Derived.Deep.RegionHeld
namespace Go.Proofs.YteajcmkaoahbeaaGreatDoor
open Go.RowKit

/-- The graph's variable, and all that lay before. -/
def GBox (w : World) (g : Gr) (a : Option Addr) (cap : Nat) (p : Option Addr) (cp : Nat) (W : World) : Prop := Below w.heap.size w W ∧ W.heap[w.heap.size]? = some (.cells #[.int .i64 g.room, .slice a g.evs.length cap, .slice p g.pk.length cp] 32 (0, 0))
theorem GBox.start (w : World) (g : Gr) (a : Option Addr) (cap : Nat) (p : Option Addr) (cp : Nat) : GBox w g a cap p cp (w.alloc (.cells #[.int .i64 g.room, .slice a g.evs.length cap, .slice p g.pk.length cp] 32)) := ⟨(Below.refl _ _).alloc (Nat.le_refl _) _, (MapKept.heap_alloc w _).1⟩
theorem GBox.on {w : World} {g : Gr} {a : Option Addr} {cap : Nat} {p : Option Addr} {cp : Nat} {W W' : World} (h : GBox w g a cap p cp W) (hb : Below W.heap.size W W') : GBox w g a cap p cp W' := ⟨h.1.trans (hb.mono h.1.size), (hb.block _ (Array.getElem?_eq_some_iff.1 h.2).1).trans h.2⟩
theorem GBox.lt {w : World} {g : Gr} {a : Option Addr} {cap : Nat} {p : Option Addr} {cp : Nat} {W : World} (h : GBox w g a cap p cp W) : w.heap.size < W.heap.size := (Array.getElem?_eq_some_iff.1 h.2).1
set_option maxHeartbeats 8000000 in
set_option maxRecDepth 100000 in
theorem state05_spec (g : Gr) (xs : List En) (a : Option Addr) (cap : Nat) (p : Option Addr) (cp : Nat) (s : Option Addr) (cs : Nat) (w : World) (h : EvsAt w a g.evs) (hx : EnsAt w s xs) (hd : (idsOf g.evs).Nodup) :
    Calls Tryz.prog 38 #[.agg #[.int .i64 g.room, .slice a g.evs.length cap, .slice p g.pk.length cp], .slice s xs.length cs] w fun e w' => e = .returned (.bool (stateB g xs)) ∧ Below w.heap.size w w' := by
  have hl := hx.len
  have hle := h.len
  have HG := GBox.start w g a cap p cp
  have HH : Hid (EvsAt w a g.evs ∧ EnsAt w s xs ∧ (idsOf g.evs).Nodup) := ⟨h, hx, hd⟩
  have HST := state_spec_ xs s cs _ (hx.kept HG.1)
  have HG : Hid (GBox w g a cap p cp (w.alloc (.cells #[.int .i64 g.room, .slice a g.evs.length cap, .slice p g.pk.length cp] 32))) := HG
  clear h hx hd
  cases hr : rowE false xs
  · have HS : Hid (stateB g xs = false) := by unfold Hid stateB; rw [hr]; rfl
    go_enter Tryz.func38, Tryz.ntmps38
    go_wp2_with (go_at_call 64; refine HST.mono ?_; rintro e w1 ⟨rfl, hb1⟩; rw [hr]; have HG1 : Hid (GBox w g a cap p cp w1) := HG.out.on hb1; clear hb1)
    go_ret
    exact ⟨ret_bool HS.out.symm, HG1.out.1⟩
  · have HS : Hid (stateB g xs = fitsB g.evs xs) := by unfold Hid stateB; rw [hr]; rfl
    have HRW : Hid (rowE false xs = true) := hr
    go_enter Tryz.func38, Tryz.ntmps38
    go_wp2_with (go_at_call 64; refine HST.mono ?_; rintro e w1 ⟨rfl, hb1⟩; rw [hr]; have HG1 : Hid (GBox w g a cap p cp w1) := HG.out.on hb1; clear hb1)
    clear HG HST hr
    go_loopw [5, 6] (fun i _ wr => ∃ k : Nat, k ≤ xs.length ∧ i = .int .i64 k ∧ Hid (∀ j (h : j < xs.length), j < k → fitB g.evs xs[j] = true) ∧ Hid (GBox w g a cap p cp wr)) (fun i _ _ => xs.length - (intOf i).toNat)
    case atStart => exact ⟨0, Nat.zero_le _, rfl, fun _ _ h => absurd h (Nat.not_lt_zero _), HG1⟩
    case round =>
      clear HG1
      obtain ⟨k, hk, rfl, HO, HG⟩ := hrel
      by_cases hlt : k < xs.length
      · have hx1 : wr.cell? ⟨w.heap.size, 1, none⟩ = some (.slice a g.evs.length cap) := cell_of_heap HG.out.2
        have HE : Hid (∀ n, EvsAt (wr.drewN n) a g.evs) := fun n => HH.out.1.kept (below_drewN HG.out.1 n)
        have HQ : Hid (∀ n, GBox w g a cap p cp (wr.drewN n)) := fun n => HG.out.on (below_drewN (Below.refl _ _) n)
        obtain ⟨b, off, rfl, hbb, hcell⟩ := (HH.out.2.1.kept HG.out.1).row (by omega)
        have hc0 : wr.cell? ⟨b, off + k * 3, none⟩ = some (.int .i64 xs[k].kind) := hcell k hlt 0 (by omega)
        have hc1 : wr.cell? ⟨b, off + k * 3 + 1, none⟩ = some (.int .i64 xs[k].key) := by
          have := hcell k hlt 1 (by omega)
          rwa [← Nat.add_assoc] at this
        have hc2 : wr.cell? ⟨b, off + k * 3 + 2, none⟩ = some (.int .i64 xs[k].id) := by
          have := hcell k hlt 2 (by omega)
          rwa [← Nat.add_assoc] at this
        clear hcell
        rcases atI_cases (idsOf g.evs) xs[k].id with ⟨q, hq, hat, hqq⟩ | ⟨hat, hno⟩
        · have hq' : q < g.evs.length := by simpa [idsOf] using hq
          have hv : evIn g.evs xs[k].id = g.evs[q].v := by
            have e : xs[k].id = g.evs[q].v.id := by rw [← hqq]; simp [idsOf]
            rw [e]
            exact evIn_some HH.out.2.2 (List.getElem_mem hq')
          obtain ⟨b2, off2, ha2, hbb2, hcell2⟩ := (HE.out 0).row (by omega)
          have hd3 : wr.cell? ⟨b2, off2 + q * 9 + 3, none⟩ = some (.int .i64 g.evs[q].v.kind) := by
            have := hcell2 q hq' 3 (by omega)
            rwa [← Nat.add_assoc] at this
          have hd4 : wr.cell? ⟨b2, off2 + q * 9 + 4, none⟩ = some (.int .i64 g.evs[q].v.key) := by
            have := hcell2 q hq' 4 (by omega)
            rwa [← Nat.add_assoc] at this
          have HAC := fun n => at_spec g.evs xs[k].id a cap (wr.drewN n) (HE.out n)
          rw [hat] at HAC
          have HF : Hid (fitB g.evs xs[k] = (!(g.evs[q].v.kind != xs[k].kind) && !(g.evs[q].v.key != xs[k].key))) := by unfold Hid fitB; rw [hv]; simp [bne]
          clear hcell2 hat hqq hv hq
          subst ha2
          have next : fitB g.evs xs[k] = true → Hid (∀ j (h : j < xs.length), j < k + 1 → fitB g.evs xs[j] = true) := fun hf j h hj => by
            by_cases e : j = k
            · subst e
              exact hf
            · exact HO.out j h (by omega)
          have hq0 : decide ((q : Int) < 0) = false := by simp
          cases h1 : (g.evs[q].v.kind != xs[k].kind)
          · cases h2 : (g.evs[q].v.key != xs[k].key)
            · have HN := next (by rw [HF.out, h1, h2]; rfl)
              clear next
              go_wp2
              go_quiet ((go_at_call 52; exact quiet_sym (HAC _)))
              go_wp2
              go_quiet (fail)
              go_wp2
              go_roundw
              case rel => exact ⟨k + 1, by omega, by go_num, HN, HQ.out _⟩
              case measure => simp [intOf]; omega
            · have HX : Hid (fitsB g.evs xs = false) := fitsB_no hlt (by rw [HF.out, h1, h2]; rfl)
              clear next
              go_wp2
              go_quiet ((go_at_call 52; exact quiet_sym (HAC _)))
              go_wp2
              go_quiet (fail)
              go_wp2
              go_ret
              exact ⟨ret_bool (HS.out.trans HX.out).symm, (HG.out.on (below_drewN (below_drewN (Below.refl _ _) _) _)).1⟩
          · have HX : Hid (fitsB g.evs xs = false) := fitsB_no hlt (by rw [HF.out, h1]; rfl)
            clear next
            go_wp2
            go_quiet ((go_at_call 52; exact quiet_sym (HAC _)))
            go_wp2
            go_quiet (fail)
            go_wp2
            go_ret
            exact ⟨ret_bool (HS.out.trans HX.out).symm, (HG.out.on (below_drewN (below_drewN (Below.refl _ _) _) _)).1⟩
        · have HX : Hid (fitsB g.evs xs = false) := fitsB_no hlt (fitB_out hno (rowE_kind HRW.out (List.getElem_mem hlt)).1)
          have HAC := fun n => at_spec g.evs xs[k].id a cap (wr.drewN n) (HE.out n)
          rw [hat] at HAC
          clear hno hat
          go_wp2
          go_quiet ((go_at_call 52; exact quiet_sym (HAC _)))
          go_wp2
          go_quiet (fail)
          go_wp2
          go_ret
          exact ⟨ret_bool (HS.out.trans HX.out).symm, (HG.out.on (below_drewN (below_drewN (Below.refl _ _) _) _)).1⟩
      · have HX : Hid (fitsB g.evs xs = true) := fitsB_yes fun j h => HO.out j h (by omega)
        go_wp2
        go_ret
        exact ⟨ret_bool (HS.out.trans HX.out).symm, HG.out.1⟩
end Go.Proofs.YteajcmkaoahbeaaGreatDoor
namespace Go.Proofs.YteajcmkaoahbeaaGreatDoor
open Go.RowKit

/-- An event handed back as it lies. -/
def EvGot (v : Ev) (w : World) (e : Ending) (w' : World) : Prop :=
  ∃ (q : Option Addr) (c : Nat), e = .returned (.agg #[.int .i64 v.id, .int .i64 v.room, .int .i64 v.author, .int .i64 v.kind, .int .i64 v.key, .int .i64 v.n, .string v.text, .slice q v.prev.length c, .int .i64 v.time]) ∧ Below w.heap.size w w'
theorem field_n (v : Ev) (q : Option Addr) (c : Nat) (W : World) : (Instr.field 114 (.agg #[.int .i64 v.id, .int .i64 v.room, .int .i64 v.author, .int .i64 v.kind, .int .i64 v.key, .int .i64 v.n, .string v.text, .slice q v.prev.length c, .int .i64 v.time]) 5).run Tryz.prog W = .ok (.int .i64 v.n) W := by kernel_rfl
theorem field_author (v : Ev) (q : Option Addr) (c : Nat) (W : World) : (Instr.field 114 (.agg #[.int .i64 v.id, .int .i64 v.room, .int .i64 v.author, .int .i64 v.kind, .int .i64 v.key, .int .i64 v.n, .string v.text, .slice q v.prev.length c, .int .i64 v.time]) 2).run Tryz.prog W = .ok (.int .i64 v.author) W := by kernel_rfl
set_option maxHeartbeats 8000000 in
set_option maxRecDepth 100000 in
theorem of_spec (g : Gr) (xs : List En) (k y : Int) (a : Option Addr) (cap : Nat) (p : Option Addr) (cp : Nat) (s : Option Addr) (cs : Nat) (w : World) (h : EvsAt w a g.evs) (hx : EnsAt w s xs) (hs : Sc g xs) :
    Calls Tryz.prog 144 #[.agg #[.int .i64 g.room, .slice a g.evs.length cap, .slice p g.pk.length cp], .slice s xs.length cs, .int .i64 k, .int .i64 y] w (EvGot (lastE g.evs xs k y) w) := by
  have hl := hx.len
  have hle := h.len
  have HB : Hid (∀ o1 o2, Below w.heap.size w ((w.alloc o1).alloc o2)) := fun o1 o2 => ((Below.refl _ _).alloc (Nat.le_refl _) _).alloc (by simp) _
  have HSA := fun W hW => sat_spec xs k y s cs W (hx.kept (w' := W) hW)
  by_cases h0 : stAt xs k y = 0
  · rw [(hs.zero h0).2]
    clear h hx hs
    go_enter Tryz.func144, Tryz.ntmps144
    go_wp2_with (go_at_call 98; refine (HSA _ (HB.out _ _)).mono ?_; rintro e w2 ⟨rfl, rfl⟩; rw [h0])
    refine bodyPost_ret (v := .agg #[.int .i64 0, .int .i64 0, .int .i64 0, .int .i64 0, .int .i64 0, .int .i64 0, .string ⟨#[]⟩, .slice none 0 0, .int .i64 0]) (by simp [results, Tryz.results144, go_sem]) rfl ⟨none, 0, rfl, ?_⟩
    repeat refine Below.setCell ?_ (by simp) _
    exact HB.out _ _
  · obtain ⟨m, hm, hid, hv, -⟩ := hs.some h0
    rw [hv]
    obtain ⟨q, hq, hat, hqq⟩ : ∃ q, ∃ hq : q < g.evs.length, atI (idsOf g.evs) (stAt xs k y) = q ∧ g.evs[q] = m := by
      rcases atI_cases (idsOf g.evs) (stAt xs k y) with ⟨q, hq, hat, hqq⟩ | ⟨_, hno⟩
      · have hq' : q < g.evs.length := by simpa [idsOf] using hq
        refine ⟨q, hq', hat, em_same (right_dup hs.right) (List.getElem_mem hq') hm ?_⟩
        rw [hid, ← hqq]
        simp [idsOf]
      · exact absurd (hid ▸ List.mem_map.2 ⟨m, hm, rfl⟩) hno
    subst hqq
    have HAT : Hid (atI (idsOf g.evs) (stAt xs k y) = q) := hat
    have hz0 : (stAt xs k y == 0) = false := by simpa using h0
    have HE : Hid (∀ W, Below w.heap.size w W → EvsAt W a g.evs) := fun W hW => h.kept hW
    obtain ⟨z, HZ⟩ : ∃ z, Hid (z = stAt xs k y) := ⟨stAt xs k y, (rfl : stAt xs k y = _)⟩
    rw [← HZ.out] at hz0
    obtain ⟨b, off, ha, hbb, hcell⟩ := h.row (by omega)
    subst ha
    have hc0 : w.cell? ⟨b, off + q * 9, none⟩ = some (.int .i64 g.evs[q].v.id) := hcell q hq 0 (by omega)
    have hc1 : w.cell? ⟨b, off + q * 9 + 1, none⟩ = some (.int .i64 g.evs[q].v.room) := by rw [Nat.add_assoc]; exact hcell q hq 1 (by omega)
    have hc2 : w.cell? ⟨b, off + q * 9 + 2, none⟩ = some (.int .i64 g.evs[q].v.author) := by rw [Nat.add_assoc]; exact hcell q hq 2 (by omega)
    have hc3 : w.cell? ⟨b, off + q * 9 + 3, none⟩ = some (.int .i64 g.evs[q].v.kind) := by rw [Nat.add_assoc]; exact hcell q hq 3 (by omega)
    have hc4 : w.cell? ⟨b, off + q * 9 + 4, none⟩ = some (.int .i64 g.evs[q].v.key) := by rw [Nat.add_assoc]; exact hcell q hq 4 (by omega)
    have hc5 : w.cell? ⟨b, off + q * 9 + 5, none⟩ = some (.int .i64 g.evs[q].v.n) := by rw [Nat.add_assoc]; exact hcell q hq 5 (by omega)
    have hc6 : w.cell? ⟨b, off + q * 9 + 6, none⟩ = some (.string g.evs[q].v.text) := by rw [Nat.add_assoc]; exact hcell q hq 6 (by omega)
    have hc7 : w.cell? ⟨b, off + q * 9 + 7, none⟩ = some (.slice g.evs[q].p g.evs[q].v.prev.length g.evs[q].c) := by rw [Nat.add_assoc]; exact hcell q hq 7 (by omega)
    have hc8 : w.cell? ⟨b, off + q * 9 + 8, none⟩ = some (.int .i64 g.evs[q].v.time) := by rw [Nat.add_assoc]; exact hcell q hq 8 (by omega)
    have hbn : b ≠ w.heap.size := by omega
    have hbn' : b ≠ w.heap.size + 1 := by omega
    clear hcell h hx hs hm hid hv hat h0
    go_enter Tryz.func144, Tryz.ntmps144
    go_wp2_with (go_at_call 98; refine (HSA _ (HB.out _ _)).mono ?_; rintro e w2 ⟨rfl, rfl⟩; rw [← HZ.out])
    go_region_held3 (fun W => W.cell? ⟨w.heap.size, 1, none⟩ = some (.slice (some ⟨b, off, none⟩) g.evs.length cap) ∧ W.cell? ⟨b, off + q * 9, none⟩ = some (.int .i64 g.evs[q].v.id) ∧ W.cell? ⟨b, off + q * 9 + 1, none⟩ = some (.int .i64 g.evs[q].v.room) ∧ W.cell? ⟨b, off + q * 9 + 2, none⟩ = some (.int .i64 g.evs[q].v.author) ∧ W.cell? ⟨b, off + q * 9 + 3, none⟩ = some (.int .i64 g.evs[q].v.kind) ∧ W.cell? ⟨b, off + q * 9 + 4, none⟩ = some (.int .i64 g.evs[q].v.key) ∧ W.cell? ⟨b, off + q * 9 + 5, none⟩ = some (.int .i64 g.evs[q].v.n) ∧ W.cell? ⟨b, off + q * 9 + 6, none⟩ = some (.string g.evs[q].v.text) ∧ W.cell? ⟨b, off + q * 9 + 7, none⟩ = some (.slice g.evs[q].p g.evs[q].v.prev.length g.evs[q].c) ∧ W.cell? ⟨b, off + q * 9 + 8, none⟩ = some (.int .i64 g.evs[q].v.time)) (simp [go_sem, *]) ((go_at_call 52; refine (at_spec g.evs z (some ⟨b, off, none⟩) cap _ (HE.out _ (HB.out _ _).drew)).mono ?_; rintro e w2 ⟨rfl, rfl⟩; rw [HZ.out, HAT.out]))
    all_goals go_wp2
    refine bodyPost_ret (v := .agg #[.int .i64 g.evs[q].v.id, .int .i64 g.evs[q].v.room, .int .i64 g.evs[q].v.author, .int .i64 g.evs[q].v.kind, .int .i64 g.evs[q].v.key, .int .i64 g.evs[q].v.n, .string g.evs[q].v.text, .slice g.evs[q].p g.evs[q].v.prev.length g.evs[q].c, .int .i64 g.evs[q].v.time]) (by simp [results, Tryz.results144, go_sem]) rfl ⟨g.evs[q].p, g.evs[q].c, rfl, ?_⟩
    repeat refine Below.setCell ?_ (by simp) _
    exact (HB.out _ _).drew
/-- What the walks of the rules have at hand. -/
structure RIn (w : World) (g : Gr) (xs : List En) (a s : Option Addr) : Prop where
  evs : EvsAt w a g.evs
  ens : EnsAt w s xs
theorem RIn.kept {w w' : World} {g : Gr} {xs : List En} {a s : Option Addr} (h : RIn w g xs a s) (hb : Below w.heap.size w w') : RIn w' g xs a s := ⟨h.evs.kept hb, h.ens.kept hb⟩
theorem ret_int' {a b : Int} (h : a = b) : Ending.returned (.int .i64 a) = .returned (.int .i64 b) := by rw [h]
set_option maxHeartbeats 4000000 in
set_option maxRecDepth 100000 in
theorem member05_spec (g : Gr) (xs : List En) (u : Int) (a : Option Addr) (cap : Nat) (p : Option Addr) (cp : Nat) (s : Option Addr) (cs : Nat) (w : World) (h : RIn w g xs a s) (hs : Sc g xs) :
    Calls Tryz.prog 102 #[.agg #[.int .i64 g.room, .slice a g.evs.length cap, .slice p g.pk.length cp], .slice s xs.length cs, .int .i64 u] w fun e w' => e = .returned (.int .i64 (memR g.evs xs u)) ∧ Below w.heap.size w w' := by
  have HB : Hid (∀ o, Below w.heap.size w (w.alloc o)) := fun o => (Below.refl _ _).alloc (Nat.le_refl _) o
  have HO := fun W (hW : Below w.heap.size w W) k y => of_spec g xs k y a cap p cp s cs W (h.kept hW).evs (h.kept hW).ens hs
  obtain ⟨v, HV⟩ : ∃ v, Hid (v = lastE g.evs xs 2 u) := ⟨lastE g.evs xs 2 u, (rfl : lastE g.evs xs 2 u = _)⟩
  have HM : Hid (memR g.evs xs u = v.n) := by unfold Hid memR; rw [HV.out]
  have hfd := field_n v
  clear h hs
  go_enter Tryz.func102, Tryz.ntmps102
  go_wp2_with (go_at_call 144; refine (HO _ (HB.out _) 2 u).mono ?_; rw [← HV.out]; rintro e w1 ⟨q, c, rfl, hb1⟩; have HW1 : Hid (Below w.heap.size w w1) := (HB.out _).trans (hb1.mono (by simp)); clear hb1)
  go_ret
  exact ⟨ret_int' HM.out.symm, HW1.out⟩
set_option maxHeartbeats 4000000 in
set_option maxRecDepth 100000 in
theorem level05_spec (g : Gr) (xs : List En) (u : Int) (a : Option Addr) (cap : Nat) (p : Option Addr) (cp : Nat) (s : Option Addr) (cs : Nat) (w : World) (h : RIn w g xs a s) (hs : Sc g xs) :
    Calls Tryz.prog 103 #[.agg #[.int .i64 g.room, .slice a g.evs.length cap, .slice p g.pk.length cp], .slice s xs.length cs, .int .i64 u] w fun e w' => e = .returned (.int .i64 (levR g.evs xs u)) ∧ Below w.heap.size w w' := by
  have HB : Hid (∀ o, Below w.heap.size w (w.alloc o)) := fun o => (Below.refl _ _).alloc (Nat.le_refl _) o
  have HO := fun W (hW : Below w.heap.size w W) k y => of_spec g xs k y a cap p cp s cs W (h.kept hW).evs (h.kept hW).ens hs
  have HA := fun W (hW : Below w.heap.size w W) => sat_spec xs 3 u s cs W (h.kept hW).ens
  obtain ⟨v, HV⟩ : ∃ v, Hid (v = lastE g.evs xs 3 u) := ⟨lastE g.evs xs 3 u, (rfl : lastE g.evs xs 3 u = _)⟩
  obtain ⟨v1, HV1⟩ : ∃ v, Hid (v = lastE g.evs xs 1 0) := ⟨lastE g.evs xs 1 0, (rfl : lastE g.evs xs 1 0 = _)⟩
  obtain ⟨z, HZ⟩ : ∃ z, Hid (z = stAt xs 3 u) := ⟨stAt xs 3 u, (rfl : stAt xs 3 u = _)⟩
  have hb := hs.bound 3 u
  rw [← HZ.out] at hb
  have hfd := field_n v
  have hfa := field_author v1
  clear h hs
  by_cases h0 : z = 0
  · have HM : Hid (levR g.evs xs u = if v1.author = u then 100 else 0) := by unfold Hid levR; rw [← HZ.out, ← HV1.out, if_pos h0]
    subst h0
    cases hu : (v1.author == u)
    · have HX : Hid (levR g.evs xs u = 0) := by unfold Hid; rw [HM.out, if_neg (by simpa using hu)]
      go_enter Tryz.func103, Tryz.ntmps103
      go_wp2_with (first
        | (go_at_call 98; refine (HA _ (HB.out _)).mono ?_; rintro e w1 ⟨rfl, rfl⟩; rw [← HZ.out])
        | (go_at_call 144; refine (HO _ (HB.out _) 1 0).mono ?_; rw [← HV1.out]; rintro e w1 ⟨q, c, rfl, hb1⟩; have HW1 : Hid (Below w.heap.size w w1) := (HB.out _).trans (hb1.mono (by simp)); clear hb1))
      go_ret
      exact ⟨ret_int' HX.out.symm, HW1.out⟩
    · have HX : Hid (levR g.evs xs u = 100) := by unfold Hid; rw [HM.out, if_pos (by simpa using hu)]
      go_enter Tryz.func103, Tryz.ntmps103
      go_wp2_with (first
        | (go_at_call 98; refine (HA _ (HB.out _)).mono ?_; rintro e w1 ⟨rfl, rfl⟩; rw [← HZ.out])
        | (go_at_call 144; refine (HO _ (HB.out _) 1 0).mono ?_; rw [← HV1.out]; rintro e w1 ⟨q, c, rfl, hb1⟩; have HW1 : Hid (Below w.heap.size w w1) := (HB.out _).trans (hb1.mono (by simp)); clear hb1))
      go_ret
      exact ⟨ret_int' HX.out.symm, HW1.out⟩
  · have HX : Hid (levR g.evs xs u = v.n) := by unfold Hid levR; rw [← HZ.out, ← HV.out, if_neg h0]
    have hz : decide (0 < z) = true := decide_eq_true (by omega)
    have hz' : 0 < z := by omega
    clear h0 hb
    go_enter Tryz.func103, Tryz.ntmps103
    go_wp2_with (first
      | (go_at_call 98; refine (HA _ (HB.out _)).mono ?_; rintro e w1 ⟨rfl, rfl⟩; rw [← HZ.out])
      | (go_at_call 144; refine (HO _ (HB.out _) 3 u).mono ?_; rw [← HV.out]; rintro e w1 ⟨q, c, rfl, hb1⟩; have HW1 : Hid (Below w.heap.size w w1) := (HB.out _).trans (hb1.mono (by simp)); clear hb1))
    go_ret
    exact ⟨ret_int' HX.out.symm, HW1.out⟩
end Go.Proofs.YteajcmkaoahbeaaGreatDoor
namespace Go.Proofs.YteajcmkaoahbeaaGreatDoor
open Go.RowKit

/-- A look into the events by any Id: the event of that Id, or none. -/
theorem look_evIn (es : List Em) (hd : (idsOf es).Nodup) (id : Int) (hid : -9223372036854775808 ≤ id ∧ id ≤ 9223372036854775807) : ∃ (q : Option Addr) (c : Nat), ∀ (W : World) (b n : Nat), W.ownsMap Tryz.prog 2 heldR b n (putAll es) →
    (Instr.lookup 130 (.map (some b)) (.int .i64 id) false).run Tryz.prog W = .ok (.agg #[.int .i64 (evIn es id).id, .int .i64 (evIn es id).room, .int .i64 (evIn es id).author, .int .i64 (evIn es id).kind, .int .i64 (evIn es id).key, .int .i64 (evIn es id).n, .string (evIn es id).text, .slice q (evIn es id).prev.length c, .int .i64 (evIn es id).time]) W := by
  by_cases hin : id ∈ idsOf es
  · obtain ⟨m, hm, rfl⟩ := List.mem_map.1 hin
    refine ⟨m.p, m.c, fun W b n h => ?_⟩
    obtain ⟨v, ps, hrun, hv⟩ := h.lookup (Maps.int_keyed (P := Tryz.prog) Tryz.underlying2) Tryz.underlying130 (zero_event W) (zd := .held zeroVal) (zp := []) rfl (Maps.keyOf_int_mk Tryz.underlying2 (WalkArith.wf_i64 hid))
    rcases at_fold_putAll m.v.id es (.map []) ⟨[], rfl⟩ with ⟨h1, _⟩ | ⟨m', hm', h1, h2⟩
    · exact absurd hin h1
    · have e : (putAll es).atKey (.int .i64 m.v.id) (.held zeroVal) = .held (emVal m') := h2 _
      rw [e] at hv
      have hvz : v = emVal m' := by
        simp only [heldR, Option.some.injEq, Prod.mk.injEq, DataW.held.injEq] at hv
        exact hv.1
      rw [hrun, hvz, em_same hd hm' hm h1, evIn_some hd hm]
      rfl
  · refine ⟨none, 0, fun W b n h => ?_⟩
    obtain ⟨v, ps, hrun, hv⟩ := h.lookup (Maps.int_keyed (P := Tryz.prog) Tryz.underlying2) Tryz.underlying130 (zero_event W) (zd := .held zeroVal) (zp := []) rfl (Maps.keyOf_int_mk Tryz.underlying2 (WalkArith.wf_i64 hid))
    rcases at_fold_putAll id es (.map []) ⟨[], rfl⟩ with ⟨_, h2⟩ | ⟨m', hm', h1, _⟩
    · have e : (putAll es).atKey (.int .i64 id) (.held zeroVal) = .held zeroVal := h2 _
      rw [e] at hv
      have hvz : v = zeroVal := by
        simp only [heldR, Option.some.injEq, Prod.mk.injEq, DataW.held.injEq] at hv
        exact hv.1
      rw [hrun, hvz, evIn_none hin]
      rfl
    · exact absurd (List.mem_map.2 ⟨m', hm', h1⟩) hin
/-- The scene's two maps. -/
structure ScAt (W : World) (g : Gr) (xs : List En) (be bs : Nat) : Prop where
  evs : W.ownsMap Tryz.prog 2 heldR be g.evs.length (putAll g.evs)
  st : ∃ n, SMap W bs n (lookS xs.reverse)
theorem ScAt.kept {w w' : World} {g : Gr} {xs : List En} {be bs : Nat} (h : ScAt w g xs be bs) (hb : Below w.heap.size w w') : ScAt w' g xs be bs := ⟨ownsMap_below h.evs hb, h.st.elim fun n h => ⟨n, h.kept hb⟩⟩
theorem ScAt.of_row {W : World} {g : Gr} {xs : List En} {be bs n : Nat} {f : Slots} (he : W.ownsMap Tryz.prog 2 heldR be g.evs.length (putAll g.evs)) (hs : SMap W bs n f) (hf : RowIs f xs) (hr : riseB xs = true) : ScAt W g xs be bs := by
  refine ⟨he, n, ?_⟩
  have e : f = lookS xs.reverse := by
    have h2 := rowIs_of hr
    funext k y
    refine Option.ext fun v => ?_
    exact (hf.mem ⟨k, y, v⟩).symm.trans (h2.mem ⟨k, y, v⟩)
  rw [← e]
  exact hs
theorem Sc.ens {g : Gr} {xs : List En} (h : Sc g xs) : ∀ x ∈ xs.reverse, EnIn x := fun x hx => ((rowE_in h.row).2.2 x (by simpa using hx)).1
/-- The scene's variable, and all that lay before. -/
def SBox (w : World) (be bs : Nat) (W : World) : Prop := Below w.heap.size w W ∧ W.heap[w.heap.size]? = some (.cells #[.map (some be), .map (some bs)] 132 (0, 0))
theorem SBox.start (w : World) (be bs : Nat) : SBox w be bs (w.alloc (.cells #[.map (some be), .map (some bs)] 132)) := ⟨(Below.refl _ _).alloc (Nat.le_refl _) _, (MapKept.heap_alloc w _).1⟩
theorem SBox.on {w : World} {be bs : Nat} {W W' : World} (h : SBox w be bs W) (hb : Below W.heap.size W W') : SBox w be bs W' := ⟨h.1.trans (hb.mono h.1.size), (hb.block _ (Array.getElem?_eq_some_iff.1 h.2).1).trans h.2⟩
theorem SBox.lt {w : World} {be bs : Nat} {W : World} (h : SBox w be bs W) : w.heap.size < W.heap.size := (Array.getElem?_eq_some_iff.1 h.2).1
theorem SBox.set {w : World} {be bs : Nat} {W : World} (h : SBox w be bs W) {b i : Nat} (hb : w.heap.size < b) (v : Value) : SBox w be bs (W.setCell ⟨b, i, none⟩ v) :=
  ⟨h.1.setCell (Nat.le_of_lt hb) _, (heap_setCell_other W ⟨b, i, none⟩ w.heap.size v (by simp; omega)).trans h.2⟩
set_option maxHeartbeats 8000000 in
set_option maxRecDepth 100000 in
theorem last_impl (g : Gr) (xs : List En) (be bs : Nat) (k y : Int) (hk : (Lit.int .i64 k).wf = true) (hy : (Lit.int .i64 y).wf = true) (w : World) (h : ScAt w g xs be bs) (hs : Sc g xs) :
    Calls Tryz.prog 179 #[.agg #[.map (some be), .map (some bs)], .int .i64 k, .int .i64 y] w (EvGot (lastE g.evs xs k y) w) := by
  obtain ⟨z, HZ⟩ : ∃ z, Hid (z = stAt xs k y) := ⟨stAt xs k y, (rfl : stAt xs k y = _)⟩
  have hb := hs.bound k y
  rw [← HZ.out] at hb
  obtain ⟨q, c, hlk⟩ := look_evIn g.evs (right_dup hs.right) z ⟨by omega, by omega⟩
  obtain ⟨v, HV⟩ : ∃ v, Hid (v = lastE g.evs xs k y) := ⟨lastE g.evs xs k y, (rfl : lastE g.evs xs k y = _)⟩
  have hvz : evIn g.evs z = v := by rw [HV.out, HZ.out]; rfl
  rw [hvz] at hlk
  rw [← HV.out]
  have HL1 : Hid (∀ W, Below w.heap.size w W → (Instr.lookup 68 (.map (some bs)) (.agg #[.int .i64 k, .int .i64 y]) false).run Tryz.prog W = .ok (.int .i64 z) W) := fun W hW => by
    obtain ⟨n, hm⟩ := (h.kept hW).st
    have := hm.look hk hy
    rwa [look_rev (rowE_in hs.row).2.1, ← HZ.out] at this
  have HL2 : Hid (∀ W, Below w.heap.size w W → (Instr.lookup 130 (.map (some be)) (.int .i64 z) false).run Tryz.prog W = .ok (.agg #[.int .i64 v.id, .int .i64 v.room, .int .i64 v.author, .int .i64 v.kind, .int .i64 v.key, .int .i64 v.n, .string v.text, .slice q v.prev.length c, .int .i64 v.time]) W) := fun W hW => hlk W be _ (h.kept hW).evs
  have HSB' : Hid (∀ o, SBox w be bs ((w.alloc (.cells #[.map (some be), .map (some bs)] 132)).alloc o).drew) := fun o => ((SBox.start w be bs).on ((Below.refl _ _).alloc (Nat.le_refl _) o)).on (Below.drew (Below.refl _ _))
  clear h hs hlk hvz hb hk hy
  go_enter Tryz.func179, Tryz.ntmps179
  go_wp2
  refine wp_region_held_drew (S := (fun W => SBox w be bs W)) (by kernel_rfl) (HSB'.out _) (fun hHeld => ?_)
  refine wpAnyH_take (i := 0) (v := (.pointer (some ⟨w.heap.size, 0, none⟩))) rfl (by kernel_rfl) (by kernel_rfl) (by kernel_rfl) (fun _ _ _ h => h) (Or.inl ⟨by kernel_rfl, ?_⟩) hHeld ?_
  · intro W hW
    go_simp
  refine wpAnyH_take (i := 1) (v := (.map (some be))) rfl (by kernel_rfl) (by kernel_rfl) (by kernel_rfl) (fun _ _ _ h => h) (Or.inl ⟨by kernel_rfl, ?_⟩) hHeld ?_
  · intro W hW
    have f : W.cell? ⟨w.heap.size, 0, none⟩ = some (.map (some be)) := cell_of_heap hW.2
    go_simp
  refine wpAnyH_take (i := 2) (v := (.pointer (some ⟨w.heap.size, 1, none⟩))) rfl (by kernel_rfl) (by kernel_rfl) (by kernel_rfl) (fun _ _ _ h => h) (Or.inl ⟨by kernel_rfl, ?_⟩) hHeld ?_
  · intro W hW
    go_simp
  refine wpAnyH_take (i := 3) (v := (.map (some bs))) rfl (by kernel_rfl) (by kernel_rfl) (by kernel_rfl) (fun _ _ _ h => h) (Or.inl ⟨by kernel_rfl, ?_⟩) hHeld ?_
  · intro W hW
    have f : W.cell? ⟨w.heap.size, 1, none⟩ = some (.map (some bs)) := cell_of_heap hW.2
    go_simp
  refine wpAnyH_take (i := 4) (v := (.int .i64 k)) rfl (by kernel_rfl) (by kernel_rfl) (by kernel_rfl) (fun _ _ _ h => h) (Or.inl ⟨by kernel_rfl, ?_⟩) hHeld ?_
  · intro W hW
    go_simp
  refine wpAnyH_take (i := 5) (v := (.int .i64 y)) rfl (by kernel_rfl) (by kernel_rfl) (by kernel_rfl) (fun _ _ _ h => h) (Or.inl ⟨by kernel_rfl, ?_⟩) hHeld ?_
  · intro W hW
    go_simp
  refine wpAnyH_take (i := 6) (v := (.agg #[.int .i64 k, .int .i64 y])) rfl (by kernel_rfl) (by kernel_rfl) (by kernel_rfl) (fun _ _ _ h => h) (Or.inl ⟨by kernel_rfl, ?_⟩) hHeld ?_
  · intro W hW
    go_simp
  refine wpAnyH_take (i := 7) (v := (.int .i64 z)) rfl (by kernel_rfl) (by kernel_rfl) (by kernel_rfl) (fun _ _ _ h => h) (Or.inl ⟨by kernel_rfl, ?_⟩) hHeld ?_
  · intro W hW
    have f := HL1.out W hW.1
    go_simp
  refine wpAnyH_take (i := 8) (v := (.agg #[.int .i64 v.id, .int .i64 v.room, .int .i64 v.author, .int .i64 v.kind, .int .i64 v.key, .int .i64 v.n, .string v.text, .slice q v.prev.length c, .int .i64 v.time])) rfl (by kernel_rfl) (by kernel_rfl) (by kernel_rfl) (fun _ _ _ h => h) (Or.inl ⟨by kernel_rfl, ?_⟩) hHeld ?_
  · intro W hW
    have f := HL2.out W hW.1
    go_simp
  refine wpAnyH_ready (rs := [9]) (by kernel_rfl) (by simp) ?_
  refine AllReadyH.cons rfl (fun K hK => ?_) AllReadyH.nil
  go_simp
  refine hK.out _ _ (HSB'.out _) (fun hH2 => ?_)
  clear hK K
  refine wpAnyH_done (by kernel_rfl) ?_ _
  go_wp2
  refine bodyPost_ret (v := .agg #[.int .i64 v.id, .int .i64 v.room, .int .i64 v.author, .int .i64 v.kind, .int .i64 v.key, .int .i64 v.n, .string v.text, .slice q v.prev.length c, .int .i64 v.time]) (by simp [results, Tryz.results179, go_sem]) rfl ⟨q, c, rfl, hH2.1⟩
theorem wf_user {u : Int} (h : isB u 1 6 = true) : (Lit.int .i64 u).wf = true := wf_small ⟨by have := isB_yes h; omega, by have := isB_yes h; omega⟩
set_option maxHeartbeats 4000000 in
set_option maxRecDepth 100000 in
theorem creator_impl (g : Gr) (xs : List En) (be bs : Nat) (w : World) (h : ScAt w g xs be bs) (hs : Sc g xs) :
    Calls Tryz.prog 206 #[.agg #[.map (some be), .map (some bs)]] w fun e w' => e = .returned (.int .i64 (lastE g.evs xs 1 0).author) ∧ Below w.heap.size w w' := by
  have HB : Hid (∀ o, Below w.heap.size w (w.alloc o)) := fun o => (Below.refl _ _).alloc (Nat.le_refl _) o
  have HO := fun W (hW : Below w.heap.size w W) => last_impl g xs be bs 1 0 (by decide) (by decide) W (h.kept hW) hs
  obtain ⟨v, HV⟩ : ∃ v, Hid (v = lastE g.evs xs 1 0) := ⟨lastE g.evs xs 1 0, (rfl : lastE g.evs xs 1 0 = _)⟩
  rw [← HV.out]
  have hfd := field_author v
  clear h hs
  go_enter Tryz.func206, Tryz.ntmps206
  go_wp2_with (go_at_call 179; refine (HO _ (HB.out _)).mono ?_; rw [← HV.out]; rintro e w1 ⟨q, c, rfl, hb1⟩; have HW1 : Hid (Below w.heap.size w w1) := (HB.out _).trans (hb1.mono (by simp)); clear hb1)
  go_ret
  exact ⟨rfl, HW1.out⟩
set_option maxHeartbeats 4000000 in
set_option maxRecDepth 100000 in
theorem member_impl (g : Gr) (xs : List En) (be bs : Nat) (u : Int) (hu : (Lit.int .i64 u).wf = true) (w : World) (h : ScAt w g xs be bs) (hs : Sc g xs) :
    Calls Tryz.prog 180 #[.agg #[.map (some be), .map (some bs)], .int .i64 u] w fun e w' => e = .returned (.int .i64 (memR g.evs xs u)) ∧ Below w.heap.size w w' := by
  have HB : Hid (∀ o, Below w.heap.size w (w.alloc o)) := fun o => (Below.refl _ _).alloc (Nat.le_refl _) o
  have HO := fun W (hW : Below w.heap.size w W) => last_impl g xs be bs 2 u (by decide) hu W (h.kept hW) hs
  obtain ⟨v, HV⟩ : ∃ v, Hid (v = lastE g.evs xs 2 u) := ⟨lastE g.evs xs 2 u, (rfl : lastE g.evs xs 2 u = _)⟩
  have HM : Hid (memR g.evs xs u = v.n) := by unfold Hid memR; rw [HV.out]
  have hfd := field_n v
  clear h hs hu
  go_enter Tryz.func180, Tryz.ntmps180
  go_wp2_with (go_at_call 179; refine (HO _ (HB.out _)).mono ?_; rw [← HV.out]; rintro e w1 ⟨q, c, rfl, hb1⟩; have HW1 : Hid (Below w.heap.size w w1) := (HB.out _).trans (hb1.mono (by simp)); clear hb1)
  go_ret
  exact ⟨ret_int' HM.out.symm, HW1.out⟩
set_option maxHeartbeats 4000000 in
set_option maxRecDepth 100000 in
theorem level_impl (g : Gr) (xs : List En) (be bs : Nat) (u : Int) (hu : (Lit.int .i64 u).wf = true) (w : World) (h : ScAt w g xs be bs) (hs : Sc g xs) :
    Calls Tryz.prog 183 #[.agg #[.map (some be), .map (some bs)], .int .i64 u] w fun e w' => e = .returned (.int .i64 (levR g.evs xs u)) ∧ Below w.heap.size w w' := by
  have HG0 : Hid (SBox w be bs (w.alloc (.cells #[.map (some be), .map (some bs)] 132))) := SBox.start w be bs
  have HO := fun W (hW : Below w.heap.size w W) => last_impl g xs be bs 3 u (by decide) hu W (h.kept hW) hs
  have HC := fun W (hW : Below w.heap.size w W) => creator_impl g xs be bs W (h.kept hW) hs
  obtain ⟨v, HV⟩ : ∃ v, Hid (v = lastE g.evs xs 3 u) := ⟨lastE g.evs xs 3 u, (rfl : lastE g.evs xs 3 u = _)⟩
  obtain ⟨x, HX1⟩ : ∃ x, Hid (x = (lastE g.evs xs 1 0).author) := ⟨(lastE g.evs xs 1 0).author, (rfl : (lastE g.evs xs 1 0).author = _)⟩
  rw [← HX1.out] at HC
  have HZ : Hid (v.id = stAt xs 3 u) := by unfold Hid; rw [HV.out]; exact hs.id 3 u
  clear h hs hu
  cases h0 : (v.id != 0)
  · have HM : Hid (levR g.evs xs u = if x = u then 100 else 0) := by unfold Hid levR; rw [← HZ.out, HX1.out, if_pos (by simpa using h0)]
    cases hu : (u == x)
    · have HX : Hid (levR g.evs xs u = 0) := by unfold Hid; rw [HM.out, if_neg (fun e => by rw [e] at hu; simp at hu)]
      go_enter Tryz.func183, Tryz.ntmps183
      go_wp2_with (first
        | (go_at_call 179; refine (HO _ HG0.out.1).mono ?_; rw [← HV.out]; rintro e w1 ⟨q, c, rfl, hb1⟩; have HG1 : Hid (∀ o, SBox w be bs (w1.alloc o)) := (fun o => (HG0.out.on hb1).on ((Below.refl _ _).alloc (Nat.le_refl _) o)); have hc1 : w1.cell? ⟨w.heap.size, 0, none⟩ = some (.map (some be)) := cell_of_heap (HG0.out.on hb1).2; have hc2 : w1.cell? ⟨w.heap.size, 1, none⟩ = some (.map (some bs)) := cell_of_heap (HG0.out.on hb1).2; have hz1 : w.heap.size < w1.heap.size := (HG0.out.on hb1).lt; have hn1 : ¬ w.heap.size = w1.heap.size := (by omega); clear hb1)
        | (go_at_call 206; refine (HC _ (HG1.out _).1).mono ?_; rintro e w2 ⟨rfl, hb2⟩; have HW2 : Hid (Below w.heap.size w w2) := (HG1.out _).1.trans (hb2.mono (HG1.out _).1.size); clear hb2))
      go_ret
      exact ⟨ret_int' HX.out.symm, HW2.out⟩
    · have HX : Hid (levR g.evs xs u = 100) := by unfold Hid; rw [HM.out, if_pos (by simpa using (show u = x by simpa using hu).symm)]
      go_enter Tryz.func183, Tryz.ntmps183
      go_wp2_with (first
        | (go_at_call 179; refine (HO _ HG0.out.1).mono ?_; rw [← HV.out]; rintro e w1 ⟨q, c, rfl, hb1⟩; have HG1 : Hid (∀ o, SBox w be bs (w1.alloc o)) := (fun o => (HG0.out.on hb1).on ((Below.refl _ _).alloc (Nat.le_refl _) o)); have hc1 : w1.cell? ⟨w.heap.size, 0, none⟩ = some (.map (some be)) := cell_of_heap (HG0.out.on hb1).2; have hc2 : w1.cell? ⟨w.heap.size, 1, none⟩ = some (.map (some bs)) := cell_of_heap (HG0.out.on hb1).2; have hz1 : w.heap.size < w1.heap.size := (HG0.out.on hb1).lt; have hn1 : ¬ w.heap.size = w1.heap.size := (by omega); clear hb1)
        | (go_at_call 206; refine (HC _ (HG1.out _).1).mono ?_; rintro e w2 ⟨rfl, hb2⟩; have HW2 : Hid (Below w.heap.size w w2) := (HG1.out _).1.trans (hb2.mono (HG1.out _).1.size); clear hb2))
      go_ret
      exact ⟨ret_int' HX.out.symm, HW2.out⟩
  · have HX : Hid (levR g.evs xs u = v.n) := by unfold Hid levR; rw [← HZ.out, ← HV.out, if_neg (by simpa using h0)]
    go_enter Tryz.func183, Tryz.ntmps183
    go_wp2_with (go_at_call 179; refine (HO _ HG0.out.1).mono ?_; rw [← HV.out]; rintro e w1 ⟨q, c, rfl, hb1⟩; have HG1 : Hid (∀ o, SBox w be bs (w1.alloc o)) := (fun o => (HG0.out.on hb1).on ((Below.refl _ _).alloc (Nat.le_refl _) o)); clear hb1)
    go_ret
    exact ⟨ret_int' HX.out.symm, (HG1.out _).1⟩
end Go.Proofs.YteajcmkaoahbeaaGreatDoor
