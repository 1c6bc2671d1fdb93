/- The specification's rules: what is a state of a graph, what stands, who is in, levels, sight. -/
import Derived.Test.YtjdkenopfnepaaaGreatRl
namespace Go.Proofs.YtjdkenopfnepaaaGreat
open Go.RowKit

/-- The graph's variable, and all that lay before. -/
def GBox (w : World) (g : Gr) (a : Option Addr) (cap : Nat) (p : Option Addr) (cp : Nat) (W : World) : Prop := Below w.heap.size w W ∧ W.heap[w.heap.size]? = some (.cells #[.int .i64 g.room, .slice a g.evs.length cap, .slice p g.pk.length cp] 31 (0, 0))
theorem GBox.start (w : World) (g : Gr) (a : Option Addr) (cap : Nat) (p : Option Addr) (cp : Nat) : GBox w g a cap p cp (w.alloc (.cells #[.int .i64 g.room, .slice a g.evs.length cap, .slice p g.pk.length cp] 31)) := ⟨(Below.refl _ _).alloc (Nat.le_refl _) _, (MapKept.heap_alloc w _).1⟩
theorem GBox.on {w : World} {g : Gr} {a : Option Addr} {cap : Nat} {p : Option Addr} {cp : Nat} {W W' : World} (h : GBox w g a cap p cp W) (hb : Below W.heap.size W W') : GBox w g a cap p cp W' := ⟨h.1.trans (hb.mono h.1.size), (hb.block _ (Array.getElem?_eq_some_iff.1 h.2).1).trans h.2⟩
theorem GBox.lt {w : World} {g : Gr} {a : Option Addr} {cap : Nat} {p : Option Addr} {cp : Nat} {W : World} (h : GBox w g a cap p cp W) : w.heap.size < W.heap.size := (Array.getElem?_eq_some_iff.1 h.2).1
set_option maxHeartbeats 8000000 in
set_option maxRecDepth 100000 in
theorem state05_spec (g : Gr) (xs : List En) (a : Option Addr) (cap : Nat) (p : Option Addr) (cp : Nat) (s : Option Addr) (cs : Nat) (w : World) (h : EvsAt w a g.evs) (hx : EnsAt w s xs) (hd : (idsOf g.evs).Nodup) :
    Calls Tryz.prog 44 #[.agg #[.int .i64 g.room, .slice a g.evs.length cap, .slice p g.pk.length cp], .slice s xs.length cs] w fun e w' => e = .returned (.bool (stateB g xs)) ∧ Below w.heap.size w w' := by
  have hl := hx.len
  have hle := h.len
  have HG := GBox.start w g a cap p cp
  have HH : Hid (EvsAt w a g.evs ∧ EnsAt w s xs ∧ (idsOf g.evs).Nodup) := ⟨h, hx, hd⟩
  have HST := state_spec_ xs s cs _ (hx.kept HG.1)
  have HG : Hid (GBox w g a cap p cp (w.alloc (.cells #[.int .i64 g.room, .slice a g.evs.length cap, .slice p g.pk.length cp] 31))) := HG
  clear h hx hd
  cases hr : rowE false xs
  · have HS : Hid (stateB g xs = false) := by unfold Hid stateB; rw [hr]; rfl
    go_enter Tryz.func44, Tryz.ntmps44
    go_wp2_with (go_at_call 89; refine HST.mono ?_; rintro e w1 ⟨rfl, hb1⟩; rw [hr]; have HG1 : Hid (GBox w g a cap p cp w1) := HG.out.on hb1; clear hb1)
    go_ret
    exact ⟨ret_bool HS.out.symm, HG1.out.1⟩
  · have HS : Hid (stateB g xs = fitsB g.evs xs) := by unfold Hid stateB; rw [hr]; rfl
    have HRW : Hid (rowE false xs = true) := hr
    go_enter Tryz.func44, Tryz.ntmps44
    go_wp2_with (go_at_call 89; refine HST.mono ?_; rintro e w1 ⟨rfl, hb1⟩; rw [hr]; have HG1 : Hid (GBox w g a cap p cp w1) := HG.out.on hb1; clear hb1)
    clear HG HST hr
    go_loopw [5, 6] (fun i _ wr => ∃ k : Nat, k ≤ xs.length ∧ i = .int .i64 k ∧ Hid (∀ j (h : j < xs.length), j < k → fitB g.evs xs[j] = true) ∧ Hid (GBox w g a cap p cp wr)) (fun i _ _ => xs.length - (intOf i).toNat)
    case atStart => exact ⟨0, Nat.zero_le _, rfl, fun _ _ h => absurd h (Nat.not_lt_zero _), HG1⟩
    case round =>
      clear HG1
      obtain ⟨k, hk, rfl, HO, HG⟩ := hrel
      by_cases hlt : k < xs.length
      · have hx1 : wr.cell? ⟨w.heap.size, 1, none⟩ = some (.slice a g.evs.length cap) := cell_of_heap HG.out.2
        have HE : Hid (∀ n, EvsAt (wr.drewN n) a g.evs) := fun n => HH.out.1.kept (below_drewN HG.out.1 n)
        have HQ : Hid (∀ n, GBox w g a cap p cp (wr.drewN n)) := fun n => HG.out.on (below_drewN (Below.refl _ _) n)
        obtain ⟨b, off, rfl, hbb, hcell⟩ := (HH.out.2.1.kept HG.out.1).row (by omega)
        have hc0 : wr.cell? ⟨b, off + k * 3, none⟩ = some (.int .i64 xs[k].kind) := hcell k hlt 0 (by omega)
        have hc1 : wr.cell? ⟨b, off + k * 3 + 1, none⟩ = some (.int .i64 xs[k].key) := by
          have := hcell k hlt 1 (by omega)
          rwa [← Nat.add_assoc] at this
        have hc2 : wr.cell? ⟨b, off + k * 3 + 2, none⟩ = some (.int .i64 xs[k].id) := by
          have := hcell k hlt 2 (by omega)
          rwa [← Nat.add_assoc] at this
        clear hcell
        rcases atI_cases (idsOf g.evs) xs[k].id with ⟨q, hq, hat, hqq⟩ | ⟨hat, hno⟩
        · have hq' : q < g.evs.length := by simpa [idsOf] using hq
          have hv : evIn g.evs xs[k].id = g.evs[q].v := by
            have e : xs[k].id = g.evs[q].v.id := by rw [← hqq]; simp [idsOf]
            rw [e]
            exact evIn_some HH.out.2.2 (List.getElem_mem hq')
          obtain ⟨b2, off2, ha2, hbb2, hcell2⟩ := (HE.out 0).row (by omega)
          have hd3 : wr.cell? ⟨b2, off2 + q * 9 + 3, none⟩ = some (.int .i64 g.evs[q].v.kind) := by
            have := hcell2 q hq' 3 (by omega)
            rwa [← Nat.add_assoc] at this
          have hd4 : wr.cell? ⟨b2, off2 + q * 9 + 4, none⟩ = some (.int .i64 g.evs[q].v.key) := by
            have := hcell2 q hq' 4 (by omega)
            rwa [← Nat.add_assoc] at this
          have HAC := fun n => at_spec g.evs xs[k].id a cap (wr.drewN n) (HE.out n)
          rw [hat] at HAC
          have HF : Hid (fitB g.evs xs[k] = (!(g.evs[q].v.kind != xs[k].kind) && !(g.evs[q].v.key != xs[k].key))) := by unfold Hid fitB; rw [hv]; simp [bne]
          clear hcell2 hat hqq hv hq
          subst ha2
          have next : fitB g.evs xs[k] = true → Hid (∀ j (h : j < xs.length), j < k + 1 → fitB g.evs xs[j] = true) := fun hf j h hj => by
            by_cases e : j = k
            · subst e
              exact hf
            · exact HO.out j h (by omega)
          have hq0 : decide ((q : Int) < 0) = false := by simp
          cases h1 : (g.evs[q].v.kind != xs[k].kind)
          · cases h2 : (g.evs[q].v.key != xs[k].key)
            · have HN := next (by rw [HF.out, h1, h2]; rfl)
              clear next
              go_wp2
              go_quiet ((go_at_call 77; exact quiet_sym (HAC _)))
              go_wp2
              go_quiet (fail)
              go_wp2
              go_roundw
              case rel => exact ⟨k + 1, by omega, by go_num, HN, HQ.out _⟩
              case measure => simp [intOf]; omega
            · have HX : Hid (fitsB g.evs xs = false) := fitsB_no hlt (by rw [HF.out, h1, h2]; rfl)
              clear next
              go_wp2
              go_quiet ((go_at_call 77; exact quiet_sym (HAC _)))
              go_wp2
              go_quiet (fail)
              go_wp2
              go_ret
              exact ⟨ret_bool (HS.out.trans HX.out).symm, (HG.out.on (below_drewN (below_drewN (Below.refl _ _) _) _)).1⟩
          · have HX : Hid (fitsB g.evs xs = false) := fitsB_no hlt (by rw [HF.out, h1]; rfl)
            clear next
            go_wp2
            go_quiet ((go_at_call 77; exact quiet_sym (HAC _)))
            go_wp2
            go_quiet (fail)
            go_wp2
            go_ret
            exact ⟨ret_bool (HS.out.trans HX.out).symm, (HG.out.on (below_drewN (below_drewN (Below.refl _ _) _) _)).1⟩
        · have HX : Hid (fitsB g.evs xs = false) := fitsB_no hlt (fitB_out hno (rowE_kind HRW.out (List.getElem_mem hlt)).1)
          have HAC := fun n => at_spec g.evs xs[k].id a cap (wr.drewN n) (HE.out n)
          rw [hat] at HAC
          clear hno hat
          go_wp2
          go_quiet ((go_at_call 77; exact quiet_sym (HAC _)))
          go_wp2
          go_quiet (fail)
          go_wp2
          go_ret
          exact ⟨ret_bool (HS.out.trans HX.out).symm, (HG.out.on (below_drewN (below_drewN (Below.refl _ _) _) _)).1⟩
      · have HX : Hid (fitsB g.evs xs = true) := fitsB_yes fun j h => HO.out j h (by omega)
        go_wp2
        go_ret
        exact ⟨ret_bool (HS.out.trans HX.out).symm, HG.out.1⟩
end Go.Proofs.YtjdkenopfnepaaaGreat
