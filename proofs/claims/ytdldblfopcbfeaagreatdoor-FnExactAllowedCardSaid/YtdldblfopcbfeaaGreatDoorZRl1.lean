/- What a state of a graph tells, as plain functions. The specification's rules: what is a state of a graph, what stands, who is in, levels, sight. -/
import Derived.Test.YtdldblfopcbfeaaGreatDoorZGrEvIn
import Derived.Test.YtdldblfopcbfeaaGreatDoorZGrChart
import Derived.Test.YtdldblfopcbfeaaGreatDoorZStAt
namespace Go.Proofs.YtdldblfopcbfeaaGreatDoor
open Go.RowKit

/-- The event by which it stands so at a kind and a key. -/
def lastE (es : List Em) (xs : List En) (k y : Int) : Ev := evIn es (stAt xs k y)
def fitB (es : List Em) (x : En) : Bool := ((evIn es x.id).kind == x.kind) && ((evIn es x.id).key == x.key)
def fitsB (es : List Em) (xs : List En) : Bool := xs.all (fitB es)
def stateB (g : Gr) (xs : List En) : Bool := rowE false xs && fitsB g.evs xs
def sceneB (g : Gr) (xs : List En) : Bool := rightG g && stateB g xs
def memR (es : List Em) (xs : List En) (u : Int) : Int := (lastE es xs 2 u).n
def levR (es : List Em) (xs : List En) (u : Int) : Int := if stAt xs 3 u = 0 then (if (lastE es xs 1 0).author = u then 100 else 0) else (lastE es xs 3 u).n
def sigR (es : List Em) (xs : List En) : Int := if stAt xs 6 0 = 0 then 2 else (lastE es xs 6 0).n
theorem fitsB_no {es : List Em} {xs : List En} {k : Nat} (hk : k < xs.length) (h : fitB es xs[k] = false) : fitsB es xs = false := List.all_eq_false.2 ⟨xs[k], List.getElem_mem hk, by simp [h]⟩
theorem fitsB_yes {es : List Em} {xs : List En} (h : ∀ j (h : j < xs.length), fitB es xs[j] = true) : fitsB es xs = true := List.all_eq_true.2 fun x hx => by
  obtain ⟨j, hj, rfl⟩ := List.getElem_of_mem hx
  exact h j hj
theorem rowE_kind {xs : List En} (h : rowE false xs = true) {x : En} (hx : x ∈ xs) : 1 ≤ x.kind ∧ x.kind ≤ 6 ∧ 0 ≤ x.key ∧ x.key ≤ 6 ∧ 1 ≤ x.id ∧ x.id ≤ 1000000 := by
  simp only [rowE, Bool.and_eq_true] at h
  have h1 := List.all_eq_true.1 h.2 x hx
  simp only [entB, slotB, Bool.and_eq_true, Bool.false_and, Bool.or_false] at h1
  have hk := isB_yes h1.1.1
  have hy := isB_yes h1.1.2
  have hi := isB_yes h1.2
  exact ⟨hk.1, hk.2, hy.1, hy.2, hi.1, hi.2⟩
theorem fitB_out {es : List Em} {x : En} (h : x.id ∉ idsOf es) (hk : 1 ≤ x.kind) : fitB es x = false := by
  unfold fitB
  rw [evIn_none h]
  have : ((0 : Int) == x.kind) = false := by simp; omega
  simp [zeroEv, this]
theorem stAt_found {xs : List En} {k y : Int} (h : stAt xs k y ≠ 0) : ∃ x ∈ xs, x.kind = k ∧ x.key = y ∧ x.id = stAt xs k y := by
  unfold stAt at h ⊢
  cases c : xs.find? (fun x => (x.kind == k) && (x.key == y)) with
  | none => rw [c] at h; exact absurd rfl h
  | some x =>
    have hq := List.find?_some c
    simp only [Bool.and_eq_true, beq_iff_eq] at hq
    exact ⟨x, List.mem_of_find?_eq_some c, hq.1, hq.2, rfl⟩
structure Sc (g : Gr) (xs : List En) : Prop where
  right : rightG g = true
  row : rowE false xs = true
  fits : fitsB g.evs xs = true
theorem sceneB_yes {g : Gr} {xs : List En} (h : sceneB g xs = true) : Sc g xs := by
  simp only [sceneB, stateB, Bool.and_eq_true] at h
  exact ⟨h.1, h.2.1, h.2.2⟩
theorem right_rows {g : Gr} (h : rightG g = true) : rowB g.evs g.room 60 = true := by
  unfold rightG at h
  simp only [Bool.and_eq_true] at h
  exact h.1.1.1.1.2
theorem right_dup {g : Gr} (h : rightG g = true) : (idsOf g.evs).Nodup := rowB_nodup (right_rows h)
theorem right_ids {g : Gr} (h : rightG g = true) {m : Em} (hm : m ∈ g.evs) : IdIn m := (right_in (rowB_each (right_rows h) hm).1).1
theorem Sc.some {g : Gr} {xs : List En} (h : Sc g xs) {k y : Int} (hs : stAt xs k y ≠ 0) : ∃ m ∈ g.evs, m.v.id = stAt xs k y ∧ lastE g.evs xs k y = m.v ∧ m.v.kind = k ∧ m.v.key = y := by
  obtain ⟨x, hx, h1, h2, h3⟩ := stAt_found hs
  have hf := List.all_eq_true.1 h.fits x hx
  by_cases hin : x.id ∈ idsOf g.evs
  · obtain ⟨m, hm, he⟩ := List.mem_map.1 hin
    have hv : evIn g.evs x.id = m.v := by rw [← he]; exact evIn_some (right_dup h.right) hm
    unfold fitB at hf
    rw [hv] at hf
    simp only [Bool.and_eq_true, beq_iff_eq] at hf
    exact ⟨m, hm, he.trans h3, by unfold lastE; rw [← h3, hv], hf.1.trans h1, hf.2.trans h2⟩
  · rw [fitB_out hin (rowE_kind h.row hx).1] at hf
    cases hf
theorem Sc.zero {g : Gr} {xs : List En} (h : Sc g xs) {k y : Int} (hs : stAt xs k y = 0) : (0 : Int) ∉ idsOf g.evs ∧ lastE g.evs xs k y = zeroEv := by
  have h0 : (0 : Int) ∉ idsOf g.evs := fun hin => by
    obtain ⟨m, hm, he⟩ := List.mem_map.1 hin
    have := (right_ids h.right hm).1
    omega
  refine ⟨h0, ?_⟩
  unfold lastE
  rw [hs]
  exact evIn_none h0
theorem Sc.id {g : Gr} {xs : List En} (h : Sc g xs) (k y : Int) : (lastE g.evs xs k y).id = stAt xs k y := by
  by_cases hs : stAt xs k y = 0
  · rw [(h.zero hs).2, hs]
    rfl
  · obtain ⟨m, _, h1, h2, _⟩ := h.some hs
    rw [h2, h1]
theorem Sc.bound {g : Gr} {xs : List En} (h : Sc g xs) (k y : Int) : 0 ≤ stAt xs k y ∧ stAt xs k y ≤ 1000000 := by
  by_cases hs : stAt xs k y = 0
  · omega
  · obtain ⟨x, hx, _, _, h3⟩ := stAt_found hs
    have := rowE_kind h.row hx
    omega
/-- What stands for sight is never 0. -/
theorem Sc.sight {g : Gr} {xs : List En} (h : Sc g xs) (hs : stAt xs 6 0 ≠ 0) : (lastE g.evs xs 6 0).n ≠ 0 := by
  obtain ⟨m, hm, _, h2, h3, _⟩ := h.some hs
  rw [h2]
  have hr := (rowB_each (right_rows h.right) hm).1
  unfold rightB bodyB at hr
  rw [h3] at hr
  simp only [Bool.and_eq_true] at hr
  simp at hr
  have := isB_yes hr.2.1.2
  omega
theorem scene_nog {g : Gr} {xs : List En} (h : rightG g = false) : sceneB g xs = false := by simp [sceneB, h]
theorem scene_nos {g : Gr} {xs : List En} (h : stateB g xs = false) : sceneB g xs = false := by simp [sceneB, h]
theorem scene_yes {g : Gr} {xs : List En} (h : rightG g = true) (h2 : stateB g xs = true) : sceneB g xs = true := by simp [sceneB, h, h2]
end Go.Proofs.YtdldblfopcbfeaaGreatDoor
namespace Go.Proofs.YtdldblfopcbfeaaGreatDoor
open Go.RowKit

/-- The graph's variable, and all that lay before. -/
def GBox (w : World) (g : Gr) (a : Option Addr) (cap : Nat) (p : Option Addr) (cp : Nat) (W : World) : Prop := Below w.heap.size w W ∧ W.heap[w.heap.size]? = some (.cells #[.int .i64 g.room, .slice a g.evs.length cap, .slice p g.pk.length cp] 35 (0, 0))
theorem GBox.start (w : World) (g : Gr) (a : Option Addr) (cap : Nat) (p : Option Addr) (cp : Nat) : GBox w g a cap p cp (w.alloc (.cells #[.int .i64 g.room, .slice a g.evs.length cap, .slice p g.pk.length cp] 35)) := ⟨(Below.refl _ _).alloc (Nat.le_refl _) _, (MapKept.heap_alloc w _).1⟩
theorem GBox.on {w : World} {g : Gr} {a : Option Addr} {cap : Nat} {p : Option Addr} {cp : Nat} {W W' : World} (h : GBox w g a cap p cp W) (hb : Below W.heap.size W W') : GBox w g a cap p cp W' := ⟨h.1.trans (hb.mono h.1.size), (hb.block _ (Array.getElem?_eq_some_iff.1 h.2).1).trans h.2⟩
theorem GBox.lt {w : World} {g : Gr} {a : Option Addr} {cap : Nat} {p : Option Addr} {cp : Nat} {W : World} (h : GBox w g a cap p cp W) : w.heap.size < W.heap.size := (Array.getElem?_eq_some_iff.1 h.2).1
set_option maxHeartbeats 8000000 in
set_option maxRecDepth 100000 in
theorem state05_spec (g : Gr) (xs : List En) (a : Option Addr) (cap : Nat) (p : Option Addr) (cp : Nat) (s : Option Addr) (cs : Nat) (w : World) (h : EvsAt w a g.evs) (hx : EnsAt w s xs) (hd : (idsOf g.evs).Nodup) :
    Calls Tryz.prog 18 #[.agg #[.int .i64 g.room, .slice a g.evs.length cap, .slice p g.pk.length cp], .slice s xs.length cs] w fun e w' => e = .returned (.bool (stateB g xs)) ∧ Below w.heap.size w w' := by
  have hl := hx.len
  have hle := h.len
  have HG := GBox.start w g a cap p cp
  have HH : Hid (EvsAt w a g.evs ∧ EnsAt w s xs ∧ (idsOf g.evs).Nodup) := ⟨h, hx, hd⟩
  have HST := state_spec_ xs s cs _ (hx.kept HG.1)
  have HG : Hid (GBox w g a cap p cp (w.alloc (.cells #[.int .i64 g.room, .slice a g.evs.length cap, .slice p g.pk.length cp] 35))) := HG
  clear h hx hd
  cases hr : rowE false xs
  · have HS : Hid (stateB g xs = false) := by unfold Hid stateB; rw [hr]; rfl
    go_enter Tryz.func18, Tryz.ntmps18
    go_wp2_with (go_at_call 36; refine HST.mono ?_; rintro e w1 ⟨rfl, hb1⟩; rw [hr]; have HG1 : Hid (GBox w g a cap p cp w1) := HG.out.on hb1; clear hb1)
    go_ret
    exact ⟨ret_bool HS.out.symm, HG1.out.1⟩
  · have HS : Hid (stateB g xs = fitsB g.evs xs) := by unfold Hid stateB; rw [hr]; rfl
    have HRW : Hid (rowE false xs = true) := hr
    go_enter Tryz.func18, Tryz.ntmps18
    go_wp2_with (go_at_call 36; refine HST.mono ?_; rintro e w1 ⟨rfl, hb1⟩; rw [hr]; have HG1 : Hid (GBox w g a cap p cp w1) := HG.out.on hb1; clear hb1)
    clear HG HST hr
    go_loopw [5, 6] (fun i _ wr => ∃ k : Nat, k ≤ xs.length ∧ i = .int .i64 k ∧ Hid (∀ j (h : j < xs.length), j < k → fitB g.evs xs[j] = true) ∧ Hid (GBox w g a cap p cp wr)) (fun i _ _ => xs.length - (intOf i).toNat)
    case atStart => exact ⟨0, Nat.zero_le _, rfl, fun _ _ h => absurd h (Nat.not_lt_zero _), HG1⟩
    case round =>
      clear HG1
      obtain ⟨k, hk, rfl, HO, HG⟩ := hrel
      by_cases hlt : k < xs.length
      · have hx1 : wr.cell? ⟨w.heap.size, 1, none⟩ = some (.slice a g.evs.length cap) := cell_of_heap HG.out.2
        have HE : Hid (∀ n, EvsAt (wr.drewN n) a g.evs) := fun n => HH.out.1.kept (below_drewN HG.out.1 n)
        have HQ : Hid (∀ n, GBox w g a cap p cp (wr.drewN n)) := fun n => HG.out.on (below_drewN (Below.refl _ _) n)
        obtain ⟨b, off, rfl, hbb, hcell⟩ := (HH.out.2.1.kept HG.out.1).row (by omega)
        have hc0 : wr.cell? ⟨b, off + k * 3, none⟩ = some (.int .i64 xs[k].kind) := hcell k hlt 0 (by omega)
        have hc1 : wr.cell? ⟨b, off + k * 3 + 1, none⟩ = some (.int .i64 xs[k].key) := by
          have := hcell k hlt 1 (by omega)
          rwa [← Nat.add_assoc] at this
        have hc2 : wr.cell? ⟨b, off + k * 3 + 2, none⟩ = some (.int .i64 xs[k].id) := by
          have := hcell k hlt 2 (by omega)
          rwa [← Nat.add_assoc] at this
        clear hcell
        rcases atI_cases (idsOf g.evs) xs[k].id with ⟨q, hq, hat, hqq⟩ | ⟨hat, hno⟩
        · have hq' : q < g.evs.length := by simpa [idsOf] using hq
          have hv : evIn g.evs xs[k].id = g.evs[q].v := by
            have e : xs[k].id = g.evs[q].v.id := by rw [← hqq]; simp [idsOf]
            rw [e]
            exact evIn_some HH.out.2.2 (List.getElem_mem hq')
          obtain ⟨b2, off2, ha2, hbb2, hcell2⟩ := (HE.out 0).row (by omega)
          have hd3 : wr.cell? ⟨b2, off2 + q * 9 + 3, none⟩ = some (.int .i64 g.evs[q].v.kind) := by
            have := hcell2 q hq' 3 (by omega)
            rwa [← Nat.add_assoc] at this
          have hd4 : wr.cell? ⟨b2, off2 + q * 9 + 4, none⟩ = some (.int .i64 g.evs[q].v.key) := by
            have := hcell2 q hq' 4 (by omega)
            rwa [← Nat.add_assoc] at this
          have HAC := fun n => at_spec g.evs xs[k].id a cap (wr.drewN n) (HE.out n)
          rw [hat] at HAC
          have HF : Hid (fitB g.evs xs[k] = (!(g.evs[q].v.kind != xs[k].kind) && !(g.evs[q].v.key != xs[k].key))) := by unfold Hid fitB; rw [hv]; simp [bne]
          clear hcell2 hat hqq hv hq
          subst ha2
          have next : fitB g.evs xs[k] = true → Hid (∀ j (h : j < xs.length), j < k + 1 → fitB g.evs xs[j] = true) := fun hf j h hj => by
            by_cases e : j = k
            · subst e
              exact hf
            · exact HO.out j h (by omega)
          have hq0 : decide ((q : Int) < 0) = false := by simp
          cases h1 : (g.evs[q].v.kind != xs[k].kind)
          · cases h2 : (g.evs[q].v.key != xs[k].key)
            · have HN := next (by rw [HF.out, h1, h2]; rfl)
              clear next
              go_wp2
              go_quiet ((go_at_call 34; exact quiet_sym (HAC _)))
              go_wp2
              go_quiet (fail)
              go_wp2
              go_roundw
              case rel => exact ⟨k + 1, by omega, by go_num, HN, HQ.out _⟩
              case measure => simp [intOf]; omega
            · have HX : Hid (fitsB g.evs xs = false) := fitsB_no hlt (by rw [HF.out, h1, h2]; rfl)
              clear next
              go_wp2
              go_quiet ((go_at_call 34; exact quiet_sym (HAC _)))
              go_wp2
              go_quiet (fail)
              go_wp2
              go_ret
              exact ⟨ret_bool (HS.out.trans HX.out).symm, (HG.out.on (below_drewN (below_drewN (Below.refl _ _) _) _)).1⟩
          · have HX : Hid (fitsB g.evs xs = false) := fitsB_no hlt (by rw [HF.out, h1]; rfl)
            clear next
            go_wp2
            go_quiet ((go_at_call 34; exact quiet_sym (HAC _)))
            go_wp2
            go_quiet (fail)
            go_wp2
            go_ret
            exact ⟨ret_bool (HS.out.trans HX.out).symm, (HG.out.on (below_drewN (below_drewN (Below.refl _ _) _) _)).1⟩
        · have HX : Hid (fitsB g.evs xs = false) := fitsB_no hlt (fitB_out hno (rowE_kind HRW.out (List.getElem_mem hlt)).1)
          have HAC := fun n => at_spec g.evs xs[k].id a cap (wr.drewN n) (HE.out n)
          rw [hat] at HAC
          clear hno hat
          go_wp2
          go_quiet ((go_at_call 34; exact quiet_sym (HAC _)))
          go_wp2
          go_quiet (fail)
          go_wp2
          go_ret
          exact ⟨ret_bool (HS.out.trans HX.out).symm, (HG.out.on (below_drewN (below_drewN (Below.refl _ _) _) _)).1⟩
      · have HX : Hid (fitsB g.evs xs = true) := fitsB_yes fun j h => HO.out j h (by omega)
        go_wp2
        go_ret
        exact ⟨ret_bool (HS.out.trans HX.out).symm, HG.out.1⟩
end Go.Proofs.YtdldblfopcbfeaaGreatDoor
