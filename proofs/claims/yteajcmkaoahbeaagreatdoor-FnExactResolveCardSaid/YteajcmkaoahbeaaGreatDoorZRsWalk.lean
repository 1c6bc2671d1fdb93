/- The specification's Resolve; what both answer. The law on Resolve walked. -/
import Derived.Test.YteajcmkaoahbeaaGreatDoorZRsRes
import Derived.Test.YteajcmkaoahbeaaGreatDoorZRsPro
import Derived.Test.YteajcmkaoahbeaaGreatDoorZRsOpen
import Derived.Test.YteajcmkaoahbeaaGreatDoorZMark4
import Derived.Test.YteajcmkaoahbeaaGreatDoorZGrAt
import Derived.Deep.DeepCutAuto
namespace Go.Proofs.YteajcmkaoahbeaaGreatDoor
open Go.RowKit

theorem Meets.congr {g : Gr} {dp dp' : Int → Int} {L : List (List En)} {r : List En} (h : ∀ n, Disp L n → dp n = dp' n) (hm : Meets g.evs dp L r) : Meets g.evs dp' L r := by
  obtain ⟨l, h1, h2, h3⟩ := hm
  refine ⟨l, ?_, h2, h3⟩
  refine List.Pairwise.imp_of_mem (fun {x y} hx hy hxy => ?_) h1
  have e : lessE g.evs dp' x y = lessE g.evs dp x y := by
    unfold lessE
    rw [h x ((h2 x).1 hx), h y ((h2 y).1 hy)]
  rw [e]
  exact hxy
def depsL (g : Gr) : List Int := (idsOf g.evs).map fun id => (dep (pvOf g.evs) (idsOf g.evs).length id : Int)
theorem dpI_depG {g : Gr} (hr : rightG g = true) {n : Int} (hn : n ∈ idsOf g.evs) : dpI g (depsL g) n = depG g n := by
  rcases atI_cases (idsOf g.evs) n with ⟨k, hk, hat, hkk⟩ | ⟨_, hno⟩
  · unfold dpI depsL
    rw [hat, depG_in hr hn]
    simp only [Int.toNat_natCast, List.getD, List.getElem?_map, List.getElem?_eq_getElem hk, Option.map_some, Option.getD_some, hkk]
  · exact absurd hn hno
theorem disp_ids {g : Gr} {L : List (List En)} (hS : ∀ s ∈ L, Sc g s) {n : Int} (h : Disp L n) : n ∈ idsOf g.evs := by
  obtain ⟨s, hs, x, hx, _, e⟩ := h
  obtain ⟨m, hm, e2, _⟩ := (hS s hs).mem hx
  exact List.mem_map.2 ⟨m, hm, e2.trans e⟩
/-- What Resolve answers. -/
def AnsIs (g : Gr) (L : List (List En)) (r : List En) : Prop := (¬ rsOk g L ∧ r = []) ∨ (rsOk g L ∧ Meets g.evs (depG g) L r)
theorem rsOk.sc {g : Gr} {L : List (List En)} (h : rsOk g L) : ∀ s ∈ L, Sc g s := fun s hs => stateB_sc h.1 (h.2.2 s hs)
theorem AnsIs.uniq {g : Gr} {L : List (List En)} {r r2 : List En} (h : AnsIs g L r) (h2 : AnsIs g L r2) : r = r2 := by
  rcases h with ⟨h, rfl⟩ | ⟨h, hm⟩
  · rcases h2 with ⟨_, rfl⟩ | ⟨h2, _⟩
    · rfl
    · exact absurd h2 h
  · rcases h2 with ⟨h2, _⟩ | ⟨_, hm2⟩
    · exact absurd h h2
    · exact Meets.uniq (fun n hn => by
        obtain ⟨m, hm, e⟩ := List.mem_map.1 (disp_ids h.sc hn)
        rw [← e]
        exact congrArg Ev.id (evIn_some (right_dup h.1) hm)) hm hm2
def RowAns (w : World) (g : Gr) (L : List (List En)) (e : Ending) (w' : World) : Prop := ∃ v r, e = .returned v ∧ AnsIs g L r ∧ EnsOwn w' w.heap.size v r ∧ Below w.heap.size w w'
theorem RowAns.ofP {w w' : World} {g : Gr} {L : List (List En)} {e : Ending} (h : RpPost w g L e w') : RowAns w g L e w' := by
  rcases h with ⟨h1, h2, h3⟩ | ⟨h1, r, v, h2, h3, h4, h5⟩
  · exact ⟨_, [], h2, .inl ⟨h1, rfl⟩, ⟨rfl, .inl ⟨rfl, rfl⟩⟩, h3⟩
  · exact ⟨v, r, h2, .inr ⟨h1, h3⟩, h4, h5⟩
theorem ens_empty (W : World) (base : Nat) (hb : base ≤ W.heap.size) : EnsOwn (W.alloc (.cells #[] 73)) base (.slice (some ⟨W.heap.size, 0, none⟩) 0 0) [] :=
  ⟨rfl, .inr ⟨W.heap.size, 0, #[], rfl, hb, (MapKept.heap_alloc W _).1, Nat.le_refl _, by unfold maxLen; omega, rfl, rfl⟩⟩
theorem TabAt.nums {w0 : World} {gg n cap : Nat} {d : List Int} {w : World} (h : TabAt w0 gg n cap d w) (hd : d.length = n) (hn : n ≤ 1048576) : NumsAt w (some ⟨gg, 0, none⟩) d := by
  refine ⟨by omega, fun hp => ⟨gg, 0, rfl, ?_, fun j hj => ?_⟩⟩
  · rcases h.own.2 with ⟨h1, _⟩ | ⟨g', cap', cur, h1, h2, h3, _⟩
    · cases h1
    · cases h1
      exact (Array.getElem?_eq_some_iff.1 h3).1
  · have := h.cell (j := j) (by omega)
    rw [Nat.zero_add, this]
    simp [List.getD, List.getElem?_eq_getElem hj]
set_option maxHeartbeats 8000000 in
set_option maxRecDepth 100000 in
theorem resolveS_spec (g : Gr) (ls : List Sl) (a : Option Addr) (cap : Nat) (p : Option Addr) (cp : Nat) (q : Option Addr) (cq : Nat) (w : World) (h : EvsAt w a g.evs) (h2 : EvsAt w p g.pk) (hL : SlsAt w q ls) :
    Calls Tryz.prog 11 #[.agg #[.int .i64 g.room, .slice a g.evs.length cap, .slice p g.pk.length cp], .slice q ls.length cq] w (RowAns w g (rowsOf ls)) := by
  have hl := hL.len
  have HG := GBox.start w g a cap p cp
  have HB : Hid (∀ o, Below w.heap.size w (w.alloc o)) := fun o => (Below.refl _ _).alloc (Nat.le_refl _) o
  have HC := fun o => graph_spec g a cap p cp (w.alloc o) (h.kept (HB.out o)) (h2.kept (HB.out o))
  have HE : Hid (EvsAt w a g.evs ∧ EvsAt w p g.pk ∧ SlsAt w q ls) := ⟨h, h2, hL⟩
  have HLN : Hid ((rowsOf ls).length = ls.length) := by simp [Hid, rowsOf]
  have HG0 : Hid (GBox w g a cap p cp (w.alloc (.cells #[.int .i64 g.room, .slice a g.evs.length cap, .slice p g.pk.length cp] 32))) := HG
  clear h h2 hL HG
  go_enter Tryz.func11, Tryz.ntmps11
  go_wp2_with fail
  refine (HC _).mono ?_
  clear HC
  rintro e w1 ⟨rfl, hb1⟩
  have HG1 : Hid (GBox w g a cap p cp w1) := HG0.out.on hb1
  clear hb1 HG0
  cases hr : rightG g
  · have HN : Hid (¬ rsOk g (rowsOf ls)) := fun h => by have := h.1; rw [hr] at this; cases this
    have HA : Hid (∀ W, Below w1.heap.size w1 W → RowAns w g (rowsOf ls) (.returned (.slice (some ⟨W.heap.size, 0, none⟩) 0 0)) (W.alloc (.cells #[] 73))) := fun W hW => by
      have hbW := HG1.out.1.trans (hW.mono HG1.out.1.size)
      exact ⟨_, [], rfl, .inl ⟨HN.out, rfl⟩, ens_empty W _ hbW.size, hbW.alloc hbW.size _⟩
    go_wp2
    go_ret
    exact HA.out _ (Below.refl _ _)
  · have HR : Hid (rightG g = true) := hr
    clear hr
    by_cases hle : ls.length ≤ 60
    · go_wp2
      go_loopw [5] (fun i wr => ∃ k : Nat, k ≤ ls.length ∧ i = .int .i64 k ∧ Hid (∀ j (h : j < ls.length), j < k → stateB g ls[j].xs = true) ∧ Hid (GBox w g a cap p cp wr)) (fun i _ => ls.length - (intOf i).toNat)
      case atStart => exact ⟨0, Nat.zero_le _, rfl, fun _ _ h => absurd h (Nat.not_lt_zero _), HG1⟩
      case round =>
        clear HG1
        obtain ⟨k, hk, rfl, HO, HG⟩ := hrel
        have hwz : w.heap.size < wr.heap.size := (Array.getElem?_eq_some_iff.1 HG.out.2).1
        have hc : ∀ i, wr.cell? ⟨w.heap.size, i, none⟩ = #[Value.int .i64 g.room, .slice a g.evs.length cap, .slice p g.pk.length cp][i]? := fun i => cell_of_heap HG.out.2
        by_cases hlt : k < ls.length
        · obtain ⟨b, off, rfl, hbb, hcell⟩ := (HE.out.2.2.kept HG.out.1).row (by omega)
          have hck := hcell k hlt
          obtain ⟨s, HSS⟩ : ∃ s, Hid (s = ls[k]) := ⟨ls[k], (rfl : ls[k] = _)⟩
          have HSA : Hid (EnsAt w s.a s.xs) := by rw [HSS.out]; exact HE.out.2.2.each _ (List.getElem_mem hlt)
          rw [← HSS.out] at hck
          have HCS : Hid (∀ W, Below wr.heap.size wr W → Calls Tryz.prog 38 #[.agg #[.int .i64 g.room, .slice a g.evs.length cap, .slice p g.pk.length cp], .slice s.a s.xs.length s.c] W fun e w' => e = .returned (.bool (stateB g s.xs)) ∧ Below W.heap.size W w') := fun W hW => by
            have hbW := HG.out.1.trans (hW.mono HG.out.1.size)
            exact state05_spec g s.xs a cap p cp s.a s.c W (HE.out.1.kept hbW) (HSA.out.kept hbW) (right_dup HR.out)
          clear hcell
          go_wp2
          refine wp_region_held_drew (S := (fun W => Below wr.heap.size wr W)) (by kernel_rfl) (Below.drew (Below.refl _ _)) (fun hHeld => ?_)
          refine wpAnyH_take (i := 0) (v := (.agg #[.int .i64 g.room, .slice a g.evs.length cap, .slice p g.pk.length cp])) rfl (by kernel_rfl) (by kernel_rfl) (by kernel_rfl) (fun _ _ _ h => h) (Or.inl ⟨by kernel_rfl, ?_⟩) hHeld ?_
          · intro W hW
            have f : ∀ i, W.cell? ⟨w.heap.size, i, none⟩ = #[Value.int .i64 g.room, .slice a g.evs.length cap, .slice p g.pk.length cp][i]? := fun i => (hW.cell (p := ⟨w.heap.size, i, none⟩) hwz).trans (hc i)
            go_simp
          refine wpAnyH_take (i := 1) (v := (.slice (some ⟨b, off, none⟩) ls.length cq)) rfl (by kernel_rfl) (by kernel_rfl) (by kernel_rfl) (fun _ _ _ h => h) (Or.inl ⟨by kernel_rfl, ?_⟩) hHeld ?_
          · intro W hW
            go_simp
          refine wpAnyH_take (i := 2) (v := (.int .i64 k)) rfl (by kernel_rfl) (by kernel_rfl) (by kernel_rfl) (fun _ _ _ h => h) (Or.inl ⟨by kernel_rfl, ?_⟩) hHeld ?_
          · intro W hW
            go_simp
          refine wpAnyH_take (i := 3) (v := (.pointer (some ⟨b, off + k, none⟩))) rfl (by kernel_rfl) (by kernel_rfl) (by kernel_rfl) (fun _ _ _ h => h) (Or.inl ⟨by kernel_rfl, ?_⟩) hHeld ?_
          · intro W hW
            go_simp
          refine wpAnyH_take (i := 4) (v := (.slice s.a s.xs.length s.c)) rfl (by kernel_rfl) (by kernel_rfl) (by kernel_rfl) (fun _ _ _ h => h) (Or.inl ⟨by kernel_rfl, ?_⟩) hHeld ?_
          · intro W hW
            have f := (hW.cell (p := ⟨b, off + k, none⟩) hbb).trans hck
            go_simp
          refine wpAnyH_ready (rs := [5]) (by kernel_rfl) (by simp) ?_
          refine AllReadyH.cons rfl (fun K hK => ?_) AllReadyH.nil
          go_simp
          refine (HCS.out _ hHeld).mono ?_
          rintro e w3 ⟨rfl, hb3⟩
          have hd3 : Below wr.heap.size wr w3 := hHeld.trans (hb3.mono hHeld.size)
          clear hb3
          refine hK.out _ _ hd3 (fun hH3 => ?_)
          clear hK K
          have HG3 : Hid (GBox w g a cap p cp w3) := HG.out.on hd3
          cases hst : stateB g s.xs
          · have HN : Hid (¬ rsOk g (rowsOf ls)) := fun h => by
              have := h.2.2 s.xs (List.mem_map.2 ⟨s, by rw [HSS.out]; exact List.getElem_mem hlt, rfl⟩)
              rw [hst] at this
              cases this
            have HA : Hid (∀ W, Below w3.heap.size w3 W → RowAns w g (rowsOf ls) (.returned (.slice (some ⟨W.heap.size, 0, none⟩) 0 0)) (W.alloc (.cells #[] 73))) := fun W hW => by
              have hbW := HG3.out.1.trans (hW.mono HG3.out.1.size)
              exact ⟨_, [], rfl, .inl ⟨HN.out, rfl⟩, ens_empty W _ hbW.size, hbW.alloc hbW.size _⟩
            refine wpAnyH_take (i := 6) (v := (.bool true)) rfl (by kernel_rfl) (by kernel_rfl) (by kernel_rfl) (fun _ _ _ h => h) (Or.inl ⟨by kernel_rfl, ?_⟩) hH3 ?_
            · intro W hW
              go_simp
            refine wpAnyH_done (by kernel_rfl) ?_ _
            simp only [Act.put, List.setIfInBounds_toArray, List.set_cons_zero, List.set_cons_succ, List.getElem_toArray, List.getElem_cons_zero, List.getElem_cons_succ]
            clear hH3
            go_wp2
            go_ret
            exact HA.out _ (Below.refl _ _)
          · have HO2 : Hid (∀ j (h : j < ls.length), j < k + 1 → stateB g ls[j].xs = true) := fun j h hj => by
              by_cases e : j = k
              · subst e
                rw [← HSS.out]
                exact hst
              · exact HO.out j h (by omega)
            refine wpAnyH_take (i := 6) (v := (.bool false)) rfl (by kernel_rfl) (by kernel_rfl) (by kernel_rfl) (fun _ _ _ h => h) (Or.inl ⟨by kernel_rfl, ?_⟩) hH3 ?_
            · intro W hW
              go_simp
            refine wpAnyH_done (by kernel_rfl) ?_ _
            simp only [Act.put, List.setIfInBounds_toArray, List.set_cons_zero, List.set_cons_succ, List.getElem_toArray, List.getElem_cons_zero, List.getElem_cons_succ]
            clear hH3
            go_wp2
            go_roundw
            case rel => exact ⟨k + 1, by omega, by go_num, HO2, HG3⟩
            case measure => simp [intOf]; omega
        · have HOK : Hid (rsOk g (rowsOf ls)) := ⟨HR.out, by rw [HLN.out]; exact hle, fun s hs => by
            obtain ⟨x, hx, rfl⟩ := List.mem_map.1 hs
            obtain ⟨i, hi, rfl⟩ := List.getElem_of_mem hx
            exact HO.out i hi (by omega)⟩
          have HRP : Hid ((idsOf g.evs).Nodup ∧ ∀ m ∈ g.evs, ∀ p ∈ m.v.prev, p ∈ idsOf g.evs) := ⟨right_dup HR.out, evsB_prevs (right_parts HR.out).2.2.1⟩
          have HEV : Hid (∀ W, Below wr.heap.size wr W → EvsAt W a g.evs ∧ SlsAt W q ls) := fun W hW => by
            have hbW := HG.out.1.trans (hW.mono HG.out.1.size)
            exact ⟨HE.out.1.kept hbW, HE.out.2.2.kept hbW⟩
          have HDL : Hid ((depsL g).length = g.evs.length) := by simp [Hid, depsL, idsOf]
          go_wp2
          refine wp_region_held_drew (S := (fun W => Below wr.heap.size wr W)) (by kernel_rfl) (Below.drew (Below.refl _ _)) (fun hHeld => ?_)
          refine wpAnyH_take (i := 0) (v := (.agg #[.int .i64 g.room, .slice a g.evs.length cap, .slice p g.pk.length cp])) rfl (by kernel_rfl) (by kernel_rfl) (by kernel_rfl) (fun _ _ _ h => h) (Or.inl ⟨by kernel_rfl, ?_⟩) hHeld ?_
          · intro W hW
            have f : ∀ i, W.cell? ⟨w.heap.size, i, none⟩ = #[Value.int .i64 g.room, .slice a g.evs.length cap, .slice p g.pk.length cp][i]? := fun i => (hW.cell (p := ⟨w.heap.size, i, none⟩) hwz).trans (hc i)
            go_simp
          refine wpAnyH_take (i := 1) (v := (.pointer (some ⟨w.heap.size, 1, none⟩))) rfl (by kernel_rfl) (by kernel_rfl) (by kernel_rfl) (fun _ _ _ h => h) (Or.inl ⟨by kernel_rfl, ?_⟩) hHeld ?_
          · intro W hW
            go_simp
          refine wpAnyH_take (i := 2) (v := (.slice a g.evs.length cap)) rfl (by kernel_rfl) (by kernel_rfl) (by kernel_rfl) (fun _ _ _ h => h) (Or.inl ⟨by kernel_rfl, ?_⟩) hHeld ?_
          · intro W hW
            have f : ∀ i, W.cell? ⟨w.heap.size, i, none⟩ = #[Value.int .i64 g.room, .slice a g.evs.length cap, .slice p g.pk.length cp][i]? := fun i => (hW.cell (p := ⟨w.heap.size, i, none⟩) hwz).trans (hc i)
            go_simp
          refine wpAnyH_take (i := 4) (v := (.slice q ls.length cq)) rfl (by kernel_rfl) (by kernel_rfl) (by kernel_rfl) (fun _ _ _ h => h) (Or.inl ⟨by kernel_rfl, ?_⟩) hHeld ?_
          · intro W hW
            go_simp
          refine wpAnyH_ready (rs := [3]) (by kernel_rfl) (by simp) ?_
          refine AllReadyH.cons rfl (fun K hK => ?_) AllReadyH.nil
          go_simp
          refine (depths_spec g.evs a cap _ (HEV.out _ hHeld).1 HRP.out.1 HRP.out.2).mono ?_
          rintro e w3 ⟨rfl, ht3⟩
          have hd3 : Below wr.heap.size wr w3 := hHeld.trans (ht3.below.mono hHeld.size)
          have HDS : Hid (NumsAt w3 (some ⟨wr.heap.size, 0, none⟩) (depsL g)) := ht3.nums HDL.out (by have := HE.out.1.len; omega)
          clear ht3
          refine hK.out _ _ hd3 (fun hH3 => ?_)
          clear hK K
          have HRS := resolve_spec g (depsL g) ls a cap p cp (some ⟨wr.heap.size, 0, none⟩) g.evs.length q cq w3 (HEV.out _ hd3).1 HDS.out HDL.out HR.out (HEV.out _ hd3).2 hle HOK.out.sc
          rw [HDL.out] at HRS
          refine wpAnyH_ready (rs := [5]) (by kernel_rfl) (by simp) ?_
          refine AllReadyH.cons rfl (fun K hK => ?_) AllReadyH.nil
          go_simp
          refine HRS.mono ?_
          rintro e w4 ⟨v, r, rfl, hme, hown, hb4⟩
          have hd4 : Below wr.heap.size wr w4 := hd3.trans (hb4.mono hd3.size)
          have HA : Hid (RowAns w g (rowsOf ls) (.returned v) w4) := ⟨v, r, rfl, .inr ⟨HOK.out, hme.congr fun n hn => dpI_depG HR.out (disp_ids HOK.out.sc hn)⟩, hown.mono (Nat.le_trans HG.out.1.size hd3.size), HG.out.1.trans (hd4.mono HG.out.1.size)⟩
          clear hb4 hme hown
          refine hK.out _ _ hd4 (fun hH4 => ?_)
          clear hK K
          refine wpAnyH_take (i := 6) (v := v) rfl (by kernel_rfl) (by kernel_rfl) (by kernel_rfl) (fun _ _ _ h => h) (Or.inl ⟨by kernel_rfl, ?_⟩) hH4 ?_
          · intro W hW
            go_simp
          refine wpAnyH_done (by kernel_rfl) ?_ _
          simp only [Act.put, List.setIfInBounds_toArray, List.set_cons_zero, List.set_cons_succ, List.getElem_toArray, List.getElem_cons_zero, List.getElem_cons_succ]
          clear hH4 HRS
          go_wp2
          go_ret
          exact HA.out
    · have HN : Hid (¬ rsOk g (rowsOf ls)) := fun h => by have := h.2.1; rw [HLN.out] at this; omega
      have HA : Hid (∀ W, Below w1.heap.size w1 W → RowAns w g (rowsOf ls) (.returned (.slice (some ⟨W.heap.size, 0, none⟩) 0 0)) (W.alloc (.cells #[] 73))) := fun W hW => by
        have hbW := HG1.out.1.trans (hW.mono HG1.out.1.size)
        exact ⟨_, [], rfl, .inl ⟨HN.out, rfl⟩, ens_empty W _ hbW.size, hbW.alloc hbW.size _⟩
      go_wp2
      go_ret
      exact HA.out _ (Below.refl _ _)
end Go.Proofs.YteajcmkaoahbeaaGreatDoor
namespace Go.Proofs.YteajcmkaoahbeaaGreatDoor
open Go.RowKit

theorem alwE_sameR {es fs : List Em} (h : es.map (·.v) = fs.map (·.v)) (xs : List En) (v : Ev) : alwE es xs v = alwE fs xs v := by
  have h1 := fun k y => lastE_same h xs k y
  have h2 : ∀ u, memR es xs u = memR fs xs u := fun u => by unfold memR; rw [h1]
  have h3 : ∀ u, levR es xs u = levR fs xs u := fun u => by unfold levR; rw [h1, h1]
  have h4 : idsOf es = idsOf fs := by
    have h5 := congrArg (List.map fun x : Ev => x.id) h
    rw [List.map_map, List.map_map] at h5
    exact h5
  simp only [alwE, kindE, ownE, otherE, hideE, h1, h2, h3, h4, evIn_same h]
theorem ansIs_same {g h : Gr} (hr : g.room = h.room) (he : g.evs.map (·.v) = h.evs.map (·.v)) (hp : g.pk.map (·.v) = h.pk.map (·.v)) {L : List (List En)} {r : List En} (hA : AnsIs g L r) : AnsIs h L r := by
  have e1 := rightG_same hr he hp
  have e2 : ∀ s, stateB g s = stateB h s := fun s => by unfold stateB; rw [fitsB_same he]
  have e3 : rsOk g L ↔ rsOk h L := by
    unfold rsOk
    rw [e1]
    simp only [e2]
  have e4 : depG g = depG h := funext fun id => depG_same hr he hp id
  have e5 : lessE g.evs (depG g) = lessE h.evs (depG h) := by
    funext m n
    unfold lessE
    rw [evIn_same he, evIn_same he, e4]
  have e6 : mtS g.evs = mtS h.evs := by
    funext o n
    unfold mtS
    rw [evIn_same he, alwE_sameR he]
  rcases hA with ⟨k, rfl⟩ | ⟨k, l, h1, h2, h3⟩
  · exact .inl ⟨fun q => k (e3.2 q), rfl⟩
  · exact .inr ⟨e3.1 k, l, by rw [← e5]; exact h1, h2, by rw [← e6]; exact h3⟩
theorem ansIs_len {g : Gr} {L : List (List En)} {r : List En} (h : AnsIs g L r) : r.length ≤ 400 := by
  rcases h with ⟨_, rfl⟩ | ⟨k, hm⟩
  · simp
  · exact (rowE_in (Meets.sc k.1 k.sc hm).row).1
/-- What the law holds: its graph, its copy, and the specification's row. -/
structure LR (w : World) (g : Gr) (a : Option Addr) (cap : Nat) (p : Option Addr) (cp : Nat) (r : List En) (B5 : Nat) (a4 p4 : Option Addr) (q6 : Option Addr) (c6 : Nat) (V : World) : Prop where
  b0 : V.heap[w.heap.size]? = some (.cells #[.int .i64 g.room, .slice a g.evs.length cap, .slice p g.pk.length cp] 24 (0, 0))
  b5 : V.heap[B5]? = some (.cells #[.int .i64 g.room, .slice a4 g.evs.length g.evs.length, .slice p4 g.pk.length g.pk.length] 32 (0, 0))
  o6 : EnsOwn V 0 (.slice q6 r.length c6) r
  below : Below w.heap.size w V
section
variable {w : World} {g : Gr} {a : Option Addr} {cap : Nat} {p : Option Addr} {cp : Nat} {r : List En} {B5 : Nat} {a4 p4 : Option Addr} {q6 : Option Addr} {c6 : Nat} {V V' : World}
theorem LR.on (h : LR w g a cap p cp r B5 a4 p4 q6 c6 V) (hb : Below V.heap.size V V') : LR w g a cap p cp r B5 a4 p4 q6 c6 V' :=
  ⟨(hb.block _ (Array.getElem?_eq_some_iff.1 h.b0).1).trans h.b0, (hb.block _ (Array.getElem?_eq_some_iff.1 h.b5).1).trans h.b5, h.o6.kept hb, h.below.trans (hb.mono h.below.size)⟩
theorem own_blk {base : Nat} {v : Value} {xs : List En} (h : EnsOwn V base v xs) (hb : ∀ q, v.ownBlock = some q → V'.heap[q]? = V.heap[q]?) : EnsOwn V' base v xs := by
  refine ⟨h.1, ?_⟩
  rcases h.2 with h0 | ⟨q, cap, cur, h1, h2, h3, r⟩
  · exact .inl h0
  · exact .inr ⟨q, cap, cur, h1, h2, (hb q (by rw [h1]; rfl)).trans h3, r⟩
theorem LR.far (h : LR w g a cap p cp r B5 a4 p4 q6 c6 V) {lo hi : Nat} (hw : Wr lo hi V V') (h0 : w.heap.size < lo) (h5 : hi ≤ B5) (hu : ∀ q, (Value.slice q6 r.length c6).ownBlock = some q → q < lo ∧ q < V.heap.size) : LR w g a cap p cp r B5 a4 p4 q6 c6 V' := by
  have blk : ∀ b o, V.heap[b]? = some o → (b < lo ∨ hi ≤ b) → V'.heap[b]? = some o := fun b o hb hr => (hw.block b (Array.getElem?_eq_some_iff.1 hb).1 hr).trans hb
  exact ⟨blk _ _ h.b0 (.inl h0), blk _ _ h.b5 (.inr h5), own_blk h.o6 fun q hq => hw.block q (hu q hq).2 (.inl (hu q hq).1), ⟨hw.os.trans h.below.os, hw.tape.trans h.below.tape, hw.output.trans h.below.output, Nat.le_trans h.below.size hw.size, fun b hb => (hw.block b (Nat.lt_of_lt_of_le hb h.below.size) (.inl (by omega))).trans (h.below.block b hb)⟩⟩
theorem LR.ws (h : LR w g a cap p cp r B5 a4 p4 q6 c6 V) {lo hi : Nat} (hw : WS lo hi V V') (h0 : w.heap.size < lo) (h5 : B5 < lo) (hu : ∀ q, (Value.slice q6 r.length c6).ownBlock = some q → q < lo) : LR w g a cap p cp r B5 a4 p4 q6 c6 V' :=
  ⟨(hw.block _ (.inl h0)).trans h.b0, (hw.block _ (.inl h5)).trans h.b5, own_blk h.o6 fun q hq => hw.block q (.inl (hu q hq)), h.below.trans (hw.below.mono (Nat.le_of_lt h0))⟩
theorem LR.only (h : LR w g a cap p cp r B5 a4 p4 q6 c6 V) {b : Nat} (ho : OnlyB b V V') (h0 : w.heap.size < b) (h5 : B5 ≠ b) (hu : ∀ q, (Value.slice q6 r.length c6).ownBlock = some q → q ≠ b) : LR w g a cap p cp r B5 a4 p4 q6 c6 V' :=
  ⟨(ho.block _ (by omega)).trans h.b0, (ho.block _ h5).trans h.b5, own_blk h.o6 fun q hq => ho.block q (hu q hq), h.below.trans (ho.below (Nat.le_of_lt h0))⟩
end
theorem EnsOwn.ltR {w : World} {base : Nat} {v : Value} {xs : List En} (h : EnsOwn w base v xs) : ∀ g, v.ownBlock = some g → base ≤ g ∧ g < w.heap.size := by
  intro g hg
  rcases h.2 with ⟨rfl, _⟩ | ⟨q, cap, cur, rfl, h2, h3, _⟩
  · cases hg
  · have e2 : q = g := by simpa [Value.ownBlock] using hg
    subst e2
    exact ⟨h2, (Array.getElem?_eq_some_iff.1 h3).1⟩
theorem EnsOwn.ensAtR {w : World} {base n k : Nat} {a : Option Addr} {xs : List En} (h : EnsOwn w base (.slice a n k) xs) (hl : xs.length ≤ 1048576) : EnsAt w a xs := by
  obtain ⟨a', c', e, _, h1, _⟩ := h.at hl
  cases e
  exact h1
theorem wSS_same {ls ms : List Sl} (h : rowsOf ms = rowsOf ls) : wSS ms = wSS ls := by
  have key : ∀ l : List Sl, wSS l = (rowsOf l).length + ((rowsOf l).map List.length).sum := fun l => by
    unfold wSS sumT rowsOf
    rw [List.take_length, List.length_map, List.map_map]
    rfl
  rw [key, key, h]
/-- The copy of the rows, unmarked. -/
structure LC (ls ms : List Sl) (B8 hi : Nat) (V : World) : Prop where
  at_ : SlsAt V (some ⟨B8, 0, none⟩) ms
  cells : ∀ i (h : i < ms.length), V.cell? ⟨B8, i, none⟩ = some (.slice ms[i].a ms[i].xs.length ms[i].c)
  spots : ∀ s ∈ ms, ∃ b, s.a = some ⟨b, 0, none⟩ ∧ B8 < b ∧ b < hi ∧ Spot V s.a s.xs.length
  lt : B8 < V.heap.size
theorem LC.of {w W : World} {ls ms : List Sl} (h : SlsNew w ls ms W) (hl : ls.length ≤ 1048576) : LC ls ms w.heap.size W.heap.size W := by
  obtain ⟨C, hC, hsz, hcell⟩ := h.ti.box
  refine ⟨h.at hl, fun i hi => ?_, fun s hs => ?_, (Array.getElem?_eq_some_iff.1 hC).1⟩
  · rw [cell_of_heap hC]
    exact hcell i hi
  · obtain ⟨b, h1, h2, h3, h4, _⟩ := h.ti.each s hs
    exact ⟨b, h1, h2, h3, h4⟩
theorem LC.on {ls ms : List Sl} {B8 hi : Nat} {V V' : World} (h : LC ls ms B8 hi V) (hb : Below V.heap.size V V') : LC ls ms B8 hi V' :=
  ⟨h.at_.kept hb, fun i hi' => (hb.cell (p := ⟨B8, i, none⟩) h.lt).trans (h.cells i hi'), fun s hs => by
    obtain ⟨b, h1, h2, h3, h4⟩ := h.spots s hs
    exact ⟨b, h1, h2, h3, h4.kept hb⟩, Nat.lt_of_lt_of_le h.lt hb.size⟩
theorem LC.far {ls ms : List Sl} {B8 hi lo h2 : Nat} {V V' : World} (h : LC ls ms B8 hi V) (hw : Wr lo h2 V V') (hh : h2 ≤ B8) : (∀ i (h : i < ms.length), V'.cell? ⟨B8, i, none⟩ = some (.slice ms[i].a ms[i].xs.length ms[i].c)) ∧ ∀ s ∈ ms, ∃ b, s.a = some ⟨b, 0, none⟩ ∧ B8 < b ∧ b < hi ∧ Spot V' s.a s.xs.length := by
  refine ⟨fun i hi' => (hw.cell h.lt (.inr hh)).trans (h.cells i hi'), fun s hs => ?_⟩
  obtain ⟨b, h1, h3, h4, h5⟩ := h.spots s hs
  refine ⟨b, h1, h3, h4, ?_⟩
  rw [h1] at h5 ⊢
  rcases h5 with h0 | ⟨b', ha, hlt, hc, hf⟩
  · exact .inl h0
  · cases ha
    have hr : b < lo ∨ h2 ≤ b := .inr (by omega)
    exact .inr ⟨b, rfl, Nat.lt_of_lt_of_le hlt hw.size, fun q hq => by rw [hw.cell hlt hr]; exact hc q hq, fun q => by rw [hw.frozen hlt hr]; exact hf q⟩
set_option maxHeartbeats 16000000 in
set_option maxRecDepth 100000 in
theorem walk_fnExactResolve_gr (g : Gr) (a : Option Addr) (cap : Nat) (p : Option Addr) (cp : Nat) (ls : List Sl) (s : Option Addr) (cs : Nat) (w : World) (h : EvsRaw w a g.evs) (h2 : EvsRaw w p g.pk) (hs0 : SlsRaw w s ls) (hE : ∃ E, LE E w) :
    Calls Tryz.prog 3 #[.agg #[.int .i64 g.room, .slice a g.evs.length cap, .slice p g.pk.length cp], .slice s ls.length cs] w fun e w' => e = .returned (.bool true) ∧ Below w.heap.size w w' := by
  obtain ⟨E, hE⟩ := hE
  have HLE : Hid (∀ W, Below w.heap.size w W → LE E W) := fun W hW => hE.kept hW
  have HB0 : Hid (∀ o, Below w.heap.size w (w.alloc o)) := fun o => (Below.refl _ _).alloc (Nat.le_refl _) o
  have HR : Hid (∀ w', Below w.heap.size w w' → EvsRaw w' a g.evs ∧ EvsRaw w' p g.pk ∧ SlsRaw w' s ls) := fun w' hb => ⟨h.kept hb, h2.kept hb, hs0.kept hb⟩
  by_cases hs : ((wt g.evs + wt g.pk : Nat) : Int) ≤ 1048576
  · have HE : Hid (∀ w', Below w.heap.size w w' → EvsAt w' a g.evs ∧ EvsAt w' p g.pk) := fun w' hb => ⟨(h.kept hb).at (by omega), (h2.kept hb).at (by omega)⟩
    have HSW : Hid (wt g.evs + wt g.pk ≤ 1048576) := by unfold Hid; omega
    have HS : Hid (szB (wt g.evs + wt g.pk) 1048576 = 1048576 - (wt g.evs + wt g.pk : Nat)) := szB_yes hs
    obtain ⟨L, HL⟩ : ∃ L : Int, Hid (L = szB (wt g.evs + wt g.pk) 1048576) := ⟨szB (wt g.evs + wt g.pk) 1048576, (rfl : (szB (wt g.evs + wt g.pk) 1048576 : Int) = _)⟩
    have hL : 0 ≤ L := by rw [HL.out, HS.out]; omega
    have hL2 : L ≤ 1048576 := by rw [HL.out, HS.out]; omega
    clear h h2 hs hs0 hE
    go_enter Tryz.func3, Tryz.ntmps3
    go_wp2_with fail
    refine (sz_graph g a cap p cp 1048576 _ (HR.out _ (HB0.out _)).1 (HR.out _ (HB0.out _)).2.1 (by omega) (by omega)).mono ?_
    rintro e w1 ⟨rfl, hb1⟩
    rw [← HL.out]
    obtain ⟨hc1, hf1⟩ := bcell hb1
    have hz1 : w.heap.size < w1.heap.size := by have := hb1.size; simp at this; omega
    have e1 : Hid (w1.heap[w.heap.size]? = some (.cells #[.int .i64 g.room, .slice a g.evs.length cap, .slice p g.pk.length cp] 24 (0, 0))) := (hb1.block _ (by simp)).trans (MapKept.heap_alloc w _).1
    have HW1 : Hid (Below w.heap.size w w1) := (HB0.out _).trans (hb1.mono (by simp))
    clear hb1
    go_wp2_with fail
    refine (sz_SS ls s cs L w1 (HR.out _ HW1.out).2.2 hL hL2).mono ?_
    rintro e wz ⟨rfl, rfl⟩
    by_cases hs2 : (wSS ls : Int) ≤ L
    · have HS2 : Hid (szN (wSS ls) L = L - wSS ls) := szN_yes hs2
      obtain ⟨M, HM⟩ : ∃ M : Int, Hid (M = szN (wSS ls) L) := ⟨szN (wSS ls) L, (rfl : (szN (wSS ls) L : Int) = _)⟩
      have hM : 0 ≤ M := by rw [HM.out, HS2.out]; omega
      rw [← HM.out]
      have hwss : wSS ls ≤ 1048576 := by omega
      have hlss : ls.length ≤ 1048576 := by have e : wSS ls = ls.length + sumT ls ls.length := rfl; omega
      have HX : Hid (∀ w', Below w.heap.size w w' → SlsAt w' s ls) := fun w' hb => (HR.out _ hb).2.2.at hwss
      go_wp2_with fail
      refine (to_graph g a cap p cp _ (HE.out _ HW1.out).1 (HE.out _ HW1.out).2).mono ?_
      rintro e w2 ⟨g2, a2, p2, rfl, hn2⟩
      have hz2 : w.heap.size < w2.heap.size := Nat.lt_of_lt_of_le hz1 hn2.evs.below.size
      have e2 : Hid (w2.heap[w.heap.size]? = some (.cells #[.int .i64 g.room, .slice a g.evs.length cap, .slice p g.pk.length cp] 24 (0, 0))) := (hn2.evs.below.block _ hz1).trans e1.out
      have HW2 : Hid (Below w.heap.size w w2) := HW1.out.trans (hn2.evs.below.mono HW1.out.size)
      have HN2 : Hid (GrNew w1 g g2 a2 p2 w2) := hn2
      clear hn2 hc1 hf1
      go_wp2_with fail
      refine (to_SS ls s cs w2 (HX.out _ HW2.out)).mono ?_
      rintro e w3 ⟨m3, rfl, hn3⟩
      have HB23 : Hid (Below w2.heap.size w2 w3) := hn3.ti.below
      have HW3 : Hid (Below w.heap.size w w3) := HW2.out.trans (HB23.out.mono HW2.out.size)
      have HSP : ∀ W, w3 = W → Calls Tryz.prog 11 #[.agg #[.int .i64 g.room, .slice a2 g.evs.length g.evs.length, .slice p2 g.pk.length g.pk.length], .slice (some ⟨w2.heap.size, 0, none⟩) ls.length ls.length] W (RowAns W g2 (rowsOf ls)) := fun W e => by
        subst e
        have := resolveS_spec g2 m3 a2 g.evs.length p2 g.pk.length (some ⟨w2.heap.size, 0, none⟩) ls.length w3 (HN2.out.evs.row.at.kept HB23.out) (HN2.out.pk.row.at.kept HB23.out) (hn3.at hlss)
        rwa [HN2.out.room, HN2.out.evs.len, HN2.out.pk.len, hn3.len, hn3.rows] at this
      have HSP3 := HSP w3 rfl
      clear HSP hn3
      go_wp2_with fail
      refine HSP3.mono ?_
      clear HSP3
      rintro e w4 ⟨v6, r, rfl, hA6, ho6, hb4⟩
      have HA : Hid (AnsIs g (rowsOf ls) r) := ansIs_same HN2.out.room HN2.out.evs.same HN2.out.pk.same hA6
      have hrl : r.length ≤ 400 := ansIs_len HA.out
      obtain ⟨q6, c6, rfl, -, -, -⟩ := ho6.at (by omega)
      have HW4 : Hid (Below w.heap.size w w4) := HW3.out.trans (hb4.mono HW3.out.size)
      have HO6 : Hid (EnsOwn w4 0 (.slice q6 r.length c6) r ∧ ∀ q, (Value.slice q6 r.length c6).ownBlock = some q → q < w4.heap.size) := ⟨ho6.mono (Nat.zero_le _), fun q hq => (ho6.ltR q hq).2⟩
      have e4 : Hid (w4.heap[w.heap.size]? = some (.cells #[.int .i64 g.room, .slice a g.evs.length cap, .slice p g.pk.length cp] 24 (0, 0))) := (hb4.block _ (Nat.lt_of_lt_of_le hz2 HB23.out.size)).trans ((HB23.out.block _ hz2).trans e2.out)
      have hz4 : w.heap.size < w4.heap.size := (Array.getElem?_eq_some_iff.1 e4.out).1
      have h04 : ∀ k, w4.cell? ⟨w.heap.size, k, none⟩ = _ := fun k => cell_of_heap e4.out
      clear hA6 ho6 hb4 HN2 HB23 HW3 e2 e1 HW2
      go_wp2_with fail
      refine (to_graph g a cap p cp _ (HE.out _ HW4.out).1 (HE.out _ HW4.out).2).mono ?_
      rintro e w5 ⟨g5, a5, p5, rfl, hn5⟩
      have HGN : Hid (GrNew w4 g g5 a5 p5 w5) := hn5
      have hz5 : w4.heap.size ≤ w5.heap.size := hn5.evs.below.size
      have HW5 : Hid (Below w.heap.size w w5) := HW4.out.trans (hn5.evs.below.mono HW4.out.size)
      have HW5A : Hid (∀ o, Below w.heap.size w (w5.alloc o)) := fun o => HW5.out.alloc HW5.out.size o
      clear hn5 h04
      go_wp2_with fail
      refine (to_SS ls s cs _ (HX.out _ (HW5A.out _))).mono ?_
      rintro e w6 ⟨m6, rfl, hn6⟩
      have s5 : (w5.alloc (.cells #[.int .i64 g.room, .slice a5 g.evs.length g.evs.length, .slice p5 g.pk.length g.pk.length] 32)).heap.size = w5.heap.size + 1 := by simp
      obtain ⟨B8, HB8⟩ : ∃ B8, Hid (B8 = w5.heap.size + 1) := ⟨w5.heap.size + 1, (rfl : w5.heap.size + 1 = _)⟩
      rw [s5, ← HB8.out]
      have HB56 : Hid (Below w5.heap.size w5 w6) := ((Below.refl _ _).alloc (Nat.le_refl _) _).trans (hn6.ti.below.mono (by simp))
      have HLR6 : Hid (LR w g a cap p cp r w5.heap.size a5 p5 q6 c6 w6) := by
        have hb5 := HGN.out.evs.below
        exact ⟨(HB56.out.block _ (by omega)).trans ((hb5.block _ hz4).trans e4.out), (hn6.ti.below.block _ (by simp)).trans (MapKept.heap_alloc w5 _).1, (HO6.out.1.kept hb5).kept HB56.out, HW5.out.trans (HB56.out.mono HW5.out.size)⟩
      have HLC6 : Hid (LC ls m6 B8 w6.heap.size w6) := by
        have := LC.of hn6 hlss
        rwa [s5, ← HB8.out] at this
      have HM6 : Hid (rowsOf m6 = rowsOf ls ∧ m6.length = ls.length ∧ m6.Pairwise fun s t => s.a ≠ t.a) := ⟨hn6.rows, hn6.len, hn6.ti.apart⟩
      have hz86 : B8 < w6.heap.size := HLC6.out.lt
      clear hn6 s5 e4 HW5A
      have HIP : Calls Tryz.prog 14 #[.agg #[.int .i64 g.room, .slice a5 g.evs.length g.evs.length, .slice p5 g.pk.length g.pk.length], .slice (some ⟨B8, 0, none⟩) ls.length ls.length] w6 (RowAns w6 g5 (rowsOf ls)) := by
        have := resolveP_impl g5 E m6 a5 g.evs.length p5 g.pk.length (some ⟨B8, 0, none⟩) ls.length w6 (HGN.out.evs.row.at.kept HB56.out) (HGN.out.pk.row.at.kept HB56.out) (HLE.out _ HLR6.out.below) HLC6.out.at_
        rw [HGN.out.room, HGN.out.evs.len, HGN.out.pk.len, HM6.out.2.1, HM6.out.1] at this
        exact this.mono fun _ _ h => RowAns.ofP h
      have h0w6 : ∀ k, w6.cell? ⟨w.heap.size, k, none⟩ = _ := (fun k => cell_of_heap HLR6.out.b0)
      have h5w6 : ∀ k, w6.cell? ⟨w5.heap.size, k, none⟩ = _ := (fun k => cell_of_heap HLR6.out.b5)
      go_wp2_with fail
      refine HIP.mono ?_
      clear HIP
      rintro e w7 ⟨v9, r9, rfl, hA9, ho9, hb7⟩
      obtain rfl : r9 = r := AnsIs.uniq (ansIs_same HGN.out.room HGN.out.evs.same HGN.out.pk.same hA9) HA.out
      obtain ⟨q9, c9, rfl, -, -, -⟩ := ho9.at (by omega)
      have HLR7 : Hid (LR w g a cap p cp r9 w5.heap.size a5 p5 q6 c6 w7) := HLR6.out.on hb7
      have HLC7 : Hid (LC ls m6 B8 w6.heap.size w7) := HLC6.out.on hb7
      have HO7 : Hid (EnsOwn w7 w6.heap.size (.slice q9 r9.length c9) r9) := ho9
      have HB57 : Hid (Below w5.heap.size w5 w7) := HB56.out.trans (hb7.mono HB56.out.size)
      have hz67 : w6.heap.size ≤ w7.heap.size := hb7.size
      clear hA9 ho9 hb7 h0w6 h5w6 HLR6 HLC6 HB56
      go_wp2_with fail
      refine (eq_entries r9 q9 q6 c9 c6 w7 (HO7.out.ensAtR (by omega)) (HLR7.out.o6.ensAtR (by omega))).mono ?_
      rintro e w8 ⟨rfl, hb8⟩
      have HLR8 : Hid (LR w g a cap p cp r9 w5.heap.size a5 p5 q6 c6 w8) := HLR7.out.on hb8
      have HLC8 : Hid (LC ls m6 B8 w6.heap.size w8) := HLC7.out.on hb8
      have HO8 : Hid (EnsOwn w8 w6.heap.size (.slice q9 r9.length c9) r9) := HO7.out.kept hb8
      have HB58 : Hid (Below w5.heap.size w5 w8) := HB57.out.trans (hb8.mono HB57.out.size)
      have hz58 : w5.heap.size < w8.heap.size := (Array.getElem?_eq_some_iff.1 HLR8.out.b5).1
      have hz08 : w.heap.size < w8.heap.size := by omega
      have hz68 : w6.heap.size ≤ w8.heap.size := Nat.le_trans hz67 hb8.size
      have h0w8 : ∀ k, w8.cell? ⟨w.heap.size, k, none⟩ = _ := (fun k => cell_of_heap HLR8.out.b0)
      have h5w8 : ∀ k, w8.cell? ⟨w5.heap.size, k, none⟩ = _ := (fun k => cell_of_heap HLR8.out.b5)
      clear hb8 HLR7 HLC7 HO7 HB57 hz67
      go_wp2_with fail
      go_cut [44] (fun r wx => r = .bool false ∧ Below w8.heap.size w8 wx)
      case first =>
        first
          | (go_region_with (first
              | (go_at_call 12; refine (to_graph g a cap p cp _ (HE.out _ HLR8.out.below.drew).1 (HE.out _ HLR8.out.below.drew).2).mono ?_; rintro e x7 ⟨g7, a7, p7, rfl, hn7⟩; have hc7 : ∀ b o, b < w8.heap.size → x7.cell? ⟨b, o, none⟩ = w8.cell? ⟨b, o, none⟩ := (bcell hn7.evs.below).1; have HW7 : Hid (Below w8.heap.size w8 x7) := (Below.drew (Below.refl _ _)).trans hn7.evs.below; have HY7 : Hid (Below w5.heap.size w5 x7) := HB58.out.trans (HW7.out.mono (Nat.le_of_lt hz58)); have HQ7 := eq_graph g5 g7 a5 p5 a7 p7 g.evs.length g.pk.length g.evs.length g.pk.length x7 (HGN.out.evs.row.at.kept HY7.out) (HGN.out.pk.row.at.kept HY7.out) hn7.evs.row.at hn7.pk.row.at (HGN.out.evs.same.trans hn7.evs.same.symm) (HGN.out.pk.same.trans hn7.pk.same.symm); rw [HGN.out.room, HGN.out.evs.len, HGN.out.pk.len] at HQ7)
              | (go_at_call 16; refine HQ7.mono ?_; rintro e x8 ⟨rfl, hy8⟩; have HW8 : Hid (Below w8.heap.size w8 x8) := HW7.out.trans (hy8.mono HW7.out.size))))
          | fail
        all_goals go_wp2_with fail
        all_goals go_meet
        all_goals exact ⟨rfl, HW8.out⟩
      case rest =>
      obtain ⟨rfl, hb9⟩ := hcut
      have HLR9 : Hid (LR w g a cap p cp r9 w5.heap.size a5 p5 q6 c6 wc) := HLR8.out.on hb9
      have HLC9 : Hid (LC ls m6 B8 w6.heap.size wc) := HLC8.out.on hb9
      have HO9 : Hid (EnsOwn wc w6.heap.size (.slice q9 r9.length c9) r9) := HO8.out.kept hb9
      have HB59 : Hid (Below w5.heap.size w5 wc) := HB58.out.trans (hb9.mono (Nat.le_of_lt hz58))
      have hz69 : w6.heap.size ≤ wc.heap.size := Nat.le_trans hz68 hb9.size
      clear hb9 h0w8 h5w8 HLR8 HLC8 HO8 HB58 hz08 hz58 hz68
      go_wp2_with fail
      refine (to_SS ls s cs wc (HX.out _ HLR9.out.below)).mono ?_
      rintro e w10 ⟨m10, rfl, hn10⟩
      have HLR10 : Hid (LR w g a cap p cp r9 w5.heap.size a5 p5 q6 c6 w10) := HLR9.out.on hn10.ti.below
      have HLC10 : Hid (LC ls m6 B8 w6.heap.size w10) := HLC9.out.on hn10.ti.below
      have HO10 : Hid (EnsOwn w10 w6.heap.size (.slice q9 r9.length c9) r9) := HO9.out.kept hn10.ti.below
      have HB510 : Hid (Below w5.heap.size w5 w10) := HB59.out.trans (hn10.ti.below.mono HB59.out.size)
      have HEQ := eq_SS m6 m10 (some ⟨B8, 0, none⟩) (some ⟨wc.heap.size, 0, none⟩) ls.length ls.length w10 HLC10.out.at_ (hn10.at hlss) (HM6.out.1.trans hn10.rows.symm)
      rw [HM6.out.2.1, hn10.len] at HEQ
      have hz610 : w6.heap.size ≤ w10.heap.size := Nat.le_trans hz69 hn10.ti.below.size
      clear hn10 HLR9 HLC9 HO9 HB59 hz69
      go_wp2_with fail
      refine HEQ.mono ?_
      clear HEQ
      rintro e w11 ⟨rfl, hb11⟩
      have HLR11 : Hid (LR w g a cap p cp r9 w5.heap.size a5 p5 q6 c6 w11) := HLR10.out.on hb11
      have HLC11 : Hid (LC ls m6 B8 w6.heap.size w11) := HLC10.out.on hb11
      have HO11 : Hid (EnsOwn w11 w6.heap.size (.slice q9 r9.length c9) r9) := HO10.out.kept hb11
      have HB511 : Hid (Below w5.heap.size w5 w11) := HB510.out.trans (hb11.mono HB510.out.size)
      have hz611 : w6.heap.size ≤ w11.heap.size := Nat.le_trans hz610 hb11.size
      have HMK := mark_graphB w4 w5 w11 g g5 a5 p5 g.evs.length g.pk.length g.room HGN.out HB511.out (by rw [wt_same HGN.out.evs.same, wt_same HGN.out.pk.same]; exact HSW.out)
      rw [HGN.out.evs.len, HGN.out.pk.len] at HMK
      clear hb11 HLR10 HLC10 HO10 HB510 hz610
      have h5w11 : ∀ k, w11.cell? ⟨w5.heap.size, k, none⟩ = _ := (fun k => cell_of_heap HLR11.out.b5)
      go_wp2_with fail
      refine HMK.mono ?_
      clear HMK
      rintro e w12 ⟨K, rfl, hK0, hK1, hw12⟩
      have hB8 := HB8.out
      have HLR12 : Hid (LR w g a cap p cp r9 w5.heap.size a5 p5 q6 c6 w12) := HLR11.out.far hw12 hz4 (Nat.le_refl _) (fun q hq => ⟨HO6.out.2 q hq, by have := HO6.out.2 q hq; omega⟩)
      have HFAR : Hid ((∀ i (h : i < m6.length), w12.cell? ⟨B8, i, none⟩ = some (.slice m6[i].a m6[i].xs.length m6[i].c)) ∧ ∀ s ∈ m6, ∃ b, s.a = some ⟨b, 0, none⟩ ∧ B8 < b ∧ b < w6.heap.size ∧ Spot w12 s.a s.xs.length) := HLC11.out.far hw12 (by omega)
      have HO12 : Hid (EnsOwn w12 w6.heap.size (.slice q9 r9.length c9) r9) := own_blk HO11.out fun q hq => hw12.block q (HO11.out.ltR q hq).2 (.inr (by have := (HO11.out.ltR q hq).1; omega))
      have hz612 : w6.heap.size ≤ w12.heap.size := Nat.le_trans hz611 hw12.size
      have HMS := mark_SS m6 B8 w6.heap.size ls.length K ⟨by omega, by omega⟩ w12 (by have e : wSS m6 = wSS ls := (wSS_same HM6.out.1); rw [e]; exact hwss) HFAR.out.1 HFAR.out.2 HM6.out.2.2
      rw [HM6.out.2.1] at HMS
      clear hw12 h5w11 HLR11 HLC11 HO11 HB511 hz611 hB8
      go_wp2_with fail
      refine HMS.mono ?_
      clear HMS
      rintro e w13 ⟨K2, rfl, hK2, hK3, hw13⟩
      have HLR13 : Hid (LR w g a cap p cp r9 w5.heap.size a5 p5 q6 c6 w13) := HLR12.out.ws hw13 (by have := HB8.out; omega) (by have := HB8.out; omega) (fun q hq => by have := HB8.out; have := HO6.out.2 q hq; omega)
      have HO13 : Hid (EnsOwn w13 w6.heap.size (.slice q9 r9.length c9) r9) := own_blk HO12.out fun q hq => hw13.block q (.inr (HO12.out.ltR q hq).1)
      clear hw13 HFAR HLR12 HO12 hz612
      go_wp2_with fail
      refine (eq_entries r9 q9 q6 c9 c6 w13 (HO13.out.ensAtR (by omega)) (HLR13.out.o6.ensAtR (by omega))).mono ?_
      rintro e w14 ⟨rfl, hb14⟩
      have HLR14 : Hid (LR w g a cap p cp r9 w5.heap.size a5 p5 q6 c6 w14) := HLR13.out.on hb14
      have HO14 : Hid (EnsOwn w14 w6.heap.size (.slice q9 r9.length c9) r9) := HO13.out.kept hb14
      clear hb14 HLR13 HO13
      go_wp2_with fail
      refine (mark_ens r9.length q9 c9 1 ⟨by omega, by omega⟩ (by omega) w14 (HO14.out.spot rfl)).mono ?_
      rintro e w15 ⟨rfl, hm15⟩
      obtain ⟨J, HJ⟩ : ∃ J : Int, Hid (J = 1 + (r9.length : Int) * 3) := ⟨1 + (r9.length : Int) * 3, (rfl : 1 + (r9.length : Int) * 3 = _)⟩
      have hJ0 : 0 ≤ J := by rw [HJ.out]; omega
      have H15 : Hid (LR w g a cap p cp r9 w5.heap.size a5 p5 q6 c6 w15 ∧ Marks w15 q9 r9.length 1) := by
        refine ⟨?_, hm15.marks⟩
        rcases hm15 with ⟨_, rfl⟩ | ⟨b, hab, hon, hb, _⟩
        · exact HLR14.out
        · have h1 := (HO14.out.ltR b (by rw [hab]; rfl)).1
          have h9 := HB8.out
          exact HLR14.out.only hon (by omega) (by omega) (fun q hq => by have := HO6.out.2 q hq; omega)
      rw [← HJ.out]
      clear hm15 HLR14 HO14
      have h0w15 : ∀ k, w15.cell? ⟨w.heap.size, k, none⟩ = _ := (fun k => cell_of_heap H15.out.1.b0)
      go_wp2_with fail
      refine (held_ens r9.length q9 c9 1 ⟨by omega, by omega⟩ (by omega) w15 H15.out.2).mono ?_
      rintro e wz ⟨rfl, rfl⟩
      rw [← HJ.out]
      go_wp2_with fail
      refine (to_graph g a cap p cp _ (HE.out _ H15.out.1.below).1 (HE.out _ H15.out.1.below).2).mono ?_
      rintro e w16 ⟨g16, a16, p16, rfl, hn16⟩
      have H16 : Hid (LR w g a cap p cp r9 w5.heap.size a5 p5 q6 c6 w16 ∧ Marks w16 q9 r9.length 1) := ⟨H15.out.1.on hn16.evs.below, H15.out.2.kept hn16.evs.below⟩
      have HN16 : Hid (GrNew w15 g g16 a16 p16 w16) := hn16
      clear hn16 H15 h0w15
      go_wp2_with fail
      refine (to_SS ls s cs w16 (HX.out _ H16.out.1.below)).mono ?_
      rintro e w17 ⟨m17, rfl, hn17⟩
      have H17 : Hid (LR w g a cap p cp r9 w5.heap.size a5 p5 q6 c6 w17 ∧ Marks w17 q9 r9.length 1) := ⟨H16.out.1.on hn17.ti.below, H16.out.2.kept hn17.ti.below⟩
      have HIP2 : Calls Tryz.prog 14 #[.agg #[.int .i64 g.room, .slice a16 g.evs.length g.evs.length, .slice p16 g.pk.length g.pk.length], .slice (some ⟨w16.heap.size, 0, none⟩) ls.length ls.length] w17 (RowAns w17 g16 (rowsOf ls)) := by
        have := resolveP_impl g16 E m17 a16 g.evs.length p16 g.pk.length (some ⟨w16.heap.size, 0, none⟩) ls.length w17 (HN16.out.evs.row.at.kept hn17.ti.below) (HN16.out.pk.row.at.kept hn17.ti.below) (HLE.out _ H17.out.1.below) (hn17.at hlss)
        rw [HN16.out.room, HN16.out.evs.len, HN16.out.pk.len, hn17.len, hn17.rows] at this
        exact this.mono fun _ _ h => RowAns.ofP h
      clear hn17 H16
      go_wp2_with fail
      refine HIP2.mono ?_
      clear HIP2
      rintro e w18 ⟨v13, r13, rfl, hA13, ho13, hb18⟩
      obtain rfl : r13 = r9 := AnsIs.uniq (ansIs_same HN16.out.room HN16.out.evs.same HN16.out.pk.same hA13) HA.out
      obtain ⟨q13, c13, rfl, -, -, -⟩ := ho13.at (by omega)
      have H18 : Hid (LR w g a cap p cp r13 w5.heap.size a5 p5 q6 c6 w18 ∧ Marks w18 q9 r13.length 1 ∧ EnsAt w18 q13 r13) := ⟨H17.out.1.on hb18, H17.out.2.kept hb18, ho13.ensAtR (by omega)⟩
      clear hA13 ho13 hb18 H17 HN16
      go_wp2_with fail
      refine (eq_entries r13 q13 q6 c13 c6 w18 H18.out.2.2 (H18.out.1.o6.ensAtR (by omega))).mono ?_
      rintro e w19 ⟨rfl, hb19⟩
      have H19 : Hid (LR w g a cap p cp r13 w5.heap.size a5 p5 q6 c6 w19 ∧ Marks w19 q9 r13.length 1) := ⟨H18.out.1.on hb19, H18.out.2.1.kept hb19⟩
      clear hb19 H18
      go_wp2_with fail
      refine (held_ens r13.length q9 c9 1 ⟨by omega, by omega⟩ (by omega) w19 H19.out.2).mono ?_
      rintro e wz ⟨rfl, rfl⟩
      rw [← HJ.out]
      go_wp2
      go_ret
      exact ⟨rfl, H19.out.1.below⟩
    · have HS2 : Hid (szN (wSS ls) L = -1) := szN_no hs2
      rw [HS2.out]
      go_wp2
      go_ret
      exact ⟨rfl, HW1.out⟩
  · have HS : Hid (szB (wt g.evs + wt g.pk) 1048576 = -1) := szB_no hs
    clear h h2 hs hs0 hE
    go_enter Tryz.func3, Tryz.ntmps3
    go_wp2_with fail
    refine (sz_graph g a cap p cp 1048576 _ (HR.out _ (HB0.out _)).1 (HR.out _ (HB0.out _)).2.1 (by omega) (by omega)).mono ?_
    rintro e w1 ⟨rfl, hb1⟩
    rw [HS.out]
    have HW1 : Hid (Below w.heap.size w w1) := (HB0.out _).trans (hb1.mono (by simp))
    clear hb1
    go_wp2
    go_ret
    exact ⟨rfl, HW1.out⟩
end Go.Proofs.YteajcmkaoahbeaaGreatDoor
