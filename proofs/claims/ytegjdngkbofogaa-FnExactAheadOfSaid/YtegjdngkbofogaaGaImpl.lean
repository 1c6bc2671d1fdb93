/- The program's function that finds all that stands ahead, and calls itself. -/
import Derived.Test.YtegjdngkbofogaaGaSpec
import Derived.Test.YtegjdngkbofogaaGrReckon
namespace Go.Proofs.Ytegjdngkbofogaa
open Go.RowKit

/-- A map of Ids alone, by its puts. -/
def putU : List Int → DataW Value
  | [] => .map []
  | k :: l => (putU l).put (.int .i64 k) (.held (.agg #[]))
theorem putU_isMap : ∀ l, Maps.IsMap (putU l)
  | [] => ⟨[], rfl⟩
  | k :: l => by
    obtain ⟨xs, h⟩ := putU_isMap l
    unfold putU
    rw [h]
    exact ⟨_, rfl⟩
theorem has_putU : ∀ (l : List Int) (id : Int), Maps.has (putU l) (.int .i64 id) = decide (id ∈ l)
  | [], id => by simp [putU, Maps.has_eq]
  | k :: l, id => by
    unfold putU
    by_cases e : k = id
    · subst e
      rw [Maps.has_put_same (putU_isMap l) (by trivial)]
      simp
    · rw [Maps.has_put_other (lit_ne fun h => e h.symm), has_putU l id]
      have : ¬ id = k := fun h => e h.symm
      simp [this]
theorem at_putU : ∀ (l : List Int) (id : Int), (putU l).atKey (.int .i64 id) (.held (.agg #[])) = .held (.agg #[])
  | [], _ => rfl
  | k :: l, id => by
    unfold putU
    by_cases e : k = id
    · subst e
      exact Maps.atKey_put_same (putU_isMap l) (by trivial) _ _
    · exact (Maps.atKey_put_other (lit_ne fun h => e h.symm) _ _).trans (at_putU l id)
theorem zero_unit (w : World) : (zeroValue 94).run Try.prog w = .ok (.agg #[]) w := by kernel_rfl
theorem look_U {w : World} {b n : Nat} {l : List Int} (h : w.ownsMap Try.prog 2 heldR b n (putU l)) {id : Int} (hid : -9223372036854775808 ≤ id ∧ id ≤ 9223372036854775807) :
    (Instr.lookup 96 (.map (some b)) (.int .i64 id) true).run Try.prog w = .ok (.tuple #[.agg #[], .bool (decide (id ∈ l))]) w := by
  obtain ⟨v, ps, hrun, hv⟩ := h.look_ok (Maps.int_keyed (P := Try.prog) Try.underlying2) Try.underlying96 (zero_unit w) (zd := .held (.agg #[])) (zp := []) rfl (Maps.keyOf_int_mk Try.underlying2 (WalkArith.wf_i64 hid))
  rw [has_putU] at hrun
  rw [at_putU] at hv
  have hvz : v = .agg #[] := by
    simp only [heldR, Option.some.injEq, Prod.mk.injEq, DataW.held.injEq] at hv
    exact hv.1
  rw [hrun, hvz]
def wkFn (Bs Bf Bw : Nat) : Value := .func (.func 96) #[] #[.pointer (some ⟨Bs, 0, none⟩), .pointer (some ⟨Bf, 0, none⟩), .pointer (some ⟨Bw, 0, none⟩)]
/-- The three variables of the function, and what is found. -/
structure WkAt (w0 : World) (be bp bt Bs Bf Bw : Nat) (l : List Int) (W : World) : Prop where
  below : Below w0.heap.size w0 W
  sv : W.heap[Bs]? = some (.cells #[.map (some be), .map (some bp)] 99 (0, 0))
  fv : W.heap[Bf]? = some (.cells #[.map (some bt)] 96 (0, 0))
  wv : W.heap[Bw]? = some (.cells #[wkFn Bs Bf Bw] 147 (0, 0))
  tab : W.ownsMap Try.prog 2 heldR bt l.length (putU l)
  base : w0.heap.size ≤ bt
theorem WkAt.step {w0 : World} {be bp bt Bs Bf Bw : Nat} {l l' : List Int} {W W' : World} (h : WkAt w0 be bp bt Bs Bf Bw l W) (hg : W.grownBy W' (some bt)) (ht : W'.ownsMap Try.prog 2 heldR bt l'.length (putU l')) : WkAt w0 be bp bt Bs Bf Bw l' W' := by
  have key : ∀ {g : Nat} {C : Array Value} {t : TypeId} {fr : Nat × Nat}, W.heap[g]? = some (.cells C t fr) → W'.heap[g]? = some (.cells C t fr) := fun {g C t fr} hc => by
    have h1 := map_ne_cells h.tab hc
    rw [hg.block g (Array.getElem?_eq_some_iff.1 hc).1 (fun e => h1 (by cases e; rfl))]
    exact hc
  exact ⟨h.below.grown hg h.below.size (fun k e => by cases e; exact h.base), key h.sv, key h.fv, key h.wv, ht, h.base⟩
/-- What a call at an Id comes to. -/
def WkCall (evs : List Em) (be bp bt Bs Bf Bw : Nat) (w0 : World) (id : Int) (l : List Int) : Prop := ∀ W, id ∈ idsOf evs → (∀ x ∈ l, x ∈ idsOf evs) → l.length + lacks (idsOf evs) l ≤ 1000 → WkAt w0 be bp bt Bs Bf Bw l W →
    Calls Try.prog 96 #[.int .i64 id, .pointer (some ⟨Bs, 0, none⟩), .pointer (some ⟨Bf, 0, none⟩), .pointer (some ⟨Bw, 0, none⟩)] W fun e W' => ∃ l', e = .returned (.tuple #[]) ∧ WLeft (pvOf evs) (idsOf evs) id l l' ∧ W.grownBy W' (some bt) ∧ W'.ownsMap Try.prog 2 heldR bt l'.length (putU l')
set_option maxHeartbeats 2000000 in
set_option maxRecDepth 100000 in
theorem walk_body (evs : List Em) (be ne bp bt Bs Bf Bw : Nat) (w0 : World) (hin : RkIn w0 evs be ne) (id : Int) (l : List Int) (ih : ∀ id' l', lacks (idsOf evs) l' < lacks (idsOf evs) l → WkCall evs be bp bt Bs Bf Bw w0 id' l') : WkCall evs be bp bt Bs Bf Bw w0 id l := by
  intro W hid hd hlen h
  have HIN : Hid (RkIn w0 evs be ne) := hin
  have K := Maps.int_keyed (P := Try.prog) Try.underlying2
  obtain ⟨m, hm, rfl, hpv⟩ := mem_of_pv hid HIN.out.dup
  have hii := HIN.out.idin m hm
  have hlk := look_ev1 (ownsMap_below HIN.out.map h.below) HIN.out.dup hm hii
  unfold emVal emCells at hlk
  have hs0 : W.cell? ⟨Bs, 0, none⟩ = some (.map (some be)) := cell_of_heap h.sv
  have hfd : (Instr.field 27 (.agg #[.int .i64 m.v.id, .int .i64 m.v.room, .int .i64 m.v.author, .int .i64 m.v.kind, .int .i64 m.v.key, .int .i64 m.v.n, .string m.v.text, .slice m.p m.v.prev.length m.c, .int .i64 m.v.time]) 7).run Try.prog W = .ok (.slice m.p m.v.prev.length m.c) W := (by kernel_rfl)
  have hlp := (HIN.out.nums m hm).1
  have HPV : Hid (pvOf evs m.v.id = some m.v.prev) := hpv
  have HST : Hid (WMid (pvOf evs) (idsOf evs) m.v.id m.v.prev 0 l l ∧ WkAt w0 be bp bt Bs Bf Bw l W ∧ W.grownBy W (some bt)) := ⟨WMid.start hd, h, World.grownBy.refl _ _⟩
  have HIH : Hid (∀ id' l', lacks (idsOf evs) l' < lacks (idsOf evs) l → WkCall evs be bp bt Bs Bf Bw w0 id' l') := ih
  have HLN : Hid (l.length + lacks (idsOf evs) l ≤ 1000) := hlen
  clear h hpv hd hlen ih hin hid
  go_enter Try.func96, Try.ntmps96
  go_wp2
  go_loopw [6, 7, 8, 15] (fun _ _ _ i wr => ∃ (j : Nat) (lj : List Int), j ≤ m.v.prev.length ∧ i = .int .i64 j ∧ Hid (WMid (pvOf evs) (idsOf evs) m.v.id m.v.prev j l lj ∧ WkAt w0 be bp bt Bs Bf Bw lj wr ∧ W.grownBy wr (some bt))) (fun _ _ _ i _ => m.v.prev.length - (intOf i).toNat)
  case atStart => exact ⟨0, l, Nat.zero_le _, rfl, HST⟩
  case round =>
    clear HST hlk hfd hs0
    obtain ⟨j, lj, hj, rfl, HM⟩ := hrel
    have hf : wr.cell? ⟨Bf, 0, none⟩ = some (.map (some bt)) := cell_of_heap HM.out.2.1.fv
    by_cases hlt : j < m.v.prev.length
    · obtain ⟨b, off, hpp, hbb, hcell⟩ := ((HIN.out.nums m hm).kept HM.out.2.1.below).2 (by omega)
      have hck := hcell j hlt
      have HPI : Hid (m.v.prev[j] ∈ idsOf evs) := HIN.out.prevs m hm _ (List.getElem_mem hlt)
      have hpb : 1 ≤ m.v.prev[j] ∧ m.v.prev[j] ≤ 1000000 := by
        obtain ⟨m', hm', he⟩ := List.mem_map.1 HPI.out
        rw [← he]
        exact HIN.out.idin m' hm'
      have hrun := look_U HM.out.2.1.tab (id := m.v.prev[j]) ⟨by omega, by omega⟩
      have HBA : Hid (∀ o, WkAt w0 be bp bt Bs Bf Bw lj (wr.alloc o) ∧ W.grownBy (wr.alloc o) (some bt)) := fun o => by
        have hg : wr.grownBy (wr.alloc o) (some bt) := World.grownBy_alloc _ _ _
        exact ⟨HM.out.2.1.step hg (HM.out.2.1.tab.alloc o), HM.out.2.2.andThen hg (fun _ h => .inr h)⟩
      have hzf : Bf < wr.heap.size := (Array.getElem?_eq_some_iff.1 HM.out.2.1.fv).1
      have hnf : ¬ Bf = wr.heap.size := by omega
      rw [hpp]
      clear hcell hpp
      by_cases hmem : m.v.prev[j] ∈ lj
      · rw [decide_eq_true hmem] at hrun
        have HN : Hid (WMid (pvOf evs) (idsOf evs) m.v.id m.v.prev (j + 1) l lj) := HM.out.1.skip hlt hmem
        clear hmem
        go_wp2
        go_roundw
        case rel => exact ⟨j + 1, lj, by omega, by go_num, HN.out, (HBA.out _).1, (HBA.out _).2⟩
        case measure => simp [intOf]; omega
      · rw [decide_eq_false hmem] at hrun
        have HNM : Hid (m.v.prev[j] ∉ lj) := hmem
        have HK : Hid (keyOf Try.prog 2 (.int .i64 m.v.prev[j]) = some (.int .i64 m.v.prev[j])) := Maps.keyOf_int_mk Try.underlying2 (WalkArith.wf_i64 ⟨by omega, by omega⟩)
        have HRM : Hid (lj.length < maxLen) := by have h1 := HM.out.1.cost; have h2 := HLN.out; unfold Hid maxLen; omega
        have HLS : Hid (lacks (idsOf evs) (m.v.prev[j] :: lj) < lacks (idsOf evs) l ∧ (m.v.prev[j] :: lj).length + lacks (idsOf evs) (m.v.prev[j] :: lj) ≤ 1000) := by
          have h1 := lacks_lt HPI.out HNM.out
          have h2 := lacks_le (ids := idsOf evs) HM.out.1.old
          have h3 := HM.out.1.cost
          have h4 := HLN.out
          exact ⟨by omega, by simp only [List.length_cons]; omega⟩
        have HDM : Hid (∀ x ∈ m.v.prev[j] :: lj, x ∈ idsOf evs) := fun x hx => by
          rcases List.mem_cons.1 hx with rfl | hx
          · exact HPI.out
          · exact HM.out.1.dom x hx
        clear hmem
        go_wp2_with (first
          | (at_mapUpdate; refine wpList_mapUpdate_own _ rfl _ _ _ 96 rfl 2 94 K Try.underlying96 heldR bt lj.length (putU lj) rfl ((HBA.out _).1.tab) HRM.out _ _ _ rfl rfl HK.out _ [] rfl ?_; intro w2 hown2 hgrow2; have HM2 : Hid (WkAt w0 be bp bt Bs Bf Bw (m.v.prev[j] :: lj) w2 ∧ W.grownBy w2 (some bt)) := ⟨(HBA.out _).1.step hgrow2 hown2, (HBA.out _).2.andThen hgrow2 (fun _ h => .inr h)⟩; have hwv : w2.cell? ⟨Bw, 0, none⟩ = some (wkFn Bs Bf Bw) := cell_of_heap HM2.out.1.wv; unfold wkFn at hwv; clear hown2 hgrow2)
          | (go_at_call 96; refine (HIH.out m.v.prev[j] (m.v.prev[j] :: lj) HLS.out.1 _ HPI.out HDM.out HLS.out.2 HM2.out.1).mono ?_; rintro e w3 ⟨l3, rfl, hleft, hg3, hown3⟩; have HM3 : Hid (WMid (pvOf evs) (idsOf evs) m.v.id m.v.prev (j + 1) l l3 ∧ WkAt w0 be bp bt Bs Bf Bw l3 w3 ∧ W.grownBy w3 (some bt)) := ⟨HM.out.1.next HPV.out hlt HPI.out HNM.out hleft, HM2.out.1.step hg3 hown3, HM2.out.2.andThen hg3 (fun _ h => .inr h)⟩; clear hleft hg3 hown3))
        go_roundw
        case rel => exact ⟨j + 1, l3, by omega, by go_num, HM3.out⟩
        case measure => simp [intOf]; omega
    · have HE : Hid (WLeft (pvOf evs) (idsOf evs) m.v.id l lj) := by
        have e : j = m.v.prev.length := by omega
        have h1 := HM.out.1
        rw [e] at h1
        exact h1.end HPV.out
      go_wp2
      go_end0
      exact ⟨lj, rfl, HE.out, HM.out.2.2, HM.out.2.1.tab⟩
theorem walk_all (evs : List Em) (be ne bp bt Bs Bf Bw : Nat) (w0 : World) (hin : RkIn w0 evs be ne) (k : Nat) : ∀ id l, lacks (idsOf evs) l ≤ k → WkCall evs be bp bt Bs Bf Bw w0 id l := by
  induction k with
  | zero => exact fun id l hk => walk_body evs be ne bp bt Bs Bf Bw w0 hin id l (fun id' l' h => absurd h (by omega))
  | succ k ih => exact fun id l hk => walk_body evs be ne bp bt Bs Bf Bw w0 hin id l (fun id' l' h => ih id' l' (by omega))
end Go.Proofs.Ytegjdngkbofogaa
