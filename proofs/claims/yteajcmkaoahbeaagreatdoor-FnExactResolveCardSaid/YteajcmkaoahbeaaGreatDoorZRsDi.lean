/- The program's function that finds all that stands ahead, and calls itself. The Ids that not all of several states have: the program's disputed. -/
import Derived.Test.YteajcmkaoahbeaaGreatDoorZGaSpec
import Derived.Test.YteajcmkaoahbeaaGreatDoorZGrOnce
import Derived.Test.YteajcmkaoahbeaaGreatDoorZRsAg
namespace Go.Proofs.YteajcmkaoahbeaaGreatDoor
open Go.RowKit

/-- A map of Ids alone, by its puts. -/
def putU : List Int → DataW Value
  | [] => .map []
  | k :: l => (putU l).put (.int .i64 k) (.held (.agg #[]))
theorem putU_isMap : ∀ l, Maps.IsMap (putU l)
  | [] => ⟨[], rfl⟩
  | k :: l => by
    obtain ⟨xs, h⟩ := putU_isMap l
    unfold putU
    rw [h]
    exact ⟨_, rfl⟩
theorem has_putU : ∀ (l : List Int) (id : Int), Maps.has (putU l) (.int .i64 id) = decide (id ∈ l)
  | [], id => by simp [putU, Maps.has_eq]
  | k :: l, id => by
    unfold putU
    by_cases e : k = id
    · subst e
      rw [Maps.has_put_same (putU_isMap l) (by trivial)]
      simp
    · rw [Maps.has_put_other (lit_ne fun h => e h.symm), has_putU l id]
      have : ¬ id = k := fun h => e h.symm
      simp [this]
theorem at_putU : ∀ (l : List Int) (id : Int), (putU l).atKey (.int .i64 id) (.held (.agg #[])) = .held (.agg #[])
  | [], _ => rfl
  | k :: l, id => by
    unfold putU
    by_cases e : k = id
    · subst e
      exact Maps.atKey_put_same (putU_isMap l) (by trivial) _ _
    · exact (Maps.atKey_put_other (lit_ne fun h => e h.symm) _ _).trans (at_putU l id)
theorem zero_unit (w : World) : (zeroValue 85).run Tryz.prog w = .ok (.agg #[]) w := by kernel_rfl
theorem look_U {w : World} {b n : Nat} {l : List Int} (h : w.ownsMap Tryz.prog 2 heldR b n (putU l)) {id : Int} (hid : -9223372036854775808 ≤ id ∧ id ≤ 9223372036854775807) :
    (Instr.lookup 137 (.map (some b)) (.int .i64 id) true).run Tryz.prog w = .ok (.tuple #[.agg #[], .bool (decide (id ∈ l))]) w := by
  obtain ⟨v, ps, hrun, hv⟩ := h.look_ok (Maps.int_keyed (P := Tryz.prog) Tryz.underlying2) Tryz.underlying137 (zero_unit w) (zd := .held (.agg #[])) (zp := []) rfl (Maps.keyOf_int_mk Tryz.underlying2 (WalkArith.wf_i64 hid))
  rw [has_putU] at hrun
  rw [at_putU] at hv
  have hvz : v = .agg #[] := by
    simp only [heldR, Option.some.injEq, Prod.mk.injEq, DataW.held.injEq] at hv
    exact hv.1
  rw [hrun, hvz]
def wkFn (Bs Bf Bw : Nat) : Value := .func (.func 216) #[] #[.pointer (some ⟨Bs, 0, none⟩), .pointer (some ⟨Bf, 0, none⟩), .pointer (some ⟨Bw, 0, none⟩)]
/-- The three variables of the function, and what is found. -/
structure WkAt (w0 : World) (be bp bt Bs Bf Bw : Nat) (l : List Int) (W : World) : Prop where
  below : Below w0.heap.size w0 W
  sv : W.heap[Bs]? = some (.cells #[.map (some be), .map (some bp)] 172 (0, 0))
  fv : W.heap[Bf]? = some (.cells #[.map (some bt)] 137 (0, 0))
  wv : W.heap[Bw]? = some (.cells #[wkFn Bs Bf Bw] 284 (0, 0))
  tab : W.ownsMap Tryz.prog 2 heldR bt l.length (putU l)
  base : w0.heap.size ≤ bt
theorem WkAt.step {w0 : World} {be bp bt Bs Bf Bw : Nat} {l l' : List Int} {W W' : World} (h : WkAt w0 be bp bt Bs Bf Bw l W) (hg : W.grownBy W' (some bt)) (ht : W'.ownsMap Tryz.prog 2 heldR bt l'.length (putU l')) : WkAt w0 be bp bt Bs Bf Bw l' W' := by
  have key : ∀ {g : Nat} {C : Array Value} {t : TypeId} {fr : Nat × Nat}, W.heap[g]? = some (.cells C t fr) → W'.heap[g]? = some (.cells C t fr) := fun {g C t fr} hc => by
    have h1 := map_ne_cells h.tab hc
    rw [hg.block g (Array.getElem?_eq_some_iff.1 hc).1 (fun e => h1 (by cases e; rfl))]
    exact hc
  exact ⟨h.below.grown hg h.below.size (fun k e => by cases e; exact h.base), key h.sv, key h.fv, key h.wv, ht, h.base⟩
/-- What a call at an Id comes to. -/
def WkCall (evs : List Em) (be bp bt Bs Bf Bw : Nat) (w0 : World) (id : Int) (l : List Int) : Prop := ∀ W, id ∈ idsOf evs → (∀ x ∈ l, x ∈ idsOf evs) → l.length + lacks (idsOf evs) l ≤ 1000 → WkAt w0 be bp bt Bs Bf Bw l W →
    Calls Tryz.prog 216 #[.int .i64 id, .pointer (some ⟨Bs, 0, none⟩), .pointer (some ⟨Bf, 0, none⟩), .pointer (some ⟨Bw, 0, none⟩)] W fun e W' => ∃ l', e = .returned (.tuple #[]) ∧ WLeft (pvOf evs) (idsOf evs) id l l' ∧ W.grownBy W' (some bt) ∧ W'.ownsMap Tryz.prog 2 heldR bt l'.length (putU l')
set_option maxHeartbeats 2000000 in
set_option maxRecDepth 100000 in
theorem walk_body (evs : List Em) (be ne bp bt Bs Bf Bw : Nat) (w0 : World) (hin : RkIn w0 evs be ne) (id : Int) (l : List Int) (ih : ∀ id' l', lacks (idsOf evs) l' < lacks (idsOf evs) l → WkCall evs be bp bt Bs Bf Bw w0 id' l') : WkCall evs be bp bt Bs Bf Bw w0 id l := by
  intro W hid hd hlen h
  have HIN : Hid (RkIn w0 evs be ne) := hin
  have K := Maps.int_keyed (P := Tryz.prog) Tryz.underlying2
  obtain ⟨m, hm, rfl, hpv⟩ := mem_of_pv hid HIN.out.dup
  have hii := HIN.out.idin m hm
  have hlk := look_ev1 (ownsMap_below HIN.out.map h.below) HIN.out.dup hm hii
  unfold emVal emCells at hlk
  have hs0 : W.cell? ⟨Bs, 0, none⟩ = some (.map (some be)) := cell_of_heap h.sv
  have hfd : (Instr.field 114 (.agg #[.int .i64 m.v.id, .int .i64 m.v.room, .int .i64 m.v.author, .int .i64 m.v.kind, .int .i64 m.v.key, .int .i64 m.v.n, .string m.v.text, .slice m.p m.v.prev.length m.c, .int .i64 m.v.time]) 7).run Tryz.prog W = .ok (.slice m.p m.v.prev.length m.c) W := (by kernel_rfl)
  have hlp := (HIN.out.nums m hm).1
  have HPV : Hid (pvOf evs m.v.id = some m.v.prev) := hpv
  have HST : Hid (WMid (pvOf evs) (idsOf evs) m.v.id m.v.prev 0 l l ∧ WkAt w0 be bp bt Bs Bf Bw l W ∧ W.grownBy W (some bt)) := ⟨WMid.start hd, h, World.grownBy.refl _ _⟩
  have HIH : Hid (∀ id' l', lacks (idsOf evs) l' < lacks (idsOf evs) l → WkCall evs be bp bt Bs Bf Bw w0 id' l') := ih
  have HLN : Hid (l.length + lacks (idsOf evs) l ≤ 1000) := hlen
  clear h hpv hd hlen ih hin hid
  go_enter Tryz.func216, Tryz.ntmps216
  go_wp2
  go_loopw [6, 7, 8, 15] (fun _ _ _ i wr => ∃ (j : Nat) (lj : List Int), j ≤ m.v.prev.length ∧ i = .int .i64 j ∧ Hid (WMid (pvOf evs) (idsOf evs) m.v.id m.v.prev j l lj ∧ WkAt w0 be bp bt Bs Bf Bw lj wr ∧ W.grownBy wr (some bt))) (fun _ _ _ i _ => m.v.prev.length - (intOf i).toNat)
  case atStart => exact ⟨0, l, Nat.zero_le _, rfl, HST⟩
  case round =>
    clear HST hlk hfd hs0
    obtain ⟨j, lj, hj, rfl, HM⟩ := hrel
    have hf : wr.cell? ⟨Bf, 0, none⟩ = some (.map (some bt)) := cell_of_heap HM.out.2.1.fv
    by_cases hlt : j < m.v.prev.length
    · obtain ⟨b, off, hpp, hbb, hcell⟩ := ((HIN.out.nums m hm).kept HM.out.2.1.below).2 (by omega)
      have hck := hcell j hlt
      have HPI : Hid (m.v.prev[j] ∈ idsOf evs) := HIN.out.prevs m hm _ (List.getElem_mem hlt)
      have hpb : 1 ≤ m.v.prev[j] ∧ m.v.prev[j] ≤ 1000000 := by
        obtain ⟨m', hm', he⟩ := List.mem_map.1 HPI.out
        rw [← he]
        exact HIN.out.idin m' hm'
      have hrun := look_U HM.out.2.1.tab (id := m.v.prev[j]) ⟨by omega, by omega⟩
      have HBA : Hid (∀ o, WkAt w0 be bp bt Bs Bf Bw lj (wr.alloc o) ∧ W.grownBy (wr.alloc o) (some bt)) := fun o => by
        have hg : wr.grownBy (wr.alloc o) (some bt) := World.grownBy_alloc _ _ _
        exact ⟨HM.out.2.1.step hg (HM.out.2.1.tab.alloc o), HM.out.2.2.andThen hg (fun _ h => .inr h)⟩
      have hzf : Bf < wr.heap.size := (Array.getElem?_eq_some_iff.1 HM.out.2.1.fv).1
      have hnf : ¬ Bf = wr.heap.size := by omega
      rw [hpp]
      clear hcell hpp
      by_cases hmem : m.v.prev[j] ∈ lj
      · rw [decide_eq_true hmem] at hrun
        have HN : Hid (WMid (pvOf evs) (idsOf evs) m.v.id m.v.prev (j + 1) l lj) := HM.out.1.skip hlt hmem
        clear hmem
        go_wp2
        go_roundw
        case rel => exact ⟨j + 1, lj, by omega, by go_num, HN.out, (HBA.out _).1, (HBA.out _).2⟩
        case measure => simp [intOf]; omega
      · rw [decide_eq_false hmem] at hrun
        have HNM : Hid (m.v.prev[j] ∉ lj) := hmem
        have HK : Hid (keyOf Tryz.prog 2 (.int .i64 m.v.prev[j]) = some (.int .i64 m.v.prev[j])) := Maps.keyOf_int_mk Tryz.underlying2 (WalkArith.wf_i64 ⟨by omega, by omega⟩)
        have HRM : Hid (lj.length < maxLen) := by have h1 := HM.out.1.cost; have h2 := HLN.out; unfold Hid maxLen; omega
        have HLS : Hid (lacks (idsOf evs) (m.v.prev[j] :: lj) < lacks (idsOf evs) l ∧ (m.v.prev[j] :: lj).length + lacks (idsOf evs) (m.v.prev[j] :: lj) ≤ 1000) := by
          have h1 := lacks_lt HPI.out HNM.out
          have h2 := lacks_le (ids := idsOf evs) HM.out.1.old
          have h3 := HM.out.1.cost
          have h4 := HLN.out
          exact ⟨by omega, by simp only [List.length_cons]; omega⟩
        have HDM : Hid (∀ x ∈ m.v.prev[j] :: lj, x ∈ idsOf evs) := fun x hx => by
          rcases List.mem_cons.1 hx with rfl | hx
          · exact HPI.out
          · exact HM.out.1.dom x hx
        clear hmem
        go_wp2_with (first
          | (at_mapUpdate; refine wpList_mapUpdate_own _ rfl _ _ _ 137 rfl 2 85 K Tryz.underlying137 heldR bt lj.length (putU lj) rfl ((HBA.out _).1.tab) HRM.out _ _ _ rfl rfl HK.out _ [] rfl ?_; intro w2 hown2 hgrow2; have HM2 : Hid (WkAt w0 be bp bt Bs Bf Bw (m.v.prev[j] :: lj) w2 ∧ W.grownBy w2 (some bt)) := ⟨(HBA.out _).1.step hgrow2 hown2, (HBA.out _).2.andThen hgrow2 (fun _ h => .inr h)⟩; have hwv : w2.cell? ⟨Bw, 0, none⟩ = some (wkFn Bs Bf Bw) := cell_of_heap HM2.out.1.wv; unfold wkFn at hwv; clear hown2 hgrow2)
          | (go_at_call 216; refine (HIH.out m.v.prev[j] (m.v.prev[j] :: lj) HLS.out.1 _ HPI.out HDM.out HLS.out.2 HM2.out.1).mono ?_; rintro e w3 ⟨l3, rfl, hleft, hg3, hown3⟩; have HM3 : Hid (WMid (pvOf evs) (idsOf evs) m.v.id m.v.prev (j + 1) l l3 ∧ WkAt w0 be bp bt Bs Bf Bw l3 w3 ∧ W.grownBy w3 (some bt)) := ⟨HM.out.1.next HPV.out hlt HPI.out HNM.out hleft, HM2.out.1.step hg3 hown3, HM2.out.2.andThen hg3 (fun _ h => .inr h)⟩; clear hleft hg3 hown3))
        go_roundw
        case rel => exact ⟨j + 1, l3, by omega, by go_num, HM3.out⟩
        case measure => simp [intOf]; omega
    · have HE : Hid (WLeft (pvOf evs) (idsOf evs) m.v.id l lj) := by
        have e : j = m.v.prev.length := by omega
        have h1 := HM.out.1
        rw [e] at h1
        exact h1.end HPV.out
      go_wp2
      go_end0
      exact ⟨lj, rfl, HE.out, HM.out.2.2, HM.out.2.1.tab⟩
theorem walk_all (evs : List Em) (be ne bp bt Bs Bf Bw : Nat) (w0 : World) (hin : RkIn w0 evs be ne) (k : Nat) : ∀ id l, lacks (idsOf evs) l ≤ k → WkCall evs be bp bt Bs Bf Bw w0 id l := by
  induction k with
  | zero => exact fun id l hk => walk_body evs be ne bp bt Bs Bf Bw w0 hin id l (fun id' l' h => absurd h (by omega))
  | succ k ih => exact fun id l hk => walk_body evs be ne bp bt Bs Bf Bw w0 hin id l (fun id' l' h => ih id' l' (by omega))
end Go.Proofs.YteajcmkaoahbeaaGreatDoor
namespace Go.Proofs.YteajcmkaoahbeaaGreatDoor
open Go.RowKit

def DispF (ms : List (Nat × Slots)) (F : Slots) (n : Int) : Prop := ∃ m ∈ ms, ∃ k y, m.2 k y = some n ∧ (F k y).getD 0 ≠ n
def DispTo (ms : List (Nat × Slots)) (F : Slots) (i : Nat) (n : Int) : Prop := ∃ j, ∃ h : j < ms.length, j < i ∧ ∃ k y, ms[j].2 k y = some n ∧ (F k y).getD 0 ≠ n
theorem dispTo_all {ms : List (Nat × Slots)} {F : Slots} {n : Int} : DispTo ms F ms.length n ↔ DispF ms F n := by
  constructor
  · rintro ⟨j, h, _, k, y, e⟩
    exact ⟨ms[j], List.getElem_mem h, k, y, e⟩
  · rintro ⟨m, hm, k, y, e⟩
    obtain ⟨j, hj, rfl⟩ := List.getElem_of_mem hm
    exact ⟨j, hj, hj, k, y, e⟩
/-- What is there when some of the keys of state i have been looked at. -/
structure UInv (w : World) (ms : List (Nat × Slots)) (F : Slots) (bo i : Nat) (f : Slots) (left : Lit → Bool) (top : Nat) (W : World) : Prop where
  map : ∃ l : List Int, W.ownsMap Tryz.prog 2 heldR bo l.length (putU l) ∧ l.length ≤ top ∧ ∀ n, n ∈ l ↔ DispTo ms F i n ∨ ∃ k y, f k y = some n ∧ left (slotLit k y) = false ∧ (F k y).getD 0 ≠ n
  below : Below w.heap.size w W
theorem left_iff {left : Lit → Bool} {k y k' y' : Int} (hw : (Lit.int .i64 k).wf = true ∧ (Lit.int .i64 y).wf = true) (hw' : (Lit.int .i64 k').wf = true ∧ (Lit.int .i64 y').wf = true) : (left (slotLit k' y') && !(slotLit k' y').sameKey (slotLit k y)) = false ↔ left (slotLit k' y') = false ∨ (k' = k ∧ y' = y) := by
  constructor
  · intro h
    cases c : left (slotLit k' y')
    · exact .inl rfl
    · rw [c] at h
      right
      have h3 : (slotLit k' y').sameKey (slotLit k y) = true := by simpa using h
      exact slotLit_inj hw'.1 hw'.2 hw.1 hw.2 (WideAt.sameKey_eq h3)
  · rintro (h | ⟨rfl, rfl⟩)
    · rw [h]; rfl
    · have self : (slotLit k' y').sameKey (slotLit k' y') = true := WideAt.sameKey_self (by trivial)
      rw [self]
      simp
theorem disp_step {P : Int → Prop} {F f : Slots} {left : Lit → Bool} {k y v : Int} {l l' : List Int} (hdom : ∀ k y v, f k y = some v → (Lit.int .i64 k).wf = true ∧ (Lit.int .i64 y).wf = true) (hf : f k y = some v)
    (h : ∀ n, n ∈ l ↔ P n ∨ ∃ k y, f k y = some n ∧ left (slotLit k y) = false ∧ (F k y).getD 0 ≠ n) (hl : ∀ n, n ∈ l' ↔ n ∈ l ∨ (n = v ∧ (F k y).getD 0 ≠ v)) :
    ∀ n, n ∈ l' ↔ P n ∨ ∃ k' y', f k' y' = some n ∧ (left (slotLit k' y') && !(slotLit k' y').sameKey (slotLit k y)) = false ∧ (F k' y').getD 0 ≠ n := fun n => by
  rw [hl, h]
  constructor
  · rintro ((h | ⟨k', y', h1, h2, h3⟩) | ⟨rfl, h3⟩)
    · exact .inl h
    · exact .inr ⟨k', y', h1, (left_iff (hdom _ _ _ hf) (hdom _ _ _ h1)).2 (.inl h2), h3⟩
    · exact .inr ⟨k, y, hf, (left_iff (hdom _ _ _ hf) (hdom _ _ _ hf)).2 (.inr ⟨rfl, rfl⟩), h3⟩
  · rintro (h | ⟨k', y', h1, h2, h3⟩)
    · exact .inl (.inl h)
    · rcases (left_iff (hdom _ _ _ hf) (hdom _ _ _ h1)).1 h2 with h4 | ⟨rfl, rfl⟩
      · exact .inl (.inr ⟨k', y', h1, h4, h3⟩)
      · rw [hf] at h1
        cases h1
        exact .inr ⟨rfl, h3⟩
theorem dispTo_next {ms : List (Nat × Slots)} {F : Slots} {i : Nat} (hi : i < ms.length) {left : Lit → Bool} (hl : ∀ z, left z = false) (n : Int) : (DispTo ms F i n ∨ ∃ k y, ms[i].2 k y = some n ∧ left (slotLit k y) = false ∧ (F k y).getD 0 ≠ n) ↔ DispTo ms F (i + 1) n := by
  constructor
  · rintro (⟨j, h, h1, r⟩ | ⟨k, y, h1, _, h3⟩)
    · exact ⟨j, h, by omega, r⟩
    · exact ⟨i, hi, Nat.lt_succ_self i, k, y, h1, h3⟩
  · rintro ⟨j, h, h1, k, y, r⟩
    by_cases e : j = i
    · subst e
      exact .inr ⟨k, y, r.1, hl _, r.2⟩
    · exact .inl ⟨j, h, by omega, k, y, r⟩
def DiPost (w : World) (ms : List (Nat × Slots)) (F : Slots) (e : Ending) (w' : World) : Prop := ∃ b l, e = .returned (.map (some b)) ∧ w.heap.size ≤ b ∧ w'.ownsMap Tryz.prog 2 heldR b l.length (putU l) ∧ (∀ n, n ∈ l ↔ DispF ms F n) ∧ l.length ≤ 10000000 ∧ Below w.heap.size w w'
set_option maxHeartbeats 8000000 in
set_option maxRecDepth 100000 in
theorem disputed_impl (ms : List (Nat × Slots)) (F : Slots) (bF nF : Nat) (a : Option Addr) (cp : Nat) (w : World) (h : MsAt w a ms) (hF : SMap w bF nF F) (hid : ∀ m ∈ ms, ∀ k y v, m.2 k y = some v → -9223372036854775808 ≤ v ∧ v ≤ 9223372036854775807) :
    Calls Tryz.prog 79 #[.slice a ms.length cp, .map (some bF)] w (DiPost w ms F) := by
  have hmm : ∀ W : World, (Instr.makeMap 137 none).run Tryz.prog W = .ok (.map (some W.heap.size)) (W.alloc (.map #[] 0)) := fun _ => rfl
  have hl := h.len
  have HM : Hid (∀ W, Below w.heap.size w W → MsAt W a ms ∧ SMap W bF nF F) := fun W hW => ⟨h.kept hW, hF.kept hW⟩
  have HID : Hid (∀ m ∈ ms, ∀ k y v, m.2 k y = some v → -9223372036854775808 ≤ v ∧ v ≤ 9223372036854775807) := hid
  have H0 : Hid (UInv w ms F w.heap.size 0 (fun _ _ => none) (fun _ => false) 0 (w.alloc (.map #[] 0))) := ⟨⟨[], World.ownsMap_made w _ _ _, Nat.le_refl _, fun n => by
    constructor
    · intro h; cases h
    · rintro (⟨j, _, h1, _⟩ | ⟨k, y, h1, _⟩)
      · omega
      · cases h1⟩, (Below.refl _ _).alloc (Nat.le_refl _) _⟩
  clear h hF hid
  go_enter Tryz.func79, Tryz.ntmps79
  go_wp2
  go_loopw [7, 8, 9, 13] (fun _ _ _ i wr => ∃ q : Nat, q ≤ ms.length ∧ i = .int .i64 q ∧ Hid (UInv w ms F w.heap.size q (fun _ _ => none) (fun _ => false) (q * 10000) wr)) (fun _ _ _ i _ => ms.length - (intOf i).toNat)
  case atStart => exact ⟨0, Nat.zero_le _, rfl, H0.out.map, H0.out.below⟩
  case round =>
    clear H0
    obtain ⟨q, hq, rfl, HI⟩ := hrel
    by_cases hlt : q < ms.length
    · obtain ⟨b, off, rfl, hbb, hcell⟩ := (HM.out _ HI.out.below).1.row (by omega)
      have hck := hcell q hlt
      obtain ⟨n1, hn1, D1, hown1, hD1⟩ := (HM.out _ HI.out.below).1.each _ (List.getElem_mem hlt)
      obtain ⟨m, HMM⟩ : ∃ m, Hid (m = ms[q]) := ⟨ms[q], (rfl : ms[q] = _)⟩
      rw [← HMM.out] at hck hown1 hD1
      have HO1 : Hid (wr.ownsMap Tryz.prog 149 heldS m.1 n1 D1) := hown1
      have HD1 : Hid (MapIs D1 m.2) := hD1
      have HSZ : Hid (Maps.size D1 ≤ 10000) := Nat.le_trans hown1.size_le hn1
      have hb1l := hown1.lt
      clear hown1 hD1 hn1 hcell
      have hwz : w.heap.size < wr.heap.size := by obtain ⟨l, ho, _⟩ := HI.out.map; exact ho.lt
      have hmlt : m.1 < w.heap.size := by
        rw [HMM.out]
        obtain ⟨n, hn, hm⟩ := (HM.out w (Below.refl _ _)).1.each _ (List.getElem_mem hlt)
        exact hm.lt
      go_wp2_with (at_range; refine wpList_range_own _ rfl _ 68 rfl 149 2 slot_keyed Tryz.underlying68 heldS m.1 n1 D1 rfl HO1.out ?_; intro w5 hrg5 hg5 hs5)
      go_frame
      have HI0 : Hid (UInv w ms F w.heap.size q m.2 (Maps.has D1) (q * 10000 + (Maps.size D1 - Maps.size D1)) w5) := by
        obtain ⟨l, ho, hll, hmem⟩ := HI.out.map
        refine ⟨⟨l, ho.kept hg5 (by simp), by omega, fun n => ?_⟩, HI.out.below.grown hg5 HI.out.below.size (fun k h => by cases h)⟩
        rw [hmem]
        constructor
        · rintro (h | ⟨k, y, h, _⟩)
          · exact .inl h
          · cases h
        · rintro (h | ⟨k, y, h, h2, _⟩)
          · exact .inl h
          · have hw := HD1.out.dom _ _ _ h
            rw [HD1.out.has hw.1 hw.2, h] at h2
            cases h2
      obtain ⟨rr, HR⟩ : ∃ rr, Hid (rr = wr.heap.size) := ⟨_, (rfl : wr.heap.size = _)⟩
      rw [← HR.out] at hrg5 ⊢
      have hrr : w.heap.size < rr := by rw [HR.out]; exact hwz
      go_loopw [8, 9] (fun _ _ wi => ∃ (left : Lit → Bool) (cnt : Nat), cnt ≤ Maps.size D1 ∧ wi.ranges Tryz.prog 149 heldS m.1 rr n1 D1 left cnt ∧ Hid (UInv w ms F w.heap.size q m.2 left (q * 10000 + (Maps.size D1 - cnt)) wi)) (fun _ _ wi => wi.rangeLeft m.1 rr)
      case atStart => exact ⟨_, _, Nat.le_refl _, hrg5, HI0⟩
      case round =>
        clear HI0 hrg5 hg5 hs5 HI HO1 hck
        obtain ⟨left, cnt, hcle, hrg, HJ⟩ := hrel
        go_wp2_with (at_next; refine wpList_next_M rfl _ rfl m.1 rr n1 D1 m.2 HD1.out _ _ rfl hrg ?_ ?_)
        · intro hcz hl0
          have HF : Hid (UInv w ms F w.heap.size (q + 1) (fun _ _ => none) (fun _ => false) ((q + 1) * 10000) wr) := by
            obtain ⟨l, ho, hll, hmem⟩ := HJ.out.map
            refine ⟨⟨l, ho, by have := HSZ.out; omega, fun n => ?_⟩, HJ.out.below⟩
            rw [hmem, HMM.out, dispTo_next hlt hl0]
            constructor
            · exact .inl
            · rintro (h | ⟨k, y, h, _⟩)
              · exact h
              · cases h
          clear hcz hl0 hrg HJ
          go_wp2
          go_roundw
          case rel => exact ⟨q + 1, by omega, by go_num, HF⟩
          case measure => simp [intOf]; omega
        · intro k y v w1' cnt1 wk wy hlv hlk hrg1 hltc hg1 hs1 hen
          obtain ⟨l, hown3, hll, hmem⟩ := HJ.out.map
          have hzr := HJ.out.below.size
          have hb1w : Below w.heap.size w w1' := HJ.out.below.grown hg1 hzr (fun q e => by cases e; omega)
          have HBA : Hid (∀ o, Below w.heap.size w (w1'.alloc o)) := fun o => hb1w.alloc hb1w.size o
          have HOA : Hid (∀ o, (w1'.alloc o).ownsMap Tryz.prog 2 heldR w.heap.size l.length (putU l)) := fun o => (hown3.kept hg1 (fun e => by cases e; omega)).alloc o
          have HRG : Hid (∀ o, (w1'.alloc o).ranges Tryz.prog 149 heldS m.1 rr n1 D1 (fun z => left z && !z.sameKey (slotLit k y)) cnt1) := fun o => hrg1.alloc o
          have HLE : Hid (wr.rangeLeft m.1 rr = cnt) := hrg.left_eq
          have hvb := HID.out m (by rw [HMM.out]; exact List.getElem_mem hlt) _ _ _ hlv
          have HK : Hid (keyOf Tryz.prog 2 (.int .i64 v) = some (.int .i64 v)) := Maps.keyOf_int_mk Tryz.underlying2 (WalkArith.wf_i64 hvb)
          have hnl : l.length < maxLen := by have := HSZ.out; unfold maxLen; omega
          obtain ⟨z, HZ⟩ : ∃ z, Hid (z = (F k y).getD 0) := ⟨_, (rfl : (F k y).getD 0 = _)⟩
          have hlk2 : ∀ o, (Instr.lookup 68 (.map (some bF)) (.agg #[.int .i64 k, .int .i64 y]) false).run Tryz.prog (w1'.alloc o) = .ok (.int .i64 z) (w1'.alloc o) := fun o => by
            rw [HZ.out]
            exact (HM.out _ (HBA.out o)).2.look wk wy
          have HST := fun (l' : List Int) (hl' : ∀ n, n ∈ l' ↔ n ∈ l ∨ (n = v ∧ (F k y).getD 0 ≠ v)) => disp_step HD1.out.dom hlv hmem hl'
          have HCN : Hid (l.length ≤ q * 10000 + (Maps.size D1 - cnt) ∧ cnt1 < cnt ∧ cnt ≤ Maps.size D1) := ⟨hll, hltc, hcle⟩
          clear hrg hrg1 hg1 hs1 hlk wk wy hown3 hmem hb1w hll hvb HJ hlv hcle
          cases e1 : (z == v)
          · have HU : Hid (∀ n, n ∈ v :: l ↔ DispTo ms F q n ∨ ∃ k' y', m.2 k' y' = some n ∧ (left (slotLit k' y') && !(slotLit k' y').sameKey (slotLit k y)) = false ∧ (F k' y').getD 0 ≠ n) := HST (v :: l) fun n => by
              have hne : (F k y).getD 0 ≠ v := by rw [← HZ.out]; simpa using e1
              rw [List.mem_cons]
              constructor
              · rintro (h | h)
                · exact .inr ⟨h, hne⟩
                · exact .inl h
              · rintro (h | ⟨h, _⟩)
                · exact .inr h
                · exact .inl h
            clear HST
            go_wp2_with (at_mapUpdate; refine wpList_mapUpdate_own _ rfl _ _ _ 137 rfl 2 85 (Maps.int_keyed (P := Tryz.prog) Tryz.underlying2) Tryz.underlying137 heldR w.heap.size l.length (putU l) rfl (HOA.out _) hnl _ _ _ rfl rfl HK.out (.held (.agg #[])) [] rfl ?_; intro w4 ho4 hg4; have H4 : Hid (UInv w ms F w.heap.size q m.2 (fun z => left z && !z.sameKey (slotLit k y)) (q * 10000 + (Maps.size D1 - cnt1)) w4 ∧ w4.ranges Tryz.prog 149 heldS m.1 rr n1 D1 (fun z => left z && !z.sameKey (slotLit k y)) cnt1) := ⟨⟨⟨v :: l, ho4, (by have := HCN.out; simp only [List.length_cons]; omega), HU.out⟩, (HBA.out _).grown hg4 (HBA.out _).size (fun q e => by cases e; exact Nat.le_refl _)⟩, (HRG.out _).kept hg4 (by simp; omega) (by simp; omega)⟩; clear ho4 hg4; go_frame)
            go_roundw
            case rel => exact ⟨_, _, by have := HCN.out; omega, H4.out.2, H4.out.1⟩
            case measure => rw [H4.out.2.left_eq, HLE.out]; exact HCN.out.2.1
          · have HU : Hid (∀ n, n ∈ l ↔ DispTo ms F q n ∨ ∃ k' y', m.2 k' y' = some n ∧ (left (slotLit k' y') && !(slotLit k' y').sameKey (slotLit k y)) = false ∧ (F k' y').getD 0 ≠ n) := HST l fun n => by
              have he : (F k y).getD 0 = v := by rw [← HZ.out]; simpa using e1
              constructor
              · exact .inl
              · rintro (h | ⟨_, h⟩)
                · exact h
                · exact absurd he h
            clear HST
            have H4 : Hid (∀ o, UInv w ms F w.heap.size q m.2 (fun z => left z && !z.sameKey (slotLit k y)) (q * 10000 + (Maps.size D1 - cnt1)) (w1'.alloc o)) := fun o => ⟨⟨l, HOA.out o, (by have := HCN.out; omega), HU.out⟩, HBA.out o⟩
            go_wp2
            go_roundw
            case rel => exact ⟨_, _, by have := HCN.out; omega, HRG.out _, H4.out _⟩
            case measure => rw [(HRG.out _).left_eq, HLE.out]; exact HCN.out.2.1
    · have HE : Hid (∃ l : List Int, wr.ownsMap Tryz.prog 2 heldR w.heap.size l.length (putU l) ∧ (∀ n, n ∈ l ↔ DispF ms F n) ∧ l.length ≤ 10000000) := by
        obtain ⟨l, ho, hle, hmem⟩ := HI.out.map
        refine ⟨l, ho, fun n => ?_, by omega⟩
        have e : q = ms.length := by omega
        rw [hmem, e, dispTo_all]
        constructor
        · rintro (h | ⟨k, y, h, _⟩)
          · exact h
          · cases h
        · exact .inl
      go_wp2
      go_ret
      obtain ⟨l, ho, hmem, hle⟩ := HE.out
      exact ⟨_, l, rfl, Nat.le_refl _, ho, hmem, hle, HI.out.below⟩
end Go.Proofs.YteajcmkaoahbeaaGreatDoor
