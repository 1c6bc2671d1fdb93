/- The program's function that reckons a depth, and calls itself. The program's table of depths. The table of depths that is made once: sync.Once. -/
import Derived.Test.YteajcmkaoahbeaaGreatDoorZGrTab
import Derived.Test.YteajcmkaoahbeaaGreatDoorZGrPlaced
import Derived.Laws.EntriesVeiled
import Derived.Defers
import Derived.Laws.Pointers
import Derived.Laws.LoneSync
import Derived.RegionTactic
import Derived.RegionCalls
import Derived.Deep.RegionHeld
import Derived.Laws.NewBlocks
namespace Go.Proofs.YteajcmkaoahbeaaGreatDoor
open Go.RowKit

/-- What holds of the events, in the world in which the table is begun. -/
structure RkIn (w0 : World) (evs : List Em) (be ne : Nat) : Prop where
  map : w0.ownsMap Tryz.prog 2 heldR be ne (putAll evs)
  nums : ∀ m ∈ evs, NumsAt w0 m.p m.v.prev
  dup : (idsOf evs).Nodup
  idin : ∀ m ∈ evs, IdIn m
  prevs : ∀ m ∈ evs, ∀ p ∈ m.v.prev, p ∈ idsOf evs
  len : evs.length ≤ 60
def rkFn (Bd Be Br : Nat) : Value := .func (.func 178) #[] #[.pointer (some ⟨Bd, 0, none⟩), .pointer (some ⟨Be, 0, none⟩), .pointer (some ⟨Br, 0, none⟩)]
/-- The three variables of the function, and the table. -/
structure RkAt (w0 : World) (be bt Bd Be Br : Nat) (l : List (Int × Int)) (W : World) : Prop where
  below : Below w0.heap.size w0 W
  dv : W.heap[Bd]? = some (.cells #[.map (some bt)] 173 (0, 0))
  ev : W.heap[Be]? = some (.cells #[.map (some be)] 130 (0, 0))
  rv : W.heap[Br]? = some (.cells #[rkFn Bd Be Br] 243 (0, 0))
  tab : W.ownsMap Tryz.prog 2 heldR bt l.length (putL l)
  base : w0.heap.size ≤ bt
theorem map_ne_cells {P : Program} {k : TypeId} {R : Value → Option (DataW Value × List MemPlace)} {n b g : Nat} {D : DataW Value} {W : World} {C : Array Value} {t : TypeId} {fr : Nat × Nat} (h : W.ownsMap P k R b n D) (hc : W.heap[g]? = some (.cells C t fr)) : g ≠ b := by
  rintro rfl
  obtain ⟨es, clock, h1, _⟩ := h
  rw [h1] at hc
  cases hc
theorem RkAt.step {w0 : World} {be bt Bd Be Br : Nat} {l l' : List (Int × Int)} {W W' : World} (h : RkAt w0 be bt Bd Be Br l W) (hg : W.grownBy W' (some bt)) (ht : W'.ownsMap Tryz.prog 2 heldR bt l'.length (putL l')) : RkAt w0 be bt Bd Be Br l' W' := by
  have key : ∀ {g : Nat} {C : Array Value} {t : TypeId} {fr : Nat × Nat}, W.heap[g]? = some (.cells C t fr) → W'.heap[g]? = some (.cells C t fr) := fun {g C t fr} hc => by
    have h1 := map_ne_cells h.tab hc
    rw [hg.block g (Array.getElem?_eq_some_iff.1 hc).1 (fun e => h1 (by cases e; rfl))]
    exact hc
  exact ⟨h.below.grown hg h.below.size (fun k e => by cases e; exact h.base), key h.dv, key h.ev, key h.rv, ht, h.base⟩
theorem mem_of_pv {evs : List Em} {id : Int} (h : id ∈ idsOf evs) (hd : (idsOf evs).Nodup) : ∃ m ∈ evs, m.v.id = id ∧ pvOf evs id = some m.v.prev := by
  obtain ⟨m, hm, rfl⟩ := List.mem_map.1 h
  obtain ⟨i, hi, rfl⟩ := List.getElem_of_mem hm
  exact ⟨_, hm, rfl, pvOf_at hd hi⟩
/-- A look into the events by an Id that is there, without 'ok'. -/
theorem look_ev1 {w : World} {b n : Nat} {es : List Em} (h : w.ownsMap Tryz.prog 2 heldR b n (putAll es)) (hd : (idsOf es).Nodup) {m : Em} (hm : m ∈ es) (hid : IdIn m) :
    (Instr.lookup 130 (.map (some b)) (.int .i64 m.v.id) false).run Tryz.prog w = .ok (emVal m) w := by
  obtain ⟨v, ps, hrun, hv⟩ := h.lookup (Maps.int_keyed (P := Tryz.prog) Tryz.underlying2) Tryz.underlying130 (zero_event w) (zd := .held zeroVal) (zp := []) rfl (Maps.keyOf_int_mk Tryz.underlying2 (idIn_wf hid))
  rcases at_fold_putAll m.v.id es (.map []) ⟨[], rfl⟩ with ⟨h1, _⟩ | ⟨m', hm', h1, h2⟩
  · exact absurd (List.mem_map.2 ⟨m, hm, rfl⟩) h1
  · have e : (putAll es).atKey (.int .i64 m.v.id) (.held zeroVal) = .held (emVal m') := h2 _
    rw [e] at hv
    have hvz : v = emVal m' := by
      simp only [heldR, Option.some.injEq, Prod.mk.injEq, DataW.held.injEq] at hv
      exact hv.1
    rw [hrun, hvz, em_same hd hm' hm h1]
theorem rk_room {evs : List Em} {l : List (Int × Int)} {B : Nat} (h : l.length + 2 * missing (idsOf evs) l ≤ B) (hB : B ≤ 1000) : l.length < maxLen := by
  unfold maxLen
  omega
set_option maxHeartbeats 4000000 in
set_option maxRecDepth 100000 in
theorem reckon_known (be bt Bd Be Br : Nat) (w0 : World) (id r : Int) (l : List (Int × Int)) (W : World) (hid : -9223372036854775808 ≤ id ∧ id ≤ 9223372036854775807) (hl : look l id = some r) (h : RkAt w0 be bt Bd Be Br l W) :
    Calls Tryz.prog 178 #[.int .i64 id, .pointer (some ⟨Bd, 0, none⟩), .pointer (some ⟨Be, 0, none⟩), .pointer (some ⟨Br, 0, none⟩)] W fun e W' => e = .returned (.int .i64 r) ∧ W' = W := by
  have hrun := look_tab h.tab hid
  rw [hl] at hrun
  simp only [Option.getD_some, Option.isSome_some] at hrun
  have hd : W.cell? ⟨Bd, 0, none⟩ = some (.map (some bt)) := cell_of_heap h.dv
  clear h hl
  go_enter Tryz.func178, Tryz.ntmps178
  go_wp2
  go_ret
  exact ⟨rfl, rfl⟩
theorem Left.bound {evs : List Em} {id r : Int} {l l' : List (Int × Int)} (h : Left (pvOf evs) (idsOf evs) id l l' r) (hl : evs.length ≤ 60) : 0 ≤ r ∧ r ≤ 60 := by
  have hb := dep_bound (pv := pvOf evs) (idsOf evs).length id
  have hn : (idsOf evs).length = evs.length := by simp [idsOf]
  rcases h.tab.val _ _ h.here with h0 | h0 <;> omega
theorem Mid.bound {evs : List Em} {id m : Int} {ps : List Int} {j : Nat} {l l' : List (Int × Int)} (h : Mid (pvOf evs) (idsOf evs) id ps j l l' m) (hl : evs.length ≤ 60) : 0 ≤ m ∧ m ≤ 60 := by
  have hn : (idsOf evs).length = evs.length := by simp [idsOf]
  have := foldl_max_le (m := 60) ((ps.take j).map (dep (pvOf evs) (idsOf evs).length)) 0 (Nat.zero_le _) (fun x hx => by
    obtain ⟨p, _, rfl⟩ := List.mem_map.1 hx
    have := dep_bound (pv := pvOf evs) (idsOf evs).length p
    omega)
  rw [h.deep]
  omega
set_option maxHeartbeats 8000000 in
set_option maxRecDepth 100000 in
theorem reckon_impl (evs : List Em) (be ne bt Bd Be Br : Nat) (w0 : World) (hin : RkIn w0 evs be ne) (k : Nat) : ∀ (id : Int) (l : List (Int × Int)) (W : World), missing (idsOf evs) l ≤ k → id ∈ idsOf evs → Tab (pvOf evs) (idsOf evs) l → l.length + 2 * missing (idsOf evs) l ≤ 1000 → RkAt w0 be bt Bd Be Br l W →
    Calls Tryz.prog 178 #[.int .i64 id, .pointer (some ⟨Bd, 0, none⟩), .pointer (some ⟨Be, 0, none⟩), .pointer (some ⟨Br, 0, none⟩)] W fun e W' => ∃ l' r, e = .returned (.int .i64 r) ∧ Left (pvOf evs) (idsOf evs) id l l' r ∧ W.grownBy W' (some bt) ∧ W'.ownsMap Tryz.prog 2 heldR bt l'.length (putL l') := by
  have HIN : Hid (RkIn w0 evs be ne) := hin
  clear hin
  have known : ∀ (id r : Int) (l : List (Int × Int)) (W : World), id ∈ idsOf evs → Tab (pvOf evs) (idsOf evs) l → RkAt w0 be bt Bd Be Br l W → look l id = some r →
      Calls Tryz.prog 178 #[.int .i64 id, .pointer (some ⟨Bd, 0, none⟩), .pointer (some ⟨Be, 0, none⟩), .pointer (some ⟨Br, 0, none⟩)] W fun e W' => ∃ l' r, e = .returned (.int .i64 r) ∧ Left (pvOf evs) (idsOf evs) id l l' r ∧ W.grownBy W' (some bt) ∧ W'.ownsMap Tryz.prog 2 heldR bt l'.length (putL l') := by
    intro id r l W hid ht h hl
    obtain ⟨m, hm, rfl⟩ := List.mem_map.1 hid
    have hii := HIN.out.idin m hm
    refine (reckon_known be bt Bd Be Br w0 _ r l W ⟨by have := hii.1; omega, by have := hii.2; omega⟩ hl h).mono ?_
    rintro e W' ⟨rfl, rfl⟩
    exact ⟨l, r, rfl, Left.known ht hl, World.grownBy.refl _ _, h.tab⟩
  have K := Maps.int_keyed (P := Tryz.prog) Tryz.underlying2
  induction k with
  | zero =>
    intro id l W hk hid ht hlen h
    cases c : look l id with
    | none => exact absurd (missing_pos hid c) (by omega)
    | some r => exact known id r l W hid ht h c
  | succ k ih =>
    intro id l W hk hid ht hlen h
    cases c : look l id with
    | some r => exact known id r l W hid ht h c
    | none =>
      obtain ⟨m, hm, rfl, hpv⟩ := mem_of_pv hid HIN.out.dup
      have hii := HIN.out.idin m hm
      have hrun := look_tab h.tab (id := m.v.id) ⟨by have := hii.1; omega, by have := hii.2; omega⟩
      rw [c] at hrun
      simp only [Option.getD_none, Option.isSome_none] at hrun
      have hd : W.cell? ⟨Bd, 0, none⟩ = some (.map (some bt)) := cell_of_heap h.dv
      have hlp := (HIN.out.nums m hm).1
      have HK : Hid (keyOf Tryz.prog 2 (.int .i64 m.v.id) = some (.int .i64 m.v.id)) := Maps.keyOf_int_mk Tryz.underlying2 (idIn_wf hii)
      have H : Hid (RkAt w0 be bt Bd Be Br l W ∧ l.length < maxLen) := ⟨h, rk_room hlen (by omega)⟩
      have HC : Hid (look l m.v.id = none) := c
      have HID : Hid (m.v.id ∈ idsOf evs) := hid
      have HPV : Hid (pvOf evs m.v.id = some m.v.prev) := hpv
      have HDD : Hid (∀ id ps, pvOf evs id = some ps → id ∈ idsOf evs) := fun _ _ h => pvOf_mem h
      have HST : Hid (Mid (pvOf evs) (idsOf evs) m.v.id m.v.prev 0 l ((m.v.id, 0) :: l) 0) := Mid.start ht hid c
      have HKN : Hid (missing (idsOf evs) l ≤ k + 1 ∧ l.length + 2 * missing (idsOf evs) l ≤ 1000) := ⟨hk, hlen⟩
      have HIH := ih
      clear h c hid hpv ht hk hlen ih known
      go_enter Tryz.func178, Tryz.ntmps178
      go_wp2_with (at_mapUpdate; go_loud (refine wpList_mapUpdate_own _ rfl _ _ _ 173 rfl 2 2 K Tryz.underlying173 heldR bt l.length (putL l) rfl H.out.1.tab H.out.2 _ _ _ rfl rfl HK.out _ [] rfl ?_; intro w2 hown2 hgrow2; have HM : Hid (RkAt w0 be bt Bd Be Br ((m.v.id, 0) :: l) w2 ∧ W.grownBy w2 (some bt)) := ⟨H.out.1.step hgrow2 hown2, hgrow2⟩; have hev : w2.cell? ⟨Be, 0, none⟩ = some (.map (some be)) := cell_of_heap HM.out.1.ev; have hlk := look_ev1 (ownsMap_below HIN.out.map HM.out.1.below) HIN.out.dup hm hii; unfold emVal emCells at hlk; have hfd : (Instr.field 114 (.agg #[.int .i64 m.v.id, .int .i64 m.v.room, .int .i64 m.v.author, .int .i64 m.v.kind, .int .i64 m.v.key, .int .i64 m.v.n, .string m.v.text, .slice m.p m.v.prev.length m.c, .int .i64 m.v.time]) 7).run Tryz.prog w2 = .ok (.slice m.p m.v.prev.length m.c) w2 := (by kernel_rfl); clear hown2 hgrow2))
      go_loopw [8, 27] (fun d i wr => ∃ (j : Nat) (mx : Int) (lj : List (Int × Int)), j ≤ m.v.prev.length ∧ d = .int .i64 mx ∧ i = .int .i64 j ∧ 0 ≤ mx ∧ mx ≤ 60 ∧ Hid (Mid (pvOf evs) (idsOf evs) m.v.id m.v.prev j l lj mx ∧ RkAt w0 be bt Bd Be Br lj wr ∧ W.grownBy wr (some bt))) (fun _ i _ => m.v.prev.length - (intOf i).toNat)
      case atStart => exact ⟨0, 0, _, Nat.zero_le _, rfl, rfl, by omega, by omega, HST.out, HM.out.1, HM.out.2⟩
      case round =>
        clear HM hev hlk hfd hd hrun
        obtain ⟨j, mx, lj, hj, rfl, rfl, hm0, hm60, HM⟩ := hrel
        have hd : wr.cell? ⟨Bd, 0, none⟩ = some (.map (some bt)) := cell_of_heap HM.out.2.1.dv
        by_cases hlt : j < m.v.prev.length
        · obtain ⟨b, off, hpp, hbb, hcell⟩ := ((HIN.out.nums m hm).kept HM.out.2.1.below).2 (by omega)
          have hck := hcell j hlt
          have hrv : wr.cell? ⟨Br, 0, none⟩ = some (rkFn Bd Be Br) := cell_of_heap HM.out.2.1.rv
          unfold rkFn at hrv
          rw [hpp]
          clear hcell hpp
          go_wp2_with fail
          refine (HIH m.v.prev[j] lj _ (by have := HM.out.1.less HID.out HC.out; have := HKN.out.1; omega) (HIN.out.prevs m hm _ (List.getElem_mem hlt)) HM.out.1.tab (by have := HM.out.1.cost; have := HKN.out.2; omega) HM.out.2.1).mono ?_
          rintro e w3 ⟨l3, r, rfl, hleft, hg3, hown3⟩
          have HO3 : Hid (w3.ownsMap Tryz.prog 2 heldR bt l3.length (putL l3) ∧ W.grownBy w3 (some bt) ∧ RkAt w0 be bt Bd Be Br l3 w3) := ⟨hown3, HM.out.2.2.andThen hg3 (fun _ h => .inr h), HM.out.2.1.step hg3 hown3⟩
          obtain ⟨hr0, hr60⟩ := hleft.bound HIN.out.len
          by_cases hr : r = 0
          · subst hr
            have HS : Hid (Left (pvOf evs) (idsOf evs) m.v.id l l3 0) := HM.out.1.stop HDD.out HPV.out (HIN.out.prevs m hm) HC.out hlt hleft
            clear hleft hg3 hown3
            go_wp2
            go_ret
            exact ⟨l3, 0, rfl, HS.out, HO3.out.2.1, HO3.out.1⟩
          · have HS : Hid (Mid (pvOf evs) (idsOf evs) m.v.id m.v.prev (j + 1) l l3 (max mx r)) := HM.out.1.next HDD.out HPV.out hlt hleft hr
            have hrb : (r == 0) = false := by simpa using hr
            clear hleft hg3 hown3 hr
            go_wp2
            go_roundw
            case rel => exact ⟨j + 1, max mx r, l3, by omega, by go_num, by go_num, by omega, by omega, HS.out, HO3.out.2.2, HO3.out.2.1⟩
            case measure => simp [intOf]; omega
        · have HE : Hid (Left (pvOf evs) (idsOf evs) m.v.id l ((m.v.id, mx + 1) :: lj) (mx + 1)) := by
            have e : j = m.v.prev.length := by omega
            have h1 := HM.out.1
            rw [e] at h1
            exact h1.end HDD.out HPV.out HC.out
          have HRM : Hid (lj.length < maxLen) := rk_room (evs := evs) (B := 1000) (by have := HM.out.1.cost; have := HKN.out.2; omega) (by omega)
          go_wp2_with (at_mapUpdate; refine wpList_mapUpdate_own _ rfl _ _ _ 173 rfl 2 2 K Tryz.underlying173 heldR bt lj.length (putL lj) rfl HM.out.2.1.tab HRM.out _ _ _ rfl rfl HK.out _ [] rfl ?_; intro w4 hown4 hgrow4; have HM4 : Hid (w4.ownsMap Tryz.prog 2 heldR bt ((m.v.id, mx + 1) :: lj).length (putL ((m.v.id, mx + 1) :: lj)) ∧ W.grownBy w4 (some bt)) := ⟨hown4, HM.out.2.2.andThen hgrow4 (fun _ h => .inr h)⟩; clear hown4 hgrow4)
          go_ret
          exact ⟨_, _, rfl, HE.out, HM4.out.2, HM4.out.1⟩
end Go.Proofs.YteajcmkaoahbeaaGreatDoor
namespace Go.Proofs.YteajcmkaoahbeaaGreatDoor
open Go.RowKit

theorem RkAt.other {w0 : World} {be bt Bd Be Br r : Nat} {l : List (Int × Int)} {W W' : World} (h : RkAt w0 be bt Bd Be Br l W) (hg : W.grownBy W' (some r)) (h0 : w0.heap.size ≤ r) (h1 : Bd ≠ r) (h2 : Be ≠ r) (h3 : Br ≠ r) (h4 : bt ≠ r) : RkAt w0 be bt Bd Be Br l W' := by
  have key : ∀ {g : Nat} {C : Array Value} {t : TypeId} {fr : Nat × Nat}, g ≠ r → W.heap[g]? = some (.cells C t fr) → W'.heap[g]? = some (.cells C t fr) := fun {g C t fr} hne hc => by
    rw [hg.block g (Array.getElem?_eq_some_iff.1 hc).1 (fun e => hne (by cases e; rfl))]
    exact hc
  exact ⟨h.below.grown hg h.below.size (fun k e => by cases e; exact h0), key h1 h.dv, key h2 h.ev, key h3 h.rv, h.tab.kept hg (fun e => h4 (by cases e; rfl)), h.base⟩
/-- What holds when some of the Ids have been looked at. -/
structure DepInv (w : World) (evs : List Em) (be : Nat) (left : Lit → Bool) (l : List (Int × Int)) (W : World) : Prop where
  at_ : RkAt w be (w.heap.size + 1) (w.heap.size + 1 + 1) w.heap.size (w.heap.size + 1 + 1 + 1) l W
  tab : Tab (pvOf evs) (idsOf evs) l
  cost : l.length + 2 * missing (idsOf evs) l ≤ 2 * evs.length
  seen : ∀ m ∈ evs, left (.int .i64 m.v.id) = false → ∃ v, look l m.v.id = some v
  good : AllPos (pvOf evs) (idsOf evs) → ∀ x, look l x ≠ some 0
theorem DepInv.done {w : World} {evs : List Em} {be : Nat} {left : Lit → Bool} {l : List (Int × Int)} {W : World} (h : DepInv w evs be left l W) (hl : ∀ kl, left kl = false) : Done (pvOf evs) (idsOf evs) l :=
  ⟨h.tab, fun id hid => by
    obtain ⟨m, hm, rfl⟩ := List.mem_map.1 hid
    exact h.seen m hm (hl _), h.good⟩
theorem DepInv.next {w : World} {evs : List Em} {be : Nat} {left : Lit → Bool} {l l2 : List (Int × Int)} {r2 : Int} {W W2 : World} (h : DepInv w evs be left l W) {m : Em} (hleft : Left (pvOf evs) (idsOf evs) m.v.id l l2 r2) (hat : RkAt w be (w.heap.size + 1) (w.heap.size + 1 + 1) w.heap.size (w.heap.size + 1 + 1 + 1) l2 W2) :
    DepInv w evs be (fun z => left z && !z.sameKey (.int .i64 m.v.id)) l2 W2 := by
  refine ⟨hat, hleft.tab, Nat.le_trans hleft.cost h.cost, fun m' hm' hf => ?_, fun ha x hx => ?_⟩
  · by_cases e : m'.v.id = m.v.id
    · rw [e]
      exact ⟨_, hleft.here⟩
    · have h2 : (Lit.int .i64 m'.v.id).sameKey (.int .i64 m.v.id) = false := by
        cases h3 : (Lit.int .i64 m'.v.id).sameKey (.int .i64 m.v.id)
        · rfl
        · exact absurd (WideAt.sameKey_eq h3) (lit_ne e)
      have h4 : left (.int .i64 m'.v.id) = false := by
        have h5 : (left (.int .i64 m'.v.id) && !(Lit.int .i64 m'.v.id).sameKey (.int .i64 m.v.id)) = false := hf
        rw [h2] at h5
        simpa using h5
      obtain ⟨v, hv⟩ := h.seen m' hm' h4
      exact ⟨v, hleft.old _ _ hv⟩
  · exact h.good ha x ((hleft.good ha (fun y hy => absurd hy (h.good ha y))).2 x hx)
set_option maxHeartbeats 4000000 in
set_option maxRecDepth 100000 in
theorem depths_impl (evs : List Em) (be ne : Nat) (w : World) (h : RkIn w evs be ne) :
    Calls Tryz.prog 153 #[.map (some be)] w fun e w' => ∃ bt l, e = .returned (.map (some bt)) ∧ w.heap.size ≤ bt ∧ w'.ownsMap Tryz.prog 2 heldR bt l.length (putL l) ∧ Done (pvOf evs) (idsOf evs) l ∧ Below w.heap.size w w' := by
  have H : Hid (RkIn w evs be ne) := h
  have hbe := h.map.lt
  clear h
  have hmm := @run_makeMap_hint Tryz.prog 173 _ _ Tryz.underlying173
  have hmf : ∀ (fn : Fn) (first cap : Array Value) (w : World), (Instr.makeFunc fn first cap).run Tryz.prog w = .ok (.func fn first cap) w := fun _ _ _ _ => rfl
  have K := Maps.int_keyed (P := Tryz.prog) Tryz.underlying2
  have HX : Hid (RkAt w be (w.heap.size + 1) (w.heap.size + 1 + 1) w.heap.size (w.heap.size + 1 + 1 + 1) [] ((((w.alloc (.cells #[.map (some be)] 130)).alloc (.map #[] 0)).alloc (.cells #[.map (some (w.heap.size + 1))] 173)).alloc (.cells #[.func (.func 178) #[] #[.pointer (some ⟨w.heap.size + 1 + 1, 0, none⟩), .pointer (some ⟨w.heap.size, 0, none⟩), .pointer (some ⟨w.heap.size + 1 + 1 + 1, 0, none⟩)]] 243))) := by
    have e1 : ∀ o : Obj, (w.alloc o).heap.size = w.heap.size + 1 := fun _ => by simp
    refine ⟨((((Below.refl _ _).alloc (Nat.le_refl _) _).alloc (by simp) _).alloc (by simp; omega) _).alloc (by simp; omega) _, ?_, ?_, ?_, ?_, Nat.le_succ _⟩
    · refine (Below.heap_alloc _ _ _ (by simp)).trans ?_
      have := (MapKept.heap_alloc ((w.alloc (.cells #[.map (some be)] 130)).alloc (.map #[] 0)) (.cells #[.map (some (w.heap.size + 1))] 173)).1
      simpa using this
    · exact (Below.heap_alloc _ _ _ (by simp; omega)).trans ((Below.heap_alloc _ _ _ (by simp; omega)).trans ((Below.heap_alloc _ _ _ (by simp)).trans (MapKept.heap_alloc w _).1))
    · have := (MapKept.heap_alloc (((w.alloc (.cells #[.map (some be)] 130)).alloc (.map #[] 0)).alloc (.cells #[.map (some (w.heap.size + 1))] 173)) (.cells #[rkFn (w.heap.size + 1 + 1) w.heap.size (w.heap.size + 1 + 1 + 1)] 243)).1
      unfold rkFn at this ⊢
      simpa using this
    · have := World.ownsMap_made (H := Value) (w.alloc (.cells #[.map (some be)] 130)) Tryz.prog 2 heldR
      rw [e1] at this
      exact (this.alloc _).alloc _
  obtain ⟨r, HR⟩ : ∃ r, Hid (r = ((((w.alloc (.cells #[.map (some be)] 130)).alloc (.map #[] 0)).alloc (.cells #[.map (some (w.heap.size + 1))] 173)).alloc (.cells #[.func (.func 178) #[] #[.pointer (some ⟨w.heap.size + 1 + 1, 0, none⟩), .pointer (some ⟨w.heap.size, 0, none⟩), .pointer (some ⟨w.heap.size + 1 + 1 + 1, 0, none⟩)]] 243)).heap.size) := ⟨_, rfl⟩
  have hr : r = w.heap.size + 1 + 1 + 1 + 1 := by rw [HR.out]; simp
  have HRN : Hid (r = w.heap.size + 1 + 1 + 1 + 1) := hr
  clear hr
  go_enter Tryz.func153, Tryz.ntmps153
  go_wp2_with (first
    | (at_len; refine wpList_len_own _ rfl _ 130 rfl 2 114 Tryz.underlying130 heldR be ne (putAll evs) rfl (H.out.map.alloc _) ?_)
    | (at_range; refine wpList_range_own _ rfl _ 130 rfl 2 114 K Tryz.underlying130 heldR be ne (putAll evs) rfl ((((H.out.map.alloc _).alloc _).alloc _).alloc _) ?_; intro w5 hrg5 hg5 hs5; rw [← HR.out] at hrg5 ⊢))
  go_frame
  have HD0 : Hid (DepInv w evs be (Maps.has (putAll evs)) [] w5) := by
    refine ⟨HX.out.step (hg5.but _) (HX.out.tab.kept hg5 (by simp)), ⟨fun _ _ h => (by cases h), fun _ _ h => (by cases h)⟩, ?_, fun m hm hf => ?_, fun _ _ h => (by cases h)⟩
    · rw [missing_none]
      simp [idsOf]
    · have h1 := has_putAll evs m.v.id
      rw [hf, decide_eq_true (show m.v.id ∈ idsOf evs from List.mem_map.2 ⟨m, hm, rfl⟩)] at h1
      cases h1
  go_loopw [5] (fun _ wr => ∃ (left : Lit → Bool) (cnt : Nat) (l : List (Int × Int)), wr.ranges Tryz.prog 2 heldR be r ne (putAll evs) left cnt ∧ Hid (DepInv w evs be left l wr)) (fun _ wr => wr.rangeLeft be r)
  case atStart => exact ⟨_, _, _, hrg5, HD0⟩
  case round =>
    clear HD0 hrg5 hg5 hs5 HX HR
    obtain ⟨left, cnt, l, hrg, HD⟩ := hrel
    go_wp2_with (at_next; refine wpList_next_ev rfl _ rfl be r ne evs _ _ rfl hrg ?_ ?_)
    · intro hc0 hl0
      have HE : Hid (Done (pvOf evs) (idsOf evs) l) := HD.out.done hl0
      have hdv : wr.cell? ⟨w.heap.size + 1 + 1, 0, none⟩ = some (.map (some (w.heap.size + 1))) := cell_of_heap HD.out.at_.dv
      clear hc0 hl0 hrg
      go_wp2
      go_ret
      exact ⟨_, l, rfl, Nat.le_succ _, HD.out.at_.tab, HE.out, HD.out.at_.below⟩
    · intro m w1 cnt1 hm hlm hrg1 hlt hg1 hs1 hen
      unfold emVal emCells at hen ⊢
      have HA1 : Hid (RkAt w be (w.heap.size + 1) (w.heap.size + 1 + 1) w.heap.size (w.heap.size + 1 + 1 + 1) l w1) := by
        have := HRN.out
        exact HD.out.at_.other hg1 (by omega) (by omega) (by omega) (by omega) (by omega)
      have hrv : w1.cell? ⟨w.heap.size + 1 + 1 + 1, 0, none⟩ = some (rkFn (w.heap.size + 1 + 1) w.heap.size (w.heap.size + 1 + 1 + 1)) := cell_of_heap HA1.out.rv
      unfold rkFn at hrv
      have HRG : Hid (w1.ranges Tryz.prog 2 heldR be r ne (putAll evs) (fun z => left z && !z.sameKey (.int .i64 m.v.id)) cnt1) := hrg1
      have HRO : Hid (wr.ranges Tryz.prog 2 heldR be r ne (putAll evs) left cnt) := hrg
      clear hrg1 hrg hg1 hs1 hlm
      go_wp2_with fail
      refine (reckon_impl evs be ne (w.heap.size + 1) (w.heap.size + 1 + 1) w.heap.size (w.heap.size + 1 + 1 + 1) w H.out _ m.v.id l _ (Nat.le_refl _) (List.mem_map.2 ⟨m, hm, rfl⟩) HD.out.tab (by have := HD.out.cost; have := H.out.len; omega) HA1.out).mono ?_
      rintro e w2 ⟨l2, r2, rfl, hleft, hg2, hown2⟩
      have HD2 : Hid (DepInv w evs be (fun z => left z && !z.sameKey (.int .i64 m.v.id)) l2 w2) := HD.out.next hleft (HA1.out.step hg2 hown2)
      have HR2 : Hid (w2.ranges Tryz.prog 2 heldR be r ne (putAll evs) (fun z => left z && !z.sameKey (.int .i64 m.v.id)) cnt1) := HRG.out.kept hg2 (fun e => by cases e; omega) (fun e => by have := HRN.out; cases e; omega)
      clear hleft hg2 hown2
      go_wp2
      go_roundw
      case rel => exact ⟨_, cnt1, l2, HR2.out, HD2⟩
      case measure => rw [HR2.out.left_eq, HRO.out.left_eq]; exact hlt
end Go.Proofs.YteajcmkaoahbeaaGreatDoor
namespace Go.Proofs.YteajcmkaoahbeaaGreatDoor
open Go.RowKit

theorem race_disable (w : World) : (callFunc 227 #[]).run Tryz.prog w = .ok (.value (.tuple #[])) w := run_call_mark0 Tryz.func227 (by kernel_rfl) (by kernel_rfl) (by kernel_rfl) .disable (by kernel_rfl) w
theorem race_enable (w : World) : (callFunc 229 #[]).run Tryz.prog w = .ok (.value (.tuple #[])) w := run_call_mark0 Tryz.func229 (by kernel_rfl) (by kernel_rfl) (by kernel_rfl) .enable (by kernel_rfl) w
theorem race_acquire (a : Addr) (w : World) : (callFunc 230 #[.pointer (some a)]).run Tryz.prog w = .ok (.value (.tuple #[])) w := run_call_marked Tryz.func230 (by kernel_rfl) (by kernel_rfl) (by kernel_rfl) .acquire (by kernel_rfl) a w
theorem race_release (a : Addr) (w : World) : (callFunc 232 #[.pointer (some a)]).run Tryz.prog w = .ok (.value (.tuple #[])) w := run_call_marked Tryz.func232 (by kernel_rfl) (by kernel_rfl) (by kernel_rfl) .releaseMerge (by kernel_rfl) a w

set_option maxRecDepth 100000 in
set_option maxHeartbeats 1600000 in
/-- The store of 'done', as a deferred call. -/
theorem store_deferred (a : Addr) (x : Value) (u : FrameMode) (w : World) (hc : w.cell? a = some x) (hz : w.frozen? a = false) :
    CallsD Tryz.prog 197 #[.pointer (some a), .bool true] u w fun e u' w' => u' = u ∧ (e = .returned (.tuple #[]) ∧ w' = w.drew.setCell a (.int .u32 1)) := by
  have hc' : w.drew.cell? a = some x := by go_simp
  have hz' : w.drew.frozen? a = false := by go_simp
  have hst := run_call_store (P := Tryz.prog) Tryz.func214 (by kernel_rfl) (by kernel_rfl) (by kernel_rfl) (by kernel_rfl) (k := .u32) (y := 1) hc' hz'
  go_enter_d Tryz.func197, Tryz.ntmps197
  go_wp2
  go_region_calls
  all_goals (go_end0; exact ⟨rfl, rfl⟩)
set_option maxRecDepth 100000 in
set_option maxHeartbeats 1600000 in
/-- The lock let go, as a deferred call. -/
theorem unlock_deferred (a : Addr) (u : FrameMode) (w : World) (hc : w.cell? a = some (.int .i32 1)) (hz : w.frozen? a = false) :
    CallsD Tryz.prog 196 #[.pointer (some a)] u w fun e u' w' => u' = u ∧ (e = .returned (.tuple #[]) ∧ w' = w.setCell a (.int .i32 0)) := by
  have hd := race_disable
  have he := race_enable
  have hr := race_release
  have hadd := run_call_add (P := Tryz.prog) Tryz.func233 (by kernel_rfl) (by kernel_rfl) (by kernel_rfl) .i32 (by kernel_rfl) (y := -1) (s := 0) hc hz (by simp [go_sem]; rfl)
  have hcv := run_convert_to_unsafe (P := Tryz.prog) (src := 308) (dst := 312) Tryz.underlying308 Tryz.underlying312 (by kernel_rfl) hc
  go_enter_d Tryz.func196, Tryz.ntmps196
  go_wp2
  go_end0
  go_wp2
  go_end0
  exact ⟨rfl, rfl⟩
set_option maxRecDepth 100000 in
set_option maxHeartbeats 1600000 in
/-- The lock taken, that is free. -/
theorem lock_free (a : Addr) (w : World) (hc : w.cell? a = some (.int .i32 0)) (hz : w.frozen? a = false) :
    Calls Tryz.prog 195 #[.pointer (some a)] w fun e w' => e = .returned (.tuple #[]) ∧ w' = w.setCell a (.int .i32 1) := by
  have hd := race_disable
  have he := race_enable
  have ha := race_acquire
  have hcas := run_call_cas_hit (P := Tryz.prog) Tryz.func228 (by kernel_rfl) (by kernel_rfl) (by kernel_rfl) .i32 (by kernel_rfl) (y := 1) hc hz
  have hc' : (w.setCell a (.int .i32 1)).cell? a = some (.int .i32 1) := World.cell?_setCell_same w a _ hc
  have hcv := run_convert_to_unsafe (P := Tryz.prog) (src := 308) (dst := 312) Tryz.underlying308 Tryz.underlying312 (by kernel_rfl) hc'
  go_enter Tryz.func195, Tryz.ntmps195
  go_wp2
  first | go_end0 | (simp only [Exit.inBlock, Exit.then]; refine bodyPost_ret (results_none rfl _ _ _) rfl ?_) | refine bodyPost_ret (results_none rfl _ _ _) rfl ?_
  go_wp2
  go_end0
  exact ⟨rfl, rfl⟩
end Go.Proofs.YteajcmkaoahbeaaGreatDoor
