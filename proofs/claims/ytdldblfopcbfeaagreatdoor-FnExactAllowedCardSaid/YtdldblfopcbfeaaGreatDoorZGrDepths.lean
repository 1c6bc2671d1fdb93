/- The program's table of depths. -/
import Derived.Test.YtdldblfopcbfeaaGreatDoorZGrReckon
import Derived.Laws.EntriesVeiled
namespace Go.Proofs.YtdldblfopcbfeaaGreatDoor
open Go.RowKit

theorem RkAt.other {w0 : World} {be bt Bd Be Br r : Nat} {l : List (Int × Int)} {W W' : World} (h : RkAt w0 be bt Bd Be Br l W) (hg : W.grownBy W' (some r)) (h0 : w0.heap.size ≤ r) (h1 : Bd ≠ r) (h2 : Be ≠ r) (h3 : Br ≠ r) (h4 : bt ≠ r) : RkAt w0 be bt Bd Be Br l W' := by
  have key : ∀ {g : Nat} {C : Array Value} {t : TypeId} {fr : Nat × Nat}, g ≠ r → W.heap[g]? = some (.cells C t fr) → W'.heap[g]? = some (.cells C t fr) := fun {g C t fr} hne hc => by
    rw [hg.block g (Array.getElem?_eq_some_iff.1 hc).1 (fun e => hne (by cases e; rfl))]
    exact hc
  exact ⟨h.below.grown hg h.below.size (fun k e => by cases e; exact h0), key h1 h.dv, key h2 h.ev, key h3 h.rv, h.tab.kept hg (fun e => h4 (by cases e; rfl)), h.base⟩
/-- What holds when some of the Ids have been looked at. -/
structure DepInv (w : World) (evs : List Em) (be : Nat) (left : Lit → Bool) (l : List (Int × Int)) (W : World) : Prop where
  at_ : RkAt w be (w.heap.size + 1) (w.heap.size + 1 + 1) w.heap.size (w.heap.size + 1 + 1 + 1) l W
  tab : Tab (pvOf evs) (idsOf evs) l
  cost : l.length + 2 * missing (idsOf evs) l ≤ 2 * evs.length
  seen : ∀ m ∈ evs, left (.int .i64 m.v.id) = false → ∃ v, look l m.v.id = some v
  good : AllPos (pvOf evs) (idsOf evs) → ∀ x, look l x ≠ some 0
theorem DepInv.done {w : World} {evs : List Em} {be : Nat} {left : Lit → Bool} {l : List (Int × Int)} {W : World} (h : DepInv w evs be left l W) (hl : ∀ kl, left kl = false) : Done (pvOf evs) (idsOf evs) l :=
  ⟨h.tab, fun id hid => by
    obtain ⟨m, hm, rfl⟩ := List.mem_map.1 hid
    exact h.seen m hm (hl _), h.good⟩
theorem DepInv.next {w : World} {evs : List Em} {be : Nat} {left : Lit → Bool} {l l2 : List (Int × Int)} {r2 : Int} {W W2 : World} (h : DepInv w evs be left l W) {m : Em} (hleft : Left (pvOf evs) (idsOf evs) m.v.id l l2 r2) (hat : RkAt w be (w.heap.size + 1) (w.heap.size + 1 + 1) w.heap.size (w.heap.size + 1 + 1 + 1) l2 W2) :
    DepInv w evs be (fun z => left z && !z.sameKey (.int .i64 m.v.id)) l2 W2 := by
  refine ⟨hat, hleft.tab, Nat.le_trans hleft.cost h.cost, fun m' hm' hf => ?_, fun ha x hx => ?_⟩
  · by_cases e : m'.v.id = m.v.id
    · rw [e]
      exact ⟨_, hleft.here⟩
    · have h2 : (Lit.int .i64 m'.v.id).sameKey (.int .i64 m.v.id) = false := by
        cases h3 : (Lit.int .i64 m'.v.id).sameKey (.int .i64 m.v.id)
        · rfl
        · exact absurd (WideAt.sameKey_eq h3) (lit_ne e)
      have h4 : left (.int .i64 m'.v.id) = false := by
        have h5 : (left (.int .i64 m'.v.id) && !(Lit.int .i64 m'.v.id).sameKey (.int .i64 m.v.id)) = false := hf
        rw [h2] at h5
        simpa using h5
      obtain ⟨v, hv⟩ := h.seen m' hm' h4
      exact ⟨v, hleft.old _ _ hv⟩
  · exact h.good ha x ((hleft.good ha (fun y hy => absurd hy (h.good ha y))).2 x hx)
set_option maxHeartbeats 4000000 in
set_option maxRecDepth 100000 in
theorem depths_impl (evs : List Em) (be ne : Nat) (w : World) (h : RkIn w evs be ne) :
    Calls Tryz.prog 95 #[.map (some be)] w fun e w' => ∃ bt l, e = .returned (.map (some bt)) ∧ w.heap.size ≤ bt ∧ w'.ownsMap Tryz.prog 2 heldR bt l.length (putL l) ∧ Done (pvOf evs) (idsOf evs) l ∧ Below w.heap.size w w' := by
  have H : Hid (RkIn w evs be ne) := h
  have hbe := h.map.lt
  clear h
  have hmm := @run_makeMap_hint Tryz.prog 101 _ _ Tryz.underlying101
  have hmf : ∀ (fn : Fn) (first cap : Array Value) (w : World), (Instr.makeFunc fn first cap).run Tryz.prog w = .ok (.func fn first cap) w := fun _ _ _ _ => rfl
  have K := Maps.int_keyed (P := Tryz.prog) Tryz.underlying2
  have HX : Hid (RkAt w be (w.heap.size + 1) (w.heap.size + 1 + 1) w.heap.size (w.heap.size + 1 + 1 + 1) [] ((((w.alloc (.cells #[.map (some be)] 56)).alloc (.map #[] 0)).alloc (.cells #[.map (some (w.heap.size + 1))] 101)).alloc (.cells #[.func (.func 100) #[] #[.pointer (some ⟨w.heap.size + 1 + 1, 0, none⟩), .pointer (some ⟨w.heap.size, 0, none⟩), .pointer (some ⟨w.heap.size + 1 + 1 + 1, 0, none⟩)]] 161))) := by
    have e1 : ∀ o : Obj, (w.alloc o).heap.size = w.heap.size + 1 := fun _ => by simp
    refine ⟨((((Below.refl _ _).alloc (Nat.le_refl _) _).alloc (by simp) _).alloc (by simp; omega) _).alloc (by simp; omega) _, ?_, ?_, ?_, ?_, Nat.le_succ _⟩
    · refine (Below.heap_alloc _ _ _ (by simp)).trans ?_
      have := (MapKept.heap_alloc ((w.alloc (.cells #[.map (some be)] 56)).alloc (.map #[] 0)) (.cells #[.map (some (w.heap.size + 1))] 101)).1
      simpa using this
    · exact (Below.heap_alloc _ _ _ (by simp; omega)).trans ((Below.heap_alloc _ _ _ (by simp; omega)).trans ((Below.heap_alloc _ _ _ (by simp)).trans (MapKept.heap_alloc w _).1))
    · have := (MapKept.heap_alloc (((w.alloc (.cells #[.map (some be)] 56)).alloc (.map #[] 0)).alloc (.cells #[.map (some (w.heap.size + 1))] 101)) (.cells #[rkFn (w.heap.size + 1 + 1) w.heap.size (w.heap.size + 1 + 1 + 1)] 161)).1
      unfold rkFn at this ⊢
      simpa using this
    · have := World.ownsMap_made (H := Value) (w.alloc (.cells #[.map (some be)] 56)) Tryz.prog 2 heldR
      rw [e1] at this
      exact (this.alloc _).alloc _
  obtain ⟨r, HR⟩ : ∃ r, Hid (r = ((((w.alloc (.cells #[.map (some be)] 56)).alloc (.map #[] 0)).alloc (.cells #[.map (some (w.heap.size + 1))] 101)).alloc (.cells #[.func (.func 100) #[] #[.pointer (some ⟨w.heap.size + 1 + 1, 0, none⟩), .pointer (some ⟨w.heap.size, 0, none⟩), .pointer (some ⟨w.heap.size + 1 + 1 + 1, 0, none⟩)]] 161)).heap.size) := ⟨_, rfl⟩
  have hr : r = w.heap.size + 1 + 1 + 1 + 1 := by rw [HR.out]; simp
  have HRN : Hid (r = w.heap.size + 1 + 1 + 1 + 1) := hr
  clear hr
  go_enter Tryz.func95, Tryz.ntmps95
  go_wp2_with (first
    | (at_len; refine wpList_len_own _ rfl _ 56 rfl 2 39 Tryz.underlying56 heldR be ne (putAll evs) rfl (H.out.map.alloc _) ?_)
    | (at_range; refine wpList_range_own _ rfl _ 56 rfl 2 39 K Tryz.underlying56 heldR be ne (putAll evs) rfl ((((H.out.map.alloc _).alloc _).alloc _).alloc _) ?_; intro w5 hrg5 hg5 hs5; rw [← HR.out] at hrg5 ⊢))
  go_frame
  have HD0 : Hid (DepInv w evs be (Maps.has (putAll evs)) [] w5) := by
    refine ⟨HX.out.step (hg5.but _) (HX.out.tab.kept hg5 (by simp)), ⟨fun _ _ h => (by cases h), fun _ _ h => (by cases h)⟩, ?_, fun m hm hf => ?_, fun _ _ h => (by cases h)⟩
    · rw [missing_none]
      simp [idsOf]
    · have h1 := has_putAll evs m.v.id
      rw [hf, decide_eq_true (show m.v.id ∈ idsOf evs from List.mem_map.2 ⟨m, hm, rfl⟩)] at h1
      cases h1
  go_loopw [5] (fun _ wr => ∃ (left : Lit → Bool) (cnt : Nat) (l : List (Int × Int)), wr.ranges Tryz.prog 2 heldR be r ne (putAll evs) left cnt ∧ Hid (DepInv w evs be left l wr)) (fun _ wr => wr.rangeLeft be r)
  case atStart => exact ⟨_, _, _, hrg5, HD0⟩
  case round =>
    clear HD0 hrg5 hg5 hs5 HX HR
    obtain ⟨left, cnt, l, hrg, HD⟩ := hrel
    go_wp2_with (at_next; refine wpList_next_ev rfl _ rfl be r ne evs _ _ rfl hrg ?_ ?_)
    · intro hc0 hl0
      have HE : Hid (Done (pvOf evs) (idsOf evs) l) := HD.out.done hl0
      have hdv : wr.cell? ⟨w.heap.size + 1 + 1, 0, none⟩ = some (.map (some (w.heap.size + 1))) := cell_of_heap HD.out.at_.dv
      clear hc0 hl0 hrg
      go_wp2
      go_ret
      exact ⟨_, l, rfl, Nat.le_succ _, HD.out.at_.tab, HE.out, HD.out.at_.below⟩
    · intro m w1 cnt1 hm hlm hrg1 hlt hg1 hs1 hen
      unfold emVal emCells at hen ⊢
      have HA1 : Hid (RkAt w be (w.heap.size + 1) (w.heap.size + 1 + 1) w.heap.size (w.heap.size + 1 + 1 + 1) l w1) := by
        have := HRN.out
        exact HD.out.at_.other hg1 (by omega) (by omega) (by omega) (by omega) (by omega)
      have hrv : w1.cell? ⟨w.heap.size + 1 + 1 + 1, 0, none⟩ = some (rkFn (w.heap.size + 1 + 1) w.heap.size (w.heap.size + 1 + 1 + 1)) := cell_of_heap HA1.out.rv
      unfold rkFn at hrv
      have HRG : Hid (w1.ranges Tryz.prog 2 heldR be r ne (putAll evs) (fun z => left z && !z.sameKey (.int .i64 m.v.id)) cnt1) := hrg1
      have HRO : Hid (wr.ranges Tryz.prog 2 heldR be r ne (putAll evs) left cnt) := hrg
      clear hrg1 hrg hg1 hs1 hlm
      go_wp2_with fail
      refine (reckon_impl evs be ne (w.heap.size + 1) (w.heap.size + 1 + 1) w.heap.size (w.heap.size + 1 + 1 + 1) w H.out _ m.v.id l _ (Nat.le_refl _) (List.mem_map.2 ⟨m, hm, rfl⟩) HD.out.tab (by have := HD.out.cost; have := H.out.len; omega) HA1.out).mono ?_
      rintro e w2 ⟨l2, r2, rfl, hleft, hg2, hown2⟩
      have HD2 : Hid (DepInv w evs be (fun z => left z && !z.sameKey (.int .i64 m.v.id)) l2 w2) := HD.out.next hleft (HA1.out.step hg2 hown2)
      have HR2 : Hid (w2.ranges Tryz.prog 2 heldR be r ne (putAll evs) (fun z => left z && !z.sameKey (.int .i64 m.v.id)) cnt1) := HRG.out.kept hg2 (fun e => by cases e; omega) (fun e => by have := HRN.out; cases e; omega)
      clear hleft hg2 hown2
      go_wp2
      go_roundw
      case rel => exact ⟨_, cnt1, l2, HR2.out, HD2⟩
      case measure => rw [HR2.out.left_eq, HRO.out.left_eq]; exact hlt
end Go.Proofs.YtdldblfopcbfeaaGreatDoor
