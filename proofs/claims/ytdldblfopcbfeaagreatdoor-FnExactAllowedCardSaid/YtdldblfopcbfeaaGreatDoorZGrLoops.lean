/- The program's look whether some event stands behind itself. -/
import Derived.Test.YtdldblfopcbfeaaGreatDoorZGrOnce2
namespace Go.Proofs.YtdldblfopcbfeaaGreatDoor
open Go.RowKit

theorem OnceLeft.from {w w1 w2 : World} {bc be bp bt : Nat} {x2 x3 : Int} {evs : List Em} {l : List (Int × Int)} (h : OnceLeft w1 bc be bp x2 x3 evs bt l w2) (hg : w.grownBy w1 none) : OnceLeft w bc be bp x2 x3 evs bt l w2 :=
  ⟨h.ch, Nat.le_trans hg.size h.new, h.tab, h.done, (hg.but _).andThen h.grown (fun _ h => .inr h)⟩
theorem OnceLeft.on {w w2 w3 : World} {bc be bp bt : Nat} {x2 x3 : Int} {evs : List Em} {l : List (Int × Int)} (h : OnceLeft w bc be bp x2 x3 evs bt l w2) {r : Option Nat} (hg : w2.grownBy w3 r) (hr : ∀ j, r = some j → w.heap.size ≤ j ∧ j ≠ bt ∧ j ≠ bc) : OnceLeft w bc be bp x2 x3 evs bt l w3 := by
  have hlt : bc < w2.heap.size := (Array.getElem?_eq_some_iff.1 h.ch).1
  refine ⟨?_, h.new, h.tab.kept hg (fun e => (hr bt e.symm).2.1 rfl), h.done, h.grown.andThen hg (fun j hj => .inl (hr j hj).1)⟩
  exact (hg.block bc hlt (fun e => (hr bc e.symm).2.2 rfl)).trans h.ch
set_option maxRecDepth 100000 in
set_option maxHeartbeats 4000000 in
theorem table_first (evs : List Em) (be bp ne bc : Nat) (d : Value) (w0 w : World) (hin : RkIn w0 evs be ne) (hb : Below w0.heap.size w0 w) (hbc : w0.heap.size ≤ bc) (hc : ChAt w bc be bp 0 0 d) :
    Calls Tryz.prog 84 #[.pointer (some ⟨bc, 0, none⟩)] w fun e w' => ∃ bt l, e = .returned (.map (some bt)) ∧ OnceLeft w bc be bp 1 0 evs bt l w' := by
  have hz : bc < w.heap.size := (Array.getElem?_eq_some_iff.1 hc).1
  have hmf : ∀ (fn : Fn) (first cap : Array Value) (w : World), (Instr.makeFunc fn first cap).run Tryz.prog w = .ok (.func fn first cap) w := fun _ _ _ _ => rfl
  have hc1 : ChAt (w.alloc (.cells #[.pointer (some ⟨bc, 0, none⟩)] 82)) bc be bp 0 0 d := (Below.heap_alloc _ _ _ hz).trans hc
  have HD := once_do evs be bp ne bc w.heap.size d w0 (w.alloc (.cells #[.pointer (some ⟨bc, 0, none⟩)] 82)) hin (hb.alloc hb.size _) hbc (by omega) hc1 (MapKept.heap_alloc w _).1
  have hz1 : w.heap.size ≠ bc := by omega
  have hcc : (w.alloc (.cells #[.pointer (some ⟨bc, 0, none⟩)] 82)).cell? ⟨bc, 0, none⟩ = some (.map (some be)) := cell_of_heap hc1
  have HP : Hid ((w.alloc (.cells #[.pointer (some ⟨bc, 0, none⟩)] 82)).heap[w.heap.size]? = some (.cells #[.pointer (some ⟨bc, 0, none⟩)] 82 (0, 0))) := (MapKept.heap_alloc w _).1
  clear hin hb hc hc1
  go_enter Tryz.func84, Tryz.ntmps84
  go_wp2_with (go_at_call 93; refine HD.mono ?_; rintro e w2 ⟨bt, l, rfl, hleft⟩; have hp2 : w2.cell? ⟨w.heap.size, 0, none⟩ = some (.pointer (some ⟨bc, 0, none⟩)) := cell_of_heap ((hleft.grown.block _ (by simp) (fun e => hz1 (by cases e; rfl))).trans HP.out); have hc2 : w2.cell? ⟨bc, 0, none⟩ = some (.map (some be)) := cell_of_heap hleft.ch; have hc5 : w2.cell? ⟨bc, 5, none⟩ = some (.map (some bt)) := cell_of_heap hleft.ch; have HL : Hid (OnceLeft w bc be bp 1 0 evs bt l w2) := hleft.from (World.grownBy_alloc w _ none); clear hleft)
  go_ret
  exact ⟨bt, l, rfl, HL.out⟩
set_option maxRecDepth 100000 in
set_option maxHeartbeats 4000000 in
theorem table_again (be bp bc bt : Nat) (w : World) (hc : ChAt w bc be bp 1 0 (.map (some bt))) :
    Calls Tryz.prog 84 #[.pointer (some ⟨bc, 0, none⟩)] w fun e w' => e = .returned (.map (some bt)) ∧ Below w.heap.size w w' := by
  have hz : bc < w.heap.size := (Array.getElem?_eq_some_iff.1 hc).1
  have hmf : ∀ (fn : Fn) (first cap : Array Value) (w : World), (Instr.makeFunc fn first cap).run Tryz.prog w = .ok (.func fn first cap) w := fun _ _ _ _ => rfl
  have hc1 : ChAt (w.alloc (.cells #[.pointer (some ⟨bc, 0, none⟩)] 82)) bc be bp 1 0 (.map (some bt)) := (Below.heap_alloc _ _ _ hz).trans hc
  have HD := fun fv => once_done be bp bc (.map (some bt)) fv (w.alloc (.cells #[.pointer (some ⟨bc, 0, none⟩)] 82)) hc1
  have hcc : (w.alloc (.cells #[.pointer (some ⟨bc, 0, none⟩)] 82)).cell? ⟨bc, 0, none⟩ = some (.map (some be)) := cell_of_heap hc1
  have hc5 : (w.alloc (.cells #[.pointer (some ⟨bc, 0, none⟩)] 82)).cell? ⟨bc, 5, none⟩ = some (.map (some bt)) := cell_of_heap hc1
  have HB : Hid (∀ o, Below w.heap.size w (w.alloc o)) := fun o => (Below.refl _ _).alloc (Nat.le_refl _) o
  clear hc hc1
  go_enter Tryz.func84, Tryz.ntmps84
  go_wp2_with (go_at_call 93; refine (HD _).mono ?_; rintro e w2 ⟨rfl, rfl⟩)
  go_ret
  exact ⟨rfl, HB.out _⟩
theorem left_strike {left : Lit → Bool} {x y : Int} (h : (left (.int .i64 x) && !(Lit.int .i64 x).sameKey (.int .i64 y)) = false) : x = y ∨ left (.int .i64 x) = false := by
  by_cases e : x = y
  · exact .inl e
  · right
    have h2 : (Lit.int .i64 x).sameKey (.int .i64 y) = false := by
      cases h3 : (Lit.int .i64 x).sameKey (.int .i64 y)
      · rfl
      · exact absurd (WideAt.sameKey_eq h3) (lit_ne e)
    rw [h2] at h
    simpa using h
set_option maxRecDepth 100000 in
set_option maxHeartbeats 4000000 in
theorem loops_impl (g : Gr) (be bp ne bc : Nat) (d : Value) (w0 w : World) (hin : RkIn w0 g.evs be ne) (hb : Below w0.heap.size w0 w) (hbc : w0.heap.size ≤ bc) (hc : ChAt w bc be bp 0 0 d) :
    Calls Tryz.prog 62 #[.pointer (some ⟨bc, 0, none⟩)] w fun e w' => ∃ bt l, e = .returned (.bool (!depB g)) ∧ OnceLeft w bc be bp 1 0 g.evs bt l w' := by
  have hz : bc < w.heap.size := (Array.getElem?_eq_some_iff.1 hc).1
  have HT := table_first g.evs be bp ne bc d w0 w hin hb hbc hc
  have K := Maps.int_keyed (P := Tryz.prog) Tryz.underlying2
  have hyes : AllPos (pvOf g.evs) (idsOf g.evs) ↔ depB g = true := by
    unfold AllPos depB
    rw [List.all_eq_true]
    exact ⟨fun h id hid => decide_eq_true (h id hid), fun h id hid => of_decide_eq_true (h id hid)⟩
  have HY : Hid (AllPos (pvOf g.evs) (idsOf g.evs) ↔ depB g = true) := hyes
  clear hin hb hc hyes
  go_enter Tryz.func62, Tryz.ntmps62
  go_wp2_with fail
  refine HT.mono ?_
  rintro e w2 ⟨bt, l, rfl, hleft⟩
  have HL2 : Hid (OnceLeft w bc be bp 1 0 g.evs bt l w2) := hleft
  obtain ⟨r, HR⟩ : ∃ r, Hid (r = w2.heap.size) := ⟨_, rfl⟩
  have hne : Hid (w.heap.size ≤ r ∧ r ≠ bt ∧ r ≠ bc) := by
    have h1 := hleft.tab.lt
    have h2 := hleft.grown.size
    rw [HR.out]
    exact ⟨by omega, by omega, by omega⟩
  clear hleft HT
  go_wp2_with (at_range; refine wpList_range_own _ rfl _ 101 rfl 2 2 K Tryz.underlying101 heldR bt l.length (putL l) rfl HL2.out.tab ?_; intro w3 hrg3 hg3 hs3; rw [← HR.out] at hrg3 ⊢)
  go_frame
  have HL3 : Hid (OnceLeft w bc be bp 1 0 g.evs bt l w3) := HL2.out.on hg3 (fun j hj => by cases hj)
  go_loopw [4] (fun _ wr => ∃ (left : Lit → Bool) (cnt : Nat), wr.ranges Tryz.prog 2 heldR bt r l.length (putL l) left cnt ∧ Hid (OnceLeft w bc be bp 1 0 g.evs bt l wr ∧ ∀ x v, look l x = some v → left (.int .i64 x) = false → v ≠ 0)) (fun _ wr => wr.rangeLeft bt r)
  case atStart =>
    refine ⟨_, _, hrg3, HL3.out, fun x v hx hf => ?_⟩
    rw [has_putL, hx] at hf
    cases hf
  case round =>
    clear HL3 HL2 hrg3 hg3 hs3 HR
    obtain ⟨left, cnt, hrg, HD⟩ := hrel
    go_wp2_with (at_next; refine wpList_next_tab rfl _ rfl bt r l.length l _ _ rfl hrg ?_ ?_)
    · intro hc0 hl0
      have HS : Hid ((!depB g) = false) := by
        have h1 : ¬ ∃ x, look l x = some 0 := fun ⟨x, hx⟩ => HD.out.2 x 0 hx (hl0 _) rfl
        rw [HD.out.1.done.loops, Classical.not_not, HY.out] at h1
        unfold Hid
        rw [h1]
        rfl
      clear hc0 hl0 hrg
      go_wp2
      go_ret
      exact ⟨bt, l, ret_bool HS.out.symm, HD.out.1⟩
    · intro id v w4 cnt4 hlv hlk hrg4 hlt hg4 hs4 hen
      have HL4 : Hid (OnceLeft w bc be bp 1 0 g.evs bt l w4) := HD.out.1.on hg4 (fun j hj => by cases hj; exact hne.out)
      have HRG : Hid (w4.ranges Tryz.prog 2 heldR bt r l.length (putL l) (fun z => left z && !z.sameKey (.int .i64 id)) cnt4) := hrg4
      have HRO : Hid (wr.ranges Tryz.prog 2 heldR bt r l.length (putL l) left cnt) := hrg
      have HLV : Hid (look l id = some v) := hlv
      clear hrg4 hrg hg4 hs4 hlk hlv
      by_cases hv : v = 0
      · subst hv
        have HS : Hid ((!depB g) = true) := by
          have h1 : ∃ x, look l x = some 0 := ⟨id, HLV.out⟩
          rw [HD.out.1.done.loops, HY.out] at h1
          unfold Hid
          cases h2 : depB g
          · rfl
          · exact absurd h2 h1
        go_wp2
        go_ret
        exact ⟨bt, l, ret_bool HS.out.symm, HL4.out⟩
      · have hvb : (v == 0) = false := by simpa using hv
        have HN : Hid (∀ x u, look l x = some u → (left (.int .i64 x) && !(Lit.int .i64 x).sameKey (.int .i64 id)) = false → u ≠ 0) := fun x u hx hf => by
          rcases left_strike hf with rfl | h1
          · rw [HLV.out] at hx
            cases hx
            exact hv
          · exact HD.out.2 x u hx h1
        clear hv
        go_wp2
        go_roundw
        case rel => exact ⟨_, cnt4, HRG.out, HL4.out, HN.out⟩
        case measure => rw [HRG.out.left_eq, HRO.out.left_eq]; exact hlt
end Go.Proofs.YtdldblfopcbfeaaGreatDoor
