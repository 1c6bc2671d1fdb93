/- The table of depths that is made once: what is called once, and the call of Do. -/
import Derived.Test.YtdldblfopcbfeaaGreatDoorZGrOnce
namespace Go.Proofs.YtdldblfopcbfeaaGreatDoor
open Go.RowKit

theorem RkIn.on {w0 W : World} {evs : List Em} {be ne : Nat} (h : RkIn w0 evs be ne) (hb : Below w0.heap.size w0 W) : RkIn W evs be ne :=
  ⟨ownsMap_below h.map hb, fun m hm => (h.nums m hm).kept hb, h.dup, h.idin, h.prevs, h.len⟩
/-- The chart in memory. -/
def ChAt (W : World) (bc be bp : Nat) (x2 x3 : Int) (d : Value) : Prop := W.heap[bc]? = some (.cells #[.map (some be), .map (some bp), .int .u32 x2, .int .i32 x3, .int .u32 0, d] 103 (0, 0))
/-- What the call leaves. -/
structure OnceLeft (w : World) (bc be bp : Nat) (x2 x3 : Int) (evs : List Em) (bt : Nat) (l : List (Int × Int)) (w' : World) : Prop where
  ch : ChAt w' bc be bp x2 x3 (.map (some bt))
  new : w.heap.size ≤ bt
  tab : w'.ownsMap Tryz.prog 2 heldR bt l.length (putL l)
  done : Done (pvOf evs) (idsOf evs) l
  grown : w.grownBy w' (some bc)
theorem onceLeft_of {w w1 : World} {bc be bp bt : Nat} {x2 x3 : Int} {d : Value} {evs : List Em} {l : List (Int × Int)} (hc : ChAt w bc be bp x2 x3 d) (hbt : w.heap.size ≤ bt) (hown : w1.ownsMap Tryz.prog 2 heldR bt l.length (putL l)) (hdone : Done (pvOf evs) (idsOf evs) l) (hb : Below w.heap.size w w1) :
    OnceLeft w bc be bp x2 x3 evs bt l (w1.setCell ⟨bc, 5, none⟩ (.map (some bt))) := by
  have hz : bc < w.heap.size := (Array.getElem?_eq_some_iff.1 hc).1
  have h1 := heap_set (i := 5) ((hb.block bc hz).trans hc) (.map (some bt))
  refine ⟨by unfold ChAt; simpa using h1, hbt, hown.setCell (by show bt ≠ bc; omega) _, hdone, ⟨hb.os, hb.tape, hb.output, by simpa using hb.size, fun k hk hne => ?_⟩⟩
  have hne' : k ≠ bc := fun e => hne (by rw [e])
  exact (Below.heap_setCell _ _ _ _ (by show _; simp; omega)).trans (hb.block k hk)
set_option maxRecDepth 100000 in
set_option maxHeartbeats 4000000 in
theorem once_fn (evs : List Em) (be bp ne bc pl : Nat) (x2 x3 : Int) (d : Value) (w0 w : World) (hin : RkIn w0 evs be ne) (hb : Below w0.heap.size w0 w) (hc : ChAt w bc be bp x2 x3 d) (hp : w.heap[pl]? = some (.cells #[.pointer (some ⟨bc, 0, none⟩)] 82 (0, 0))) :
    Calls Tryz.prog 94 #[.pointer (some ⟨pl, 0, none⟩)] w fun e w' => ∃ bt l, e = .returned (.tuple #[]) ∧ OnceLeft w bc be bp x2 x3 evs bt l w' := by
  have HIN : Hid (RkIn w.drew evs be ne) := hin.on hb.drew
  have hz : pl < w.heap.size := (Array.getElem?_eq_some_iff.1 hp).1
  have hzc : bc < w.heap.size := (Array.getElem?_eq_some_iff.1 hc).1
  have hp0 : w.drew.cell? ⟨pl, 0, none⟩ = some (.pointer (some ⟨bc, 0, none⟩)) := cell_of_heap (w := w) hp
  have hc0 : w.drew.cell? ⟨bc, 0, none⟩ = some (.map (some be)) := cell_of_heap (w := w) hc
  have HC : Hid (ChAt w bc be bp x2 x3 d ∧ w.heap[pl]? = some (.cells #[.pointer (some ⟨bc, 0, none⟩)] 82 (0, 0))) := ⟨hc, hp⟩
  clear hin hb hc hp
  go_enter Tryz.func94, Tryz.ntmps94
  go_wp2
  first
    | (go_region_with (go_at_call 95; refine (depths_impl evs be ne _ HIN.out).mono ?_; rintro e w1 ⟨bt, l, rfl, hbt, hown, hdone, hb1⟩; have hp1 : w1.cell? ⟨pl, 0, none⟩ = some (.pointer (some ⟨bc, 0, none⟩)) := (hb1.cell (p := ⟨pl, 0, none⟩) hz).trans hp0; have hc5 : w1.cell? ⟨bc, 5, none⟩ = some d := cell_of_heap ((hb1.block bc hzc).trans HC.out.1); have hf5 : w1.frozen? ⟨bc, 5, none⟩ = false := frozen_of_heap ((hb1.block bc hzc).trans HC.out.1)))
    | fail
  all_goals go_end0
  all_goals exact ⟨bt, l, rfl, onceLeft_of HC.out.1 hbt hown hdone ((Below.drew (Below.refl _ _)).trans hb1)⟩
theorem ChAt.set2 {W : World} {bc be bp : Nat} {x2 x3 : Int} {d : Value} (h : ChAt W bc be bp x2 x3 d) (y : Int) : ChAt (W.setCell ⟨bc, 2, none⟩ (.int .u32 y)) bc be bp y x3 d := by
  have h1 := heap_set (i := 2) h (.int .u32 y)
  unfold ChAt
  simpa using h1
theorem ChAt.set3 {W : World} {bc be bp : Nat} {x2 x3 : Int} {d : Value} (h : ChAt W bc be bp x2 x3 d) (y : Int) : ChAt (W.setCell ⟨bc, 3, none⟩ (.int .i32 y)) bc be bp x2 y d := by
  have h1 := heap_set (i := 3) h (.int .i32 y)
  unfold ChAt
  simpa using h1
theorem grownBy_setCell (w : World) (b j : Nat) (v : Value) : w.grownBy (w.setCell ⟨b, j, none⟩ v) (some b) :=
  ⟨rfl, rfl, rfl, by simp, fun k _ hne => Below.heap_setCell _ _ _ _ (fun e => hne (by rw [e]))⟩
theorem map_ne_ch {W : World} {b n bc be bp : Nat} {x2 x3 : Int} {d : Value} {l : List (Int × Int)} (h : W.ownsMap Tryz.prog 2 heldR b n (putL l)) (hc : ChAt W bc be bp x2 x3 d) : b ≠ bc := fun e => map_ne_cells h hc e.symm
set_option maxRecDepth 100000 in
set_option maxHeartbeats 4000000 in
theorem once_slow (evs : List Em) (be bp ne bc pl : Nat) (d : Value) (w0 w : World) (hin : RkIn w0 evs be ne) (hb : Below w0.heap.size w0 w) (hbc : w0.heap.size ≤ bc) (hpl : pl ≠ bc) (hc : ChAt w bc be bp 0 0 d) (hp : w.heap[pl]? = some (.cells #[.pointer (some ⟨bc, 0, none⟩)] 82 (0, 0))) :
    Calls Tryz.prog 99 #[.pointer (some ⟨bc, 2, none⟩), .func (.func 94) #[] #[.pointer (some ⟨pl, 0, none⟩)]] w fun e w' => ∃ bt l, e = .returned (.tuple #[]) ∧ OnceLeft w bc be bp 1 0 evs bt l w' := by
  have HL : Hid (ChAt (w.setCell ⟨bc, 3, none⟩ (.int .i32 1)) bc be bp 0 1 d) := hc.set3 1
  have hl := run_call_load (P := Tryz.prog) Tryz.func103 (by kernel_rfl) (by kernel_rfl) (by kernel_rfl) .u32 (by kernel_rfl) (w := w.setCell ⟨bc, 3, none⟩ (.int .i32 1)) (a := ⟨bc, 2, none⟩) (x := 0) (cell_of_heap HL.out)
  have hc3 : w.cell? ⟨bc, 3, none⟩ = some (.int .i32 0) := cell_of_heap hc
  have hf3 : w.frozen? ⟨bc, 3, none⟩ = false := frozen_of_heap hc
  have hnot : ∀ (x : Bool) (w : World), (Op.unary .not (.bool x)).run Tryz.prog w = .ok (.bool (!x)) w := fun _ _ => rfl
  have HP : Hid ((w.setCell ⟨bc, 3, none⟩ (.int .i32 1)).heap[pl]? = some (.cells #[.pointer (some ⟨bc, 0, none⟩)] 82 (0, 0))) := (Below.heap_setCell _ _ _ _ hpl).trans hp
  have HB : Hid (RkIn w0 evs be ne ∧ Below w0.heap.size w0 (w.setCell ⟨bc, 3, none⟩ (.int .i32 1))) := ⟨hin, hb.setCell hbc _⟩
  clear hc hp hin hb
  go_enter_defers Tryz.func99, Tryz.ntmps99
  go_wp2_with (first
    | (go_at_call 104; refine (lock_free ⟨bc, 3, none⟩ _ hc3 hf3).mono ?_; rintro e w' ⟨rfl, rfl⟩)
    | (go_at_call 98; go_in)
    | (go_at_call 94; refine (once_fn evs be bp ne bc pl 0 1 d w0 _ HB.out.1 HB.out.2 HL.out HP.out).mono ?_; rintro e w2 ⟨bt, l, rfl, hleft⟩))
  refine leaves_cons (f := 106) (args := #[.pointer (some ⟨bc, 2, none⟩), .bool true]) (by simp) (by simp [go_sem]) ?_
  refine (store_deferred ⟨bc, 2, none⟩ (.int .u32 0) .returning _ (cell_of_heap hleft.ch) (frozen_of_heap hleft.ch)).mono ?_
  rintro e u' w'' ⟨rfl, rfl, rfl⟩
  have hc2 : ChAt (w2.drew.setCell ⟨bc, 2, none⟩ (.int .u32 1)) bc be bp 1 1 (.map (some bt)) := ChAt.set2 (W := w2.drew) hleft.ch 1
  refine leaves_cons (f := 105) (args := #[.pointer (some ⟨bc, 3, none⟩)]) (by simp [settle]) (by simp [go_sem]) ?_
  refine (unlock_deferred ⟨bc, 3, none⟩ _ _ (cell_of_heap hc2) (frozen_of_heap hc2)).mono ?_
  rintro e u' w'' ⟨rfl, rfl, rfl⟩
  have hne : bt ≠ bc := map_ne_ch hleft.tab hleft.ch
  have hend : OnceLeft w bc be bp 1 0 evs bt l ((w2.drew.setCell ⟨bc, 2, none⟩ (.int .u32 1)).setCell ⟨bc, 3, none⟩ (.int .i32 0)) := by
    have h0 : w.grownBy w2 (some bc) := (grownBy_setCell w bc 3 _).andThen hleft.grown (fun _ h => .inr h)
    have h1 : w.grownBy w2.drew (some bc) := ⟨h0.os, h0.tape, h0.output, h0.size, h0.block⟩
    refine ⟨hc2.set3 0, by simpa using hleft.new, (hleft.tab.drew.setCell hne _).setCell hne _, hleft.done, ?_⟩
    exact (h1.andThen (grownBy_setCell _ bc 2 _) (fun _ h => .inr h)).andThen (grownBy_setCell _ bc 3 _) (fun _ h => .inr h)
  simp [Leaves, settle, results, Tryz.results99]
  exact ⟨bt, l, hend⟩
set_option maxRecDepth 100000 in
set_option maxHeartbeats 4000000 in
theorem once_do (evs : List Em) (be bp ne bc pl : Nat) (d : Value) (w0 w : World) (hin : RkIn w0 evs be ne) (hb : Below w0.heap.size w0 w) (hbc : w0.heap.size ≤ bc) (hpl : pl ≠ bc) (hc : ChAt w bc be bp 0 0 d) (hp : w.heap[pl]? = some (.cells #[.pointer (some ⟨bc, 0, none⟩)] 82 (0, 0))) :
    Calls Tryz.prog 93 #[.pointer (some ⟨bc, 2, none⟩), .func (.func 94) #[] #[.pointer (some ⟨pl, 0, none⟩)]] w fun e w' => ∃ bt l, e = .returned (.tuple #[]) ∧ OnceLeft w bc be bp 1 0 evs bt l w' := by
  have hl := run_call_load (P := Tryz.prog) Tryz.func103 (by kernel_rfl) (by kernel_rfl) (by kernel_rfl) .u32 (by kernel_rfl) (w := w) (a := ⟨bc, 2, none⟩) (x := 0) (cell_of_heap hc)
  have hnot : ∀ (x : Bool) (w : World), (Op.unary .not (.bool x)).run Tryz.prog w = .ok (.bool (!x)) w := fun _ _ => rfl
  have HS := once_slow evs be bp ne bc pl d w0 w hin hb hbc hpl hc hp
  clear hin hb hc hp
  go_enter Tryz.func93, Tryz.ntmps93
  go_wp2_with (first | (go_at_call 99; refine HS.mono ?_; rintro e w' ⟨bt, l, rfl, hleft⟩) | (go_at_call 98; go_in))
  go_end0
  exact ⟨bt, l, rfl, hleft⟩
set_option maxRecDepth 100000 in
set_option maxHeartbeats 4000000 in
theorem once_done (be bp bc : Nat) (d fv : Value) (w : World) (hc : ChAt w bc be bp 1 0 d) :
    Calls Tryz.prog 93 #[.pointer (some ⟨bc, 2, none⟩), fv] w fun e w' => e = .returned (.tuple #[]) ∧ w' = w := by
  have hl := run_call_load (P := Tryz.prog) Tryz.func103 (by kernel_rfl) (by kernel_rfl) (by kernel_rfl) .u32 (by kernel_rfl) (w := w) (a := ⟨bc, 2, none⟩) (x := 1) (cell_of_heap hc)
  have hnot : ∀ (x : Bool) (w : World), (Op.unary .not (.bool x)).run Tryz.prog w = .ok (.bool (!x)) w := fun _ _ => rfl
  clear hc
  go_enter Tryz.func93, Tryz.ntmps93
  go_wp2
  go_end0
  exact ⟨rfl, rfl⟩
end Go.Proofs.YtdldblfopcbfeaaGreatDoor
