/- The table of depths that is made once: what is called once, and the call of Do. The program's look whether some event stands behind itself. -/
import Derived.Test.YteajcmkaoahbeaaGreatDoorZGrOnce
namespace Go.Proofs.YteajcmkaoahbeaaGreatDoor
open Go.RowKit

theorem RkIn.on {w0 W : World} {evs : List Em} {be ne : Nat} (h : RkIn w0 evs be ne) (hb : Below w0.heap.size w0 W) : RkIn W evs be ne :=
  ⟨ownsMap_below h.map hb, fun m hm => (h.nums m hm).kept hb, h.dup, h.idin, h.prevs, h.len⟩
/-- The chart in memory. -/
def ChAt (W : World) (bc be bp : Nat) (x2 x3 : Int) (d : Value) : Prop := W.heap[bc]? = some (.cells #[.map (some be), .map (some bp), .int .u32 x2, .int .i32 x3, .int .u32 0, d] 175 (0, 0))
/-- What the call leaves. -/
structure OnceLeft (w : World) (bc be bp : Nat) (x2 x3 : Int) (evs : List Em) (bt : Nat) (l : List (Int × Int)) (w' : World) : Prop where
  ch : ChAt w' bc be bp x2 x3 (.map (some bt))
  new : w.heap.size ≤ bt
  tab : w'.ownsMap Tryz.prog 2 heldR bt l.length (putL l)
  done : Done (pvOf evs) (idsOf evs) l
  grown : w.grownBy w' (some bc)
theorem onceLeft_of {w w1 : World} {bc be bp bt : Nat} {x2 x3 : Int} {d : Value} {evs : List Em} {l : List (Int × Int)} (hc : ChAt w bc be bp x2 x3 d) (hbt : w.heap.size ≤ bt) (hown : w1.ownsMap Tryz.prog 2 heldR bt l.length (putL l)) (hdone : Done (pvOf evs) (idsOf evs) l) (hb : Below w.heap.size w w1) :
    OnceLeft w bc be bp x2 x3 evs bt l (w1.setCell ⟨bc, 5, none⟩ (.map (some bt))) := by
  have hz : bc < w.heap.size := (Array.getElem?_eq_some_iff.1 hc).1
  have h1 := heap_set (i := 5) ((hb.block bc hz).trans hc) (.map (some bt))
  refine ⟨by unfold ChAt; simpa using h1, hbt, hown.setCell (by show bt ≠ bc; omega) _, hdone, ⟨hb.os, hb.tape, hb.output, by simpa using hb.size, fun k hk hne => ?_⟩⟩
  have hne' : k ≠ bc := fun e => hne (by rw [e])
  exact (Below.heap_setCell _ _ _ _ (by show _; simp; omega)).trans (hb.block k hk)
set_option maxRecDepth 100000 in
set_option maxHeartbeats 4000000 in
theorem once_fn (evs : List Em) (be bp ne bc pl : Nat) (x2 x3 : Int) (d : Value) (w0 w : World) (hin : RkIn w0 evs be ne) (hb : Below w0.heap.size w0 w) (hc : ChAt w bc be bp x2 x3 d) (hp : w.heap[pl]? = some (.cells #[.pointer (some ⟨bc, 0, none⟩)] 124 (0, 0))) :
    Calls Tryz.prog 152 #[.pointer (some ⟨pl, 0, none⟩)] w fun e w' => ∃ bt l, e = .returned (.tuple #[]) ∧ OnceLeft w bc be bp x2 x3 evs bt l w' := by
  have HIN : Hid (RkIn w.drew evs be ne) := hin.on hb.drew
  have hz : pl < w.heap.size := (Array.getElem?_eq_some_iff.1 hp).1
  have hzc : bc < w.heap.size := (Array.getElem?_eq_some_iff.1 hc).1
  have hp0 : w.drew.cell? ⟨pl, 0, none⟩ = some (.pointer (some ⟨bc, 0, none⟩)) := cell_of_heap (w := w) hp
  have hc0 : w.drew.cell? ⟨bc, 0, none⟩ = some (.map (some be)) := cell_of_heap (w := w) hc
  have HC : Hid (ChAt w bc be bp x2 x3 d ∧ w.heap[pl]? = some (.cells #[.pointer (some ⟨bc, 0, none⟩)] 124 (0, 0))) := ⟨hc, hp⟩
  clear hin hb hc hp
  go_enter Tryz.func152, Tryz.ntmps152
  go_wp2
  first
    | (go_region_with (go_at_call 153; refine (depths_impl evs be ne _ HIN.out).mono ?_; rintro e w1 ⟨bt, l, rfl, hbt, hown, hdone, hb1⟩; have hp1 : w1.cell? ⟨pl, 0, none⟩ = some (.pointer (some ⟨bc, 0, none⟩)) := (hb1.cell (p := ⟨pl, 0, none⟩) hz).trans hp0; have hc5 : w1.cell? ⟨bc, 5, none⟩ = some d := cell_of_heap ((hb1.block bc hzc).trans HC.out.1); have hf5 : w1.frozen? ⟨bc, 5, none⟩ = false := frozen_of_heap ((hb1.block bc hzc).trans HC.out.1)))
    | fail
  all_goals go_end0
  all_goals exact ⟨bt, l, rfl, onceLeft_of HC.out.1 hbt hown hdone ((Below.drew (Below.refl _ _)).trans hb1)⟩
theorem ChAt.set2 {W : World} {bc be bp : Nat} {x2 x3 : Int} {d : Value} (h : ChAt W bc be bp x2 x3 d) (y : Int) : ChAt (W.setCell ⟨bc, 2, none⟩ (.int .u32 y)) bc be bp y x3 d := by
  have h1 := heap_set (i := 2) h (.int .u32 y)
  unfold ChAt
  simpa using h1
theorem ChAt.set3 {W : World} {bc be bp : Nat} {x2 x3 : Int} {d : Value} (h : ChAt W bc be bp x2 x3 d) (y : Int) : ChAt (W.setCell ⟨bc, 3, none⟩ (.int .i32 y)) bc be bp x2 y d := by
  have h1 := heap_set (i := 3) h (.int .i32 y)
  unfold ChAt
  simpa using h1
theorem grownBy_setCell (w : World) (b j : Nat) (v : Value) : w.grownBy (w.setCell ⟨b, j, none⟩ v) (some b) :=
  ⟨rfl, rfl, rfl, by simp, fun k _ hne => Below.heap_setCell _ _ _ _ (fun e => hne (by rw [e]))⟩
theorem map_ne_ch {W : World} {b n bc be bp : Nat} {x2 x3 : Int} {d : Value} {l : List (Int × Int)} (h : W.ownsMap Tryz.prog 2 heldR b n (putL l)) (hc : ChAt W bc be bp x2 x3 d) : b ≠ bc := fun e => map_ne_cells h hc e.symm
set_option maxRecDepth 100000 in
set_option maxHeartbeats 4000000 in
theorem once_slow (evs : List Em) (be bp ne bc pl : Nat) (d : Value) (w0 w : World) (hin : RkIn w0 evs be ne) (hb : Below w0.heap.size w0 w) (hbc : w0.heap.size ≤ bc) (hpl : pl ≠ bc) (hc : ChAt w bc be bp 0 0 d) (hp : w.heap[pl]? = some (.cells #[.pointer (some ⟨bc, 0, none⟩)] 124 (0, 0))) :
    Calls Tryz.prog 168 #[.pointer (some ⟨bc, 2, none⟩), .func (.func 152) #[] #[.pointer (some ⟨pl, 0, none⟩)]] w fun e w' => ∃ bt l, e = .returned (.tuple #[]) ∧ OnceLeft w bc be bp 1 0 evs bt l w' := by
  have HL : Hid (ChAt (w.setCell ⟨bc, 3, none⟩ (.int .i32 1)) bc be bp 0 1 d) := hc.set3 1
  have hl := run_call_load (P := Tryz.prog) Tryz.func194 (by kernel_rfl) (by kernel_rfl) (by kernel_rfl) .u32 (by kernel_rfl) (w := w.setCell ⟨bc, 3, none⟩ (.int .i32 1)) (a := ⟨bc, 2, none⟩) (x := 0) (cell_of_heap HL.out)
  have hc3 : w.cell? ⟨bc, 3, none⟩ = some (.int .i32 0) := cell_of_heap hc
  have hf3 : w.frozen? ⟨bc, 3, none⟩ = false := frozen_of_heap hc
  have hnot : ∀ (x : Bool) (w : World), (Op.unary .not (.bool x)).run Tryz.prog w = .ok (.bool (!x)) w := fun _ _ => rfl
  have HP : Hid ((w.setCell ⟨bc, 3, none⟩ (.int .i32 1)).heap[pl]? = some (.cells #[.pointer (some ⟨bc, 0, none⟩)] 124 (0, 0))) := (Below.heap_setCell _ _ _ _ hpl).trans hp
  have HB : Hid (RkIn w0 evs be ne ∧ Below w0.heap.size w0 (w.setCell ⟨bc, 3, none⟩ (.int .i32 1))) := ⟨hin, hb.setCell hbc _⟩
  clear hc hp hin hb
  go_enter_defers Tryz.func168, Tryz.ntmps168
  go_wp2_with (first
    | (go_at_call 195; refine (lock_free ⟨bc, 3, none⟩ _ hc3 hf3).mono ?_; rintro e w' ⟨rfl, rfl⟩)
    | (go_at_call 167; go_in)
    | (go_at_call 152; refine (once_fn evs be bp ne bc pl 0 1 d w0 _ HB.out.1 HB.out.2 HL.out HP.out).mono ?_; rintro e w2 ⟨bt, l, rfl, hleft⟩))
  refine leaves_cons (f := 197) (args := #[.pointer (some ⟨bc, 2, none⟩), .bool true]) (by simp) (by simp [go_sem]) ?_
  refine (store_deferred ⟨bc, 2, none⟩ (.int .u32 0) .returning _ (cell_of_heap hleft.ch) (frozen_of_heap hleft.ch)).mono ?_
  rintro e u' w'' ⟨rfl, rfl, rfl⟩
  have hc2 : ChAt (w2.drew.setCell ⟨bc, 2, none⟩ (.int .u32 1)) bc be bp 1 1 (.map (some bt)) := ChAt.set2 (W := w2.drew) hleft.ch 1
  refine leaves_cons (f := 196) (args := #[.pointer (some ⟨bc, 3, none⟩)]) (by simp [settle]) (by simp [go_sem]) ?_
  refine (unlock_deferred ⟨bc, 3, none⟩ _ _ (cell_of_heap hc2) (frozen_of_heap hc2)).mono ?_
  rintro e u' w'' ⟨rfl, rfl, rfl⟩
  have hne : bt ≠ bc := map_ne_ch hleft.tab hleft.ch
  have hend : OnceLeft w bc be bp 1 0 evs bt l ((w2.drew.setCell ⟨bc, 2, none⟩ (.int .u32 1)).setCell ⟨bc, 3, none⟩ (.int .i32 0)) := by
    have h0 : w.grownBy w2 (some bc) := (grownBy_setCell w bc 3 _).andThen hleft.grown (fun _ h => .inr h)
    have h1 : w.grownBy w2.drew (some bc) := ⟨h0.os, h0.tape, h0.output, h0.size, h0.block⟩
    refine ⟨hc2.set3 0, by simpa using hleft.new, (hleft.tab.drew.setCell hne _).setCell hne _, hleft.done, ?_⟩
    exact (h1.andThen (grownBy_setCell _ bc 2 _) (fun _ h => .inr h)).andThen (grownBy_setCell _ bc 3 _) (fun _ h => .inr h)
  simp [Leaves, settle, results, Tryz.results168]
  exact ⟨bt, l, hend⟩
set_option maxRecDepth 100000 in
set_option maxHeartbeats 4000000 in
theorem once_do (evs : List Em) (be bp ne bc pl : Nat) (d : Value) (w0 w : World) (hin : RkIn w0 evs be ne) (hb : Below w0.heap.size w0 w) (hbc : w0.heap.size ≤ bc) (hpl : pl ≠ bc) (hc : ChAt w bc be bp 0 0 d) (hp : w.heap[pl]? = some (.cells #[.pointer (some ⟨bc, 0, none⟩)] 124 (0, 0))) :
    Calls Tryz.prog 129 #[.pointer (some ⟨bc, 2, none⟩), .func (.func 152) #[] #[.pointer (some ⟨pl, 0, none⟩)]] w fun e w' => ∃ bt l, e = .returned (.tuple #[]) ∧ OnceLeft w bc be bp 1 0 evs bt l w' := by
  have hl := run_call_load (P := Tryz.prog) Tryz.func194 (by kernel_rfl) (by kernel_rfl) (by kernel_rfl) .u32 (by kernel_rfl) (w := w) (a := ⟨bc, 2, none⟩) (x := 0) (cell_of_heap hc)
  have hnot : ∀ (x : Bool) (w : World), (Op.unary .not (.bool x)).run Tryz.prog w = .ok (.bool (!x)) w := fun _ _ => rfl
  have HS := once_slow evs be bp ne bc pl d w0 w hin hb hbc hpl hc hp
  clear hin hb hc hp
  go_enter Tryz.func129, Tryz.ntmps129
  go_wp2_with (first | (go_at_call 168; refine HS.mono ?_; rintro e w' ⟨bt, l, rfl, hleft⟩) | (go_at_call 167; go_in))
  go_end0
  exact ⟨bt, l, rfl, hleft⟩
set_option maxRecDepth 100000 in
set_option maxHeartbeats 4000000 in
theorem once_done (be bp bc : Nat) (d fv : Value) (w : World) (hc : ChAt w bc be bp 1 0 d) :
    Calls Tryz.prog 129 #[.pointer (some ⟨bc, 2, none⟩), fv] w fun e w' => e = .returned (.tuple #[]) ∧ w' = w := by
  have hl := run_call_load (P := Tryz.prog) Tryz.func194 (by kernel_rfl) (by kernel_rfl) (by kernel_rfl) .u32 (by kernel_rfl) (w := w) (a := ⟨bc, 2, none⟩) (x := 1) (cell_of_heap hc)
  have hnot : ∀ (x : Bool) (w : World), (Op.unary .not (.bool x)).run Tryz.prog w = .ok (.bool (!x)) w := fun _ _ => rfl
  clear hc
  go_enter Tryz.func129, Tryz.ntmps129
  go_wp2
  go_end0
  exact ⟨rfl, rfl⟩
end Go.Proofs.YteajcmkaoahbeaaGreatDoor
namespace Go.Proofs.YteajcmkaoahbeaaGreatDoor
open Go.RowKit

theorem OnceLeft.from {w w1 w2 : World} {bc be bp bt : Nat} {x2 x3 : Int} {evs : List Em} {l : List (Int × Int)} (h : OnceLeft w1 bc be bp x2 x3 evs bt l w2) (hg : w.grownBy w1 none) : OnceLeft w bc be bp x2 x3 evs bt l w2 :=
  ⟨h.ch, Nat.le_trans hg.size h.new, h.tab, h.done, (hg.but _).andThen h.grown (fun _ h => .inr h)⟩
theorem OnceLeft.on {w w2 w3 : World} {bc be bp bt : Nat} {x2 x3 : Int} {evs : List Em} {l : List (Int × Int)} (h : OnceLeft w bc be bp x2 x3 evs bt l w2) {r : Option Nat} (hg : w2.grownBy w3 r) (hr : ∀ j, r = some j → w.heap.size ≤ j ∧ j ≠ bt ∧ j ≠ bc) : OnceLeft w bc be bp x2 x3 evs bt l w3 := by
  have hlt : bc < w2.heap.size := (Array.getElem?_eq_some_iff.1 h.ch).1
  refine ⟨?_, h.new, h.tab.kept hg (fun e => (hr bt e.symm).2.1 rfl), h.done, h.grown.andThen hg (fun j hj => .inl (hr j hj).1)⟩
  exact (hg.block bc hlt (fun e => (hr bc e.symm).2.2 rfl)).trans h.ch
set_option maxRecDepth 100000 in
set_option maxHeartbeats 4000000 in
theorem table_first (evs : List Em) (be bp ne bc : Nat) (d : Value) (w0 w : World) (hin : RkIn w0 evs be ne) (hb : Below w0.heap.size w0 w) (hbc : w0.heap.size ≤ bc) (hc : ChAt w bc be bp 0 0 d) :
    Calls Tryz.prog 117 #[.pointer (some ⟨bc, 0, none⟩)] w fun e w' => ∃ bt l, e = .returned (.map (some bt)) ∧ OnceLeft w bc be bp 1 0 evs bt l w' := by
  have hz : bc < w.heap.size := (Array.getElem?_eq_some_iff.1 hc).1
  have hmf : ∀ (fn : Fn) (first cap : Array Value) (w : World), (Instr.makeFunc fn first cap).run Tryz.prog w = .ok (.func fn first cap) w := fun _ _ _ _ => rfl
  have hc1 : ChAt (w.alloc (.cells #[.pointer (some ⟨bc, 0, none⟩)] 124)) bc be bp 0 0 d := (Below.heap_alloc _ _ _ hz).trans hc
  have HD := once_do evs be bp ne bc w.heap.size d w0 (w.alloc (.cells #[.pointer (some ⟨bc, 0, none⟩)] 124)) hin (hb.alloc hb.size _) hbc (by omega) hc1 (MapKept.heap_alloc w _).1
  have hz1 : w.heap.size ≠ bc := by omega
  have hcc : (w.alloc (.cells #[.pointer (some ⟨bc, 0, none⟩)] 124)).cell? ⟨bc, 0, none⟩ = some (.map (some be)) := cell_of_heap hc1
  have HP : Hid ((w.alloc (.cells #[.pointer (some ⟨bc, 0, none⟩)] 124)).heap[w.heap.size]? = some (.cells #[.pointer (some ⟨bc, 0, none⟩)] 124 (0, 0))) := (MapKept.heap_alloc w _).1
  clear hin hb hc hc1
  go_enter Tryz.func117, Tryz.ntmps117
  go_wp2_with (go_at_call 129; refine HD.mono ?_; rintro e w2 ⟨bt, l, rfl, hleft⟩; have hp2 : w2.cell? ⟨w.heap.size, 0, none⟩ = some (.pointer (some ⟨bc, 0, none⟩)) := cell_of_heap ((hleft.grown.block _ (by simp) (fun e => hz1 (by cases e; rfl))).trans HP.out); have hc2 : w2.cell? ⟨bc, 0, none⟩ = some (.map (some be)) := cell_of_heap hleft.ch; have hc5 : w2.cell? ⟨bc, 5, none⟩ = some (.map (some bt)) := cell_of_heap hleft.ch; have HL : Hid (OnceLeft w bc be bp 1 0 evs bt l w2) := hleft.from (World.grownBy_alloc w _ none); clear hleft)
  go_ret
  exact ⟨bt, l, rfl, HL.out⟩
set_option maxRecDepth 100000 in
set_option maxHeartbeats 4000000 in
theorem table_again (be bp bc bt : Nat) (w : World) (hc : ChAt w bc be bp 1 0 (.map (some bt))) :
    Calls Tryz.prog 117 #[.pointer (some ⟨bc, 0, none⟩)] w fun e w' => e = .returned (.map (some bt)) ∧ Below w.heap.size w w' := by
  have hz : bc < w.heap.size := (Array.getElem?_eq_some_iff.1 hc).1
  have hmf : ∀ (fn : Fn) (first cap : Array Value) (w : World), (Instr.makeFunc fn first cap).run Tryz.prog w = .ok (.func fn first cap) w := fun _ _ _ _ => rfl
  have hc1 : ChAt (w.alloc (.cells #[.pointer (some ⟨bc, 0, none⟩)] 124)) bc be bp 1 0 (.map (some bt)) := (Below.heap_alloc _ _ _ hz).trans hc
  have HD := fun fv => once_done be bp bc (.map (some bt)) fv (w.alloc (.cells #[.pointer (some ⟨bc, 0, none⟩)] 124)) hc1
  have hcc : (w.alloc (.cells #[.pointer (some ⟨bc, 0, none⟩)] 124)).cell? ⟨bc, 0, none⟩ = some (.map (some be)) := cell_of_heap hc1
  have hc5 : (w.alloc (.cells #[.pointer (some ⟨bc, 0, none⟩)] 124)).cell? ⟨bc, 5, none⟩ = some (.map (some bt)) := cell_of_heap hc1
  have HB : Hid (∀ o, Below w.heap.size w (w.alloc o)) := fun o => (Below.refl _ _).alloc (Nat.le_refl _) o
  clear hc hc1
  go_enter Tryz.func117, Tryz.ntmps117
  go_wp2_with (go_at_call 129; refine (HD _).mono ?_; rintro e w2 ⟨rfl, rfl⟩)
  go_ret
  exact ⟨rfl, HB.out _⟩
theorem left_strike {left : Lit → Bool} {x y : Int} (h : (left (.int .i64 x) && !(Lit.int .i64 x).sameKey (.int .i64 y)) = false) : x = y ∨ left (.int .i64 x) = false := by
  by_cases e : x = y
  · exact .inl e
  · right
    have h2 : (Lit.int .i64 x).sameKey (.int .i64 y) = false := by
      cases h3 : (Lit.int .i64 x).sameKey (.int .i64 y)
      · rfl
      · exact absurd (WideAt.sameKey_eq h3) (lit_ne e)
    rw [h2] at h
    simpa using h
set_option maxRecDepth 100000 in
set_option maxHeartbeats 4000000 in
theorem loops_impl (g : Gr) (be bp ne bc : Nat) (d : Value) (w0 w : World) (hin : RkIn w0 g.evs be ne) (hb : Below w0.heap.size w0 w) (hbc : w0.heap.size ≤ bc) (hc : ChAt w bc be bp 0 0 d) :
    Calls Tryz.prog 112 #[.pointer (some ⟨bc, 0, none⟩)] w fun e w' => ∃ bt l, e = .returned (.bool (!depB g)) ∧ OnceLeft w bc be bp 1 0 g.evs bt l w' := by
  have hz : bc < w.heap.size := (Array.getElem?_eq_some_iff.1 hc).1
  have HT := table_first g.evs be bp ne bc d w0 w hin hb hbc hc
  have K := Maps.int_keyed (P := Tryz.prog) Tryz.underlying2
  have hyes : AllPos (pvOf g.evs) (idsOf g.evs) ↔ depB g = true := by
    unfold AllPos depB
    rw [List.all_eq_true]
    exact ⟨fun h id hid => decide_eq_true (h id hid), fun h id hid => of_decide_eq_true (h id hid)⟩
  have HY : Hid (AllPos (pvOf g.evs) (idsOf g.evs) ↔ depB g = true) := hyes
  clear hin hb hc hyes
  go_enter Tryz.func112, Tryz.ntmps112
  go_wp2_with fail
  refine HT.mono ?_
  rintro e w2 ⟨bt, l, rfl, hleft⟩
  have HL2 : Hid (OnceLeft w bc be bp 1 0 g.evs bt l w2) := hleft
  obtain ⟨r, HR⟩ : ∃ r, Hid (r = w2.heap.size) := ⟨_, rfl⟩
  have hne : Hid (w.heap.size ≤ r ∧ r ≠ bt ∧ r ≠ bc) := by
    have h1 := hleft.tab.lt
    have h2 := hleft.grown.size
    rw [HR.out]
    exact ⟨by omega, by omega, by omega⟩
  clear hleft HT
  go_wp2_with (at_range; refine wpList_range_own _ rfl _ 173 rfl 2 2 K Tryz.underlying173 heldR bt l.length (putL l) rfl HL2.out.tab ?_; intro w3 hrg3 hg3 hs3; rw [← HR.out] at hrg3 ⊢)
  go_frame
  have HL3 : Hid (OnceLeft w bc be bp 1 0 g.evs bt l w3) := HL2.out.on hg3 (fun j hj => by cases hj)
  go_loopw [4] (fun _ wr => ∃ (left : Lit → Bool) (cnt : Nat), wr.ranges Tryz.prog 2 heldR bt r l.length (putL l) left cnt ∧ Hid (OnceLeft w bc be bp 1 0 g.evs bt l wr ∧ ∀ x v, look l x = some v → left (.int .i64 x) = false → v ≠ 0)) (fun _ wr => wr.rangeLeft bt r)
  case atStart =>
    refine ⟨_, _, hrg3, HL3.out, fun x v hx hf => ?_⟩
    rw [has_putL, hx] at hf
    cases hf
  case round =>
    clear HL3 HL2 hrg3 hg3 hs3 HR
    obtain ⟨left, cnt, hrg, HD⟩ := hrel
    go_wp2_with (at_next; refine wpList_next_tab rfl _ rfl bt r l.length l _ _ rfl hrg ?_ ?_)
    · intro hc0 hl0
      have HS : Hid ((!depB g) = false) := by
        have h1 : ¬ ∃ x, look l x = some 0 := fun ⟨x, hx⟩ => HD.out.2 x 0 hx (hl0 _) rfl
        rw [HD.out.1.done.loops, Classical.not_not, HY.out] at h1
        unfold Hid
        rw [h1]
        rfl
      clear hc0 hl0 hrg
      go_wp2
      go_ret
      exact ⟨bt, l, ret_bool HS.out.symm, HD.out.1⟩
    · intro id v w4 cnt4 hlv hlk hrg4 hlt hg4 hs4 hen
      have HL4 : Hid (OnceLeft w bc be bp 1 0 g.evs bt l w4) := HD.out.1.on hg4 (fun j hj => by cases hj; exact hne.out)
      have HRG : Hid (w4.ranges Tryz.prog 2 heldR bt r l.length (putL l) (fun z => left z && !z.sameKey (.int .i64 id)) cnt4) := hrg4
      have HRO : Hid (wr.ranges Tryz.prog 2 heldR bt r l.length (putL l) left cnt) := hrg
      have HLV : Hid (look l id = some v) := hlv
      clear hrg4 hrg hg4 hs4 hlk hlv
      by_cases hv : v = 0
      · subst hv
        have HS : Hid ((!depB g) = true) := by
          have h1 : ∃ x, look l x = some 0 := ⟨id, HLV.out⟩
          rw [HD.out.1.done.loops, HY.out] at h1
          unfold Hid
          cases h2 : depB g
          · rfl
          · exact absurd h2 h1
        go_wp2
        go_ret
        exact ⟨bt, l, ret_bool HS.out.symm, HL4.out⟩
      · have hvb : (v == 0) = false := by simpa using hv
        have HN : Hid (∀ x u, look l x = some u → (left (.int .i64 x) && !(Lit.int .i64 x).sameKey (.int .i64 id)) = false → u ≠ 0) := fun x u hx hf => by
          rcases left_strike hf with rfl | h1
          · rw [HLV.out] at hx
            cases hx
            exact hv
          · exact HD.out.2 x u hx h1
        clear hv
        go_wp2
        go_roundw
        case rel => exact ⟨_, cnt4, HRG.out, HL4.out, HN.out⟩
        case measure => rw [HRG.out.left_eq, HRO.out.left_eq]; exact hlt
end Go.Proofs.YteajcmkaoahbeaaGreatDoor
