/- The walks' variables: scene, event, errors; the small askings. -/
import Derived.Test.YtdldblfopcbfeaaGreatDoorZAlOther
import Derived.Test.YtdldblfopcbfeaaGreatDoorZRl4
import Derived.Test.YtdldblfopcbfeaaGreatDoorZAlLaid
import Derived.Deep.DeepCutAuto
import Derived.Deep.RegionHeld3
namespace Go.Proofs.YtdldblfopcbfeaaGreatDoor
open Go.RowKit

/-- The scene's and the event's variable, the errors, and all that lay before. -/
structure IB (w : World) (E : Errs) (be bs : Nat) (v : Ev) (q : Option Addr) (c : Nat) (W : World) : Prop where
  below : Below w.heap.size w W
  er : LE E W
  sc : W.heap[w.heap.size]? = some (.cells #[.map (some be), .map (some bs)] 60 (0, 0))
  ev : W.heap[w.heap.size + 1]? = some (.cells #[.int .i64 v.id, .int .i64 v.room, .int .i64 v.author, .int .i64 v.kind, .int .i64 v.key, .int .i64 v.n, .string v.text, .slice q v.prev.length c, .int .i64 v.time] 39 (0, 0))
theorem IB.start (w : World) (E : Errs) (h : LE E w) (be bs : Nat) (v : Ev) (q : Option Addr) (c : Nat) : IB w E be bs v q c ((w.alloc (.cells #[.map (some be), .map (some bs)] 60)).alloc (.cells #[.int .i64 v.id, .int .i64 v.room, .int .i64 v.author, .int .i64 v.kind, .int .i64 v.key, .int .i64 v.n, .string v.text, .slice q v.prev.length c, .int .i64 v.time] 39)) :=
  have hb := ((Below.refl w.heap.size w).alloc (Nat.le_refl _) (.cells #[.map (some be), .map (some bs)] 60)).alloc (by simp) (.cells #[.int .i64 v.id, .int .i64 v.room, .int .i64 v.author, .int .i64 v.kind, .int .i64 v.key, .int .i64 v.n, .string v.text, .slice q v.prev.length c, .int .i64 v.time] 39)
  ⟨hb, h.kept hb, (Below.heap_alloc _ _ _ (by simp)).trans (MapKept.heap_alloc w _).1, by have := (MapKept.heap_alloc (w.alloc (.cells #[.map (some be), .map (some bs)] 60)) (.cells #[.int .i64 v.id, .int .i64 v.room, .int .i64 v.author, .int .i64 v.kind, .int .i64 v.key, .int .i64 v.n, .string v.text, .slice q v.prev.length c, .int .i64 v.time] 39)).1; simpa using this⟩
theorem IB.on {w : World} {E : Errs} {be bs : Nat} {v : Ev} {q : Option Addr} {c : Nat} {W W' : World} (h : IB w E be bs v q c W) (hb : Below W.heap.size W W') : IB w E be bs v q c W' :=
  ⟨h.below.trans (hb.mono h.below.size), h.er.kept hb, (hb.block _ (Array.getElem?_eq_some_iff.1 h.sc).1).trans h.sc, (hb.block _ (Array.getElem?_eq_some_iff.1 h.ev).1).trans h.ev⟩
theorem IB.drew {w : World} {E : Errs} {be bs : Nat} {v : Ev} {q : Option Addr} {c : Nat} {W : World} (h : IB w E be bs v q c W) : IB w E be bs v q c W.drew := h.on (Below.drew (Below.refl _ _))
theorem IB.lt {w : World} {E : Errs} {be bs : Nat} {v : Ev} {q : Option Addr} {c : Nat} {W : World} (h : IB w E be bs v q c W) : w.heap.size < W.heap.size ∧ w.heap.size + 1 < W.heap.size := ⟨(Array.getElem?_eq_some_iff.1 h.sc).1, (Array.getElem?_eq_some_iff.1 h.ev).1⟩
theorem IB.cells {w : World} {E : Errs} {be bs : Nat} {v : Ev} {q : Option Addr} {c : Nat} {W : World} (h : IB w E be bs v q c W) :
    (∀ k, W.cell? ⟨w.heap.size, k, none⟩ = #[.map (some be), .map (some bs)][k]?) ∧ (∀ k, W.cell? ⟨w.heap.size + 1, k, none⟩ = #[.int .i64 v.id, .int .i64 v.room, .int .i64 v.author, .int .i64 v.kind, .int .i64 v.key, .int .i64 v.n, .string v.text, .slice q v.prev.length c, .int .i64 v.time][k]?) ∧
    W.cell? ⟨0, 0, none⟩ = some (.iface 189 (.pointer (some E.b))) ∧ W.cell? ⟨1, 0, none⟩ = some (.iface 189 (.pointer (some E.n))) ∧ W.cell? ⟨2, 0, none⟩ = some (.iface 189 (.pointer (some E.x))) ∧ W.cell? ⟨3, 0, none⟩ = some (.iface 189 (.pointer (some E.d))) :=
  ⟨fun _ => cell_of_heap h.sc, fun _ => cell_of_heap h.ev, h.er.cb, h.er.cn, h.er.cx, h.er.cd⟩
def selfB (v : Ev) : Bool := v.kind == 2 && v.key == v.author
set_option maxHeartbeats 1000000 in
theorem ofItself_impl (v : Ev) (q : Option Addr) (c : Nat) (w : World) : Calls Tryz.prog 74 #[.agg #[.int .i64 v.id, .int .i64 v.room, .int .i64 v.author, .int .i64 v.kind, .int .i64 v.key, .int .i64 v.n, .string v.text, .slice q v.prev.length c, .int .i64 v.time]] w fun e w' => e = .returned (.bool (selfB v)) ∧ Below w.heap.size w w' := by
  have HB : Hid (∀ o, Below w.heap.size w (w.alloc o)) := fun o => (Below.refl _ _).alloc (Nat.le_refl _) o
  cases h1 : (v.kind == 2)
  · have HS : Hid (selfB v = false) := by unfold Hid selfB; rw [h1]; rfl
    go_enter Tryz.func74, Tryz.ntmps74
    go_wp2
    go_ret
    exact ⟨ret_bool HS.out.symm, HB.out _⟩
  · have HS : Hid (selfB v = (v.key == v.author)) := by unfold Hid selfB; rw [h1]; rfl
    go_enter Tryz.func74, Tryz.ntmps74
    go_wp2
    go_ret
    exact ⟨ret_bool HS.out.symm, HB.out _⟩
set_option maxHeartbeats 4000000 in
set_option maxRecDepth 100000 in
theorem isIn_impl (g : Gr) (xs : List En) (be bs : Nat) (u : Int) (hu : (Lit.int .i64 u).wf = true) (w : World) (h : ScAt w g xs be bs) (hs : Sc g xs) :
    Calls Tryz.prog 75 #[.agg #[.map (some be), .map (some bs)], .int .i64 u] w fun e w' => e = .returned (.bool (memR g.evs xs u == 1)) ∧ Below w.heap.size w w' := by
  have HB : Hid (∀ o, Below w.heap.size w (w.alloc o)) := fun o => (Below.refl _ _).alloc (Nat.le_refl _) o
  have HM := fun W (hW : Below w.heap.size w W) => member_impl g xs be bs u hu W (h.kept hW) hs
  clear h hs hu
  go_enter Tryz.func75, Tryz.ntmps75
  go_wp2_with (go_at_call 89; refine (HM _ (HB.out _)).mono ?_; rintro e w1 ⟨rfl, hb1⟩; have HW1 : Hid (Below w.heap.size w w1) := (HB.out _).trans (hb1.mono (by simp)); clear hb1)
  go_ret
  exact ⟨rfl, HW1.out⟩
theorem field_id (v : Ev) (q : Option Addr) (c : Nat) (W : World) : (Instr.field 39 (.agg #[.int .i64 v.id, .int .i64 v.room, .int .i64 v.author, .int .i64 v.kind, .int .i64 v.key, .int .i64 v.n, .string v.text, .slice q v.prev.length c, .int .i64 v.time]) 0).run Tryz.prog W = .ok (.int .i64 v.id) W := by kernel_rfl
set_option maxHeartbeats 4000000 in
set_option maxRecDepth 100000 in
theorem begun_impl (g : Gr) (xs : List En) (be bs : Nat) (w : World) (h : ScAt w g xs be bs) (hs : Sc g xs) :
    Calls Tryz.prog 73 #[.agg #[.map (some be), .map (some bs)]] w fun e w' => e = .returned (.bool (decide (0 < stAt xs 1 0))) ∧ Below w.heap.size w w' := by
  have HB : Hid (∀ o, Below w.heap.size w (w.alloc o)) := fun o => (Below.refl _ _).alloc (Nat.le_refl _) o
  have HO := fun W (hW : Below w.heap.size w W) => last_impl g xs be bs 1 0 (by decide) (by decide) W (h.kept hW) hs
  obtain ⟨v, HV⟩ : ∃ v, Hid (v = lastE g.evs xs 1 0) := ⟨lastE g.evs xs 1 0, (rfl : lastE g.evs xs 1 0 = _)⟩
  have HZ : Hid ((v.id != 0) = decide (0 < stAt xs 1 0)) := by
    unfold Hid
    have h1 := hs.id 1 0
    have h2 := hs.bound 1 0
    rw [HV.out, h1, Bool.eq_iff_iff]
    simp
    omega
  have hfd := field_id v
  clear h hs
  go_enter Tryz.func73, Tryz.ntmps73
  go_wp2_with (go_at_call 88; refine (HO _ (HB.out _)).mono ?_; rw [← HV.out]; rintro e w1 ⟨q, c, rfl, hb1⟩; have HW1 : Hid (Below w.heap.size w w1) := (HB.out _).trans (hb1.mono (by simp)); clear hb1)
  go_ret
  exact ⟨ret_bool HZ.out, HW1.out⟩
set_option maxHeartbeats 1000000 in
theorem asksNothing_impl (E : Errs) (be bs : Nat) (v : Ev) (q : Option Addr) (c : Nat) (w : World) : Calls Tryz.prog 76 #[.agg #[.map (some be), .map (some bs)], .agg #[.int .i64 v.id, .int .i64 v.room, .int .i64 v.author, .int .i64 v.kind, .int .i64 v.key, .int .i64 v.n, .string v.text, .slice q v.prev.length c, .int .i64 v.time]] w fun e w' => e = .returned (errV E 0) ∧ Below w.heap.size w w' := by
  have HB : Hid (∀ o1 o2, Below w.heap.size w ((w.alloc o1).alloc o2)) := fun o1 o2 => ((Below.refl _ _).alloc (Nat.le_refl _) _).alloc (by simp) _
  go_enter Tryz.func76, Tryz.ntmps76
  go_wp2
  go_ret
  exact ⟨ret_0 rfl, HB.out _ _⟩
end Go.Proofs.YtdldblfopcbfeaaGreatDoor
