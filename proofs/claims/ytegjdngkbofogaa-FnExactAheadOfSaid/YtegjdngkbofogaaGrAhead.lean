/- AheadOf, of the specification and of the program. -/
import Derived.Test.YtegjdngkbofogaaGrWalk
import Derived.Test.YtegjdngkbofogaaGrChart
import Derived.Test.YtegjdngkbofogaaGaSpec2
import Derived.Test.YtegjdngkbofogaaGaImpl
import Derived.Laws.EntriesVeiled
namespace Go.Proofs.Ytegjdngkbofogaa
open Go.RowKit

/-- What AheadOf answers. -/
def AhR (g : Gr) (x y : Int) (r : Bool) : Prop := r = true ↔ (rightG g = true ∧ Way (pvOf g.evs) y x)
theorem AhR.ex (g : Gr) (x y : Int) : ∃ r, AhR g x y r := by
  by_cases h : rightG g = true ∧ Way (pvOf g.evs) y x
  · exact ⟨true, ⟨fun _ => h, fun _ => rfl⟩⟩
  · exact ⟨false, ⟨fun e => (by cases e), fun e => absurd e h⟩⟩
theorem AhR.bad {g : Gr} {x y : Int} {r : Bool} (h : AhR g x y r) (hr : rightG g = false) : r = false := bool_no h (fun c => by rw [hr] at c; cases c.1)
theorem AhR.way {g : Gr} {x y : Int} {r : Bool} (h : AhR g x y r) (hr : rightG g = true) : r = true ↔ Way (pvOf g.evs) y x := ⟨fun e => (h.1 e).2, fun e => h.2 ⟨hr, e⟩⟩
theorem AhR.same {g h : Gr} {x y : Int} {r : Bool} (hh : AhR g x y r) (hr : h.room = g.room) (he : h.evs.map (·.v) = g.evs.map (·.v)) (hp : h.pk.map (·.v) = g.pk.map (·.v)) : AhR h x y r := by
  have ep : pvOf h.evs = pvOf g.evs := funext fun id => by rw [pvOf_v, pvOf_v, he]
  unfold AhR
  rw [rightG_same hr he hp, ep]
  exact hh
set_option maxHeartbeats 4000000 in
set_option maxRecDepth 100000 in
theorem aheadOf_spec (g : Gr) (x y : Int) (r : Bool) (har : AhR g x y r) (a : Option Addr) (cap : Nat) (p : Option Addr) (cp : Nat) (w : World) (h : EvsAt w a g.evs) (h2 : EvsAt w p g.pk) :
    Calls Try.prog 31 #[.agg #[.int .i64 g.room, .slice a g.evs.length cap, .slice p g.pk.length cp], .int .i64 x, .int .i64 y] w fun e w' => e = .returned (.bool r) ∧ Below w.heap.size w w' := by
  have HB : Hid (∀ o, Below w.heap.size w (w.alloc o)) := fun o => (Below.refl _ _).alloc (Nat.le_refl _) o
  have HE : Hid (∀ w', Below w.heap.size w w' → EvsAt w' a g.evs) := fun w' hb => h.kept hb
  have HG := fun o => graph_spec g a cap p cp (w.alloc o) (h.kept (HB.out o)) (h2.kept (HB.out o))
  clear h h2
  cases hr : rightG g
  · have HS : Hid (r = false) := har.bad hr
    clear har
    go_enter Try.func31, Try.ntmps31
    go_wp2_with (go_at_call 25; refine (HG _).mono ?_; rintro e w1 ⟨rfl, hb1⟩; rw [hr]; have HW1 : Hid (Below w.heap.size w w1) := (HB.out _).trans (hb1.mono (by simp)); clear hb1)
    go_ret
    exact ⟨ret_bool HS.out.symm, HW1.out⟩
  · have HWY : Hid (r = true ↔ Way (pvOf g.evs) y x) := har.way hr
    have HR : Hid (rightG g = true) := hr
    clear har
    go_enter Try.func31, Try.ntmps31
    go_wp2_with (first
      | (go_at_call 25; refine (HG _).mono ?_; rintro e w1 ⟨rfl, hb1⟩; rw [hr]; obtain ⟨hc1, hf1⟩ := bcell hb1; have hz1 : w.heap.size < w1.heap.size := (by have := hb1.size; simp at this; omega); have HW1 : Hid (Below w.heap.size w w1) := (HB.out _).trans (hb1.mono (by simp)); clear hb1)
      | (go_at_call 67; refine (ahead03_spec g x y r HWY.out a cap p cp _ (HE.out _ HW1.out) HR.out).mono ?_; rintro e w2 ⟨rfl, hb2⟩; have HW2 : Hid (Below w.heap.size w w2) := HW1.out.trans (hb2.mono (Nat.le_of_lt hz1)); clear hb2))
    go_ret
    exact ⟨rfl, HW2.out⟩
theorem look_ev0 {w : World} {b n : Nat} {es : List Em} (h : w.ownsMap Try.prog 2 heldR b n (putAll es)) {id : Int} (hno : id ∉ idsOf es) (hid : -9223372036854775808 ≤ id ∧ id ≤ 9223372036854775807) :
    (Instr.lookup 97 (.map (some b)) (.int .i64 id) false).run Try.prog w = .ok zeroVal w := by
  obtain ⟨v, ps, hrun, hv⟩ := h.lookup (Maps.int_keyed (P := Try.prog) Try.underlying2) Try.underlying97 (zero_event w) (zd := .held zeroVal) (zp := []) rfl (Maps.keyOf_int_mk Try.underlying2 (WalkArith.wf_i64 hid))
  rcases at_fold_putAll id es (.map []) ⟨[], rfl⟩ with ⟨_, h2⟩ | ⟨m, hm, h1, _⟩
  · have e : (putAll es).atKey (.int .i64 id) (.held zeroVal) = .held zeroVal := h2 _
    rw [e] at hv
    have hvz : v = zeroVal := by
      simp only [heldR, Option.some.injEq, Prod.mk.injEq, DataW.held.injEq] at hv
      exact hv.1
    rw [hrun, hvz]
  · exact absurd (List.mem_map.2 ⟨m, hm, h1⟩) hno
set_option maxHeartbeats 2000000 in
set_option maxRecDepth 100000 in
/-- A call at an Id that is not there. -/
theorem walk_none (evs : List Em) (be ne bp bt Bs Bf Bw : Nat) (w0 : World) (hin : RkIn w0 evs be ne) (id : Int) (hno : id ∉ idsOf evs) (hid : -9223372036854775808 ≤ id ∧ id ≤ 9223372036854775807) (l : List Int) (W : World) (h : WkAt w0 be bp bt Bs Bf Bw l W) :
    Calls Try.prog 96 #[.int .i64 id, .pointer (some ⟨Bs, 0, none⟩), .pointer (some ⟨Bf, 0, none⟩), .pointer (some ⟨Bw, 0, none⟩)] W fun e W' => e = .returned (.tuple #[]) ∧ W = W' := by
  have hlk := look_ev0 (ownsMap_below hin.map h.below) hno hid
  unfold zeroVal at hlk
  have hs0 : W.cell? ⟨Bs, 0, none⟩ = some (.map (some be)) := cell_of_heap h.sv
  have hfd : (Instr.field 27 (.agg #[.int .i64 0, .int .i64 0, .int .i64 0, .int .i64 0, .int .i64 0, .int .i64 0, .string ⟨#[]⟩, .slice none 0 0, .int .i64 0]) 7).run Try.prog W = .ok (.slice none 0 0) W := (by kernel_rfl)
  clear h hin hno
  go_enter Try.func96, Try.ntmps96
  go_wp2
  go_loopw [6, 7, 8, 15] (fun _ _ _ i wr => i = .int .i64 (0 : Nat) ∧ Hid (W = wr)) (fun _ _ _ i _ => 0)
  case atStart => exact ⟨rfl, (rfl : W = W)⟩
  case round =>
    obtain ⟨rfl, HW⟩ := hrel
    go_wp2
    go_end0
    exact ⟨rfl, HW.out⟩
/-- What allAhead hands back. -/
def AllPost (w : World) (evs : List Em) (id : Int) (e : Ending) (w' : World) : Prop := ∃ bt l, e = .returned (.map (some bt)) ∧ w'.ownsMap Try.prog 2 heldR bt l.length (putU l) ∧ (∀ a, a ∈ l ↔ Way (pvOf evs) id a) ∧ Below w.heap.size w w'
set_option maxHeartbeats 4000000 in
set_option maxRecDepth 100000 in
theorem allAhead_impl (evs : List Em) (be ne bp : Nat) (id : Int) (hid : -9223372036854775808 ≤ id ∧ id ≤ 9223372036854775807) (w : World) (h : RkIn w evs be ne) (hpvn : ∀ x, x ∉ idsOf evs → pvOf evs x = none) :
    Calls Try.prog 68 #[.agg #[.map (some be), .map (some bp)], .int .i64 id] w (AllPost w evs id) := by
  have H : Hid (RkIn w evs be ne) := h
  have HPN : Hid (∀ x, x ∉ idsOf evs → pvOf evs x = none) := hpvn
  have hbe := h.map.lt
  clear h hpvn
  have hmf : ∀ (fn : Fn) (first cap : Array Value) (w : World), (Instr.makeFunc fn first cap).run Try.prog w = .ok (.func fn first cap) w := fun _ _ _ _ => rfl
  have hmm : ∀ W : World, (Instr.makeMap 96 none).run Try.prog W = .ok (.map (some W.heap.size)) (W.alloc (.map #[] 0)) := fun _ => rfl
  have HX : Hid (WkAt w be bp (w.heap.size + 1) w.heap.size (w.heap.size + 1 + 1) (w.heap.size + 1 + 1 + 1) [] ((((w.alloc (.cells #[.map (some be), .map (some bp)] 99)).alloc (.map #[] 0)).alloc (.cells #[.map (some (w.heap.size + 1))] 96)).alloc (.cells #[.func (.func 96) #[] #[.pointer (some ⟨w.heap.size, 0, none⟩), .pointer (some ⟨w.heap.size + 1 + 1, 0, none⟩), .pointer (some ⟨w.heap.size + 1 + 1 + 1, 0, none⟩)]] 147))) := by
    have e1 : ∀ o : Obj, (w.alloc o).heap.size = w.heap.size + 1 := fun _ => by simp
    refine ⟨((((Below.refl _ _).alloc (Nat.le_refl _) _).alloc (by simp) _).alloc (by simp; omega) _).alloc (by simp; omega) _, ?_, ?_, ?_, ?_, Nat.le_succ _⟩
    · exact (Below.heap_alloc _ _ _ (by simp; omega)).trans ((Below.heap_alloc _ _ _ (by simp; omega)).trans ((Below.heap_alloc _ _ _ (by simp)).trans (MapKept.heap_alloc w _).1))
    · refine (Below.heap_alloc _ _ _ (by simp)).trans ?_
      have := (MapKept.heap_alloc ((w.alloc (.cells #[.map (some be), .map (some bp)] 99)).alloc (.map #[] 0)) (.cells #[.map (some (w.heap.size + 1))] 96)).1
      simpa using this
    · have := (MapKept.heap_alloc (((w.alloc (.cells #[.map (some be), .map (some bp)] 99)).alloc (.map #[] 0)).alloc (.cells #[.map (some (w.heap.size + 1))] 96)) (.cells #[wkFn w.heap.size (w.heap.size + 1 + 1) (w.heap.size + 1 + 1 + 1)] 147)).1
      unfold wkFn at this ⊢
      simpa using this
    · have := World.ownsMap_made (H := Value) (w.alloc (.cells #[.map (some be), .map (some bp)] 99)) Try.prog 2 heldR
      rw [e1] at this
      exact (this.alloc _).alloc _
  go_enter Try.func68, Try.ntmps68
  by_cases hin : id ∈ idsOf evs
  · have HIN : Hid (id ∈ idsOf evs) := hin
    clear hin
    go_wp2_with fail
    refine (walk_all evs be ne bp (w.heap.size + 1) w.heap.size (w.heap.size + 1 + 1) (w.heap.size + 1 + 1 + 1) w H.out _ id [] (Nat.le_refl _) _ HIN.out (fun x hx => by cases hx) (by rw [lacks_none]; have := H.out.len; simp [idsOf]; omega) HX.out).mono ?_
    rintro e w2 ⟨l2, rfl, hleft, hg2, hown2⟩
    have HM2 : Hid (WkAt w be bp (w.heap.size + 1) w.heap.size (w.heap.size + 1 + 1) (w.heap.size + 1 + 1 + 1) l2 w2) := HX.out.step hg2 hown2
    have HL2 : Hid (WLeft (pvOf evs) (idsOf evs) id [] l2) := hleft
    have hfv : w2.cell? ⟨w.heap.size + 1 + 1, 0, none⟩ = some (.map (some (w.heap.size + 1))) := cell_of_heap HM2.out.fv
    clear hleft hg2 hown2
    go_wp2
    go_ret
    exact ⟨_, l2, rfl, HM2.out.tab, HL2.out.all, HM2.out.below⟩
  · have HNO : Hid (id ∉ idsOf evs) := hin
    clear hin
    go_wp2_with fail
    refine (walk_none evs be ne bp (w.heap.size + 1) w.heap.size (w.heap.size + 1 + 1) (w.heap.size + 1 + 1 + 1) w H.out id HNO.out hid [] _ HX.out).mono ?_
    rintro e w2 ⟨rfl, rfl⟩
    have HL2 : Hid (WLeft (pvOf evs) (idsOf evs) id [] []) := WLeft.none (fun x hx => by cases hx) (HPN.out id HNO.out)
    go_wp2
    go_ret
    exact ⟨_, [], rfl, HX.out.tab, HL2.out.all, HX.out.below⟩
theorem right_rk {w W : World} {g : Gr} {a : Option Addr} {be : Nat} (hr : rightG g = true) (h : EvsAt w a g.evs) (hb : Below w.heap.size w W) (hm : W.ownsMap Try.prog 2 heldR be g.evs.length (putAll g.evs)) : RkIn W g.evs be g.evs.length := by
  have hr' := hr
  unfold rightG at hr'
  simp only [Bool.and_eq_true] at hr'
  exact ⟨hm, fun m hmm => (h.kept hb).nums m hmm, (right_nd hr).1, fun m hmm => (right_in (rowB_each hr'.1.1.1.1.2 hmm).1).1, evsB_prevs hr'.1.1.2, (right_nd hr).2⟩
theorem pvOf_out (evs : List Em) (x : Int) (hx : x ∉ idsOf evs) : pvOf evs x = none := by
  cases c : pvOf evs x with
  | none => rfl
  | some ps => exact absurd (pvOf_mem c) hx
set_option maxHeartbeats 4000000 in
set_option maxRecDepth 100000 in
theorem aheadOf_impl (g : Gr) (x y : Int) (r : Bool) (har : AhR g x y r) (hx : -9223372036854775808 ≤ x ∧ x ≤ 9223372036854775807) (hy : -9223372036854775808 ≤ y ∧ y ≤ 9223372036854775807) (a : Option Addr) (cap : Nat) (p : Option Addr) (cp : Nat) (w : World) (h : EvsAt w a g.evs) (h2 : EvsAt w p g.pk) :
    Calls Try.prog 32 #[.agg #[.int .i64 g.room, .slice a g.evs.length cap, .slice p g.pk.length cp], .int .i64 x, .int .i64 y] w fun e w' => e = .returned (.bool r) ∧ Below w.heap.size w w' := by
  have HB : Hid (∀ o, Below w.heap.size w (w.alloc o)) := fun o => (Below.refl _ _).alloc (Nat.le_refl _) o
  have HC := fun o => chart_impl g a cap p cp (w.alloc o) (h.kept (HB.out o)) (h2.kept (HB.out o))
  have HE : Hid (EvsAt w a g.evs) := h
  clear h h2
  cases hr : rightG g
  · have HS : Hid (r = false) := har.bad hr
    clear har
    go_enter Try.func32, Try.ntmps32
    go_wp2_with fail
    refine (HC _).mono ?_
    rintro e w1 (⟨_, rfl, hb1⟩ | ⟨h1, _⟩)
    · have HW : Hid (Below w.heap.size w w1) := (HB.out _).trans (hb1.mono (by simp))
      clear hb1
      go_wp2
      go_ret
      exact ⟨ret_bool HS.out.symm, HW.out⟩
    · rw [hr] at h1
      cases h1
  · have HWY : Hid (r = true ↔ Way (pvOf g.evs) y x) := har.way hr
    have HR : Hid (rightG g = true) := hr
    clear har
    go_enter Try.func32, Try.ntmps32
    go_wp2_with fail
    refine (HC _).mono ?_
    rintro e w1 (⟨h1, _⟩ | ⟨_, bc, be, bp, bt, l, rfl, hch⟩)
    · rw [hr] at h1
      cases h1
    · have HW : Hid (Below w.heap.size w w1) := (HB.out _).trans (hch.below.mono (by simp))
      have HRK : Hid (RkIn w1 g.evs be g.evs.length) := right_rk HR.out HE.out HW.out hch.evs
      have hq0 : w1.cell? ⟨bc, 0, none⟩ = some (.map (some be)) := cell_of_heap hch.ch
      have hq1 : w1.cell? ⟨bc, 1, none⟩ = some (.map (some bp)) := cell_of_heap hch.ch
      clear hch
      go_wp2_with fail
      refine (allAhead_impl g.evs be g.evs.length bp y hy w1 HRK.out (pvOf_out g.evs)).mono ?_
      rintro e w2 ⟨bt2, l2, rfl, hown2, hall, hb2⟩
      have HW2 : Hid (Below w.heap.size w w2) := HW.out.trans (hb2.mono HW.out.size)
      have HB2 : Hid (∀ o, Below w.heap.size w (w2.alloc o)) := fun o => HW2.out.alloc HW2.out.size o
      have hlk := look_U hown2 hx
      have hrd : decide (x ∈ l2) = r := by
        have h3 := hall x
        have h4 := HWY.out
        cases r
        · refine decide_eq_false fun c => ?_
          have := h4.2 (h3.1 c)
          cases this
        · exact decide_eq_true (h3.2 (h4.1 rfl))
      rw [hrd] at hlk
      clear hown2 hall hb2 hrd
      go_wp2
      go_ret
      exact ⟨rfl, HB2.out _⟩
end Go.Proofs.Ytegjdngkbofogaa
