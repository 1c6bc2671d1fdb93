/- A row that is sorted in its place: what stands while it is, what its comparing function says, and two parts of it changed for each other. -/
import Derived.Test.YtobkinocaomcmaaGreatZSsPlain
import Derived.Test.YtobkinocaomcmaaGreatZGrTab
import Derived.BigQuiet
namespace Go.Proofs.YtobkinocaomcmaaGreat
open Go.RowKit

def cmpZ (x y : Int) : Int := if x < y then -1 else if y < x then 1 else 0
theorem cmpZ_lt {x y : Int} (h : x < y) : cmpZ x y = -1 := if_pos h
theorem cmpZ_cases (x y : Int) : (x < y ∧ cmpZ x y = -1) ∨ (y < x ∧ cmpZ x y = 1) ∨ (x = y ∧ cmpZ x y = 0) := by
  unfold cmpZ
  by_cases h1 : x < y
  · exact .inl ⟨h1, if_pos h1⟩
  · by_cases h2 : y < x
    · exact .inr (.inl ⟨h2, by rw [if_neg h1, if_pos h2]⟩)
    · exact .inr (.inr ⟨by omega, by rw [if_neg h1, if_neg h2]⟩)
theorem cmpZ_neg (x y : Int) : decide (cmpZ x y < 0) = decide (x < y) := by
  rcases cmpZ_cases x y with ⟨h, e⟩ | ⟨h, e⟩ | ⟨h, e⟩ <;> rw [e]
  · rw [decide_eq_true h]; rfl
  · rw [decide_eq_false (show ¬ x < y by omega)]; rfl
  · rw [decide_eq_false (show ¬ x < y by omega)]; rfl
/-- A look into the table, without 'ok'. -/
theorem look_tabZ {w : World} {b n : Nat} {l : List (Int × Int)} (h : w.ownsMap Tryz.prog 2 heldR b n (putL l)) {id : Int} (hid : -9223372036854775808 ≤ id ∧ id ≤ 9223372036854775807) :
    (Instr.lookup 89 (.map (some b)) (.int .i64 id) false).run Tryz.prog w = .ok (.int .i64 ((look l id).getD 0)) w := by
  obtain ⟨v, ps, hrun, hv⟩ := h.lookup (Maps.int_keyed (P := Tryz.prog) Tryz.underlying2) Tryz.underlying89 (zero_i64 w) (zd := .held (.int .i64 0)) (zp := []) rfl (Maps.keyOf_int_mk Tryz.underlying2 (WalkArith.wf_i64 hid))
  rw [at_putL] at hv
  have hvz : v = .int .i64 ((look l id).getD 0) := by
    cases c : look l id with
    | none =>
      rw [c] at hv
      simp only [heldR, Option.some.injEq, Prod.mk.injEq, DataW.held.injEq] at hv
      exact hv.1
    | some x =>
      rw [c] at hv
      simp only [heldR, Option.some.injEq, Prod.mk.injEq, DataW.held.injEq] at hv
      exact hv.1
  rw [hrun, hvz]
/-- The other number of each: its depth in the table. -/
def dpL (l : List (Int × Int)) (x : Int) : Int := (look l x).getD 0
abbrev cmpFn (Bd : Nat) : Value := .func (.func 105) #[] #[.pointer (some ⟨Bd, 0, none⟩)]
/-- The row while it is sorted: d tells what stands at each place; nothing else is written. -/
structure Sv (W0 : World) (g n Bd bt nt : Nat) (l : List (Int × Int)) (d : Nat → Int) (W : World) : Prop where
  os : W.os = W0.os
  tape : W.tape = W0.tape
  output : W.output = W0.output
  size : W0.heap.size ≤ W.heap.size
  keep : ∀ q, q < W0.heap.size → q ≠ g → W.heap[q]? = W0.heap[q]?
  lt : g < W.heap.size
  cell : ∀ j, j < n → W.cell? ⟨g, j, none⟩ = some (.int .i64 (d j))
  froz : ∀ q, W.frozen? ⟨g, q, none⟩ = false
  var : W.heap[Bd]? = some (.cells #[.map (some bt)] 89 (0, 0))
  tab : W.ownsMap Tryz.prog 2 heldR bt nt (putL l)
  rng : ∀ j, j < n → -9223372036854775808 ≤ d j ∧ d j ≤ 9223372036854775807
  ne1 : Bd ≠ g
  ne2 : bt ≠ g
variable {W0 : World} {g n Bd bt nt : Nat} {l : List (Int × Int)} {d : Nat → Int} {W W' : World}
theorem Sv.drewN (h : Sv W0 g n Bd bt nt l d W) (k : Nat) : Sv W0 g n Bd bt nt l d (W.drewN k) := ⟨h.os, h.tape, h.output, h.size, h.keep, h.lt, h.cell, h.froz, h.var, h.tab, h.rng, h.ne1, h.ne2⟩
theorem Sv.drew (h : Sv W0 g n Bd bt nt l d W) : Sv W0 g n Bd bt nt l d W.drew := ⟨h.os, h.tape, h.output, h.size, h.keep, h.lt, h.cell, h.froz, h.var, h.tab, h.rng, h.ne1, h.ne2⟩
theorem Sv.set (h : Sv W0 g n Bd bt nt l d W) {i : Nat} (hi : i < n) {v : Int} (hv : -9223372036854775808 ≤ v ∧ v ≤ 9223372036854775807) : Sv W0 g n Bd bt nt l (updF d i v) (W.setCell ⟨g, i, none⟩ (.int .i64 v)) := by
  have other : ∀ q, q ≠ g → (W.setCell ⟨g, i, none⟩ (.int .i64 v)).heap[q]? = W.heap[q]? := fun q hq => Below.heap_setCell _ _ _ _ hq
  refine ⟨h.os, h.tape, h.output, by simpa using h.size, fun q hq hne => (other q hne).trans (h.keep q hq hne), by simpa using h.lt, fun j hj => ?_, fun q => by rw [World.frozen?_setCell]; exact h.froz q, (other _ h.ne1).trans h.var, ?_, fun j hj => ?_, h.ne1, h.ne2⟩
  · unfold updF
    by_cases e : j = i
    · rw [if_pos e, e]
      exact World.cell?_setCell_same _ _ _ (h.cell i hi)
    · rw [if_neg e, World.cell?_setCell_other _ ⟨g, i, none⟩ ⟨g, j, none⟩ _ (fun c => e (congrArg Addr.off c).symm)]
      exact h.cell j hj
  · obtain ⟨es, clock, h1, r⟩ := h.tab
    exact ⟨es, clock, (other bt h.ne2).trans h1, r⟩
  · unfold updF
    by_cases e : j = i
    · rw [if_pos e]; exact hv
    · rw [if_neg e]; exact h.rng j hj
theorem Sv.eq {d' : Nat → Int} (h : Sv W0 g n Bd bt nt l d W) (e : d = d') : Sv W0 g n Bd bt nt l d' W := e ▸ h
set_option maxHeartbeats 1000000 in
set_option maxRecDepth 100000 in
theorem compareZ (x y : Int) (w : World) : Calls Tryz.prog 106 #[.int .i64 x, .int .i64 y] w fun e w' => e = .returned (.int .i64 (cmpZ x y)) ∧ w = w' := by
  rcases cmpZ_cases x y with ⟨h1, h⟩ | ⟨h1, h⟩ | ⟨h1, h⟩
  · have HS : Hid (cmpZ x y = -1) := h
    clear h
    go_enter Tryz.func106, Tryz.ntmps106
    go_wp2
    go_ret
    exact ⟨ret_int HS.out.symm, rfl⟩
  · have HS : Hid (cmpZ x y = 1) := h
    have hb : decide (x < y) = false := decide_eq_false (by omega)
    clear h
    go_enter Tryz.func106, Tryz.ntmps106
    go_wp2
    go_ret
    exact ⟨ret_int HS.out.symm, rfl⟩
  · have HS : Hid (cmpZ x y = 0) := h
    subst h1
    clear h
    go_enter Tryz.func106, Tryz.ntmps106
    go_wp2
    go_ret
    exact ⟨ret_int HS.out.symm, rfl⟩
set_option maxHeartbeats 1000000 in
set_option maxRecDepth 100000 in
theorem cmp_call (x y : Int) (hx : -9223372036854775808 ≤ x ∧ x ≤ 9223372036854775807) (hy : -9223372036854775808 ≤ y ∧ y ≤ 9223372036854775807) (W : World) (h : Sv W0 g n Bd bt nt l d W) :
    Calls Tryz.prog 105 #[.int .i64 x, .int .i64 y, .pointer (some ⟨Bd, 0, none⟩)] W fun e w' => e = .returned (.int .i64 (cmpZ (dpL l x) (dpL l y))) ∧ W = w' := by
  have hlx : (Instr.lookup 89 (.map (some bt)) (.int .i64 x) false).run Tryz.prog W = .ok (.int .i64 (dpL l x)) W := look_tabZ h.tab hx
  have hly : (Instr.lookup 89 (.map (some bt)) (.int .i64 y) false).run Tryz.prog W = .ok (.int .i64 (dpL l y)) W := look_tabZ h.tab hy
  have hv : W.cell? ⟨Bd, 0, none⟩ = some (.map (some bt)) := cell_of_heap h.var
  clear h hx hy
  go_enter Tryz.func105, Tryz.ntmps105
  go_wp2_with (go_at_call 106; refine (compareZ (dpL l x) (dpL l y) _).mono ?_; rintro e w1 ⟨rfl, rfl⟩)
  go_ret
  exact ⟨rfl, rfl⟩
theorem wrap_nat {z : Int} {k : Nat} (h : z = k) (hk : k ≤ 10000000) : wrap64 z = (k : Int) := by
  unfold wrap64
  omega
theorem wrap_natI {z : Int} {k : Nat} (h : z = k) (hk : k ≤ 10000000) : IntKind.i64.wrap z = (k : Int) := by
  rw [IntKind.wrap_i64]
  omega
set_option maxHeartbeats 2000000 in
set_option maxRecDepth 100000 in
theorem swap_range (x y k cap : Nat) (f : Value) (W : World) (h : Sv W0 g n Bd bt nt l d W) (hx : x + k ≤ y) (hy : y + k ≤ n) (hn : n ≤ 1000000) :
    Calls Tryz.prog 166 #[.slice (some ⟨g, 0, none⟩) n cap, .int .i64 x, .int .i64 y, .int .i64 k, f] W fun e w' => e = .returned (.tuple #[]) ∧ Sv W0 g n Bd bt nt l (swpF d x y k) w' := by
  have H : Hid (Sv W0 g n Bd bt nt l (swpF d x y 0) W) := by rw [swpF_zero]; exact h
  clear h
  go_enter Tryz.func166, Tryz.ntmps166
  go_wp2
  go_loopw [10] (fun ii wr => ∃ i : Nat, i ≤ k ∧ ii = .int .i64 i ∧ Hid (Sv W0 g n Bd bt nt l (swpF d x y i) wr)) (fun ii _ => k - (intOf ii).toNat)
  case atStart => exact ⟨0, Nat.zero_le _, rfl, H.out⟩
  case round =>
    obtain ⟨i, hik, rfl, HS⟩ := hrel
    by_cases hlt : i < k
    · obtain ⟨u, HU⟩ : ∃ u, Hid (u = swpF d x y i (x + i)) := ⟨swpF d x y i (x + i), (rfl : swpF d x y i (x + i) = _)⟩
      obtain ⟨v, HV⟩ : ∃ v, Hid (v = swpF d x y i (y + i)) := ⟨swpF d x y i (y + i), (rfl : swpF d x y i (y + i) = _)⟩
      obtain ⟨xi, HXI⟩ : ∃ q : Nat, Hid (q = x + i) := ⟨x + i, (rfl : x + i = _)⟩
      obtain ⟨yi, HYI⟩ : ∃ q : Nat, Hid (q = y + i) := ⟨y + i, (rfl : y + i = _)⟩
      have hxi := HXI.out
      have hyi := HYI.out
      have hlx : xi < n := by omega
      have hly : yi < n := by omega
      have hk1 : i + 1 ≤ k := by omega
      clear hxi hyi
      have hcx : wr.cell? ⟨g, xi, none⟩ = some (.int .i64 u) := by rw [HU.out, HXI.out]; exact HS.out.cell _ (by omega)
      have hcy : wr.cell? ⟨g, yi, none⟩ = some (.int .i64 v) := by rw [HV.out, HYI.out]; exact HS.out.cell _ (by omega)
      have hf := HS.out.froz
      have HN : Hid (∀ q, Sv W0 g n Bd bt nt l (swpF d x y (i + 1)) (((wr.drewN q).setCell ⟨g, xi, none⟩ (.int .i64 v)).setCell ⟨g, yi, none⟩ (.int .i64 u))) := fun q => by
        have h1 := HS.out.drewN q
        have h2 := (h1.set (i := xi) hlx (v := v) (by rw [HV.out]; exact HS.out.rng _ (by omega))).set (i := yi) hly (v := u) (by rw [HU.out]; exact HS.out.rng _ (by omega))
        refine h2.eq ?_
        rw [HU.out, HV.out, HXI.out, HYI.out]
        exact swpF_step (by omega)
      have hxi := HXI.out
      have hyi := HYI.out
      obtain ⟨hw1, hw2, hw3, hw4⟩ : IntKind.i64.wrap ((x : Int) + (i : Int)) = (xi : Int) ∧ IntKind.i64.wrap ((y : Int) + (i : Int)) = (yi : Int) ∧ wrap64 ((x : Int) + (i : Int)) = (xi : Int) ∧ wrap64 ((y : Int) + (i : Int)) = (yi : Int) := ⟨wrap_natI (by omega) (by omega), wrap_natI (by omega) (by omega), wrap_nat (by omega) (by omega), wrap_nat (by omega) (by omega)⟩
      have hne : ¬ xi = yi := by have h1 := HXI.out; have h2 := HYI.out; have h3 : x + k ≤ y := hx; clear hw1 hw2 hw3 hw4; omega
      have hne' : ¬ yi = xi := fun e => hne e.symm
      clear hxi hyi
      clear HS
      go_wp2
      go_region
      all_goals clear hw1 hw2 hw3 hw4
      all_goals go_wp2
      all_goals go_roundw
      case rel => exact ⟨i + 1, hk1, by go_num, HN.out _⟩
      case measure => simp [intOf]; omega
    · have e : i = k := by omega
      have HE : Hid (Sv W0 g n Bd bt nt l (swpF d x y k) wr) := by rw [← e]; exact HS.out
      have hd : decide ((i : Int) < (k : Int)) = false := decide_eq_false (by omega)
      clear HS e
      go_wp2
      go_end0
      exact ⟨rfl, HE.out⟩

theorem swap_rangeZ (zx zy zk : Int) (x y k cap : Nat) (h1 : zx = x) (h2 : zy = y) (h3 : zk = k) (f : Value) (W : World) (h : Sv W0 g n Bd bt nt l d W) (hx : x + k ≤ y) (hy : y + k ≤ n) (hn : n ≤ 1000000) :
    Calls Tryz.prog 166 #[.slice (some ⟨g, 0, none⟩) n cap, .int .i64 zx, .int .i64 zy, .int .i64 zk, f] W fun e w' => e = .returned (.tuple #[]) ∧ Sv W0 g n Bd bt nt l (swpF d x y k) w' := by
  subst h1 h2 h3
  exact swap_range x y k cap f W h hx hy hn
end Go.Proofs.YtobkinocaomcmaaGreat
