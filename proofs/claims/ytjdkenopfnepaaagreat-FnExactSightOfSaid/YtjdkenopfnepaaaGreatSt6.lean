/- A map by kind and key: what it holds, looks into it. -/
import Derived.Test.YtjdkenopfnepaaaGreatSt5
import Derived.Maps.OwnSet
import Derived.Maps.Range
import Derived.WalkArith
import Derived.DeepKeys4
namespace Go.Proofs.YtjdkenopfnepaaaGreat
open Go.RowKit

theorem Tryz.laidOutSt : laidOutB Tryz.prog = true := by kernel_rfl
theorem Tryz.wideSt : (match Tryz.prog.underlying 171 with | some (.array _ _) | some (.struct _) => true | _ => false) = true := by rw [Tryz.underlying171]
theorem Tryz.rowSlot : (171 : TypeId) < Tryz.prog.types.size := of_decide_eq_true (by kernel_rfl)
set_option maxRecDepth 100000 in
theorem Tryz.deepSlot : Tryz.prog.keyTypeAt 2 171 = true := by kernel_rfl
set_option maxRecDepth 100000 in
theorem slot_law : WideMaps.KeyLaw Tryz.prog 171 := deep_law_laid Tryz.laidOutSt (m := 2) (by omega) Tryz.rowSlot Tryz.deepSlot Tryz.wideSt
theorem slot_keyed : Maps.Keyed Tryz.prog 171 := Maps.Keyed.of_law slot_law
/-- What a kind and a key read as, as a map's key. -/
def slotLit (k y : Int) : Lit := .string (keyBytes [.int .i64 k, .int .i64 y])
theorem Tryz.cellsSlot : Tryz.prog.cellsOf 171 = 2 := by kernel_rfl
theorem Tryz.cellsI64 : Tryz.prog.cellsOf 2 = 1 := by kernel_rfl
theorem Tryz.keySlot : Tryz.prog.keyType 171 = true := by kernel_rfl
set_option maxRecDepth 100000 in
theorem keyOf_slot {k y : Int} (hk : (Lit.int .i64 k).wf = true) (hy : (Lit.int .i64 y).wf = true) : keyOf Tryz.prog 171 (.agg #[.int .i64 k, .int .i64 y]) = some (slotLit k y) := by
  obtain ⟨n, hn⟩ : ∃ n, Tryz.prog.types.size = n + 1 := ⟨Tryz.prog.types.size - 1, by have : 0 < Tryz.prog.types.size := of_decide_eq_true (by kernel_rfl); omega⟩
  have hl : Tryz.prog.keyLits (Tryz.prog.types.size + 1) 171 [.int .i64 k, .int .i64 y] = some [.int .i64 k, .int .i64 y] := by
    rw [hn]
    unfold Program.keyLits
    rw [Tryz.underlying171]
    simp [Program.keyLits, Tryz.cellsSlot, Tryz.cellsI64, Tryz.underlying2, hk, hy]
  have hf : (Value.agg #[.int .i64 k, .int .i64 y]).formed Tryz.prog 171 = true := by simp [Value.formed, Tryz.underlying171, Tryz.cellsSlot]
  have hc : (Value.agg #[.int .i64 k, .int .i64 y]).cells.toList = [.int .i64 k, .int .i64 y] := rfl
  unfold keyOf
  rw [Tryz.underlying171]
  rw [Tryz.keySlot, hf, hc, hl]
  rfl
theorem slotLit_inj {k y k' y' : Int} (hk : (Lit.int .i64 k).wf = true) (hy : (Lit.int .i64 y).wf = true) (hk' : (Lit.int .i64 k').wf = true) (hy' : (Lit.int .i64 y').wf = true) (h : slotLit k y = slotLit k' y') : k = k' ∧ y = y' := by
  have h1 := keyOf_slot hk hy
  rw [h] at h1
  have := slot_law.inj h1 (keyOf_slot hk' hy')
  simpa using this
/-- Kind and key fit. -/
def EnIn (x : En) : Prop := (Lit.int .i64 x.kind).wf = true ∧ (Lit.int .i64 x.key).wf = true
/-- An element of a map reads as itself. -/
def heldS (v : Value) : Option (DataW Value × List MemPlace) := some (.held v, [])
/-- A map by its puts, the newest first. -/
def putS : List En → DataW Value
  | [] => .map []
  | x :: l => (putS l).put (slotLit x.kind x.key) (.held (.int .i64 x.id))
def lookS : List En → Int → Int → Option Int
  | [], _, _ => none
  | x :: l, k, y => if x.kind = k ∧ x.key = y then some x.id else lookS l k y
theorem putS_isMap : ∀ l, Maps.IsMap (putS l)
  | [] => ⟨[], rfl⟩
  | x :: l => by
    obtain ⟨xs, h⟩ := putS_isMap l
    unfold putS
    rw [h]
    exact ⟨_, rfl⟩
theorem at_putS {k y : Int} (hk : (Lit.int .i64 k).wf = true) (hy : (Lit.int .i64 y).wf = true) : ∀ (l : List En), (∀ x ∈ l, EnIn x) → ∀ z : DataW Value, (putS l).atKey (slotLit k y) z = match lookS l k y with | some v => .held (.int .i64 v) | none => z
  | [], _, _ => rfl
  | x :: l, hin, z => by
    have hx := hin x List.mem_cons_self
    have ih := at_putS hk hy l (fun u hu => hin u (List.mem_cons_of_mem _ hu)) z
    unfold putS lookS
    by_cases e : x.kind = k ∧ x.key = y
    · rw [if_pos e, e.1, e.2]
      exact Maps.atKey_put_same (putS_isMap l) (by trivial) _ z
    · rw [if_neg e, ← ih]
      exact Maps.atKey_put_other (fun h => e (slotLit_inj hx.1 hx.2 hk hy h.symm)) _ z
theorem zero_int64 (w : World) : (zeroValue 2).run Tryz.prog w = .ok (.int .i64 0) w := by kernel_rfl
theorem look_S {w : World} {b n : Nat} {l : List En} (h : w.ownsMap Tryz.prog 171 heldS b n (putS l)) (hin : ∀ x ∈ l, EnIn x) {k y : Int} (hk : (Lit.int .i64 k).wf = true) (hy : (Lit.int .i64 y).wf = true) :
    (Instr.lookup 75 (.map (some b)) (.agg #[.int .i64 k, .int .i64 y]) false).run Tryz.prog w = .ok (.int .i64 ((lookS l k y).getD 0)) w := by
  obtain ⟨v, ps, hrun, hv⟩ := h.lookup slot_keyed Tryz.underlying75 (zero_int64 w) (zd := .held (.int .i64 0)) (zp := []) rfl (keyOf_slot hk hy)
  rw [at_putS hk hy l hin] at hv
  have hvz : v = .int .i64 ((lookS l k y).getD 0) := by
    cases c : lookS l k y with
    | none =>
      rw [c] at hv
      simp only [heldS, Option.some.injEq, Prod.mk.injEq, DataW.held.injEq] at hv
      exact hv.1
    | some x =>
      rw [c] at hv
      simp only [heldS, Option.some.injEq, Prod.mk.injEq, DataW.held.injEq] at hv
      exact hv.1
  rw [hrun, hvz]
end Go.Proofs.YtjdkenopfnepaaaGreat
