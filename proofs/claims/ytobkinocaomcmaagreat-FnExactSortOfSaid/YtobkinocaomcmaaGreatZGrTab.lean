/- A table of numbers by Ids, in a map: looks into it, and one step of a range over it. -/
import Derived.Test.YtobkinocaomcmaaGreatZGrRk
import Derived.Test.YtobkinocaomcmaaGreatZGrRange
namespace Go.Proofs.YtobkinocaomcmaaGreat
open Go.RowKit

/-- A map of such puts. -/
def putL : List (Int × Int) → DataW Value
  | [] => .map []
  | (k, v) :: l => (putL l).put (.int .i64 k) (.held (.int .i64 v))
theorem putL_isMap : ∀ l, Maps.IsMap (putL l)
  | [] => ⟨[], rfl⟩
  | (k, v) :: l => by
    obtain ⟨xs, h⟩ := putL_isMap l
    unfold putL
    rw [h]
    exact ⟨_, rfl⟩
theorem has_putL : ∀ (l : List (Int × Int)) (id : Int), Maps.has (putL l) (.int .i64 id) = (look l id).isSome
  | [], id => by simp [putL, look, Maps.has_eq]
  | (k, v) :: l, id => by
    unfold putL
    by_cases e : k = id
    · subst e
      rw [Maps.has_put_same (putL_isMap l) (by trivial), look_same]
      rfl
    · rw [Maps.has_put_other (lit_ne fun h => e h.symm), has_putL l id, look_ne e]
theorem at_putL : ∀ (l : List (Int × Int)) (id : Int) (z : DataW Value), (putL l).atKey (.int .i64 id) z = match look l id with | some v => .held (.int .i64 v) | none => z
  | [], _, _ => rfl
  | (k, v) :: l, id, z => by
    unfold putL
    by_cases e : k = id
    · subst e
      rw [look_same]
      exact Maps.atKey_put_same (putL_isMap l) (by trivial) _ z
    · rw [look_ne e, ← at_putL l id z]
      exact Maps.atKey_put_other (lit_ne fun h => e h.symm) _ z
theorem zero_i64 (w : World) : (zeroValue 2).run Tryz.prog w = .ok (.int .i64 0) w := by kernel_rfl
/-- A look into the table, with whether it is there. -/
theorem look_tab {w : World} {b n : Nat} {l : List (Int × Int)} (h : w.ownsMap Tryz.prog 2 heldR b n (putL l)) {id : Int} (hid : -9223372036854775808 ≤ id ∧ id ≤ 9223372036854775807) :
    (Instr.lookup 89 (.map (some b)) (.int .i64 id) true).run Tryz.prog w = .ok (.tuple #[.int .i64 ((look l id).getD 0), .bool (look l id).isSome]) w := by
  obtain ⟨v, ps, hrun, hv⟩ := h.look_ok (Maps.int_keyed (P := Tryz.prog) Tryz.underlying2) Tryz.underlying89 (zero_i64 w) (zd := .held (.int .i64 0)) (zp := []) rfl (Maps.keyOf_int_mk Tryz.underlying2 (WalkArith.wf_i64 hid))
  rw [has_putL] at hrun
  rw [at_putL] at hv
  have hvz : v = .int .i64 ((look l id).getD 0) := by
    cases c : look l id with
    | none =>
      rw [c] at hv
      simp only [heldR, Option.some.injEq, Prod.mk.injEq, DataW.held.injEq] at hv
      exact hv.1
    | some x =>
      rw [c] at hv
      simp only [heldR, Option.some.injEq, Prod.mk.injEq, DataW.held.injEq] at hv
      exact hv.1
  rw [hrun, hvz]
theorem putL_at {l : List (Int × Int)} {id : Int} {c : Value} (h : ∀ z, (putL l).atKey (.int .i64 id) z = .held c) : ∃ v, look l id = some v ∧ c = .int .i64 v := by
  cases e : look l id with
  | none =>
    have h1 := h (.held (.bool true))
    have h2 := h (.held (.bool false))
    rw [at_putL, e] at h1 h2
    have := h1.trans h2.symm
    simp at this
  | some v =>
    refine ⟨v, rfl, ?_⟩
    have h1 := h (.held c)
    rw [at_putL, e] at h1
    simpa using h1.symm
theorem wpList_next_tab {w : World} {ops : Array Oper} {rest : List Oper} {o : Oper} {a : Act} {Q : Exit → Act → World → Prop} (hg : o.guard = none) (it : Operand) (hop : o.op = Op.next it false) (b r n : Nat) (l : List (Int × Int)) (left : Lit → Bool) (cnt : Nat)
    (hit : a.eval it = .pointer (some ⟨r, 0, none⟩)) (h : w.ranges Tryz.prog 2 heldR b r n (putL l) left cnt)
    (hDone : cnt = 0 → (∀ kl, left kl = false) → wpList Tryz.prog ops Q rest (a.put o.dst (.tuple #[.bool false])) w)
    (hMore : ∀ (id v : Int) (w' : World) (cnt' : Nat), look l id = some v → left (.int .i64 id) = true → w'.ranges Tryz.prog 2 heldR b r n (putL l) (fun z => left z && !z.sameKey (.int .i64 id)) cnt' → cnt' < cnt → w.grownBy w' (some r) → w'.heap.size = w.heap.size →
      (Instr.entry (.pointer (some ⟨r, 0, none⟩))).run Tryz.prog w' = .ok (.tuple #[.int .i64 id, .int .i64 v]) w' → wpList Tryz.prog ops Q rest (a.put o.dst (.tuple #[.bool true, .int .i64 id, .int .i64 v])) w') :
    wpList Tryz.prog ops Q (o :: rest) a w :=
  wpList_next_ranges w hg it hop 2 (Maps.int_keyed (P := Tryz.prog) Tryz.underlying2) heldR (Value.int .i64) id (fun key kl hkey => by
      obtain ⟨x, rfl, _⟩ := Maps.keyOf_int_inv Tryz.underlying2 hkey
      exact ⟨x, rfl⟩) (fun v _ _ => ⟨v, rfl⟩) b r n (putL l) left cnt hit h hDone (fun x c kl y w' cnt' hkey hlk hv hat hrg hlt hgr hsz hen => by
    obtain ⟨x', ex, rfl, _⟩ := Maps.keyOf_int_inv Tryz.underlying2 hkey
    cases ex
    have hy : y.1 = .held c := by
      have h1 : heldR c = some y := hv
      unfold heldR at h1
      cases h1
      rfl
    rw [hy] at hat
    obtain ⟨v, hlv, rfl⟩ := putL_at hat
    exact hMore x v w' cnt' hlv hlk hrg hlt hgr hsz hen)
end Go.Proofs.YtobkinocaomcmaaGreat
