/- A range over a map of events: one step. -/
import Derived.Test.YtdldblfopcbfeaaGreatDoorZGrReady
import Derived.Maps.RangeWalk
namespace Go.Proofs.YtdldblfopcbfeaaGreatDoor
open Go.RowKit

/-- What stands in such a map under a key is the event of that Id. -/
theorem putAll_at {es : List Em} {id : Int} {c : Value} (h : ∀ z, (putAll es).atKey (.int .i64 id) z = .held c) : ∃ m ∈ es, m.v.id = id ∧ c = emVal m := by
  rcases at_fold_putAll id es (.map []) ⟨[], rfl⟩ with ⟨_, h2⟩ | ⟨m, hm, h1, h2⟩
  · have e1 := (h (.held (.bool true))).symm.trans (h2 (.held (.bool true)))
    have e2 := (h (.held (.bool false))).symm.trans (h2 (.held (.bool false)))
    have e3 : (DataW.map [] : DataW Value).atKey (.int .i64 id) (.held (.bool true)) = .held (.bool true) := rfl
    have e4 : (DataW.map [] : DataW Value).atKey (.int .i64 id) (.held (.bool false)) = .held (.bool false) := rfl
    rw [e3] at e1
    rw [e4] at e2
    have := e1.symm.trans e2
    simp at this
  · refine ⟨m, hm, h1, ?_⟩
    have := (h (.held c)).symm.trans (h2 (.held c))
    simpa using this
theorem wpList_next_ev {w : World} {ops : Array Oper} {rest : List Oper} {o : Oper} {a : Act} {Q : Exit → Act → World → Prop} (hg : o.guard = none) (it : Operand) (hop : o.op = Op.next it false) (b r n : Nat) (es : List Em) (left : Lit → Bool) (cnt : Nat)
    (hit : a.eval it = .pointer (some ⟨r, 0, none⟩)) (h : w.ranges Tryz.prog 2 heldR b r n (putAll es) left cnt)
    (hDone : cnt = 0 → (∀ kl, left kl = false) → wpList Tryz.prog ops Q rest (a.put o.dst (.tuple #[.bool false])) w)
    (hMore : ∀ (m : Em) (w' : World) (cnt' : Nat), m ∈ es → left (.int .i64 m.v.id) = true → w'.ranges Tryz.prog 2 heldR b r n (putAll es) (fun z => left z && !z.sameKey (.int .i64 m.v.id)) cnt' → cnt' < cnt → w.grownBy w' (some r) → w'.heap.size = w.heap.size →
      (Instr.entry (.pointer (some ⟨r, 0, none⟩))).run Tryz.prog w' = .ok (.tuple #[.int .i64 m.v.id, emVal m]) w' → wpList Tryz.prog ops Q rest (a.put o.dst (.tuple #[.bool true, .int .i64 m.v.id, emVal m])) w') :
    wpList Tryz.prog ops Q (o :: rest) a w :=
  wpList_next_ranges w hg it hop 2 (Maps.int_keyed (P := Tryz.prog) Tryz.underlying2) heldR (Value.int .i64) id (fun key kl hkey => by
      obtain ⟨x, rfl, _⟩ := Maps.keyOf_int_inv Tryz.underlying2 hkey
      exact ⟨x, rfl⟩) (fun v _ _ => ⟨v, rfl⟩) b r n (putAll es) left cnt hit h hDone (fun x c kl y w' cnt' hkey hlk hv hat hrg hlt hgr hsz hen => by
    obtain ⟨x', ex, rfl, _⟩ := Maps.keyOf_int_inv Tryz.underlying2 hkey
    cases ex
    have hy : y.1 = .held c := by
      have h1 : heldR c = some y := hv
      unfold heldR at h1
      cases h1
      rfl
    rw [hy] at hat
    obtain ⟨m, hm, rfl, rfl⟩ := putAll_at hat
    exact hMore m w' cnt' hm hlk hrg hlt hgr hsz hen)
end Go.Proofs.YtdldblfopcbfeaaGreatDoor
