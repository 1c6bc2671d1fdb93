/- The law on EventAt walked. -/
import Derived.Test.YtegjdngkbofogaaGreatGrAt2
import Derived.Test.YtegjdngkbofogaaGreatMark4
import Derived.Test.YtegjdngkbofogaaGreatEvMark0
import Derived.Deep.DeepCutAuto
namespace Go.Proofs.YtegjdngkbofogaaGreat
open Go.RowKit

/-- What the law's four boxes hold. -/
structure LA (w : World) (g : Gr) (a : Option Addr) (cap : Nat) (p : Option Addr) (cp : Nat) (v : Ev) (B6 B7 B8 : Nat) (q3 : Option Addr) (c3 : Nat) (a4 p4 q5 : Option Addr) (c5 : Nat) (V : World) : Prop where
  b0 : V.heap[w.heap.size]? = some (.cells #[.int .i64 g.room, .slice a g.evs.length cap, .slice p g.pk.length cp] 24 (0, 0))
  b6 : V.heap[B6]? = some (.cells #[.int .i64 v.id, .int .i64 v.room, .int .i64 v.author, .int .i64 v.kind, .int .i64 v.key, .int .i64 v.n, .string v.text, .slice q3 v.prev.length c3, .int .i64 v.time] 28 (0, 0))
  b7 : V.heap[B7]? = some (.cells #[.int .i64 g.room, .slice a4 g.evs.length g.evs.length, .slice p4 g.pk.length g.pk.length] 32 (0, 0))
  b8 : V.heap[B8]? = some (.cells #[.int .i64 v.id, .int .i64 v.room, .int .i64 v.author, .int .i64 v.kind, .int .i64 v.key, .int .i64 v.n, .string v.text, .slice q5 v.prev.length c5, .int .i64 v.time] 28 (0, 0))
  n3 : NumsAt V q3 v.prev
  u3 : 0 < v.prev.length → ∀ x, q3 = some x → x.block < B6
  below : Below w.heap.size w V
theorem LA.on {w : World} {g : Gr} {a : Option Addr} {cap : Nat} {p : Option Addr} {cp : Nat} {v : Ev} {B6 B7 B8 : Nat} {q3 : Option Addr} {c3 : Nat} {a4 p4 q5 : Option Addr} {c5 : Nat} {V V' : World} (h : LA w g a cap p cp v B6 B7 B8 q3 c3 a4 p4 q5 c5 V) (hb : Below V.heap.size V V') : LA w g a cap p cp v B6 B7 B8 q3 c3 a4 p4 q5 c5 V' :=
  ⟨(hb.block _ (Array.getElem?_eq_some_iff.1 h.b0).1).trans h.b0, (hb.block _ (Array.getElem?_eq_some_iff.1 h.b6).1).trans h.b6, (hb.block _ (Array.getElem?_eq_some_iff.1 h.b7).1).trans h.b7, (hb.block _ (Array.getElem?_eq_some_iff.1 h.b8).1).trans h.b8, h.n3.kept hb, h.u3, h.below.trans (hb.mono h.below.size)⟩
/-- Kept where none of these blocks is written. -/
theorem LA.far {w : World} {g : Gr} {a : Option Addr} {cap : Nat} {p : Option Addr} {cp : Nat} {v : Ev} {B6 B7 B8 : Nat} {q3 : Option Addr} {c3 : Nat} {a4 p4 q5 : Option Addr} {c5 : Nat} {V V' : World} (h : LA w g a cap p cp v B6 B7 B8 q3 c3 a4 p4 q5 c5 V) {lo hi : Nat} (hw : Wr lo hi V V') (h0 : w.heap.size ≤ B6) (h6 : B6 < lo) (h7 : hi ≤ B7) (h8 : hi ≤ B8) : LA w g a cap p cp v B6 B7 B8 q3 c3 a4 p4 q5 c5 V' := by
  have blk : ∀ b o, V.heap[b]? = some o → (b < lo ∨ hi ≤ b) → V'.heap[b]? = some o := fun b o hb hr => (hw.block b (Array.getElem?_eq_some_iff.1 hb).1 hr).trans hb
  refine ⟨blk _ _ h.b0 (by omega), blk _ _ h.b6 (by omega), blk _ _ h.b7 (by omega), blk _ _ h.b8 (by omega), ⟨h.n3.1, fun hp => ?_⟩, h.u3, ⟨hw.os.trans h.below.os, hw.tape.trans h.below.tape, hw.output.trans h.below.output, Nat.le_trans h.below.size hw.size, fun b hb => ?_⟩⟩
  · obtain ⟨b, off, hq, hb, hc⟩ := h.n3.2 hp
    have hbl := h.u3 hp _ hq
    simp at hbl
    exact ⟨b, off, hq, Nat.lt_of_lt_of_le hb hw.size, fun j hj => (hw.cell (b := b) (q := off + j) hb (by omega)).trans (hc j hj)⟩
  · exact (hw.block b (Nat.lt_of_lt_of_le hb h.below.size) (by omega)).trans (h.below.block b hb)
theorem evG_short (g : Gr) (id : Int) : (evG g id).prev.length ≤ 4 ∧ (evG g id).prev.length ≤ 1048576 := by
  have key : (evG g id).prev.length ≤ 4 := by
    cases hr : rightG g
    · rw [evG_bad hr]; decide
    · rw [evG_good hr]
      by_cases hi : id ∈ idsOf g.evs
      · obtain ⟨m, hm, rfl⟩ := List.mem_map.1 hi
        rw [evIn_some (right_nodup hr) hm]
        have h1 := (rowB_each (right_row hr) hm).1
        unfold rightB prevB at h1
        simp only [Bool.and_eq_true] at h1
        exact of_decide_eq_true h1.1.2.1.1
      · rw [evIn_none hi]; decide
  exact ⟨key, by omega⟩
end Go.Proofs.YtegjdngkbofogaaGreat
