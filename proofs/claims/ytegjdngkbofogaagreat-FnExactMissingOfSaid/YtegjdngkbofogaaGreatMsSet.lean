/- l03Set of the specification. -/
import Derived.Test.YtegjdngkbofogaaGreatMsPlain
import Derived.Test.YtegjdngkbofogaaGreatEvCopyS
import Derived.Deep.RegionHeld3
namespace Go.Proofs.YtegjdngkbofogaaGreat
open Go.RowKit

/-- A row of numbers of one's own. -/
def NumsOwn (w : World) (base : Nat) (v : Value) (zs : List Int) : Prop := w.ownsRow base 2 1 v zs.length (nv zs)
theorem NumsOwn.at {w : World} {base : Nat} {v : Value} {zs : List Int} (h : NumsOwn w base v zs) (hl : zs.length ≤ 1048576) : ∃ a c, v = .slice a zs.length c ∧ zs.length ≤ c ∧ NumsAt w a zs ∧ ((a = none ∧ c = 0) ∨ ∃ g, a = some ⟨g, 0, none⟩ ∧ base ≤ g) := by
  rcases h.2 with ⟨rfl, h0⟩ | ⟨g, cap, cur, rfl, hb, hg, hle, _, hsz, ht⟩
  · exact ⟨none, 0, by rw [h0], by omega, ⟨hl, fun hp => absurd h0 (by omega)⟩, .inl ⟨rfl, rfl⟩⟩
  · refine ⟨_, cap, rfl, hle, ⟨hl, fun hp => ⟨g, 0, rfl, (Array.getElem?_eq_some_iff.1 hg).1, fun j hj => ?_⟩⟩, .inr ⟨g, rfl, hb⟩⟩
    have h1 : (cur.toList.take (zs.length * 1))[j]? = (nv zs)[j]? := by rw [ht]
    rw [List.getElem?_take_of_lt (by omega)] at h1
    rw [cell_of_heap hg, Nat.zero_add, ← Array.getElem?_toList, h1]
    simp [nv, hj]
theorem NumsOwn.kept {w w' : World} {base : Nat} {v : Value} {zs : List Int} (h : NumsOwn w base v zs) (hb : Below w.heap.size w w') : NumsOwn w' base v zs := by
  refine ⟨h.1, ?_⟩
  rcases h.2 with h0 | ⟨g, cap, cur, h1, h2, h3, r⟩
  · exact .inl h0
  · exact .inr ⟨g, cap, cur, h1, h2, (hb.block g (Array.getElem?_eq_some_iff.1 h3).1).trans h3, r⟩
theorem NumsOwn.below {w w' : World} {base : Nat} {v : Value} {zs : List Int} (h : NumsOwn w base v zs) (hg : w.grownBy w' v.ownBlock) (hbase : base ≤ w.heap.size) : Below base w w' := by
  refine ⟨hg.os, hg.tape, hg.output, hg.size, fun k hk => hg.block k (by omega) ?_⟩
  rcases h.2 with ⟨rfl, _⟩ | ⟨g, cap, cur, rfl, hb, _⟩
  · exact fun e => by cases e
  · intro e
    have e2 : k = g := by simpa [Value.ownBlock] using e
    omega
theorem NumsOwn.nil (w : World) (base : Nat) : NumsOwn w base (.slice none 0 0) [] := ⟨rfl, .inl ⟨rfl, rfl⟩⟩
theorem NumsOwn.made (w : World) {base : Nat} (hb : base ≤ w.heap.size) : NumsOwn (w.alloc (.cells #[] 2)) base (.slice (some ⟨w.heap.size, 0, none⟩) 0 0) [] :=
  ⟨rfl, .inr ⟨w.heap.size, 0, #[], rfl, hb, (MapKept.heap_alloc w _).1, Nat.le_refl _, by unfold maxLen; omega, rfl, rfl⟩⟩
theorem wpList_append_ns {w : World} {ops : Array Oper} {rest : List Oper} {o : Oper} {a : Act} {Q : Exit → Act → World → Prop} (hgd : o.guard = none) (s x : Operand) (t : TypeId)
    (ho : o.op = .call { callee := .builtin .append, args := #[s, x], argTypes := #[t, t] })
    (i : TypeInfo) (z : Value) (ht : Tryz.prog.underlying t = some (.slice 2)) (hi : Tryz.prog.info? 2 = some i) (hz : i.zero = some z)
    (hsize : i.size = 1) (hby : i.bytes = 8) (hzs : z.cells.size = 1)
    (base : Nat) (v : Value) (xs : List Int) (hs : a.eval s = v) (hown : NumsOwn w base v xs)
    (p : Option Addr) (cap : Nat) (ys : List Int) (hn : NumsAt w p ys) (hx : a.eval x = .slice p ys.length cap)
    (hb : xs.length + ys.length ≤ 1000000) (hbase : base ≤ w.heap.size)
    (h : ∀ v' w', NumsOwn w' base v' (xs ++ ys) → Below base w w' → wpList Tryz.prog ops Q rest (a.put o.dst v') w') : wpList Tryz.prog ops Q (o :: rest) a w :=
  wpList_append_numsC hgd s x t ho base _ i z 8 ht hi hz hsize hby hzs v xs.length (nv xs) hs hown p cap ys hn hx (by unfold maxLen; omega) (by omega) hbase (fun v' w' h1 h2 => h v' w' (by unfold NumsOwn; rw [List.length_append]; simpa [nv] using h1) (hown.below h2 hbase))
theorem numsAt_one {w : World} {b : Nat} {n : Int} {t : TypeId} (h : w.heap[b]? = some (.cells #[.int .i64 n] t (0, 0))) : NumsAt w (some ⟨b, 0, none⟩) [n] := by
  refine ⟨by simp, fun _ => ⟨b, 0, rfl, (Array.getElem?_eq_some_iff.1 h).1, fun j hj => ?_⟩⟩
  obtain rfl : j = 0 := by simpa using hj
  rw [cell_of_heap h]
  rfl
theorem NumsAt.take {w : World} {a : Option Addr} {zs : List Int} (h : NumsAt w a zs) (k : Nat) : NumsAt w a (zs.take k) := by
  refine ⟨Nat.le_trans (List.length_take_le' k zs) h.1, fun hp => ?_⟩
  rw [List.length_take] at hp
  obtain ⟨b, off, ha, hb, hc⟩ := h.2 (by omega)
  refine ⟨b, off, ha, hb, fun j hj => ?_⟩
  rw [List.length_take] at hj
  rw [List.getElem_take]
  exact hc j (by omega)
theorem NumsAt.drop {w : World} {b off : Nat} {zs : List Int} (h : NumsAt w (some ⟨b, off, none⟩) zs) (k : Nat) : NumsAt w (some ⟨b, off + k, none⟩) (zs.drop k) := by
  refine ⟨Nat.le_trans (by simp) h.1, fun hp => ?_⟩
  rw [List.length_drop] at hp
  obtain ⟨b', off', ha, hb, hc⟩ := h.2 (by omega)
  cases ha
  refine ⟨b, off + k, rfl, hb, fun j hj => ?_⟩
  rw [List.length_drop] at hj
  rw [List.getElem_drop, Nat.add_assoc]
  exact hc (k + j) (by omega)
theorem NumsAt.empty {w : World} (p : Option Addr) : NumsAt w p [] := ⟨by simp, fun h => absurd h (Nat.lt_irrefl 0)⟩
end Go.Proofs.YtegjdngkbofogaaGreat
