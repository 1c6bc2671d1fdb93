/- The law on StatePut walked. -/
import Derived.Test.YtkjcghejpdbeiaaSuMark
import Derived.Test.YtkjcghejpdbeiaaStOpen
import Derived.Deep.DeepCutAuto
namespace Go.Proofs.Ytkjcghejpdbeiaa
open Go.RowKit

/-- The law's own variable of an entry. -/
structure BX (w : World) (x : En) (W : World) : Prop where
  below : Below w.heap.size w W
  box : W.heap[w.heap.size]? = some (.cells #[.int .i64 x.kind, .int .i64 x.key, .int .i64 x.id] 35 (0, 0))
theorem BX.start (w : World) (x : En) : BX w x (w.alloc (.cells #[.int .i64 x.kind, .int .i64 x.key, .int .i64 x.id] 35)) := ⟨(Below.refl _ _).alloc (Nat.le_refl _) _, (MapKept.heap_alloc w _).1⟩
theorem BX.lt {w : World} {x : En} {W : World} (h : BX w x W) : w.heap.size < W.heap.size := (Array.getElem?_eq_some_iff.1 h.box).1
theorem BX.on {w : World} {x : En} {W W' : World} (h : BX w x W) (hb : Below W.heap.size W W') : BX w x W' := ⟨h.below.trans (hb.mono h.below.size), (hb.block _ h.lt).trans h.box⟩
theorem BX.drew {w : World} {x : En} {W : World} (h : BX w x W) : BX w x W.drew := ⟨h.below.drew, h.box⟩
theorem BX.setCell {w : World} {x : En} {W : World} (h : BX w x W) {b o : Nat} {u : Value} (hb : w.heap.size < b) : BX w x (W.setCell ⟨b, o, none⟩ u) :=
  ⟨h.below.setCell (Nat.le_of_lt hb) _, (heap_setCell_other W ⟨b, o, none⟩ w.heap.size u (by show w.heap.size ≠ b; omega)).trans h.box⟩
theorem BX.only {w : World} {x : En} {W W' : World} {b : Nat} (h : BX w x W) (ho : OnlyB b W W') (hb : w.heap.size < b) : BX w x W' := ⟨h.below.trans (ho.below (Nat.le_of_lt hb)), (ho.block _ (by omega)).trans h.box⟩
/-- An outcome in a variable of its own, all of it new. -/
structure OutAt (W0 : World) (L : List En) (c : Int) (B : Nat) (a : Option Addr) (k : Nat) (V : World) : Prop where
  below : Below W0.heap.size W0 V
  box : V.heap[B]? = some (.cells #[.slice a L.length k, .int .i64 c] 39 (0, 0))
  own : EnsOwn V W0.heap.size (.slice a L.length k) L
  lo : W0.heap.size ≤ B
theorem EnsOwn.setOther {w : World} {base b o : Nat} {v u : Value} {xs : List En} (h : EnsOwn w base v xs) (hb : v.ownBlock ≠ some b) : EnsOwn (w.setCell ⟨b, o, none⟩ u) base v xs := by
  refine ⟨h.1, ?_⟩
  rcases h.2 with h0 | ⟨g, cap, cur, h1, h2, h3, r⟩
  · exact .inl h0
  · refine .inr ⟨g, cap, cur, h1, h2, (heap_setCell_other w ⟨b, o, none⟩ g u (fun e => hb ?_)).trans h3, r⟩
    rw [h1, ← show g = b from e]
    rfl
theorem EnsOwn.not_out {w : World} {base b : Nat} {v : Value} {xs : List En} {cs : Array Value} {f : Nat × Nat} (h : EnsOwn w base v xs) (hb : w.heap[b]? = some (.cells cs 39 f)) : v.ownBlock ≠ some b := by
  rcases h.2 with ⟨rfl, _⟩ | ⟨g, cap, cur, rfl, _, h3, _⟩
  · exact fun e => by cases e
  · intro e
    have e2 : g = b := by simpa [Value.ownBlock] using e
    rw [e2, hb] at h3
    simp at h3
theorem EnsOwn.lt {w : World} {base : Nat} {v : Value} {xs : List En} (h : EnsOwn w base v xs) : ∀ g, v.ownBlock = some g → base ≤ g ∧ g < w.heap.size := by
  intro g hg
  rcases h.2 with ⟨rfl, _⟩ | ⟨q, cap, cur, rfl, h2, h3, _⟩
  · cases hg
  · have e2 : q = g := by simpa [Value.ownBlock] using hg
    subst e2
    exact ⟨h2, (Array.getElem?_eq_some_iff.1 h3).1⟩
theorem EnsOwn.ensAt {w : World} {base n k : Nat} {a : Option Addr} {xs : List En} (h : EnsOwn w base (.slice a n k) xs) (hl : xs.length ≤ 1048576) : EnsAt w a xs := by
  obtain ⟨a', c', e, _, h1, _⟩ := h.at hl
  cases e
  exact h1
theorem out_leaf {W0 W : World} {L : List En} {c : Int} {B : Nat} {a : Option Addr} {k : Nat} (hb : Below W0.heap.size W0 W) (hB : W.heap[B]? = some (.cells #[.slice none 0 0, .int .i64 0] 39 (0, 0))) (ho : EnsOwn W W0.heap.size (.slice a L.length k) L) (hlo : W0.heap.size ≤ B) :
    OutAt W0 L c B a k ((W.setCell ⟨B, 0, none⟩ (.slice a L.length k)).setCell ⟨B, 1, none⟩ (.int .i64 c)) := by
  have hne := ho.not_out hB
  refine ⟨(hb.setCell hlo _).setCell hlo _, ?_, (ho.setOther hne).setOther hne, hlo⟩
  have := heap_set (i := 1) (heap_set (i := 0) hB (.slice a L.length k)) (.int .i64 c)
  simpa using this
theorem out_last {W0 W : World} {L : List En} {c : Int} {a : Option Addr} {k : Nat} (hb : Below W0.heap.size W0 W) (ho : EnsOwn W W0.heap.size (.slice a L.length k) L) :
    OutAt W0 L c W.heap.size a k (W.alloc (.cells #[.slice a L.length k, .int .i64 c] 39)) :=
  ⟨hb.alloc hb.size _, (MapKept.heap_alloc W _).1, ho.kept ((Below.refl _ _).alloc (Nat.le_refl _) _), hb.size⟩
theorem spL_length (xs : List En) (x : En) (h : xs.length ≤ 1048576) : (spL xs x).length ≤ 1048576 := by
  by_cases c : 400 < xs.length
  · rw [(sp_big (x := x) c).2]
    simp
  · by_cases c2 : rowE false xs = true ∧ entB false x = true
    · rw [(sp_ok c c2.1 c2.2).2]
      have := putE_length xs x
      omega
    · rw [(sp_bad c c2).2]
      simp
/-- What the law holds behind its first three calls. -/
structure LP (w : World) (x : En) (L : List En) (c : Int) (B6 : Nat) (a6 : Option Addr) (c6 : Nat) (B8 : Nat) (a8 : Option Addr) (c8 : Nat) (V : World) : Prop where
  bx : BX w x V
  b6 : V.heap[B6]? = some (.cells #[.slice a6 L.length c6, .int .i64 c] 39 (0, 0))
  o6 : EnsOwn V 0 (.slice a6 L.length c6) L
  b8 : V.heap[B8]? = some (.cells #[.slice a8 L.length c8, .int .i64 c] 39 (0, 0))
theorem LP.on {w : World} {x : En} {L : List En} {c : Int} {B6 : Nat} {a6 : Option Addr} {c6 : Nat} {B8 : Nat} {a8 : Option Addr} {c8 : Nat} {V V' : World} (h : LP w x L c B6 a6 c6 B8 a8 c8 V) (hb : Below V.heap.size V V') : LP w x L c B6 a6 c6 B8 a8 c8 V' :=
  ⟨h.bx.on hb, (hb.block _ (Array.getElem?_eq_some_iff.1 h.b6).1).trans h.b6, h.o6.kept hb, (hb.block _ (Array.getElem?_eq_some_iff.1 h.b8).1).trans h.b8⟩
theorem LP.only {w : World} {x : En} {L : List En} {c : Int} {B6 : Nat} {a6 : Option Addr} {c6 : Nat} {B8 : Nat} {a8 : Option Addr} {c8 : Nat} {V V' : World} (h : LP w x L c B6 a6 c6 B8 a8 c8 V) {b : Nat} (ho : OnlyB b V V') (h0 : w.heap.size < b) (h6 : B6 ≠ b) (h8 : B8 ≠ b) (h7 : (Value.slice a6 L.length c6).ownBlock ≠ some b) : LP w x L c B6 a6 c6 B8 a8 c8 V' :=
  ⟨h.bx.only ho h0, (ho.block _ h6).trans h.b6, ho.ens h.o6 h7, (ho.block _ h8).trans h.b8⟩
end Go.Proofs.Ytkjcghejpdbeiaa
